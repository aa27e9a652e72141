/-
  What Same of packet answers: whether two packets are one. Conditions: the packets read as data; lengths fit an int.
-/
import Derived.Test.YtomlideijhejfaaGreatDoorSamP
namespace Go.Proofs.YtomlideijhejfaaGreatDoor
open Go.RowKit

theorem get_opsR (l : List Oper) (i : Nat) (o : Oper) (h : l[i]? = some o) : l.toArray[i]? = some o := by rw [List.getElem?_toArray]; exact h
theorem tkA {P : Program} {md : Region.Mode} {ops : Array Oper} {Q : Exit → Act → World → Prop} {S : World → Prop} {i : Nat} {oi : Oper} {v : Value} {fuel : Nat} {listed : Array Bool} {a a' : Act} {w : World} (hi : ops[i]? = some oi := by exact get_opsR _ _ _ rfl)
    (hs : Region.noSelect ops = true := by kernel_rfl) (hf : Region.free md ops listed i = true := by kernel_rfl) (hr : (Region.ready md ops listed).contains i = true := by kernel_rfl)
    (hQ : ∀ c a w, Q (.panic c) (a.put oi.dst v) w → Q (.panic c) a w := by exact (fun _ _ _ h => h)) (y : YieldsIf P ops S oi v a) (s : S w)
    (ha : a.put oi.dst v = a' := by ((try simp only [Act.put, List.setIfInBounds_toArray, List.set_cons_zero, List.set_cons_succ]); exact rfl))
    (h : wpAnyH P md ops Q S fuel (listed.setIfInBounds i true) a' w) : wpAnyH P md ops Q S (fuel + 1) listed a w :=
  wpAnyH_take hi hs hf hr hQ y s (by rw [ha]; exact h)

theorem info33 : (Tryz.prog.info? 33).map (·.size) = some 34 := by kernel_rfl
theorem info26 : (Tryz.prog.info? 27).map (·.size) = some 9 := by kernel_rfl
theorem info28 : (Tryz.prog.info? 29).map (·.size) = some 11 := by kernel_rfl
/-- a will's cells -/
def wlC (p : Pkt) (a : PA) : List Value := [.bool p.wset, .int .i64 p.wdelay, .string p.wmsg.topic, .string p.wmsg.payload, .int .i64 p.wmsg.level, .bool p.wmsg.retain, .int .i64 p.wmsg.prio, .int .i64 p.wmsg.exps, .string p.wmsg.frm, .int .i64 p.wmsg.seq, .slice a.v p.wmsg.props.length a.vc]
def wlV (p : Pkt) (a : PA) : Value := .agg (wlC p a).toArray
/-- lengths that fit an int -/
structure PSz (p : Pkt) : Prop where
  m : p.msg.props.length ≤ 9223372036854775806
  v : p.wmsg.props.length ≤ 9223372036854775806
  s : p.subs.length ≤ 9223372036854775806
  f : p.filters.length ≤ 9223372036854775806
  c : p.codes.length ≤ 9223372036854775806
def plainEq (p q : Pkt) : Bool := decide (p.kind = q.kind ∧ p.id = q.id ∧ p.dup = q.dup ∧ p.client = q.client ∧ p.user = q.user ∧ p.clean = q.clean ∧ p.keep = q.keep ∧ p.expiry = q.expiry ∧ p.window = q.window ∧ p.wset = q.wset ∧ p.wdelay = q.wdelay ∧ p.present = q.present ∧ p.code = q.code)
theorem eqPlain (p q : Pkt) (w : World) : Sem.run Tryz.prog (binOp .eql 93 (.agg (plC p).toArray) (.agg (plC q).toArray)) w = .ok (.bool (plainEq p q)) w := eqPl _ _ _ _ _ _ _ _ _ _ _ _ _ _ _ _ _ _ _ _ _ _ _ _ _ _ w
theorem sameP_parts (p q : Pkt) : sameP p q = (plainEq p q && sameM p.msg q.msg && sameM p.wmsg q.wmsg && decide (p.subs = q.subs) && decide (p.filters = q.filters) && decide (p.codes = q.codes)) := by
  unfold sameP plainEq sameM
  rw [Bool.eq_iff_iff]
  simp only [Bool.and_eq_true, decide_eq_true_eq]
  constructor
  · rintro rfl; simp
  · intro h
    cases p; cases q
    simp only [Pkt.mk.injEq] at h ⊢
    simp_all
set_option maxRecDepth 50000 in
set_option maxHeartbeats 16000000 in
theorem sameP_any (p q : Pkt) (a b : PA) (w : World) (ha : PIn w p a) (hb : PIn w q b) (hz : PSz p) (_hy : PSz q) :
    Calls Tryz.prog 41 #[pkV p a, pkV q b] w fun e w' => e = .returned (.bool (sameP p q)) ∧ Below w.heap.size w w' := by
  have C0 := Lib.hid (fun w => plainOf_any p a w)
  have C0' := Lib.hid (fun w => plainOf_any q b w)
  have C1 : Hid (∀ w, PIn w p a → PIn w q b → Calls Tryz.prog 70 #[msgV p.msg a.m a.mc, msgV q.msg b.m b.mc] w fun e w' => e = .returned (.bool (sameM p.msg q.msg)) ∧ Below w.heap.size w w') := Lib.hid (fun w h h' => same_any p.msg q.msg a.m b.m a.mc b.mc w h.m h'.m hz.m)
  have C2 : Hid (∀ w, PIn w p a → PIn w q b → Calls Tryz.prog 70 #[msgV p.wmsg a.v a.vc, msgV q.wmsg b.v b.vc] w fun e w' => e = .returned (.bool (sameM p.wmsg q.wmsg)) ∧ Below w.heap.size w w') := Lib.hid (fun w h h' => same_any p.wmsg q.wmsg a.v b.v a.vc b.vc w h.v h'.v hz.v)
  have C3 : Hid (∀ w, PIn w p a → PIn w q b → Calls Tryz.prog 71 #[.slice a.s p.subs.length a.sc, .slice b.s q.subs.length b.sc] w fun e w' => e = .returned (.bool (decide (p.subs = q.subs))) ∧ Below w.heap.size w w') := Lib.hid (fun w h h' => equalS_any a.s b.s a.sc b.sc p.subs q.subs w h.s h'.s hz.s)
  have C4 : Hid (∀ w, PIn w p a → PIn w q b → Calls Tryz.prog 72 #[.slice a.f p.filters.length a.fc, .slice b.f q.filters.length b.fc] w fun e w' => e = .returned (.bool (decide (p.filters = q.filters))) ∧ Below w.heap.size w w') := Lib.hid (fun w h h' => equalT_any a.f b.f a.fc b.fc p.filters q.filters w h.f h'.f hz.f)
  have C5 : Hid (∀ w, PIn w p a → PIn w q b → Calls Tryz.prog 73 #[.slice a.c p.codes.length a.cc, .slice b.c q.codes.length b.cc] w fun e w' => e = .returned (.bool (decide (p.codes = q.codes))) ∧ Below w.heap.size w w') := Lib.hid (fun w h h' => equalI_any a.c b.c a.cc b.cc p.codes q.codes w h.c h'.c hz.c)
  have HE := Lib.hid (fun w => eqPlain p q w)
  have HR := sameP_parts p q
  generalize sameP p q = r at HR ⊢
  generalize plainEq p q = x0 at HE HR
  generalize sameM p.msg q.msg = x1 at C1 HR
  generalize sameM p.wmsg q.wmsg = x2 at C2 HR
  generalize decide (p.subs = q.subs) = x3 at C3 HR
  generalize decide (p.filters = q.filters) = x4 at C4 HR
  generalize decide (p.codes = q.codes) = x5 at C5 HR
  unfold pkV at C0 C0' ⊢
  obtain ⟨w1, hw1⟩ : ∃ w1, w1 = (w.alloc (.cells (pkC p a).toArray 33)).alloc (.cells (pkC q b).toArray 33) := ⟨_, rfl⟩
  have hb0 : Below w.heap.size w (w.alloc (.cells (pkC p a).toArray 33)) := (Below.refl _ _).alloc (Nat.le_refl _) _
  have hb1 : Below w.heap.size w w1 := by rw [hw1]; exact hb0.alloc (by simp) _
  have HBw1 := Lib.hid hb1
  have HPw1 := Lib.hid (ha.step hb1)
  have HOw1 := Lib.hid (hb.step hb1)
  have HQw1 : Hid (MT 33 w1 w.heap.size (pkC p a)) := Lib.hid (by rw [hw1]; exact (MT.new w _ _).alloc _)
  have HXw1 : Hid (MT 33 w1 (w.heap.size + 1) (pkC q b)) := Lib.hid (by rw [hw1]; have := MT.new (w.alloc (.cells (pkC p a).toArray 33)) 33 (pkC q b); rw [show (w.alloc (.cells (pkC p a).toArray 33)).heap.size = w.heap.size + 1 by simp] at this; exact this)
  have HW1 := Lib.hid hw1
  clear ha hb hz _hy hb0 hb1 hw1
  cases x0
  case false =>
    replace HR : r = false := by rw [HR]; simp
    clear C1 C2 C3 C4 C5
    go_enter Tryz.func41, Tryz.ntmps41
    go_upto_region 1 with fail
    rw [← HW1.out]
    obtain ⟨v1, hv1⟩ : ∃ v1, v1 = World.drew w1 := ⟨_, rfl⟩
    have hbD : Below w1.heap.size w1 v1 := by rw [hv1]; exact (Below.refl _ _).drew
    have HBv1 : Hid (Below w.heap.size w v1) := Lib.hid (stepB HBw1.out hbD)
    have HQv1 : Hid (MT 33 v1 w.heap.size (pkC p a)) := Lib.hid (MT.step HQw1.out hbD)
    have HXv1 : Hid (MT 33 v1 (w.heap.size + 1) (pkC q b)) := Lib.hid (MT.step HXw1.out hbD)
    have HPv1 : Hid (PIn v1 p a) := Lib.hid (PIn.step HPw1.out hbD)
    have HOv1 : Hid (PIn v1 q b) := Lib.hid (PIn.step HOw1.out hbD)
    clear HBw1 HQw1 HXw1 HPw1 HOw1
    have hbd : (fun w' => MT 33 w' w.heap.size (pkC p a) ∧ MT 33 w' (w.heap.size + 1) (pkC q b)) (World.drew w1) := by rw [← hv1]; exact ⟨HQv1.out, HXv1.out⟩
    have hSD : (fun w' => MT 33 w' w.heap.size (pkC p a) ∧ MT 33 w' (w.heap.size + 1) (pkC q b)) v1 := ⟨HQv1.out, HXv1.out⟩
    have HWD := Lib.hid hv1
    clear hv1 hbD
    refine wp_region_held_drew (S := fun w' => MT 33 w' w.heap.size (pkC p a) ∧ MT 33 w' (w.heap.size + 1) (pkC q b)) (by kernel_rfl) hbd (fun hHeld => ?_)
    rw [← HWD.out]
    clear hHeld
    have hHeld := hSD
    clear hSD hbd HWD
    refine tkA (i := 0) (v := .agg (pkC p a).toArray) (y := Or.inl ⟨by rfl, fun wS hSw => by (try dsimp only at hSw); exact exec_load 33 _ rfl ⟨w.heap.size, 0, none⟩ (by go_simp) _ (run_loadVar_row wS w.heap.size 33 33 _ (0, 0) _ hSw.1 Tryz.underlying33 rfl info33)⟩) (s := hHeld) (h := ?_)
    refine tkA (i := 2) (v := .agg (pkC q b).toArray) (y := Or.inl ⟨by rfl, fun wS hSw => by (try dsimp only at hSw); exact exec_load 33 _ rfl ⟨w.heap.size + 1, 0, none⟩ (by go_simp) _ (run_loadVar_row wS (w.heap.size + 1) 33 33 _ (0, 0) _ hSw.2 Tryz.underlying33 rfl info33)⟩) (s := hHeld) (h := ?_)
    refine wpAnyH_ready (rs := [1]) (by kernel_rfl) (by simp) ?_
    refine (AllReadyH.cons (get_ops _ _ _ rfl) (fun K hK => ?_) AllReadyH.nil)
    go_simp
    go_at_call 69
    refine (C0.out v1).mono ?_
    rintro e v2 ⟨rfl, hb⟩
    have HBv2 : Hid (Below w.heap.size w v2) := Lib.hid (stepB HBv1.out hb)
    have HQv2 : Hid (MT 33 v2 w.heap.size (pkC p a)) := Lib.hid (MT.step HQv1.out hb)
    have HXv2 : Hid (MT 33 v2 (w.heap.size + 1) (pkC q b)) := Lib.hid (MT.step HXv1.out hb)
    have HPv2 : Hid (PIn v2 p a) := Lib.hid (PIn.step HPv1.out hb)
    have HOv2 : Hid (PIn v2 q b) := Lib.hid (PIn.step HOv1.out hb)
    clear HBv1 HQv1 HXv1 HPv1 HOv1
    clear hHeld hb
    go_wp2_with fail
    refine hK.out _ _ ⟨HQv2.out, HXv2.out⟩ (fun hHeld => ?_)
    clear hK K
    try simp only [Act.put, List.setIfInBounds_toArray, List.set_cons_zero, List.set_cons_succ]
    refine wpAnyH_ready (rs := [3]) (by kernel_rfl) (by simp) ?_
    refine (AllReadyH.cons (get_ops _ _ _ rfl) (fun K hK => ?_) AllReadyH.nil)
    go_simp
    go_at_call 69
    refine (C0'.out v2).mono ?_
    rintro e v3 ⟨rfl, hb⟩
    have HBv3 : Hid (Below w.heap.size w v3) := Lib.hid (stepB HBv2.out hb)
    have HQv3 : Hid (MT 33 v3 w.heap.size (pkC p a)) := Lib.hid (MT.step HQv2.out hb)
    have HXv3 : Hid (MT 33 v3 (w.heap.size + 1) (pkC q b)) := Lib.hid (MT.step HXv2.out hb)
    have HPv3 : Hid (PIn v3 p a) := Lib.hid (PIn.step HPv2.out hb)
    have HOv3 : Hid (PIn v3 q b) := Lib.hid (PIn.step HOv2.out hb)
    clear HBv2 HQv2 HXv2 HPv2 HOv2
    clear hHeld hb
    go_wp2_with fail
    refine hK.out _ _ ⟨HQv3.out, HXv3.out⟩ (fun hHeld => ?_)
    clear hK K
    try simp only [Act.put, List.setIfInBounds_toArray, List.set_cons_zero, List.set_cons_succ]
    refine tkA (i := 4) (v := .bool false) (y := Or.inl ⟨by rfl, fun wS hSw => by (try dsimp only at hSw); exact exec_bin .eql _ _ _ _ rfl _ _ (by go_simp) (by go_simp) (run_eqGuard_agg wS _ _ _ _ _ _ (by kernel_rfl)) _ (HE.out wS)⟩) (s := hHeld) (h := ?_)
    refine tkA (i := 5) (v := .bool false) (y := Or.inl ⟨by rfl, fun wS hSw => by (try dsimp only at hSw); go_simp⟩) (s := hHeld) (h := ?_)
    refine tkA (i := 6) (v := undef) (y := Or.inr ⟨by rfl, rfl⟩) (s := hHeld) (h := ?_)
    refine tkA (i := 7) (v := undef) (y := Or.inr ⟨by rfl, rfl⟩) (s := hHeld) (h := ?_)
    refine tkA (i := 8) (v := undef) (y := Or.inr ⟨by rfl, rfl⟩) (s := hHeld) (h := ?_)
    refine tkA (i := 9) (v := undef) (y := Or.inr ⟨by rfl, rfl⟩) (s := hHeld) (h := ?_)
    refine tkA (i := 10) (v := undef) (y := Or.inr ⟨by rfl, rfl⟩) (s := hHeld) (h := ?_)
    refine tkA (i := 11) (v := .bool false) (y := Or.inl ⟨by rfl, fun wS hSw => by (try dsimp only at hSw); go_simp⟩) (s := hHeld) (h := ?_)
    refine tkA (i := 12) (v := .bool false) (y := Or.inl ⟨by rfl, fun wS hSw => by (try dsimp only at hSw); go_simp⟩) (s := hHeld) (h := ?_)
    refine tkA (i := 13) (v := undef) (y := Or.inr ⟨by rfl, rfl⟩) (s := hHeld) (h := ?_)
    refine tkA (i := 14) (v := undef) (y := Or.inr ⟨by rfl, rfl⟩) (s := hHeld) (h := ?_)
    refine tkA (i := 15) (v := undef) (y := Or.inr ⟨by rfl, rfl⟩) (s := hHeld) (h := ?_)
    refine tkA (i := 16) (v := undef) (y := Or.inr ⟨by rfl, rfl⟩) (s := hHeld) (h := ?_)
    refine tkA (i := 17) (v := undef) (y := Or.inr ⟨by rfl, rfl⟩) (s := hHeld) (h := ?_)
    refine tkA (i := 18) (v := undef) (y := Or.inr ⟨by rfl, rfl⟩) (s := hHeld) (h := ?_)
    refine tkA (i := 19) (v := undef) (y := Or.inr ⟨by rfl, rfl⟩) (s := hHeld) (h := ?_)
    refine tkA (i := 20) (v := .bool false) (y := Or.inl ⟨by rfl, fun wS hSw => by (try dsimp only at hSw); go_simp⟩) (s := hHeld) (h := ?_)
    refine tkA (i := 21) (v := .bool false) (y := Or.inl ⟨by rfl, fun wS hSw => by (try dsimp only at hSw); go_simp⟩) (s := hHeld) (h := ?_)
    refine tkA (i := 22) (v := undef) (y := Or.inr ⟨by rfl, rfl⟩) (s := hHeld) (h := ?_)
    refine tkA (i := 23) (v := undef) (y := Or.inr ⟨by rfl, rfl⟩) (s := hHeld) (h := ?_)
    refine tkA (i := 24) (v := undef) (y := Or.inr ⟨by rfl, rfl⟩) (s := hHeld) (h := ?_)
    refine tkA (i := 25) (v := undef) (y := Or.inr ⟨by rfl, rfl⟩) (s := hHeld) (h := ?_)
    refine tkA (i := 26) (v := undef) (y := Or.inr ⟨by rfl, rfl⟩) (s := hHeld) (h := ?_)
    refine tkA (i := 27) (v := .bool false) (y := Or.inl ⟨by rfl, fun wS hSw => by (try dsimp only at hSw); go_simp⟩) (s := hHeld) (h := ?_)
    refine tkA (i := 28) (v := .bool false) (y := Or.inl ⟨by rfl, fun wS hSw => by (try dsimp only at hSw); go_simp⟩) (s := hHeld) (h := ?_)
    refine tkA (i := 29) (v := undef) (y := Or.inr ⟨by rfl, rfl⟩) (s := hHeld) (h := ?_)
    refine tkA (i := 30) (v := undef) (y := Or.inr ⟨by rfl, rfl⟩) (s := hHeld) (h := ?_)
    refine tkA (i := 31) (v := undef) (y := Or.inr ⟨by rfl, rfl⟩) (s := hHeld) (h := ?_)
    refine tkA (i := 32) (v := undef) (y := Or.inr ⟨by rfl, rfl⟩) (s := hHeld) (h := ?_)
    refine tkA (i := 33) (v := undef) (y := Or.inr ⟨by rfl, rfl⟩) (s := hHeld) (h := ?_)
    refine tkA (i := 34) (v := .bool false) (y := Or.inl ⟨by rfl, fun wS hSw => by (try dsimp only at hSw); go_simp⟩) (s := hHeld) (h := ?_)
    refine tkA (i := 35) (v := .bool false) (y := Or.inl ⟨by rfl, fun wS hSw => by (try dsimp only at hSw); go_simp⟩) (s := hHeld) (h := ?_)
    refine tkA (i := 36) (v := undef) (y := Or.inr ⟨by rfl, rfl⟩) (s := hHeld) (h := ?_)
    refine tkA (i := 37) (v := undef) (y := Or.inr ⟨by rfl, rfl⟩) (s := hHeld) (h := ?_)
    refine tkA (i := 38) (v := undef) (y := Or.inr ⟨by rfl, rfl⟩) (s := hHeld) (h := ?_)
    refine tkA (i := 39) (v := undef) (y := Or.inr ⟨by rfl, rfl⟩) (s := hHeld) (h := ?_)
    refine tkA (i := 40) (v := undef) (y := Or.inr ⟨by rfl, rfl⟩) (s := hHeld) (h := ?_)
    refine tkA (i := 41) (v := .bool false) (y := Or.inl ⟨by rfl, fun wS hSw => by (try dsimp only at hSw); go_simp⟩) (s := hHeld) (h := ?_)
    refine tkA (i := 42) (v := .bool false) (y := Or.inl ⟨by rfl, fun wS hSw => by (try dsimp only at hSw); go_simp⟩) (s := hHeld) (h := ?_)
    refine wpAnyH_done (by kernel_rfl) ?_ _
    go_wp2
    go_ret
    exact ⟨retb HR.symm, HBv3.out⟩
  cases x1
  case false =>
    replace HR : r = false := by rw [HR]; simp
    clear C2 C3 C4 C5
    go_enter Tryz.func41, Tryz.ntmps41
    go_upto_region 1 with fail
    rw [← HW1.out]
    obtain ⟨v1, hv1⟩ : ∃ v1, v1 = World.drew w1 := ⟨_, rfl⟩
    have hbD : Below w1.heap.size w1 v1 := by rw [hv1]; exact (Below.refl _ _).drew
    have HBv1 : Hid (Below w.heap.size w v1) := Lib.hid (stepB HBw1.out hbD)
    have HQv1 : Hid (MT 33 v1 w.heap.size (pkC p a)) := Lib.hid (MT.step HQw1.out hbD)
    have HXv1 : Hid (MT 33 v1 (w.heap.size + 1) (pkC q b)) := Lib.hid (MT.step HXw1.out hbD)
    have HPv1 : Hid (PIn v1 p a) := Lib.hid (PIn.step HPw1.out hbD)
    have HOv1 : Hid (PIn v1 q b) := Lib.hid (PIn.step HOw1.out hbD)
    clear HBw1 HQw1 HXw1 HPw1 HOw1
    have hbd : (fun w' => MT 33 w' w.heap.size (pkC p a) ∧ MT 33 w' (w.heap.size + 1) (pkC q b)) (World.drew w1) := by rw [← hv1]; exact ⟨HQv1.out, HXv1.out⟩
    have hSD : (fun w' => MT 33 w' w.heap.size (pkC p a) ∧ MT 33 w' (w.heap.size + 1) (pkC q b)) v1 := ⟨HQv1.out, HXv1.out⟩
    have HWD := Lib.hid hv1
    clear hv1 hbD
    refine wp_region_held_drew (S := fun w' => MT 33 w' w.heap.size (pkC p a) ∧ MT 33 w' (w.heap.size + 1) (pkC q b)) (by kernel_rfl) hbd (fun hHeld => ?_)
    rw [← HWD.out]
    clear hHeld
    have hHeld := hSD
    clear hSD hbd HWD
    refine tkA (i := 0) (v := .agg (pkC p a).toArray) (y := Or.inl ⟨by rfl, fun wS hSw => by (try dsimp only at hSw); exact exec_load 33 _ rfl ⟨w.heap.size, 0, none⟩ (by go_simp) _ (run_loadVar_row wS w.heap.size 33 33 _ (0, 0) _ hSw.1 Tryz.underlying33 rfl info33)⟩) (s := hHeld) (h := ?_)
    refine tkA (i := 2) (v := .agg (pkC q b).toArray) (y := Or.inl ⟨by rfl, fun wS hSw => by (try dsimp only at hSw); exact exec_load 33 _ rfl ⟨w.heap.size + 1, 0, none⟩ (by go_simp) _ (run_loadVar_row wS (w.heap.size + 1) 33 33 _ (0, 0) _ hSw.2 Tryz.underlying33 rfl info33)⟩) (s := hHeld) (h := ?_)
    refine wpAnyH_ready (rs := [1]) (by kernel_rfl) (by simp) ?_
    refine (AllReadyH.cons (get_ops _ _ _ rfl) (fun K hK => ?_) AllReadyH.nil)
    go_simp
    go_at_call 69
    refine (C0.out v1).mono ?_
    rintro e v2 ⟨rfl, hb⟩
    have HBv2 : Hid (Below w.heap.size w v2) := Lib.hid (stepB HBv1.out hb)
    have HQv2 : Hid (MT 33 v2 w.heap.size (pkC p a)) := Lib.hid (MT.step HQv1.out hb)
    have HXv2 : Hid (MT 33 v2 (w.heap.size + 1) (pkC q b)) := Lib.hid (MT.step HXv1.out hb)
    have HPv2 : Hid (PIn v2 p a) := Lib.hid (PIn.step HPv1.out hb)
    have HOv2 : Hid (PIn v2 q b) := Lib.hid (PIn.step HOv1.out hb)
    clear HBv1 HQv1 HXv1 HPv1 HOv1
    clear hHeld hb
    go_wp2_with fail
    refine hK.out _ _ ⟨HQv2.out, HXv2.out⟩ (fun hHeld => ?_)
    clear hK K
    try simp only [Act.put, List.setIfInBounds_toArray, List.set_cons_zero, List.set_cons_succ]
    refine wpAnyH_ready (rs := [3]) (by kernel_rfl) (by simp) ?_
    refine (AllReadyH.cons (get_ops _ _ _ rfl) (fun K hK => ?_) AllReadyH.nil)
    go_simp
    go_at_call 69
    refine (C0'.out v2).mono ?_
    rintro e v3 ⟨rfl, hb⟩
    have HBv3 : Hid (Below w.heap.size w v3) := Lib.hid (stepB HBv2.out hb)
    have HQv3 : Hid (MT 33 v3 w.heap.size (pkC p a)) := Lib.hid (MT.step HQv2.out hb)
    have HXv3 : Hid (MT 33 v3 (w.heap.size + 1) (pkC q b)) := Lib.hid (MT.step HXv2.out hb)
    have HPv3 : Hid (PIn v3 p a) := Lib.hid (PIn.step HPv2.out hb)
    have HOv3 : Hid (PIn v3 q b) := Lib.hid (PIn.step HOv2.out hb)
    clear HBv2 HQv2 HXv2 HPv2 HOv2
    clear hHeld hb
    go_wp2_with fail
    refine hK.out _ _ ⟨HQv3.out, HXv3.out⟩ (fun hHeld => ?_)
    clear hK K
    try simp only [Act.put, List.setIfInBounds_toArray, List.set_cons_zero, List.set_cons_succ]
    refine tkA (i := 4) (v := .bool true) (y := Or.inl ⟨by rfl, fun wS hSw => by (try dsimp only at hSw); exact exec_bin .eql _ _ _ _ rfl _ _ (by go_simp) (by go_simp) (run_eqGuard_agg wS _ _ _ _ _ _ (by kernel_rfl)) _ (HE.out wS)⟩) (s := hHeld) (h := ?_)
    refine tkA (i := 5) (v := .bool true) (y := Or.inl ⟨by rfl, fun wS hSw => by (try dsimp only at hSw); go_simp⟩) (s := hHeld) (h := ?_)
    refine tkA (i := 6) (v := .pointer (some ⟨w.heap.size, 3, none⟩)) (y := Or.inl ⟨by rfl, fun wS hSw => by (try dsimp only at hSw); go_simp⟩) (s := hHeld) (h := ?_)
    refine tkA (i := 7) (v := msgV p.msg a.m a.mc) (y := Or.inl ⟨by rfl, fun wS hSw => by (try dsimp only at hSw); exact exec_load 27 _ rfl ⟨w.heap.size, 3, none⟩ (by go_simp) _ (run_load_part wS w.heap.size 3 9 33 27 _ (0, 0) _ hSw.1 Tryz.underlying27 rfl info26 (by rw [pkC_len]; decide))⟩) (s := hHeld) (h := ?_)
    refine tkA (i := 8) (v := .pointer (some ⟨w.heap.size + 1, 3, none⟩)) (y := Or.inl ⟨by rfl, fun wS hSw => by (try dsimp only at hSw); go_simp⟩) (s := hHeld) (h := ?_)
    refine tkA (i := 9) (v := msgV q.msg b.m b.mc) (y := Or.inl ⟨by rfl, fun wS hSw => by (try dsimp only at hSw); exact exec_load 27 _ rfl ⟨w.heap.size + 1, 3, none⟩ (by go_simp) _ (run_load_part wS (w.heap.size + 1) 3 9 33 27 _ (0, 0) _ hSw.2 Tryz.underlying27 rfl info26 (by rw [pkC_len]; decide))⟩) (s := hHeld) (h := ?_)
    refine wpAnyH_ready (rs := [10]) (by kernel_rfl) (by simp) ?_
    refine (AllReadyH.cons (get_ops _ _ _ rfl) (fun K hK => ?_) AllReadyH.nil)
    go_simp
    go_at_call 70
    refine (C1.out v3 HPv3.out HOv3.out).mono ?_
    rintro e v4 ⟨rfl, hb⟩
    have HBv4 : Hid (Below w.heap.size w v4) := Lib.hid (stepB HBv3.out hb)
    have HQv4 : Hid (MT 33 v4 w.heap.size (pkC p a)) := Lib.hid (MT.step HQv3.out hb)
    have HXv4 : Hid (MT 33 v4 (w.heap.size + 1) (pkC q b)) := Lib.hid (MT.step HXv3.out hb)
    have HPv4 : Hid (PIn v4 p a) := Lib.hid (PIn.step HPv3.out hb)
    have HOv4 : Hid (PIn v4 q b) := Lib.hid (PIn.step HOv3.out hb)
    clear HBv3 HQv3 HXv3 HPv3 HOv3
    clear hHeld hb
    go_wp2_with fail
    refine hK.out _ _ ⟨HQv4.out, HXv4.out⟩ (fun hHeld => ?_)
    clear hK K
    try simp only [Act.put, List.setIfInBounds_toArray, List.set_cons_zero, List.set_cons_succ]
    refine tkA (i := 11) (v := .bool false) (y := Or.inl ⟨by rfl, fun wS hSw => by (try dsimp only at hSw); go_simp⟩) (s := hHeld) (h := ?_)
    refine tkA (i := 12) (v := .bool false) (y := Or.inl ⟨by rfl, fun wS hSw => by (try dsimp only at hSw); go_simp⟩) (s := hHeld) (h := ?_)
    refine tkA (i := 13) (v := undef) (y := Or.inr ⟨by rfl, rfl⟩) (s := hHeld) (h := ?_)
    refine tkA (i := 14) (v := undef) (y := Or.inr ⟨by rfl, rfl⟩) (s := hHeld) (h := ?_)
    refine tkA (i := 15) (v := undef) (y := Or.inr ⟨by rfl, rfl⟩) (s := hHeld) (h := ?_)
    refine tkA (i := 16) (v := undef) (y := Or.inr ⟨by rfl, rfl⟩) (s := hHeld) (h := ?_)
    refine tkA (i := 17) (v := undef) (y := Or.inr ⟨by rfl, rfl⟩) (s := hHeld) (h := ?_)
    refine tkA (i := 18) (v := undef) (y := Or.inr ⟨by rfl, rfl⟩) (s := hHeld) (h := ?_)
    refine tkA (i := 19) (v := undef) (y := Or.inr ⟨by rfl, rfl⟩) (s := hHeld) (h := ?_)
    refine tkA (i := 20) (v := .bool false) (y := Or.inl ⟨by rfl, fun wS hSw => by (try dsimp only at hSw); go_simp⟩) (s := hHeld) (h := ?_)
    refine tkA (i := 21) (v := .bool false) (y := Or.inl ⟨by rfl, fun wS hSw => by (try dsimp only at hSw); go_simp⟩) (s := hHeld) (h := ?_)
    refine tkA (i := 22) (v := undef) (y := Or.inr ⟨by rfl, rfl⟩) (s := hHeld) (h := ?_)
    refine tkA (i := 23) (v := undef) (y := Or.inr ⟨by rfl, rfl⟩) (s := hHeld) (h := ?_)
    refine tkA (i := 24) (v := undef) (y := Or.inr ⟨by rfl, rfl⟩) (s := hHeld) (h := ?_)
    refine tkA (i := 25) (v := undef) (y := Or.inr ⟨by rfl, rfl⟩) (s := hHeld) (h := ?_)
    refine tkA (i := 26) (v := undef) (y := Or.inr ⟨by rfl, rfl⟩) (s := hHeld) (h := ?_)
    refine tkA (i := 27) (v := .bool false) (y := Or.inl ⟨by rfl, fun wS hSw => by (try dsimp only at hSw); go_simp⟩) (s := hHeld) (h := ?_)
    refine tkA (i := 28) (v := .bool false) (y := Or.inl ⟨by rfl, fun wS hSw => by (try dsimp only at hSw); go_simp⟩) (s := hHeld) (h := ?_)
    refine tkA (i := 29) (v := undef) (y := Or.inr ⟨by rfl, rfl⟩) (s := hHeld) (h := ?_)
    refine tkA (i := 30) (v := undef) (y := Or.inr ⟨by rfl, rfl⟩) (s := hHeld) (h := ?_)
    refine tkA (i := 31) (v := undef) (y := Or.inr ⟨by rfl, rfl⟩) (s := hHeld) (h := ?_)
    refine tkA (i := 32) (v := undef) (y := Or.inr ⟨by rfl, rfl⟩) (s := hHeld) (h := ?_)
    refine tkA (i := 33) (v := undef) (y := Or.inr ⟨by rfl, rfl⟩) (s := hHeld) (h := ?_)
    refine tkA (i := 34) (v := .bool false) (y := Or.inl ⟨by rfl, fun wS hSw => by (try dsimp only at hSw); go_simp⟩) (s := hHeld) (h := ?_)
    refine tkA (i := 35) (v := .bool false) (y := Or.inl ⟨by rfl, fun wS hSw => by (try dsimp only at hSw); go_simp⟩) (s := hHeld) (h := ?_)
    refine tkA (i := 36) (v := undef) (y := Or.inr ⟨by rfl, rfl⟩) (s := hHeld) (h := ?_)
    refine tkA (i := 37) (v := undef) (y := Or.inr ⟨by rfl, rfl⟩) (s := hHeld) (h := ?_)
    refine tkA (i := 38) (v := undef) (y := Or.inr ⟨by rfl, rfl⟩) (s := hHeld) (h := ?_)
    refine tkA (i := 39) (v := undef) (y := Or.inr ⟨by rfl, rfl⟩) (s := hHeld) (h := ?_)
    refine tkA (i := 40) (v := undef) (y := Or.inr ⟨by rfl, rfl⟩) (s := hHeld) (h := ?_)
    refine tkA (i := 41) (v := .bool false) (y := Or.inl ⟨by rfl, fun wS hSw => by (try dsimp only at hSw); go_simp⟩) (s := hHeld) (h := ?_)
    refine tkA (i := 42) (v := .bool false) (y := Or.inl ⟨by rfl, fun wS hSw => by (try dsimp only at hSw); go_simp⟩) (s := hHeld) (h := ?_)
    refine wpAnyH_done (by kernel_rfl) ?_ _
    go_wp2
    go_ret
    exact ⟨retb HR.symm, HBv4.out⟩
  cases x2
  case false =>
    replace HR : r = false := by rw [HR]; simp
    clear C3 C4 C5
    go_enter Tryz.func41, Tryz.ntmps41
    go_upto_region 1 with fail
    rw [← HW1.out]
    obtain ⟨v1, hv1⟩ : ∃ v1, v1 = World.drew w1 := ⟨_, rfl⟩
    have hbD : Below w1.heap.size w1 v1 := by rw [hv1]; exact (Below.refl _ _).drew
    have HBv1 : Hid (Below w.heap.size w v1) := Lib.hid (stepB HBw1.out hbD)
    have HQv1 : Hid (MT 33 v1 w.heap.size (pkC p a)) := Lib.hid (MT.step HQw1.out hbD)
    have HXv1 : Hid (MT 33 v1 (w.heap.size + 1) (pkC q b)) := Lib.hid (MT.step HXw1.out hbD)
    have HPv1 : Hid (PIn v1 p a) := Lib.hid (PIn.step HPw1.out hbD)
    have HOv1 : Hid (PIn v1 q b) := Lib.hid (PIn.step HOw1.out hbD)
    clear HBw1 HQw1 HXw1 HPw1 HOw1
    have hbd : (fun w' => MT 33 w' w.heap.size (pkC p a) ∧ MT 33 w' (w.heap.size + 1) (pkC q b)) (World.drew w1) := by rw [← hv1]; exact ⟨HQv1.out, HXv1.out⟩
    have hSD : (fun w' => MT 33 w' w.heap.size (pkC p a) ∧ MT 33 w' (w.heap.size + 1) (pkC q b)) v1 := ⟨HQv1.out, HXv1.out⟩
    have HWD := Lib.hid hv1
    clear hv1 hbD
    refine wp_region_held_drew (S := fun w' => MT 33 w' w.heap.size (pkC p a) ∧ MT 33 w' (w.heap.size + 1) (pkC q b)) (by kernel_rfl) hbd (fun hHeld => ?_)
    rw [← HWD.out]
    clear hHeld
    have hHeld := hSD
    clear hSD hbd HWD
    refine tkA (i := 0) (v := .agg (pkC p a).toArray) (y := Or.inl ⟨by rfl, fun wS hSw => by (try dsimp only at hSw); exact exec_load 33 _ rfl ⟨w.heap.size, 0, none⟩ (by go_simp) _ (run_loadVar_row wS w.heap.size 33 33 _ (0, 0) _ hSw.1 Tryz.underlying33 rfl info33)⟩) (s := hHeld) (h := ?_)
    refine tkA (i := 2) (v := .agg (pkC q b).toArray) (y := Or.inl ⟨by rfl, fun wS hSw => by (try dsimp only at hSw); exact exec_load 33 _ rfl ⟨w.heap.size + 1, 0, none⟩ (by go_simp) _ (run_loadVar_row wS (w.heap.size + 1) 33 33 _ (0, 0) _ hSw.2 Tryz.underlying33 rfl info33)⟩) (s := hHeld) (h := ?_)
    refine wpAnyH_ready (rs := [1]) (by kernel_rfl) (by simp) ?_
    refine (AllReadyH.cons (get_ops _ _ _ rfl) (fun K hK => ?_) AllReadyH.nil)
    go_simp
    go_at_call 69
    refine (C0.out v1).mono ?_
    rintro e v2 ⟨rfl, hb⟩
    have HBv2 : Hid (Below w.heap.size w v2) := Lib.hid (stepB HBv1.out hb)
    have HQv2 : Hid (MT 33 v2 w.heap.size (pkC p a)) := Lib.hid (MT.step HQv1.out hb)
    have HXv2 : Hid (MT 33 v2 (w.heap.size + 1) (pkC q b)) := Lib.hid (MT.step HXv1.out hb)
    have HPv2 : Hid (PIn v2 p a) := Lib.hid (PIn.step HPv1.out hb)
    have HOv2 : Hid (PIn v2 q b) := Lib.hid (PIn.step HOv1.out hb)
    clear HBv1 HQv1 HXv1 HPv1 HOv1
    clear hHeld hb
    go_wp2_with fail
    refine hK.out _ _ ⟨HQv2.out, HXv2.out⟩ (fun hHeld => ?_)
    clear hK K
    try simp only [Act.put, List.setIfInBounds_toArray, List.set_cons_zero, List.set_cons_succ]
    refine wpAnyH_ready (rs := [3]) (by kernel_rfl) (by simp) ?_
    refine (AllReadyH.cons (get_ops _ _ _ rfl) (fun K hK => ?_) AllReadyH.nil)
    go_simp
    go_at_call 69
    refine (C0'.out v2).mono ?_
    rintro e v3 ⟨rfl, hb⟩
    have HBv3 : Hid (Below w.heap.size w v3) := Lib.hid (stepB HBv2.out hb)
    have HQv3 : Hid (MT 33 v3 w.heap.size (pkC p a)) := Lib.hid (MT.step HQv2.out hb)
    have HXv3 : Hid (MT 33 v3 (w.heap.size + 1) (pkC q b)) := Lib.hid (MT.step HXv2.out hb)
    have HPv3 : Hid (PIn v3 p a) := Lib.hid (PIn.step HPv2.out hb)
    have HOv3 : Hid (PIn v3 q b) := Lib.hid (PIn.step HOv2.out hb)
    clear HBv2 HQv2 HXv2 HPv2 HOv2
    clear hHeld hb
    go_wp2_with fail
    refine hK.out _ _ ⟨HQv3.out, HXv3.out⟩ (fun hHeld => ?_)
    clear hK K
    try simp only [Act.put, List.setIfInBounds_toArray, List.set_cons_zero, List.set_cons_succ]
    refine tkA (i := 4) (v := .bool true) (y := Or.inl ⟨by rfl, fun wS hSw => by (try dsimp only at hSw); exact exec_bin .eql _ _ _ _ rfl _ _ (by go_simp) (by go_simp) (run_eqGuard_agg wS _ _ _ _ _ _ (by kernel_rfl)) _ (HE.out wS)⟩) (s := hHeld) (h := ?_)
    refine tkA (i := 5) (v := .bool true) (y := Or.inl ⟨by rfl, fun wS hSw => by (try dsimp only at hSw); go_simp⟩) (s := hHeld) (h := ?_)
    refine tkA (i := 6) (v := .pointer (some ⟨w.heap.size, 3, none⟩)) (y := Or.inl ⟨by rfl, fun wS hSw => by (try dsimp only at hSw); go_simp⟩) (s := hHeld) (h := ?_)
    refine tkA (i := 7) (v := msgV p.msg a.m a.mc) (y := Or.inl ⟨by rfl, fun wS hSw => by (try dsimp only at hSw); exact exec_load 27 _ rfl ⟨w.heap.size, 3, none⟩ (by go_simp) _ (run_load_part wS w.heap.size 3 9 33 27 _ (0, 0) _ hSw.1 Tryz.underlying27 rfl info26 (by rw [pkC_len]; decide))⟩) (s := hHeld) (h := ?_)
    refine tkA (i := 8) (v := .pointer (some ⟨w.heap.size + 1, 3, none⟩)) (y := Or.inl ⟨by rfl, fun wS hSw => by (try dsimp only at hSw); go_simp⟩) (s := hHeld) (h := ?_)
    refine tkA (i := 9) (v := msgV q.msg b.m b.mc) (y := Or.inl ⟨by rfl, fun wS hSw => by (try dsimp only at hSw); exact exec_load 27 _ rfl ⟨w.heap.size + 1, 3, none⟩ (by go_simp) _ (run_load_part wS (w.heap.size + 1) 3 9 33 27 _ (0, 0) _ hSw.2 Tryz.underlying27 rfl info26 (by rw [pkC_len]; decide))⟩) (s := hHeld) (h := ?_)
    refine wpAnyH_ready (rs := [10]) (by kernel_rfl) (by simp) ?_
    refine (AllReadyH.cons (get_ops _ _ _ rfl) (fun K hK => ?_) AllReadyH.nil)
    go_simp
    go_at_call 70
    refine (C1.out v3 HPv3.out HOv3.out).mono ?_
    rintro e v4 ⟨rfl, hb⟩
    have HBv4 : Hid (Below w.heap.size w v4) := Lib.hid (stepB HBv3.out hb)
    have HQv4 : Hid (MT 33 v4 w.heap.size (pkC p a)) := Lib.hid (MT.step HQv3.out hb)
    have HXv4 : Hid (MT 33 v4 (w.heap.size + 1) (pkC q b)) := Lib.hid (MT.step HXv3.out hb)
    have HPv4 : Hid (PIn v4 p a) := Lib.hid (PIn.step HPv3.out hb)
    have HOv4 : Hid (PIn v4 q b) := Lib.hid (PIn.step HOv3.out hb)
    clear HBv3 HQv3 HXv3 HPv3 HOv3
    clear hHeld hb
    go_wp2_with fail
    refine hK.out _ _ ⟨HQv4.out, HXv4.out⟩ (fun hHeld => ?_)
    clear hK K
    try simp only [Act.put, List.setIfInBounds_toArray, List.set_cons_zero, List.set_cons_succ]
    refine tkA (i := 11) (v := .bool true) (y := Or.inl ⟨by rfl, fun wS hSw => by (try dsimp only at hSw); go_simp⟩) (s := hHeld) (h := ?_)
    refine tkA (i := 12) (v := .bool true) (y := Or.inl ⟨by rfl, fun wS hSw => by (try dsimp only at hSw); go_simp⟩) (s := hHeld) (h := ?_)
    refine tkA (i := 13) (v := .pointer (some ⟨w.heap.size, 18, none⟩)) (y := Or.inl ⟨by rfl, fun wS hSw => by (try dsimp only at hSw); go_simp⟩) (s := hHeld) (h := ?_)
    refine tkA (i := 14) (v := .pointer (some ⟨w.heap.size, 20, none⟩)) (y := Or.inl ⟨by rfl, fun wS hSw => by (try dsimp only at hSw); go_simp⟩) (s := hHeld) (h := ?_)
    refine tkA (i := 15) (v := msgV p.wmsg a.v a.vc) (y := Or.inl ⟨by rfl, fun wS hSw => by (try dsimp only at hSw); exact exec_load 27 _ rfl ⟨w.heap.size, 20, none⟩ (by go_simp) _ (run_load_part wS w.heap.size 20 9 33 27 _ (0, 0) _ hSw.1 Tryz.underlying27 rfl info26 (by rw [pkC_len]; decide))⟩) (s := hHeld) (h := ?_)
    refine tkA (i := 16) (v := .pointer (some ⟨w.heap.size + 1, 18, none⟩)) (y := Or.inl ⟨by rfl, fun wS hSw => by (try dsimp only at hSw); go_simp⟩) (s := hHeld) (h := ?_)
    refine tkA (i := 17) (v := .pointer (some ⟨w.heap.size + 1, 20, none⟩)) (y := Or.inl ⟨by rfl, fun wS hSw => by (try dsimp only at hSw); go_simp⟩) (s := hHeld) (h := ?_)
    refine tkA (i := 18) (v := msgV q.wmsg b.v b.vc) (y := Or.inl ⟨by rfl, fun wS hSw => by (try dsimp only at hSw); exact exec_load 27 _ rfl ⟨w.heap.size + 1, 20, none⟩ (by go_simp) _ (run_load_part wS (w.heap.size + 1) 20 9 33 27 _ (0, 0) _ hSw.2 Tryz.underlying27 rfl info26 (by rw [pkC_len]; decide))⟩) (s := hHeld) (h := ?_)
    refine wpAnyH_ready (rs := [19]) (by kernel_rfl) (by simp) ?_
    refine (AllReadyH.cons (get_ops _ _ _ rfl) (fun K hK => ?_) AllReadyH.nil)
    go_simp
    go_at_call 70
    refine (C2.out v4 HPv4.out HOv4.out).mono ?_
    rintro e v5 ⟨rfl, hb⟩
    have HBv5 : Hid (Below w.heap.size w v5) := Lib.hid (stepB HBv4.out hb)
    have HQv5 : Hid (MT 33 v5 w.heap.size (pkC p a)) := Lib.hid (MT.step HQv4.out hb)
    have HXv5 : Hid (MT 33 v5 (w.heap.size + 1) (pkC q b)) := Lib.hid (MT.step HXv4.out hb)
    have HPv5 : Hid (PIn v5 p a) := Lib.hid (PIn.step HPv4.out hb)
    have HOv5 : Hid (PIn v5 q b) := Lib.hid (PIn.step HOv4.out hb)
    clear HBv4 HQv4 HXv4 HPv4 HOv4
    clear hHeld hb
    go_wp2_with fail
    refine hK.out _ _ ⟨HQv5.out, HXv5.out⟩ (fun hHeld => ?_)
    clear hK K
    try simp only [Act.put, List.setIfInBounds_toArray, List.set_cons_zero, List.set_cons_succ]
    refine tkA (i := 20) (v := .bool false) (y := Or.inl ⟨by rfl, fun wS hSw => by (try dsimp only at hSw); go_simp⟩) (s := hHeld) (h := ?_)
    refine tkA (i := 21) (v := .bool false) (y := Or.inl ⟨by rfl, fun wS hSw => by (try dsimp only at hSw); go_simp⟩) (s := hHeld) (h := ?_)
    refine tkA (i := 22) (v := undef) (y := Or.inr ⟨by rfl, rfl⟩) (s := hHeld) (h := ?_)
    refine tkA (i := 23) (v := undef) (y := Or.inr ⟨by rfl, rfl⟩) (s := hHeld) (h := ?_)
    refine tkA (i := 24) (v := undef) (y := Or.inr ⟨by rfl, rfl⟩) (s := hHeld) (h := ?_)
    refine tkA (i := 25) (v := undef) (y := Or.inr ⟨by rfl, rfl⟩) (s := hHeld) (h := ?_)
    refine tkA (i := 26) (v := undef) (y := Or.inr ⟨by rfl, rfl⟩) (s := hHeld) (h := ?_)
    refine tkA (i := 27) (v := .bool false) (y := Or.inl ⟨by rfl, fun wS hSw => by (try dsimp only at hSw); go_simp⟩) (s := hHeld) (h := ?_)
    refine tkA (i := 28) (v := .bool false) (y := Or.inl ⟨by rfl, fun wS hSw => by (try dsimp only at hSw); go_simp⟩) (s := hHeld) (h := ?_)
    refine tkA (i := 29) (v := undef) (y := Or.inr ⟨by rfl, rfl⟩) (s := hHeld) (h := ?_)
    refine tkA (i := 30) (v := undef) (y := Or.inr ⟨by rfl, rfl⟩) (s := hHeld) (h := ?_)
    refine tkA (i := 31) (v := undef) (y := Or.inr ⟨by rfl, rfl⟩) (s := hHeld) (h := ?_)
    refine tkA (i := 32) (v := undef) (y := Or.inr ⟨by rfl, rfl⟩) (s := hHeld) (h := ?_)
    refine tkA (i := 33) (v := undef) (y := Or.inr ⟨by rfl, rfl⟩) (s := hHeld) (h := ?_)
    refine tkA (i := 34) (v := .bool false) (y := Or.inl ⟨by rfl, fun wS hSw => by (try dsimp only at hSw); go_simp⟩) (s := hHeld) (h := ?_)
    refine tkA (i := 35) (v := .bool false) (y := Or.inl ⟨by rfl, fun wS hSw => by (try dsimp only at hSw); go_simp⟩) (s := hHeld) (h := ?_)
    refine tkA (i := 36) (v := undef) (y := Or.inr ⟨by rfl, rfl⟩) (s := hHeld) (h := ?_)
    refine tkA (i := 37) (v := undef) (y := Or.inr ⟨by rfl, rfl⟩) (s := hHeld) (h := ?_)
    refine tkA (i := 38) (v := undef) (y := Or.inr ⟨by rfl, rfl⟩) (s := hHeld) (h := ?_)
    refine tkA (i := 39) (v := undef) (y := Or.inr ⟨by rfl, rfl⟩) (s := hHeld) (h := ?_)
    refine tkA (i := 40) (v := undef) (y := Or.inr ⟨by rfl, rfl⟩) (s := hHeld) (h := ?_)
    refine tkA (i := 41) (v := .bool false) (y := Or.inl ⟨by rfl, fun wS hSw => by (try dsimp only at hSw); go_simp⟩) (s := hHeld) (h := ?_)
    refine tkA (i := 42) (v := .bool false) (y := Or.inl ⟨by rfl, fun wS hSw => by (try dsimp only at hSw); go_simp⟩) (s := hHeld) (h := ?_)
    refine wpAnyH_done (by kernel_rfl) ?_ _
    go_wp2
    go_ret
    exact ⟨retb HR.symm, HBv5.out⟩
  cases x3
  case false =>
    replace HR : r = false := by rw [HR]; simp
    clear C4 C5
    go_enter Tryz.func41, Tryz.ntmps41
    go_upto_region 1 with fail
    rw [← HW1.out]
    obtain ⟨v1, hv1⟩ : ∃ v1, v1 = World.drew w1 := ⟨_, rfl⟩
    have hbD : Below w1.heap.size w1 v1 := by rw [hv1]; exact (Below.refl _ _).drew
    have HBv1 : Hid (Below w.heap.size w v1) := Lib.hid (stepB HBw1.out hbD)
    have HQv1 : Hid (MT 33 v1 w.heap.size (pkC p a)) := Lib.hid (MT.step HQw1.out hbD)
    have HXv1 : Hid (MT 33 v1 (w.heap.size + 1) (pkC q b)) := Lib.hid (MT.step HXw1.out hbD)
    have HPv1 : Hid (PIn v1 p a) := Lib.hid (PIn.step HPw1.out hbD)
    have HOv1 : Hid (PIn v1 q b) := Lib.hid (PIn.step HOw1.out hbD)
    clear HBw1 HQw1 HXw1 HPw1 HOw1
    have hbd : (fun w' => MT 33 w' w.heap.size (pkC p a) ∧ MT 33 w' (w.heap.size + 1) (pkC q b)) (World.drew w1) := by rw [← hv1]; exact ⟨HQv1.out, HXv1.out⟩
    have hSD : (fun w' => MT 33 w' w.heap.size (pkC p a) ∧ MT 33 w' (w.heap.size + 1) (pkC q b)) v1 := ⟨HQv1.out, HXv1.out⟩
    have HWD := Lib.hid hv1
    clear hv1 hbD
    refine wp_region_held_drew (S := fun w' => MT 33 w' w.heap.size (pkC p a) ∧ MT 33 w' (w.heap.size + 1) (pkC q b)) (by kernel_rfl) hbd (fun hHeld => ?_)
    rw [← HWD.out]
    clear hHeld
    have hHeld := hSD
    clear hSD hbd HWD
    refine tkA (i := 0) (v := .agg (pkC p a).toArray) (y := Or.inl ⟨by rfl, fun wS hSw => by (try dsimp only at hSw); exact exec_load 33 _ rfl ⟨w.heap.size, 0, none⟩ (by go_simp) _ (run_loadVar_row wS w.heap.size 33 33 _ (0, 0) _ hSw.1 Tryz.underlying33 rfl info33)⟩) (s := hHeld) (h := ?_)
    refine tkA (i := 2) (v := .agg (pkC q b).toArray) (y := Or.inl ⟨by rfl, fun wS hSw => by (try dsimp only at hSw); exact exec_load 33 _ rfl ⟨w.heap.size + 1, 0, none⟩ (by go_simp) _ (run_loadVar_row wS (w.heap.size + 1) 33 33 _ (0, 0) _ hSw.2 Tryz.underlying33 rfl info33)⟩) (s := hHeld) (h := ?_)
    refine wpAnyH_ready (rs := [1]) (by kernel_rfl) (by simp) ?_
    refine (AllReadyH.cons (get_ops _ _ _ rfl) (fun K hK => ?_) AllReadyH.nil)
    go_simp
    go_at_call 69
    refine (C0.out v1).mono ?_
    rintro e v2 ⟨rfl, hb⟩
    have HBv2 : Hid (Below w.heap.size w v2) := Lib.hid (stepB HBv1.out hb)
    have HQv2 : Hid (MT 33 v2 w.heap.size (pkC p a)) := Lib.hid (MT.step HQv1.out hb)
    have HXv2 : Hid (MT 33 v2 (w.heap.size + 1) (pkC q b)) := Lib.hid (MT.step HXv1.out hb)
    have HPv2 : Hid (PIn v2 p a) := Lib.hid (PIn.step HPv1.out hb)
    have HOv2 : Hid (PIn v2 q b) := Lib.hid (PIn.step HOv1.out hb)
    clear HBv1 HQv1 HXv1 HPv1 HOv1
    clear hHeld hb
    go_wp2_with fail
    refine hK.out _ _ ⟨HQv2.out, HXv2.out⟩ (fun hHeld => ?_)
    clear hK K
    try simp only [Act.put, List.setIfInBounds_toArray, List.set_cons_zero, List.set_cons_succ]
    refine wpAnyH_ready (rs := [3]) (by kernel_rfl) (by simp) ?_
    refine (AllReadyH.cons (get_ops _ _ _ rfl) (fun K hK => ?_) AllReadyH.nil)
    go_simp
    go_at_call 69
    refine (C0'.out v2).mono ?_
    rintro e v3 ⟨rfl, hb⟩
    have HBv3 : Hid (Below w.heap.size w v3) := Lib.hid (stepB HBv2.out hb)
    have HQv3 : Hid (MT 33 v3 w.heap.size (pkC p a)) := Lib.hid (MT.step HQv2.out hb)
    have HXv3 : Hid (MT 33 v3 (w.heap.size + 1) (pkC q b)) := Lib.hid (MT.step HXv2.out hb)
    have HPv3 : Hid (PIn v3 p a) := Lib.hid (PIn.step HPv2.out hb)
    have HOv3 : Hid (PIn v3 q b) := Lib.hid (PIn.step HOv2.out hb)
    clear HBv2 HQv2 HXv2 HPv2 HOv2
    clear hHeld hb
    go_wp2_with fail
    refine hK.out _ _ ⟨HQv3.out, HXv3.out⟩ (fun hHeld => ?_)
    clear hK K
    try simp only [Act.put, List.setIfInBounds_toArray, List.set_cons_zero, List.set_cons_succ]
    refine tkA (i := 4) (v := .bool true) (y := Or.inl ⟨by rfl, fun wS hSw => by (try dsimp only at hSw); exact exec_bin .eql _ _ _ _ rfl _ _ (by go_simp) (by go_simp) (run_eqGuard_agg wS _ _ _ _ _ _ (by kernel_rfl)) _ (HE.out wS)⟩) (s := hHeld) (h := ?_)
    refine tkA (i := 5) (v := .bool true) (y := Or.inl ⟨by rfl, fun wS hSw => by (try dsimp only at hSw); go_simp⟩) (s := hHeld) (h := ?_)
    refine tkA (i := 6) (v := .pointer (some ⟨w.heap.size, 3, none⟩)) (y := Or.inl ⟨by rfl, fun wS hSw => by (try dsimp only at hSw); go_simp⟩) (s := hHeld) (h := ?_)
    refine tkA (i := 7) (v := msgV p.msg a.m a.mc) (y := Or.inl ⟨by rfl, fun wS hSw => by (try dsimp only at hSw); exact exec_load 27 _ rfl ⟨w.heap.size, 3, none⟩ (by go_simp) _ (run_load_part wS w.heap.size 3 9 33 27 _ (0, 0) _ hSw.1 Tryz.underlying27 rfl info26 (by rw [pkC_len]; decide))⟩) (s := hHeld) (h := ?_)
    refine tkA (i := 8) (v := .pointer (some ⟨w.heap.size + 1, 3, none⟩)) (y := Or.inl ⟨by rfl, fun wS hSw => by (try dsimp only at hSw); go_simp⟩) (s := hHeld) (h := ?_)
    refine tkA (i := 9) (v := msgV q.msg b.m b.mc) (y := Or.inl ⟨by rfl, fun wS hSw => by (try dsimp only at hSw); exact exec_load 27 _ rfl ⟨w.heap.size + 1, 3, none⟩ (by go_simp) _ (run_load_part wS (w.heap.size + 1) 3 9 33 27 _ (0, 0) _ hSw.2 Tryz.underlying27 rfl info26 (by rw [pkC_len]; decide))⟩) (s := hHeld) (h := ?_)
    refine wpAnyH_ready (rs := [10]) (by kernel_rfl) (by simp) ?_
    refine (AllReadyH.cons (get_ops _ _ _ rfl) (fun K hK => ?_) AllReadyH.nil)
    go_simp
    go_at_call 70
    refine (C1.out v3 HPv3.out HOv3.out).mono ?_
    rintro e v4 ⟨rfl, hb⟩
    have HBv4 : Hid (Below w.heap.size w v4) := Lib.hid (stepB HBv3.out hb)
    have HQv4 : Hid (MT 33 v4 w.heap.size (pkC p a)) := Lib.hid (MT.step HQv3.out hb)
    have HXv4 : Hid (MT 33 v4 (w.heap.size + 1) (pkC q b)) := Lib.hid (MT.step HXv3.out hb)
    have HPv4 : Hid (PIn v4 p a) := Lib.hid (PIn.step HPv3.out hb)
    have HOv4 : Hid (PIn v4 q b) := Lib.hid (PIn.step HOv3.out hb)
    clear HBv3 HQv3 HXv3 HPv3 HOv3
    clear hHeld hb
    go_wp2_with fail
    refine hK.out _ _ ⟨HQv4.out, HXv4.out⟩ (fun hHeld => ?_)
    clear hK K
    try simp only [Act.put, List.setIfInBounds_toArray, List.set_cons_zero, List.set_cons_succ]
    refine tkA (i := 11) (v := .bool true) (y := Or.inl ⟨by rfl, fun wS hSw => by (try dsimp only at hSw); go_simp⟩) (s := hHeld) (h := ?_)
    refine tkA (i := 12) (v := .bool true) (y := Or.inl ⟨by rfl, fun wS hSw => by (try dsimp only at hSw); go_simp⟩) (s := hHeld) (h := ?_)
    refine tkA (i := 13) (v := .pointer (some ⟨w.heap.size, 18, none⟩)) (y := Or.inl ⟨by rfl, fun wS hSw => by (try dsimp only at hSw); go_simp⟩) (s := hHeld) (h := ?_)
    refine tkA (i := 14) (v := .pointer (some ⟨w.heap.size, 20, none⟩)) (y := Or.inl ⟨by rfl, fun wS hSw => by (try dsimp only at hSw); go_simp⟩) (s := hHeld) (h := ?_)
    refine tkA (i := 15) (v := msgV p.wmsg a.v a.vc) (y := Or.inl ⟨by rfl, fun wS hSw => by (try dsimp only at hSw); exact exec_load 27 _ rfl ⟨w.heap.size, 20, none⟩ (by go_simp) _ (run_load_part wS w.heap.size 20 9 33 27 _ (0, 0) _ hSw.1 Tryz.underlying27 rfl info26 (by rw [pkC_len]; decide))⟩) (s := hHeld) (h := ?_)
    refine tkA (i := 16) (v := .pointer (some ⟨w.heap.size + 1, 18, none⟩)) (y := Or.inl ⟨by rfl, fun wS hSw => by (try dsimp only at hSw); go_simp⟩) (s := hHeld) (h := ?_)
    refine tkA (i := 17) (v := .pointer (some ⟨w.heap.size + 1, 20, none⟩)) (y := Or.inl ⟨by rfl, fun wS hSw => by (try dsimp only at hSw); go_simp⟩) (s := hHeld) (h := ?_)
    refine tkA (i := 18) (v := msgV q.wmsg b.v b.vc) (y := Or.inl ⟨by rfl, fun wS hSw => by (try dsimp only at hSw); exact exec_load 27 _ rfl ⟨w.heap.size + 1, 20, none⟩ (by go_simp) _ (run_load_part wS (w.heap.size + 1) 20 9 33 27 _ (0, 0) _ hSw.2 Tryz.underlying27 rfl info26 (by rw [pkC_len]; decide))⟩) (s := hHeld) (h := ?_)
    refine wpAnyH_ready (rs := [19]) (by kernel_rfl) (by simp) ?_
    refine (AllReadyH.cons (get_ops _ _ _ rfl) (fun K hK => ?_) AllReadyH.nil)
    go_simp
    go_at_call 70
    refine (C2.out v4 HPv4.out HOv4.out).mono ?_
    rintro e v5 ⟨rfl, hb⟩
    have HBv5 : Hid (Below w.heap.size w v5) := Lib.hid (stepB HBv4.out hb)
    have HQv5 : Hid (MT 33 v5 w.heap.size (pkC p a)) := Lib.hid (MT.step HQv4.out hb)
    have HXv5 : Hid (MT 33 v5 (w.heap.size + 1) (pkC q b)) := Lib.hid (MT.step HXv4.out hb)
    have HPv5 : Hid (PIn v5 p a) := Lib.hid (PIn.step HPv4.out hb)
    have HOv5 : Hid (PIn v5 q b) := Lib.hid (PIn.step HOv4.out hb)
    clear HBv4 HQv4 HXv4 HPv4 HOv4
    clear hHeld hb
    go_wp2_with fail
    refine hK.out _ _ ⟨HQv5.out, HXv5.out⟩ (fun hHeld => ?_)
    clear hK K
    try simp only [Act.put, List.setIfInBounds_toArray, List.set_cons_zero, List.set_cons_succ]
    refine tkA (i := 20) (v := .bool true) (y := Or.inl ⟨by rfl, fun wS hSw => by (try dsimp only at hSw); go_simp⟩) (s := hHeld) (h := ?_)
    refine tkA (i := 21) (v := .bool true) (y := Or.inl ⟨by rfl, fun wS hSw => by (try dsimp only at hSw); go_simp⟩) (s := hHeld) (h := ?_)
    refine tkA (i := 22) (v := .pointer (some ⟨w.heap.size, 31, none⟩)) (y := Or.inl ⟨by rfl, fun wS hSw => by (try dsimp only at hSw); go_simp⟩) (s := hHeld) (h := ?_)
    refine tkA (i := 23) (v := .slice a.s p.subs.length a.sc) (y := Or.inl ⟨by rfl, fun wS hSw => by (try dsimp only at hSw); have cS : wS.cell? ⟨w.heap.size, 31, none⟩ = some (.slice a.s p.subs.length a.sc) := hSw.1.cell 31; clear hSw; go_simp⟩) (s := hHeld) (h := ?_)
    refine tkA (i := 24) (v := .pointer (some ⟨w.heap.size + 1, 31, none⟩)) (y := Or.inl ⟨by rfl, fun wS hSw => by (try dsimp only at hSw); go_simp⟩) (s := hHeld) (h := ?_)
    refine tkA (i := 25) (v := .slice b.s q.subs.length b.sc) (y := Or.inl ⟨by rfl, fun wS hSw => by (try dsimp only at hSw); have cS : wS.cell? ⟨w.heap.size + 1, 31, none⟩ = some (.slice b.s q.subs.length b.sc) := hSw.2.cell 31; clear hSw; go_simp⟩) (s := hHeld) (h := ?_)
    refine wpAnyH_ready (rs := [26]) (by kernel_rfl) (by simp) ?_
    refine (AllReadyH.cons (get_ops _ _ _ rfl) (fun K hK => ?_) AllReadyH.nil)
    go_simp
    go_at_call 71
    refine (C3.out v5 HPv5.out HOv5.out).mono ?_
    rintro e v6 ⟨rfl, hb⟩
    have HBv6 : Hid (Below w.heap.size w v6) := Lib.hid (stepB HBv5.out hb)
    have HQv6 : Hid (MT 33 v6 w.heap.size (pkC p a)) := Lib.hid (MT.step HQv5.out hb)
    have HXv6 : Hid (MT 33 v6 (w.heap.size + 1) (pkC q b)) := Lib.hid (MT.step HXv5.out hb)
    have HPv6 : Hid (PIn v6 p a) := Lib.hid (PIn.step HPv5.out hb)
    have HOv6 : Hid (PIn v6 q b) := Lib.hid (PIn.step HOv5.out hb)
    clear HBv5 HQv5 HXv5 HPv5 HOv5
    clear hHeld hb
    go_wp2_with fail
    refine hK.out _ _ ⟨HQv6.out, HXv6.out⟩ (fun hHeld => ?_)
    clear hK K
    try simp only [Act.put, List.setIfInBounds_toArray, List.set_cons_zero, List.set_cons_succ]
    refine tkA (i := 27) (v := .bool false) (y := Or.inl ⟨by rfl, fun wS hSw => by (try dsimp only at hSw); go_simp⟩) (s := hHeld) (h := ?_)
    refine tkA (i := 28) (v := .bool false) (y := Or.inl ⟨by rfl, fun wS hSw => by (try dsimp only at hSw); go_simp⟩) (s := hHeld) (h := ?_)
    refine tkA (i := 29) (v := undef) (y := Or.inr ⟨by rfl, rfl⟩) (s := hHeld) (h := ?_)
    refine tkA (i := 30) (v := undef) (y := Or.inr ⟨by rfl, rfl⟩) (s := hHeld) (h := ?_)
    refine tkA (i := 31) (v := undef) (y := Or.inr ⟨by rfl, rfl⟩) (s := hHeld) (h := ?_)
    refine tkA (i := 32) (v := undef) (y := Or.inr ⟨by rfl, rfl⟩) (s := hHeld) (h := ?_)
    refine tkA (i := 33) (v := undef) (y := Or.inr ⟨by rfl, rfl⟩) (s := hHeld) (h := ?_)
    refine tkA (i := 34) (v := .bool false) (y := Or.inl ⟨by rfl, fun wS hSw => by (try dsimp only at hSw); go_simp⟩) (s := hHeld) (h := ?_)
    refine tkA (i := 35) (v := .bool false) (y := Or.inl ⟨by rfl, fun wS hSw => by (try dsimp only at hSw); go_simp⟩) (s := hHeld) (h := ?_)
    refine tkA (i := 36) (v := undef) (y := Or.inr ⟨by rfl, rfl⟩) (s := hHeld) (h := ?_)
    refine tkA (i := 37) (v := undef) (y := Or.inr ⟨by rfl, rfl⟩) (s := hHeld) (h := ?_)
    refine tkA (i := 38) (v := undef) (y := Or.inr ⟨by rfl, rfl⟩) (s := hHeld) (h := ?_)
    refine tkA (i := 39) (v := undef) (y := Or.inr ⟨by rfl, rfl⟩) (s := hHeld) (h := ?_)
    refine tkA (i := 40) (v := undef) (y := Or.inr ⟨by rfl, rfl⟩) (s := hHeld) (h := ?_)
    refine tkA (i := 41) (v := .bool false) (y := Or.inl ⟨by rfl, fun wS hSw => by (try dsimp only at hSw); go_simp⟩) (s := hHeld) (h := ?_)
    refine tkA (i := 42) (v := .bool false) (y := Or.inl ⟨by rfl, fun wS hSw => by (try dsimp only at hSw); go_simp⟩) (s := hHeld) (h := ?_)
    refine wpAnyH_done (by kernel_rfl) ?_ _
    go_wp2
    go_ret
    exact ⟨retb HR.symm, HBv6.out⟩
  cases x4
  case false =>
    replace HR : r = false := by rw [HR]; simp
    clear C5
    go_enter Tryz.func41, Tryz.ntmps41
    go_upto_region 1 with fail
    rw [← HW1.out]
    obtain ⟨v1, hv1⟩ : ∃ v1, v1 = World.drew w1 := ⟨_, rfl⟩
    have hbD : Below w1.heap.size w1 v1 := by rw [hv1]; exact (Below.refl _ _).drew
    have HBv1 : Hid (Below w.heap.size w v1) := Lib.hid (stepB HBw1.out hbD)
    have HQv1 : Hid (MT 33 v1 w.heap.size (pkC p a)) := Lib.hid (MT.step HQw1.out hbD)
    have HXv1 : Hid (MT 33 v1 (w.heap.size + 1) (pkC q b)) := Lib.hid (MT.step HXw1.out hbD)
    have HPv1 : Hid (PIn v1 p a) := Lib.hid (PIn.step HPw1.out hbD)
    have HOv1 : Hid (PIn v1 q b) := Lib.hid (PIn.step HOw1.out hbD)
    clear HBw1 HQw1 HXw1 HPw1 HOw1
    have hbd : (fun w' => MT 33 w' w.heap.size (pkC p a) ∧ MT 33 w' (w.heap.size + 1) (pkC q b)) (World.drew w1) := by rw [← hv1]; exact ⟨HQv1.out, HXv1.out⟩
    have hSD : (fun w' => MT 33 w' w.heap.size (pkC p a) ∧ MT 33 w' (w.heap.size + 1) (pkC q b)) v1 := ⟨HQv1.out, HXv1.out⟩
    have HWD := Lib.hid hv1
    clear hv1 hbD
    refine wp_region_held_drew (S := fun w' => MT 33 w' w.heap.size (pkC p a) ∧ MT 33 w' (w.heap.size + 1) (pkC q b)) (by kernel_rfl) hbd (fun hHeld => ?_)
    rw [← HWD.out]
    clear hHeld
    have hHeld := hSD
    clear hSD hbd HWD
    refine tkA (i := 0) (v := .agg (pkC p a).toArray) (y := Or.inl ⟨by rfl, fun wS hSw => by (try dsimp only at hSw); exact exec_load 33 _ rfl ⟨w.heap.size, 0, none⟩ (by go_simp) _ (run_loadVar_row wS w.heap.size 33 33 _ (0, 0) _ hSw.1 Tryz.underlying33 rfl info33)⟩) (s := hHeld) (h := ?_)
    refine tkA (i := 2) (v := .agg (pkC q b).toArray) (y := Or.inl ⟨by rfl, fun wS hSw => by (try dsimp only at hSw); exact exec_load 33 _ rfl ⟨w.heap.size + 1, 0, none⟩ (by go_simp) _ (run_loadVar_row wS (w.heap.size + 1) 33 33 _ (0, 0) _ hSw.2 Tryz.underlying33 rfl info33)⟩) (s := hHeld) (h := ?_)
    refine wpAnyH_ready (rs := [1]) (by kernel_rfl) (by simp) ?_
    refine (AllReadyH.cons (get_ops _ _ _ rfl) (fun K hK => ?_) AllReadyH.nil)
    go_simp
    go_at_call 69
    refine (C0.out v1).mono ?_
    rintro e v2 ⟨rfl, hb⟩
    have HBv2 : Hid (Below w.heap.size w v2) := Lib.hid (stepB HBv1.out hb)
    have HQv2 : Hid (MT 33 v2 w.heap.size (pkC p a)) := Lib.hid (MT.step HQv1.out hb)
    have HXv2 : Hid (MT 33 v2 (w.heap.size + 1) (pkC q b)) := Lib.hid (MT.step HXv1.out hb)
    have HPv2 : Hid (PIn v2 p a) := Lib.hid (PIn.step HPv1.out hb)
    have HOv2 : Hid (PIn v2 q b) := Lib.hid (PIn.step HOv1.out hb)
    clear HBv1 HQv1 HXv1 HPv1 HOv1
    clear hHeld hb
    go_wp2_with fail
    refine hK.out _ _ ⟨HQv2.out, HXv2.out⟩ (fun hHeld => ?_)
    clear hK K
    try simp only [Act.put, List.setIfInBounds_toArray, List.set_cons_zero, List.set_cons_succ]
    refine wpAnyH_ready (rs := [3]) (by kernel_rfl) (by simp) ?_
    refine (AllReadyH.cons (get_ops _ _ _ rfl) (fun K hK => ?_) AllReadyH.nil)
    go_simp
    go_at_call 69
    refine (C0'.out v2).mono ?_
    rintro e v3 ⟨rfl, hb⟩
    have HBv3 : Hid (Below w.heap.size w v3) := Lib.hid (stepB HBv2.out hb)
    have HQv3 : Hid (MT 33 v3 w.heap.size (pkC p a)) := Lib.hid (MT.step HQv2.out hb)
    have HXv3 : Hid (MT 33 v3 (w.heap.size + 1) (pkC q b)) := Lib.hid (MT.step HXv2.out hb)
    have HPv3 : Hid (PIn v3 p a) := Lib.hid (PIn.step HPv2.out hb)
    have HOv3 : Hid (PIn v3 q b) := Lib.hid (PIn.step HOv2.out hb)
    clear HBv2 HQv2 HXv2 HPv2 HOv2
    clear hHeld hb
    go_wp2_with fail
    refine hK.out _ _ ⟨HQv3.out, HXv3.out⟩ (fun hHeld => ?_)
    clear hK K
    try simp only [Act.put, List.setIfInBounds_toArray, List.set_cons_zero, List.set_cons_succ]
    refine tkA (i := 4) (v := .bool true) (y := Or.inl ⟨by rfl, fun wS hSw => by (try dsimp only at hSw); exact exec_bin .eql _ _ _ _ rfl _ _ (by go_simp) (by go_simp) (run_eqGuard_agg wS _ _ _ _ _ _ (by kernel_rfl)) _ (HE.out wS)⟩) (s := hHeld) (h := ?_)
    refine tkA (i := 5) (v := .bool true) (y := Or.inl ⟨by rfl, fun wS hSw => by (try dsimp only at hSw); go_simp⟩) (s := hHeld) (h := ?_)
    refine tkA (i := 6) (v := .pointer (some ⟨w.heap.size, 3, none⟩)) (y := Or.inl ⟨by rfl, fun wS hSw => by (try dsimp only at hSw); go_simp⟩) (s := hHeld) (h := ?_)
    refine tkA (i := 7) (v := msgV p.msg a.m a.mc) (y := Or.inl ⟨by rfl, fun wS hSw => by (try dsimp only at hSw); exact exec_load 27 _ rfl ⟨w.heap.size, 3, none⟩ (by go_simp) _ (run_load_part wS w.heap.size 3 9 33 27 _ (0, 0) _ hSw.1 Tryz.underlying27 rfl info26 (by rw [pkC_len]; decide))⟩) (s := hHeld) (h := ?_)
    refine tkA (i := 8) (v := .pointer (some ⟨w.heap.size + 1, 3, none⟩)) (y := Or.inl ⟨by rfl, fun wS hSw => by (try dsimp only at hSw); go_simp⟩) (s := hHeld) (h := ?_)
    refine tkA (i := 9) (v := msgV q.msg b.m b.mc) (y := Or.inl ⟨by rfl, fun wS hSw => by (try dsimp only at hSw); exact exec_load 27 _ rfl ⟨w.heap.size + 1, 3, none⟩ (by go_simp) _ (run_load_part wS (w.heap.size + 1) 3 9 33 27 _ (0, 0) _ hSw.2 Tryz.underlying27 rfl info26 (by rw [pkC_len]; decide))⟩) (s := hHeld) (h := ?_)
    refine wpAnyH_ready (rs := [10]) (by kernel_rfl) (by simp) ?_
    refine (AllReadyH.cons (get_ops _ _ _ rfl) (fun K hK => ?_) AllReadyH.nil)
    go_simp
    go_at_call 70
    refine (C1.out v3 HPv3.out HOv3.out).mono ?_
    rintro e v4 ⟨rfl, hb⟩
    have HBv4 : Hid (Below w.heap.size w v4) := Lib.hid (stepB HBv3.out hb)
    have HQv4 : Hid (MT 33 v4 w.heap.size (pkC p a)) := Lib.hid (MT.step HQv3.out hb)
    have HXv4 : Hid (MT 33 v4 (w.heap.size + 1) (pkC q b)) := Lib.hid (MT.step HXv3.out hb)
    have HPv4 : Hid (PIn v4 p a) := Lib.hid (PIn.step HPv3.out hb)
    have HOv4 : Hid (PIn v4 q b) := Lib.hid (PIn.step HOv3.out hb)
    clear HBv3 HQv3 HXv3 HPv3 HOv3
    clear hHeld hb
    go_wp2_with fail
    refine hK.out _ _ ⟨HQv4.out, HXv4.out⟩ (fun hHeld => ?_)
    clear hK K
    try simp only [Act.put, List.setIfInBounds_toArray, List.set_cons_zero, List.set_cons_succ]
    refine tkA (i := 11) (v := .bool true) (y := Or.inl ⟨by rfl, fun wS hSw => by (try dsimp only at hSw); go_simp⟩) (s := hHeld) (h := ?_)
    refine tkA (i := 12) (v := .bool true) (y := Or.inl ⟨by rfl, fun wS hSw => by (try dsimp only at hSw); go_simp⟩) (s := hHeld) (h := ?_)
    refine tkA (i := 13) (v := .pointer (some ⟨w.heap.size, 18, none⟩)) (y := Or.inl ⟨by rfl, fun wS hSw => by (try dsimp only at hSw); go_simp⟩) (s := hHeld) (h := ?_)
    refine tkA (i := 14) (v := .pointer (some ⟨w.heap.size, 20, none⟩)) (y := Or.inl ⟨by rfl, fun wS hSw => by (try dsimp only at hSw); go_simp⟩) (s := hHeld) (h := ?_)
    refine tkA (i := 15) (v := msgV p.wmsg a.v a.vc) (y := Or.inl ⟨by rfl, fun wS hSw => by (try dsimp only at hSw); exact exec_load 27 _ rfl ⟨w.heap.size, 20, none⟩ (by go_simp) _ (run_load_part wS w.heap.size 20 9 33 27 _ (0, 0) _ hSw.1 Tryz.underlying27 rfl info26 (by rw [pkC_len]; decide))⟩) (s := hHeld) (h := ?_)
    refine tkA (i := 16) (v := .pointer (some ⟨w.heap.size + 1, 18, none⟩)) (y := Or.inl ⟨by rfl, fun wS hSw => by (try dsimp only at hSw); go_simp⟩) (s := hHeld) (h := ?_)
    refine tkA (i := 17) (v := .pointer (some ⟨w.heap.size + 1, 20, none⟩)) (y := Or.inl ⟨by rfl, fun wS hSw => by (try dsimp only at hSw); go_simp⟩) (s := hHeld) (h := ?_)
    refine tkA (i := 18) (v := msgV q.wmsg b.v b.vc) (y := Or.inl ⟨by rfl, fun wS hSw => by (try dsimp only at hSw); exact exec_load 27 _ rfl ⟨w.heap.size + 1, 20, none⟩ (by go_simp) _ (run_load_part wS (w.heap.size + 1) 20 9 33 27 _ (0, 0) _ hSw.2 Tryz.underlying27 rfl info26 (by rw [pkC_len]; decide))⟩) (s := hHeld) (h := ?_)
    refine wpAnyH_ready (rs := [19]) (by kernel_rfl) (by simp) ?_
    refine (AllReadyH.cons (get_ops _ _ _ rfl) (fun K hK => ?_) AllReadyH.nil)
    go_simp
    go_at_call 70
    refine (C2.out v4 HPv4.out HOv4.out).mono ?_
    rintro e v5 ⟨rfl, hb⟩
    have HBv5 : Hid (Below w.heap.size w v5) := Lib.hid (stepB HBv4.out hb)
    have HQv5 : Hid (MT 33 v5 w.heap.size (pkC p a)) := Lib.hid (MT.step HQv4.out hb)
    have HXv5 : Hid (MT 33 v5 (w.heap.size + 1) (pkC q b)) := Lib.hid (MT.step HXv4.out hb)
    have HPv5 : Hid (PIn v5 p a) := Lib.hid (PIn.step HPv4.out hb)
    have HOv5 : Hid (PIn v5 q b) := Lib.hid (PIn.step HOv4.out hb)
    clear HBv4 HQv4 HXv4 HPv4 HOv4
    clear hHeld hb
    go_wp2_with fail
    refine hK.out _ _ ⟨HQv5.out, HXv5.out⟩ (fun hHeld => ?_)
    clear hK K
    try simp only [Act.put, List.setIfInBounds_toArray, List.set_cons_zero, List.set_cons_succ]
    refine tkA (i := 20) (v := .bool true) (y := Or.inl ⟨by rfl, fun wS hSw => by (try dsimp only at hSw); go_simp⟩) (s := hHeld) (h := ?_)
    refine tkA (i := 21) (v := .bool true) (y := Or.inl ⟨by rfl, fun wS hSw => by (try dsimp only at hSw); go_simp⟩) (s := hHeld) (h := ?_)
    refine tkA (i := 22) (v := .pointer (some ⟨w.heap.size, 31, none⟩)) (y := Or.inl ⟨by rfl, fun wS hSw => by (try dsimp only at hSw); go_simp⟩) (s := hHeld) (h := ?_)
    refine tkA (i := 23) (v := .slice a.s p.subs.length a.sc) (y := Or.inl ⟨by rfl, fun wS hSw => by (try dsimp only at hSw); have cS : wS.cell? ⟨w.heap.size, 31, none⟩ = some (.slice a.s p.subs.length a.sc) := hSw.1.cell 31; clear hSw; go_simp⟩) (s := hHeld) (h := ?_)
    refine tkA (i := 24) (v := .pointer (some ⟨w.heap.size + 1, 31, none⟩)) (y := Or.inl ⟨by rfl, fun wS hSw => by (try dsimp only at hSw); go_simp⟩) (s := hHeld) (h := ?_)
    refine tkA (i := 25) (v := .slice b.s q.subs.length b.sc) (y := Or.inl ⟨by rfl, fun wS hSw => by (try dsimp only at hSw); have cS : wS.cell? ⟨w.heap.size + 1, 31, none⟩ = some (.slice b.s q.subs.length b.sc) := hSw.2.cell 31; clear hSw; go_simp⟩) (s := hHeld) (h := ?_)
    refine wpAnyH_ready (rs := [26]) (by kernel_rfl) (by simp) ?_
    refine (AllReadyH.cons (get_ops _ _ _ rfl) (fun K hK => ?_) AllReadyH.nil)
    go_simp
    go_at_call 71
    refine (C3.out v5 HPv5.out HOv5.out).mono ?_
    rintro e v6 ⟨rfl, hb⟩
    have HBv6 : Hid (Below w.heap.size w v6) := Lib.hid (stepB HBv5.out hb)
    have HQv6 : Hid (MT 33 v6 w.heap.size (pkC p a)) := Lib.hid (MT.step HQv5.out hb)
    have HXv6 : Hid (MT 33 v6 (w.heap.size + 1) (pkC q b)) := Lib.hid (MT.step HXv5.out hb)
    have HPv6 : Hid (PIn v6 p a) := Lib.hid (PIn.step HPv5.out hb)
    have HOv6 : Hid (PIn v6 q b) := Lib.hid (PIn.step HOv5.out hb)
    clear HBv5 HQv5 HXv5 HPv5 HOv5
    clear hHeld hb
    go_wp2_with fail
    refine hK.out _ _ ⟨HQv6.out, HXv6.out⟩ (fun hHeld => ?_)
    clear hK K
    try simp only [Act.put, List.setIfInBounds_toArray, List.set_cons_zero, List.set_cons_succ]
    refine tkA (i := 27) (v := .bool true) (y := Or.inl ⟨by rfl, fun wS hSw => by (try dsimp only at hSw); go_simp⟩) (s := hHeld) (h := ?_)
    refine tkA (i := 28) (v := .bool true) (y := Or.inl ⟨by rfl, fun wS hSw => by (try dsimp only at hSw); go_simp⟩) (s := hHeld) (h := ?_)
    refine tkA (i := 29) (v := .pointer (some ⟨w.heap.size, 32, none⟩)) (y := Or.inl ⟨by rfl, fun wS hSw => by (try dsimp only at hSw); go_simp⟩) (s := hHeld) (h := ?_)
    refine tkA (i := 30) (v := .slice a.f p.filters.length a.fc) (y := Or.inl ⟨by rfl, fun wS hSw => by (try dsimp only at hSw); have cS : wS.cell? ⟨w.heap.size, 32, none⟩ = some (.slice a.f p.filters.length a.fc) := hSw.1.cell 32; clear hSw; go_simp⟩) (s := hHeld) (h := ?_)
    refine tkA (i := 31) (v := .pointer (some ⟨w.heap.size + 1, 32, none⟩)) (y := Or.inl ⟨by rfl, fun wS hSw => by (try dsimp only at hSw); go_simp⟩) (s := hHeld) (h := ?_)
    refine tkA (i := 32) (v := .slice b.f q.filters.length b.fc) (y := Or.inl ⟨by rfl, fun wS hSw => by (try dsimp only at hSw); have cS : wS.cell? ⟨w.heap.size + 1, 32, none⟩ = some (.slice b.f q.filters.length b.fc) := hSw.2.cell 32; clear hSw; go_simp⟩) (s := hHeld) (h := ?_)
    refine wpAnyH_ready (rs := [33]) (by kernel_rfl) (by simp) ?_
    refine (AllReadyH.cons (get_ops _ _ _ rfl) (fun K hK => ?_) AllReadyH.nil)
    go_simp
    go_at_call 72
    refine (C4.out v6 HPv6.out HOv6.out).mono ?_
    rintro e v7 ⟨rfl, hb⟩
    have HBv7 : Hid (Below w.heap.size w v7) := Lib.hid (stepB HBv6.out hb)
    have HQv7 : Hid (MT 33 v7 w.heap.size (pkC p a)) := Lib.hid (MT.step HQv6.out hb)
    have HXv7 : Hid (MT 33 v7 (w.heap.size + 1) (pkC q b)) := Lib.hid (MT.step HXv6.out hb)
    have HPv7 : Hid (PIn v7 p a) := Lib.hid (PIn.step HPv6.out hb)
    have HOv7 : Hid (PIn v7 q b) := Lib.hid (PIn.step HOv6.out hb)
    clear HBv6 HQv6 HXv6 HPv6 HOv6
    clear hHeld hb
    go_wp2_with fail
    refine hK.out _ _ ⟨HQv7.out, HXv7.out⟩ (fun hHeld => ?_)
    clear hK K
    try simp only [Act.put, List.setIfInBounds_toArray, List.set_cons_zero, List.set_cons_succ]
    refine tkA (i := 34) (v := .bool false) (y := Or.inl ⟨by rfl, fun wS hSw => by (try dsimp only at hSw); go_simp⟩) (s := hHeld) (h := ?_)
    refine tkA (i := 35) (v := .bool false) (y := Or.inl ⟨by rfl, fun wS hSw => by (try dsimp only at hSw); go_simp⟩) (s := hHeld) (h := ?_)
    refine tkA (i := 36) (v := undef) (y := Or.inr ⟨by rfl, rfl⟩) (s := hHeld) (h := ?_)
    refine tkA (i := 37) (v := undef) (y := Or.inr ⟨by rfl, rfl⟩) (s := hHeld) (h := ?_)
    refine tkA (i := 38) (v := undef) (y := Or.inr ⟨by rfl, rfl⟩) (s := hHeld) (h := ?_)
    refine tkA (i := 39) (v := undef) (y := Or.inr ⟨by rfl, rfl⟩) (s := hHeld) (h := ?_)
    refine tkA (i := 40) (v := undef) (y := Or.inr ⟨by rfl, rfl⟩) (s := hHeld) (h := ?_)
    refine tkA (i := 41) (v := .bool false) (y := Or.inl ⟨by rfl, fun wS hSw => by (try dsimp only at hSw); go_simp⟩) (s := hHeld) (h := ?_)
    refine tkA (i := 42) (v := .bool false) (y := Or.inl ⟨by rfl, fun wS hSw => by (try dsimp only at hSw); go_simp⟩) (s := hHeld) (h := ?_)
    refine wpAnyH_done (by kernel_rfl) ?_ _
    go_wp2
    go_ret
    exact ⟨retb HR.symm, HBv7.out⟩
  cases x5
  case false =>
    replace HR : r = false := by rw [HR]; simp
    go_enter Tryz.func41, Tryz.ntmps41
    go_upto_region 1 with fail
    rw [← HW1.out]
    obtain ⟨v1, hv1⟩ : ∃ v1, v1 = World.drew w1 := ⟨_, rfl⟩
    have hbD : Below w1.heap.size w1 v1 := by rw [hv1]; exact (Below.refl _ _).drew
    have HBv1 : Hid (Below w.heap.size w v1) := Lib.hid (stepB HBw1.out hbD)
    have HQv1 : Hid (MT 33 v1 w.heap.size (pkC p a)) := Lib.hid (MT.step HQw1.out hbD)
    have HXv1 : Hid (MT 33 v1 (w.heap.size + 1) (pkC q b)) := Lib.hid (MT.step HXw1.out hbD)
    have HPv1 : Hid (PIn v1 p a) := Lib.hid (PIn.step HPw1.out hbD)
    have HOv1 : Hid (PIn v1 q b) := Lib.hid (PIn.step HOw1.out hbD)
    clear HBw1 HQw1 HXw1 HPw1 HOw1
    have hbd : (fun w' => MT 33 w' w.heap.size (pkC p a) ∧ MT 33 w' (w.heap.size + 1) (pkC q b)) (World.drew w1) := by rw [← hv1]; exact ⟨HQv1.out, HXv1.out⟩
    have hSD : (fun w' => MT 33 w' w.heap.size (pkC p a) ∧ MT 33 w' (w.heap.size + 1) (pkC q b)) v1 := ⟨HQv1.out, HXv1.out⟩
    have HWD := Lib.hid hv1
    clear hv1 hbD
    refine wp_region_held_drew (S := fun w' => MT 33 w' w.heap.size (pkC p a) ∧ MT 33 w' (w.heap.size + 1) (pkC q b)) (by kernel_rfl) hbd (fun hHeld => ?_)
    rw [← HWD.out]
    clear hHeld
    have hHeld := hSD
    clear hSD hbd HWD
    refine tkA (i := 0) (v := .agg (pkC p a).toArray) (y := Or.inl ⟨by rfl, fun wS hSw => by (try dsimp only at hSw); exact exec_load 33 _ rfl ⟨w.heap.size, 0, none⟩ (by go_simp) _ (run_loadVar_row wS w.heap.size 33 33 _ (0, 0) _ hSw.1 Tryz.underlying33 rfl info33)⟩) (s := hHeld) (h := ?_)
    refine tkA (i := 2) (v := .agg (pkC q b).toArray) (y := Or.inl ⟨by rfl, fun wS hSw => by (try dsimp only at hSw); exact exec_load 33 _ rfl ⟨w.heap.size + 1, 0, none⟩ (by go_simp) _ (run_loadVar_row wS (w.heap.size + 1) 33 33 _ (0, 0) _ hSw.2 Tryz.underlying33 rfl info33)⟩) (s := hHeld) (h := ?_)
    refine wpAnyH_ready (rs := [1]) (by kernel_rfl) (by simp) ?_
    refine (AllReadyH.cons (get_ops _ _ _ rfl) (fun K hK => ?_) AllReadyH.nil)
    go_simp
    go_at_call 69
    refine (C0.out v1).mono ?_
    rintro e v2 ⟨rfl, hb⟩
    have HBv2 : Hid (Below w.heap.size w v2) := Lib.hid (stepB HBv1.out hb)
    have HQv2 : Hid (MT 33 v2 w.heap.size (pkC p a)) := Lib.hid (MT.step HQv1.out hb)
    have HXv2 : Hid (MT 33 v2 (w.heap.size + 1) (pkC q b)) := Lib.hid (MT.step HXv1.out hb)
    have HPv2 : Hid (PIn v2 p a) := Lib.hid (PIn.step HPv1.out hb)
    have HOv2 : Hid (PIn v2 q b) := Lib.hid (PIn.step HOv1.out hb)
    clear HBv1 HQv1 HXv1 HPv1 HOv1
    clear hHeld hb
    go_wp2_with fail
    refine hK.out _ _ ⟨HQv2.out, HXv2.out⟩ (fun hHeld => ?_)
    clear hK K
    try simp only [Act.put, List.setIfInBounds_toArray, List.set_cons_zero, List.set_cons_succ]
    refine wpAnyH_ready (rs := [3]) (by kernel_rfl) (by simp) ?_
    refine (AllReadyH.cons (get_ops _ _ _ rfl) (fun K hK => ?_) AllReadyH.nil)
    go_simp
    go_at_call 69
    refine (C0'.out v2).mono ?_
    rintro e v3 ⟨rfl, hb⟩
    have HBv3 : Hid (Below w.heap.size w v3) := Lib.hid (stepB HBv2.out hb)
    have HQv3 : Hid (MT 33 v3 w.heap.size (pkC p a)) := Lib.hid (MT.step HQv2.out hb)
    have HXv3 : Hid (MT 33 v3 (w.heap.size + 1) (pkC q b)) := Lib.hid (MT.step HXv2.out hb)
    have HPv3 : Hid (PIn v3 p a) := Lib.hid (PIn.step HPv2.out hb)
    have HOv3 : Hid (PIn v3 q b) := Lib.hid (PIn.step HOv2.out hb)
    clear HBv2 HQv2 HXv2 HPv2 HOv2
    clear hHeld hb
    go_wp2_with fail
    refine hK.out _ _ ⟨HQv3.out, HXv3.out⟩ (fun hHeld => ?_)
    clear hK K
    try simp only [Act.put, List.setIfInBounds_toArray, List.set_cons_zero, List.set_cons_succ]
    refine tkA (i := 4) (v := .bool true) (y := Or.inl ⟨by rfl, fun wS hSw => by (try dsimp only at hSw); exact exec_bin .eql _ _ _ _ rfl _ _ (by go_simp) (by go_simp) (run_eqGuard_agg wS _ _ _ _ _ _ (by kernel_rfl)) _ (HE.out wS)⟩) (s := hHeld) (h := ?_)
    refine tkA (i := 5) (v := .bool true) (y := Or.inl ⟨by rfl, fun wS hSw => by (try dsimp only at hSw); go_simp⟩) (s := hHeld) (h := ?_)
    refine tkA (i := 6) (v := .pointer (some ⟨w.heap.size, 3, none⟩)) (y := Or.inl ⟨by rfl, fun wS hSw => by (try dsimp only at hSw); go_simp⟩) (s := hHeld) (h := ?_)
    refine tkA (i := 7) (v := msgV p.msg a.m a.mc) (y := Or.inl ⟨by rfl, fun wS hSw => by (try dsimp only at hSw); exact exec_load 27 _ rfl ⟨w.heap.size, 3, none⟩ (by go_simp) _ (run_load_part wS w.heap.size 3 9 33 27 _ (0, 0) _ hSw.1 Tryz.underlying27 rfl info26 (by rw [pkC_len]; decide))⟩) (s := hHeld) (h := ?_)
    refine tkA (i := 8) (v := .pointer (some ⟨w.heap.size + 1, 3, none⟩)) (y := Or.inl ⟨by rfl, fun wS hSw => by (try dsimp only at hSw); go_simp⟩) (s := hHeld) (h := ?_)
    refine tkA (i := 9) (v := msgV q.msg b.m b.mc) (y := Or.inl ⟨by rfl, fun wS hSw => by (try dsimp only at hSw); exact exec_load 27 _ rfl ⟨w.heap.size + 1, 3, none⟩ (by go_simp) _ (run_load_part wS (w.heap.size + 1) 3 9 33 27 _ (0, 0) _ hSw.2 Tryz.underlying27 rfl info26 (by rw [pkC_len]; decide))⟩) (s := hHeld) (h := ?_)
    refine wpAnyH_ready (rs := [10]) (by kernel_rfl) (by simp) ?_
    refine (AllReadyH.cons (get_ops _ _ _ rfl) (fun K hK => ?_) AllReadyH.nil)
    go_simp
    go_at_call 70
    refine (C1.out v3 HPv3.out HOv3.out).mono ?_
    rintro e v4 ⟨rfl, hb⟩
    have HBv4 : Hid (Below w.heap.size w v4) := Lib.hid (stepB HBv3.out hb)
    have HQv4 : Hid (MT 33 v4 w.heap.size (pkC p a)) := Lib.hid (MT.step HQv3.out hb)
    have HXv4 : Hid (MT 33 v4 (w.heap.size + 1) (pkC q b)) := Lib.hid (MT.step HXv3.out hb)
    have HPv4 : Hid (PIn v4 p a) := Lib.hid (PIn.step HPv3.out hb)
    have HOv4 : Hid (PIn v4 q b) := Lib.hid (PIn.step HOv3.out hb)
    clear HBv3 HQv3 HXv3 HPv3 HOv3
    clear hHeld hb
    go_wp2_with fail
    refine hK.out _ _ ⟨HQv4.out, HXv4.out⟩ (fun hHeld => ?_)
    clear hK K
    try simp only [Act.put, List.setIfInBounds_toArray, List.set_cons_zero, List.set_cons_succ]
    refine tkA (i := 11) (v := .bool true) (y := Or.inl ⟨by rfl, fun wS hSw => by (try dsimp only at hSw); go_simp⟩) (s := hHeld) (h := ?_)
    refine tkA (i := 12) (v := .bool true) (y := Or.inl ⟨by rfl, fun wS hSw => by (try dsimp only at hSw); go_simp⟩) (s := hHeld) (h := ?_)
    refine tkA (i := 13) (v := .pointer (some ⟨w.heap.size, 18, none⟩)) (y := Or.inl ⟨by rfl, fun wS hSw => by (try dsimp only at hSw); go_simp⟩) (s := hHeld) (h := ?_)
    refine tkA (i := 14) (v := .pointer (some ⟨w.heap.size, 20, none⟩)) (y := Or.inl ⟨by rfl, fun wS hSw => by (try dsimp only at hSw); go_simp⟩) (s := hHeld) (h := ?_)
    refine tkA (i := 15) (v := msgV p.wmsg a.v a.vc) (y := Or.inl ⟨by rfl, fun wS hSw => by (try dsimp only at hSw); exact exec_load 27 _ rfl ⟨w.heap.size, 20, none⟩ (by go_simp) _ (run_load_part wS w.heap.size 20 9 33 27 _ (0, 0) _ hSw.1 Tryz.underlying27 rfl info26 (by rw [pkC_len]; decide))⟩) (s := hHeld) (h := ?_)
    refine tkA (i := 16) (v := .pointer (some ⟨w.heap.size + 1, 18, none⟩)) (y := Or.inl ⟨by rfl, fun wS hSw => by (try dsimp only at hSw); go_simp⟩) (s := hHeld) (h := ?_)
    refine tkA (i := 17) (v := .pointer (some ⟨w.heap.size + 1, 20, none⟩)) (y := Or.inl ⟨by rfl, fun wS hSw => by (try dsimp only at hSw); go_simp⟩) (s := hHeld) (h := ?_)
    refine tkA (i := 18) (v := msgV q.wmsg b.v b.vc) (y := Or.inl ⟨by rfl, fun wS hSw => by (try dsimp only at hSw); exact exec_load 27 _ rfl ⟨w.heap.size + 1, 20, none⟩ (by go_simp) _ (run_load_part wS (w.heap.size + 1) 20 9 33 27 _ (0, 0) _ hSw.2 Tryz.underlying27 rfl info26 (by rw [pkC_len]; decide))⟩) (s := hHeld) (h := ?_)
    refine wpAnyH_ready (rs := [19]) (by kernel_rfl) (by simp) ?_
    refine (AllReadyH.cons (get_ops _ _ _ rfl) (fun K hK => ?_) AllReadyH.nil)
    go_simp
    go_at_call 70
    refine (C2.out v4 HPv4.out HOv4.out).mono ?_
    rintro e v5 ⟨rfl, hb⟩
    have HBv5 : Hid (Below w.heap.size w v5) := Lib.hid (stepB HBv4.out hb)
    have HQv5 : Hid (MT 33 v5 w.heap.size (pkC p a)) := Lib.hid (MT.step HQv4.out hb)
    have HXv5 : Hid (MT 33 v5 (w.heap.size + 1) (pkC q b)) := Lib.hid (MT.step HXv4.out hb)
    have HPv5 : Hid (PIn v5 p a) := Lib.hid (PIn.step HPv4.out hb)
    have HOv5 : Hid (PIn v5 q b) := Lib.hid (PIn.step HOv4.out hb)
    clear HBv4 HQv4 HXv4 HPv4 HOv4
    clear hHeld hb
    go_wp2_with fail
    refine hK.out _ _ ⟨HQv5.out, HXv5.out⟩ (fun hHeld => ?_)
    clear hK K
    try simp only [Act.put, List.setIfInBounds_toArray, List.set_cons_zero, List.set_cons_succ]
    refine tkA (i := 20) (v := .bool true) (y := Or.inl ⟨by rfl, fun wS hSw => by (try dsimp only at hSw); go_simp⟩) (s := hHeld) (h := ?_)
    refine tkA (i := 21) (v := .bool true) (y := Or.inl ⟨by rfl, fun wS hSw => by (try dsimp only at hSw); go_simp⟩) (s := hHeld) (h := ?_)
    refine tkA (i := 22) (v := .pointer (some ⟨w.heap.size, 31, none⟩)) (y := Or.inl ⟨by rfl, fun wS hSw => by (try dsimp only at hSw); go_simp⟩) (s := hHeld) (h := ?_)
    refine tkA (i := 23) (v := .slice a.s p.subs.length a.sc) (y := Or.inl ⟨by rfl, fun wS hSw => by (try dsimp only at hSw); have cS : wS.cell? ⟨w.heap.size, 31, none⟩ = some (.slice a.s p.subs.length a.sc) := hSw.1.cell 31; clear hSw; go_simp⟩) (s := hHeld) (h := ?_)
    refine tkA (i := 24) (v := .pointer (some ⟨w.heap.size + 1, 31, none⟩)) (y := Or.inl ⟨by rfl, fun wS hSw => by (try dsimp only at hSw); go_simp⟩) (s := hHeld) (h := ?_)
    refine tkA (i := 25) (v := .slice b.s q.subs.length b.sc) (y := Or.inl ⟨by rfl, fun wS hSw => by (try dsimp only at hSw); have cS : wS.cell? ⟨w.heap.size + 1, 31, none⟩ = some (.slice b.s q.subs.length b.sc) := hSw.2.cell 31; clear hSw; go_simp⟩) (s := hHeld) (h := ?_)
    refine wpAnyH_ready (rs := [26]) (by kernel_rfl) (by simp) ?_
    refine (AllReadyH.cons (get_ops _ _ _ rfl) (fun K hK => ?_) AllReadyH.nil)
    go_simp
    go_at_call 71
    refine (C3.out v5 HPv5.out HOv5.out).mono ?_
    rintro e v6 ⟨rfl, hb⟩
    have HBv6 : Hid (Below w.heap.size w v6) := Lib.hid (stepB HBv5.out hb)
    have HQv6 : Hid (MT 33 v6 w.heap.size (pkC p a)) := Lib.hid (MT.step HQv5.out hb)
    have HXv6 : Hid (MT 33 v6 (w.heap.size + 1) (pkC q b)) := Lib.hid (MT.step HXv5.out hb)
    have HPv6 : Hid (PIn v6 p a) := Lib.hid (PIn.step HPv5.out hb)
    have HOv6 : Hid (PIn v6 q b) := Lib.hid (PIn.step HOv5.out hb)
    clear HBv5 HQv5 HXv5 HPv5 HOv5
    clear hHeld hb
    go_wp2_with fail
    refine hK.out _ _ ⟨HQv6.out, HXv6.out⟩ (fun hHeld => ?_)
    clear hK K
    try simp only [Act.put, List.setIfInBounds_toArray, List.set_cons_zero, List.set_cons_succ]
    refine tkA (i := 27) (v := .bool true) (y := Or.inl ⟨by rfl, fun wS hSw => by (try dsimp only at hSw); go_simp⟩) (s := hHeld) (h := ?_)
    refine tkA (i := 28) (v := .bool true) (y := Or.inl ⟨by rfl, fun wS hSw => by (try dsimp only at hSw); go_simp⟩) (s := hHeld) (h := ?_)
    refine tkA (i := 29) (v := .pointer (some ⟨w.heap.size, 32, none⟩)) (y := Or.inl ⟨by rfl, fun wS hSw => by (try dsimp only at hSw); go_simp⟩) (s := hHeld) (h := ?_)
    refine tkA (i := 30) (v := .slice a.f p.filters.length a.fc) (y := Or.inl ⟨by rfl, fun wS hSw => by (try dsimp only at hSw); have cS : wS.cell? ⟨w.heap.size, 32, none⟩ = some (.slice a.f p.filters.length a.fc) := hSw.1.cell 32; clear hSw; go_simp⟩) (s := hHeld) (h := ?_)
    refine tkA (i := 31) (v := .pointer (some ⟨w.heap.size + 1, 32, none⟩)) (y := Or.inl ⟨by rfl, fun wS hSw => by (try dsimp only at hSw); go_simp⟩) (s := hHeld) (h := ?_)
    refine tkA (i := 32) (v := .slice b.f q.filters.length b.fc) (y := Or.inl ⟨by rfl, fun wS hSw => by (try dsimp only at hSw); have cS : wS.cell? ⟨w.heap.size + 1, 32, none⟩ = some (.slice b.f q.filters.length b.fc) := hSw.2.cell 32; clear hSw; go_simp⟩) (s := hHeld) (h := ?_)
    refine wpAnyH_ready (rs := [33]) (by kernel_rfl) (by simp) ?_
    refine (AllReadyH.cons (get_ops _ _ _ rfl) (fun K hK => ?_) AllReadyH.nil)
    go_simp
    go_at_call 72
    refine (C4.out v6 HPv6.out HOv6.out).mono ?_
    rintro e v7 ⟨rfl, hb⟩
    have HBv7 : Hid (Below w.heap.size w v7) := Lib.hid (stepB HBv6.out hb)
    have HQv7 : Hid (MT 33 v7 w.heap.size (pkC p a)) := Lib.hid (MT.step HQv6.out hb)
    have HXv7 : Hid (MT 33 v7 (w.heap.size + 1) (pkC q b)) := Lib.hid (MT.step HXv6.out hb)
    have HPv7 : Hid (PIn v7 p a) := Lib.hid (PIn.step HPv6.out hb)
    have HOv7 : Hid (PIn v7 q b) := Lib.hid (PIn.step HOv6.out hb)
    clear HBv6 HQv6 HXv6 HPv6 HOv6
    clear hHeld hb
    go_wp2_with fail
    refine hK.out _ _ ⟨HQv7.out, HXv7.out⟩ (fun hHeld => ?_)
    clear hK K
    try simp only [Act.put, List.setIfInBounds_toArray, List.set_cons_zero, List.set_cons_succ]
    refine tkA (i := 34) (v := .bool true) (y := Or.inl ⟨by rfl, fun wS hSw => by (try dsimp only at hSw); go_simp⟩) (s := hHeld) (h := ?_)
    refine tkA (i := 35) (v := .bool true) (y := Or.inl ⟨by rfl, fun wS hSw => by (try dsimp only at hSw); go_simp⟩) (s := hHeld) (h := ?_)
    refine tkA (i := 36) (v := .pointer (some ⟨w.heap.size, 33, none⟩)) (y := Or.inl ⟨by rfl, fun wS hSw => by (try dsimp only at hSw); go_simp⟩) (s := hHeld) (h := ?_)
    refine tkA (i := 37) (v := .slice a.c p.codes.length a.cc) (y := Or.inl ⟨by rfl, fun wS hSw => by (try dsimp only at hSw); have cS : wS.cell? ⟨w.heap.size, 33, none⟩ = some (.slice a.c p.codes.length a.cc) := hSw.1.cell 33; clear hSw; go_simp⟩) (s := hHeld) (h := ?_)
    refine tkA (i := 38) (v := .pointer (some ⟨w.heap.size + 1, 33, none⟩)) (y := Or.inl ⟨by rfl, fun wS hSw => by (try dsimp only at hSw); go_simp⟩) (s := hHeld) (h := ?_)
    refine tkA (i := 39) (v := .slice b.c q.codes.length b.cc) (y := Or.inl ⟨by rfl, fun wS hSw => by (try dsimp only at hSw); have cS : wS.cell? ⟨w.heap.size + 1, 33, none⟩ = some (.slice b.c q.codes.length b.cc) := hSw.2.cell 33; clear hSw; go_simp⟩) (s := hHeld) (h := ?_)
    refine wpAnyH_ready (rs := [40]) (by kernel_rfl) (by simp) ?_
    refine (AllReadyH.cons (get_ops _ _ _ rfl) (fun K hK => ?_) AllReadyH.nil)
    go_simp
    go_at_call 73
    refine (C5.out v7 HPv7.out HOv7.out).mono ?_
    rintro e v8 ⟨rfl, hb⟩
    have HBv8 : Hid (Below w.heap.size w v8) := Lib.hid (stepB HBv7.out hb)
    have HQv8 : Hid (MT 33 v8 w.heap.size (pkC p a)) := Lib.hid (MT.step HQv7.out hb)
    have HXv8 : Hid (MT 33 v8 (w.heap.size + 1) (pkC q b)) := Lib.hid (MT.step HXv7.out hb)
    have HPv8 : Hid (PIn v8 p a) := Lib.hid (PIn.step HPv7.out hb)
    have HOv8 : Hid (PIn v8 q b) := Lib.hid (PIn.step HOv7.out hb)
    clear HBv7 HQv7 HXv7 HPv7 HOv7
    clear hHeld hb
    go_wp2_with fail
    refine hK.out _ _ ⟨HQv8.out, HXv8.out⟩ (fun hHeld => ?_)
    clear hK K
    try simp only [Act.put, List.setIfInBounds_toArray, List.set_cons_zero, List.set_cons_succ]
    refine tkA (i := 41) (v := .bool false) (y := Or.inl ⟨by rfl, fun wS hSw => by (try dsimp only at hSw); go_simp⟩) (s := hHeld) (h := ?_)
    refine tkA (i := 42) (v := .bool false) (y := Or.inl ⟨by rfl, fun wS hSw => by (try dsimp only at hSw); go_simp⟩) (s := hHeld) (h := ?_)
    refine wpAnyH_done (by kernel_rfl) ?_ _
    go_wp2
    go_ret
    exact ⟨retb HR.symm, HBv8.out⟩
  replace HR : r = true := HR
  go_enter Tryz.func41, Tryz.ntmps41
  go_upto_region 1 with fail
  rw [← HW1.out]
  obtain ⟨v1, hv1⟩ : ∃ v1, v1 = World.drew w1 := ⟨_, rfl⟩
  have hbD : Below w1.heap.size w1 v1 := by rw [hv1]; exact (Below.refl _ _).drew
  have HBv1 : Hid (Below w.heap.size w v1) := Lib.hid (stepB HBw1.out hbD)
  have HQv1 : Hid (MT 33 v1 w.heap.size (pkC p a)) := Lib.hid (MT.step HQw1.out hbD)
  have HXv1 : Hid (MT 33 v1 (w.heap.size + 1) (pkC q b)) := Lib.hid (MT.step HXw1.out hbD)
  have HPv1 : Hid (PIn v1 p a) := Lib.hid (PIn.step HPw1.out hbD)
  have HOv1 : Hid (PIn v1 q b) := Lib.hid (PIn.step HOw1.out hbD)
  clear HBw1 HQw1 HXw1 HPw1 HOw1
  have hbd : (fun w' => MT 33 w' w.heap.size (pkC p a) ∧ MT 33 w' (w.heap.size + 1) (pkC q b)) (World.drew w1) := by rw [← hv1]; exact ⟨HQv1.out, HXv1.out⟩
  have hSD : (fun w' => MT 33 w' w.heap.size (pkC p a) ∧ MT 33 w' (w.heap.size + 1) (pkC q b)) v1 := ⟨HQv1.out, HXv1.out⟩
  have HWD := Lib.hid hv1
  clear hv1 hbD
  refine wp_region_held_drew (S := fun w' => MT 33 w' w.heap.size (pkC p a) ∧ MT 33 w' (w.heap.size + 1) (pkC q b)) (by kernel_rfl) hbd (fun hHeld => ?_)
  rw [← HWD.out]
  clear hHeld
  have hHeld := hSD
  clear hSD hbd HWD
  refine tkA (i := 0) (v := .agg (pkC p a).toArray) (y := Or.inl ⟨by rfl, fun wS hSw => by (try dsimp only at hSw); exact exec_load 33 _ rfl ⟨w.heap.size, 0, none⟩ (by go_simp) _ (run_loadVar_row wS w.heap.size 33 33 _ (0, 0) _ hSw.1 Tryz.underlying33 rfl info33)⟩) (s := hHeld) (h := ?_)
  refine tkA (i := 2) (v := .agg (pkC q b).toArray) (y := Or.inl ⟨by rfl, fun wS hSw => by (try dsimp only at hSw); exact exec_load 33 _ rfl ⟨w.heap.size + 1, 0, none⟩ (by go_simp) _ (run_loadVar_row wS (w.heap.size + 1) 33 33 _ (0, 0) _ hSw.2 Tryz.underlying33 rfl info33)⟩) (s := hHeld) (h := ?_)
  refine wpAnyH_ready (rs := [1]) (by kernel_rfl) (by simp) ?_
  refine (AllReadyH.cons (get_ops _ _ _ rfl) (fun K hK => ?_) AllReadyH.nil)
  go_simp
  go_at_call 69
  refine (C0.out v1).mono ?_
  rintro e v2 ⟨rfl, hb⟩
  have HBv2 : Hid (Below w.heap.size w v2) := Lib.hid (stepB HBv1.out hb)
  have HQv2 : Hid (MT 33 v2 w.heap.size (pkC p a)) := Lib.hid (MT.step HQv1.out hb)
  have HXv2 : Hid (MT 33 v2 (w.heap.size + 1) (pkC q b)) := Lib.hid (MT.step HXv1.out hb)
  have HPv2 : Hid (PIn v2 p a) := Lib.hid (PIn.step HPv1.out hb)
  have HOv2 : Hid (PIn v2 q b) := Lib.hid (PIn.step HOv1.out hb)
  clear HBv1 HQv1 HXv1 HPv1 HOv1
  clear hHeld hb
  go_wp2_with fail
  refine hK.out _ _ ⟨HQv2.out, HXv2.out⟩ (fun hHeld => ?_)
  clear hK K
  try simp only [Act.put, List.setIfInBounds_toArray, List.set_cons_zero, List.set_cons_succ]
  refine wpAnyH_ready (rs := [3]) (by kernel_rfl) (by simp) ?_
  refine (AllReadyH.cons (get_ops _ _ _ rfl) (fun K hK => ?_) AllReadyH.nil)
  go_simp
  go_at_call 69
  refine (C0'.out v2).mono ?_
  rintro e v3 ⟨rfl, hb⟩
  have HBv3 : Hid (Below w.heap.size w v3) := Lib.hid (stepB HBv2.out hb)
  have HQv3 : Hid (MT 33 v3 w.heap.size (pkC p a)) := Lib.hid (MT.step HQv2.out hb)
  have HXv3 : Hid (MT 33 v3 (w.heap.size + 1) (pkC q b)) := Lib.hid (MT.step HXv2.out hb)
  have HPv3 : Hid (PIn v3 p a) := Lib.hid (PIn.step HPv2.out hb)
  have HOv3 : Hid (PIn v3 q b) := Lib.hid (PIn.step HOv2.out hb)
  clear HBv2 HQv2 HXv2 HPv2 HOv2
  clear hHeld hb
  go_wp2_with fail
  refine hK.out _ _ ⟨HQv3.out, HXv3.out⟩ (fun hHeld => ?_)
  clear hK K
  try simp only [Act.put, List.setIfInBounds_toArray, List.set_cons_zero, List.set_cons_succ]
  refine tkA (i := 4) (v := .bool true) (y := Or.inl ⟨by rfl, fun wS hSw => by (try dsimp only at hSw); exact exec_bin .eql _ _ _ _ rfl _ _ (by go_simp) (by go_simp) (run_eqGuard_agg wS _ _ _ _ _ _ (by kernel_rfl)) _ (HE.out wS)⟩) (s := hHeld) (h := ?_)
  refine tkA (i := 5) (v := .bool true) (y := Or.inl ⟨by rfl, fun wS hSw => by (try dsimp only at hSw); go_simp⟩) (s := hHeld) (h := ?_)
  refine tkA (i := 6) (v := .pointer (some ⟨w.heap.size, 3, none⟩)) (y := Or.inl ⟨by rfl, fun wS hSw => by (try dsimp only at hSw); go_simp⟩) (s := hHeld) (h := ?_)
  refine tkA (i := 7) (v := msgV p.msg a.m a.mc) (y := Or.inl ⟨by rfl, fun wS hSw => by (try dsimp only at hSw); exact exec_load 27 _ rfl ⟨w.heap.size, 3, none⟩ (by go_simp) _ (run_load_part wS w.heap.size 3 9 33 27 _ (0, 0) _ hSw.1 Tryz.underlying27 rfl info26 (by rw [pkC_len]; decide))⟩) (s := hHeld) (h := ?_)
  refine tkA (i := 8) (v := .pointer (some ⟨w.heap.size + 1, 3, none⟩)) (y := Or.inl ⟨by rfl, fun wS hSw => by (try dsimp only at hSw); go_simp⟩) (s := hHeld) (h := ?_)
  refine tkA (i := 9) (v := msgV q.msg b.m b.mc) (y := Or.inl ⟨by rfl, fun wS hSw => by (try dsimp only at hSw); exact exec_load 27 _ rfl ⟨w.heap.size + 1, 3, none⟩ (by go_simp) _ (run_load_part wS (w.heap.size + 1) 3 9 33 27 _ (0, 0) _ hSw.2 Tryz.underlying27 rfl info26 (by rw [pkC_len]; decide))⟩) (s := hHeld) (h := ?_)
  refine wpAnyH_ready (rs := [10]) (by kernel_rfl) (by simp) ?_
  refine (AllReadyH.cons (get_ops _ _ _ rfl) (fun K hK => ?_) AllReadyH.nil)
  go_simp
  go_at_call 70
  refine (C1.out v3 HPv3.out HOv3.out).mono ?_
  rintro e v4 ⟨rfl, hb⟩
  have HBv4 : Hid (Below w.heap.size w v4) := Lib.hid (stepB HBv3.out hb)
  have HQv4 : Hid (MT 33 v4 w.heap.size (pkC p a)) := Lib.hid (MT.step HQv3.out hb)
  have HXv4 : Hid (MT 33 v4 (w.heap.size + 1) (pkC q b)) := Lib.hid (MT.step HXv3.out hb)
  have HPv4 : Hid (PIn v4 p a) := Lib.hid (PIn.step HPv3.out hb)
  have HOv4 : Hid (PIn v4 q b) := Lib.hid (PIn.step HOv3.out hb)
  clear HBv3 HQv3 HXv3 HPv3 HOv3
  clear hHeld hb
  go_wp2_with fail
  refine hK.out _ _ ⟨HQv4.out, HXv4.out⟩ (fun hHeld => ?_)
  clear hK K
  try simp only [Act.put, List.setIfInBounds_toArray, List.set_cons_zero, List.set_cons_succ]
  refine tkA (i := 11) (v := .bool true) (y := Or.inl ⟨by rfl, fun wS hSw => by (try dsimp only at hSw); go_simp⟩) (s := hHeld) (h := ?_)
  refine tkA (i := 12) (v := .bool true) (y := Or.inl ⟨by rfl, fun wS hSw => by (try dsimp only at hSw); go_simp⟩) (s := hHeld) (h := ?_)
  refine tkA (i := 13) (v := .pointer (some ⟨w.heap.size, 18, none⟩)) (y := Or.inl ⟨by rfl, fun wS hSw => by (try dsimp only at hSw); go_simp⟩) (s := hHeld) (h := ?_)
  refine tkA (i := 14) (v := .pointer (some ⟨w.heap.size, 20, none⟩)) (y := Or.inl ⟨by rfl, fun wS hSw => by (try dsimp only at hSw); go_simp⟩) (s := hHeld) (h := ?_)
  refine tkA (i := 15) (v := msgV p.wmsg a.v a.vc) (y := Or.inl ⟨by rfl, fun wS hSw => by (try dsimp only at hSw); exact exec_load 27 _ rfl ⟨w.heap.size, 20, none⟩ (by go_simp) _ (run_load_part wS w.heap.size 20 9 33 27 _ (0, 0) _ hSw.1 Tryz.underlying27 rfl info26 (by rw [pkC_len]; decide))⟩) (s := hHeld) (h := ?_)
  refine tkA (i := 16) (v := .pointer (some ⟨w.heap.size + 1, 18, none⟩)) (y := Or.inl ⟨by rfl, fun wS hSw => by (try dsimp only at hSw); go_simp⟩) (s := hHeld) (h := ?_)
  refine tkA (i := 17) (v := .pointer (some ⟨w.heap.size + 1, 20, none⟩)) (y := Or.inl ⟨by rfl, fun wS hSw => by (try dsimp only at hSw); go_simp⟩) (s := hHeld) (h := ?_)
  refine tkA (i := 18) (v := msgV q.wmsg b.v b.vc) (y := Or.inl ⟨by rfl, fun wS hSw => by (try dsimp only at hSw); exact exec_load 27 _ rfl ⟨w.heap.size + 1, 20, none⟩ (by go_simp) _ (run_load_part wS (w.heap.size + 1) 20 9 33 27 _ (0, 0) _ hSw.2 Tryz.underlying27 rfl info26 (by rw [pkC_len]; decide))⟩) (s := hHeld) (h := ?_)
  refine wpAnyH_ready (rs := [19]) (by kernel_rfl) (by simp) ?_
  refine (AllReadyH.cons (get_ops _ _ _ rfl) (fun K hK => ?_) AllReadyH.nil)
  go_simp
  go_at_call 70
  refine (C2.out v4 HPv4.out HOv4.out).mono ?_
  rintro e v5 ⟨rfl, hb⟩
  have HBv5 : Hid (Below w.heap.size w v5) := Lib.hid (stepB HBv4.out hb)
  have HQv5 : Hid (MT 33 v5 w.heap.size (pkC p a)) := Lib.hid (MT.step HQv4.out hb)
  have HXv5 : Hid (MT 33 v5 (w.heap.size + 1) (pkC q b)) := Lib.hid (MT.step HXv4.out hb)
  have HPv5 : Hid (PIn v5 p a) := Lib.hid (PIn.step HPv4.out hb)
  have HOv5 : Hid (PIn v5 q b) := Lib.hid (PIn.step HOv4.out hb)
  clear HBv4 HQv4 HXv4 HPv4 HOv4
  clear hHeld hb
  go_wp2_with fail
  refine hK.out _ _ ⟨HQv5.out, HXv5.out⟩ (fun hHeld => ?_)
  clear hK K
  try simp only [Act.put, List.setIfInBounds_toArray, List.set_cons_zero, List.set_cons_succ]
  refine tkA (i := 20) (v := .bool true) (y := Or.inl ⟨by rfl, fun wS hSw => by (try dsimp only at hSw); go_simp⟩) (s := hHeld) (h := ?_)
  refine tkA (i := 21) (v := .bool true) (y := Or.inl ⟨by rfl, fun wS hSw => by (try dsimp only at hSw); go_simp⟩) (s := hHeld) (h := ?_)
  refine tkA (i := 22) (v := .pointer (some ⟨w.heap.size, 31, none⟩)) (y := Or.inl ⟨by rfl, fun wS hSw => by (try dsimp only at hSw); go_simp⟩) (s := hHeld) (h := ?_)
  refine tkA (i := 23) (v := .slice a.s p.subs.length a.sc) (y := Or.inl ⟨by rfl, fun wS hSw => by (try dsimp only at hSw); have cS : wS.cell? ⟨w.heap.size, 31, none⟩ = some (.slice a.s p.subs.length a.sc) := hSw.1.cell 31; clear hSw; go_simp⟩) (s := hHeld) (h := ?_)
  refine tkA (i := 24) (v := .pointer (some ⟨w.heap.size + 1, 31, none⟩)) (y := Or.inl ⟨by rfl, fun wS hSw => by (try dsimp only at hSw); go_simp⟩) (s := hHeld) (h := ?_)
  refine tkA (i := 25) (v := .slice b.s q.subs.length b.sc) (y := Or.inl ⟨by rfl, fun wS hSw => by (try dsimp only at hSw); have cS : wS.cell? ⟨w.heap.size + 1, 31, none⟩ = some (.slice b.s q.subs.length b.sc) := hSw.2.cell 31; clear hSw; go_simp⟩) (s := hHeld) (h := ?_)
  refine wpAnyH_ready (rs := [26]) (by kernel_rfl) (by simp) ?_
  refine (AllReadyH.cons (get_ops _ _ _ rfl) (fun K hK => ?_) AllReadyH.nil)
  go_simp
  go_at_call 71
  refine (C3.out v5 HPv5.out HOv5.out).mono ?_
  rintro e v6 ⟨rfl, hb⟩
  have HBv6 : Hid (Below w.heap.size w v6) := Lib.hid (stepB HBv5.out hb)
  have HQv6 : Hid (MT 33 v6 w.heap.size (pkC p a)) := Lib.hid (MT.step HQv5.out hb)
  have HXv6 : Hid (MT 33 v6 (w.heap.size + 1) (pkC q b)) := Lib.hid (MT.step HXv5.out hb)
  have HPv6 : Hid (PIn v6 p a) := Lib.hid (PIn.step HPv5.out hb)
  have HOv6 : Hid (PIn v6 q b) := Lib.hid (PIn.step HOv5.out hb)
  clear HBv5 HQv5 HXv5 HPv5 HOv5
  clear hHeld hb
  go_wp2_with fail
  refine hK.out _ _ ⟨HQv6.out, HXv6.out⟩ (fun hHeld => ?_)
  clear hK K
  try simp only [Act.put, List.setIfInBounds_toArray, List.set_cons_zero, List.set_cons_succ]
  refine tkA (i := 27) (v := .bool true) (y := Or.inl ⟨by rfl, fun wS hSw => by (try dsimp only at hSw); go_simp⟩) (s := hHeld) (h := ?_)
  refine tkA (i := 28) (v := .bool true) (y := Or.inl ⟨by rfl, fun wS hSw => by (try dsimp only at hSw); go_simp⟩) (s := hHeld) (h := ?_)
  refine tkA (i := 29) (v := .pointer (some ⟨w.heap.size, 32, none⟩)) (y := Or.inl ⟨by rfl, fun wS hSw => by (try dsimp only at hSw); go_simp⟩) (s := hHeld) (h := ?_)
  refine tkA (i := 30) (v := .slice a.f p.filters.length a.fc) (y := Or.inl ⟨by rfl, fun wS hSw => by (try dsimp only at hSw); have cS : wS.cell? ⟨w.heap.size, 32, none⟩ = some (.slice a.f p.filters.length a.fc) := hSw.1.cell 32; clear hSw; go_simp⟩) (s := hHeld) (h := ?_)
  refine tkA (i := 31) (v := .pointer (some ⟨w.heap.size + 1, 32, none⟩)) (y := Or.inl ⟨by rfl, fun wS hSw => by (try dsimp only at hSw); go_simp⟩) (s := hHeld) (h := ?_)
  refine tkA (i := 32) (v := .slice b.f q.filters.length b.fc) (y := Or.inl ⟨by rfl, fun wS hSw => by (try dsimp only at hSw); have cS : wS.cell? ⟨w.heap.size + 1, 32, none⟩ = some (.slice b.f q.filters.length b.fc) := hSw.2.cell 32; clear hSw; go_simp⟩) (s := hHeld) (h := ?_)
  refine wpAnyH_ready (rs := [33]) (by kernel_rfl) (by simp) ?_
  refine (AllReadyH.cons (get_ops _ _ _ rfl) (fun K hK => ?_) AllReadyH.nil)
  go_simp
  go_at_call 72
  refine (C4.out v6 HPv6.out HOv6.out).mono ?_
  rintro e v7 ⟨rfl, hb⟩
  have HBv7 : Hid (Below w.heap.size w v7) := Lib.hid (stepB HBv6.out hb)
  have HQv7 : Hid (MT 33 v7 w.heap.size (pkC p a)) := Lib.hid (MT.step HQv6.out hb)
  have HXv7 : Hid (MT 33 v7 (w.heap.size + 1) (pkC q b)) := Lib.hid (MT.step HXv6.out hb)
  have HPv7 : Hid (PIn v7 p a) := Lib.hid (PIn.step HPv6.out hb)
  have HOv7 : Hid (PIn v7 q b) := Lib.hid (PIn.step HOv6.out hb)
  clear HBv6 HQv6 HXv6 HPv6 HOv6
  clear hHeld hb
  go_wp2_with fail
  refine hK.out _ _ ⟨HQv7.out, HXv7.out⟩ (fun hHeld => ?_)
  clear hK K
  try simp only [Act.put, List.setIfInBounds_toArray, List.set_cons_zero, List.set_cons_succ]
  refine tkA (i := 34) (v := .bool true) (y := Or.inl ⟨by rfl, fun wS hSw => by (try dsimp only at hSw); go_simp⟩) (s := hHeld) (h := ?_)
  refine tkA (i := 35) (v := .bool true) (y := Or.inl ⟨by rfl, fun wS hSw => by (try dsimp only at hSw); go_simp⟩) (s := hHeld) (h := ?_)
  refine tkA (i := 36) (v := .pointer (some ⟨w.heap.size, 33, none⟩)) (y := Or.inl ⟨by rfl, fun wS hSw => by (try dsimp only at hSw); go_simp⟩) (s := hHeld) (h := ?_)
  refine tkA (i := 37) (v := .slice a.c p.codes.length a.cc) (y := Or.inl ⟨by rfl, fun wS hSw => by (try dsimp only at hSw); have cS : wS.cell? ⟨w.heap.size, 33, none⟩ = some (.slice a.c p.codes.length a.cc) := hSw.1.cell 33; clear hSw; go_simp⟩) (s := hHeld) (h := ?_)
  refine tkA (i := 38) (v := .pointer (some ⟨w.heap.size + 1, 33, none⟩)) (y := Or.inl ⟨by rfl, fun wS hSw => by (try dsimp only at hSw); go_simp⟩) (s := hHeld) (h := ?_)
  refine tkA (i := 39) (v := .slice b.c q.codes.length b.cc) (y := Or.inl ⟨by rfl, fun wS hSw => by (try dsimp only at hSw); have cS : wS.cell? ⟨w.heap.size + 1, 33, none⟩ = some (.slice b.c q.codes.length b.cc) := hSw.2.cell 33; clear hSw; go_simp⟩) (s := hHeld) (h := ?_)
  refine wpAnyH_ready (rs := [40]) (by kernel_rfl) (by simp) ?_
  refine (AllReadyH.cons (get_ops _ _ _ rfl) (fun K hK => ?_) AllReadyH.nil)
  go_simp
  go_at_call 73
  refine (C5.out v7 HPv7.out HOv7.out).mono ?_
  rintro e v8 ⟨rfl, hb⟩
  have HBv8 : Hid (Below w.heap.size w v8) := Lib.hid (stepB HBv7.out hb)
  have HQv8 : Hid (MT 33 v8 w.heap.size (pkC p a)) := Lib.hid (MT.step HQv7.out hb)
  have HXv8 : Hid (MT 33 v8 (w.heap.size + 1) (pkC q b)) := Lib.hid (MT.step HXv7.out hb)
  have HPv8 : Hid (PIn v8 p a) := Lib.hid (PIn.step HPv7.out hb)
  have HOv8 : Hid (PIn v8 q b) := Lib.hid (PIn.step HOv7.out hb)
  clear HBv7 HQv7 HXv7 HPv7 HOv7
  clear hHeld hb
  go_wp2_with fail
  refine hK.out _ _ ⟨HQv8.out, HXv8.out⟩ (fun hHeld => ?_)
  clear hK K
  try simp only [Act.put, List.setIfInBounds_toArray, List.set_cons_zero, List.set_cons_succ]
  refine tkA (i := 41) (v := .bool true) (y := Or.inl ⟨by rfl, fun wS hSw => by (try dsimp only at hSw); go_simp⟩) (s := hHeld) (h := ?_)
  refine tkA (i := 42) (v := .bool true) (y := Or.inl ⟨by rfl, fun wS hSw => by (try dsimp only at hSw); go_simp⟩) (s := hHeld) (h := ?_)
  refine wpAnyH_done (by kernel_rfl) ?_ _
  go_wp2
  go_ret
  exact ⟨retb HR.symm, HBv8.out⟩

end Go.Proofs.YtomlideijhejfaaGreatDoor
