/-
  What Left, Messages, Pubrel, Publish and Resend of brokerref14 answer, and packets of brokerlaw14 for lists of the same packets. Conditions: the window, the item, the lists read as data; few elements.
  Same of brokerref14 answers true for windows of equal content. Conditions: the windows read as data; few items, with few properties.
-/
import Derived.Test.YtjpikgphfhjilaaGreatDoorVs
import Derived.Test.YtjpikgphfhjilaaGreatDoorSamR
import Derived.Test.YtjpikgphfhjilaaGreatDoorVl
namespace Go.Proofs.YtjpikgphfhjilaaGreatDoor
open Go.RowKit
open S2 (BK Put)

set_option maxRecDepth 20000 in
set_option maxHeartbeats 1000000 in
theorem rleft_any (L : Int) (A : Option Addr) (c : Nat) (xs : List FE) (A2 : Option Addr) (c2 : Nat) (X : List Int) (l : Int) (w : World) (h0 : 0 ≤ L) (h1 : L ≤ 32) (h2 : xs.length ≤ 32) :
    Calls Tryz.prog 22 #[wv L A c xs A2 c2 X l] w fun e w' => e = .returned (.int .i64 (leftR L xs.length)) ∧ Below w.heap.size w w' := by
  by_cases h : L ≤ xs.length
  · have q : decide (L ≤ (xs.length : Int)) = true := decide_eq_true h
    have HR : Hid (0 = leftR L xs.length) := Lib.hid (by unfold leftR; rw [if_pos h])
    go_enter Tryz.func22, Tryz.ntmps22
    go_wp2_with fail
    go_ret
    exact ⟨S2.ret_i HR.out, S2.below_new w _⟩
  · have q : decide (L ≤ (xs.length : Int)) = false := decide_eq_false h
    have HR : Hid (L - xs.length = leftR L xs.length) := Lib.hid (by unfold leftR; rw [if_neg h])
    have e : wrap64 (L - xs.length) = L - xs.length := wrap64_id _ (by omega) (by omega)
    go_enter Tryz.func22, Tryz.ntmps22
    go_wp2_with fail
    go_ret
    exact ⟨S2.ret_i (by first | exact HR.out | (rw [e]; exact HR.out)), S2.below_new w _⟩

def mE (x : FE) : ME := ⟨x.f.m, x.a, x.c⟩
abbrev LstP (B : Nat) (w : World) (v : Value) (ks : List ME) : Prop := Lst 30 gM 9 (fun _ => none) (fun _ => []) B w v ks
abbrev LstQ (B : Nat) (w : World) (v : Value) (ks : List (Pkt × PA)) : Prop := Lst 39 gK 34 (fun _ => none) (fun _ => []) B w v ks

set_option maxRecDepth 20000 in
set_option maxHeartbeats 4000000 in
theorem rpublish_any (x : FE) (d : Bool) (w : World) : Calls Tryz.prog 25 #[fV x, .bool d] w fun e w' => e = .returned (pkV (pubP x.f d) (pubA x.a x.c)) ∧ Below w.heap.size w w' := by
  unfold fV
  go_enter Tryz.func25, Tryz.ntmps25
  go_upto_region 1 with fail
  refine name_world (C := fun w1 => Code.wp _ _ _ _ w1) ((w.alloc (.cells (gF x).toArray 60)).alloc (.cells zeroPk.toArray 39)) ?_
  intro w1 hw1
  obtain ⟨t1, t2, hs0, hB0⟩ := S2.two_laid (v1 := gF x) (v2 := zeroPk) hw1
  have M_w1 := Lib.hid t1
  have K_w1 := Lib.hid t2
  have B_w1 := Lib.hid hB0
  have d0 := t1.cell 0 rfl
  have HLD : Hid ((loadVar 30 ⟨w.heap.size, 2, none⟩).run Tryz.prog w1 = .ok (.agg #[.string x.f.m.topic, .string x.f.m.payload, .int .i64 x.f.m.level, .bool x.f.m.retain, .int .i64 x.f.m.prio, .int .i64 x.f.m.exps, .string x.f.m.frm, .int .i64 x.f.m.seq, .slice x.a x.f.m.props.length x.c]) w1) := Lib.hid (bk_msg t1)
  clear hw1 t1 t2 hs0 hB0
  go_wp2_with first
    | (refine wpList_load_v (by rfl) 30 _ rfl ⟨w.heap.size, 2, none⟩ rfl _ HLD.out ?_)
    | (refine S2.wpList_store_all (by rfl) 39 (.tmp 4) (.tmp 10) rfl rfl (w.heap.size + 1) rfl (pkC (pubP x.f d) (pubA x.a x.c)) rfl 39 zeroPk K_w1.out pktSize rfl (pkOnes _ _) ?_; intro w2 hM hP; have M2 := Lib.hid hM; have B2 := Lib.hid (hP.below B_w1.out (by omega)); clear hM hP)
  exact bodyPost_ret (v := pkV (pubP x.f d) (pubA x.a x.c)) (S2.res_cell rfl _ _ (w.heap.size + 1) 39 (pkC (pubP x.f d) (pubA x.a x.c)) _ rfl M2.out Tryz.underlying39 rfl pktSize) rfl ⟨rfl, B2.out⟩

def agA (x : FE) : PA := if x.f.st = 2 then PA.zero else pubA x.a x.c
def kE (x : FE) : Pkt × PA := (againP x.f, agA x)
theorem kE_plain (x : FE) (w : World) (B : Nat) (h : PL w B x.a x.f.m.props) : KP w B (kE x) := by
  unfold kE agA againP
  by_cases hs : x.f.st = 2
  · rw [if_pos hs, if_pos hs]; exact KP.rel _ _ _ _
  · rw [if_neg hs, if_neg hs]; exact KP.pub h
theorem kE_rel {x : FE} (h : x.f.st = 2) : kE x = (relP x.f.id, PA.zero) := by unfold kE agA againP; rw [if_pos h, if_pos h]
theorem kE_pub {x : FE} (h : ¬ x.f.st = 2) : kE x = (pubP x.f true, pubA x.a x.c) := by unfold kE agA againP; rw [if_neg h, if_neg h]

theorem KS.at_ {w : World} {B : Nat} {A : Option Addr} {xs : List (Pkt × PA)} (h : KS w B A xs) {j : Nat} {x : Pkt × PA} (hx : xs[j]? = some x) :
    ∃ b o, A = some ⟨b, o, none⟩ ∧ b < B ∧ (∀ i v, (gK x)[i]? = some v → w.cell? ⟨b, o + j * 34 + i, none⟩ = some v) ∧ KP w B x := by
  obtain ⟨b, o, e, hb, hc⟩ := h.1 (Nat.lt_of_le_of_lt (Nat.zero_le _) (List.getElem?_eq_some_iff.1 hx).1)
  exact ⟨b, o, e, hb, fun i v hv => hc j x i v hx hv, h.2 x (List.mem_of_getElem? hx)⟩
theorem load_pk {w : World} {b o : Nat} {x : Pkt × PA} (hc : ∀ i v, (gK x)[i]? = some v → w.cell? ⟨b, o + i, none⟩ = some v) : (loadVar 39 ⟨b, o, none⟩).run Tryz.prog w = .ok (pkV x.1 x.2) w :=
  run_load_cells w b o (gK x) 39 _ hc Tryz.underlying39 rfl pktSize
theorem cells_stepG {L : List Value} {w w' : World} {b k : Nat} (h : ∀ j v, L[j]? = some v → w.cell? ⟨b, k + j, none⟩ = some v) (hb : Below w.heap.size w w') : ∀ j v, L[j]? = some v → w'.cell? ⟨b, k + j, none⟩ = some v := fun j v hv => by
  have h1 := h j v hv
  have hl : b < w.heap.size := World.block_lt_of_cell? w ⟨b, k + j, none⟩ h1
  rw [hb.cell hl]; exact h1
theorem sameP_refl (p : Pkt) : sameP p p = true := by simp [sameP]
theorem sameM_refl (p : Msg) : sameM p p = true := by simp [sameM]
theorem KP.sz {w : World} {B : Nat} {x : Pkt × PA} (h : KP w B x) (hn : x.1.msg.props.length ≤ 100000) : PSz x.1 := ⟨by omega, by rw [h.2.1]; simp, by rw [h.2.2.1]; simp, by rw [h.2.2.2.1]; simp, by rw [h.2.2.2.2]; simp⟩

end Go.Proofs.YtjpikgphfhjilaaGreatDoor
namespace Go.Proofs.YtjpikgphfhjilaaGreatDoor
open Go.RowKit
open S2 (BK Put)

theorem cells_at0 {L : List Value} {w : World} {b k : Nat} {v : Value} (h : ∀ i u, L[i]? = some u → w.cell? ⟨b, k + i, none⟩ = some u) (hv : L[0]? = some v) : w.cell? ⟨b, k, none⟩ = some v := h 0 v hv

set_option maxRecDepth 20000 in
set_option maxHeartbeats 8000000 in
theorem rwsame_any (L : Int) (A : Option Addr) (c : Nat) (xs : List FE) (A2 : Option Addr) (c2 : Nat) (X : List Int) (l : Int) (B : Option Addr) (d : Nat) (ys : List FE) (B2 : Option Addr) (d2 : Nat) (w : World) (h1 : WOk w A c xs A2 c2 X) (h2 : WOk w B d ys B2 d2 X) (he : xs.map FE.f = ys.map FE.f) (hn : xs.length ≤ 100000) (hp : ∀ x ∈ xs, x.f.m.props.length ≤ 100000) (hX : X.length ≤ 100000) :
    Calls Tryz.prog 8 #[wv L A c xs A2 c2 X l, wv L B d ys B2 d2 X l] w fun e w' => e = .returned (.bool true) ∧ Below w.heap.size w w' := by
  have hl : ys.length = xs.length := by have := congrArg List.length he; simpa using this.symm
  have HI : Hid (∀ w1, S2.IL w1 w1.heap.size A2 X → S2.IL w1 w1.heap.size B2 X → Calls Tryz.prog 26 #[S2.pv A2 c2 X l, S2.pv B2 d2 X l] w1 fun e w' => e = .returned (.bool true) ∧ Below w1.heap.size w1 w') := Lib.hid (fun w1 g1 g2 => by
    have := S2.rSame_any A2 B2 c2 d2 X X l l w1 g1 g2 (by omega) (by omega)
    rwa [decide_eq_true rfl] at this)
  have HSM : Hid (∀ (f : Fl) (a : Option Addr) (ca : Nat) (a' : Option Addr) (ca' : Nat) w1, f.m.props.length ≤ 100000 → PL w1 w1.heap.size a f.m.props → PL w1 w1.heap.size a' f.m.props → Calls Tryz.prog 27 #[msgV f.m a ca, msgV f.m a' ca'] w1 fun e w' => e = .returned (.bool true) ∧ Below w1.heap.size w1 w') := Lib.hid (fun f a ca a' ca' w1 hn g1 g2 => by
    have := rSame_any f.m f.m a a' ca ca' w1 g1 g2 (by omega)
    rwa [sameM_refl] at this)
  have HE := Lib.hid he
  have HP := Lib.hid hp
  have H1 := Lib.hid h1
  have H2 := Lib.hid h2
  have q0 : (L != L) = false := by simp
  have q1 : ((xs.length : Int) != (xs.length : Int)) = false := by simp
  have hwy : wv L B d ys B2 d2 X l = .agg #[.int .i64 L, .slice B xs.length d, .slice B2 X.length d2, .int .i64 l] := by unfold wv; rw [hl]
  have hcy : wcs L B d ys B2 d2 X l = [.int .i64 L, .slice B xs.length d, .slice B2 X.length d2, .int .i64 l] := by unfold wcs; rw [hl]
  rw [hwy]
  have HCY := Lib.hid hcy
  clear h1 h2 he hp hwy hcy
  go_enter Tryz.func8, Tryz.ntmps8
  go_upto_region 1 with fail
  refine name_world (C := fun w1 => Code.wp _ _ _ _ w1) ((w.alloc (.cells (wcs L A c xs A2 c2 X l).toArray 27)).alloc (.cells ([.int .i64 L, .slice B xs.length d, .slice B2 X.length d2, .int .i64 l] : List Value).toArray 27)) ?_
  intro w1 hw1
  obtain ⟨t1, t2, hs0, hB0⟩ := S2.two_laid (v1 := wcs L A c xs A2 c2 X l) (v2 := [.int .i64 L, .slice B xs.length d, .slice B2 X.length d2, .int .i64 l]) hw1
  have T1 := Lib.hid t1
  have T2 := Lib.hid t2
  have T2Y : Hid (BK 27 w1 (w.heap.size + 1) (wcs L B d ys B2 d2 X l)) := Lib.hid (by rw [HCY.out]; exact t2)
  have HB := Lib.hid hB0
  have O1 := Lib.hid (H1.out.step hB0)
  have O2 := Lib.hid (H2.out.step hB0)
  have d0 := t1.cell 0 rfl
  have e0 := t2.cell 0 rfl
  have d1 := t1.cell 1 rfl
  have e1 := t2.cell 1 rfl
  clear hw1 t1 t2 hs0 hB0
  go_wp2_with first
    | (refine wpList_load_v (by rfl) 25 _ rfl ⟨w.heap.size, 2, none⟩ rfl (S2.pv A2 c2 X l) (bk_pool T1.out) ?_)
    | (refine wpList_load_v (by rfl) 25 _ rfl ⟨w.heap.size + 1, 2, none⟩ rfl (S2.pv B2 d2 X l) (bk_pool T2Y.out) ?_)
  refine (HI.out w1 O1.out.2.2.1 O2.out.2.2.1).mono ?_
  rintro e w2 ⟨rfl, hb⟩
  have B_w2 := Lib.hid (stepB HB.out hb)
  have T_w2 := Lib.hid (T1.out.step hb)
  have U_w2 := Lib.hid (T2.out.step hb)
  have O_w2 := Lib.hid (O1.out.step hb)
  have Q_w2 := Lib.hid (O2.out.step hb)
  have f1 := T_w2.out.cell 1 rfl
  have g1 := U_w2.out.cell 1 rfl
  clear hb d0 e0 d1 e1 T1 T2 T2Y HI HB O1 O2
  go_wp2_with fail
  clear f1 g1
  go_loopg [5] xs.length (fun g v wr => ∃ k : Nat, k + g = xs.length ∧ v = .int .i64 k ∧ Below w2.heap.size w2 wr)
  case atStart => exact ⟨0, by omega, rfl, Below.refl _ _⟩
  case round =>
    obtain ⟨k, hkg, rfl, hb0⟩ := hrel
    have HB0 := Lib.hid hb0
    have HK := Lib.hid hkg
    have T_wr := Lib.hid (T_w2.out.step hb0)
    have U_wr := Lib.hid (U_w2.out.step hb0)
    have O_wr := Lib.hid (O_w2.out.step hb0)
    have Q_wr := Lib.hid (Q_w2.out.step hb0)
    have B_wr := Lib.hid (stepB B_w2.out hb0)
    have f1 := T_wr.out.cell 1 rfl
    clear hb0
    cases gk with
    | zero =>
      obtain rfl : k = xs.length := by omega
      clear hkg
      go_wp2
      go_ret
      exact ⟨rfl, B_wr.out⟩
    | succ g =>
      have hlt : k < xs.length := by omega
      have e3 : decide ((k : Int) < (xs.length : Int)) = true := decide_eq_true (by omega)
      have e3' : decide (k < xs.length) = true := decide_eq_true hlt
      obtain ⟨x, hx⟩ : ∃ x, xs[k]? = some x := ⟨_, List.getElem?_eq_getElem hlt⟩
      obtain ⟨y, hy⟩ : ∃ y, ys[k]? = some y := ⟨_, List.getElem?_eq_getElem (by omega)⟩
      have hxy : y.f = x.f := by
        have h1 : (xs.map FE.f)[k]? = some x.f := by rw [List.getElem?_map, hx]; rfl
        have h2 : (ys.map FE.f)[k]? = some y.f := by rw [List.getElem?_map, hy]; rfl
        rw [HE.out, h2] at h1
        exact Option.some.inj h1
      obtain ⟨fy, ay, cy⟩ := y
      obtain ⟨fx, ax, cx⟩ := x
      dsimp only at hxy
      subst hxy
      obtain ⟨b, o, hA3, hbB, hc, hpl⟩ := O_wr.out.1.at_ hx
      obtain ⟨b', o', hB3, hbB', hc', hpl'⟩ := Q_wr.out.1.at_ hy
      have HS1 := Lib.hid (HSM.out fy ax cx ay cy)
      have HPX : Hid (fy.m.props.length ≤ 100000) := Lib.hid (HP.out _ (List.mem_of_getElem? hx))
      have C_wr : Hid (∀ i v, (gF ⟨fy, ax, cx⟩)[i]? = some v → wr.cell? ⟨b, o + k * 11 + i, none⟩ = some v) := Lib.hid hc
      have D_wr : Hid (∀ i v, (gF ⟨fy, ay, cy⟩)[i]? = some v → wr.cell? ⟨b', o' + k * 11 + i, none⟩ = some v) := Lib.hid hc'
      have P_wr : Hid (PL wr wr.heap.size ax fy.m.props) := Lib.hid hpl
      have R_wr : Hid (PL wr wr.heap.size ay fy.m.props) := Lib.hid hpl'
      have H_wr := HB0
      subst hA3 hB3
      have j1 : (0 : Int) ≤ (k : Int) := by omega
      have j2 : (k : Int) < (xs.length : Int) := by omega
      have hlk : k ≤ 100000 := by omega
      clear hx hy hc hc' hpl hpl' hbB hbB' hkg HSM O_wr Q_wr B_wr
      go_upto_region 6 with fail
      clear f1
      obtain ⟨u1, hu1⟩ : ∃ u1, u1 = World.drew wr := ⟨_, rfl⟩
      have hbD : Below wr.heap.size wr u1 := by rw [hu1]; exact (Below.refl _ _).drew
      have H_u1 : Hid (Below w2.heap.size w2 u1) := Lib.hid (stepB H_wr.out hbD)
      have T_u1 : Hid (BK 27 u1 w.heap.size (wcs L (some ⟨b, o, none⟩) c xs A2 c2 X l)) := Lib.hid (BK.step T_wr.out hbD)
      have U_u1 : Hid (BK 27 u1 (w.heap.size + 1) [.int .i64 L, .slice (some ⟨b', o', none⟩) xs.length d, .slice B2 X.length d2, .int .i64 l]) := Lib.hid (BK.step U_wr.out hbD)
      have C_u1 : Hid (∀ i v, (gF ⟨fy, ax, cx⟩)[i]? = some v → u1.cell? ⟨b, o + k * 11 + i, none⟩ = some v) := Lib.hid (cells_stepG C_wr.out hbD)
      have D_u1 : Hid (∀ i v, (gF ⟨fy, ay, cy⟩)[i]? = some v → u1.cell? ⟨b', o' + k * 11 + i, none⟩ = some v) := Lib.hid (cells_stepG D_wr.out hbD)
      have P_u1 : Hid (PL u1 u1.heap.size ax fy.m.props) := Lib.hid (GL.step P_wr.out hbD)
      have R_u1 : Hid (PL u1 u1.heap.size ay fy.m.props) := Lib.hid (GL.step R_wr.out hbD)
      clear H_wr T_wr U_wr C_wr D_wr P_wr R_wr
      have hbd : (fun w' => BK 27 w' w.heap.size (wcs L (some ⟨b, o, none⟩) c xs A2 c2 X l) ∧ BK 27 w' (w.heap.size + 1) [.int .i64 L, .slice (some ⟨b', o', none⟩) xs.length d, .slice B2 X.length d2, .int .i64 l] ∧ (∀ i v, (gF ⟨fy, ax, cx⟩)[i]? = some v → w'.cell? ⟨b, o + k * 11 + i, none⟩ = some v) ∧ (∀ i v, (gF ⟨fy, ay, cy⟩)[i]? = some v → w'.cell? ⟨b', o' + k * 11 + i, none⟩ = some v)) (World.drew wr) := by rw [← hu1]; exact ⟨T_u1.out, U_u1.out, C_u1.out, D_u1.out⟩
      have hSD : (fun w' => BK 27 w' w.heap.size (wcs L (some ⟨b, o, none⟩) c xs A2 c2 X l) ∧ BK 27 w' (w.heap.size + 1) [.int .i64 L, .slice (some ⟨b', o', none⟩) xs.length d, .slice B2 X.length d2, .int .i64 l] ∧ (∀ i v, (gF ⟨fy, ax, cx⟩)[i]? = some v → w'.cell? ⟨b, o + k * 11 + i, none⟩ = some v) ∧ (∀ i v, (gF ⟨fy, ay, cy⟩)[i]? = some v → w'.cell? ⟨b', o' + k * 11 + i, none⟩ = some v)) u1 := ⟨T_u1.out, U_u1.out, C_u1.out, D_u1.out⟩
      have HWD := Lib.hid hu1
      clear hu1 hbD
      refine wp_region_held_drew (S := fun w' => BK 27 w' w.heap.size (wcs L (some ⟨b, o, none⟩) c xs A2 c2 X l) ∧ BK 27 w' (w.heap.size + 1) [.int .i64 L, .slice (some ⟨b', o', none⟩) xs.length d, .slice B2 X.length d2, .int .i64 l] ∧ (∀ i v, (gF ⟨fy, ax, cx⟩)[i]? = some v → w'.cell? ⟨b, o + k * 11 + i, none⟩ = some v) ∧ (∀ i v, (gF ⟨fy, ay, cy⟩)[i]? = some v → w'.cell? ⟨b', o' + k * 11 + i, none⟩ = some v)) (by kernel_rfl) hbd (fun hHeld => ?_)
      rw [← HWD.out]
      clear hHeld
      have hHeld := hSD
      clear hSD hbd HWD
      refine wpAnyH_take (i := 0) (v := (.pointer (some ⟨w.heap.size, 1, none⟩))) (get_ops _ _ _ rfl) (by kernel_rfl) (by kernel_rfl) (by kernel_rfl) (fun _ _ _ h => h) (Or.inl ⟨by rfl, fun wS hSw => by (try dsimp only at hSw); go_simp⟩) hHeld ?_
      try simp only [Act.put, List.setIfInBounds_toArray, List.set_cons_zero, List.set_cons_succ]
      refine wpAnyH_take (i := 1) (v := (.slice (some ⟨b, o, none⟩) xs.length c)) (get_ops _ _ _ rfl) (by kernel_rfl) (by kernel_rfl) (by kernel_rfl) (fun _ _ _ h => h) (Or.inl ⟨by rfl, fun wS hSw => by (try dsimp only at hSw); have cS : wS.cell? ⟨w.heap.size, 1, none⟩ = some (.slice (some ⟨b, o, none⟩) xs.length c) := hSw.1.cell 1 rfl; clear hSw; go_simp⟩) hHeld ?_
      try simp only [Act.put, List.setIfInBounds_toArray, List.set_cons_zero, List.set_cons_succ]
      refine wpAnyH_take (i := 2) (v := .int .i64 ((k : Int))) (get_ops _ _ _ rfl) (by kernel_rfl) (by kernel_rfl) (by kernel_rfl) (fun _ _ _ h => h) (Or.inl ⟨by rfl, fun wS hSw => by (try dsimp only at hSw); go_simp⟩) hHeld ?_
      try simp only [Act.put, List.setIfInBounds_toArray, List.set_cons_zero, List.set_cons_succ]
      refine wpAnyH_take (i := 3) (v := (.pointer (some ⟨b, o + k * 11, none⟩))) (get_ops _ _ _ rfl) (by kernel_rfl) (by kernel_rfl) (by kernel_rfl) (fun _ _ _ h => h) (Or.inl ⟨by rfl, fun wS hSw => by (try dsimp only at hSw); go_simp⟩) hHeld ?_
      try simp only [Act.put, List.setIfInBounds_toArray, List.set_cons_zero, List.set_cons_succ]
      refine wpAnyH_take (i := 4) (v := (.pointer (some ⟨b, o + k * 11, none⟩))) (get_ops _ _ _ rfl) (by kernel_rfl) (by kernel_rfl) (by kernel_rfl) (fun _ _ _ h => h) (Or.inl ⟨by rfl, fun wS hSw => by (try dsimp only at hSw); go_simp⟩) hHeld ?_
      try simp only [Act.put, List.setIfInBounds_toArray, List.set_cons_zero, List.set_cons_succ]
      refine wpAnyH_take (i := 5) (v := .int .i64 fy.id) (get_ops _ _ _ rfl) (by kernel_rfl) (by kernel_rfl) (by kernel_rfl) (fun _ _ _ h => h) (Or.inl ⟨by rfl, fun wS hSw => by (try dsimp only at hSw); have cS : wS.cell? ⟨b, o + k * 11, none⟩ = some (.int .i64 fy.id) := cells_at0 hSw.2.2.1 rfl; clear hSw; go_simp⟩) hHeld ?_
      try simp only [Act.put, List.setIfInBounds_toArray, List.set_cons_zero, List.set_cons_succ]
      refine wpAnyH_take (i := 6) (v := (.pointer (some ⟨w.heap.size + 1, 1, none⟩))) (get_ops _ _ _ rfl) (by kernel_rfl) (by kernel_rfl) (by kernel_rfl) (fun _ _ _ h => h) (Or.inl ⟨by rfl, fun wS hSw => by (try dsimp only at hSw); go_simp⟩) hHeld ?_
      try simp only [Act.put, List.setIfInBounds_toArray, List.set_cons_zero, List.set_cons_succ]
      refine wpAnyH_take (i := 7) (v := (.slice (some ⟨b', o', none⟩) xs.length d)) (get_ops _ _ _ rfl) (by kernel_rfl) (by kernel_rfl) (by kernel_rfl) (fun _ _ _ h => h) (Or.inl ⟨by rfl, fun wS hSw => by (try dsimp only at hSw); have cS : wS.cell? ⟨w.heap.size + 1, 1, none⟩ = some (.slice (some ⟨b', o', none⟩) xs.length d) := hSw.2.1.cell 1 rfl; clear hSw; go_simp⟩) hHeld ?_
      try simp only [Act.put, List.setIfInBounds_toArray, List.set_cons_zero, List.set_cons_succ]
      refine wpAnyH_take (i := 8) (v := .int .i64 ((k : Int))) (get_ops _ _ _ rfl) (by kernel_rfl) (by kernel_rfl) (by kernel_rfl) (fun _ _ _ h => h) (Or.inl ⟨by rfl, fun wS hSw => by (try dsimp only at hSw); go_simp⟩) hHeld ?_
      try simp only [Act.put, List.setIfInBounds_toArray, List.set_cons_zero, List.set_cons_succ]
      refine wpAnyH_take (i := 9) (v := (.pointer (some ⟨b', o' + k * 11, none⟩))) (get_ops _ _ _ rfl) (by kernel_rfl) (by kernel_rfl) (by kernel_rfl) (fun _ _ _ h => h) (Or.inl ⟨by rfl, fun wS hSw => by (try dsimp only at hSw); go_simp⟩) hHeld ?_
      try simp only [Act.put, List.setIfInBounds_toArray, List.set_cons_zero, List.set_cons_succ]
      refine wpAnyH_take (i := 10) (v := (.pointer (some ⟨b', o' + k * 11, none⟩))) (get_ops _ _ _ rfl) (by kernel_rfl) (by kernel_rfl) (by kernel_rfl) (fun _ _ _ h => h) (Or.inl ⟨by rfl, fun wS hSw => by (try dsimp only at hSw); go_simp⟩) hHeld ?_
      try simp only [Act.put, List.setIfInBounds_toArray, List.set_cons_zero, List.set_cons_succ]
      refine wpAnyH_take (i := 11) (v := .int .i64 fy.id) (get_ops _ _ _ rfl) (by kernel_rfl) (by kernel_rfl) (by kernel_rfl) (fun _ _ _ h => h) (Or.inl ⟨by rfl, fun wS hSw => by (try dsimp only at hSw); have cS : wS.cell? ⟨b', o' + k * 11, none⟩ = some (.int .i64 fy.id) := cells_at0 hSw.2.2.2 rfl; clear hSw; go_simp⟩) hHeld ?_
      try simp only [Act.put, List.setIfInBounds_toArray, List.set_cons_zero, List.set_cons_succ]
      refine wpAnyH_take (i := 12) (v := .bool false) (get_ops _ _ _ rfl) (by kernel_rfl) (by kernel_rfl) (by kernel_rfl) (fun _ _ _ h => h) (Or.inl ⟨by rfl, fun wS hSw => by (try dsimp only at hSw); go_simp⟩) hHeld ?_
      try simp only [Act.put, List.setIfInBounds_toArray, List.set_cons_zero, List.set_cons_succ]
      refine wpAnyH_take (i := 13) (v := .bool false) (get_ops _ _ _ rfl) (by kernel_rfl) (by kernel_rfl) (by kernel_rfl) (fun _ _ _ h => h) (Or.inl ⟨by rfl, fun wS hSw => by (try dsimp only at hSw); go_simp⟩) hHeld ?_
      try simp only [Act.put, List.setIfInBounds_toArray, List.set_cons_zero, List.set_cons_succ]
      refine wpAnyH_take (i := 14) (v := (.pointer (some ⟨w.heap.size, 1, none⟩))) (get_ops _ _ _ rfl) (by kernel_rfl) (by kernel_rfl) (by kernel_rfl) (fun _ _ _ h => h) (Or.inl ⟨by rfl, fun wS hSw => by (try dsimp only at hSw); go_simp⟩) hHeld ?_
      try simp only [Act.put, List.setIfInBounds_toArray, List.set_cons_zero, List.set_cons_succ]
      refine wpAnyH_take (i := 15) (v := (.slice (some ⟨b, o, none⟩) xs.length c)) (get_ops _ _ _ rfl) (by kernel_rfl) (by kernel_rfl) (by kernel_rfl) (fun _ _ _ h => h) (Or.inl ⟨by rfl, fun wS hSw => by (try dsimp only at hSw); have cS : wS.cell? ⟨w.heap.size, 1, none⟩ = some (.slice (some ⟨b, o, none⟩) xs.length c) := hSw.1.cell 1 rfl; clear hSw; go_simp⟩) hHeld ?_
      try simp only [Act.put, List.setIfInBounds_toArray, List.set_cons_zero, List.set_cons_succ]
      refine wpAnyH_take (i := 16) (v := .int .i64 ((k : Int))) (get_ops _ _ _ rfl) (by kernel_rfl) (by kernel_rfl) (by kernel_rfl) (fun _ _ _ h => h) (Or.inl ⟨by rfl, fun wS hSw => by (try dsimp only at hSw); go_simp⟩) hHeld ?_
      try simp only [Act.put, List.setIfInBounds_toArray, List.set_cons_zero, List.set_cons_succ]
      refine wpAnyH_take (i := 17) (v := (.pointer (some ⟨b, o + k * 11, none⟩))) (get_ops _ _ _ rfl) (by kernel_rfl) (by kernel_rfl) (by kernel_rfl) (fun _ _ _ h => h) (Or.inl ⟨by rfl, fun wS hSw => by (try dsimp only at hSw); go_simp⟩) hHeld ?_
      try simp only [Act.put, List.setIfInBounds_toArray, List.set_cons_zero, List.set_cons_succ]
      refine wpAnyH_take (i := 18) (v := (.pointer (some ⟨b, o + k * 11 + 1, none⟩))) (get_ops _ _ _ rfl) (by kernel_rfl) (by kernel_rfl) (by kernel_rfl) (fun _ _ _ h => h) (Or.inl ⟨by rfl, fun wS hSw => by (try dsimp only at hSw); go_simp⟩) hHeld ?_
      try simp only [Act.put, List.setIfInBounds_toArray, List.set_cons_zero, List.set_cons_succ]
      refine wpAnyH_take (i := 19) (v := .int .i64 fy.st) (get_ops _ _ _ rfl) (by kernel_rfl) (by kernel_rfl) (by kernel_rfl) (fun _ _ _ h => h) (Or.inl ⟨by rfl, fun wS hSw => by (try dsimp only at hSw); have cS : wS.cell? ⟨b, o + k * 11 + 1, none⟩ = some (.int .i64 fy.st) := hSw.2.2.1 1 _ rfl; clear hSw; go_simp⟩) hHeld ?_
      try simp only [Act.put, List.setIfInBounds_toArray, List.set_cons_zero, List.set_cons_succ]
      refine wpAnyH_take (i := 20) (v := (.pointer (some ⟨w.heap.size + 1, 1, none⟩))) (get_ops _ _ _ rfl) (by kernel_rfl) (by kernel_rfl) (by kernel_rfl) (fun _ _ _ h => h) (Or.inl ⟨by rfl, fun wS hSw => by (try dsimp only at hSw); go_simp⟩) hHeld ?_
      try simp only [Act.put, List.setIfInBounds_toArray, List.set_cons_zero, List.set_cons_succ]
      refine wpAnyH_take (i := 21) (v := (.slice (some ⟨b', o', none⟩) xs.length d)) (get_ops _ _ _ rfl) (by kernel_rfl) (by kernel_rfl) (by kernel_rfl) (fun _ _ _ h => h) (Or.inl ⟨by rfl, fun wS hSw => by (try dsimp only at hSw); have cS : wS.cell? ⟨w.heap.size + 1, 1, none⟩ = some (.slice (some ⟨b', o', none⟩) xs.length d) := hSw.2.1.cell 1 rfl; clear hSw; go_simp⟩) hHeld ?_
      try simp only [Act.put, List.setIfInBounds_toArray, List.set_cons_zero, List.set_cons_succ]
      refine wpAnyH_take (i := 22) (v := .int .i64 ((k : Int))) (get_ops _ _ _ rfl) (by kernel_rfl) (by kernel_rfl) (by kernel_rfl) (fun _ _ _ h => h) (Or.inl ⟨by rfl, fun wS hSw => by (try dsimp only at hSw); go_simp⟩) hHeld ?_
      try simp only [Act.put, List.setIfInBounds_toArray, List.set_cons_zero, List.set_cons_succ]
      refine wpAnyH_take (i := 23) (v := (.pointer (some ⟨b', o' + k * 11, none⟩))) (get_ops _ _ _ rfl) (by kernel_rfl) (by kernel_rfl) (by kernel_rfl) (fun _ _ _ h => h) (Or.inl ⟨by rfl, fun wS hSw => by (try dsimp only at hSw); go_simp⟩) hHeld ?_
      try simp only [Act.put, List.setIfInBounds_toArray, List.set_cons_zero, List.set_cons_succ]
      refine wpAnyH_take (i := 24) (v := (.pointer (some ⟨b', o' + k * 11 + 1, none⟩))) (get_ops _ _ _ rfl) (by kernel_rfl) (by kernel_rfl) (by kernel_rfl) (fun _ _ _ h => h) (Or.inl ⟨by rfl, fun wS hSw => by (try dsimp only at hSw); go_simp⟩) hHeld ?_
      try simp only [Act.put, List.setIfInBounds_toArray, List.set_cons_zero, List.set_cons_succ]
      refine wpAnyH_take (i := 25) (v := .int .i64 fy.st) (get_ops _ _ _ rfl) (by kernel_rfl) (by kernel_rfl) (by kernel_rfl) (fun _ _ _ h => h) (Or.inl ⟨by rfl, fun wS hSw => by (try dsimp only at hSw); have cS : wS.cell? ⟨b', o' + k * 11 + 1, none⟩ = some (.int .i64 fy.st) := hSw.2.2.2 1 _ rfl; clear hSw; go_simp⟩) hHeld ?_
      try simp only [Act.put, List.setIfInBounds_toArray, List.set_cons_zero, List.set_cons_succ]
      refine wpAnyH_take (i := 26) (v := .bool false) (get_ops _ _ _ rfl) (by kernel_rfl) (by kernel_rfl) (by kernel_rfl) (fun _ _ _ h => h) (Or.inl ⟨by rfl, fun wS hSw => by (try dsimp only at hSw); go_simp⟩) hHeld ?_
      try simp only [Act.put, List.setIfInBounds_toArray, List.set_cons_zero, List.set_cons_succ]
      refine wpAnyH_take (i := 27) (v := .bool false) (get_ops _ _ _ rfl) (by kernel_rfl) (by kernel_rfl) (by kernel_rfl) (fun _ _ _ h => h) (Or.inl ⟨by rfl, fun wS hSw => by (try dsimp only at hSw); go_simp⟩) hHeld ?_
      try simp only [Act.put, List.setIfInBounds_toArray, List.set_cons_zero, List.set_cons_succ]
      refine wpAnyH_take (i := 28) (v := .bool false) (get_ops _ _ _ rfl) (by kernel_rfl) (by kernel_rfl) (by kernel_rfl) (fun _ _ _ h => h) (Or.inl ⟨by rfl, fun wS hSw => by (try dsimp only at hSw); go_simp⟩) hHeld ?_
      try simp only [Act.put, List.setIfInBounds_toArray, List.set_cons_zero, List.set_cons_succ]
      refine wpAnyH_take (i := 29) (v := (.pointer (some ⟨w.heap.size, 1, none⟩))) (get_ops _ _ _ rfl) (by kernel_rfl) (by kernel_rfl) (by kernel_rfl) (fun _ _ _ h => h) (Or.inl ⟨by rfl, fun wS hSw => by (try dsimp only at hSw); go_simp⟩) hHeld ?_
      try simp only [Act.put, List.setIfInBounds_toArray, List.set_cons_zero, List.set_cons_succ]
      refine wpAnyH_take (i := 30) (v := (.slice (some ⟨b, o, none⟩) xs.length c)) (get_ops _ _ _ rfl) (by kernel_rfl) (by kernel_rfl) (by kernel_rfl) (fun _ _ _ h => h) (Or.inl ⟨by rfl, fun wS hSw => by (try dsimp only at hSw); have cS : wS.cell? ⟨w.heap.size, 1, none⟩ = some (.slice (some ⟨b, o, none⟩) xs.length c) := hSw.1.cell 1 rfl; clear hSw; go_simp⟩) hHeld ?_
      try simp only [Act.put, List.setIfInBounds_toArray, List.set_cons_zero, List.set_cons_succ]
      refine wpAnyH_take (i := 31) (v := .int .i64 ((k : Int))) (get_ops _ _ _ rfl) (by kernel_rfl) (by kernel_rfl) (by kernel_rfl) (fun _ _ _ h => h) (Or.inl ⟨by rfl, fun wS hSw => by (try dsimp only at hSw); go_simp⟩) hHeld ?_
      try simp only [Act.put, List.setIfInBounds_toArray, List.set_cons_zero, List.set_cons_succ]
      refine wpAnyH_take (i := 32) (v := (.pointer (some ⟨b, o + k * 11, none⟩))) (get_ops _ _ _ rfl) (by kernel_rfl) (by kernel_rfl) (by kernel_rfl) (fun _ _ _ h => h) (Or.inl ⟨by rfl, fun wS hSw => by (try dsimp only at hSw); go_simp⟩) hHeld ?_
      try simp only [Act.put, List.setIfInBounds_toArray, List.set_cons_zero, List.set_cons_succ]
      refine wpAnyH_take (i := 33) (v := (.pointer (some ⟨b, o + k * 11 + 2, none⟩))) (get_ops _ _ _ rfl) (by kernel_rfl) (by kernel_rfl) (by kernel_rfl) (fun _ _ _ h => h) (Or.inl ⟨by rfl, fun wS hSw => by (try dsimp only at hSw); go_simp⟩) hHeld ?_
      try simp only [Act.put, List.setIfInBounds_toArray, List.set_cons_zero, List.set_cons_succ]
      refine wpAnyH_take (i := 34) (v := (msgV fy.m ax cx)) (get_ops _ _ _ rfl) (by kernel_rfl) (by kernel_rfl) (by kernel_rfl) (fun _ _ _ h => h) (Or.inl ⟨by rfl, fun wS hSw => by (try dsimp only at hSw); exact exec_load 30 _ rfl ⟨b, o + k * 11 + 2, none⟩ (by go_simp) _ (load_item_msg hSw.2.2.1)⟩) hHeld ?_
      try simp only [Act.put, List.setIfInBounds_toArray, List.set_cons_zero, List.set_cons_succ]
      refine wpAnyH_take (i := 35) (v := (.pointer (some ⟨w.heap.size + 1, 1, none⟩))) (get_ops _ _ _ rfl) (by kernel_rfl) (by kernel_rfl) (by kernel_rfl) (fun _ _ _ h => h) (Or.inl ⟨by rfl, fun wS hSw => by (try dsimp only at hSw); go_simp⟩) hHeld ?_
      try simp only [Act.put, List.setIfInBounds_toArray, List.set_cons_zero, List.set_cons_succ]
      refine wpAnyH_take (i := 36) (v := (.slice (some ⟨b', o', none⟩) xs.length d)) (get_ops _ _ _ rfl) (by kernel_rfl) (by kernel_rfl) (by kernel_rfl) (fun _ _ _ h => h) (Or.inl ⟨by rfl, fun wS hSw => by (try dsimp only at hSw); have cS : wS.cell? ⟨w.heap.size + 1, 1, none⟩ = some (.slice (some ⟨b', o', none⟩) xs.length d) := hSw.2.1.cell 1 rfl; clear hSw; go_simp⟩) hHeld ?_
      try simp only [Act.put, List.setIfInBounds_toArray, List.set_cons_zero, List.set_cons_succ]
      refine wpAnyH_take (i := 37) (v := .int .i64 ((k : Int))) (get_ops _ _ _ rfl) (by kernel_rfl) (by kernel_rfl) (by kernel_rfl) (fun _ _ _ h => h) (Or.inl ⟨by rfl, fun wS hSw => by (try dsimp only at hSw); go_simp⟩) hHeld ?_
      try simp only [Act.put, List.setIfInBounds_toArray, List.set_cons_zero, List.set_cons_succ]
      refine wpAnyH_take (i := 38) (v := (.pointer (some ⟨b', o' + k * 11, none⟩))) (get_ops _ _ _ rfl) (by kernel_rfl) (by kernel_rfl) (by kernel_rfl) (fun _ _ _ h => h) (Or.inl ⟨by rfl, fun wS hSw => by (try dsimp only at hSw); go_simp⟩) hHeld ?_
      try simp only [Act.put, List.setIfInBounds_toArray, List.set_cons_zero, List.set_cons_succ]
      refine wpAnyH_take (i := 39) (v := (.pointer (some ⟨b', o' + k * 11 + 2, none⟩))) (get_ops _ _ _ rfl) (by kernel_rfl) (by kernel_rfl) (by kernel_rfl) (fun _ _ _ h => h) (Or.inl ⟨by rfl, fun wS hSw => by (try dsimp only at hSw); go_simp⟩) hHeld ?_
      try simp only [Act.put, List.setIfInBounds_toArray, List.set_cons_zero, List.set_cons_succ]
      refine wpAnyH_take (i := 40) (v := (msgV fy.m ay cy)) (get_ops _ _ _ rfl) (by kernel_rfl) (by kernel_rfl) (by kernel_rfl) (fun _ _ _ h => h) (Or.inl ⟨by rfl, fun wS hSw => by (try dsimp only at hSw); exact exec_load 30 _ rfl ⟨b', o' + k * 11 + 2, none⟩ (by go_simp) _ (load_item_msg hSw.2.2.2)⟩) hHeld ?_
      try simp only [Act.put, List.setIfInBounds_toArray, List.set_cons_zero, List.set_cons_succ]
      refine wpAnyH_ready (rs := [41]) (by kernel_rfl) (by simp) ?_
      refine (AllReadyH.cons (get_ops _ _ _ rfl) (fun K hK => ?_) AllReadyH.nil)
      go_simp
      refine (HS1.out u1 HPX.out P_u1.out R_u1.out).mono ?_
      rintro e u2 ⟨rfl, hb⟩
      have H_u2 : Hid (Below w2.heap.size w2 u2) := Lib.hid (stepB H_u1.out hb)
      have T_u2 : Hid (BK 27 u2 w.heap.size (wcs L (some ⟨b, o, none⟩) c xs A2 c2 X l)) := Lib.hid (BK.step T_u1.out hb)
      have U_u2 : Hid (BK 27 u2 (w.heap.size + 1) [.int .i64 L, .slice (some ⟨b', o', none⟩) xs.length d, .slice B2 X.length d2, .int .i64 l]) := Lib.hid (BK.step U_u1.out hb)
      have C_u2 : Hid (∀ i v, (gF ⟨fy, ax, cx⟩)[i]? = some v → u2.cell? ⟨b, o + k * 11 + i, none⟩ = some v) := Lib.hid (cells_stepG C_u1.out hb)
      have D_u2 : Hid (∀ i v, (gF ⟨fy, ay, cy⟩)[i]? = some v → u2.cell? ⟨b', o' + k * 11 + i, none⟩ = some v) := Lib.hid (cells_stepG D_u1.out hb)
      have P_u2 : Hid (PL u2 u2.heap.size ax fy.m.props) := Lib.hid (GL.step P_u1.out hb)
      have R_u2 : Hid (PL u2 u2.heap.size ay fy.m.props) := Lib.hid (GL.step R_u1.out hb)
      clear H_u1 T_u1 U_u1 C_u1 D_u1 P_u1 R_u1
      clear hHeld hb
      go_wp2_with fail
      refine hK.out _ _ ⟨T_u2.out, U_u2.out, C_u2.out, D_u2.out⟩ (fun hHeld => ?_)
      clear hK K
      try simp only [Act.put, List.setIfInBounds_toArray, List.set_cons_zero, List.set_cons_succ]
      refine wpAnyH_take (i := 42) (v := .bool false) (get_ops _ _ _ rfl) (by kernel_rfl) (by kernel_rfl) (by kernel_rfl) (fun _ _ _ h => h) (Or.inl ⟨by rfl, fun wS hSw => by (try dsimp only at hSw); go_simp⟩) hHeld ?_
      try simp only [Act.put, List.setIfInBounds_toArray, List.set_cons_zero, List.set_cons_succ]
      refine wpAnyH_take (i := 43) (v := .bool false) (get_ops _ _ _ rfl) (by kernel_rfl) (by kernel_rfl) (by kernel_rfl) (fun _ _ _ h => h) (Or.inl ⟨by rfl, fun wS hSw => by (try dsimp only at hSw); go_simp⟩) hHeld ?_
      try simp only [Act.put, List.setIfInBounds_toArray, List.set_cons_zero, List.set_cons_succ]
      refine wpAnyH_done (by kernel_rfl) ?_ _
      go_wp2
      go_roundg g
      case measure => omega
      case rel => exact ⟨k + 1, by have := HK.out; omega, by go_num, H_u2.out⟩
end Go.Proofs.YtjpikgphfhjilaaGreatDoor
