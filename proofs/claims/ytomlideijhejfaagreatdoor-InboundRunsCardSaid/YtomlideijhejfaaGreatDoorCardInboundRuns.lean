/-
  The walk of InboundRuns: it answers true. Conditions: the packets read as data; their lists and texts fit a machine; the library's bound on short texts holds a number.
  PROVED: InboundRuns answers true for every text.
  Conditions: those that the row prints (the tables of package unicode/utf8 read as the program's text lays them; each argument has at most 2^47 bytes). The tie of the tables is given, over a pruned copy of the project.
-/
import Derived.Test.YtomlideijhejfaaGreatDoorNi
import Derived.Test.YtomlideijhejfaaGreatDoorCards
import Derived.Test.YtomlideijhejfaaGreatDoorTie
import Derived.Test.YtomlideijhejfaaGreatDoorOpenPw
import Derived.ProofKit
import Derived.OpenShut
import Derived.Deep.DeepHandedRow
import Derived.Lib.LaidTab
import Derived.Lay
import Derived.LaidOnce
import Derived.SizedLaws
import Derived.Carry
import Derived.SevenTiedAt
namespace Go.Proofs.YtomlideijhejfaaGreatDoor
open Go.RowKit
open S2 (BK Put)

theorem id_of {p : Pkt} (hk : p.kind = 3) (hc : checkP p = 0) (hl : p.msg.level = 2) : 1 ≤ p.id ∧ p.id ≤ 65535 := by
 unfold checkP at hc
 rw [if_neg (by omega)] at hc
 split at hc
 · omega
 · unfold bodyR at hc
   rw [if_neg (by omega), if_neg (by omega), if_pos hk] at hc
   unfold pubR at hc
   split at hc
   · omega
   · rw [if_pos (by omega)] at hc
     unfold idR at hc
     split at hc
     · omega
     · omega
theorem del_ok {X : List Int} {n : Int} (hv : S2.ckI X 0 = 0) : S2.ckI (S2.delI X n) 0 = 0 := by
 have h := S2.ck_ok.1 hv
 exact S2.ck_ok.2 ⟨Nat.le_trans (S2.del_len X n) h.1, S2.del_up h.2.1, h.2.2⟩
theorem acc_ok {X : List Int} {p : Pkt} (hv : S2.ckI X 0 = 0) : S2.ckI (naccR X p).1 0 = 0 := by
 have h := S2.ck_ok.1 hv
 have h0 : S2.ckI [] 0 = 0 := by decide
 unfold naccR
 by_cases h1 : p.kind ≠ 3
 · rw [if_pos h1]; exact h0
 rw [if_neg h1]
 by_cases h2 : checkP p ≠ 0
 · rw [if_pos h2]; exact h0
 rw [if_neg h2]
 by_cases h3 : p.msg.level ≠ 2
 · rw [if_pos h3]; exact hv
 rw [if_neg h3]
 by_cases h4 : p.id ∉ X ∧ 32 ≤ X.length
 · rw [if_pos h4]; exact h0
 rw [if_neg h4]
 dsimp only
 unfold S2.withI
 by_cases h5 : p.id ∈ X
 · rw [if_pos h5]; exact hv
 rw [if_neg h5]
 have hid := id_of (by simpa using h1) (by simpa using h2) (by simpa using h3)
 refine S2.ck_ok.2 ⟨?_, S2.ins_up h.2.1 (by omega) hid.2 h5, h.2.2⟩
 rw [S2.ins_len]
 have : ¬ 32 ≤ X.length := fun h6 => h4 ⟨h5, h6⟩
 omega
theorem step_ok {X : List Int} {p : Pkt} (hv : S2.ckI X 0 = 0) : S2.ckI (stepR X p).1 0 = 0 := by
 unfold stepR
 by_cases hk : p.kind = 6
 · rw [if_pos hk]
   by_cases h1 : (nrelR X p.kind p.id).2.2 ≠ 0
   · rw [if_pos h1]; exact hv
   · rw [if_neg h1]
     unfold nrelR at h1 ⊢
     rw [if_neg (by simpa using hk)] at h1 ⊢
     by_cases h2 : p.id < 1 ∨ 65535 < p.id
     · rw [if_pos h2] at h1; simp at h1
     · rw [if_neg h2]; exact del_ok hv
 · rw [if_neg hk]
   by_cases h1 : (naccR X p).2.2.2 ≠ 0
   · rw [if_pos h1]; exact hv
   · rw [if_neg h1]; exact acc_ok hv
theorem KL.cells {w : World} {B : Nat} {A : Option Addr} {xs : List (Pkt × PA)} (h : KL w B A xs) {j : Nat} {x : Pkt × PA} (hx : xs[j]? = some x) :
 ∃ b o, A = some ⟨b, o, none⟩ ∧ b < B ∧ (∀ i v, (gK x)[i]? = some v → w.cell? ⟨b, o + j * 34 + i, none⟩ = some v) ∧ PInB w B x.1 x.2 := by
 obtain ⟨b, o, e, hb, hc⟩ := h.1 (Nat.lt_of_le_of_lt (Nat.zero_le _) (List.getElem?_eq_some_iff.1 hx).1)
 exact ⟨b, o, e, hb, fun i v hv => hc j x i v hx hv, h.2 x (List.mem_of_getElem? hx)⟩
theorem load_pkc {w : World} {b o : Nat} {x : Pkt × PA} (hc : ∀ i v, (gK x)[i]? = some v → w.cell? ⟨b, o + i, none⟩ = some v) : (loadVar 33 ⟨b, o, none⟩).run Tryz.prog w = .ok (.agg (pkC x.1 x.2).toArray) w :=
 run_load_cells w b o (gK x) 33 _ hc Tryz.underlying33 rfl info33
theorem cells_stepK {L : List Value} {w w' : World} {b k : Nat} (h : ∀ j v, L[j]? = some v → w.cell? ⟨b, k + j, none⟩ = some v) (hb : Below w.heap.size w w') : ∀ j v, L[j]? = some v → w'.cell? ⟨b, k + j, none⟩ = some v := fun j v hv => by
 have h1 := h j v hv
 have hl : b < w.heap.size := World.block_lt_of_cell? w ⟨b, k + j, none⟩ h1
 rw [hb.cell hl]; exact h1

theorem get_opsR (l : List Oper) (i : Nat) (o : Oper) (h : l[i]? = some o) : l.toArray[i]? = some o := by rw [List.getElem?_toArray]; exact h
theorem tkA {P : Program} {md : Region.Mode} {ops : Array Oper} {Q : Exit → Act → World → Prop} {S : World → Prop} {i : Nat} {oi : Oper} {v : Value} {fuel : Nat} {listed : Array Bool} {a a' : Act} {w : World} (hi : ops[i]? = some oi := by exact get_opsR _ _ _ rfl)
 (hs : Region.noSelect ops = true := by kernel_rfl) (hf : Region.free md ops listed i = true := by kernel_rfl) (hr : (Region.ready md ops listed).contains i = true := by kernel_rfl)
 (hQ : ∀ c a w, Q (.panic c) (a.put oi.dst v) w → Q (.panic c) a w := by exact (fun _ _ _ h => h)) (y : YieldsIf P ops S oi v a) (s : S w)
 (ha : a.put oi.dst v = a' := by ((try simp only [Act.put, List.setIfInBounds_toArray, List.set_cons_zero, List.set_cons_succ]); exact rfl))
 (h : wpAnyH P md ops Q S fuel (listed.setIfInBounds i true) a' w) : wpAnyH P md ops Q S (fuel + 1) listed a w :=
 wpAnyH_take hi hs hf hr hQ y s (by rw [ha]; exact h)
/-- what holds between two packets: the inbox in its variable, block g -/
structure InvR (W w : World) (g : Nat) (A : Option Addr) (c : Nat) (X : List Int) : Prop where
 t : BK 24 w g [.slice A X.length c]
 b : Below W.heap.size W w
 l : S2.IL w w.heap.size A X
 c : X.length ≤ c
 v : S2.ckI X 0 = 0
 f : S2.Off g A X
theorem InvR.step {W w w' : World} {g : Nat} {A : Option Addr} {c : Nat} {X : List Int} (h : InvR W w g A c X) (hb : Below w.heap.size w w') : InvR W w' g A c X := ⟨h.t.step hb, stepB h.b hb, CL.step h.l hb, h.c, h.v, h.f⟩

set_option maxRecDepth 20000 in
set_option maxHeartbeats 8000000 in
theorem inboundRuns_walk (A : Option Addr) (c : Nat) (xs : List (Pkt × PA)) (w : World) (hok : S1.Okw w) (hks : KL w w.heap.size A xs) (hn : xs.length ≤ 140737488355328) (hbz : ∀ x ∈ xs, BigZ x.1) :
 Calls Tryz.prog 4 #[.slice A xs.length c] w fun e w' => e = .returned (.bool true) ∧ Below w.heap.size w w' := by
 have HOK := Lib.hid hok
 have HA := Lib.hid (fun w1 h => awake15_any w1 h)
 have HK := Lib.hid hks
 have HZ := Lib.hid hbz
 have HN := Lib.hid hn
 clear hok hks hbz hn
 go_enter Tryz.func4, Tryz.ntmps4
 go_upto_region 2 with fail
 refine name_world (C := fun w1 => Code.wp _ _ _ _ w1) (w.alloc (.cells [.slice none 0 0].toArray 24)) ?_
 intro w1 hw1
 have HI1 : Hid (InvR w w1 w.heap.size none 0 []) := Lib.hid ⟨by rw [hw1]; exact BK.new _ _ _, by rw [hw1]; exact S2.below_new _ _, CL.nil _ _ _, Nat.le_refl _, by decide, fun b o e => by cases e⟩
 clear hw1
 go_wp2_with fail
 go_loopg [4] xs.length (fun g v wr => ∃ (k : Nat) (A1 : Option Addr) (c1 : Nat) (X : List Int), k + g = xs.length ∧ k ≤ 60 ∧ v = .int .i64 k ∧ InvR w wr w.heap.size A1 c1 X)
 case atStart => exact ⟨0, none, 0, [], by omega, by omega, rfl, HI1.out⟩
 case round =>
  clear HI1
  obtain ⟨k, A1, c1, X, hkg, hk60, rfl, hinv⟩ := hrel
  have HG := Lib.hid hkg
  have HI := Lib.hid hinv
  clear hinv
  have EX : Hid (∀ wy, Below wr.heap.size wr wy → Below w.heap.size w wy) := Lib.hid (fun wy h => stepB HI.out.b h)
  cases gk with
  | zero =>
   obtain rfl : k = xs.length := by omega
   have e1 : decide ((xs.length : Int) < (xs.length : Int)) = false := decide_eq_false (by omega)
   clear hkg hk60
   go_wp2_with fail
   refine (HA.out wr (HOK.out.step HI.out.b)).mono ?_
   rintro e w2 ⟨rfl, hb⟩
   have B_w2 := Lib.hid (EX.out w2 hb)
   clear hb
   go_wp2
   go_ret
   exact ⟨rfl, B_w2.out⟩
  | succ g =>
   have hlt : k < xs.length := by omega
   have e1 : decide ((k : Int) < (xs.length : Int)) = true := decide_eq_true (by omega)
   by_cases h60 : k = 60
   · subst h60
     have e2 : decide (((60 : Nat) : Int) < 60) = false := by decide
     have e1' : decide (60 < xs.length) = true := decide_eq_true hlt
     have e1s : decide ((60 : Int) < (xs.length : Int)) = true := decide_eq_true (by omega)
     clear hkg hk60 hlt
     go_wp2_with fail
     refine (HA.out wr (HOK.out.step HI.out.b)).mono ?_
     rintro e w2 ⟨rfl, hb⟩
     have B_w2 := Lib.hid (EX.out w2 hb)
     clear hb
     go_wp2
     go_ret
     exact ⟨rfl, B_w2.out⟩
   have e2 : decide ((k : Int) < 60) = true := decide_eq_true (by omega)
   have e1' : decide (k < xs.length) = true := decide_eq_true hlt
   have HK60 : Hid (k < 60) := Lib.hid (by omega)
   obtain ⟨z, hz⟩ : ∃ z, xs[k]? = some z := ⟨_, List.getElem?_eq_getElem hlt⟩
   obtain ⟨b, o, hA, hbB, hc, hpi⟩ := (HK.out.step HI.out.b).cells hz
   subst hA
   have HST := Lib.hid (fun w1 h0 h1 h2 => step15_any A1 c1 X z.1 z.2 w1 h0 h1 HI.out.c HI.out.v h2 (HZ.out z (List.mem_of_getElem? hz)))
   have HVY : Hid (S2.ckI (stepR X z.1).1 0 = 0) := Lib.hid (step_ok HI.out.v)
   generalize stepR X z.1 = r at HST HVY
   obtain ⟨Y, d⟩ := r
   dsimp only at HVY
   have I_wr : Hid (InvR w wr w.heap.size A1 c1 X) := HI
   have C_wr : Hid (∀ i v, (gK z)[i]? = some v → wr.cell? ⟨b, o + k * 34 + i, none⟩ = some v) := Lib.hid hc
   have P_wr : Hid (PIn wr z.1 z.2) := Lib.hid hpi.pin
   have T_wr : Hid (BK 24 wr w.heap.size [.slice A1 X.length c1]) := Lib.hid HI.out.t
   have HBL : Hid (b < wr.heap.size) := Lib.hid hbB
   have HGB : Hid (w.heap.size < wr.heap.size) := Lib.hid HI.out.t.lt
   have j1 : (0 : Int) ≤ (k : Int) := by omega
   have j2 : (k : Int) < (xs.length : Int) := by omega
   have hk6 : k < 60 := by omega
   clear hz hc hpi hbB hkg hk60 h60 hlt HI EX
   unfold pkV at HST
   go_upto_region 5 with fail
   have B_wr : Hid (Below w.heap.size w wr) := Lib.hid I_wr.out.b
   have G_wr : Hid (wr.heap.size ≤ wr.heap.size) := Lib.hid (Nat.le_refl _)
   obtain ⟨h1, hh1⟩ : ∃ h1, h1 = World.drew wr := ⟨_, rfl⟩
   have hbD : Below wr.heap.size wr h1 := by rw [hh1]; exact (Below.refl _ _).drew
   have I_h1 : Hid (InvR w h1 w.heap.size A1 c1 X) := Lib.hid (InvR.step I_wr.out hbD)
   have T_h1 : Hid (BK 24 h1 w.heap.size [.slice A1 X.length c1]) := Lib.hid (T_wr.out.step hbD)
   have C_h1 : Hid (∀ i v, (gK z)[i]? = some v → h1.cell? ⟨b, o + k * 34 + i, none⟩ = some v) := Lib.hid (cells_stepK C_wr.out hbD)
   have P_h1 : Hid (PIn h1 z.1 z.2) := Lib.hid (P_wr.out.step hbD)
   have B_h1 : Hid (Below w.heap.size w h1) := Lib.hid (stepB B_wr.out hbD)
   have G_h1 : Hid (wr.heap.size ≤ h1.heap.size) := Lib.hid (Nat.le_trans G_wr.out hbD.size)
   clear I_wr T_wr C_wr P_wr B_wr G_wr
   have hbd : (fun w' => BK 24 w' w.heap.size [.slice A1 X.length c1] ∧ ∀ i v, (gK z)[i]? = some v → w'.cell? ⟨b, o + k * 34 + i, none⟩ = some v) (World.drew wr) := by rw [← hh1]; exact ⟨T_h1.out, C_h1.out⟩
   have hSD : (fun w' => BK 24 w' w.heap.size [.slice A1 X.length c1] ∧ ∀ i v, (gK z)[i]? = some v → w'.cell? ⟨b, o + k * 34 + i, none⟩ = some v) h1 := ⟨T_h1.out, C_h1.out⟩
   have HWD := Lib.hid hh1
   clear hh1 hbD
   refine wp_region_held_drew (S := fun w' => BK 24 w' w.heap.size [.slice A1 X.length c1] ∧ ∀ i v, (gK z)[i]? = some v → w'.cell? ⟨b, o + k * 34 + i, none⟩ = some v) (by kernel_rfl) hbd (fun hHeld => ?_)
   rw [← HWD.out]
   clear hHeld
   have hHeld := hSD
   clear hSD hbd HWD
   refine tkA (i := 0) (v := (S2.xv A1 c1 X)) (y := Or.inl ⟨by rfl, fun wS hSw => by (try dsimp only at hSw); exact exec_load 24 _ rfl ⟨w.heap.size, 0, none⟩ (by go_simp) _ (S2.run_load_all hSw.1 Tryz.underlying24 rfl S2.boxSize)⟩) (s := hHeld) (h := ?_)
   refine tkA (i := 1) (v := .slice (some ⟨b, o, none⟩) xs.length c) (y := Or.inl ⟨by rfl, fun wS hSw => by (try dsimp only at hSw); go_simp⟩) (s := hHeld) (h := ?_)
   refine tkA (i := 2) (v := .int .i64 (k : Int)) (y := Or.inl ⟨by rfl, fun wS hSw => by (try dsimp only at hSw); go_simp⟩) (s := hHeld) (h := ?_)
   refine tkA (i := 3) (v := .pointer (some ⟨b, o + k * 34, none⟩)) (y := Or.inl ⟨by rfl, fun wS hSw => by (try dsimp only at hSw); go_simp⟩) (s := hHeld) (h := ?_)
   refine tkA (i := 4) (v := .agg (pkC z.1 z.2).toArray) (y := Or.inl ⟨by rfl, fun wS hSw => by (try dsimp only at hSw); exact exec_load 33 _ rfl ⟨b, o + k * 34, none⟩ (by go_simp) _ (load_pkc hSw.2)⟩) (s := hHeld) (h := ?_)
   refine wpAnyH_ready (rs := [5, 10]) (by kernel_rfl) (by simp) ?_
   refine (AllReadyH.cons (get_ops _ _ _ rfl) (fun K hK => ?_) (AllReadyH.cons (get_ops _ _ _ rfl) (fun K hK => ?_) AllReadyH.nil))
   · go_simp
     refine (HST.out h1 (HOK.out.step B_h1.out) I_h1.out.l P_h1.out).mono ?_
     rintro e h2 ⟨A2, c2, rfl, hc2, hl2, hfr2, hb⟩
     have HC2 := Lib.hid hc2
     have HOB : Hid (S2.Off w.heap.size A2 Y) := Lib.hid (I_h1.out.f.fr hfr2 T_h1.out.lt)
     have I_h2 : Hid (InvR w h2 w.heap.size A1 c1 X) := Lib.hid (InvR.step I_h1.out hb)
     have T_h2 : Hid (BK 24 h2 w.heap.size [.slice A1 X.length c1]) := Lib.hid (T_h1.out.step hb)
     have C_h2 : Hid (∀ i v, (gK z)[i]? = some v → h2.cell? ⟨b, o + k * 34 + i, none⟩ = some v) := Lib.hid (cells_stepK C_h1.out hb)
     have P_h2 : Hid (PIn h2 z.1 z.2) := Lib.hid (P_h1.out.step hb)
     have B_h2 : Hid (Below w.heap.size w h2) := Lib.hid (stepB B_h1.out hb)
     have G_h2 : Hid (wr.heap.size ≤ h2.heap.size) := Lib.hid (Nat.le_trans G_h1.out hb.size)
     clear I_h1 T_h1 C_h1 P_h1 B_h1 G_h1
     have L_h2 : Hid (S2.IL h2 h2.heap.size A2 Y) := Lib.hid hl2
     clear hHeld hb hl2 hfr2 hc2
     go_wp2_with fail
     refine hK.out _ _ ⟨T_h2.out, C_h2.out⟩ (fun hHeld => ?_)
     clear hK K
     try simp only [Act.put, List.setIfInBounds_toArray, List.set_cons_zero, List.set_cons_succ]
     refine tkA (i := 6) (v := .tuple #[S2.xv A2 c2 Y, .bool d, .bool true]) (y := Or.inl ⟨by rfl, fun wS hSw => by (try dsimp only at hSw); go_simp⟩) (s := hHeld) (h := ?_)
     refine tkA (i := 7) (v := (S2.xv A2 c2 Y)) (y := Or.inl ⟨by rfl, fun wS hSw => by (try dsimp only at hSw); go_simp⟩) (s := hHeld) (h := ?_)
     refine tkA (i := 8) (v := .bool d) (y := Or.inl ⟨by rfl, fun wS hSw => by (try dsimp only at hSw); go_simp⟩) (s := hHeld) (h := ?_)
     refine tkA (i := 9) (v := .bool true) (y := Or.inl ⟨by rfl, fun wS hSw => by (try dsimp only at hSw); go_simp⟩) (s := hHeld) (h := ?_)
     refine wpAnyH_ready (rs := [10]) (by kernel_rfl) (by simp) ?_
     refine (AllReadyH.cons (get_ops _ _ _ rfl) (fun K hK => ?_) AllReadyH.nil)
     go_simp
     obtain ⟨gv, hgv⟩ : ∃ gv, gv = h2.heap.size := ⟨_, rfl⟩
     obtain ⟨h3, hh3⟩ : ∃ h3, h3 = h2.alloc (.cells ([.slice none 0 0] : List Value).toArray 24) := ⟨_, rfl⟩
     have hb : Below h2.heap.size h2 h3 := by rw [hh3]; exact S2.below_new _ _
     have hN : BK 24 h3 gv [.slice none 0 0] := by rw [hh3, hgv]; exact BK.new _ _ _
     have HGV : Hid (w.heap.size < gv) := Lib.hid (by rw [hgv]; exact T_h2.out.lt)
     have HBV : Hid (b < gv) := Lib.hid (by rw [hgv]; have := G_h2.out; have := HBL.out; omega)
     have HOV : Hid (S2.Off gv A2 Y) := Lib.hid (S2.Off.lt L_h2.out (by rw [hgv]; exact Nat.le_refl _))
     have I_h3 : Hid (InvR w h3 w.heap.size A1 c1 X) := Lib.hid (InvR.step I_h2.out hb)
     have T_h3 : Hid (BK 24 h3 w.heap.size [.slice A1 X.length c1]) := Lib.hid (T_h2.out.step hb)
     have C_h3 : Hid (∀ i v, (gK z)[i]? = some v → h3.cell? ⟨b, o + k * 34 + i, none⟩ = some v) := Lib.hid (cells_stepK C_h2.out hb)
     have P_h3 : Hid (PIn h3 z.1 z.2) := Lib.hid (P_h2.out.step hb)
     have B_h3 : Hid (Below w.heap.size w h3) := Lib.hid (stepB B_h2.out hb)
     have G_h3 : Hid (wr.heap.size ≤ h3.heap.size) := Lib.hid (Nat.le_trans G_h2.out hb.size)
     have L_h3 : Hid (S2.IL h3 h3.heap.size A2 Y) := Lib.hid (CL.step L_h2.out hb)
     clear I_h2 T_h2 C_h2 P_h2 B_h2 G_h2 L_h2
     have V_h3 := Lib.hid hN
     try rw [← hh3]
     try rw [← hgv]
     clear hHeld hb hN hh3 hgv
     refine hK.out _ _ ⟨T_h3.out, C_h3.out⟩ (fun hHeld => ?_)
     clear hK K
     try simp only [Act.put, List.setIfInBounds_toArray, List.set_cons_zero, List.set_cons_succ]
     refine wpAnyH_ready (rs := [11]) (by kernel_rfl) (by simp) ?_
     refine (AllReadyH.cons (get_ops _ _ _ rfl) (fun K hK => ?_) AllReadyH.nil)
     refine S2.wp_store_all 24 _ _ rfl rfl gv (by go_simp) [.slice A2 Y.length c2] (by first | rfl | go_simp) 24 [.slice none 0 0] V_h3.out S2.boxSize rfl (onesB rfl) ?_
     intro h4 hM hP
     have V_h4 : Hid (BK 24 h4 gv [.slice A2 Y.length c2]) := Lib.hid (hM)
     have T_h4 : Hid (BK 24 h4 w.heap.size [.slice A1 X.length c1]) := Lib.hid (hP.other T_h3.out (by have := HGV.out; omega))
     have C_h4 : Hid (∀ i v, (gK z)[i]? = some v → h4.cell? ⟨b, o + k * 34 + i, none⟩ = some v) := Lib.hid (fun j v hv => (hP.cell (p := ⟨b, o + k * 34 + j, none⟩) (by have := HBV.out; show b ≠ gv; omega)).trans (C_h3.out j v hv))
     have B_h4 : Hid (Below w.heap.size w h4) := Lib.hid (hP.below B_h3.out (by have := HGV.out; omega))
     have G_h4 : Hid (wr.heap.size ≤ h4.heap.size) := Lib.hid ((by rw [hP.size]; exact G_h3.out))
     have L_h4 : Hid (S2.IL h4 h4.heap.size A2 Y) := Lib.hid (S2.IL.put L_h3.out hP HOV.out)
     clear I_h3 T_h3 C_h3 P_h3 B_h3 G_h3 L_h3 V_h3
     clear hM hP hHeld
     refine hK.out _ _ ⟨T_h4.out, C_h4.out⟩ (fun hHeld => ?_)
     clear hK K
     try simp only [Act.put, List.setIfInBounds_toArray, List.set_cons_zero, List.set_cons_succ]
     refine tkA (i := 12) (v := .bool d) (y := Or.inl ⟨by rfl, fun wS hSw => by (try dsimp only at hSw); go_simp⟩) (s := hHeld) (h := ?_)
     refine tkA (i := 13) (v := .bool true) (y := Or.inl ⟨by rfl, fun wS hSw => by (try dsimp only at hSw); go_simp⟩) (s := hHeld) (h := ?_)
     refine wpAnyH_done (by kernel_rfl) ?_ _
     clear C_h4 G_h4
     go_wp2_with first
      | (refine wpList_load_v (by rfl) 24 (.tmp 5) rfl ⟨gv, 0, none⟩ rfl (S2.xv A2 c2 Y) (S2.run_load_all V_h4.out Tryz.underlying24 rfl S2.boxSize) ?_)
     refine (S2.nCheck_any A2 c2 Y h4 L_h4.out (by have := (S2.ck_ok.1 HVY.out).1; omega)).mono ?_
     rintro e q1 ⟨rfl, hb⟩
     have T_q1 : Hid (BK 24 q1 w.heap.size [.slice A1 X.length c1]) := Lib.hid (T_h4.out.step hb)
     have B_q1 : Hid (Below w.heap.size w q1) := Lib.hid (stepB B_h4.out hb)
     have L_q1 : Hid (S2.IL q1 q1.heap.size A2 Y) := Lib.hid (CL.step L_h4.out hb)
     have V_q1 : Hid (BK 24 q1 gv [.slice A2 Y.length c2]) := Lib.hid (V_h4.out.step hb)
     clear T_h4 B_h4 L_h4 V_h4
     clear hb
     rw [HVY.out]
     go_wp2_with first
      | (refine wpList_load_v (by rfl) 24 (.tmp 5) rfl ⟨gv, 0, none⟩ rfl (S2.xv A2 c2 Y) (S2.run_load_all V_q1.out Tryz.underlying24 rfl S2.boxSize) ?_)
      | (refine S2.wpList_store_all (by rfl) 24 (.tmp 3) (.tmp 35) rfl rfl w.heap.size rfl [.slice A2 Y.length c2] rfl 24 [.slice A1 X.length c1] T_q1.out S2.boxSize rfl (onesB rfl) ?_; intro qf hM hP; have T_qf := Lib.hid hM; have B_qf := Lib.hid (hP.below B_q1.out (Nat.le_refl _)); have L_qf := Lib.hid (S2.IL.put L_q1.out hP HOB.out); clear hM hP)
     go_roundg g
     case measure => omega
     case rel => exact ⟨k + 1, A2, c2, Y, by have := HG.out; omega, by have := HK60.out; omega, by go_num, ⟨T_qf.out, B_qf.out, L_qf.out, HC2.out, HVY.out, HOB.out⟩⟩
   · go_simp
     obtain ⟨gv, hgv⟩ : ∃ gv, gv = h1.heap.size := ⟨_, rfl⟩
     obtain ⟨h2, hh2⟩ : ∃ h2, h2 = h1.alloc (.cells ([.slice none 0 0] : List Value).toArray 24) := ⟨_, rfl⟩
     have hb : Below h1.heap.size h1 h2 := by rw [hh2]; exact S2.below_new _ _
     have hN : BK 24 h2 gv [.slice none 0 0] := by rw [hh2, hgv]; exact BK.new _ _ _
     have HGV : Hid (w.heap.size < gv) := Lib.hid (by rw [hgv]; exact T_h1.out.lt)
     have HBV : Hid (b < gv) := Lib.hid (by rw [hgv]; have := G_h1.out; have := HBL.out; omega)
     have HOA : Hid (S2.Off gv A1 X) := Lib.hid (S2.Off.lt I_h1.out.l (by rw [hgv]; exact Nat.le_refl _))
     have I_h2 : Hid (InvR w h2 w.heap.size A1 c1 X) := Lib.hid (InvR.step I_h1.out hb)
     have T_h2 : Hid (BK 24 h2 w.heap.size [.slice A1 X.length c1]) := Lib.hid (T_h1.out.step hb)
     have C_h2 : Hid (∀ i v, (gK z)[i]? = some v → h2.cell? ⟨b, o + k * 34 + i, none⟩ = some v) := Lib.hid (cells_stepK C_h1.out hb)
     have P_h2 : Hid (PIn h2 z.1 z.2) := Lib.hid (P_h1.out.step hb)
     have B_h2 : Hid (Below w.heap.size w h2) := Lib.hid (stepB B_h1.out hb)
     have G_h2 : Hid (wr.heap.size ≤ h2.heap.size) := Lib.hid (Nat.le_trans G_h1.out hb.size)
     clear I_h1 T_h1 C_h1 P_h1 B_h1 G_h1
     have V_h2 := Lib.hid hN
     try rw [← hh2]
     try rw [← hgv]
     clear hHeld hb hN hh2 hgv
     refine hK.out _ _ ⟨T_h2.out, C_h2.out⟩ (fun hHeld => ?_)
     clear hK K
     try simp only [Act.put, List.setIfInBounds_toArray, List.set_cons_zero, List.set_cons_succ]
     refine wpAnyH_ready (rs := [5]) (by kernel_rfl) (by simp) ?_
     refine (AllReadyH.cons (get_ops _ _ _ rfl) (fun K hK => ?_) AllReadyH.nil)
     go_simp
     refine (HST.out h2 (HOK.out.step B_h2.out) I_h2.out.l P_h2.out).mono ?_
     rintro e h3 ⟨A2, c2, rfl, hc2, hl2, hfr2, hb⟩
     have HC2 := Lib.hid hc2
     have HOB : Hid (S2.Off w.heap.size A2 Y) := Lib.hid (I_h2.out.f.fr hfr2 T_h2.out.lt)
     have HOV : Hid (S2.Off gv A2 Y) := Lib.hid (HOA.out.fr hfr2 V_h2.out.lt)
     have I_h3 : Hid (InvR w h3 w.heap.size A1 c1 X) := Lib.hid (InvR.step I_h2.out hb)
     have T_h3 : Hid (BK 24 h3 w.heap.size [.slice A1 X.length c1]) := Lib.hid (T_h2.out.step hb)
     have C_h3 : Hid (∀ i v, (gK z)[i]? = some v → h3.cell? ⟨b, o + k * 34 + i, none⟩ = some v) := Lib.hid (cells_stepK C_h2.out hb)
     have P_h3 : Hid (PIn h3 z.1 z.2) := Lib.hid (P_h2.out.step hb)
     have B_h3 : Hid (Below w.heap.size w h3) := Lib.hid (stepB B_h2.out hb)
     have G_h3 : Hid (wr.heap.size ≤ h3.heap.size) := Lib.hid (Nat.le_trans G_h2.out hb.size)
     have V_h3 : Hid (BK 24 h3 gv [.slice none 0 0]) := Lib.hid (V_h2.out.step hb)
     clear I_h2 T_h2 C_h2 P_h2 B_h2 G_h2 V_h2
     have L_h3 : Hid (S2.IL h3 h3.heap.size A2 Y) := Lib.hid hl2
     clear hHeld hb hl2 hfr2 hc2
     go_wp2_with fail
     refine hK.out _ _ ⟨T_h3.out, C_h3.out⟩ (fun hHeld => ?_)
     clear hK K
     try simp only [Act.put, List.setIfInBounds_toArray, List.set_cons_zero, List.set_cons_succ]
     refine tkA (i := 6) (v := .tuple #[S2.xv A2 c2 Y, .bool d, .bool true]) (y := Or.inl ⟨by rfl, fun wS hSw => by (try dsimp only at hSw); go_simp⟩) (s := hHeld) (h := ?_)
     refine tkA (i := 7) (v := (S2.xv A2 c2 Y)) (y := Or.inl ⟨by rfl, fun wS hSw => by (try dsimp only at hSw); go_simp⟩) (s := hHeld) (h := ?_)
     refine tkA (i := 8) (v := .bool d) (y := Or.inl ⟨by rfl, fun wS hSw => by (try dsimp only at hSw); go_simp⟩) (s := hHeld) (h := ?_)
     refine tkA (i := 9) (v := .bool true) (y := Or.inl ⟨by rfl, fun wS hSw => by (try dsimp only at hSw); go_simp⟩) (s := hHeld) (h := ?_)
     refine wpAnyH_ready (rs := [11]) (by kernel_rfl) (by simp) ?_
     refine (AllReadyH.cons (get_ops _ _ _ rfl) (fun K hK => ?_) AllReadyH.nil)
     refine S2.wp_store_all 24 _ _ rfl rfl gv (by go_simp) [.slice A2 Y.length c2] (by first | rfl | go_simp) 24 [.slice none 0 0] V_h3.out S2.boxSize rfl (onesB rfl) ?_
     intro h4 hM hP
     have V_h4 : Hid (BK 24 h4 gv [.slice A2 Y.length c2]) := Lib.hid (hM)
     have T_h4 : Hid (BK 24 h4 w.heap.size [.slice A1 X.length c1]) := Lib.hid (hP.other T_h3.out (by have := HGV.out; omega))
     have C_h4 : Hid (∀ i v, (gK z)[i]? = some v → h4.cell? ⟨b, o + k * 34 + i, none⟩ = some v) := Lib.hid (fun j v hv => (hP.cell (p := ⟨b, o + k * 34 + j, none⟩) (by have := HBV.out; show b ≠ gv; omega)).trans (C_h3.out j v hv))
     have B_h4 : Hid (Below w.heap.size w h4) := Lib.hid (hP.below B_h3.out (by have := HGV.out; omega))
     have G_h4 : Hid (wr.heap.size ≤ h4.heap.size) := Lib.hid ((by rw [hP.size]; exact G_h3.out))
     have L_h4 : Hid (S2.IL h4 h4.heap.size A2 Y) := Lib.hid (S2.IL.put L_h3.out hP HOV.out)
     clear I_h3 T_h3 C_h3 P_h3 B_h3 G_h3 V_h3 L_h3
     clear hM hP hHeld
     refine hK.out _ _ ⟨T_h4.out, C_h4.out⟩ (fun hHeld => ?_)
     clear hK K
     try simp only [Act.put, List.setIfInBounds_toArray, List.set_cons_zero, List.set_cons_succ]
     refine tkA (i := 12) (v := .bool d) (y := Or.inl ⟨by rfl, fun wS hSw => by (try dsimp only at hSw); go_simp⟩) (s := hHeld) (h := ?_)
     refine tkA (i := 13) (v := .bool true) (y := Or.inl ⟨by rfl, fun wS hSw => by (try dsimp only at hSw); go_simp⟩) (s := hHeld) (h := ?_)
     refine wpAnyH_done (by kernel_rfl) ?_ _
     clear C_h4 G_h4
     go_wp2_with first
      | (refine wpList_load_v (by rfl) 24 (.tmp 5) rfl ⟨gv, 0, none⟩ rfl (S2.xv A2 c2 Y) (S2.run_load_all V_h4.out Tryz.underlying24 rfl S2.boxSize) ?_)
     refine (S2.nCheck_any A2 c2 Y h4 L_h4.out (by have := (S2.ck_ok.1 HVY.out).1; omega)).mono ?_
     rintro e q1 ⟨rfl, hb⟩
     have T_q1 : Hid (BK 24 q1 w.heap.size [.slice A1 X.length c1]) := Lib.hid (T_h4.out.step hb)
     have B_q1 : Hid (Below w.heap.size w q1) := Lib.hid (stepB B_h4.out hb)
     have V_q1 : Hid (BK 24 q1 gv [.slice A2 Y.length c2]) := Lib.hid (V_h4.out.step hb)
     have L_q1 : Hid (S2.IL q1 q1.heap.size A2 Y) := Lib.hid (CL.step L_h4.out hb)
     clear T_h4 B_h4 V_h4 L_h4
     clear hb
     rw [HVY.out]
     go_wp2_with first
      | (refine wpList_load_v (by rfl) 24 (.tmp 5) rfl ⟨gv, 0, none⟩ rfl (S2.xv A2 c2 Y) (S2.run_load_all V_q1.out Tryz.underlying24 rfl S2.boxSize) ?_)
      | (refine S2.wpList_store_all (by rfl) 24 (.tmp 3) (.tmp 35) rfl rfl w.heap.size rfl [.slice A2 Y.length c2] rfl 24 [.slice A1 X.length c1] T_q1.out S2.boxSize rfl (onesB rfl) ?_; intro qf hM hP; have T_qf := Lib.hid hM; have B_qf := Lib.hid (hP.below B_q1.out (Nat.le_refl _)); have L_qf := Lib.hid (S2.IL.put L_q1.out hP HOB.out); clear hM hP)
     go_roundg g
     case measure => omega
     case rel => exact ⟨k + 1, A2, c2, Y, by have := HG.out; omega, by have := HK60.out; omega, by go_num, ⟨T_qf.out, B_qf.out, L_qf.out, HC2.out, HVY.out, HOB.out⟩⟩
end Go.Proofs.YtomlideijhejfaaGreatDoor
namespace Go.Proofs.YtomlideijhejfaaGreatDoor.inboundRuns
open Go.ChangeShapes Go.WideShapes Go.ChangeAt Go.WideMaps Go.WideElems Go.RowKit
open Go.ChangeMaps (open_string shut_string)

theorem own : ownKnob Tryz.prog.godebug = none := by kernel_rfl
theorem okw {W : World} (h : W.ShapedOpen Tryz.prog) : S1.Okw W := Tryz.laysM220.s1_3 W h

set_option maxRecDepth 100000 in
theorem contract (H : Type) (enc : TypeId × Value → H) (W : World) (base : Nat) (args : Array Value) (ds gs : List (DataW H)) (before : List MemPlace)
    (hval : ∀ (j : Nat) t v, Tryz.f4.params[j]? = some t → args[j]? = some v → Value.okWide Tryz.prog W .any base t v)
    (hW : DataW.Whole enc Tryz.prog Tryz.f4.params.toList Rows.inboundRunsSpec.vars false W args.toList ds gs before)
    (hsz : (DataW.weightsEach Tryz.prog (Tryz.f4.params.toList ++ (OpenSpec.ofChange Rows.inboundRunsSpec).bare.plain.varTypes Tryz.prog) (ds ++ gs)).all (· ≤ reachBytes) = true)
    (hsh : W.ShapedOpen Tryz.prog) :
    Calls Tryz.prog 4 args W fun e W' => ∃ v, e = .returned v ∧ Rows.inboundRunsSpec.post enc Tryz.prog Tryz.f4 false true false false W args v W' := by
  have hW' := hW
  obtain ⟨p, q, hA0, hV, rfl, hfz, hnd⟩ := hW
  have hA : DataW.TrodAll enc Tryz.prog W 0 (fun _ => true) true Tryz.f4.params.toList args.toList ds p := hA0
  rw [Tryz.params4] at hA hval
  obtain ⟨v0, vs0, d0, ds0, p0, q0, hargs, rfl, rfl, h0, r0⟩ := trodAll_cons hA
  obtain ⟨rfl, rfl, rfl⟩ := trodAll_nil r0
  obtain rfl : args = #[v0] := by cases args; simp_all
  obtain ⟨rfl, rfl⟩ := trodVars_none hV
  obtain ⟨a0, n0, c0, rfl⟩ := okWide_slice Tryz.underlying37 (hval 0 37 v0 rfl rfl)
  have h0k := h0
  obtain ⟨fu0, hf0⟩ := h0
  clear hA0
  simp only [List.append_nil] at hW'
  have hrb := reachBytes_lt
  have hlt : ∀ x ∈ p0, x.block < W.heap.size := fun x hx => by simpa using hW'.lt x (by simpa using hx)
  obtain ⟨X0, rfl, sl0, hc0, wz0⟩ := open_pktsw hf0
  have wl0 := wz0 (WB.of hsz (j := 0) rfl rfl)
  refine (inboundRuns_walk a0 c0 X0 W (okw hsh) sl0 wl0.1 wl0.2).mono fun e W' ⟨he, hb⟩ => ?_
  subst he
  have e1 : Rows.inboundRunsSpec.fn H ([d0] ++ []) = { results := [.lit (.bool true)], args := [d0] } := rfl
  refine ⟨_, rfl, _, _, _, [], p0, [], by simpa using hW', ?_, ?_, ?_, hb.frame _, fun h => by cases h⟩
  · exact trodAll_cons_mk (shut_bool Tryz.underlying4 _) trodAll_mk0
  · rw [e1]
    simpa using trodAll_cons_mk (Below.trod laidOutAll (by kernel_rfl) (of_decide_eq_true (by kernel_rfl)) h0k hb (fun x hx => hlt x (by simp [hx]))) (trodAll_mk0)
  · rfl

theorem laid_met (os : Os) : laidMet Tryz.prog Rows.inboundRunsRow.laid ((World.laidAll Tryz.prog os Rows.inboundRunsRow.laid).forCall (fun _ _ => 0) ⟨#[], #[.slice none 0 0], []⟩).memory :=
  laidMet_laidAll _ (by kernel_rfl) (by kernel_rfl)
theorem reads (os : Os) {H : Type} (enc : TypeId × Value → H) : ∃ places, DataW.whole enc Tryz.prog ((World.laidAll Tryz.prog os Rows.inboundRunsRow.laid).forCall (fun _ _ => 0) ⟨#[], #[.slice none 0 0], []⟩).memory Tryz.f4.params.toList Rows.inboundRunsSpec.vars false #[Value.slice none 0 0].toList 8 = some ([.nil], [], places) :=
  ⟨[], by kernel_rfl⟩

set_option maxRecDepth 100000 in
theorem lifted (os : Os) (started : os.Started) (H : Type) (enc : TypeId × Value → H) (F : Stop.Interp) :
    ReturnsInHanded {} Tryz.checked os 4 .any ((OpenSpec.ofChange Rows.inboundRunsSpec).preRow enc Tryz.prog Tryz.f4 Rows.inboundRunsRow.domain false Rows.inboundRunsRow.laid) (((OpenSpec.ofChange Rows.inboundRunsSpec).at F).post enc Tryz.prog Tryz.f4 false true false false) := by
  obtain ⟨places, hx⟩ := reads os enc
  refine returnsInHanded_of_row (C := Tryz.checked) (s := (OpenSpec.ofChange Rows.inboundRunsSpec)) own started (by kernel_rfl) Tryz.func4
    (witness_row_at (enc := enc) (C := Tryz.checked) false (World.laidAll Tryz.prog os Rows.inboundRunsRow.laid) #[.slice none 0 0] (World.laidAll_os _ _ _) (by kernel_rfl) (by kernel_rfl) (by kernel_rfl)
      (OpenSpec.preRow_of_cond 8 hx (by kernel_rfl) (fun k hk => by cases hk) (by kernel_rfl) (laid_met os))) ?_
  intro W base args ds gs before hval hW _ _ hsz _ hsh _
  exact contract H enc W base args ds gs before hval hW hsz hsh

theorem said : Rows.InboundRunsSaid :=
  OpenClaim.holds_of_cond 4 Tryz.f4 rfl rfl rfl rfl rfl rfl rfl ⟨rfl, rfl, rfl, rfl, rfl⟩ rfl rfl rfl rfl rfl (by kernel_rfl) Tryz.func4 (by kernel_rfl)
    (of_decide_eq_true (by kernel_rfl)) (by unfold Func.isWrapper; first | (rw [if_pos (by decide +kernel)]; kernel_rfl) | (rw [if_neg (by decide +kernel)]; exact ⟨rfl, rfl⟩))
    (fun os started H enc _ F => by rw [OpenClaim.pre_eq_preRow]; exact lifted os started H enc F)

theorem plain (f : FuncId) (fn : Func) (hf : Tryz.pinned.checked.prog.funcNamed "broker/brokerlaw15.InboundRuns" = some f) (hfn : Tryz.pinned.checked.prog.funcs[f]? = some fn) :
    false = Tryz.pinned.checked.prog.looks [] ∧ ∀ (j : Nat) t, fn.params[j]? = some t → Tryz.pinned.checked.prog.wantsStandIn t = false := by
  obtain rfl : f = 4 := Option.some.inj ((show Tryz.prog.funcNamed "broker/brokerlaw15.InboundRuns" = some 4 by kernel_rfl).symm.trans hf) |>.symm
  obtain rfl : fn = Tryz.f4 := (Option.some.inj (Tryz.func4.symm.trans hfn)).symm
  refine ⟨by kernel_rfl, fun j t ht => ?_⟩
  rw [Tryz.params4] at ht
  have hm : t ∈ [37] := by simpa using Array.mem_of_getElem? ht
  simp only [List.mem_cons, List.not_mem_nil, or_false] at hm
  subst hm
  exact (show Tryz.prog.wantsStandIn 37 = false by kernel_rfl)

theorem card : Rows.InboundRunsCardSaid :=
  Claim7.holds_tied_plain_at .later [] _ _ _ _ said (fun _ h => by cases h) (by kernel_rfl) (fun _ h => by cases h) inboundRuns_row_tie rfl ⟨rfl, rfl⟩ (by kernel_rfl) rfl plain (by kernel_rfl)
end Go.Proofs.YtomlideijhejfaaGreatDoor.inboundRuns
