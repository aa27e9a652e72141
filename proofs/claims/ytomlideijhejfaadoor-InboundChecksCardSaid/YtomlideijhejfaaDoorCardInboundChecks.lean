/-
  An inbox that came in by value, opened. Conditions: it reads as data.
  The walk of InboundChecks: it answers true. Conditions: the inbox reads as data; the library's bound on short texts holds a number.
  PROVED: InboundChecks answers true for every text (each of its 2 arguments).
  Conditions: those that the row prints (the tables of package unicode/utf8 read as the program's text lays them; each argument has at most 2^47 bytes). The tie of the tables is given, over a pruned copy of the project.
-/
import Derived.Test.YtomlideijhejfaaDoorOpenMsg
import Derived.Test.YtomlideijhejfaaDoorNa
import Derived.Deep.Slices
import Derived.Test.YtomlideijhejfaaDoorNf
import Derived.Test.YtomlideijhejfaaDoorCards
import Derived.Test.YtomlideijhejfaaDoorTie
import Derived.ProofKit
import Derived.OpenShut
import Derived.Deep.DeepHandedRow
import Derived.Lib.LaidTab
import Derived.Lay
import Derived.LaidOnce
import Derived.SizedLaws
import Derived.Carry
import Derived.SevenTiedAt
namespace Go.Proofs.YtomlideijhejfaaDoor
open Go.Joins Go.ChangeShapes Go.WideShapes Go.ChangeAt Go.WideMaps Go.WideElems Go.RowKit Go.Deep

theorem len_maxI {n : Nat} (h : n ≤ maxLen) : n ≤ 9223372036854775807 := by unfold maxLen at h; omega
theorem cellsIntsI : Tryd.prog.cellsOf 23 = 1 := by kernel_rfl
theorem cellsInb : Tryd.prog.cellsOf 53 = 1 := by kernel_rfl
section
variable {H : Type} {enc : TypeId × Value → H} {W : World}
theorem open_numsI {v : Value} {fuel : Nat} {x : DataW H × List MemPlace}
    (hf : DataW.trod enc Tryd.prog W 0 (fun _ => true) true fuel 23 [v] = some x) :
    ∃ (A : Option Addr) (c : Nat) (X : List Int), v = .slice A X.length c ∧ S2.IL W W.heap.size A X ∧ X.length ≤ c ∧ X.length ≤ 9223372036854775807 ∧ ∀ x ∈ X, -9223372036854775808 ≤ x ∧ x ≤ 9223372036854775807 := by
  rcases open_ints Tryd.underlying23 Tryd.underlying3 cellsI64 hf with ⟨hcs, hx⟩ | ⟨a, len', cap', zs, hcs, _, hl, hm, hz, hx, hcell, hwf⟩
  · simp at hcs
    subst hcs
    exact ⟨none, 0, [], rfl, CL.nil _ _ _, Nat.le_refl _, by simp, fun x h => by cases h⟩
  · simp at hcs
    subst hcs
    simp only [if_true] at hz
    have hlen : (zs.take len').length = len' := by rw [List.length_take]; omega
    have hmm : cap' ≤ 9223372036854775807 := by unfold maxLen at hm; omega
    refine ⟨some a, cap', zs.take len', by rw [hlen], fun h0 => ?_, by omega, by omega, fun x hx => wf64 (hwf x (List.mem_of_mem_take hx))⟩
    rw [hlen] at h0
    obtain ⟨b, o, rfl, hb⟩ := plain_addr (hcell 0 (by omega))
    refine ⟨b, o, rfl, hb, fun j X hX => ?_⟩
    have hj : j < len' := by have := (List.getElem?_eq_some_iff.1 hX).1; omega
    rw [List.getElem?_take_of_lt hj] at hX
    rw [add_plain, hcell j (by omega), List.getD_eq_getElem?_getD, hX]
    rfl
set_option maxRecDepth 100000 in

theorem open_inb {r : Reach} {b0 : Nat} {v : Value} {d : DataW H} {p : List MemPlace} (hv : Value.okWide Tryd.prog W r b0 53 v)
    (h : DataW.Trod enc Tryd.prog W 0 (fun _ => true) true 53 v d p) : ∃ (A : Option Addr) (c : Nat) (X : List Int), v = S2.xv A c X ∧ S2.IL W W.heap.size A X ∧ X.length ≤ c ∧ X.length ≤ 9223372036854775807 := by
  obtain ⟨cs, rfl, hsz⟩ := okWide_struct Tryd.underlying53 hv
  obtain ⟨fuel, hf⟩ := h
  obtain ⟨l⟩ := cs
  have hl : l.length = 1 := by have := hsz.trans cellsInb; simpa using this
  match l, hl with
  | [c0], _ =>
    obtain ⟨ys, n, _, _, _, hyl, hfld⟩ := DataW.trod_struct Tryd.underlying53 hf
    match ys, hyl with
    | [y0], _ =>
      have g0 := hfld 0 _ rfl
      simp [cellsIntsI] at g0
      obtain ⟨A, c, X, e1, h1, h2, h3, _⟩ := open_numsI (show DataW.trod enc Tryd.prog W 0 (fun _ => true) true n 23 [c0] = some y0 from g0)
      subst e1
      exact ⟨A, c, X, rfl, h1, h2, h3⟩
end
end Go.Proofs.YtomlideijhejfaaDoor
namespace Go.Proofs.YtomlideijhejfaaDoor
open Go.RowKit
open S2 (BK Put)

set_option maxRecDepth 20000 in
set_option maxHeartbeats 8000000 in
theorem inboundChecks_walk (A : Option Addr) (c : Nat) (X : List Int) (n : Int) (w : World) (hok : S1.Okw w) (hsl : S2.IL w w.heap.size A X) (hX : X.length ≤ 9223372036854775807) :
    Calls Tryd.prog 4 #[S2.xv A c X, .int .i64 n] w fun e w' => e = .returned (.bool true) ∧ Below w.heap.size w w' := by
  have HOK := Lib.hid hok
  have HA := Lib.hid (fun w1 h => awake15_any w1 h)
  have HC := Lib.hid (fun w1 h => S2.nCheck_any A c X w1 h hX)
  have HR := Lib.hid (fun w1 h => nrCheck_any A c X w1 h hX)
  have HS := Lib.hid (fun w1 h => nrHas_any A c X n w1 h hX)
  have HH : Hid (S2.ckI X 0 = 0 → ∀ w1, S2.IL w1 w1.heap.size A X → Calls Tryd.prog 19 #[S2.xv A c X, .int .i64 n] w1 fun e w' => e = .returned (.bool (decide (n ∈ X))) ∧ Below w1.heap.size w1 w') := Lib.hid (fun hv w1 h => S2.nHas_any A c X n w1 h hv)
  have HL := Lib.hid hsl
  generalize S2.ckI X 0 = z at HC HR HH
  generalize decide (n ∈ X) = r at HS HH
  clear hok hsl hX
  go_enter Tryd.func4, Tryd.ntmps4
  go_upto_region 1 with fail
  refine name_world (C := fun w1 => Code.wp _ _ _ _ w1) (w.alloc (.cells [.slice A X.length c].toArray 53)) ?_
  intro w1 hw1
  have T_w1 : Hid (BK 53 w1 w.heap.size [.slice A X.length c]) := Lib.hid (by rw [hw1]; exact BK.new _ _ _)
  have B_w1 : Hid (Below w.heap.size w w1) := Lib.hid (by rw [hw1]; exact S2.below_new _ _)
  have L_w1 : Hid (S2.IL w1 w1.heap.size A X) := Lib.hid (CL.step HL.out B_w1.out)
  clear hw1 HL
  go_wp2_with first
    | (refine wpList_load_v (by rfl) 53 (.tmp 2) rfl ⟨w.heap.size, 0, none⟩ rfl (S2.xv A c X) (S2.run_load_all T_w1.out Tryd.underlying53 rfl S2.boxSize) ?_)
  refine (HC.out w1 L_w1.out).mono ?_
  rintro e y1 ⟨rfl, hb⟩
  have T_y1 : Hid (BK 53 y1 w.heap.size [.slice A X.length c]) := Lib.hid (T_w1.out.step hb)
  have B_y1 : Hid (Below w.heap.size w y1) := Lib.hid (stepB B_w1.out hb)
  have L_y1 : Hid (S2.IL y1 y1.heap.size A X) := Lib.hid (CL.step L_w1.out hb)
  clear T_w1 B_w1 L_w1
  clear hb
  clear HC
  go_upto_region 2 with fail
  by_cases hz : z = 0
  · have HH2 := Lib.hid (HH.out hz)
    have q1 : (z != 0) = false := by simp [hz]
    clear HH hz
    obtain ⟨v1, hv1⟩ : ∃ v1, v1 = World.drew y1 := ⟨_, rfl⟩
    have hbD : Below y1.heap.size y1 v1 := by rw [hv1]; exact (Below.refl _ _).drew
    have T_v1 : Hid (BK 53 v1 w.heap.size [.slice A X.length c]) := Lib.hid (T_y1.out.step hbD)
    have B_v1 : Hid (Below w.heap.size w v1) := Lib.hid (stepB B_y1.out hbD)
    have L_v1 : Hid (S2.IL v1 v1.heap.size A X) := Lib.hid (CL.step L_y1.out hbD)
    clear T_y1 B_y1 L_y1
    have hbd : (fun w' => BK 53 w' w.heap.size [.slice A X.length c]) (World.drew y1) := by rw [← hv1]; exact T_v1.out
    have hSD : (fun w' => BK 53 w' w.heap.size [.slice A X.length c]) v1 := T_v1.out
    have HWD := Lib.hid hv1
    clear hv1 hbD
    refine wp_region_held_drew (S := fun w' => BK 53 w' w.heap.size [.slice A X.length c]) (by kernel_rfl) hbd (fun hHeld => ?_)
    rw [← HWD.out]
    clear hHeld
    have hHeld := hSD
    clear hSD hbd HWD
    refine wpAnyH_ready (rs := [0]) (by kernel_rfl) (by simp) ?_
    refine (AllReadyH.cons (get_ops _ _ _ rfl) (fun K hK => ?_) AllReadyH.nil)
    go_simp
    refine (HA.out v1 (HOK.out.step B_v1.out)).mono ?_
    rintro e v2 ⟨rfl, hb⟩
    have T_v2 : Hid (BK 53 v2 w.heap.size [.slice A X.length c]) := Lib.hid (T_v1.out.step hb)
    have B_v2 : Hid (Below w.heap.size w v2) := Lib.hid (stepB B_v1.out hb)
    have L_v2 : Hid (S2.IL v2 v2.heap.size A X) := Lib.hid (CL.step L_v1.out hb)
    clear T_v1 B_v1 L_v1
    clear hHeld hb
    go_wp2_with fail
    refine hK.out _ _ T_v2.out (fun hHeld => ?_)
    clear hK K
    try simp only [Act.put, List.setIfInBounds_toArray, List.set_cons_zero, List.set_cons_succ]
    refine wpAnyH_take (i := 1) (v := .bool true) (get_ops _ _ _ rfl) (by kernel_rfl) (by kernel_rfl) (by kernel_rfl) (fun _ _ _ h => h) (Or.inl ⟨by rfl, fun wS hSw => by (try dsimp only at hSw); go_simp⟩) hHeld ?_
    try simp only [Act.put, List.setIfInBounds_toArray, List.set_cons_zero, List.set_cons_succ]
    refine wpAnyH_take (i := 2) (v := .int .i64 z) (get_ops _ _ _ rfl) (by kernel_rfl) (by kernel_rfl) (by kernel_rfl) (fun _ _ _ h => h) (Or.inl ⟨by rfl, fun wS hSw => by (try dsimp only at hSw); go_simp⟩) hHeld ?_
    try simp only [Act.put, List.setIfInBounds_toArray, List.set_cons_zero, List.set_cons_succ]
    refine wpAnyH_take (i := 3) (v := (S2.xv A c X)) (get_ops _ _ _ rfl) (by kernel_rfl) (by kernel_rfl) (by kernel_rfl) (fun _ _ _ h => h) (Or.inl ⟨by rfl, fun wS hSw => by (try dsimp only at hSw); exact exec_load 53 _ rfl ⟨w.heap.size, 0, none⟩ (by go_simp) _ (S2.run_load_all hSw Tryd.underlying53 rfl S2.boxSize)⟩) hHeld ?_
    try simp only [Act.put, List.setIfInBounds_toArray, List.set_cons_zero, List.set_cons_succ]
    refine wpAnyH_ready (rs := [4]) (by kernel_rfl) (by simp) ?_
    refine (AllReadyH.cons (get_ops _ _ _ rfl) (fun K hK => ?_) AllReadyH.nil)
    go_simp
    refine (HR.out v2 L_v2.out).mono ?_
    rintro e v3 ⟨rfl, hb⟩
    have T_v3 : Hid (BK 53 v3 w.heap.size [.slice A X.length c]) := Lib.hid (T_v2.out.step hb)
    have B_v3 : Hid (Below w.heap.size w v3) := Lib.hid (stepB B_v2.out hb)
    have L_v3 : Hid (S2.IL v3 v3.heap.size A X) := Lib.hid (CL.step L_v2.out hb)
    clear T_v2 B_v2 L_v2
    clear hHeld hb
    go_wp2_with fail
    refine hK.out _ _ T_v3.out (fun hHeld => ?_)
    clear hK K
    try simp only [Act.put, List.setIfInBounds_toArray, List.set_cons_zero, List.set_cons_succ]
    refine wpAnyH_take (i := 5) (v := .bool true) (get_ops _ _ _ rfl) (by kernel_rfl) (by kernel_rfl) (by kernel_rfl) (fun _ _ _ h => h) (Or.inl ⟨by rfl, fun wS hSw => by (try dsimp only at hSw); go_simp⟩) hHeld ?_
    try simp only [Act.put, List.setIfInBounds_toArray, List.set_cons_zero, List.set_cons_succ]
    refine wpAnyH_take (i := 6) (v := .bool true) (get_ops _ _ _ rfl) (by kernel_rfl) (by kernel_rfl) (by kernel_rfl) (fun _ _ _ h => h) (Or.inl ⟨by rfl, fun wS hSw => by (try dsimp only at hSw); go_simp⟩) hHeld ?_
    try simp only [Act.put, List.setIfInBounds_toArray, List.set_cons_zero, List.set_cons_succ]
    refine wpAnyH_take (i := 7) (v := .bool true) (get_ops _ _ _ rfl) (by kernel_rfl) (by kernel_rfl) (by kernel_rfl) (fun _ _ _ h => h) (Or.inl ⟨by rfl, fun wS hSw => by (try dsimp only at hSw); go_simp⟩) hHeld ?_
    try simp only [Act.put, List.setIfInBounds_toArray, List.set_cons_zero, List.set_cons_succ]
    refine wpAnyH_take (i := 8) (v := .int .i64 z) (get_ops _ _ _ rfl) (by kernel_rfl) (by kernel_rfl) (by kernel_rfl) (fun _ _ _ h => h) (Or.inl ⟨by rfl, fun wS hSw => by (try dsimp only at hSw); go_simp⟩) hHeld ?_
    try simp only [Act.put, List.setIfInBounds_toArray, List.set_cons_zero, List.set_cons_succ]
    refine wpAnyH_take (i := 9) (v := .bool false) (get_ops _ _ _ rfl) (by kernel_rfl) (by kernel_rfl) (by kernel_rfl) (fun _ _ _ h => h) (Or.inl ⟨by rfl, fun wS hSw => by (try dsimp only at hSw); go_simp⟩) hHeld ?_
    try simp only [Act.put, List.setIfInBounds_toArray, List.set_cons_zero, List.set_cons_succ]
    refine wpAnyH_take (i := 10) (v := .bool false) (get_ops _ _ _ rfl) (by kernel_rfl) (by kernel_rfl) (by kernel_rfl) (fun _ _ _ h => h) (Or.inl ⟨by rfl, fun wS hSw => by (try dsimp only at hSw); go_simp⟩) hHeld ?_
    try simp only [Act.put, List.setIfInBounds_toArray, List.set_cons_zero, List.set_cons_succ]
    refine wpAnyH_take (i := 11) (v := (S2.xv A c X)) (get_ops _ _ _ rfl) (by kernel_rfl) (by kernel_rfl) (by kernel_rfl) (fun _ _ _ h => h) (Or.inl ⟨by rfl, fun wS hSw => by (try dsimp only at hSw); exact exec_load 53 _ rfl ⟨w.heap.size, 0, none⟩ (by go_simp) _ (S2.run_load_all hSw Tryd.underlying53 rfl S2.boxSize)⟩) hHeld ?_
    try simp only [Act.put, List.setIfInBounds_toArray, List.set_cons_zero, List.set_cons_succ]
    refine wpAnyH_take (i := 12) (v := .int .i64 n) (get_ops _ _ _ rfl) (by kernel_rfl) (by kernel_rfl) (by kernel_rfl) (fun _ _ _ h => h) (Or.inl ⟨by rfl, fun wS hSw => by (try dsimp only at hSw); go_simp⟩) hHeld ?_
    try simp only [Act.put, List.setIfInBounds_toArray, List.set_cons_zero, List.set_cons_succ]
    refine wpAnyH_take (i := 14) (v := (S2.xv A c X)) (get_ops _ _ _ rfl) (by kernel_rfl) (by kernel_rfl) (by kernel_rfl) (fun _ _ _ h => h) (Or.inl ⟨by rfl, fun wS hSw => by (try dsimp only at hSw); exact exec_load 53 _ rfl ⟨w.heap.size, 0, none⟩ (by go_simp) _ (S2.run_load_all hSw Tryd.underlying53 rfl S2.boxSize)⟩) hHeld ?_
    try simp only [Act.put, List.setIfInBounds_toArray, List.set_cons_zero, List.set_cons_succ]
    refine wpAnyH_take (i := 15) (v := .int .i64 n) (get_ops _ _ _ rfl) (by kernel_rfl) (by kernel_rfl) (by kernel_rfl) (fun _ _ _ h => h) (Or.inl ⟨by rfl, fun wS hSw => by (try dsimp only at hSw); go_simp⟩) hHeld ?_
    try simp only [Act.put, List.setIfInBounds_toArray, List.set_cons_zero, List.set_cons_succ]
    refine wpAnyH_ready (rs := [13]) (by kernel_rfl) (by simp) ?_
    refine (AllReadyH.cons (get_ops _ _ _ rfl) (fun K hK => ?_) AllReadyH.nil)
    go_simp
    refine (HH2.out v3 L_v3.out).mono ?_
    rintro e v4 ⟨rfl, hb⟩
    have T_v4 : Hid (BK 53 v4 w.heap.size [.slice A X.length c]) := Lib.hid (T_v3.out.step hb)
    have B_v4 : Hid (Below w.heap.size w v4) := Lib.hid (stepB B_v3.out hb)
    have L_v4 : Hid (S2.IL v4 v4.heap.size A X) := Lib.hid (CL.step L_v3.out hb)
    clear T_v3 B_v3 L_v3
    clear hHeld hb
    go_wp2_with fail
    refine hK.out _ _ T_v4.out (fun hHeld => ?_)
    clear hK K
    try simp only [Act.put, List.setIfInBounds_toArray, List.set_cons_zero, List.set_cons_succ]
    refine wpAnyH_ready (rs := [16]) (by kernel_rfl) (by simp) ?_
    refine (AllReadyH.cons (get_ops _ _ _ rfl) (fun K hK => ?_) AllReadyH.nil)
    go_simp
    refine (HS.out v4 L_v4.out).mono ?_
    rintro e v5 ⟨rfl, hb⟩
    have T_v5 : Hid (BK 53 v5 w.heap.size [.slice A X.length c]) := Lib.hid (T_v4.out.step hb)
    have B_v5 : Hid (Below w.heap.size w v5) := Lib.hid (stepB B_v4.out hb)
    have L_v5 : Hid (S2.IL v5 v5.heap.size A X) := Lib.hid (CL.step L_v4.out hb)
    clear T_v4 B_v4 L_v4
    clear hHeld hb
    go_wp2_with fail
    refine hK.out _ _ T_v5.out (fun hHeld => ?_)
    clear hK K
    try simp only [Act.put, List.setIfInBounds_toArray, List.set_cons_zero, List.set_cons_succ]
    refine wpAnyH_take (i := 17) (v := .bool true) (get_ops _ _ _ rfl) (by kernel_rfl) (by kernel_rfl) (by kernel_rfl) (fun _ _ _ h => h) (Or.inl ⟨by rfl, fun wS hSw => by (try dsimp only at hSw); go_simp⟩) hHeld ?_
    try simp only [Act.put, List.setIfInBounds_toArray, List.set_cons_zero, List.set_cons_succ]
    refine wpAnyH_take (i := 18) (v := .bool true) (get_ops _ _ _ rfl) (by kernel_rfl) (by kernel_rfl) (by kernel_rfl) (fun _ _ _ h => h) (Or.inl ⟨by rfl, fun wS hSw => by (try dsimp only at hSw); go_simp⟩) hHeld ?_
    try simp only [Act.put, List.setIfInBounds_toArray, List.set_cons_zero, List.set_cons_succ]
    refine wpAnyH_take (i := 19) (v := .bool true) (get_ops _ _ _ rfl) (by kernel_rfl) (by kernel_rfl) (by kernel_rfl) (fun _ _ _ h => h) (Or.inl ⟨by rfl, fun wS hSw => by (try dsimp only at hSw); go_simp⟩) hHeld ?_
    try simp only [Act.put, List.setIfInBounds_toArray, List.set_cons_zero, List.set_cons_succ]
    refine wpAnyH_take (i := 20) (v := .bool true) (get_ops _ _ _ rfl) (by kernel_rfl) (by kernel_rfl) (by kernel_rfl) (fun _ _ _ h => h) (Or.inl ⟨by rfl, fun wS hSw => by (try dsimp only at hSw); go_simp⟩) hHeld ?_
    try simp only [Act.put, List.setIfInBounds_toArray, List.set_cons_zero, List.set_cons_succ]
    refine wpAnyH_done (by kernel_rfl) ?_ _
    go_wp2_with fail
    go_ret
    exact ⟨rfl, B_v5.out⟩
  · have q1 : (z != 0) = true := by simp [hz]
    clear HH HS hz
    obtain ⟨v1, hv1⟩ : ∃ v1, v1 = World.drew y1 := ⟨_, rfl⟩
    have hbD : Below y1.heap.size y1 v1 := by rw [hv1]; exact (Below.refl _ _).drew
    have T_v1 : Hid (BK 53 v1 w.heap.size [.slice A X.length c]) := Lib.hid (T_y1.out.step hbD)
    have B_v1 : Hid (Below w.heap.size w v1) := Lib.hid (stepB B_y1.out hbD)
    have L_v1 : Hid (S2.IL v1 v1.heap.size A X) := Lib.hid (CL.step L_y1.out hbD)
    clear T_y1 B_y1 L_y1
    have hbd : (fun w' => BK 53 w' w.heap.size [.slice A X.length c]) (World.drew y1) := by rw [← hv1]; exact T_v1.out
    have hSD : (fun w' => BK 53 w' w.heap.size [.slice A X.length c]) v1 := T_v1.out
    have HWD := Lib.hid hv1
    clear hv1 hbD
    refine wp_region_held_drew (S := fun w' => BK 53 w' w.heap.size [.slice A X.length c]) (by kernel_rfl) hbd (fun hHeld => ?_)
    rw [← HWD.out]
    clear hHeld
    have hHeld := hSD
    clear hSD hbd HWD
    refine wpAnyH_ready (rs := [0]) (by kernel_rfl) (by simp) ?_
    refine (AllReadyH.cons (get_ops _ _ _ rfl) (fun K hK => ?_) AllReadyH.nil)
    go_simp
    refine (HA.out v1 (HOK.out.step B_v1.out)).mono ?_
    rintro e v2 ⟨rfl, hb⟩
    have T_v2 : Hid (BK 53 v2 w.heap.size [.slice A X.length c]) := Lib.hid (T_v1.out.step hb)
    have B_v2 : Hid (Below w.heap.size w v2) := Lib.hid (stepB B_v1.out hb)
    have L_v2 : Hid (S2.IL v2 v2.heap.size A X) := Lib.hid (CL.step L_v1.out hb)
    clear T_v1 B_v1 L_v1
    clear hHeld hb
    go_wp2_with fail
    refine hK.out _ _ T_v2.out (fun hHeld => ?_)
    clear hK K
    try simp only [Act.put, List.setIfInBounds_toArray, List.set_cons_zero, List.set_cons_succ]
    refine wpAnyH_take (i := 1) (v := .bool true) (get_ops _ _ _ rfl) (by kernel_rfl) (by kernel_rfl) (by kernel_rfl) (fun _ _ _ h => h) (Or.inl ⟨by rfl, fun wS hSw => by (try dsimp only at hSw); go_simp⟩) hHeld ?_
    try simp only [Act.put, List.setIfInBounds_toArray, List.set_cons_zero, List.set_cons_succ]
    refine wpAnyH_take (i := 2) (v := .int .i64 z) (get_ops _ _ _ rfl) (by kernel_rfl) (by kernel_rfl) (by kernel_rfl) (fun _ _ _ h => h) (Or.inl ⟨by rfl, fun wS hSw => by (try dsimp only at hSw); go_simp⟩) hHeld ?_
    try simp only [Act.put, List.setIfInBounds_toArray, List.set_cons_zero, List.set_cons_succ]
    refine wpAnyH_take (i := 3) (v := (S2.xv A c X)) (get_ops _ _ _ rfl) (by kernel_rfl) (by kernel_rfl) (by kernel_rfl) (fun _ _ _ h => h) (Or.inl ⟨by rfl, fun wS hSw => by (try dsimp only at hSw); exact exec_load 53 _ rfl ⟨w.heap.size, 0, none⟩ (by go_simp) _ (S2.run_load_all hSw Tryd.underlying53 rfl S2.boxSize)⟩) hHeld ?_
    try simp only [Act.put, List.setIfInBounds_toArray, List.set_cons_zero, List.set_cons_succ]
    refine wpAnyH_ready (rs := [4]) (by kernel_rfl) (by simp) ?_
    refine (AllReadyH.cons (get_ops _ _ _ rfl) (fun K hK => ?_) AllReadyH.nil)
    go_simp
    refine (HR.out v2 L_v2.out).mono ?_
    rintro e v3 ⟨rfl, hb⟩
    have T_v3 : Hid (BK 53 v3 w.heap.size [.slice A X.length c]) := Lib.hid (T_v2.out.step hb)
    have B_v3 : Hid (Below w.heap.size w v3) := Lib.hid (stepB B_v2.out hb)
    have L_v3 : Hid (S2.IL v3 v3.heap.size A X) := Lib.hid (CL.step L_v2.out hb)
    clear T_v2 B_v2 L_v2
    clear hHeld hb
    go_wp2_with fail
    refine hK.out _ _ T_v3.out (fun hHeld => ?_)
    clear hK K
    try simp only [Act.put, List.setIfInBounds_toArray, List.set_cons_zero, List.set_cons_succ]
    refine wpAnyH_take (i := 5) (v := .bool true) (get_ops _ _ _ rfl) (by kernel_rfl) (by kernel_rfl) (by kernel_rfl) (fun _ _ _ h => h) (Or.inl ⟨by rfl, fun wS hSw => by (try dsimp only at hSw); go_simp⟩) hHeld ?_
    try simp only [Act.put, List.setIfInBounds_toArray, List.set_cons_zero, List.set_cons_succ]
    refine wpAnyH_take (i := 6) (v := .bool true) (get_ops _ _ _ rfl) (by kernel_rfl) (by kernel_rfl) (by kernel_rfl) (fun _ _ _ h => h) (Or.inl ⟨by rfl, fun wS hSw => by (try dsimp only at hSw); go_simp⟩) hHeld ?_
    try simp only [Act.put, List.setIfInBounds_toArray, List.set_cons_zero, List.set_cons_succ]
    refine wpAnyH_take (i := 7) (v := .bool true) (get_ops _ _ _ rfl) (by kernel_rfl) (by kernel_rfl) (by kernel_rfl) (fun _ _ _ h => h) (Or.inl ⟨by rfl, fun wS hSw => by (try dsimp only at hSw); go_simp⟩) hHeld ?_
    try simp only [Act.put, List.setIfInBounds_toArray, List.set_cons_zero, List.set_cons_succ]
    refine wpAnyH_take (i := 8) (v := .int .i64 z) (get_ops _ _ _ rfl) (by kernel_rfl) (by kernel_rfl) (by kernel_rfl) (fun _ _ _ h => h) (Or.inl ⟨by rfl, fun wS hSw => by (try dsimp only at hSw); go_simp⟩) hHeld ?_
    try simp only [Act.put, List.setIfInBounds_toArray, List.set_cons_zero, List.set_cons_succ]
    refine wpAnyH_take (i := 9) (v := .bool true) (get_ops _ _ _ rfl) (by kernel_rfl) (by kernel_rfl) (by kernel_rfl) (fun _ _ _ h => h) (Or.inl ⟨by rfl, fun wS hSw => by (try dsimp only at hSw); go_simp⟩) hHeld ?_
    try simp only [Act.put, List.setIfInBounds_toArray, List.set_cons_zero, List.set_cons_succ]
    refine wpAnyH_take (i := 10) (v := .bool true) (get_ops _ _ _ rfl) (by kernel_rfl) (by kernel_rfl) (by kernel_rfl) (fun _ _ _ h => h) (Or.inl ⟨by rfl, fun wS hSw => by (try dsimp only at hSw); go_simp⟩) hHeld ?_
    try simp only [Act.put, List.setIfInBounds_toArray, List.set_cons_zero, List.set_cons_succ]
    refine wpAnyH_take (i := 11) (v := undef) (get_ops _ _ _ rfl) (by kernel_rfl) (by kernel_rfl) (by kernel_rfl) (fun _ _ _ h => h) (Or.inr ⟨by rfl, rfl⟩) hHeld ?_
    try simp only [Act.put, List.setIfInBounds_toArray, List.set_cons_zero, List.set_cons_succ]
    refine wpAnyH_take (i := 12) (v := undef) (get_ops _ _ _ rfl) (by kernel_rfl) (by kernel_rfl) (by kernel_rfl) (fun _ _ _ h => h) (Or.inr ⟨by rfl, rfl⟩) hHeld ?_
    try simp only [Act.put, List.setIfInBounds_toArray, List.set_cons_zero, List.set_cons_succ]
    refine wpAnyH_take (i := 13) (v := undef) (get_ops _ _ _ rfl) (by kernel_rfl) (by kernel_rfl) (by kernel_rfl) (fun _ _ _ h => h) (Or.inr ⟨by rfl, rfl⟩) hHeld ?_
    try simp only [Act.put, List.setIfInBounds_toArray, List.set_cons_zero, List.set_cons_succ]
    refine wpAnyH_take (i := 14) (v := undef) (get_ops _ _ _ rfl) (by kernel_rfl) (by kernel_rfl) (by kernel_rfl) (fun _ _ _ h => h) (Or.inr ⟨by rfl, rfl⟩) hHeld ?_
    try simp only [Act.put, List.setIfInBounds_toArray, List.set_cons_zero, List.set_cons_succ]
    refine wpAnyH_take (i := 15) (v := undef) (get_ops _ _ _ rfl) (by kernel_rfl) (by kernel_rfl) (by kernel_rfl) (fun _ _ _ h => h) (Or.inr ⟨by rfl, rfl⟩) hHeld ?_
    try simp only [Act.put, List.setIfInBounds_toArray, List.set_cons_zero, List.set_cons_succ]
    refine wpAnyH_take (i := 16) (v := undef) (get_ops _ _ _ rfl) (by kernel_rfl) (by kernel_rfl) (by kernel_rfl) (fun _ _ _ h => h) (Or.inr ⟨by rfl, rfl⟩) hHeld ?_
    try simp only [Act.put, List.setIfInBounds_toArray, List.set_cons_zero, List.set_cons_succ]
    refine wpAnyH_take (i := 17) (v := undef) (get_ops _ _ _ rfl) (by kernel_rfl) (by kernel_rfl) (by kernel_rfl) (fun _ _ _ h => h) (Or.inr ⟨by rfl, rfl⟩) hHeld ?_
    try simp only [Act.put, List.setIfInBounds_toArray, List.set_cons_zero, List.set_cons_succ]
    refine wpAnyH_take (i := 18) (v := .bool true) (get_ops _ _ _ rfl) (by kernel_rfl) (by kernel_rfl) (by kernel_rfl) (fun _ _ _ h => h) (Or.inl ⟨by rfl, fun wS hSw => by (try dsimp only at hSw); go_simp⟩) hHeld ?_
    try simp only [Act.put, List.setIfInBounds_toArray, List.set_cons_zero, List.set_cons_succ]
    refine wpAnyH_take (i := 19) (v := .bool true) (get_ops _ _ _ rfl) (by kernel_rfl) (by kernel_rfl) (by kernel_rfl) (fun _ _ _ h => h) (Or.inl ⟨by rfl, fun wS hSw => by (try dsimp only at hSw); go_simp⟩) hHeld ?_
    try simp only [Act.put, List.setIfInBounds_toArray, List.set_cons_zero, List.set_cons_succ]
    refine wpAnyH_take (i := 20) (v := .bool true) (get_ops _ _ _ rfl) (by kernel_rfl) (by kernel_rfl) (by kernel_rfl) (fun _ _ _ h => h) (Or.inl ⟨by rfl, fun wS hSw => by (try dsimp only at hSw); go_simp⟩) hHeld ?_
    try simp only [Act.put, List.setIfInBounds_toArray, List.set_cons_zero, List.set_cons_succ]
    refine wpAnyH_done (by kernel_rfl) ?_ _
    go_wp2_with fail
    go_ret
    exact ⟨rfl, B_v3.out⟩
end Go.Proofs.YtomlideijhejfaaDoor
namespace Go.Proofs.YtomlideijhejfaaDoor.inboundChecks
open Go.ChangeShapes Go.WideShapes Go.ChangeAt Go.WideMaps Go.WideElems Go.RowKit
open Go.ChangeMaps (open_string shut_string)

theorem own : ownKnob Tryd.prog.godebug = none := by kernel_rfl
theorem okw {W : World} (h : W.ShapedOpen Tryd.prog) : S1.Okw W := Tryd.laysM220.s1_3 W h

set_option maxRecDepth 100000 in
theorem contract (H : Type) (enc : TypeId × Value → H) (W : World) (base : Nat) (args : Array Value) (ds gs : List (DataW H)) (before : List MemPlace)
    (hval : ∀ (j : Nat) t v, Tryd.f4.params[j]? = some t → args[j]? = some v → Value.okWide Tryd.prog W .any base t v)
    (hW : DataW.Whole enc Tryd.prog Tryd.f4.params.toList Rows.inboundChecksSpec.vars false W args.toList ds gs before)
    (hsz : (DataW.weightsEach Tryd.prog (Tryd.f4.params.toList ++ (OpenSpec.ofChange Rows.inboundChecksSpec).bare.plain.varTypes Tryd.prog) (ds ++ gs)).all (· ≤ reachBytes) = true)
    (hsh : W.ShapedOpen Tryd.prog) :
    Calls Tryd.prog 4 args W fun e W' => ∃ v, e = .returned v ∧ Rows.inboundChecksSpec.post enc Tryd.prog Tryd.f4 false true false false W args v W' := by
  have hW' := hW
  obtain ⟨p, q, hA0, hV, rfl, hfz, hnd⟩ := hW
  have hA : DataW.TrodAll enc Tryd.prog W 0 (fun _ => true) true Tryd.f4.params.toList args.toList ds p := hA0
  rw [Tryd.params4] at hA hval
  obtain ⟨v0, vs0, d0, ds0, p0, q0, hargs, rfl, rfl, h0, r0⟩ := trodAll_cons hA
  obtain ⟨v1, vs1, d1, ds1, p1, q1, rfl, rfl, rfl, h1, r1⟩ := trodAll_cons r0
  obtain ⟨rfl, rfl, rfl⟩ := trodAll_nil r1
  obtain rfl : args = #[v0, v1] := by cases args; simp_all
  obtain ⟨rfl, rfl⟩ := trodVars_none hV
  have h0k := h0
  obtain ⟨A0, c0, X0, rfl, sl0, hc0, hX0⟩ := open_inb (hval 0 53 v0 rfl rfl) h0
  obtain ⟨n1, rfl, rfl, rfl, wn1⟩ := open_int Tryd.underlying3 (hval 1 3 v1 rfl rfl) h1
  clear hA0
  simp only [List.append_nil] at hW'
  have hrb := reachBytes_lt
  have hlt : ∀ x ∈ p0, x.block < W.heap.size := fun x hx => by simpa using hW'.lt x (by simpa using hx)
  refine (inboundChecks_walk A0 c0 X0 n1 W (okw hsh) sl0 hX0).mono fun e W' ⟨he, hb⟩ => ?_
  subst he
  have e1 : Rows.inboundChecksSpec.fn H ([d0, .lit (.int .i64 n1)] ++ []) = { results := [.lit (.bool true)], args := [d0, .lit (.int .i64 n1)] } := rfl
  refine ⟨_, rfl, _, _, _, [], p0, [], by simpa using hW', ?_, ?_, ?_, hb.frame _, fun h => by cases h⟩
  · exact trodAll_cons_mk (shut_bool Tryd.underlying4 _) trodAll_mk0
  · rw [e1]
    simpa using trodAll_cons_mk (Below.trod laidOutAll (by kernel_rfl) (of_decide_eq_true (by kernel_rfl)) h0k hb (fun x hx => hlt x (by simp [hx]))) (trodAll_cons_mk (shut_int Tryd.underlying3 wn1) (trodAll_mk0))
  · rfl

theorem laid_met (os : Os) : laidMet Tryd.prog Rows.inboundChecksRow.laid ((World.laidAll Tryd.prog os Rows.inboundChecksRow.laid).forCall (fun _ _ => 0) ⟨#[], #[.agg #[.slice none 0 0], .int .i64 0], []⟩).memory :=
  laidMet_laidAll _ (by kernel_rfl) (by kernel_rfl)
theorem reads (os : Os) {H : Type} (enc : TypeId × Value → H) : ∃ places, DataW.whole enc Tryd.prog ((World.laidAll Tryd.prog os Rows.inboundChecksRow.laid).forCall (fun _ _ => 0) ⟨#[], #[.agg #[.slice none 0 0], .int .i64 0], []⟩).memory Tryd.f4.params.toList Rows.inboundChecksSpec.vars false #[Value.agg #[.slice none 0 0], Value.int .i64 0].toList 8 = some ([.agg [.nil], .lit (.int .i64 0)], [], places) :=
  ⟨[], by kernel_rfl⟩

set_option maxRecDepth 100000 in
theorem lifted (os : Os) (started : os.Started) (H : Type) (enc : TypeId × Value → H) (F : Stop.Interp) :
    ReturnsInHanded {} Tryd.checked os 4 .any ((OpenSpec.ofChange Rows.inboundChecksSpec).preRow enc Tryd.prog Tryd.f4 Rows.inboundChecksRow.domain false Rows.inboundChecksRow.laid) (((OpenSpec.ofChange Rows.inboundChecksSpec).at F).post enc Tryd.prog Tryd.f4 false true false false) := by
  obtain ⟨places, hx⟩ := reads os enc
  refine returnsInHanded_of_row (C := Tryd.checked) (s := (OpenSpec.ofChange Rows.inboundChecksSpec)) own started (by kernel_rfl) Tryd.func4
    (witness_row_at (enc := enc) (C := Tryd.checked) false (World.laidAll Tryd.prog os Rows.inboundChecksRow.laid) #[.agg #[.slice none 0 0], .int .i64 0] (World.laidAll_os _ _ _) (by kernel_rfl) (by kernel_rfl) (by kernel_rfl)
      (OpenSpec.preRow_of_cond 8 hx (by kernel_rfl) (fun k hk => by cases hk) (by kernel_rfl) (laid_met os))) ?_
  intro W base args ds gs before hval hW _ _ hsz _ hsh _
  exact contract H enc W base args ds gs before hval hW hsz hsh

theorem said : Rows.InboundChecksSaid :=
  OpenClaim.holds_of_cond 4 Tryd.f4 rfl rfl rfl rfl rfl rfl rfl ⟨rfl, rfl, rfl, rfl, rfl⟩ rfl rfl rfl rfl rfl (by kernel_rfl) Tryd.func4 (by kernel_rfl)
    (of_decide_eq_true (by kernel_rfl)) (by unfold Func.isWrapper; first | (rw [if_pos (by decide +kernel)]; kernel_rfl) | (rw [if_neg (by decide +kernel)]; exact ⟨rfl, rfl⟩))
    (fun os started H enc _ F => by rw [OpenClaim.pre_eq_preRow]; exact lifted os started H enc F)

theorem plain (f : FuncId) (fn : Func) (hf : Tryd.pinned.checked.prog.funcNamed "broker/brokerlaw15.InboundChecks" = some f) (hfn : Tryd.pinned.checked.prog.funcs[f]? = some fn) :
    false = Tryd.pinned.checked.prog.looks [] ∧ ∀ (j : Nat) t, fn.params[j]? = some t → Tryd.pinned.checked.prog.wantsStandIn t = false := by
  obtain rfl : f = 4 := Option.some.inj ((show Tryd.prog.funcNamed "broker/brokerlaw15.InboundChecks" = some 4 by kernel_rfl).symm.trans hf) |>.symm
  obtain rfl : fn = Tryd.f4 := (Option.some.inj (Tryd.func4.symm.trans hfn)).symm
  refine ⟨by kernel_rfl, fun j t ht => ?_⟩
  rw [Tryd.params4] at ht
  have hm : t ∈ [53, 3] := by simpa using Array.mem_of_getElem? ht
  simp only [List.mem_cons, List.not_mem_nil, or_false] at hm
  rcases hm with rfl | rfl
  · exact (show Tryd.prog.wantsStandIn 53 = false by kernel_rfl)
  · exact (show Tryd.prog.wantsStandIn 3 = false by kernel_rfl)

theorem card : Rows.InboundChecksCardSaid :=
  Claim7.holds_tied_plain_at .later [] _ _ _ _ said (fun _ h => by cases h) (by kernel_rfl) (fun _ h => by cases h) inboundChecks_row_tie rfl ⟨rfl, rfl⟩ (by kernel_rfl) rfl plain (by kernel_rfl)
end Go.Proofs.YtomlideijhejfaaDoor.inboundChecks
