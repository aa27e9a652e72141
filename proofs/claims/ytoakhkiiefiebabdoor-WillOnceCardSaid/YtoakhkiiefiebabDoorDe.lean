/-
  What compare of will, and BinarySearchFunc of slices with it, answer. Conditions: the list reads as data, and is in order; lengths fit an int.
-/
import Derived.Test.YtoakhkiiefiebabDoorDd
import Derived.Test.YtoakhkiiefiebabDoorSearch
import Derived.Test.YtoakhkiiefiebabDoorShelf
namespace Go.Proofs.YtoakhkiiefiebabDoor
open Go.RowKit
open S2 (BK Put)

/-- does a will stand before another one -/
def befR (x y : Du) : Bool := decide (x.tm < y.tm) || (decide (x.tm = y.tm) && ltS x.cl y.cl)
def cmpD (x y : Du) : Int := if Lib.compareInt x.tm y.tm ≠ 0 then Lib.compareInt x.tm y.tm else cmpS x.cl y.cl
theorem cmpS_neg (a b : ByteArray) : cmpS a b < 0 ↔ ltS a b = true := by
  unfold cmpS
  by_cases h : ltS a b = true
  · rw [if_pos h]; exact ⟨fun _ => h, fun _ => by decide⟩
  · rw [if_neg h]
    refine ⟨fun h2 => ?_, fun h2 => absurd h2 h⟩
    split at h2 <;> omega
theorem cmpD_neg (x y : Du) : decide (cmpD x y < 0) = befR x y := by
  unfold cmpD befR Lib.compareInt
  by_cases h1 : x.tm < y.tm
  · rw [if_pos h1, if_pos (by decide), decide_eq_true h1]; rfl
  · rw [if_neg h1, decide_eq_false h1, Bool.false_or]
    by_cases h2 : x.tm > y.tm
    · rw [if_pos h2, if_pos (by decide), decide_eq_false (by omega : ¬ x.tm = y.tm)]; rfl
    · rw [if_neg h2, if_neg (by simp), decide_eq_true (by omega : x.tm = y.tm), Bool.true_and]
      rw [Bool.eq_iff_iff, decide_eq_true_eq]
      exact cmpS_neg _ _
theorem bef_trans {x y z : Du} (h1 : befR x y = true) (h2 : befR y z = true) : befR x z = true := by
  unfold befR at *
  simp only [Bool.or_eq_true, Bool.and_eq_true, decide_eq_true_eq] at *
  rcases h1 with h1 | ⟨h1, h1'⟩ <;> rcases h2 with h2 | ⟨h2, h2'⟩
  · exact Or.inl (by omega)
  · exact Or.inl (by omega)
  · exact Or.inl (by omega)
  · exact Or.inr ⟨by omega, ltS_trans h1' h2'⟩

set_option maxRecDepth 20000 in
set_option maxHeartbeats 2000000 in
theorem orI_any (x y : Int) (g : Nat) (w : World) (hg : BK 3 w g [.int .i64 x, .int .i64 y]) : Calls Tryd.prog 31 #[.slice (some ⟨g, 0, none⟩) 2 2] w fun e w' => e = .returned (.int .i64 (if x ≠ 0 then x else y)) ∧ Below w.heap.size w w' := by
  have d0 := hg.cell 0 rfl
  have d1 := hg.cell 1 rfl
  clear hg
  obtain ⟨R, hR⟩ : ∃ R, (if x ≠ 0 then x else y) = R := ⟨_, rfl⟩
  have HR := Lib.hid hR
  rw [hR]
  clear hR
  go_enter Tryd.func31, Tryd.ntmps31
  go_wp2_with fail
  go_loopg [8] 2 (fun n v wr => wr = w ∧ ((n = 2 ∧ v = .int .i64 0) ∨ (n = 1 ∧ v = .int .i64 1 ∧ x = 0) ∨ (n = 0 ∧ v = .int .i64 2 ∧ x = 0 ∧ y = 0)))
  case atStart => exact ⟨rfl, Or.inl ⟨rfl, rfl⟩⟩
  case round =>
    obtain ⟨rfl, h | h | h⟩ := hrel
    · obtain ⟨rfl, rfl⟩ := h
      by_cases hx : x = 0
      · have q1 : (x != 0) = false := by simp [hx]
        have HX := Lib.hid hx
        clear hx
        go_wp2_with fail
        go_roundg 1
        case measure => omega
        case rel => exact ⟨rfl, Or.inr (Or.inl ⟨rfl, rfl, HX.out⟩)⟩
      · have q1 : (x != 0) = true := by simp [hx]
        obtain rfl : R = x := by rw [← HR.out, if_pos hx]
        clear hx
        go_wp2
        go_ret
        exact ⟨rfl, Below.refl _ _⟩
    · obtain ⟨rfl, rfl, rfl⟩ := h
      have hRy : R = y := by rw [← HR.out, if_neg (by simp)]
      by_cases hy : y = 0
      · have q1 : (y != 0) = false := by simp [hy]
        have HY := Lib.hid hy
        clear hy hRy
        go_wp2_with fail
        go_roundg 0
        case measure => omega
        case rel => exact ⟨rfl, Or.inr (Or.inr (by simp [HY.out]))⟩
      · have q1 : (y != 0) = true := by simp [hy]
        clear hy
        subst hRy
        clear HR
        go_wp2
        go_ret
        exact ⟨rfl, Below.refl _ _⟩
    · obtain ⟨rfl, rfl, hx0, hy0⟩ := h
      obtain rfl : R = 0 := by rw [← HR.out]; simp [hx0, hy0]
      clear hx0 hy0
      go_wp2
      go_ret
      exact ⟨rfl, Below.refl _ _⟩

set_option maxRecDepth 20000 in
set_option maxHeartbeats 4000000 in
theorem compare_any (x y : DE) (w : World) : Calls Tryd.prog 21 #[dV x, dV y] w fun e w' => e = .returned (.int .i64 (cmpD x.d y.d)) ∧ Below w.heap.size w w' := by
  have HCI := Lib.hid (fun w1 => Tryd.cmp_Compare_int x.d.tm y.d.tm w1)
  have HCS : Hid (∀ w1, Calls Tryd.prog 33 #[.string x.d.cl, .string y.d.cl] w1 fun e w' => e = .returned (.int .i64 (cmpS x.d.cl y.d.cl)) ∧ w' = w1) := Lib.hid (fun w1 => by
    have := Tryd.strings_Compare x.d.cl y.d.cl w1
    rwa [cmpS_eq] at this)
  have HOR := Lib.hid (fun g w1 h => orI_any (Lib.compareInt x.d.tm y.d.tm) (cmpS x.d.cl y.d.cl) g w1 h)
  obtain ⟨R, hR⟩ : ∃ R, cmpD x.d y.d = R := ⟨_, rfl⟩
  have HR : Hid ((if Lib.compareInt x.d.tm y.d.tm ≠ 0 then Lib.compareInt x.d.tm y.d.tm else cmpS x.d.cl y.d.cl) = R) := Lib.hid hR
  rw [hR]
  rw [HR.out] at HOR
  generalize Lib.compareInt x.d.tm y.d.tm = ci at HCI HOR HR
  generalize cmpS x.d.cl y.d.cl = cs at HCS HOR HR
  clear hR HR
  unfold dV
  go_enter Tryd.func21, Tryd.ntmps21
  go_upto_region 1 with fail
  refine name_world (C := fun w1 => Code.wp _ _ _ _ w1) ((w.alloc (.cells (gD x).toArray 45)).alloc (.cells (gD y).toArray 45)) ?_
  intro w1 hw1
  obtain ⟨t1, t2, hs0, hB0⟩ := S2.two_laid (v1 := gD x) (v2 := gD y) hw1
  have X_w1 := Lib.hid t1
  have Y_w1 := Lib.hid t2
  have B_w1 := Lib.hid hB0
  clear hw1 t1 t2 hs0 hB0
  obtain ⟨z1, hz1⟩ : ∃ z1, z1 = World.drew w1 := ⟨_, rfl⟩
  have hbD : Below w1.heap.size w1 z1 := by rw [hz1]; exact (Below.refl _ _).drew
  have X_z1 : Hid (BK 45 z1 w.heap.size (gD x)) := Lib.hid (X_w1.out.step hbD)
  have Y_z1 : Hid (BK 45 z1 (w.heap.size + 1) (gD y)) := Lib.hid (Y_w1.out.step hbD)
  have B_z1 : Hid (Below w.heap.size w z1) := Lib.hid (stepB B_w1.out hbD)
  clear X_w1 Y_w1 B_w1
  have hbd : (fun w' => BK 45 w' w.heap.size (gD x) ∧ BK 45 w' (w.heap.size + 1) (gD y)) (World.drew w1) := by rw [← hz1]; exact ⟨X_z1.out, Y_z1.out⟩
  have hSD : (fun w' => BK 45 w' w.heap.size (gD x) ∧ BK 45 w' (w.heap.size + 1) (gD y)) z1 := ⟨X_z1.out, Y_z1.out⟩
  have HWD := Lib.hid hz1
  clear hz1 hbD
  refine wp_region_held_drew (S := fun w' => BK 45 w' w.heap.size (gD x) ∧ BK 45 w' (w.heap.size + 1) (gD y)) (by kernel_rfl) hbd (fun hHeld => ?_)
  rw [← HWD.out]
  clear hHeld
  have hHeld := hSD
  clear hSD hbd HWD
  refine wpAnyH_take (i := 0) (v := .pointer (some ⟨w.heap.size, 1, none⟩)) (get_ops _ _ _ rfl) (by kernel_rfl) (by kernel_rfl) (by kernel_rfl) (fun _ _ _ h => h) (Or.inl ⟨by rfl, fun wS hSw => by (try dsimp only at hSw); go_simp⟩) hHeld ?_
  try simp only [Act.put, List.setIfInBounds_toArray, List.set_cons_zero, List.set_cons_succ]
  refine wpAnyH_take (i := 1) (v := .int .i64 x.d.tm) (get_ops _ _ _ rfl) (by kernel_rfl) (by kernel_rfl) (by kernel_rfl) (fun _ _ _ h => h) (Or.inl ⟨by rfl, fun wS hSw => by (try dsimp only at hSw); have cS : wS.cell? ⟨w.heap.size, 1, none⟩ = some (.int .i64 x.d.tm) := hSw.1.cell 1 rfl; clear hSw; go_simp⟩) hHeld ?_
  try simp only [Act.put, List.setIfInBounds_toArray, List.set_cons_zero, List.set_cons_succ]
  refine wpAnyH_take (i := 2) (v := .pointer (some ⟨w.heap.size + 1, 1, none⟩)) (get_ops _ _ _ rfl) (by kernel_rfl) (by kernel_rfl) (by kernel_rfl) (fun _ _ _ h => h) (Or.inl ⟨by rfl, fun wS hSw => by (try dsimp only at hSw); go_simp⟩) hHeld ?_
  try simp only [Act.put, List.setIfInBounds_toArray, List.set_cons_zero, List.set_cons_succ]
  refine wpAnyH_take (i := 3) (v := .int .i64 y.d.tm) (get_ops _ _ _ rfl) (by kernel_rfl) (by kernel_rfl) (by kernel_rfl) (fun _ _ _ h => h) (Or.inl ⟨by rfl, fun wS hSw => by (try dsimp only at hSw); have cS : wS.cell? ⟨w.heap.size + 1, 1, none⟩ = some (.int .i64 y.d.tm) := hSw.2.cell 1 rfl; clear hSw; go_simp⟩) hHeld ?_
  try simp only [Act.put, List.setIfInBounds_toArray, List.set_cons_zero, List.set_cons_succ]
  refine wpAnyH_take (i := 5) (v := .pointer (some ⟨w.heap.size, 0, none⟩)) (get_ops _ _ _ rfl) (by kernel_rfl) (by kernel_rfl) (by kernel_rfl) (fun _ _ _ h => h) (Or.inl ⟨by rfl, fun wS hSw => by (try dsimp only at hSw); go_simp⟩) hHeld ?_
  try simp only [Act.put, List.setIfInBounds_toArray, List.set_cons_zero, List.set_cons_succ]
  refine wpAnyH_take (i := 6) (v := .string x.d.cl) (get_ops _ _ _ rfl) (by kernel_rfl) (by kernel_rfl) (by kernel_rfl) (fun _ _ _ h => h) (Or.inl ⟨by rfl, fun wS hSw => by (try dsimp only at hSw); have cS : wS.cell? ⟨w.heap.size, 0, none⟩ = some (.string x.d.cl) := hSw.1.cell 0 rfl; clear hSw; go_simp⟩) hHeld ?_
  try simp only [Act.put, List.setIfInBounds_toArray, List.set_cons_zero, List.set_cons_succ]
  refine wpAnyH_take (i := 7) (v := .pointer (some ⟨w.heap.size + 1, 0, none⟩)) (get_ops _ _ _ rfl) (by kernel_rfl) (by kernel_rfl) (by kernel_rfl) (fun _ _ _ h => h) (Or.inl ⟨by rfl, fun wS hSw => by (try dsimp only at hSw); go_simp⟩) hHeld ?_
  try simp only [Act.put, List.setIfInBounds_toArray, List.set_cons_zero, List.set_cons_succ]
  refine wpAnyH_take (i := 8) (v := .string y.d.cl) (get_ops _ _ _ rfl) (by kernel_rfl) (by kernel_rfl) (by kernel_rfl) (fun _ _ _ h => h) (Or.inl ⟨by rfl, fun wS hSw => by (try dsimp only at hSw); have cS : wS.cell? ⟨w.heap.size + 1, 0, none⟩ = some (.string y.d.cl) := hSw.2.cell 0 rfl; clear hSw; go_simp⟩) hHeld ?_
  try simp only [Act.put, List.setIfInBounds_toArray, List.set_cons_zero, List.set_cons_succ]
  refine wpAnyH_ready (rs := [4]) (by kernel_rfl) (by simp) ?_
  refine (AllReadyH.cons (get_ops _ _ _ rfl) (fun K hK => ?_) AllReadyH.nil)
  go_simp
  refine (HCI.out z1).mono ?_
  rintro e z2 ⟨rfl, hwe⟩
  have hb : Below z1.heap.size z1 z2 := by rw [hwe]; exact Below.refl _ _
  have X_z2 : Hid (BK 45 z2 w.heap.size (gD x)) := Lib.hid (X_z1.out.step hb)
  have Y_z2 : Hid (BK 45 z2 (w.heap.size + 1) (gD y)) := Lib.hid (Y_z1.out.step hb)
  have B_z2 : Hid (Below w.heap.size w z2) := Lib.hid (stepB B_z1.out hb)
  clear X_z1 Y_z1 B_z1
  clear hHeld hb hwe
  go_wp2_with fail
  refine hK.out _ _ ⟨X_z2.out, Y_z2.out⟩ (fun hHeld => ?_)
  clear hK K
  try simp only [Act.put, List.setIfInBounds_toArray, List.set_cons_zero, List.set_cons_succ]
  refine wpAnyH_ready (rs := [9]) (by kernel_rfl) (by simp) ?_
  refine (AllReadyH.cons (get_ops _ _ _ rfl) (fun K hK => ?_) AllReadyH.nil)
  go_simp
  refine (HCS.out z2).mono ?_
  rintro e z3 ⟨rfl, hwe⟩
  have hb : Below z2.heap.size z2 z3 := by rw [hwe]; exact Below.refl _ _
  have X_z3 : Hid (BK 45 z3 w.heap.size (gD x)) := Lib.hid (X_z2.out.step hb)
  have Y_z3 : Hid (BK 45 z3 (w.heap.size + 1) (gD y)) := Lib.hid (Y_z2.out.step hb)
  have B_z3 : Hid (Below w.heap.size w z3) := Lib.hid (stepB B_z2.out hb)
  clear X_z2 Y_z2 B_z2
  clear hHeld hb hwe
  go_wp2_with fail
  refine hK.out _ _ ⟨X_z3.out, Y_z3.out⟩ (fun hHeld => ?_)
  clear hK K
  try simp only [Act.put, List.setIfInBounds_toArray, List.set_cons_zero, List.set_cons_succ]
  refine wpAnyH_ready (rs := [10]) (by kernel_rfl) (by simp) ?_
  refine (AllReadyH.cons (get_ops _ _ _ rfl) (fun K hK => ?_) AllReadyH.nil)
  go_simp
  obtain ⟨vb, hvb⟩ : ∃ n, n = z3.heap.size := ⟨_, rfl⟩
  refine name_world (C := fun w9 => K _ w9) (z3.alloc (.cells ([.int .i64 ci, .int .i64 cs] : List Value).toArray 3)) ?_
  intro z4 hz4
  have hb : Below z3.heap.size z3 z4 := by rw [hz4]; exact S2.below_new _ _
  have hN : BK 3 z4 vb [.int .i64 ci, .int .i64 cs] := by rw [hz4, hvb]; exact BK.new _ _ _
  have X_z4 : Hid (BK 45 z4 w.heap.size (gD x)) := Lib.hid (X_z3.out.step hb)
  have Y_z4 : Hid (BK 45 z4 (w.heap.size + 1) (gD y)) := Lib.hid (Y_z3.out.step hb)
  have B_z4 : Hid (Below w.heap.size w z4) := Lib.hid (stepB B_z3.out hb)
  clear X_z3 Y_z3 B_z3
  have V_z4 := Lib.hid hN
  try rw [← hvb]
  clear hHeld hb hN hz4 hvb
  refine hK.out _ _ ⟨X_z4.out, Y_z4.out⟩ (fun hHeld => ?_)
  clear hK K
  try simp only [Act.put, List.setIfInBounds_toArray, List.set_cons_zero, List.set_cons_succ]
  refine wpAnyH_ready (rs := [11]) (by kernel_rfl) (by simp) ?_
  refine (AllReadyH.cons (get_ops _ _ _ rfl) (fun K hK => ?_) AllReadyH.nil)
  go_simp
  refine (HOR.out vb z4 V_z4.out).mono ?_
  rintro e z5 ⟨rfl, hb⟩
  have X_z5 : Hid (BK 45 z5 w.heap.size (gD x)) := Lib.hid (X_z4.out.step hb)
  have Y_z5 : Hid (BK 45 z5 (w.heap.size + 1) (gD y)) := Lib.hid (Y_z4.out.step hb)
  have B_z5 : Hid (Below w.heap.size w z5) := Lib.hid (stepB B_z4.out hb)
  have V_z5 : Hid (BK 3 z5 vb [.int .i64 ci, .int .i64 cs]) := Lib.hid (V_z4.out.step hb)
  clear X_z4 Y_z4 B_z4 V_z4
  clear hHeld hb
  go_wp2_with fail
  refine hK.out _ _ ⟨X_z5.out, Y_z5.out⟩ (fun hHeld => ?_)
  clear hK K
  try simp only [Act.put, List.setIfInBounds_toArray, List.set_cons_zero, List.set_cons_succ]
  refine wpAnyH_take (i := 12) (v := .int .i64 R) (get_ops _ _ _ rfl) (by kernel_rfl) (by kernel_rfl) (by kernel_rfl) (fun _ _ _ h => h) (Or.inl ⟨by rfl, fun wS hSw => by (try dsimp only at hSw); go_simp⟩) hHeld ?_
  try simp only [Act.put, List.setIfInBounds_toArray, List.set_cons_zero, List.set_cons_succ]
  refine wpAnyH_done (by kernel_rfl) ?_ _
  go_wp2_with fail
  go_ret
  exact ⟨rfl, B_z5.out⟩

/-- in order -/
def AscD (l : List Du) : Prop := ∀ (i j : Nat) (x y : Du), l[i]? = some x → l[j]? = some y → i < j → befR x y = true
/-- the place of a will -/
def posD (l : List Du) (t : Du) : Nat := (l.filter fun x => befR x t).length
def BsD (l : List Du) (t : Du) (i j : Nat) : Prop := i ≤ j ∧ j ≤ l.length ∧ (∀ k x, k < i → l[k]? = some x → befR x t = true) ∧ ∀ k x, j ≤ k → l[k]? = some x → befR x t = false
theorem BsD.start (l : List Du) (t : Du) : BsD l t 0 l.length := ⟨Nat.zero_le _, Nat.le_refl _, fun _ _ h => absurd h (Nat.not_lt_zero _), fun k x h hx => by
  have := (List.getElem?_eq_some_iff.1 hx).1; omega⟩
theorem BsD.less {l : List Du} {t : Du} {i j h : Nat} {x : Du} (hr : BsD l t i j) (ha : AscD l) (hhj : h < j) (hx : l[h]? = some x) (hl : befR x t = true) : BsD l t (h + 1) j :=
  ⟨by omega, hr.2.1, fun k y hk hy => by
    by_cases e : k = h
    · subst e
      rw [hx] at hy
      rw [← Option.some.inj hy]; exact hl
    · exact bef_trans (ha k h y x hy hx (by omega)) hl, hr.2.2.2⟩
theorem BsD.notless {l : List Du} {t : Du} {i j h : Nat} {x : Du} (hr : BsD l t i j) (ha : AscD l) (hih : i ≤ h) (hhj : h < j) (hx : l[h]? = some x) (hl : befR x t = false) : BsD l t i h :=
  ⟨hih, by have := hr.2.1; omega, hr.2.2.1, fun k y hk hy => by
    by_cases e : k = h
    · subst e
      rw [hx] at hy
      rw [← Option.some.inj hy]; exact hl
    · cases h' : befR y t
      · rfl
      · have := bef_trans (ha h k x y hx hy (by omega)) h'
        rw [hl] at this; exact this.symm⟩
theorem BsD.pos {l : List Du} {t : Du} {i : Nat} (hr : BsD l t i i) : posD l t = i := by
  unfold posD
  rw [filter_pre _ l i hr.2.1 hr.2.2.1 hr.2.2.2, List.length_take]
  have := hr.2.1
  omega

theorem posD_le (l : List Du) (t : Du) : posD l t ≤ l.length := List.length_filter_le _ _
/-- a place that a call answers, and whether something is there -/
def RetPos (p : Nat) (W : World) (e : Ending) (w' : World) : Prop := ∃ f, e = .returned (.tuple #[.int .i64 p, .bool f]) ∧ Below W.heap.size W w'

set_option maxRecDepth 20000 in
set_option maxHeartbeats 4000000 in
theorem searchD_any (A : Option Addr) (c : Nat) (l : List DE) (t : DE) (w : World) (hsl : DI w w.heap.size A l) (ha : AscD (l.map DE.d)) (hn : l.length ≤ 100000) :
    Calls Tryd.prog 20 #[.slice A l.length c, dV t, .func (.func 21) #[] #[]] w (RetPos (posD (l.map DE.d) t.d) w) := by
  have HS := Lib.hid hsl
  have HA := Lib.hid ha
  have HCK := Lib.hid (fun x w1 => compare_any x t w1)
  have HP := Lib.hid (fun i h => @BsD.pos (l.map DE.d) t.d i h)
  have H0 : Hid (BsD (l.map DE.d) t.d 0 l.length) := Lib.hid (by have := BsD.start (l.map DE.d) t.d; rwa [List.length_map] at this)
  generalize posD (l.map DE.d) t.d = pk at HP ⊢
  clear hsl ha
  unfold dV
  go_enter Tryd.func20, Tryd.ntmps20
  go_upto_region 1 with fail
  refine name_world (C := fun w1 => Code.wp _ _ _ _ w1) (w.alloc (.cells (gD t).toArray 45)) ?_
  intro w1 hw1
  have hb1 : Below w.heap.size w w1 := by rw [hw1]; exact S2.below_new w _
  have V_w1 : Hid (BK 45 w1 w.heap.size (gD t)) := Lib.hid (by rw [hw1]; exact BK.new w _ _)
  have B_w1 := Lib.hid hb1
  clear hw1 hb1
  go_wp2_with fail
  go_loopg [9, 10] l.length (fun g s9 s10 wr => ∃ lo hi : Nat, s9 = .int .i64 lo ∧ s10 = .int .i64 hi ∧ hi - lo ≤ g ∧ BsD (l.map DE.d) t.d lo hi ∧ BK 45 wr w.heap.size (gD t) ∧ Below w.heap.size w wr)
  case atStart => exact ⟨0, l.length, rfl, rfl, by omega, H0.out, V_w1.out, B_w1.out⟩
  case round =>
    obtain ⟨lo, hi, rfl, rfl, hg, hrel, hv0, hb0⟩ := hrel
    have HR := Lib.hid hrel
    have V_wr := Lib.hid hv0
    have B_wr := Lib.hid hb0
    have hlh := hrel.1
    have hhn : hi ≤ l.length := by have := hrel.2.1; rwa [List.length_map] at this
    clear hrel hv0 hb0
    by_cases hlt : lo < hi
    · obtain ⟨h, hh⟩ : ∃ h, h = (lo + hi) / 2 := ⟨_, rfl⟩
      obtain ⟨x, hx⟩ : ∃ x, l[h]? = some x := ⟨_, List.getElem?_eq_getElem (by omega)⟩
      have hxm : (l.map DE.d)[h]? = some x.d := by rw [List.getElem?_map, hx]; rfl
      obtain ⟨b, o, hA, hbB, hc, _⟩ := (HS.out.step B_wr.out).at_ hx
      have C_wr : Hid (b < wr.heap.size ∧ ∀ i v, (gD x)[i]? = some v → wr.cell? ⟨b, o + h * 11 + i, none⟩ = some v) := Lib.hid ⟨hbB, hc⟩
      have HX := Lib.hid hxm
      have HB3 := Lib.hid (And.intro hlt (And.intro hhn hh))
      subst hA
      have u1 : ((lo : Int) + (hi : Int)) / 2 = (h : Int) := by omega
      have j1 : (0 : Int) ≤ (h : Int) := by omega
      have j2 : (h : Int) < (l.length : Int) := by omega
      obtain ⟨bE, hbE⟩ : ∃ z, befR x.d t.d = z := ⟨_, rfl⟩
      have HBE := Lib.hid hbE
      have hcd := cmpD_neg x.d t.d
      rw [hbE] at hcd
      have HCC := Lib.hid (HCK.out x)
      generalize cmpD x.d t.d = cd at HCC hcd
      unfold dV at HCC
      have HH := Lib.hid hh
      clear hx hxm hc hbB hbE hh
      go_upto_region 5 with fail
      clear u1
      obtain ⟨x1, hx1⟩ : ∃ x1, x1 = World.drew wr := ⟨_, rfl⟩
      have hbD : Below wr.heap.size wr x1 := by rw [hx1]; exact (Below.refl _ _).drew
      have C_x1 : Hid ((b < x1.heap.size ∧ ∀ i v, (gD x)[i]? = some v → x1.cell? ⟨b, o + h * 11 + i, none⟩ = some v)) := Lib.hid (⟨Nat.lt_of_lt_of_le C_wr.out.1 hbD.size, fun i u hu => (hbD.cell (p := ⟨b, o + h * 11 + i, none⟩) C_wr.out.1).trans (C_wr.out.2 i u hu)⟩)
      have V_x1 : Hid (BK 45 x1 w.heap.size (gD t)) := Lib.hid (V_wr.out.step hbD)
      have B_x1 : Hid (Below w.heap.size w x1) := Lib.hid (stepB B_wr.out hbD)
      clear C_wr V_wr B_wr
      have hbd : (fun w' => (b < w'.heap.size ∧ ∀ i v, (gD x)[i]? = some v → w'.cell? ⟨b, o + h * 11 + i, none⟩ = some v) ∧ BK 45 w' w.heap.size (gD t)) (World.drew wr) := by rw [← hx1]; exact ⟨C_x1.out, V_x1.out⟩
      have hSD : (fun w' => (b < w'.heap.size ∧ ∀ i v, (gD x)[i]? = some v → w'.cell? ⟨b, o + h * 11 + i, none⟩ = some v) ∧ BK 45 w' w.heap.size (gD t)) x1 := ⟨C_x1.out, V_x1.out⟩
      have HWD := Lib.hid hx1
      clear hx1 hbD
      refine wp_region_held_drew (S := fun w' => (b < w'.heap.size ∧ ∀ i v, (gD x)[i]? = some v → w'.cell? ⟨b, o + h * 11 + i, none⟩ = some v) ∧ BK 45 w' w.heap.size (gD t)) (by kernel_rfl) hbd (fun hHeld => ?_)
      rw [← HWD.out]
      clear hHeld
      have hHeld := hSD
      clear hSD hbd HWD
      refine wpAnyH_take (i := 0) (v := .func (.func 21) #[] #[]) (get_ops _ _ _ rfl) (by kernel_rfl) (by kernel_rfl) (by kernel_rfl) (fun _ _ _ h => h) (Or.inl ⟨by rfl, fun wS hSw => by (try dsimp only at hSw); go_simp⟩) hHeld ?_
      try simp only [Act.put, List.setIfInBounds_toArray, List.set_cons_zero, List.set_cons_succ]
      refine wpAnyH_take (i := 1) (v := .slice (some ⟨b, o, none⟩) l.length c) (get_ops _ _ _ rfl) (by kernel_rfl) (by kernel_rfl) (by kernel_rfl) (fun _ _ _ h => h) (Or.inl ⟨by rfl, fun wS hSw => by (try dsimp only at hSw); go_simp⟩) hHeld ?_
      try simp only [Act.put, List.setIfInBounds_toArray, List.set_cons_zero, List.set_cons_succ]
      refine wpAnyH_take (i := 2) (v := .int .i64 h) (get_ops _ _ _ rfl) (by kernel_rfl) (by kernel_rfl) (by kernel_rfl) (fun _ _ _ h => h) (Or.inl ⟨by rfl, fun wS hSw => by (try dsimp only at hSw); go_simp⟩) hHeld ?_
      try simp only [Act.put, List.setIfInBounds_toArray, List.set_cons_zero, List.set_cons_succ]
      refine wpAnyH_take (i := 3) (v := .pointer (some ⟨b, o + h * 11, none⟩)) (get_ops _ _ _ rfl) (by kernel_rfl) (by kernel_rfl) (by kernel_rfl) (fun _ _ _ h => h) (Or.inl ⟨by rfl, fun wS hSw => by (try dsimp only at hSw); go_simp⟩) hHeld ?_
      try simp only [Act.put, List.setIfInBounds_toArray, List.set_cons_zero, List.set_cons_succ]
      refine wpAnyH_take (i := 4) (v := (.agg (gD x).toArray)) (get_ops _ _ _ rfl) (by kernel_rfl) (by kernel_rfl) (by kernel_rfl) (fun _ _ _ h => h) (Or.inl ⟨by rfl, fun wS hSw => by (try dsimp only at hSw); exact exec_load 45 _ rfl ⟨b, o + h * 11, none⟩ (by go_simp) _ (load_due hSw.1.2)⟩) hHeld ?_
      try simp only [Act.put, List.setIfInBounds_toArray, List.set_cons_zero, List.set_cons_succ]
      refine wpAnyH_take (i := 5) (v := (.agg (gD t).toArray)) (get_ops _ _ _ rfl) (by kernel_rfl) (by kernel_rfl) (by kernel_rfl) (fun _ _ _ h => h) (Or.inl ⟨by rfl, fun wS hSw => by (try dsimp only at hSw); exact exec_load 45 _ rfl ⟨w.heap.size, 0, none⟩ (by go_simp) _ (S2.run_load_all hSw.2 Tryd.underlying45 rfl dueSize)⟩) hHeld ?_
      try simp only [Act.put, List.setIfInBounds_toArray, List.set_cons_zero, List.set_cons_succ]
      refine wpAnyH_ready (rs := [6]) (by kernel_rfl) (by simp) ?_
      refine (AllReadyH.cons (get_ops _ _ _ rfl) (fun K hK => ?_) AllReadyH.nil)
      go_simp
      refine (HCC.out x1).mono ?_
      rintro e x2 ⟨rfl, hb⟩
      have C_x2 : Hid ((b < x2.heap.size ∧ ∀ i v, (gD x)[i]? = some v → x2.cell? ⟨b, o + h * 11 + i, none⟩ = some v)) := Lib.hid (⟨Nat.lt_of_lt_of_le C_x1.out.1 hb.size, fun i u hu => (hb.cell (p := ⟨b, o + h * 11 + i, none⟩) C_x1.out.1).trans (C_x1.out.2 i u hu)⟩)
      have V_x2 : Hid (BK 45 x2 w.heap.size (gD t)) := Lib.hid (V_x1.out.step hb)
      have B_x2 : Hid (Below w.heap.size w x2) := Lib.hid (stepB B_x1.out hb)
      clear C_x1 V_x1 B_x1
      clear hHeld hb
      go_wp2_with fail
      refine hK.out _ _ ⟨C_x2.out, V_x2.out⟩ (fun hHeld => ?_)
      clear hK K
      try simp only [Act.put, List.setIfInBounds_toArray, List.set_cons_zero, List.set_cons_succ]
      refine wpAnyH_take (i := 7) (v := .bool bE) (get_ops _ _ _ rfl) (by kernel_rfl) (by kernel_rfl) (by kernel_rfl) (fun _ _ _ h => h) (Or.inl ⟨by rfl, fun wS hSw => by (try dsimp only at hSw); go_simp⟩) hHeld ?_
      try simp only [Act.put, List.setIfInBounds_toArray, List.set_cons_zero, List.set_cons_succ]
      refine wpAnyH_done (by kernel_rfl) ?_ _
      cases bE with
      | true =>
        have HN := Lib.hid (HR.out.less HA.out (by have := HB3.out; omega) HX.out HBE.out)
        go_wp2_with fail
        go_roundg (hi - (h + 1))
        case measure => have := HH.out; omega
        case rel => exact ⟨h + 1, hi, by go_num, rfl, Nat.le_refl _, HN.out, V_x2.out, B_x2.out⟩
      | false =>
        have HN := Lib.hid (HR.out.notless HA.out (by have := HB3.out; omega) (by have := HB3.out; omega) HX.out HBE.out)
        go_wp2_with fail
        go_roundg (h - lo)
        case measure => have := HH.out; omega
        case rel => exact ⟨lo, h, rfl, rfl, Nat.le_refl _, HN.out, V_x2.out, B_x2.out⟩
    · obtain rfl : hi = lo := by omega
      have hpk := HP.out _ HR.out
      have HPK := Lib.hid hpk
      by_cases hin : hi < l.length
      · obtain ⟨x, hx⟩ : ∃ x, l[hi]? = some x := ⟨_, List.getElem?_eq_getElem hin⟩
        obtain ⟨b, o, hA, hbB, hc, _⟩ := (HS.out.step B_wr.out).at_ hx
        have C_wr : Hid (b < wr.heap.size ∧ ∀ i v, (gD x)[i]? = some v → wr.cell? ⟨b, o + hi * 11 + i, none⟩ = some v) := Lib.hid ⟨hbB, hc⟩
        subst hA
        have e4 : decide ((hi : Int) < (hi : Int)) = false := decide_eq_false (by omega)
        have e5 : decide ((hi : Int) < (l.length : Int)) = true := decide_eq_true (by omega)
        have j1 : (0 : Int) ≤ (hi : Int) := by omega
        have j2 : (hi : Int) < (l.length : Int) := by omega
        have HCC := Lib.hid (HCK.out x)
        generalize cmpD x.d t.d = cd at HCC
        unfold dV at HCC
        obtain ⟨bz, hbz⟩ : ∃ z, (cd == 0) = z := ⟨_, rfl⟩
        clear hx hc hbB hpk
        go_upto_region 8 with fail
        obtain ⟨y1, hy1⟩ : ∃ y1, y1 = World.drew wr := ⟨_, rfl⟩
        have hbD : Below wr.heap.size wr y1 := by rw [hy1]; exact (Below.refl _ _).drew
        have C_y1 : Hid ((b < y1.heap.size ∧ ∀ i v, (gD x)[i]? = some v → y1.cell? ⟨b, o + hi * 11 + i, none⟩ = some v)) := Lib.hid (⟨Nat.lt_of_lt_of_le C_wr.out.1 hbD.size, fun i u hu => (hbD.cell (p := ⟨b, o + hi * 11 + i, none⟩) C_wr.out.1).trans (C_wr.out.2 i u hu)⟩)
        have V_y1 : Hid (BK 45 y1 w.heap.size (gD t)) := Lib.hid (V_wr.out.step hbD)
        have B_y1 : Hid (Below w.heap.size w y1) := Lib.hid (stepB B_wr.out hbD)
        clear C_wr V_wr B_wr
        have hbd : (fun w' => (b < w'.heap.size ∧ ∀ i v, (gD x)[i]? = some v → w'.cell? ⟨b, o + hi * 11 + i, none⟩ = some v) ∧ BK 45 w' w.heap.size (gD t)) (World.drew wr) := by rw [← hy1]; exact ⟨C_y1.out, V_y1.out⟩
        have hSD : (fun w' => (b < w'.heap.size ∧ ∀ i v, (gD x)[i]? = some v → w'.cell? ⟨b, o + hi * 11 + i, none⟩ = some v) ∧ BK 45 w' w.heap.size (gD t)) y1 := ⟨C_y1.out, V_y1.out⟩
        have HWD := Lib.hid hy1
        clear hy1 hbD
        refine wp_region_held_drew (S := fun w' => (b < w'.heap.size ∧ ∀ i v, (gD x)[i]? = some v → w'.cell? ⟨b, o + hi * 11 + i, none⟩ = some v) ∧ BK 45 w' w.heap.size (gD t)) (by kernel_rfl) hbd (fun hHeld => ?_)
        rw [← HWD.out]
        clear hHeld
        have hHeld := hSD
        clear hSD hbd HWD
        refine wpAnyH_take (i := 0) (v := .int .i64 hi) (get_ops _ _ _ rfl) (by kernel_rfl) (by kernel_rfl) (by kernel_rfl) (fun _ _ _ h => h) (Or.inl ⟨by rfl, fun wS hSw => by (try dsimp only at hSw); go_simp⟩) hHeld ?_
        try simp only [Act.put, List.setIfInBounds_toArray, List.set_cons_zero, List.set_cons_succ]
        refine wpAnyH_take (i := 1) (v := .int .i64 hi) (get_ops _ _ _ rfl) (by kernel_rfl) (by kernel_rfl) (by kernel_rfl) (fun _ _ _ h => h) (Or.inl ⟨by rfl, fun wS hSw => by (try dsimp only at hSw); go_simp⟩) hHeld ?_
        try simp only [Act.put, List.setIfInBounds_toArray, List.set_cons_zero, List.set_cons_succ]
        refine wpAnyH_take (i := 2) (v := .int .i64 l.length) (get_ops _ _ _ rfl) (by kernel_rfl) (by kernel_rfl) (by kernel_rfl) (fun _ _ _ h => h) (Or.inl ⟨by rfl, fun wS hSw => by (try dsimp only at hSw); go_simp⟩) hHeld ?_
        try simp only [Act.put, List.setIfInBounds_toArray, List.set_cons_zero, List.set_cons_succ]
        refine wpAnyH_take (i := 3) (v := .bool true) (get_ops _ _ _ rfl) (by kernel_rfl) (by kernel_rfl) (by kernel_rfl) (fun _ _ _ h => h) (Or.inl ⟨by rfl, fun wS hSw => by (try dsimp only at hSw); go_simp⟩) hHeld ?_
        try simp only [Act.put, List.setIfInBounds_toArray, List.set_cons_zero, List.set_cons_succ]
        refine wpAnyH_take (i := 4) (v := .bool true) (get_ops _ _ _ rfl) (by kernel_rfl) (by kernel_rfl) (by kernel_rfl) (fun _ _ _ h => h) (Or.inl ⟨by rfl, fun wS hSw => by (try dsimp only at hSw); go_simp⟩) hHeld ?_
        try simp only [Act.put, List.setIfInBounds_toArray, List.set_cons_zero, List.set_cons_succ]
        refine wpAnyH_take (i := 5) (v := .func (.func 21) #[] #[]) (get_ops _ _ _ rfl) (by kernel_rfl) (by kernel_rfl) (by kernel_rfl) (fun _ _ _ h => h) (Or.inl ⟨by rfl, fun wS hSw => by (try dsimp only at hSw); go_simp⟩) hHeld ?_
        try simp only [Act.put, List.setIfInBounds_toArray, List.set_cons_zero, List.set_cons_succ]
        refine wpAnyH_take (i := 6) (v := .slice (some ⟨b, o, none⟩) l.length c) (get_ops _ _ _ rfl) (by kernel_rfl) (by kernel_rfl) (by kernel_rfl) (fun _ _ _ h => h) (Or.inl ⟨by rfl, fun wS hSw => by (try dsimp only at hSw); go_simp⟩) hHeld ?_
        try simp only [Act.put, List.setIfInBounds_toArray, List.set_cons_zero, List.set_cons_succ]
        refine wpAnyH_take (i := 7) (v := .int .i64 hi) (get_ops _ _ _ rfl) (by kernel_rfl) (by kernel_rfl) (by kernel_rfl) (fun _ _ _ h => h) (Or.inl ⟨by rfl, fun wS hSw => by (try dsimp only at hSw); go_simp⟩) hHeld ?_
        try simp only [Act.put, List.setIfInBounds_toArray, List.set_cons_zero, List.set_cons_succ]
        refine wpAnyH_take (i := 8) (v := .pointer (some ⟨b, o + hi * 11, none⟩)) (get_ops _ _ _ rfl) (by kernel_rfl) (by kernel_rfl) (by kernel_rfl) (fun _ _ _ h => h) (Or.inl ⟨by rfl, fun wS hSw => by (try dsimp only at hSw); go_simp⟩) hHeld ?_
        try simp only [Act.put, List.setIfInBounds_toArray, List.set_cons_zero, List.set_cons_succ]
        refine wpAnyH_take (i := 9) (v := (.agg (gD x).toArray)) (get_ops _ _ _ rfl) (by kernel_rfl) (by kernel_rfl) (by kernel_rfl) (fun _ _ _ h => h) (Or.inl ⟨by rfl, fun wS hSw => by (try dsimp only at hSw); exact exec_load 45 _ rfl ⟨b, o + hi * 11, none⟩ (by go_simp) _ (load_due hSw.1.2)⟩) hHeld ?_
        try simp only [Act.put, List.setIfInBounds_toArray, List.set_cons_zero, List.set_cons_succ]
        refine wpAnyH_take (i := 10) (v := (.agg (gD t).toArray)) (get_ops _ _ _ rfl) (by kernel_rfl) (by kernel_rfl) (by kernel_rfl) (fun _ _ _ h => h) (Or.inl ⟨by rfl, fun wS hSw => by (try dsimp only at hSw); exact exec_load 45 _ rfl ⟨w.heap.size, 0, none⟩ (by go_simp) _ (S2.run_load_all hSw.2 Tryd.underlying45 rfl dueSize)⟩) hHeld ?_
        try simp only [Act.put, List.setIfInBounds_toArray, List.set_cons_zero, List.set_cons_succ]
        refine wpAnyH_ready (rs := [11]) (by kernel_rfl) (by simp) ?_
        refine (AllReadyH.cons (get_ops _ _ _ rfl) (fun K hK => ?_) AllReadyH.nil)
        go_simp
        refine (HCC.out y1).mono ?_
        rintro e y2 ⟨rfl, hb⟩
        have C_y2 : Hid ((b < y2.heap.size ∧ ∀ i v, (gD x)[i]? = some v → y2.cell? ⟨b, o + hi * 11 + i, none⟩ = some v)) := Lib.hid (⟨Nat.lt_of_lt_of_le C_y1.out.1 hb.size, fun i u hu => (hb.cell (p := ⟨b, o + hi * 11 + i, none⟩) C_y1.out.1).trans (C_y1.out.2 i u hu)⟩)
        have V_y2 : Hid (BK 45 y2 w.heap.size (gD t)) := Lib.hid (V_y1.out.step hb)
        have B_y2 : Hid (Below w.heap.size w y2) := Lib.hid (stepB B_y1.out hb)
        clear C_y1 V_y1 B_y1
        clear hHeld hb
        go_wp2_with fail
        refine hK.out _ _ ⟨C_y2.out, V_y2.out⟩ (fun hHeld => ?_)
        clear hK K
        try simp only [Act.put, List.setIfInBounds_toArray, List.set_cons_zero, List.set_cons_succ]
        refine wpAnyH_take (i := 12) (v := .bool bz) (get_ops _ _ _ rfl) (by kernel_rfl) (by kernel_rfl) (by kernel_rfl) (fun _ _ _ h => h) (Or.inl ⟨by rfl, fun wS hSw => by (try dsimp only at hSw); go_simp⟩) hHeld ?_
        try simp only [Act.put, List.setIfInBounds_toArray, List.set_cons_zero, List.set_cons_succ]
        refine wpAnyH_take (i := 13) (v := .bool bz) (get_ops _ _ _ rfl) (by kernel_rfl) (by kernel_rfl) (by kernel_rfl) (fun _ _ _ h => h) (Or.inl ⟨by rfl, fun wS hSw => by (try dsimp only at hSw); go_simp⟩) hHeld ?_
        try simp only [Act.put, List.setIfInBounds_toArray, List.set_cons_zero, List.set_cons_succ]
        refine wpAnyH_take (i := 14) (v := .int .i64 hi) (get_ops _ _ _ rfl) (by kernel_rfl) (by kernel_rfl) (by kernel_rfl) (fun _ _ _ h => h) (Or.inl ⟨by rfl, fun wS hSw => by (try dsimp only at hSw); go_simp⟩) hHeld ?_
        try simp only [Act.put, List.setIfInBounds_toArray, List.set_cons_zero, List.set_cons_succ]
        refine wpAnyH_take (i := 15) (v := .bool bz) (get_ops _ _ _ rfl) (by kernel_rfl) (by kernel_rfl) (by kernel_rfl) (fun _ _ _ h => h) (Or.inl ⟨by rfl, fun wS hSw => by (try dsimp only at hSw); go_simp⟩) hHeld ?_
        try simp only [Act.put, List.setIfInBounds_toArray, List.set_cons_zero, List.set_cons_succ]
        refine wpAnyH_done (by kernel_rfl) ?_ _
        go_wp2_with fail
        go_ret2
        exact ⟨bz, by rw [HPK.out]; rfl, B_y2.out⟩
      · have e4 : decide ((hi : Int) < (hi : Int)) = false := decide_eq_false (by omega)
        have e5 : decide ((hi : Int) < (l.length : Int)) = false := decide_eq_false (by omega)
        have e5' : decide (hi < l.length) = false := decide_eq_false hin
        clear hpk
        go_upto_region 8 with fail
        obtain ⟨v1, hv1⟩ : ∃ v1, v1 = World.drew wr := ⟨_, rfl⟩
        have hbD : Below wr.heap.size wr v1 := by rw [hv1]; exact (Below.refl _ _).drew
        have V_v1 : Hid (BK 45 v1 w.heap.size (gD t)) := Lib.hid (V_wr.out.step hbD)
        have B_v1 : Hid (Below w.heap.size w v1) := Lib.hid (stepB B_wr.out hbD)
        clear V_wr B_wr
        have hbd : (fun w' => BK 45 w' w.heap.size (gD t)) (World.drew wr) := by rw [← hv1]; exact V_v1.out
        have hSD : (fun w' => BK 45 w' w.heap.size (gD t)) v1 := V_v1.out
        have HWD := Lib.hid hv1
        clear hv1 hbD
        refine wp_region_held_drew (S := fun w' => BK 45 w' w.heap.size (gD t)) (by kernel_rfl) hbd (fun hHeld => ?_)
        rw [← HWD.out]
        clear hHeld
        have hHeld := hSD
        clear hSD hbd HWD
        refine wpAnyH_take (i := 0) (v := .int .i64 hi) (get_ops _ _ _ rfl) (by kernel_rfl) (by kernel_rfl) (by kernel_rfl) (fun _ _ _ h => h) (Or.inl ⟨by rfl, fun wS hSw => by (try dsimp only at hSw); go_simp⟩) hHeld ?_
        try simp only [Act.put, List.setIfInBounds_toArray, List.set_cons_zero, List.set_cons_succ]
        refine wpAnyH_take (i := 1) (v := .int .i64 hi) (get_ops _ _ _ rfl) (by kernel_rfl) (by kernel_rfl) (by kernel_rfl) (fun _ _ _ h => h) (Or.inl ⟨by rfl, fun wS hSw => by (try dsimp only at hSw); go_simp⟩) hHeld ?_
        try simp only [Act.put, List.setIfInBounds_toArray, List.set_cons_zero, List.set_cons_succ]
        refine wpAnyH_take (i := 2) (v := .int .i64 l.length) (get_ops _ _ _ rfl) (by kernel_rfl) (by kernel_rfl) (by kernel_rfl) (fun _ _ _ h => h) (Or.inl ⟨by rfl, fun wS hSw => by (try dsimp only at hSw); go_simp⟩) hHeld ?_
        try simp only [Act.put, List.setIfInBounds_toArray, List.set_cons_zero, List.set_cons_succ]
        refine wpAnyH_take (i := 3) (v := .bool false) (get_ops _ _ _ rfl) (by kernel_rfl) (by kernel_rfl) (by kernel_rfl) (fun _ _ _ h => h) (Or.inl ⟨by rfl, fun wS hSw => by (try dsimp only at hSw); go_simp⟩) hHeld ?_
        try simp only [Act.put, List.setIfInBounds_toArray, List.set_cons_zero, List.set_cons_succ]
        refine wpAnyH_take (i := 4) (v := .bool false) (get_ops _ _ _ rfl) (by kernel_rfl) (by kernel_rfl) (by kernel_rfl) (fun _ _ _ h => h) (Or.inl ⟨by rfl, fun wS hSw => by (try dsimp only at hSw); go_simp⟩) hHeld ?_
        try simp only [Act.put, List.setIfInBounds_toArray, List.set_cons_zero, List.set_cons_succ]
        refine wpAnyH_take (i := 5) (v := undef) (get_ops _ _ _ rfl) (by kernel_rfl) (by kernel_rfl) (by kernel_rfl) (fun _ _ _ h => h) (Or.inr ⟨by rfl, rfl⟩) hHeld ?_
        try simp only [Act.put, List.setIfInBounds_toArray, List.set_cons_zero, List.set_cons_succ]
        refine wpAnyH_take (i := 6) (v := undef) (get_ops _ _ _ rfl) (by kernel_rfl) (by kernel_rfl) (by kernel_rfl) (fun _ _ _ h => h) (Or.inr ⟨by rfl, rfl⟩) hHeld ?_
        try simp only [Act.put, List.setIfInBounds_toArray, List.set_cons_zero, List.set_cons_succ]
        refine wpAnyH_take (i := 7) (v := undef) (get_ops _ _ _ rfl) (by kernel_rfl) (by kernel_rfl) (by kernel_rfl) (fun _ _ _ h => h) (Or.inr ⟨by rfl, rfl⟩) hHeld ?_
        try simp only [Act.put, List.setIfInBounds_toArray, List.set_cons_zero, List.set_cons_succ]
        refine wpAnyH_take (i := 8) (v := undef) (get_ops _ _ _ rfl) (by kernel_rfl) (by kernel_rfl) (by kernel_rfl) (fun _ _ _ h => h) (Or.inr ⟨by rfl, rfl⟩) hHeld ?_
        try simp only [Act.put, List.setIfInBounds_toArray, List.set_cons_zero, List.set_cons_succ]
        refine wpAnyH_take (i := 9) (v := undef) (get_ops _ _ _ rfl) (by kernel_rfl) (by kernel_rfl) (by kernel_rfl) (fun _ _ _ h => h) (Or.inr ⟨by rfl, rfl⟩) hHeld ?_
        try simp only [Act.put, List.setIfInBounds_toArray, List.set_cons_zero, List.set_cons_succ]
        refine wpAnyH_take (i := 10) (v := undef) (get_ops _ _ _ rfl) (by kernel_rfl) (by kernel_rfl) (by kernel_rfl) (fun _ _ _ h => h) (Or.inr ⟨by rfl, rfl⟩) hHeld ?_
        try simp only [Act.put, List.setIfInBounds_toArray, List.set_cons_zero, List.set_cons_succ]
        refine wpAnyH_take (i := 11) (v := undef) (get_ops _ _ _ rfl) (by kernel_rfl) (by kernel_rfl) (by kernel_rfl) (fun _ _ _ h => h) (Or.inr ⟨by rfl, rfl⟩) hHeld ?_
        try simp only [Act.put, List.setIfInBounds_toArray, List.set_cons_zero, List.set_cons_succ]
        refine wpAnyH_take (i := 12) (v := undef) (get_ops _ _ _ rfl) (by kernel_rfl) (by kernel_rfl) (by kernel_rfl) (fun _ _ _ h => h) (Or.inr ⟨by rfl, rfl⟩) hHeld ?_
        try simp only [Act.put, List.setIfInBounds_toArray, List.set_cons_zero, List.set_cons_succ]
        refine wpAnyH_take (i := 13) (v := .bool false) (get_ops _ _ _ rfl) (by kernel_rfl) (by kernel_rfl) (by kernel_rfl) (fun _ _ _ h => h) (Or.inl ⟨by rfl, fun wS hSw => by (try dsimp only at hSw); go_simp⟩) hHeld ?_
        try simp only [Act.put, List.setIfInBounds_toArray, List.set_cons_zero, List.set_cons_succ]
        refine wpAnyH_take (i := 14) (v := .int .i64 hi) (get_ops _ _ _ rfl) (by kernel_rfl) (by kernel_rfl) (by kernel_rfl) (fun _ _ _ h => h) (Or.inl ⟨by rfl, fun wS hSw => by (try dsimp only at hSw); go_simp⟩) hHeld ?_
        try simp only [Act.put, List.setIfInBounds_toArray, List.set_cons_zero, List.set_cons_succ]
        refine wpAnyH_take (i := 15) (v := .bool false) (get_ops _ _ _ rfl) (by kernel_rfl) (by kernel_rfl) (by kernel_rfl) (fun _ _ _ h => h) (Or.inl ⟨by rfl, fun wS hSw => by (try dsimp only at hSw); go_simp⟩) hHeld ?_
        try simp only [Act.put, List.setIfInBounds_toArray, List.set_cons_zero, List.set_cons_succ]
        refine wpAnyH_done (by kernel_rfl) ?_ _
        go_wp2_with fail
        go_ret2
        exact ⟨false, by rw [HPK.out]; rfl, B_v1.out⟩
end Go.Proofs.YtoakhkiiefiebabDoor
