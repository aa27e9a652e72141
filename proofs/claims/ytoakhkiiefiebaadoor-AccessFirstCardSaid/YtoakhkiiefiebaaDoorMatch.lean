/-
  What Covers and Matches of the program answer. Condition: MaxLen holds a number.
-/
import Derived.Test.YtoakhkiiefiebaaDoorCov
import Derived.Test.YtoakhkiiefiebaaDoorAwake1
namespace Go.Proofs.YtoakhkiiefiebaaDoor.S1
open Go.RowKit

def blB (f o : ByteArray) : Bool := sysL (dl o) && hdW (lvB f)
def coversL (a b : ByteArray) : Bool := T.filterL (dl a) && T.filterL (dl b) && !blB a b && covB (lvB a) (lvB b)
def matchesL (f n : ByteArray) : Bool := T.validL (dl n) && coversL f n

theorem lv_small {s : ByteArray} (h : T.filterL (dl s) = true) : (lvB s).length ≤ 8 := by
  rw [lvB_length]
  exact (T.filterL_parts h).2.2.1

set_option maxHeartbeats 2000000 in
theorem mCov_any (a b : ByteArray) (w : World) (hw : Okw w) :
    Calls Tryd.prog 40 #[.string a, .string b] w fun e w' => e = .returned (.bool (coversL a b)) ∧ Below w.heap.size w w' := by
  have hq := Qk.refl hw
  have c1 := fun w hw => tFilter_any a w hw
  have c2 := fun w hw => tFilter_any b w hw
  cases hfa : T.filterL (dl a)
  · have HV : Hid (coversL a b = false) := Lib.hid (by unfold coversL; rw [hfa]; rfl)
    rw [hfa] at c1
    have C1 := Lib.hid c1
    clear c1 c2 hfa
    go_enter Tryd.func40, Tryd.ntmps40
    go_wp2_with fail
    refine (C1.out _ hq.ok).mono ?_
    rintro e w1 ⟨rfl, hb1⟩
    go_wp2_with fail
    go_ret
    exact ⟨retb HV.out.symm, hb1⟩
  · cases hfb : T.filterL (dl b)
    · have HV : Hid (coversL a b = false) := Lib.hid (by unfold coversL; rw [hfb]; simp)
      rw [hfa] at c1
      rw [hfb] at c2
      have C1 := Lib.hid c1
      have C2 := Lib.hid c2
      clear c1 c2 hfa hfb
      go_enter Tryd.func40, Tryd.ntmps40
      go_wp2_with fail
      refine (C1.out _ hq.ok).mono ?_
      rintro e w1 ⟨rfl, hb1⟩
      have hq1 := hq.step hb1
      go_wp2_with fail
      refine (C2.out _ hq1.ok).mono ?_
      rintro e w2 ⟨rfl, hb2⟩
      have hq2 := hq1.step hb2
      go_wp2_with fail
      go_ret
      exact ⟨retb HV.out.symm, hq2.1⟩
    · have c3 := fun w hw => blind_any a b w hw hfa
      have ha8 := lv_small hfa
      have hb8 := lv_small hfb
      have hal := filter_le hfa
      have hbl := filter_le hfb
      have HFO := Lib.hid (filOk_of hfa)
      have hv : coversL a b = (!blB a b && covB (lvB a) (lvB b)) := by unfold coversL; rw [hfa, hfb]; simp
      rw [hfa] at c1
      rw [hfb] at c2
      have C1 := Lib.hid c1
      have C2 := Lib.hid c2
      have HV := Lib.hid hv
      have hbl2 : (sysL (dl b) && hdW (lvB a)) = blB a b := rfl
      rw [hbl2] at c3
      generalize blB a b = bl at c3 HV
      have C3 := Lib.hid c3
      clear c1 c2 c3 hfa hfb hv hbl2
      cases bl
      · go_enter Tryd.func40, Tryd.ntmps40
        go_wp2_with fail
        refine (C1.out _ hq.ok).mono ?_
        rintro e w1 ⟨rfl, hb1⟩
        have hq1 := hq.step hb1
        go_wp2_with fail
        refine (C2.out _ hq1.ok).mono ?_
        rintro e w2 ⟨rfl, hb2⟩
        have hq2 := hq1.step hb2
        go_wp2_with fail
        refine (C3.out _ hq2.ok).mono ?_
        rintro e w3 ⟨rfl, hb3⟩
        have hq3 := hq2.step hb3
        go_wp2_with fail
        refine (tLevels_any a _ hq3.ok (by omega)).mono ?_
        rintro e w4 ⟨A4, c4, rfl, hc4, hsl4, hb4⟩
        have hq4 := hq3.step hb4
        go_wp2_with fail
        refine (tLevels_any b _ hq4.ok (by omega)).mono ?_
        rintro e w5 ⟨A5, c5, rfl, hc5, hsl5, hb5⟩
        have hq5 := hq4.step hb5
        have hsl4' := hsl4.step hb5
        go_wp2_with fail
        refine (mCovers_any A4 A5 c4 c5 (lvB a) (lvB b) _ hsl4' hsl5 HFO.out (by omega) (by omega)).mono ?_
        rintro e w6 ⟨rfl, hb6⟩
        have hq6 := hq5.step hb6
        go_wp2_with fail
        go_ret
        exact ⟨retb (by rw [HV.out]; simp), hq6.1⟩
      · go_enter Tryd.func40, Tryd.ntmps40
        go_wp2_with fail
        refine (C1.out _ hq.ok).mono ?_
        rintro e w1 ⟨rfl, hb1⟩
        have hq1 := hq.step hb1
        go_wp2_with fail
        refine (C2.out _ hq1.ok).mono ?_
        rintro e w2 ⟨rfl, hb2⟩
        have hq2 := hq1.step hb2
        go_wp2_with fail
        refine (C3.out _ hq2.ok).mono ?_
        rintro e w3 ⟨rfl, hb3⟩
        have hq3 := hq2.step hb3
        go_wp2_with fail
        go_ret
        exact ⟨retb (by rw [HV.out]; rfl), hq3.1⟩

set_option maxHeartbeats 400000 in
theorem mMatches_any (f n : ByteArray) (w : World) (hw : Okw w) :
    Calls Tryd.prog 36 #[.string f, .string n] w fun e w' => e = .returned (.bool (matchesL f n)) ∧ Below w.heap.size w w' := by
  have hq := Qk.refl hw
  have c1 := fun w hw => tValid_any n w hw
  have c2 := fun w hw => mCov_any f n w hw
  have HV : Hid (matchesL f n = (T.validL (dl n) && coversL f n)) := Lib.hid rfl
  generalize T.validL (dl n) = v at c1 HV
  generalize coversL f n = cv at c2 HV
  have C1 := Lib.hid c1
  have C2 := Lib.hid c2
  clear c1 c2
  cases v
  · go_enter Tryd.func36, Tryd.ntmps36
    go_wp2_with fail
    refine (C1.out _ hq.ok).mono ?_
    rintro e w1 ⟨rfl, hb1⟩
    go_wp2_with fail
    go_ret
    exact ⟨retb (by rw [HV.out]; rfl), hb1⟩
  · go_enter Tryd.func36, Tryd.ntmps36
    go_wp2_with fail
    refine (C1.out _ hq.ok).mono ?_
    rintro e w1 ⟨rfl, hb1⟩
    have hq1 := hq.step hb1
    go_wp2_with fail
    refine (C2.out _ hq1.ok).mono ?_
    rintro e w2 ⟨rfl, hb2⟩
    have hq2 := hq1.step hb2
    go_wp2_with fail
    go_ret
    exact ⟨retb (by rw [HV.out]; rfl), hq2.1⟩

/-! ### displaced, Narrow, Select of the program -/
def dispAt (xs : List ByteArray) (i j : Nat) : Bool := (decide (j < i) || decide (xs.getD j ByteArray.empty ≠ xs.getD i ByteArray.empty)) && coversL (xs.getD j ByteArray.empty) (xs.getD i ByteArray.empty)
def dispB (xs : List ByteArray) (i : Nat) : Bool := (List.range xs.length).any fun j => dispAt xs i j
def keepB (xs : List ByteArray) (i : Nat) : Bool := T.filterL (dl (xs.getD i ByteArray.empty)) && !dispB xs i
def narrowB (xs : List ByteArray) (k : Nat) : List ByteArray := ((List.range k).filter fun i => keepB xs i).map fun i => xs.getD i ByteArray.empty
def selectB (f : ByteArray) (xs : List ByteArray) : List ByteArray := xs.filter fun n => matchesL f n

def NoDisp (xs : List ByteArray) (i k : Nat) : Prop := ∀ j, j < k → dispAt xs i j = false
theorem NoDisp.succ {xs : List ByteArray} {i k : Nat} (h : NoDisp xs i k) (hk : dispAt xs i k = false) : NoDisp xs i (k + 1) := fun j hj => by
  rcases Nat.lt_succ_iff_lt_or_eq.1 hj with h' | h'
  · exact h j h'
  · subst h'; exact hk
theorem NoDisp.all {xs : List ByteArray} {i : Nat} (h : NoDisp xs i xs.length) : dispB xs i = false := by
  unfold dispB
  rw [List.any_eq_false]
  intro j hj
  rw [h j (List.mem_range.1 hj)]; decide
theorem disp_yes {xs : List ByteArray} {i k : Nat} (hk : k < xs.length) (h : dispAt xs i k = true) : dispB xs i = true := by
  unfold dispB
  rw [List.any_eq_true]
  exact ⟨k, List.mem_range.2 hk, h⟩
theorem getD_at {xs : List ByteArray} {i : Nat} {x : ByteArray} (h : xs[i]? = some x) : xs.getD i ByteArray.empty = x := by
  rw [List.getD_eq_getElem?_getD, h]; rfl

end Go.Proofs.YtoakhkiiefiebaaDoor.S1
