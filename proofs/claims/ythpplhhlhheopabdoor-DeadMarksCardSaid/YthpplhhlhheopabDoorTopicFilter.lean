/-
  What Filter, Valid and System of the program answer. Conditions: MaxLen holds a number.
-/
import Derived.Test.YthpplhhlhheopabDoorAny
namespace Go.Proofs.YthpplhhlhheopabDoor.S1
open Go.RowKit
open Go.Lib (run_next_any_at run_next_ascii_at run_next_end_at iterAt_heap below_iterAt)

theorem indexAny_anyW (l : List UInt8) : decide (0 ≤ Lib.indexAny l [43, 35]) = anyW l := by
  induction l with
  | nil => rfl
  | cons b l ih =>
    have hge := Lib.indexAny_ge [43, 35] l
    unfold Lib.indexAny
    have hc : ([43, 35] : List UInt8).contains b = !notW b := by
      unfold notW
      rw [Bool.eq_iff_iff]
      simp only [List.contains_eq_mem, List.mem_cons, List.not_mem_nil, or_false, decide_eq_true_eq, Bool.not_eq_true', Bool.and_eq_false_iff, decide_eq_false_iff_not, ne_eq, Decidable.not_not]
    have ha : anyW (b :: l) = (!notW b || anyW l) := by
      unfold anyW
      rw [wildFree_all, wildFree_all, List.all_cons]
      cases notW b <;> rfl
    rw [hc, ha, ← ih]
    cases notW b
    · simp
    · simp only [Bool.not_true, Bool.false_eq_true, if_false, Bool.false_or]
      split
      · next h =>
        have := eq_of_beq h
        rw [this]
      · next h =>
        have h' : Lib.indexAny l [43, 35] ≠ -1 := fun e => h (by rw [e]; rfl)
        rw [Bool.eq_iff_iff]
        simp only [decide_eq_true_eq]
        omega

/-! ### Filter of the program -/
def okc (c : UInt8) : Bool := decide (c ≠ 0) && decide (c ≠ 43) && decide (c ≠ 35)
theorem okc_high (c : UInt8) (h : 128 ≤ c.toNat) : okc c = true := by
  unfold okc
  simp only [Bool.and_eq_true, decide_eq_true_eq]
  refine ⟨⟨fun e => ?_, fun e => ?_⟩, fun e => ?_⟩ <;> (rw [e] at h; exact absurd h (by decide))
theorem clean_all (l : List UInt8) : T.clean l = l.all okc := rfl
theorem okAt_lok {s x : ByteArray} {i : Nat} (hx : (lvB s)[i]? = some x) : T.okAt (T.lv (dl s)) i = T.lok (decide (i + 1 = (lvB s).length)) (dl x) := by
  unfold T.okAt
  rw [lvB_getD s i x hx, lvB_length]
theorem lok_clean {b : Bool} {x : ByteArray} (h : Free (dl x) okc x.size) : T.lok b (dl x) = true := by
  unfold T.lok
  rw [clean_all, Free.all (by rw [← size_dl]; exact h)]; simp
theorem lok_bad {b : Bool} {x : ByteArray} {i : Nat} {c : UInt8} (hi : i < x.size) (hc : (dl x).getD i 0 = c) (hk : okc c = false) (h43 : ¬ dl x = [43]) (h35 : ¬ (dl x = [35] ∧ b = true)) : T.lok b (dl x) = false := by
  unfold T.lok
  rw [clean_all, free_bad (by rw [← size_dl]; exact hi) (by rw [hc]; exact hk), decide_eq_false h43]
  by_cases h : dl x = [35]
  · have : b = false := by
      cases hb : b with
      | false => rfl
      | true => exact absurd ⟨h, hb⟩ h35
    rw [this]; simp
  · rw [decide_eq_false h]; simp

theorem single_at {x : ByteArray} {d : UInt8} (h : dl x = [d]) {i : Nat} (hi : i < x.size) : (dl x).getD i 0 = d := by
  have hl := size_dl x
  rw [h] at hl ⊢
  have : i = 0 := by simp at hl; omega
  subst this; rfl

end Go.Proofs.YthpplhhlhheopabDoor.S1
