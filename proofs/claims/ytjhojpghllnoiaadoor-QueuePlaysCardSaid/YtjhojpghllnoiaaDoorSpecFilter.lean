/-
  What sized, Filter and Valid of the specification answer. Conditions: the length of the text fits an int.
-/
import Derived.Test.YtjhojpghllnoiaaDoorLevels
namespace Go.Proofs.YtjhojpghllnoiaaDoor.S1
open Go.RowKit

theorem sized_parts {s : ByteArray} (h1 : 1 ≤ s.size) (h64 : s.size ≤ 64) : T.sizedL (dl s) = (!hasB (dl s) 0 && decide (((lvB s).length : Int) ≤ 8)) := by
  have hl := size_dl s
  unfold T.sizedL hasB
  rw [lvB_length, decide_eq_true (show 1 ≤ (dl s).length by omega), decide_eq_true (show (dl s).length ≤ 64 by omega)]
  simp only [Bool.true_and]
  congr 1
  rw [Bool.eq_iff_iff]
  simp
  omega
theorem sized_short {s : ByteArray} (h1 : ¬ 1 ≤ s.size) : T.sizedL (dl s) = false := by
  have hl := size_dl s
  unfold T.sizedL
  rw [decide_eq_false (show ¬ 1 ≤ (dl s).length by omega)]; simp
theorem sized_long {s : ByteArray} (h1 : ¬ s.size ≤ 64) : T.sizedL (dl s) = false := by
  have hl := size_dl s
  unfold T.sizedL
  rw [decide_eq_false (show ¬ (dl s).length ≤ 64 by omega)]; simp

set_option maxHeartbeats 1000000 in
theorem sized_any (s : ByteArray) (w : World) :
    Calls Tryd.prog 72 #[.string s] w fun e w' => e = .returned (.bool (T.sizedL (dl s))) ∧ Below w.heap.size w w' := by
  by_cases h1 : 1 ≤ s.size
  · by_cases h64 : s.size ≤ 64
    · have d1 : decide ((1 : Int) ≤ (s.size : Int)) = true := decide_eq_true (by omega)
      have d2 : decide ((s.size : Int) ≤ 64) = true := decide_eq_true (by omega)
      have HS := Lib.hid (sized_parts h1 h64)
      cases h0 : hasB (dl s) 0
      · go_enter Tryd.func72, Tryd.ntmps72
        go_wp2_with first
          | (go_at_call 73; (with_reducible refine (has0_any _ _ (by omega)).mono ?_); rintro e w' ⟨rfl, rfl⟩)
          | (go_at_call 79; refine (rLevels_any _ _ (by omega)).mono ?_; rintro e w' ⟨A, c, rfl, hc, hsl, hb⟩)
        go_ret
        exact ⟨retb (by rw [HS.out, h0]; rfl), hb⟩
      · go_enter Tryd.func72, Tryd.ntmps72
        go_wp2_with (go_at_call 73; (with_reducible refine (has0_any _ _ (by omega)).mono ?_); rintro e w' ⟨rfl, rfl⟩)
        go_ret
        exact ⟨retb (by rw [HS.out, h0]; rfl), Below.refl _ _⟩
    · have d1 : decide ((1 : Int) ≤ (s.size : Int)) = true := decide_eq_true (by omega)
      have d2 : decide ((s.size : Int) ≤ 64) = false := decide_eq_false (by omega)
      have HS := Lib.hid (sized_long h64)
      go_enter Tryd.func72, Tryd.ntmps72
      go_wp2
      go_ret
      exact ⟨retb HS.out.symm, Below.refl _ _⟩
  · have d1 : decide ((1 : Int) ≤ (s.size : Int)) = false := decide_eq_false (by omega)
    have HS := Lib.hid (sized_short h1)
    go_enter Tryd.func72, Tryd.ntmps72
    go_wp2
    go_ret
    exact ⟨retb HS.out.symm, Below.refl _ _⟩

/-! ### Filter of the specification -/
def OkUpto (a : List (List UInt8)) (i : Nat) : Prop := ∀ j, j < i → T.okAt a j = true
theorem OkUpto.succ {a : List (List UInt8)} {i : Nat} (h : OkUpto a i) (hi : T.okAt a i = true) : OkUpto a (i + 1) := fun j hj => by
  rcases Nat.lt_succ_iff_lt_or_eq.1 hj with h' | h'
  · exact h j h'
  · subst h'; exact hi
theorem ok_spec {s x : ByteArray} {i : Nat} (hz : T.sizedL (dl s) = true) (hx : (lvB s)[i]? = some x) :
    T.okAt (T.lv (dl s)) i = (!(hasB (dl x) 43 && !decide (x = bs [43])) && !(hasB (dl x) 35 && (!decide (x = bs [35]) || !decide (i + 1 = (lvB s).length)))) := by
  have hi : i < (lvB s).length := (List.getElem?_eq_some_iff.1 hx).1
  have h0 : (0 : UInt8) ∉ dl s := by
    unfold T.sizedL at hz
    simp only [Bool.and_eq_true, Bool.not_eq_true', List.contains_eq_mem, decide_eq_false_iff_not] at hz
    exact hz.1.2
  have he : ∀ l, decide (x = bs l) = decide (dl x = l) := fun l => by
    rw [Bool.eq_iff_iff]
    simp only [decide_eq_true_eq]
    exact ⟨fun h => by rw [h, dl_bs], fun h => by rw [← h, bs_dl]⟩
  rw [lvB_length] at hi
  rw [T.okAt_spec h0 i hi, lvB_getD s i x hx, he, he, lvB_length]
  rfl
theorem sized_le {s : ByteArray} (h : T.sizedL (dl s) = true) : s.size ≤ 64 := by
  rcases Nat.lt_or_ge 64 s.size with h1 | h1
  · rw [sized_long (by omega)] at h; cases h
  · exact h1
theorem not_sized_filter {s : ByteArray} (h : T.sizedL (dl s) = false) : T.filterL (dl s) = false := by
  cases hf : T.filterL (dl s) with
  | false => rfl
  | true => rw [T.filterL_sized hf] at h; cases h
theorem filter_done {s : ByteArray} (hz : T.sizedL (dl s) = true) (h : OkUpto (T.lv (dl s)) (lvB s).length) : T.filterL (dl s) = true := by
  unfold T.sizedL at hz
  simp only [Bool.and_eq_true, decide_eq_true_eq] at hz
  exact T.filterL_true hz.1.1.1 hz.1.1.2 hz.2 (fun i hi => h i (by rw [lvB_length]; exact hi))
theorem filter_bad {s : ByteArray} {i : Nat} (hi : i < (lvB s).length) (h : T.okAt (T.lv (dl s)) i = false) : T.filterL (dl s) = false := T.filterL_at (by rw [← lvB_length]; exact hi) h

/-! ### Valid, System, Begins of the specification -/
theorem valid_parts (s : ByteArray) : T.validL (dl s) = (T.sizedL (dl s) && !hasB (dl s) 43 && !hasB (dl s) 35) := by
  rw [T.validL_eq, T.wildFree_eq, Bool.and_assoc]; rfl

set_option maxHeartbeats 400000 in
theorem rValid_any (s : ByteArray) (w : World) (hs63 : s.size ≤ 9223372036854775807) :
    Calls Tryd.prog 62 #[.string s] w fun e w' => e = .returned (.bool (T.validL (dl s))) ∧ Below w.heap.size w w' := by
  have HV := Lib.hid (valid_parts s)
  cases hz : T.sizedL (dl s)
  · go_enter Tryd.func62, Tryd.ntmps62
    go_wp2_with (go_at_call 72; refine (sized_any _ _).mono ?_; rintro e w' ⟨rfl, hb⟩)
    go_ret
    exact ⟨retb (by rw [HV.out, hz]; rfl), hb⟩
  · cases h43 : hasB (dl s) 43
    · go_enter Tryd.func62, Tryd.ntmps62
      go_wp2_with first
        | (go_at_call 72; refine (sized_any _ _).mono ?_; rintro e w1 ⟨rfl, hb⟩)
        | (go_at_call 73; (with_reducible refine (has43_any _ _ (by omega)).mono ?_); rintro e w' ⟨rfl, rfl⟩)
        | (go_at_call 73; (with_reducible refine (has35_any _ _ (by omega)).mono ?_); rintro e w' ⟨rfl, rfl⟩)
      go_ret
      exact ⟨retb (by rw [HV.out, hz, h43]; rfl), hb⟩
    · go_enter Tryd.func62, Tryd.ntmps62
      go_wp2_with first
        | (go_at_call 72; refine (sized_any _ _).mono ?_; rintro e w1 ⟨rfl, hb⟩)
        | (go_at_call 73; (with_reducible refine (has43_any _ _ (by omega)).mono ?_); rintro e w' ⟨rfl, rfl⟩)
      go_ret
      exact ⟨retb (by rw [HV.out, hz, h43]; rfl), hb⟩

def sysL (l : List UInt8) : Bool := decide (l.head? = some 36)
theorem sys_cons {s : ByteArray} {x : UInt8} (h0 : 0 < s.size) (hx : s[0]'h0 = x) : sysL (dl s) = ((x.toNat : Int) == 36) := by
  have h := Lib.data_getElem? s 0 h0
  unfold sysL dl
  rw [List.head?_eq_getElem?, h, hx, Bool.eq_iff_iff]
  simp only [Option.some.injEq, decide_eq_true_eq, beq_iff_eq]
  constructor
  · intro e; rw [e]; rfl
  · intro e; exact UInt8.toNat_inj.1 (by show x.toNat = 36; omega)
theorem sys_nil {s : ByteArray} (h0 : ¬ 0 < s.size) : sysL (dl s) = false := by
  have hl := size_dl s
  have : dl s = [] := List.length_eq_zero_iff.1 (by omega)
  rw [this]; rfl

end Go.Proofs.YtjhojpghllnoiaaDoor.S1
