/-
  What sized, Filter and Valid of the specification answer. Conditions: the length of the text fits an int.
-/
import Derived.Test.YtoakhkiiefiebaaDoorLevels
namespace Go.Proofs.YtoakhkiiefiebaaDoor.S1
open Go.RowKit

theorem sized_parts {s : ByteArray} (h1 : 1 ≤ s.size) (h64 : s.size ≤ 64) : T.sizedL (dl s) = (!hasB (dl s) 0 && decide (((lvB s).length : Int) ≤ 8)) := by
  have hl := size_dl s
  unfold T.sizedL hasB
  rw [lvB_length, decide_eq_true (show 1 ≤ (dl s).length by omega), decide_eq_true (show (dl s).length ≤ 64 by omega)]
  simp only [Bool.true_and]
  congr 1
  rw [Bool.eq_iff_iff]
  simp
  omega
theorem sized_short {s : ByteArray} (h1 : ¬ 1 ≤ s.size) : T.sizedL (dl s) = false := by
  have hl := size_dl s
  unfold T.sizedL
  rw [decide_eq_false (show ¬ 1 ≤ (dl s).length by omega)]; simp
theorem sized_long {s : ByteArray} (h1 : ¬ s.size ≤ 64) : T.sizedL (dl s) = false := by
  have hl := size_dl s
  unfold T.sizedL
  rw [decide_eq_false (show ¬ (dl s).length ≤ 64 by omega)]; simp

set_option maxHeartbeats 1000000 in
theorem sized_any (s : ByteArray) (w : World) :
    Calls Tryd.prog 53 #[.string s] w fun e w' => e = .returned (.bool (T.sizedL (dl s))) ∧ Below w.heap.size w w' := by
  by_cases h1 : 1 ≤ s.size
  · by_cases h64 : s.size ≤ 64
    · have d1 : decide ((1 : Int) ≤ (s.size : Int)) = true := decide_eq_true (by omega)
      have d2 : decide ((s.size : Int) ≤ 64) = true := decide_eq_true (by omega)
      have HS := Lib.hid (sized_parts h1 h64)
      cases h0 : hasB (dl s) 0
      · go_enter Tryd.func53, Tryd.ntmps53
        go_wp2_with first
          | (go_at_call 54; (with_reducible refine (has0_any _ _ (by omega)).mono ?_); rintro e w' ⟨rfl, rfl⟩)
          | (go_at_call 32; refine (rLevels_any _ _ (by omega)).mono ?_; rintro e w' ⟨A, c, rfl, hc, hsl, hb⟩)
        go_ret
        exact ⟨retb (by rw [HS.out, h0]; rfl), hb⟩
      · go_enter Tryd.func53, Tryd.ntmps53
        go_wp2_with (go_at_call 54; (with_reducible refine (has0_any _ _ (by omega)).mono ?_); rintro e w' ⟨rfl, rfl⟩)
        go_ret
        exact ⟨retb (by rw [HS.out, h0]; rfl), Below.refl _ _⟩
    · have d1 : decide ((1 : Int) ≤ (s.size : Int)) = true := decide_eq_true (by omega)
      have d2 : decide ((s.size : Int) ≤ 64) = false := decide_eq_false (by omega)
      have HS := Lib.hid (sized_long h64)
      go_enter Tryd.func53, Tryd.ntmps53
      go_wp2
      go_ret
      exact ⟨retb HS.out.symm, Below.refl _ _⟩
  · have d1 : decide ((1 : Int) ≤ (s.size : Int)) = false := decide_eq_false (by omega)
    have HS := Lib.hid (sized_short h1)
    go_enter Tryd.func53, Tryd.ntmps53
    go_wp2
    go_ret
    exact ⟨retb HS.out.symm, Below.refl _ _⟩

/-! ### Filter of the specification -/
def OkUpto (a : List (List UInt8)) (i : Nat) : Prop := ∀ j, j < i → T.okAt a j = true
theorem OkUpto.succ {a : List (List UInt8)} {i : Nat} (h : OkUpto a i) (hi : T.okAt a i = true) : OkUpto a (i + 1) := fun j hj => by
  rcases Nat.lt_succ_iff_lt_or_eq.1 hj with h' | h'
  · exact h j h'
  · subst h'; exact hi
theorem ok_spec {s x : ByteArray} {i : Nat} (hz : T.sizedL (dl s) = true) (hx : (lvB s)[i]? = some x) :
    T.okAt (T.lv (dl s)) i = (!(hasB (dl x) 43 && !decide (x = bs [43])) && !(hasB (dl x) 35 && (!decide (x = bs [35]) || !decide (i + 1 = (lvB s).length)))) := by
  have hi : i < (lvB s).length := (List.getElem?_eq_some_iff.1 hx).1
  have h0 : (0 : UInt8) ∉ dl s := by
    unfold T.sizedL at hz
    simp only [Bool.and_eq_true, Bool.not_eq_true', List.contains_eq_mem, decide_eq_false_iff_not] at hz
    exact hz.1.2
  have he : ∀ l, decide (x = bs l) = decide (dl x = l) := fun l => by
    rw [Bool.eq_iff_iff]
    simp only [decide_eq_true_eq]
    exact ⟨fun h => by rw [h, dl_bs], fun h => by rw [← h, bs_dl]⟩
  rw [lvB_length] at hi
  rw [T.okAt_spec h0 i hi, lvB_getD s i x hx, he, he, lvB_length]
  rfl
theorem sized_le {s : ByteArray} (h : T.sizedL (dl s) = true) : s.size ≤ 64 := by
  rcases Nat.lt_or_ge 64 s.size with h1 | h1
  · rw [sized_long (by omega)] at h; cases h
  · exact h1
theorem not_sized_filter {s : ByteArray} (h : T.sizedL (dl s) = false) : T.filterL (dl s) = false := by
  cases hf : T.filterL (dl s) with
  | false => rfl
  | true => rw [T.filterL_sized hf] at h; cases h
theorem filter_done {s : ByteArray} (hz : T.sizedL (dl s) = true) (h : OkUpto (T.lv (dl s)) (lvB s).length) : T.filterL (dl s) = true := by
  unfold T.sizedL at hz
  simp only [Bool.and_eq_true, decide_eq_true_eq] at hz
  exact T.filterL_true hz.1.1.1 hz.1.1.2 hz.2 (fun i hi => h i (by rw [lvB_length]; exact hi))
theorem filter_bad {s : ByteArray} {i : Nat} (hi : i < (lvB s).length) (h : T.okAt (T.lv (dl s)) i = false) : T.filterL (dl s) = false := T.filterL_at (by rw [← lvB_length]; exact hi) h

set_option maxHeartbeats 1000000 in
theorem rFilter_any (s : ByteArray) (w : World) :
    Calls Tryd.prog 29 #[.string s] w fun e w' => e = .returned (.bool (T.filterL (dl s))) ∧ Below w.heap.size w w' := by
  cases hz : T.sizedL (dl s)
  · have HF := Lib.hid (not_sized_filter hz)
    go_enter Tryd.func29, Tryd.ntmps29
    go_wp2_with (go_at_call 53; refine (sized_any _ _).mono ?_; rintro e w' ⟨rfl, hb⟩)
    go_ret
    exact ⟨retb HF.out.symm, hb⟩
  · have hle := sized_le hz
    have hlv := countB_lv s
    have hcb : (lvB s).length ≤ 65 := by
      have := Lib.countB_le ⟨#[47]⟩ (by decide) s.size s (Nat.le_refl _)
      omega
    clear hlv
    go_enter Tryd.func29, Tryd.ntmps29
    go_wp2_with first
      | (go_at_call 53; refine (sized_any _ _).mono ?_; rintro e w1 ⟨rfl, hb1⟩)
      | (go_at_call 32; refine (rLevels_any _ _ (by omega)).mono ?_; rintro e w2 ⟨A, c, rfl, hc, hsl, hb2⟩)
    have HZ := Lib.hid hz
    clear hz
    have HB := Lib.hid (Below.step hb1 hb2)
    have HS := Lib.hid hsl
    clear hb1 hb2 hsl
    go_loop [4] (fun v => ∃ i : Nat, i ≤ (lvB s).length ∧ v = .int .i64 i ∧ OkUpto (T.lv (dl s)) i) (fun v => (lvB s).length - (intOf v).toNat)
    case atStart => exact ⟨0, by omega, rfl, fun _ h => absurd h (Nat.not_lt_zero _)⟩
    case round =>
      obtain ⟨i, hi, rfl, hno⟩ := hrel
      have HN := Lib.hid hno
      clear hno
      by_cases hlt : i < (lvB s).length
      · obtain ⟨b, o, rfl, hbB, hcl⟩ := HS.out (by omega)
        obtain ⟨x, hx⟩ : ∃ x, (lvB s)[i]? = some x := ⟨_, List.getElem?_eq_getElem hlt⟩
        have k1 := hcl i x hx
        have HO := Lib.hid (ok_spec HZ.out hx)
        have hx64 : x.size ≤ 9223372036854775807 := by
          have := lvB_size_le s x (List.mem_of_getElem? hx)
          omega
        have HI := Lib.hid hlt
        clear hcl hx HS
        by_cases e43 : x = bs [43]
        · subst e43
          have q1 : (bs [43]).toList = [43] := by rw [Lib.toList_data]; exact dl_bs _
          have q2 : hasB (dl (bs [43])) 43 = true := by rw [dl_bs]; rfl
          have q3 : hasB (dl (bs [43])) 35 = false := by rw [dl_bs]; rfl
          have HK : Hid (T.okAt (T.lv (dl s)) i = true) := Lib.hid (by rw [HO.out, q2, q3]; simp)
          go_wp2_with first
            | (go_at_call 54; (with_reducible refine (has43_any _ _ (by omega)).mono ?_); rintro e w' ⟨rfl, rfl⟩)
            | (go_at_call 54; (with_reducible refine (has35_any _ _ (by omega)).mono ?_); rintro e w' ⟨rfl, rfl⟩)
          exact ⟨⟨i + 1, by omega, by go_num, HN.out.succ HK.out⟩, by simp [intOf]; omega⟩
        by_cases e35 : x = bs [35]
        · subst e35
          have q1 : (bs [35]).toList = [35] := by rw [Lib.toList_data]; exact dl_bs _
          have q2 : hasB (dl (bs [35])) 43 = false := by rw [dl_bs]; rfl
          have q3 : hasB (dl (bs [35])) 35 = true := by rw [dl_bs]; rfl
          have HK : Hid (T.okAt (T.lv (dl s)) i = decide (i + 1 = (lvB s).length)) := Lib.hid (by rw [HO.out, q2, q3]; simp)
          by_cases hla : i + 1 = (lvB s).length
          · have HK2 : Hid (T.okAt (T.lv (dl s)) i = true) := Lib.hid (by rw [HK.out]; simp [hla])
            have q4 : ((i : Int) != ((lvB s).length : Int) - 1) = false := by simp; omega
            clear hla
            go_wp2_with first
              | (go_at_call 54; (with_reducible refine (has43_any _ _ (by omega)).mono ?_); rintro e w' ⟨rfl, rfl⟩)
              | (go_at_call 54; (with_reducible refine (has35_any _ _ (by omega)).mono ?_); rintro e w' ⟨rfl, rfl⟩)
            exact ⟨⟨i + 1, by omega, by go_num, HN.out.succ HK2.out⟩, by simp [intOf]; omega⟩
          · have HK2 : Hid (T.okAt (T.lv (dl s)) i = false) := Lib.hid (by rw [HK.out]; simp [hla])
            have q4 : ((i : Int) != ((lvB s).length : Int) - 1) = true := by simp; omega
            clear hla
            go_wp2_with first
              | (go_at_call 54; (with_reducible refine (has43_any _ _ (by omega)).mono ?_); rintro e w' ⟨rfl, rfl⟩)
              | (go_at_call 54; (with_reducible refine (has35_any _ _ (by omega)).mono ?_); rintro e w' ⟨rfl, rfl⟩)
            go_ret
            exact ⟨retb (filter_bad HI.out HK2.out).symm, HB.out⟩
        · have n43 : ¬ x.toList = [43] := fun h => e43 (by rw [← bs_dl x]; unfold dl; rw [← Lib.toList_data, h])
          have n35 : ¬ x.toList = [35] := fun h => e35 (by rw [← bs_dl x]; unfold dl; rw [← Lib.toList_data, h])
          have HK : Hid (T.okAt (T.lv (dl s)) i = (!hasB (dl x) 43 && !hasB (dl x) 35)) := Lib.hid (by rw [HO.out]; simp [e43, e35])
          have m43 : (!x.toList == [43]) = true := by simp [n43]
          have m35 : (!x.toList == [35]) = true := by simp [n35]
          clear e43 e35
          cases h43 : hasB (dl x) 43
          · cases h35 : hasB (dl x) 35
            · go_wp2_with first
                | (go_at_call 54; (with_reducible refine (has43_any _ _ (by omega)).mono ?_); rintro e w' ⟨rfl, rfl⟩)
                | (go_at_call 54; (with_reducible refine (has35_any _ _ (by omega)).mono ?_); rintro e w' ⟨rfl, rfl⟩)
              exact ⟨⟨i + 1, by omega, by go_num, HN.out.succ (by rw [HK.out, h43, h35]; rfl)⟩, by simp [intOf]; omega⟩
            · go_wp2_with first
                | (go_at_call 54; (with_reducible refine (has43_any _ _ (by omega)).mono ?_); rintro e w' ⟨rfl, rfl⟩)
                | (go_at_call 54; (with_reducible refine (has35_any _ _ (by omega)).mono ?_); rintro e w' ⟨rfl, rfl⟩)
              go_ret
              exact ⟨retb (filter_bad HI.out (by rw [HK.out, h43, h35]; rfl)).symm, HB.out⟩
          · go_wp2_with (go_at_call 54; (with_reducible refine (has43_any _ _ (by omega)).mono ?_); rintro e w' ⟨rfl, rfl⟩)
            go_ret
            exact ⟨retb (filter_bad HI.out (by rw [HK.out, h43]; rfl)).symm, HB.out⟩
      · have HE := Lib.hid (show i = (lvB s).length by omega)
        go_wp2
        go_ret
        exact ⟨retb (filter_done HZ.out (by rw [← HE.out]; exact HN.out)).symm, HB.out⟩

/-! ### Valid, System, Begins of the specification -/
theorem valid_parts (s : ByteArray) : T.validL (dl s) = (T.sizedL (dl s) && !hasB (dl s) 43 && !hasB (dl s) 35) := by
  rw [T.validL_eq, T.wildFree_eq, Bool.and_assoc]; rfl

set_option maxHeartbeats 400000 in
theorem rValid_any (s : ByteArray) (w : World) (hs63 : s.size ≤ 9223372036854775807) :
    Calls Tryd.prog 47 #[.string s] w fun e w' => e = .returned (.bool (T.validL (dl s))) ∧ Below w.heap.size w w' := by
  have HV := Lib.hid (valid_parts s)
  cases hz : T.sizedL (dl s)
  · go_enter Tryd.func47, Tryd.ntmps47
    go_wp2_with (go_at_call 53; refine (sized_any _ _).mono ?_; rintro e w' ⟨rfl, hb⟩)
    go_ret
    exact ⟨retb (by rw [HV.out, hz]; rfl), hb⟩
  · cases h43 : hasB (dl s) 43
    · go_enter Tryd.func47, Tryd.ntmps47
      go_wp2_with first
        | (go_at_call 53; refine (sized_any _ _).mono ?_; rintro e w1 ⟨rfl, hb⟩)
        | (go_at_call 54; (with_reducible refine (has43_any _ _ (by omega)).mono ?_); rintro e w' ⟨rfl, rfl⟩)
        | (go_at_call 54; (with_reducible refine (has35_any _ _ (by omega)).mono ?_); rintro e w' ⟨rfl, rfl⟩)
      go_ret
      exact ⟨retb (by rw [HV.out, hz, h43]; rfl), hb⟩
    · go_enter Tryd.func47, Tryd.ntmps47
      go_wp2_with first
        | (go_at_call 53; refine (sized_any _ _).mono ?_; rintro e w1 ⟨rfl, hb⟩)
        | (go_at_call 54; (with_reducible refine (has43_any _ _ (by omega)).mono ?_); rintro e w' ⟨rfl, rfl⟩)
      go_ret
      exact ⟨retb (by rw [HV.out, hz, h43]; rfl), hb⟩

def sysL (l : List UInt8) : Bool := decide (l.head? = some 36)
theorem sys_cons {s : ByteArray} {x : UInt8} (h0 : 0 < s.size) (hx : s[0]'h0 = x) : sysL (dl s) = ((x.toNat : Int) == 36) := by
  have h := Lib.data_getElem? s 0 h0
  unfold sysL dl
  rw [List.head?_eq_getElem?, h, hx, Bool.eq_iff_iff]
  simp only [Option.some.injEq, decide_eq_true_eq, beq_iff_eq]
  constructor
  · intro e; rw [e]; rfl
  · intro e; exact UInt8.toNat_inj.1 (by show x.toNat = 36; omega)
theorem sys_nil {s : ByteArray} (h0 : ¬ 0 < s.size) : sysL (dl s) = false := by
  have hl := size_dl s
  have : dl s = [] := List.length_eq_zero_iff.1 (by omega)
  rw [this]; rfl

set_option maxHeartbeats 400000 in
theorem rSystem_any (s : ByteArray) (w : World) :
    Calls Tryd.prog 49 #[.string s] w fun e w' => e = .returned (.bool (sysL (dl s))) ∧ w = w' := by
  by_cases h0 : 0 < s.size
  · obtain ⟨x, hx⟩ : ∃ x : UInt8, s[0]'h0 = x := ⟨_, rfl⟩
    have HS := Lib.hid (sys_cons h0 hx)
    go_enter Tryd.func49, Tryd.ntmps49
    go_wp2
    go_ret
    exact ⟨retb HS.out.symm, rfl⟩
  · have HS := Lib.hid (sys_nil h0)
    have d1 : decide ((0 : Int) < (s.size : Int)) = false := decide_eq_false (by omega)
    go_enter Tryd.func49, Tryd.ntmps49
    go_wp2
    go_ret
    exact ⟨retb HS.out.symm, rfl⟩

end Go.Proofs.YtoakhkiiefiebaaDoor.S1
