/-
  What Filter, Valid and System of the program answer. Conditions: MaxLen holds a number.
-/
import Derived.Test.YtjhojpghllnoiaaDoorAny
namespace Go.Proofs.YtjhojpghllnoiaaDoor.S1
open Go.RowKit
open Go.Lib (run_next_any_at run_next_ascii_at run_next_end_at iterAt_heap below_iterAt)

theorem indexAny_anyW (l : List UInt8) : decide (0 ≤ Lib.indexAny l [43, 35]) = anyW l := by
  induction l with
  | nil => rfl
  | cons b l ih =>
    have hge := Lib.indexAny_ge [43, 35] l
    unfold Lib.indexAny
    have hc : ([43, 35] : List UInt8).contains b = !notW b := by
      unfold notW
      rw [Bool.eq_iff_iff]
      simp only [List.contains_eq_mem, List.mem_cons, List.not_mem_nil, or_false, decide_eq_true_eq, Bool.not_eq_true', Bool.and_eq_false_iff, decide_eq_false_iff_not, ne_eq, Decidable.not_not]
    have ha : anyW (b :: l) = (!notW b || anyW l) := by
      unfold anyW
      rw [wildFree_all, wildFree_all, List.all_cons]
      cases notW b <;> rfl
    rw [hc, ha, ← ih]
    cases notW b
    · simp
    · simp only [Bool.not_true, Bool.false_eq_true, if_false, Bool.false_or]
      split
      · next h =>
        have := eq_of_beq h
        rw [this]
      · next h =>
        have h' : Lib.indexAny l [43, 35] ≠ -1 := fun e => h (by rw [e]; rfl)
        rw [Bool.eq_iff_iff]
        simp only [decide_eq_true_eq]
        omega

set_option maxHeartbeats 1000000 in
theorem containsAny_any (s : ByteArray) (w : World) (hs : s.size < 4294967281) :
    Calls Tryd.prog 66 #[.string s, .string ⟨#[43, 35]⟩] w fun e w' => e = .returned (.bool (anyW (dl s))) ∧ Below w.heap.size w w' := by
  have c : Calls Tryd.prog 76 #[.string s, .string ⟨#[43, 35]⟩] w (AnyPost s w) := by
    by_cases h8 : s.size ≤ 8
    · exact idxAny_short s w h8
    · have hv := fun w => (zero_of_info (P := Tryd.prog) (t := 98) (v := .agg (Array.replicate 256 (.bool false))) (n := 256) (by kernel_rfl)).1 w
      refine (Tryd.strings_IndexAny_long hv s ⟨#[43, 35]⟩ w (by decide) (by omega) hs (by decide) ?_).mono fun e w' ⟨he, hw⟩ => ?_
      · intro j b hb
        match j, hb with
        | 0, hb => have : b = 43 := by simpa using hb.symm
                   subst this; decide
        | 1, hb => have : b = 35 := by simpa using hb.symm
                   subst this; decide
        | j + 2, hb => simp at hb
      · refine ⟨_, he, ?_, ?_⟩
        · exact indexAny_anyW (dl s)
        · rw [hw]
          exact ((Below.refl _ _).alloc (Nat.le_refl _) _).alloc (by simp) _
  have HC := Lib.hid c
  clear c
  go_enter Tryd.func66, Tryd.ntmps66
  go_wp2_with fail
  refine HC.out.mono ?_
  rintro e w' ⟨n, rfl, hn, hb⟩
  have HN := Lib.hid hn
  clear hn
  go_wp2_with fail
  go_ret
  exact ⟨retb HN.out, hb⟩

/-! ### Filter of the program -/
def okc (c : UInt8) : Bool := decide (c ≠ 0) && decide (c ≠ 43) && decide (c ≠ 35)
theorem okc_high (c : UInt8) (h : 128 ≤ c.toNat) : okc c = true := by
  unfold okc
  simp only [Bool.and_eq_true, decide_eq_true_eq]
  refine ⟨⟨fun e => ?_, fun e => ?_⟩, fun e => ?_⟩ <;> (rw [e] at h; exact absurd h (by decide))
theorem clean_all (l : List UInt8) : T.clean l = l.all okc := rfl
theorem okAt_lok {s x : ByteArray} {i : Nat} (hx : (lvB s)[i]? = some x) : T.okAt (T.lv (dl s)) i = T.lok (decide (i + 1 = (lvB s).length)) (dl x) := by
  unfold T.okAt
  rw [lvB_getD s i x hx, lvB_length]
theorem lok_clean {b : Bool} {x : ByteArray} (h : Free (dl x) okc x.size) : T.lok b (dl x) = true := by
  unfold T.lok
  rw [clean_all, Free.all (by rw [← size_dl]; exact h)]; simp
theorem lok_bad {b : Bool} {x : ByteArray} {i : Nat} {c : UInt8} (hi : i < x.size) (hc : (dl x).getD i 0 = c) (hk : okc c = false) (h43 : ¬ dl x = [43]) (h35 : ¬ (dl x = [35] ∧ b = true)) : T.lok b (dl x) = false := by
  unfold T.lok
  rw [clean_all, free_bad (by rw [← size_dl]; exact hi) (by rw [hc]; exact hk), decide_eq_false h43]
  by_cases h : dl x = [35]
  · have : b = false := by
      cases hb : b with
      | false => rfl
      | true => exact absurd ⟨h, hb⟩ h35
    rw [this]; simp
  · rw [decide_eq_false h]; simp

theorem single_at {x : ByteArray} {d : UInt8} (h : dl x = [d]) {i : Nat} (hi : i < x.size) : (dl x).getD i 0 = d := by
  have hl := size_dl x
  rw [h] at hl ⊢
  have : i = 0 := by simp at hl; omega
  subst this; rfl

set_option maxHeartbeats 4000000 in
set_option maxRecDepth 1000000 in
theorem tFilter_any (s : ByteArray) (w : World) (hw : Okw w) :
    Calls Tryd.prog 65 #[.string s] w fun e w' => e = .returned (.bool (T.filterL (dl s))) ∧ Below w.heap.size w w' := by
  have hl := size_dl s
  by_cases h0 : s.size = 0
  · have hemp : s.toList.isEmpty = true := by
      rw [Lib.toList_data]
      have : s.data.toList = [] := List.length_eq_zero_iff.1 (by rw [← Lib.size_eq]; exact h0)
      rw [this]; rfl
    have HF := Lib.hid (T.filterL_size (l := dl s) (.inl (by omega)))
    clear hl h0
    go_enter Tryd.func65, Tryd.ntmps65
    go_wp2
    go_step3
    go_wp2
    rw [Exit.noGoto_ret]
    go_ret
    exact ⟨retb HF.out.symm, Below.refl _ _⟩
  have hemp : s.toList.isEmpty = false := by
    rw [Lib.toList_data]
    cases h' : s.data.toList with
    | nil => have := Lib.size_eq s; rw [h', List.length_nil] at this; omega
    | cons _ _ => rfl
  by_cases h64 : 64 < s.size
  · have HF := Lib.hid (T.filterL_size (l := dl s) (.inr (by omega)))
    have d1 : decide ((64 : Int) < (s.size : Int)) = true := decide_eq_true (by omega)
    clear hl h0
    go_enter Tryd.func65, Tryd.ntmps65
    go_wp2
    go_step3
    go_wp2
    rw [Exit.noGoto_ret]
    go_ret
    exact ⟨retb HF.out.symm, Below.refl _ _⟩
  have d1 : decide ((64 : Int) < (s.size : Int)) = false := decide_eq_false (by omega)
  by_cases h8 : 8 < (lvB s).length
  · have HF := Lib.hid (T.filterL_many (l := dl s) (by rw [← lvB_length]; exact h8))
    have d2 : decide ((8 : Int) < ((lvB s).length : Int)) = true := decide_eq_true (by omega)
    clear hl h0
    go_enter Tryd.func65, Tryd.ntmps65
    go_wp2
    go_step3
    go_wp2_with (go_at_call 75; refine (tLevels_any s _ hw (by omega)).mono ?_; rintro e w1 ⟨A, c, rfl, hc, hsl, hb⟩)
    rw [Exit.noGoto_ret]
    go_ret
    exact ⟨retb HF.out.symm, hb⟩
  have d2 : decide ((8 : Int) < ((lvB s).length : Int)) = false := decide_eq_false (by omega)
  have HD : Hid ((∀ i, i < (lvB s).length → T.okAt (T.lv (dl s)) i = true) → T.filterL (dl s) = true) := Lib.hid (fun h => T.filterL_true (by omega) (by omega) (by rw [← lvB_length]; omega) (fun i hi => h i (by rw [lvB_length]; exact hi)))
  clear hl h0
  go_enter Tryd.func65, Tryd.ntmps65
  go_wp2
  go_step3
  go_wp2_with (go_at_call 75; refine (tLevels_any s _ hw (by omega)).mono ?_; rintro e w1 ⟨A, c, rfl, hc, hsl, hb⟩)
  have HB := Lib.hid hb
  have HS := Lib.hid hsl
  clear hb hsl hw
  go_step3
  go_wp2
  go_loopg [26] (lvB s).length (fun g v wr => ∃ k : Nat, k + g = (lvB s).length ∧ v = .int .i64 k ∧ OkUpto (T.lv (dl s)) k ∧ Below w.heap.size w wr ∧ SL wr wr.heap.size A (lvB s))
  case atStart => exact ⟨0, by omega, rfl, fun _ h => absurd h (Nat.not_lt_zero _), HB.out, HS.out⟩
  case round =>
    obtain ⟨k, hkg, rfl, hno, hb, hsl⟩ := hrel
    have HN := Lib.hid hno
    have HBr := Lib.hid hb
    have HSr := Lib.hid hsl
    clear hno hb HB HS
    cases gk with
    | zero =>
      obtain rfl : k = (lvB s).length := by omega
      clear hkg hsl
      go_wp2
      try rw [Exit.noGoto_ret]
      go_ret
      exact ⟨retb (HD.out (fun i hi => HN.out i hi)).symm, HBr.out⟩
    | succ g =>
      have hlt : k < (lvB s).length := by omega
      have HG := Lib.hid hkg
      obtain ⟨b, o, rfl, hbB, hcl⟩ := hsl (by omega)
      obtain ⟨x, hx⟩ : ∃ x, (lvB s)[k]? = some x := ⟨_, List.getElem?_eq_getElem hlt⟩
      have k1 := hcl k x hx
      have HO := Lib.hid (okAt_lok hx)
      clear hcl hx hkg hsl
      obtain ⟨wo, rfl⟩ : ∃ wo : World, wo = wr := ⟨_, rfl⟩
      have HI := Lib.hid hlt
      go_wp2
      go_loopg [8] x.size (fun g2 _ wr => ∃ j : Nat, x.size ≤ j + g2 ∧ j ≤ x.size ∧ wr.heap[wo.heap.size]? = some (.stringIter x j) ∧ Free (dl x) okc j ∧ Below wo.heap.size wo wr)
      case atStart => exact ⟨0, by omega, by omega, World.iter_heap _ _ _, Free.zero _ _, (Below.refl _ _).alloc (Nat.le_refl _) _⟩
      case round =>
        obtain ⟨j, hjg, hjx, hk, hfree, hbi⟩ := hrel
        have HF := Lib.hid hfree
        have HBI := Lib.hid hbi
        clear hfree hbi
        by_cases hj : j < x.size
        · obtain ⟨y, hy⟩ : ∃ y : UInt8, x[j]'hj = y := ⟨_, rfl⟩
          have HY := Lib.hid (show (dl x).getD j 0 = y by rw [getD_dl x j hj, hy])
          by_cases ha : y.toNat < 128
          · have hnx := fun ty => run_next_ascii_at (P := Tryd.prog) wr wo.heap.size x j ty hk hj (by rw [hy]; exact ha)
            rw [hy] at hnx
            have HW1 := Lib.hid (iterAt_heap wr wo.heap.size x j (j + 1) hk)
            have HW2 := Lib.hid (below_iterAt HBI.out (Nat.le_refl _) x (j + 1))
            obtain ⟨wy, hwy⟩ : ∃ wy, wr.iterAt wo.heap.size x (j + 1) = wy := ⟨_, rfl⟩
            rw [hwy] at hnx HW1 HW2
            clear hwy hy hk
            by_cases h0 : y = 0
            · have q0 : ((y.toNat : Int) == 0) = true := by rw [h0]; rfl
              have HK : Hid (T.okAt (T.lv (dl s)) k = false) := Lib.hid (by
                rw [HO.out]
                exact lok_bad hj HY.out (by rw [h0]; rfl) (fun e => by rw [← HY.out, single_at e hj] at h0; exact absurd h0 (by decide)) (fun e => by rw [← HY.out, single_at e.1 hj] at h0; exact absurd h0 (by decide)))
              clear h0
              go_wp2
              try rw [Exit.noGoto_ret]
              go_ret
              exact ⟨retb (filter_bad HI.out HK.out).symm, Below.step HBr.out HW2.out⟩
            have q0 : ((y.toNat : Int) == 0) = false := beq_eq_false_iff_ne.2 (fun e => h0 (UInt8.toNat_inj.1 (by show y.toNat = 0; omega)))
            by_cases h43 : y = 43
            · have q43 : ((y.toNat : Int) == 43) = true := by rw [h43]; rfl
              by_cases e43 : dl x = [43]
              · have HK : Hid (T.okAt (T.lv (dl s)) k = true) := Lib.hid (by rw [HO.out, e43]; simp [T.lok])
                have y43 : x.toList = [43] := by rw [Lib.toList_data]; exact e43
                clear h0 h43 e43
                go_wp2
                go_roundg g
                case measure => omega
                case rel => exact ⟨k + 1, by have := HG.out; omega, by go_num, HN.out.succ HK.out, Below.step HBr.out HW2.out, HSr.out.step HW2.out⟩
              · have HK : Hid (T.okAt (T.lv (dl s)) k = false) := Lib.hid (by
                  rw [HO.out]
                  exact lok_bad hj HY.out (by rw [h43]; rfl) e43 (fun e => by rw [← HY.out, single_at e.1 hj] at h43; exact absurd h43 (by decide)))
                have n43 : ¬ x.toList = [43] := by rw [Lib.toList_data]; exact e43
                have m43 : (x.toList == [43]) = false := beq_eq_false_iff_ne.2 n43
                clear h0 h43 e43
                go_wp2
                try rw [Exit.noGoto_ret]
                go_ret
                exact ⟨retb (filter_bad HI.out HK.out).symm, Below.step HBr.out HW2.out⟩
            have q43 : ((y.toNat : Int) == 43) = false := beq_eq_false_iff_ne.2 (fun e => h43 (UInt8.toNat_inj.1 (by show y.toNat = 43; omega)))
            by_cases h35 : y = 35
            · have q35 : ((y.toNat : Int) == 35) = true := by rw [h35]; rfl
              by_cases e35 : dl x = [35]
              · have y35 : x.toList = [35] := by rw [Lib.toList_data]; exact e35
                by_cases hla : k + 1 = (lvB s).length
                · have HK : Hid (T.okAt (T.lv (dl s)) k = true) := Lib.hid (by rw [HO.out, e35]; simp [T.lok, hla])
                  have ql : ((k : Int) == ((lvB s).length : Int) - 1) = true := beq_iff_eq.2 (by omega)
                  clear h0 h43 h35 e35 hla
                  go_wp2
                  go_roundg g
                  case measure => omega
                  case rel => exact ⟨k + 1, by have := HG.out; omega, by go_num, HN.out.succ HK.out, Below.step HBr.out HW2.out, HSr.out.step HW2.out⟩
                · have HK : Hid (T.okAt (T.lv (dl s)) k = false) := Lib.hid (by
                    rw [HO.out]
                    exact lok_bad hj HY.out (by rw [h35]; rfl) (fun e => by rw [← HY.out, single_at e hj] at h35; exact absurd h35 (by decide)) (fun e => hla (of_decide_eq_true e.2)))
                  have ql : ((k : Int) == ((lvB s).length : Int) - 1) = false := beq_eq_false_iff_ne.2 (by omega)
                  clear h0 h43 h35 e35 hla
                  go_wp2
                  try rw [Exit.noGoto_ret]
                  go_ret
                  exact ⟨retb (filter_bad HI.out HK.out).symm, Below.step HBr.out HW2.out⟩
              · have HK : Hid (T.okAt (T.lv (dl s)) k = false) := Lib.hid (by
                  rw [HO.out]
                  exact lok_bad hj HY.out (by rw [h35]; rfl) (fun e => by rw [← HY.out, single_at e hj] at h35; exact absurd h35 (by decide)) (fun e => e35 e.1))
                have n35 : ¬ x.toList = [35] := by rw [Lib.toList_data]; exact e35
                have m35 : (x.toList == [35]) = false := beq_eq_false_iff_ne.2 n35
                clear h0 h43 h35 e35
                go_wp2
                try rw [Exit.noGoto_ret]
                go_ret
                exact ⟨retb (filter_bad HI.out HK.out).symm, Below.step HBr.out HW2.out⟩
            have q35 : ((y.toNat : Int) == 35) = false := beq_eq_false_iff_ne.2 (fun e => h35 (UInt8.toNat_inj.1 (by show y.toNat = 35; omega)))
            have HYK : Hid (okc y = true) := Lib.hid (by simp [okc, h0, h43, h35])
            clear h0 h43 h35
            go_wp2
            cases gk with
            | zero => omega
            | succ g2 =>
              go_roundg g2
              case measure => omega
              case rel => exact ⟨j + 1, by omega, by omega, HW1.out, HF.out.succ (by rw [HY.out]; exact HYK.out), HW2.out⟩
          · have ha' : 128 ≤ (x[j]'hj).toNat := by rw [hy]; omega
            have hh := (decode_high x j hj ha').1
            have hnx := fun ty => run_next_any_at (P := Tryd.prog) wr wo.heap.size x j ty hk hj
            obtain ⟨c', hc'⟩ : ∃ c : Nat, (Utf8.decode x j).1 = c := ⟨_, rfl⟩
            obtain ⟨d, hd⟩ : ∃ d : Nat, (Utf8.decode x j).2 = d := ⟨_, rfl⟩
            have hd1' : 1 ≤ d := by rw [← hd]; exact (decode_high x j hj ha').2
            have hfr := HF.out.rune hj ha' hd okc_high
            rw [hc'] at hnx hh
            rw [hd] at hnx
            have HW1 := Lib.hid (iterAt_heap wr wo.heap.size x j (j + d) hk)
            have HW2 := Lib.hid (below_iterAt HBI.out (Nat.le_refl _) x (j + d))
            obtain ⟨wy, hwy⟩ : ∃ wy, wr.iterAt wo.heap.size x (j + d) = wy := ⟨_, rfl⟩
            rw [hwy] at hnx HW1 HW2
            have hid := hfr.2
            have HFR := Lib.hid hfr.1
            have q0 : ((c' : Int) == 0) = false := beq_eq_false_iff_ne.2 (by omega)
            have q43 : ((c' : Int) == 43) = false := beq_eq_false_iff_ne.2 (by omega)
            have q35 : ((c' : Int) == 35) = false := beq_eq_false_iff_ne.2 (by omega)
            clear hwy hy hk ha' hc' hd hfr hh
            go_wp2
            cases gk with
            | zero => omega
            | succ g2 =>
              go_roundg g2
              case measure => omega
              case rel => exact ⟨j + d, by omega, by omega, HW1.out, HFR.out, HW2.out⟩
        · obtain rfl : j = x.size := by omega
          have hnx := fun ty => run_next_end_at (P := Tryd.prog) wr wo.heap.size x x.size ty hk (by omega)
          clear hjg hjx hk
          go_wp2
          go_roundg g
          case measure => omega
          case rel => exact ⟨k + 1, by have := HG.out; omega, by go_num, HN.out.succ (by rw [HO.out]; exact lok_clean HF.out), Below.step HBr.out HBI.out, HSr.out.step HBI.out⟩

end Go.Proofs.YtjhojpghllnoiaaDoor.S1
