/-
What Filter, Valid and System of the program answer. Conditions: MaxLen holds a number.
What Valid, Join and Shared of the program, and Begins, Join and Shared of the specification answer. Conditions: sizes that fit an int; MaxLen holds a number.
-/
import Derived.Test.YtdkegoaflabjoaaGreatDoorAny
import Derived.Test.YtdkegoaflabjoaaGreatDoorNames
set_option maxHeartbeats 4000000
set_option maxRecDepth 1000000
namespace Go.Proofs.YtdkegoaflabjoaaGreatDoor.S1
open Go.RowKit
open Go.Lib (run_next_any_at run_next_ascii_at run_next_end_at iterAt_heap below_iterAt)

theorem indexAny_anyW (l : List UInt8) : decide (0 ≤ Lib.indexAny l [43, 35]) = anyW l := by
 induction l with
 | nil => rfl
 | cons b l ih =>
   have hge := Lib.indexAny_ge [43, 35] l
   unfold Lib.indexAny
   have hc : ([43, 35] : List UInt8).contains b = !notW b := by
    unfold notW
    rw [Bool.eq_iff_iff]
    simp only [List.contains_eq_mem, List.mem_cons, List.not_mem_nil, or_false, decide_eq_true_eq, Bool.not_eq_true', Bool.and_eq_false_iff, decide_eq_false_iff_not, ne_eq, Decidable.not_not]
   have ha : anyW (b :: l) = (!notW b || anyW l) := by
    unfold anyW
    rw [wildFree_all, wildFree_all, List.all_cons]
    cases notW b <;> rfl
   rw [hc, ha, ← ih]
   cases notW b
   · simp
   · simp only [Bool.not_true, Bool.false_eq_true, if_false, Bool.false_or]
     split
     · next h =>
       have := eq_of_beq h
       rw [this]
     · next h =>
       have h' : Lib.indexAny l [43, 35] ≠ -1 := fun e => h (by rw [e]; rfl)
       rw [Bool.eq_iff_iff]
       simp only [decide_eq_true_eq]
       omega

theorem containsAny_any (s : ByteArray) (w : World) (hs : s.size < 4294967281) :
 Calls Tryz.prog 117 #[.string s, .string ⟨#[43, 35]⟩] w fun e w' => e = .returned (.bool (anyW (dl s))) ∧ Below w.heap.size w w' := by
 have c : Calls Tryz.prog 125 #[.string s, .string ⟨#[43, 35]⟩] w (AnyPost s w) := by
  by_cases h8 : s.size ≤ 8
  · exact idxAny_short s w h8
  · have hv := fun w => (zero_of_info (P := Tryz.prog) (t := 137) (v := .agg (Array.replicate 256 (.bool false))) (n := 256) (by kernel_rfl)).1 w
    refine (Tryz.strings_IndexAny_long hv s ⟨#[43, 35]⟩ w (by decide) (by omega) hs (by decide) ?_).mono fun e w' ⟨he, hw⟩ => ?_
    · intro j b hb
      match j, hb with
      | 0, hb => have : b = 43 := by simpa using hb.symm
                 subst this; decide
      | 1, hb => have : b = 35 := by simpa using hb.symm
                 subst this; decide
      | j + 2, hb => simp at hb
    · refine ⟨_, he, ?_, ?_⟩
      · exact indexAny_anyW (dl s)
      · rw [hw]
        exact ((Below.refl _ _).alloc (Nat.le_refl _) _).alloc (by simp) _
 have HC := Lib.hid c
 clear c
 go_enter Tryz.func117, Tryz.ntmps117
 go_wp2_with fail
 refine HC.out.mono ?_
 rintro e w' ⟨n, rfl, hn, hb⟩
 have HN := Lib.hid hn
 clear hn
 go_wp2_with fail
 go_ret
 exact ⟨retb HN.out, hb⟩

def okc (c : UInt8) : Bool := decide (c ≠ 0) && decide (c ≠ 43) && decide (c ≠ 35)
theorem okc_high (c : UInt8) (h : 128 ≤ c.toNat) : okc c = true := by
 unfold okc
 simp only [Bool.and_eq_true, decide_eq_true_eq]
 refine ⟨⟨fun e => ?_, fun e => ?_⟩, fun e => ?_⟩ <;> (rw [e] at h; exact absurd h (by decide))
theorem clean_all (l : List UInt8) : T.clean l = l.all okc := rfl
theorem okAt_lok {s x : ByteArray} {i : Nat} (hx : (lvB s)[i]? = some x) : T.okAt (T.lv (dl s)) i = T.lok (decide (i + 1 = (lvB s).length)) (dl x) := by
 unfold T.okAt
 rw [lvB_getD s i x hx, lvB_length]
theorem lok_clean {b : Bool} {x : ByteArray} (h : Free (dl x) okc x.size) : T.lok b (dl x) = true := by
 unfold T.lok
 rw [clean_all, Free.all (by rw [← size_dl]; exact h)]; simp
theorem lok_bad {b : Bool} {x : ByteArray} {i : Nat} {c : UInt8} (hi : i < x.size) (hc : (dl x).getD i 0 = c) (hk : okc c = false) (h43 : ¬ dl x = [43]) (h35 : ¬ (dl x = [35] ∧ b = true)) : T.lok b (dl x) = false := by
 unfold T.lok
 rw [clean_all, free_bad (by rw [← size_dl]; exact hi) (by rw [hc]; exact hk), decide_eq_false h43]
 by_cases h : dl x = [35]
 · have : b = false := by
    cases hb : b with
    | false => rfl
    | true => exact absurd ⟨h, hb⟩ h35
   rw [this]; simp
 · rw [decide_eq_false h]; simp

theorem single_at {x : ByteArray} {d : UInt8} (h : dl x = [d]) {i : Nat} (hi : i < x.size) : (dl x).getD i 0 = d := by
 have hl := size_dl x
 rw [h] at hl ⊢
 have : i = 0 := by simp at hl; omega
 subst this; rfl

theorem tFilter_any (s : ByteArray) (w : World) (hw : Okw w) :
 Calls Tryz.prog 105 #[.string s] w fun e w' => e = .returned (.bool (T.filterL (dl s))) ∧ Below w.heap.size w w' := by
 have hl := size_dl s
 by_cases h0 : s.size = 0
 · have hemp : s.toList.isEmpty = true := by
    rw [Lib.toList_data]
    have : s.data.toList = [] := List.length_eq_zero_iff.1 (by rw [← Lib.size_eq]; exact h0)
    rw [this]; rfl
   have HF := Lib.hid (T.filterL_size (l := dl s) (.inl (by omega)))
   clear hl h0
   go_enter Tryz.func105, Tryz.ntmps105
   go_wp2
   go_step3
   go_wp2
   rw [Exit.noGoto_ret]
   go_ret
   exact ⟨retb HF.out.symm, Below.refl _ _⟩
 have hemp : s.toList.isEmpty = false := by
  rw [Lib.toList_data]
  cases h' : s.data.toList with
  | nil => have := Lib.size_eq s; rw [h', List.length_nil] at this; omega
  | cons _ _ => rfl
 by_cases h64 : 64 < s.size
 · have HF := Lib.hid (T.filterL_size (l := dl s) (.inr (by omega)))
   have d1 : decide ((64 : Int) < (s.size : Int)) = true := decide_eq_true (by omega)
   clear hl h0
   go_enter Tryz.func105, Tryz.ntmps105
   go_wp2
   go_step3
   go_wp2
   rw [Exit.noGoto_ret]
   go_ret
   exact ⟨retb HF.out.symm, Below.refl _ _⟩
 have d1 : decide ((64 : Int) < (s.size : Int)) = false := decide_eq_false (by omega)
 by_cases h8 : 8 < (lvB s).length
 · have HF := Lib.hid (T.filterL_many (l := dl s) (by rw [← lvB_length]; exact h8))
   have d2 : decide ((8 : Int) < ((lvB s).length : Int)) = true := decide_eq_true (by omega)
   clear hl h0
   go_enter Tryz.func105, Tryz.ntmps105
   go_wp2
   go_step3
   go_wp2_with (go_at_call 121; refine (tLevels_any s _ hw (by omega)).mono ?_; rintro e w1 ⟨A, c, rfl, hc, hsl, hb⟩)
   rw [Exit.noGoto_ret]
   go_ret
   exact ⟨retb HF.out.symm, hb⟩
 have d2 : decide ((8 : Int) < ((lvB s).length : Int)) = false := decide_eq_false (by omega)
 have HD : Hid ((∀ i, i < (lvB s).length → T.okAt (T.lv (dl s)) i = true) → T.filterL (dl s) = true) := Lib.hid (fun h => T.filterL_true (by omega) (by omega) (by rw [← lvB_length]; omega) (fun i hi => h i (by rw [lvB_length]; exact hi)))
 clear hl h0
 go_enter Tryz.func105, Tryz.ntmps105
 go_wp2
 go_step3
 go_wp2_with (go_at_call 121; refine (tLevels_any s _ hw (by omega)).mono ?_; rintro e w1 ⟨A, c, rfl, hc, hsl, hb⟩)
 have HB := Lib.hid hb
 have HS := Lib.hid hsl
 clear hb hsl hw
 go_step3
 go_wp2
 go_loopg [26] (lvB s).length (fun g v wr => ∃ k : Nat, k + g = (lvB s).length ∧ v = .int .i64 k ∧ OkUpto (T.lv (dl s)) k ∧ Below w.heap.size w wr ∧ SL wr wr.heap.size A (lvB s))
 case atStart => exact ⟨0, by omega, rfl, fun _ h => absurd h (Nat.not_lt_zero _), HB.out, HS.out⟩
 case round =>
  obtain ⟨k, hkg, rfl, hno, hb, hsl⟩ := hrel
  have HN := Lib.hid hno
  have HBr := Lib.hid hb
  have HSr := Lib.hid hsl
  clear hno hb HB HS
  cases gk with
  | zero =>
    obtain rfl : k = (lvB s).length := by omega
    clear hkg hsl
    go_wp2
    try rw [Exit.noGoto_ret]
    go_ret
    exact ⟨retb (HD.out (fun i hi => HN.out i hi)).symm, HBr.out⟩
  | succ g =>
    have hlt : k < (lvB s).length := by omega
    have HG := Lib.hid hkg
    obtain ⟨b, o, rfl, hbB, hcl⟩ := hsl (by omega)
    obtain ⟨x, hx⟩ : ∃ x, (lvB s)[k]? = some x := ⟨_, List.getElem?_eq_getElem hlt⟩
    have k1 := hcl k x hx
    have HO := Lib.hid (okAt_lok hx)
    clear hcl hx hkg hsl
    obtain ⟨wo, rfl⟩ : ∃ wo : World, wo = wr := ⟨_, rfl⟩
    have HI := Lib.hid hlt
    go_wp2
    go_loopg [8] x.size (fun g2 _ wr => ∃ j : Nat, x.size ≤ j + g2 ∧ j ≤ x.size ∧ wr.heap[wo.heap.size]? = some (.stringIter x j) ∧ Free (dl x) okc j ∧ Below wo.heap.size wo wr)
    case atStart => exact ⟨0, by omega, by omega, World.iter_heap _ _ _, Free.zero _ _, (Below.refl _ _).alloc (Nat.le_refl _) _⟩
    case round =>
     obtain ⟨j, hjg, hjx, hk, hfree, hbi⟩ := hrel
     have HF := Lib.hid hfree
     have HBI := Lib.hid hbi
     clear hfree hbi
     by_cases hj : j < x.size
     · obtain ⟨y, hy⟩ : ∃ y : UInt8, x[j]'hj = y := ⟨_, rfl⟩
       have HY := Lib.hid (show (dl x).getD j 0 = y by rw [getD_dl x j hj, hy])
       by_cases ha : y.toNat < 128
       · have hnx := fun ty => run_next_ascii_at (P := Tryz.prog) wr wo.heap.size x j ty hk hj (by rw [hy]; exact ha)
         rw [hy] at hnx
         have HW1 := Lib.hid (iterAt_heap wr wo.heap.size x j (j + 1) hk)
         have HW2 := Lib.hid (below_iterAt HBI.out (Nat.le_refl _) x (j + 1))
         obtain ⟨wy, hwy⟩ : ∃ wy, wr.iterAt wo.heap.size x (j + 1) = wy := ⟨_, rfl⟩
         rw [hwy] at hnx HW1 HW2
         clear hwy hy hk
         by_cases h0 : y = 0
         · have q0 : ((y.toNat : Int) == 0) = true := by rw [h0]; rfl
           have HK : Hid (T.okAt (T.lv (dl s)) k = false) := Lib.hid (by
            rw [HO.out]
            exact lok_bad hj HY.out (by rw [h0]; rfl) (fun e => by rw [← HY.out, single_at e hj] at h0; exact absurd h0 (by decide)) (fun e => by rw [← HY.out, single_at e.1 hj] at h0; exact absurd h0 (by decide)))
           clear h0
           go_wp2
           try rw [Exit.noGoto_ret]
           go_ret
           exact ⟨retb (filter_bad HI.out HK.out).symm, Below.step HBr.out HW2.out⟩
         have q0 : ((y.toNat : Int) == 0) = false := beq_eq_false_iff_ne.2 (fun e => h0 (UInt8.toNat_inj.1 (by show y.toNat = 0; omega)))
         by_cases h43 : y = 43
         · have q43 : ((y.toNat : Int) == 43) = true := by rw [h43]; rfl
           by_cases e43 : dl x = [43]
           · have HK : Hid (T.okAt (T.lv (dl s)) k = true) := Lib.hid (by rw [HO.out, e43]; simp [T.lok])
             have y43 : x.toList = [43] := by rw [Lib.toList_data]; exact e43
             clear h0 h43 e43
             go_wp2
             go_roundg g
             case measure => omega
             case rel => exact ⟨k + 1, by have := HG.out; omega, by go_num, HN.out.succ HK.out, Below.step HBr.out HW2.out, HSr.out.step HW2.out⟩
           · have HK : Hid (T.okAt (T.lv (dl s)) k = false) := Lib.hid (by
              rw [HO.out]
              exact lok_bad hj HY.out (by rw [h43]; rfl) e43 (fun e => by rw [← HY.out, single_at e.1 hj] at h43; exact absurd h43 (by decide)))
             have n43 : ¬ x.toList = [43] := by rw [Lib.toList_data]; exact e43
             have m43 : (x.toList == [43]) = false := beq_eq_false_iff_ne.2 n43
             clear h0 h43 e43
             go_wp2
             try rw [Exit.noGoto_ret]
             go_ret
             exact ⟨retb (filter_bad HI.out HK.out).symm, Below.step HBr.out HW2.out⟩
         have q43 : ((y.toNat : Int) == 43) = false := beq_eq_false_iff_ne.2 (fun e => h43 (UInt8.toNat_inj.1 (by show y.toNat = 43; omega)))
         by_cases h35 : y = 35
         · have q35 : ((y.toNat : Int) == 35) = true := by rw [h35]; rfl
           by_cases e35 : dl x = [35]
           · have y35 : x.toList = [35] := by rw [Lib.toList_data]; exact e35
             by_cases hla : k + 1 = (lvB s).length
             · have HK : Hid (T.okAt (T.lv (dl s)) k = true) := Lib.hid (by rw [HO.out, e35]; simp [T.lok, hla])
               have ql : ((k : Int) == ((lvB s).length : Int) - 1) = true := beq_iff_eq.2 (by omega)
               clear h0 h43 h35 e35 hla
               go_wp2
               go_roundg g
               case measure => omega
               case rel => exact ⟨k + 1, by have := HG.out; omega, by go_num, HN.out.succ HK.out, Below.step HBr.out HW2.out, HSr.out.step HW2.out⟩
             · have HK : Hid (T.okAt (T.lv (dl s)) k = false) := Lib.hid (by
                rw [HO.out]
                exact lok_bad hj HY.out (by rw [h35]; rfl) (fun e => by rw [← HY.out, single_at e hj] at h35; exact absurd h35 (by decide)) (fun e => hla (of_decide_eq_true e.2)))
               have ql : ((k : Int) == ((lvB s).length : Int) - 1) = false := beq_eq_false_iff_ne.2 (by omega)
               clear h0 h43 h35 e35 hla
               go_wp2
               try rw [Exit.noGoto_ret]
               go_ret
               exact ⟨retb (filter_bad HI.out HK.out).symm, Below.step HBr.out HW2.out⟩
           · have HK : Hid (T.okAt (T.lv (dl s)) k = false) := Lib.hid (by
              rw [HO.out]
              exact lok_bad hj HY.out (by rw [h35]; rfl) (fun e => by rw [← HY.out, single_at e hj] at h35; exact absurd h35 (by decide)) (fun e => e35 e.1))
             have n35 : ¬ x.toList = [35] := by rw [Lib.toList_data]; exact e35
             have m35 : (x.toList == [35]) = false := beq_eq_false_iff_ne.2 n35
             clear h0 h43 h35 e35
             go_wp2
             try rw [Exit.noGoto_ret]
             go_ret
             exact ⟨retb (filter_bad HI.out HK.out).symm, Below.step HBr.out HW2.out⟩
         have q35 : ((y.toNat : Int) == 35) = false := beq_eq_false_iff_ne.2 (fun e => h35 (UInt8.toNat_inj.1 (by show y.toNat = 35; omega)))
         have HYK : Hid (okc y = true) := Lib.hid (by simp [okc, h0, h43, h35])
         clear h0 h43 h35
         go_wp2
         cases gk with
         | zero => omega
         | succ g2 =>
           go_roundg g2
           case measure => omega
           case rel => exact ⟨j + 1, by omega, by omega, HW1.out, HF.out.succ (by rw [HY.out]; exact HYK.out), HW2.out⟩
       · have ha' : 128 ≤ (x[j]'hj).toNat := by rw [hy]; omega
         have hh := (decode_high x j hj ha').1
         have hnx := fun ty => run_next_any_at (P := Tryz.prog) wr wo.heap.size x j ty hk hj
         obtain ⟨c', hc'⟩ : ∃ c : Nat, (Utf8.decode x j).1 = c := ⟨_, rfl⟩
         obtain ⟨d, hd⟩ : ∃ d : Nat, (Utf8.decode x j).2 = d := ⟨_, rfl⟩
         have hd1' : 1 ≤ d := by rw [← hd]; exact (decode_high x j hj ha').2
         have hfr := HF.out.rune hj ha' hd okc_high
         rw [hc'] at hnx hh
         rw [hd] at hnx
         have HW1 := Lib.hid (iterAt_heap wr wo.heap.size x j (j + d) hk)
         have HW2 := Lib.hid (below_iterAt HBI.out (Nat.le_refl _) x (j + d))
         obtain ⟨wy, hwy⟩ : ∃ wy, wr.iterAt wo.heap.size x (j + d) = wy := ⟨_, rfl⟩
         rw [hwy] at hnx HW1 HW2
         have hid := hfr.2
         have HFR := Lib.hid hfr.1
         have q0 : ((c' : Int) == 0) = false := beq_eq_false_iff_ne.2 (by omega)
         have q43 : ((c' : Int) == 43) = false := beq_eq_false_iff_ne.2 (by omega)
         have q35 : ((c' : Int) == 35) = false := beq_eq_false_iff_ne.2 (by omega)
         clear hwy hy hk ha' hc' hd hfr hh
         go_wp2
         cases gk with
         | zero => omega
         | succ g2 =>
           go_roundg g2
           case measure => omega
           case rel => exact ⟨j + d, by omega, by omega, HW1.out, HFR.out, HW2.out⟩
     · obtain rfl : j = x.size := by omega
       have hnx := fun ty => run_next_end_at (P := Tryz.prog) wr wo.heap.size x x.size ty hk (by omega)
       clear hjg hjx hk
       go_wp2
       go_roundg g
       case measure => omega
       case rel => exact ⟨k + 1, by have := HG.out; omega, by go_num, HN.out.succ (by rw [HO.out]; exact lok_clean HF.out), Below.step HBr.out HBI.out, HSr.out.step HBI.out⟩

end Go.Proofs.YtdkegoaflabjoaaGreatDoor.S1
namespace Go.Proofs.YtdkegoaflabjoaaGreatDoor.S1
open Go.RowKit

theorem tName_dl (s : ByteArray) (w : World) :
 Calls Tryz.prog 75 #[.string s] w fun e w' => e = .returned (.bool (T.nameL (dl s))) ∧ Below w.heap.size w w' := tName_any s w
theorem rName_dl (s : ByteArray) (w : World) (hs63 : s.size ≤ 9223372036854775807) :
 Calls Tryz.prog 65 #[.string s] w fun e w' => e = .returned (.bool (T.nameL (dl s))) ∧ w = w' := rName_any s w hs63

theorem filter_le {s : ByteArray} (h : T.filterL (dl s) = true) : s.size ≤ 64 := by
 have := (T.filterL_parts h).2.1
 rw [size_dl]; exact this

theorem tValid_any (s : ByteArray) (w : World) (hw : Okw w) :
 Calls Tryz.prog 101 #[.string s] w fun e w' => e = .returned (.bool (T.validL (dl s))) ∧ Below w.heap.size w w' := by
 cases hf : T.filterL (dl s)
 · have HV : Hid (T.validL (dl s) = false) := Lib.hid (by unfold T.validL; rw [hf]; rfl)
   go_enter Tryz.func101, Tryz.ntmps101
   go_wp2_with (go_at_call 105; refine (tFilter_any s _ hw).mono ?_; rintro e w1 ⟨rfl, hb⟩)
   go_ret
   exact ⟨retb HV.out.symm, hb⟩
 · have hle := filter_le hf
   have HV : Hid (T.validL (dl s) = !anyW (dl s)) := Lib.hid (by unfold T.validL anyW; rw [hf]; simp)
   go_enter Tryz.func101, Tryz.ntmps101
   go_wp2_with first
    | (go_at_call 105; refine (tFilter_any s _ hw).mono ?_; rintro e w1 ⟨rfl, hb⟩)
    | (go_at_call 117; refine (containsAny_any s _ (by omega)).mono ?_; rintro e w2 ⟨rfl, hb2⟩)
   go_ret
   exact ⟨retb HV.out.symm, Below.step hb hb2⟩

theorem below_draw (w : World) (n : Nat) : Below w.heap.size w (w.drewN n) := ⟨rfl, rfl, rfl, Nat.le_refl _, fun _ _ => rfl⟩

theorem prefix_take {s h : ByteArray} (_hle : h.size ≤ s.size) : ((s.extract 0 h.size).toList == h.toList) = Lib.hasPrefix (dl s) (dl h) := by
 have e : (s.extract 0 h.size).toList = (dl s).take (dl h).length := by
  rw [Lib.toList_data, Lib.extract_data]
  simp [dl]
 rw [e, Lib.toList_data, Bool.eq_iff_iff]
 unfold Lib.hasPrefix
 rw [List.isPrefixOf_iff_prefix, List.prefix_iff_eq_take, beq_iff_eq]
 exact eq_comm
theorem prefix_long {s h : ByteArray} (hle : ¬ h.size ≤ s.size) : Lib.hasPrefix (dl s) (dl h) = false := by
 unfold Lib.hasPrefix
 rw [Bool.eq_false_iff, ne_eq, List.isPrefixOf_iff_prefix]
 intro hp
 have := hp.length_le
 rw [← size_dl, ← size_dl] at this
 exact hle this

theorem rBegins_any (s h : ByteArray) (w : World) :
 Calls Tryz.prog 99 #[.string s, .string h] w fun e w' => e = .returned (.bool (Lib.hasPrefix (dl s) (dl h))) ∧ w = w' := by
 by_cases hle : h.size ≤ s.size
 · have d : decide ((h.size : Int) ≤ (s.size : Int)) = true := decide_eq_true (by omega)
   have HP := Lib.hid (prefix_take hle)
   go_enter Tryz.func99, Tryz.ntmps99
   go_wp2
   go_ret
   exact ⟨retb HP.out, rfl⟩
 · have d : decide ((h.size : Int) ≤ (s.size : Int)) = false := decide_eq_false (by omega)
   have HP := Lib.hid (prefix_long hle)
   go_enter Tryz.func99, Tryz.ntmps99
   go_wp2
   go_ret
   exact ⟨retb HP.out.symm, rfl⟩

def bef (l : List UInt8) : List UInt8 := l.takeWhile fun c => decide (c ≠ 47)
def aft (l : List UInt8) : List UInt8 := l.drop ((bef l).length + 1)
theorem idx_bef (l : List UInt8) : (Lib.indexByte l 47 = -1 ∧ bef l = l ∧ hasB l 47 = false) ∨
 (∃ i : Nat, Lib.indexByte l 47 = i ∧ i < l.length ∧ bef l = l.take i ∧ (bef l).length = i ∧ hasB l 47 = true) := by
 induction l with
 | nil => exact .inl ⟨rfl, rfl, rfl⟩
 | cons b l ih =>
   by_cases hb : b = 47
   · subst hb
     exact .inr ⟨0, rfl, by simp, by simp [bef], by simp [bef], by simp [hasB]⟩
   · have hbb : (b == 47) = false := beq_eq_false_iff_ne.2 hb
     have e1 : bef (b :: l) = b :: bef l := by simp [bef, hb]
     have e2 : hasB (b :: l) 47 = hasB l 47 := by
      unfold hasB
      rw [List.contains_cons, show ((47 : UInt8) == b) = false from beq_eq_false_iff_ne.2 (Ne.symm hb)]; rfl
     rcases ih with ⟨h1, h2, h3⟩ | ⟨i, h1, h2, h3, h4, h5⟩
     · left
       refine ⟨?_, by rw [e1, h2], by rw [e2, h3]⟩
       rw [Lib.indexByte, hbb, h1]; rfl
     · right
       refine ⟨i + 1, ?_, by simp; omega, by rw [e1, h3]; rfl, by rw [e1]; simp [h4], by rw [e2, h5]⟩
       rw [Lib.indexByte, hbb, h1]
       have : ((i : Int) == -1) = false := beq_eq_false_iff_ne.2 (by omega)
       rw [this]
       simp
theorem ext_take (s : ByteArray) (i : Nat) : s.extract 0 i = bs ((dl s).take i) := by
 apply dl_inj
 rw [dl_bs]
 unfold dl
 rw [Lib.extract_data]; simp
theorem ext_drop (s : ByteArray) (i : Nat) : s.extract i s.size = bs ((dl s).drop i) := by
 apply dl_inj
 rw [dl_bs]
 unfold dl
 rw [Lib.extract_to_end]

theorem cut_any (s : ByteArray) (w : World) (hs63 : s.size ≤ 140737488355328) :
 Calls Tryz.prog 120 #[.string s, .string ⟨#[47]⟩] w fun e w' => e = .returned (.tuple #[.string (bs (bef (dl s))), .string (bs (aft (dl s))), .bool (hasB (dl s) 47)]) ∧ ∃ n, w.drewN n = w' := by
 have hl := size_dl s
 have c : Calls Tryz.prog 128 #[.string s, .string ⟨#[47]⟩] w fun e w' => e = .returned (.tuple #[.string (bs (bef (dl s))), .string (bs (aft (dl s))), .bool (hasB (dl s) 47)]) ∧ ∃ n, w.drewN n = w' := by
  rcases idx_bef (dl s) with ⟨h1, h2, h3⟩ | ⟨i, h1, h2, h3, h4, h5⟩
  · have e1 : bs (bef (dl s)) = s := by rw [h2, bs_dl]
    have e2 : bs (aft (dl s)) = ⟨#[]⟩ := by unfold aft; rw [h2, List.drop_eq_nil_of_le (by omega)]; rfl
    rw [e1, e2, h3]
    have H1 := Lib.hid (show Lib.indexByte s.data.toList 47 = -1 from h1)
    clear h1 h2 h3 e1 e2
    go_enter Tryz.func128, Tryz.ntmps128
    go_wp2_with fail
    refine (Tryz.stringslite_Index_one s 47 _).mono ?_
    rintro e w' ⟨rfl, rfl⟩
    rw [H1.out]
    go_wp2_with fail
    go_ret3
    exact ⟨rfl, 0, rfl⟩
  · have e1 : bs (bef (dl s)) = s.extract 0 i := by rw [h3, ext_take]
    have e2 : bs (aft (dl s)) = s.extract (i + 1) s.size := by unfold aft; rw [h4, ext_drop]
    rw [e1, e2, h5]
    have H1 := Lib.hid (show Lib.indexByte s.data.toList 47 = i from h1)
    have hi : i < s.size := by omega
    clear h1 h2 h3 h4 h5 e1 e2 hl
    go_enter Tryz.func128, Tryz.ntmps128
    go_wp2_with fail
    refine (Tryz.stringslite_Index_one s 47 _).mono ?_
    rintro e w' ⟨rfl, rfl⟩
    rw [H1.out]
    go_wp2_with fail
    go_quiet (fail)
    go_wp2_with fail
    go_ret3
    exact ⟨rfl, _, rfl⟩
 have HC := Lib.hid c
 clear c hl
 go_enter Tryz.func120, Tryz.ntmps120
 go_wp2_with fail
 refine HC.out.mono ?_
 rintro e w' ⟨rfl, n, rfl⟩
 go_wp2_with fail
 go_ret3
 exact ⟨rfl, n, rfl⟩

def shp : List UInt8 := [36, 115, 104, 97, 114, 101, 47]
def rst (l : List UInt8) : List UInt8 := l.drop 7
def shOk (l : List UInt8) : Bool := Lib.hasPrefix l shp && T.nameL (bef (rst l)) && T.filterL (aft (rst l)) && !Lib.hasPrefix (aft (rst l)) shp
def shG (l : List UInt8) : List UInt8 := if shOk l then bef (rst l) else []
def shF (l : List UInt8) : List UInt8 := if shOk l then aft (rst l) else []
def shRet (l : List UInt8) : Ending := .returned (.tuple #[.string (bs (shG l)), .string (bs (shF l)), .bool (shOk l)])
theorem shRet_no {l : List UInt8} (h : shOk l = false) : shRet l = .returned (.tuple #[.string ⟨#[]⟩, .string ⟨#[]⟩, .bool false]) := by
 unfold shRet shG shF
 rw [h]; rfl
theorem shRet_yes {l : List UInt8} (h : shOk l = true) : shRet l = .returned (.tuple #[.string (bs (bef (rst l))), .string (bs (aft (rst l))), .bool true]) := by
 unfold shRet shG shF
 rw [h]; rfl

theorem tShared_any (s : ByteArray) (w : World) (hw : Okw w) (hs63 : s.size ≤ 140737488355328) :
 Calls Tryz.prog 104 #[.string s] w fun e w' => e = shRet (dl s) ∧ Below w.heap.size w w' := by
 have c1 := Tryz.strings_CutPrefix s ⟨#[36, 115, 104, 97, 114, 101, 47]⟩ w
 have hc1 : Lib.hasPrefix s.data.toList (⟨#[36, 115, 104, 97, 114, 101, 47]⟩ : ByteArray).data.toList = Lib.hasPrefix (dl s) shp := rfl
 rw [hc1] at c1
 cases hp : Lib.hasPrefix (dl s) shp
 · rw [hp] at c1
   have HC := Lib.hid c1
   have HR := Lib.hid (shRet_no (l := dl s) (by unfold shOk; rw [hp]; rfl))
   clear c1 hc1 hp
   rw [HR.out]
   clear HR
   go_enter Tryz.func104, Tryz.ntmps104
   go_wp2_with fail
   refine HC.out.mono ?_
   rintro e w' ⟨rfl, rfl⟩
   go_wp2_with fail
   go_ret3
   exact ⟨rfl, Below.refl _ _⟩
 · rw [hp] at c1
   have ht : (⟨(Lib.trimPrefix s.data.toList (⟨#[36, 115, 104, 97, 114, 101, 47]⟩ : ByteArray).data.toList).toArray⟩ : ByteArray) = bs (rst (dl s)) := by
    unfold Lib.trimPrefix
    rw [hc1, hp]; rfl
   rw [ht] at c1
   have HC := Lib.hid c1
   have hrs : (bs (rst (dl s))).size ≤ 140737488355328 := by
    rw [size_dl, dl_bs]
    have := size_dl s
    unfold rst
    rw [List.length_drop]; omega
   have c2 := fun w => cut_any (bs (rst (dl s))) w hrs
   rw [dl_bs] at c2
   have HC2 := Lib.hid c2
   have hn := fun w => tName_dl (bs (bef (rst (dl s)))) w
   have hf := fun w hw => tFilter_any (bs (aft (rst (dl s)))) w hw
   have hq := fun w => Tryz.strings_HasPrefix (bs (aft (rst (dl s)))) ⟨#[36, 115, 104, 97, 114, 101, 47]⟩ w
   have hq1 : Lib.hasPrefix (bs (aft (rst (dl s)))).data.toList (⟨#[36, 115, 104, 97, 114, 101, 47]⟩ : ByteArray).data.toList = Lib.hasPrefix (aft (rst (dl s))) shp := by
    show Lib.hasPrefix (dl (bs (aft (rst (dl s))))) shp = _
    rw [dl_bs]
   rw [hq1] at hq
   rw [dl_bs] at hn hf
   clear c1 c2 hc1 ht hq1
   have HO : Hid (shOk (dl s) = (T.nameL (bef (rst (dl s))) && T.filterL (aft (rst (dl s))) && !Lib.hasPrefix (aft (rst (dl s))) shp)) := Lib.hid (by unfold shOk; rw [hp]; rfl)
   have HRN := Lib.hid (shRet_no (l := dl s))
   have HRY := Lib.hid (shRet_yes (l := dl s))
   generalize shRet (dl s) = R at HRN HRY ⊢
   generalize shOk (dl s) = O at HO HRN HRY
   generalize bs (rst (dl s)) = r at HC HC2
   generalize hG : bs (bef (rst (dl s))) = G at HC2 hn HRY
   generalize hF : bs (aft (rst (dl s))) = F at HC2 hf hq HRY
   generalize hB : hasB (rst (dl s)) 47 = K at HC2
   clear hp hG hF hB hrs
   have HN := Lib.hid hn
   have HF := Lib.hid hf
   have HQ := Lib.hid hq
   clear hn hf hq
   have HW := Lib.hid hw
   clear hw hs63
   cases hn : T.nameL (bef (rst (dl s)))
   · rw [hn] at HN
     obtain rfl := HRN.out (by rw [HO.out, hn]; rfl)
     clear hn HRN HRY HO
     go_enter Tryz.func104, Tryz.ntmps104
     go_wp2_with first
      | (go_at_call 119; refine HC.out.mono ?_; rintro e w' ⟨rfl, rfl⟩)
      | (go_at_call 120; refine (HC2.out _).mono ?_; rintro e w1 ⟨rfl, n, rfl⟩)
      | (go_at_call 75; refine (HN.out _).mono ?_; rintro e w2 ⟨rfl, hb⟩)
     go_ret3
     exact ⟨rfl, Below.step (below_draw _ _) hb⟩
   · rw [hn] at HN
     cases hf : T.filterL (aft (rst (dl s)))
     · rw [hf] at HF
       obtain rfl := HRN.out (by rw [HO.out, hn, hf]; rfl)
       clear hn hf HRN HRY HO
       go_enter Tryz.func104, Tryz.ntmps104
       go_wp2_with first
        | (go_at_call 119; refine HC.out.mono ?_; rintro e w' ⟨rfl, rfl⟩)
        | (go_at_call 120; refine (HC2.out _).mono ?_; rintro e w1 ⟨rfl, n, rfl⟩)
        | (go_at_call 75; refine (HN.out _).mono ?_; rintro e w2 ⟨rfl, hb⟩)
        | (go_at_call 105; refine (HF.out _ (HW.out.step (Below.step (below_draw _ _) hb))).mono ?_; rintro e w3 ⟨rfl, hb3⟩)
       go_ret3
       exact ⟨rfl, Below.step (Below.step (below_draw _ _) hb) hb3⟩
     · rw [hf] at HF
       cases hq : Lib.hasPrefix (aft (rst (dl s))) shp
       · rw [hq] at HQ
         obtain rfl := HRY.out (by rw [HO.out, hn, hf, hq]; rfl)
         clear hn hf hq HRN HRY HO
         go_enter Tryz.func104, Tryz.ntmps104
         go_wp2_with first
          | (go_at_call 119; refine HC.out.mono ?_; rintro e w' ⟨rfl, rfl⟩)
          | (go_at_call 120; refine (HC2.out _).mono ?_; rintro e w1 ⟨rfl, n, rfl⟩)
          | (go_at_call 75; refine (HN.out _).mono ?_; rintro e w2 ⟨rfl, hb⟩)
          | (go_at_call 105; refine (HF.out _ (HW.out.step (Below.step (below_draw _ _) hb))).mono ?_; rintro e w3 ⟨rfl, hb3⟩)
          | (go_at_call 79; refine (HQ.out _).mono ?_; rintro e w4 ⟨rfl, rfl⟩)
         go_ret3
         exact ⟨rfl, Below.step (Below.step (below_draw _ _) hb) hb3⟩
       · rw [hq] at HQ
         obtain rfl := HRN.out (by rw [HO.out, hn, hf, hq]; rfl)
         clear hn hf hq HRN HRY HO
         go_enter Tryz.func104, Tryz.ntmps104
         go_wp2_with first
          | (go_at_call 119; refine HC.out.mono ?_; rintro e w' ⟨rfl, rfl⟩)
          | (go_at_call 120; refine (HC2.out _).mono ?_; rintro e w1 ⟨rfl, n, rfl⟩)
          | (go_at_call 75; refine (HN.out _).mono ?_; rintro e w2 ⟨rfl, hb⟩)
          | (go_at_call 105; refine (HF.out _ (HW.out.step (Below.step (below_draw _ _) hb))).mono ?_; rintro e w3 ⟨rfl, hb3⟩)
          | (go_at_call 79; refine (HQ.out _).mono ?_; rintro e w4 ⟨rfl, rfl⟩)
         go_ret3
         exact ⟨rfl, Below.step (Below.step (below_draw _ _) hb) hb3⟩

def not47 (c : UInt8) : Bool := decide (c ≠ 47)
theorem bef_at {r : ByteArray} {i : Nat} (hi : i < r.size) (hf : Free (dl r) not47 i) (hc : (dl r).getD i 0 = 47) : bef (dl r) = (dl r).take i := by
 rcases idx_bef (dl r) with ⟨_, _, h3⟩ | ⟨j, h1, h2, h3, h4, h5⟩
 · have := contains_at (c := 47) (l := dl r) (i := i) (by rw [← size_dl]; exact hi) hc
   rw [h3] at this; cases this
 · obtain ⟨g1, g2⟩ := Lib.indexByte_some h1
   have hl := size_dl r
   have hji : j = i := by
    rcases Nat.lt_trichotomy j i with h | h | h
    · have hj := hf j h
      have hjd : (dl r).getD j 0 = 47 := by rw [List.getD_eq_getElem?_getD, g1]; rfl
      rw [hjd] at hj; cases hj
    · exact h
    · have : (dl r)[i]? = some 47 := by
       have hh : i < (dl r).length := by omega
       rw [List.getD_eq_getElem?_getD, List.getElem?_eq_getElem hh] at hc
       rw [List.getElem?_eq_getElem hh]; exact congrArg some hc
      exact absurd this (g2 i h)
   rw [h3, hji]
theorem bef_none {r : ByteArray} (hf : Free (dl r) not47 r.size) : bef (dl r) = dl r ∧ aft (dl r) = [] := by
 rcases idx_bef (dl r) with ⟨_, h2, _⟩ | ⟨j, h1, h2, h3, h4, h5⟩
 · exact ⟨h2, by unfold aft; rw [h2]; exact List.drop_eq_nil_of_le (by omega)⟩
 · obtain ⟨g1, _⟩ := Lib.indexByte_some h1
   have hl := size_dl r
   have hj := hf j (by omega)
   have hjd : (dl r).getD j 0 = 47 := by rw [List.getD_eq_getElem?_getD, g1]; rfl
   rw [hjd] at hj; cases hj

theorem rShared_any (s : ByteArray) (w : World) (hs63 : s.size ≤ 140737488355328) :
 Calls Tryz.prog 97 #[.string s] w fun e w' => e = shRet (dl s) ∧ Below w.heap.size w w' := by
 have c1 := fun w => rBegins_any s ⟨#[36, 115, 104, 97, 114, 101, 47]⟩ w
 have hc1 : Lib.hasPrefix (dl s) (dl ⟨#[36, 115, 104, 97, 114, 101, 47]⟩) = Lib.hasPrefix (dl s) shp := rfl
 rw [hc1] at c1
 cases hp : Lib.hasPrefix (dl s) shp
 · rw [hp] at c1
   have HC := Lib.hid c1
   have HR := Lib.hid (shRet_no (l := dl s) (by unfold shOk; rw [hp]; rfl))
   clear c1 hc1 hp
   rw [HR.out]
   clear HR
   go_enter Tryz.func97, Tryz.ntmps97
   go_wp2_with (go_at_call 99; refine (HC.out _).mono ?_; rintro e w' ⟨rfl, rfl⟩)
   go_ret3
   exact ⟨rfl, Below.refl _ _⟩
 · rw [hp] at c1
   have HC := Lib.hid c1
   have h7 : 7 ≤ s.size := by
    rcases Nat.lt_or_ge s.size 7 with h | h
    · have := prefix_long (s := s) (h := ⟨#[36, 115, 104, 97, 114, 101, 47]⟩) (by show ¬ 7 ≤ s.size; omega)
      rw [hc1, hp] at this; cases this
    · exact h
   have he : s.extract 7 s.size = bs (rst (dl s)) := ext_drop s 7
   have hrs : (s.extract 7 s.size).size ≤ 140737488355328 := by
    rw [size_dl, he, dl_bs]
    have := size_dl s
    unfold rst
    rw [List.length_drop]; omega
   have hre : rst (dl s) = dl (s.extract 7 s.size) := by rw [he, dl_bs]
   have HO : Hid (shOk (dl s) = (T.nameL (bef (dl (s.extract 7 s.size))) && T.filterL (aft (dl (s.extract 7 s.size))) && !Lib.hasPrefix (aft (dl (s.extract 7 s.size))) shp)) := Lib.hid (by unfold shOk; rw [hp, hre]; rfl)
   have HRN := Lib.hid (shRet_no (l := dl s))
   have HRY := Lib.hid (shRet_yes (l := dl s))
   rw [hre] at HRY
   clear c1 hc1 hp he hre hs63
   go_enter Tryz.func97, Tryz.ntmps97
   go_wp2_with (go_at_call 99; refine (HC.out _).mono ?_; rintro e w' ⟨rfl, rfl⟩)
   generalize s.extract 7 s.size = r at *
   have HRS := Lib.hid hrs
   go_loop [6] (fun v => ∃ i : Nat, i ≤ r.size ∧ v = .int .i64 i ∧ Free (dl r) not47 i) (fun v => r.size - (intOf v).toNat)
   case atStart => exact ⟨0, by omega, rfl, Free.zero _ _⟩
   case round =>
    obtain ⟨i, hi, rfl, hno⟩ := hrel
    have HNO := Lib.hid hno
    clear hno
    by_cases hlt : i < r.size
    · obtain ⟨x, hx⟩ : ∃ x : UInt8, r[i]'hlt = x := ⟨_, rfl⟩
      have HX := Lib.hid (show (dl r).getD i 0 = x by rw [getD_dl r i hlt, hx])
      by_cases he : x = 47
      · have hq : ((x.toNat : Int) != 47) = false := by rw [he]; rfl
        have hbf := bef_at hlt HNO.out (HX.out.trans he)
        have q1 : ((i : Int) == (r.size : Int)) = false := beq_eq_false_iff_ne.2 (by omega)
        have e1 : r.extract 0 i = bs (bef (dl r)) := by rw [hbf, ext_take]
        have e2 : r.extract (i + 1) r.size = bs (aft (dl r)) := by
         unfold aft
         rw [hbf, List.length_take, Nat.min_eq_left (by rw [← size_dl]; omega), ext_drop]
        have z1 : (r.extract 0 i).size ≤ 9223372036854775807 := by rw [ByteArray.size_extract]; omega
        have hn := fun w => rName_dl (r.extract 0 i) w z1
        have hf := fun w => rFilter_any (r.extract (i + 1) r.size) w
        have hg := fun w => rBegins_any (r.extract (i + 1) r.size) ⟨#[36, 115, 104, 97, 114, 101, 47]⟩ w
        have hg1 : Lib.hasPrefix (dl (r.extract (i + 1) r.size)) (dl ⟨#[36, 115, 104, 97, 114, 101, 47]⟩) = Lib.hasPrefix (aft (dl r)) shp := by rw [e2, dl_bs]; rfl
        rw [hg1] at hg
        rw [show dl (r.extract 0 i) = bef (dl r) by rw [e1, dl_bs]] at hn
        rw [show dl (r.extract (i + 1) r.size) = aft (dl r) by rw [e2, dl_bs]] at hf
        rw [← e1, ← e2] at HRY
        have HN := Lib.hid hn
        have HF := Lib.hid hf
        have HQ := Lib.hid hg
        clear he hbf e1 e2 hn hf hg hg1 z1
        cases hn : T.nameL (bef (dl r))
        · rw [hn] at HN
          have HR := Lib.hid (HRN.out (by rw [HO.out, hn]; rfl))
          clear hn
          go_wp2_with first | (go_at_call 65; refine (HN.out _).mono ?_; rintro e w2 ⟨rfl, rfl⟩) | (go_at_call 98; refine (HF.out _).mono ?_; rintro e w3 ⟨rfl, hb3⟩) | (go_at_call 99; refine (HQ.out _).mono ?_; rintro e w4 ⟨rfl, rfl⟩)
          go_ret3
          exact ⟨HR.out.symm, Below.refl _ _⟩
        · rw [hn] at HN
          cases hf : T.filterL (aft (dl r))
          · rw [hf] at HF
            have HR := Lib.hid (HRN.out (by rw [HO.out, hn, hf]; rfl))
            clear hn hf
            go_wp2_with first | (go_at_call 65; refine (HN.out _).mono ?_; rintro e w2 ⟨rfl, rfl⟩) | (go_at_call 98; refine (HF.out _).mono ?_; rintro e w3 ⟨rfl, hb3⟩) | (go_at_call 99; refine (HQ.out _).mono ?_; rintro e w4 ⟨rfl, rfl⟩)
            go_ret3
            exact ⟨HR.out.symm, hb3⟩
          · rw [hf] at HF
            cases hg : Lib.hasPrefix (aft (dl r)) shp
            · rw [hg] at HQ
              have HR := Lib.hid (HRY.out (by rw [HO.out, hn, hf, hg]; rfl))
              clear hn hf hg
              go_wp2_with first | (go_at_call 65; refine (HN.out _).mono ?_; rintro e w2 ⟨rfl, rfl⟩) | (go_at_call 98; refine (HF.out _).mono ?_; rintro e w3 ⟨rfl, hb3⟩) | (go_at_call 99; refine (HQ.out _).mono ?_; rintro e w4 ⟨rfl, rfl⟩)
              go_quiet (fail)
              go_wp2
              go_ret3
              exact ⟨HR.out.symm, Below.step hb3 (below_draw _ _)⟩
            · rw [hg] at HQ
              have HR := Lib.hid (HRN.out (by rw [HO.out, hn, hf, hg]; rfl))
              clear hn hf hg
              go_wp2_with first | (go_at_call 65; refine (HN.out _).mono ?_; rintro e w2 ⟨rfl, rfl⟩) | (go_at_call 98; refine (HF.out _).mono ?_; rintro e w3 ⟨rfl, hb3⟩) | (go_at_call 99; refine (HQ.out _).mono ?_; rintro e w4 ⟨rfl, rfl⟩)
              go_ret3
              exact ⟨HR.out.symm, hb3⟩
      · have hq : ((x.toNat : Int) != 47) = true := by rw [bne_iff_ne]; exact fun e => he (UInt8.toNat_inj.1 (by show x.toNat = 47; omega))
        have HK : Hid (not47 x = true) := Lib.hid (by simp [not47, he])
        clear he
        go_wp2
        exact ⟨⟨i + 1, by omega, by go_num, HNO.out.succ (by rw [HX.out]; exact HK.out)⟩, by simp [intOf]; omega⟩
    · obtain rfl : i = r.size := by omega
      have hbn := bef_none HNO.out
      have hnf : T.filterL (aft (dl r)) = false := by rw [hbn.2]; rfl
      have HR := Lib.hid (HRN.out (by rw [HO.out, hnf]; simp))
      clear hbn hnf
      go_wp2
      go_ret3
      exact ⟨HR.out.symm, Below.refl _ _⟩

end Go.Proofs.YtdkegoaflabjoaaGreatDoor.S1
