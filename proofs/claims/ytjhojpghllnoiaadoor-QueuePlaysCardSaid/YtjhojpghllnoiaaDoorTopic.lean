/-
  What Valid, Join and Shared of the program, and Begins, Join and Shared of the specification answer. Conditions: sizes that fit an int; MaxLen holds a number.
-/
import Derived.Test.YtjhojpghllnoiaaDoorTopicFilter
import Derived.Test.YtjhojpghllnoiaaDoorNames
namespace Go.Proofs.YtjhojpghllnoiaaDoor.S1
open Go.RowKit

theorem tName_dl (s : ByteArray) (w : World) :
    Calls Tryd.prog 51 #[.string s] w fun e w' => e = .returned (.bool (T.nameL (dl s))) ∧ Below w.heap.size w w' := tName_any s w
theorem rName_dl (s : ByteArray) (w : World) (hs63 : s.size ≤ 9223372036854775807) :
    Calls Tryd.prog 42 #[.string s] w fun e w' => e = .returned (.bool (T.nameL (dl s))) ∧ w = w' := rName_any s w hs63

theorem filter_le {s : ByteArray} (h : T.filterL (dl s) = true) : s.size ≤ 64 := by
  have := (T.filterL_parts h).2.1
  rw [size_dl]; exact this

set_option maxHeartbeats 400000 in
theorem tValid_any (s : ByteArray) (w : World) (hw : Okw w) :
    Calls Tryd.prog 49 #[.string s] w fun e w' => e = .returned (.bool (T.validL (dl s))) ∧ Below w.heap.size w w' := by
  cases hf : T.filterL (dl s)
  · have HV : Hid (T.validL (dl s) = false) := Lib.hid (by unfold T.validL; rw [hf]; rfl)
    go_enter Tryd.func49, Tryd.ntmps49
    go_wp2_with (go_at_call 65; refine (tFilter_any s _ hw).mono ?_; rintro e w1 ⟨rfl, hb⟩)
    go_ret
    exact ⟨retb HV.out.symm, hb⟩
  · have hle := filter_le hf
    have HV : Hid (T.validL (dl s) = !anyW (dl s)) := Lib.hid (by unfold T.validL anyW; rw [hf]; simp)
    go_enter Tryd.func49, Tryd.ntmps49
    go_wp2_with first
      | (go_at_call 65; refine (tFilter_any s _ hw).mono ?_; rintro e w1 ⟨rfl, hb⟩)
      | (go_at_call 66; refine (containsAny_any s _ (by omega)).mono ?_; rintro e w2 ⟨rfl, hb2⟩)
    go_ret
    exact ⟨retb HV.out.symm, Below.step hb hb2⟩

theorem below_draw (w : World) (n : Nat) : Below w.heap.size w (w.drewN n) := ⟨rfl, rfl, rfl, Nat.le_refl _, fun _ _ => rfl⟩

/-! ### Begins -/
theorem prefix_take {s h : ByteArray} (_hle : h.size ≤ s.size) : ((s.extract 0 h.size).toList == h.toList) = Lib.hasPrefix (dl s) (dl h) := by
  have e : (s.extract 0 h.size).toList = (dl s).take (dl h).length := by
    rw [Lib.toList_data, Lib.extract_data]
    simp [dl]
  rw [e, Lib.toList_data, Bool.eq_iff_iff]
  unfold Lib.hasPrefix
  rw [List.isPrefixOf_iff_prefix, List.prefix_iff_eq_take, beq_iff_eq]
  exact eq_comm
theorem prefix_long {s h : ByteArray} (hle : ¬ h.size ≤ s.size) : Lib.hasPrefix (dl s) (dl h) = false := by
  unfold Lib.hasPrefix
  rw [Bool.eq_false_iff, ne_eq, List.isPrefixOf_iff_prefix]
  intro hp
  have := hp.length_le
  rw [← size_dl, ← size_dl] at this
  exact hle this

/-! ### Cut at a slash -/
def bef (l : List UInt8) : List UInt8 := l.takeWhile fun c => decide (c ≠ 47)
def aft (l : List UInt8) : List UInt8 := l.drop ((bef l).length + 1)
theorem idx_bef (l : List UInt8) : (Lib.indexByte l 47 = -1 ∧ bef l = l ∧ hasB l 47 = false) ∨
    (∃ i : Nat, Lib.indexByte l 47 = i ∧ i < l.length ∧ bef l = l.take i ∧ (bef l).length = i ∧ hasB l 47 = true) := by
  induction l with
  | nil => exact .inl ⟨rfl, rfl, rfl⟩
  | cons b l ih =>
    by_cases hb : b = 47
    · subst hb
      exact .inr ⟨0, rfl, by simp, by simp [bef], by simp [bef], by simp [hasB]⟩
    · have hbb : (b == 47) = false := beq_eq_false_iff_ne.2 hb
      have e1 : bef (b :: l) = b :: bef l := by simp [bef, hb]
      have e2 : hasB (b :: l) 47 = hasB l 47 := by
        unfold hasB
        rw [List.contains_cons, show ((47 : UInt8) == b) = false from beq_eq_false_iff_ne.2 (Ne.symm hb)]; rfl
      rcases ih with ⟨h1, h2, h3⟩ | ⟨i, h1, h2, h3, h4, h5⟩
      · left
        refine ⟨?_, by rw [e1, h2], by rw [e2, h3]⟩
        rw [Lib.indexByte, hbb, h1]; rfl
      · right
        refine ⟨i + 1, ?_, by simp; omega, by rw [e1, h3]; rfl, by rw [e1]; simp [h4], by rw [e2, h5]⟩
        rw [Lib.indexByte, hbb, h1]
        have : ((i : Int) == -1) = false := beq_eq_false_iff_ne.2 (by omega)
        rw [this]
        simp
theorem ext_take (s : ByteArray) (i : Nat) : s.extract 0 i = bs ((dl s).take i) := by
  apply dl_inj
  rw [dl_bs]
  unfold dl
  rw [Lib.extract_data]; simp
theorem ext_drop (s : ByteArray) (i : Nat) : s.extract i s.size = bs ((dl s).drop i) := by
  apply dl_inj
  rw [dl_bs]
  unfold dl
  rw [Lib.extract_to_end]

/-! ### Shared -/
def shp : List UInt8 := [36, 115, 104, 97, 114, 101, 47]
def rst (l : List UInt8) : List UInt8 := l.drop 7
def shOk (l : List UInt8) : Bool := Lib.hasPrefix l shp && T.nameL (bef (rst l)) && T.filterL (aft (rst l)) && !Lib.hasPrefix (aft (rst l)) shp
def shG (l : List UInt8) : List UInt8 := if shOk l then bef (rst l) else []
def shF (l : List UInt8) : List UInt8 := if shOk l then aft (rst l) else []
def shRet (l : List UInt8) : Ending := .returned (.tuple #[.string (bs (shG l)), .string (bs (shF l)), .bool (shOk l)])
theorem shRet_no {l : List UInt8} (h : shOk l = false) : shRet l = .returned (.tuple #[.string ⟨#[]⟩, .string ⟨#[]⟩, .bool false]) := by
  unfold shRet shG shF
  rw [h]; rfl
theorem shRet_yes {l : List UInt8} (h : shOk l = true) : shRet l = .returned (.tuple #[.string (bs (bef (rst l))), .string (bs (aft (rst l))), .bool true]) := by
  unfold shRet shG shF
  rw [h]; rfl

/-! ### Shared of the specification -/
def not47 (c : UInt8) : Bool := decide (c ≠ 47)
theorem bef_at {r : ByteArray} {i : Nat} (hi : i < r.size) (hf : Free (dl r) not47 i) (hc : (dl r).getD i 0 = 47) : bef (dl r) = (dl r).take i := by
  rcases idx_bef (dl r) with ⟨_, _, h3⟩ | ⟨j, h1, h2, h3, h4, h5⟩
  · have := contains_at (c := 47) (l := dl r) (i := i) (by rw [← size_dl]; exact hi) hc
    rw [h3] at this; cases this
  · obtain ⟨g1, g2⟩ := Lib.indexByte_some h1
    have hl := size_dl r
    have hji : j = i := by
      rcases Nat.lt_trichotomy j i with h | h | h
      · have hj := hf j h
        have hjd : (dl r).getD j 0 = 47 := by rw [List.getD_eq_getElem?_getD, g1]; rfl
        rw [hjd] at hj; cases hj
      · exact h
      · have : (dl r)[i]? = some 47 := by
          have hh : i < (dl r).length := by omega
          rw [List.getD_eq_getElem?_getD, List.getElem?_eq_getElem hh] at hc
          rw [List.getElem?_eq_getElem hh]; exact congrArg some hc
        exact absurd this (g2 i h)
    rw [h3, hji]
theorem bef_none {r : ByteArray} (hf : Free (dl r) not47 r.size) : bef (dl r) = dl r ∧ aft (dl r) = [] := by
  rcases idx_bef (dl r) with ⟨_, h2, _⟩ | ⟨j, h1, h2, h3, h4, h5⟩
  · exact ⟨h2, by unfold aft; rw [h2]; exact List.drop_eq_nil_of_le (by omega)⟩
  · obtain ⟨g1, _⟩ := Lib.indexByte_some h1
    have hl := size_dl r
    have hj := hf j (by omega)
    have hjd : (dl r).getD j 0 = 47 := by rw [List.getD_eq_getElem?_getD, g1]; rfl
    rw [hjd] at hj; cases hj

end Go.Proofs.YtjhojpghllnoiaaDoor.S1
