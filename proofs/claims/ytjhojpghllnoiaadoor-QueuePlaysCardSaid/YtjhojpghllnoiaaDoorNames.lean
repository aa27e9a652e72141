/-
  What the two name functions answer: true exactly for the names, whatever the text.
-/
import Derived.Test.YtjhojpghllnoiaaDoorPure
import Derived.Test.YtjhojpghllnoiaaDoorProg
import Derived.WalkKit
import Derived.WalkSpells
import Derived.WalkLawsBesides
import Derived.Laws.RangeAny
import Derived.Laws.RangeString
import Derived.Deep.LoopGhost
import Derived.Lib.Hide
import Derived.Lib.IndexBytes
namespace Go.Proofs.YtjhojpghllnoiaaDoor.S1
open Go.RowKit

theorem empty_of (s : ByteArray) (h : s.size = 0) : s.toList.isEmpty = true := by
  rw [Lib.toList_data]
  have : s.data.toList = [] := List.length_eq_zero_iff.1 (by rw [← Lib.size_eq]; exact h)
  rw [this]; rfl
theorem nonempty_of (s : ByteArray) (h : 0 < s.size) : s.toList.isEmpty = false := by
  rw [Lib.toList_data]
  cases h' : s.data.toList with
  | nil => have := Lib.size_eq s; rw [h', List.length_nil] at this; omega
  | cons _ _ => rfl
theorem getD_of (s : ByteArray) (i : Nat) (h : i < s.size) : s.data.toList.getD i 0 = s[i]'h := by
  rw [List.getD_eq_getElem?_getD, Lib.data_getElem? s i h]; rfl

theorem ret_b {a b : Bool} (h : a = b) : Ending.returned (.bool a) = .returned (.bool b) := by rw [h]

def NameUpto (l : List UInt8) (i : Nat) : Prop := ∀ j, j < i → T.nokAt j (l.getD j 0) = true
theorem NameUpto.zero (l : List UInt8) : NameUpto l 0 := fun _ h => absurd h (Nat.not_lt_zero _)
theorem NameUpto.succ {l : List UInt8} {i : Nat} (h : NameUpto l i) (hi : T.nokAt i (l.getD i 0) = true) : NameUpto l (i + 1) := fun j hj => by
  rcases Nat.lt_succ_iff_lt_or_eq.1 hj with h' | h'
  · exact h j h'
  · subst h'; exact hi

set_option maxHeartbeats 1000000 in
theorem tName_any (s : ByteArray) (w : World) :
    Calls Tryd.prog 51 #[.string s] w fun e w' => e = .returned (.bool (T.nameL s.data.toList)) ∧ Below w.heap.size w w' := by
  have hlen := Lib.size_eq s
  by_cases h0 : s.size = 0
  · have hemp := empty_of s h0
    have hf : T.nameL s.data.toList = false := T.nameL_size (.inl (by omega))
    rw [hf]
    clear hf hlen
    go_enter Tryd.func51, Tryd.ntmps51
    go_wp2
    go_ret
    exact ⟨rfl, Below.refl _ _⟩
  have hemp := nonempty_of s (by omega)
  by_cases h16 : 16 < s.size
  · have hf : T.nameL s.data.toList = false := T.nameL_size (.inr (by omega))
    rw [hf]
    have hd : decide ((16 : Int) < (s.size : Int)) = true := decide_eq_true (by omega)
    clear hf hlen
    go_enter Tryd.func51, Tryd.ntmps51
    go_wp2
    go_ret
    exact ⟨rfl, Below.refl _ _⟩
  have hd : decide ((16 : Int) < (s.size : Int)) = false := decide_eq_false (by omega)
  have HL := Lib.hid hlen
  clear hlen
  go_enter Tryd.func51, Tryd.ntmps51
  go_wp2
  go_loopg [3, 4] s.size (fun g _ _ wx => ∃ i : Nat, i + g = s.size ∧ wx = w.iter s i ∧ NameUpto s.data.toList i)
  case atStart => exact ⟨0, by omega, rfl, NameUpto.zero _⟩
  case round =>
    obtain ⟨i, hig, rfl, hno⟩ := hrel
    have HN := Lib.hid hno
    clear hno
    cases gk with
    | zero =>
      obtain rfl : i = s.size := by omega
      have hnx := fun ty => run_next_end (P := Tryd.prog) w s s.size ty (by omega)
      clear hig
      go_wp2
      go_ret
      have hl := HL.out
      exact ⟨by rw [T.nameL_true (by omega) (by omega) (fun j hj => HN.out j (by omega))]; rfl, (Below.refl _ _).alloc (Nat.le_refl _) _⟩
    | succ g =>
      have hi : i < s.size := by omega
      obtain ⟨x, hx⟩ : ∃ x : UInt8, s[i]'hi = x := ⟨_, rfl⟩
      have hxg : s.data.toList.getD i 0 = x := by rw [getD_of s i hi, hx]
      have HX := Lib.hid hxg
      clear hxg
      by_cases ha : x.toNat < 128
      · have hnx := fun ty => run_next_ascii (P := Tryd.prog) w s i ty hi (by rw [hx]; exact ha)
        rw [hx] at hnx
        clear hx
        go_wp2
        all_goals try simp only [beq_iff_eq, beq_eq_false_iff_ne, ne_eq] at *
        all_goals first
          | (go_ret
             refine ⟨?_, (Below.refl _ _).alloc (Nat.le_refl _) _⟩
             rw [T.nameL_false_at (i := i) (by have := HL.out; omega) (by rw [HX.out, Bool.eq_false_iff, ne_eq, T.nokAt_iff]; omega)]; rfl)
          | (go_roundg g
             case measure => omega
             case rel => exact ⟨i + 1, by omega, rfl, HN.out.succ (by rw [HX.out, T.nokAt_iff]; omega)⟩)
      · have hh := decode_high s i hi (by rw [hx]; omega)
        have hnx := fun ty => run_next_any (P := Tryd.prog) w s i ty hi
        obtain ⟨c, hc⟩ : ∃ c : Nat, (Utf8.decode s i).1 = c := ⟨_, rfl⟩
        obtain ⟨d, hd2⟩ : ∃ d : Nat, (Utf8.decode s i).2 = d := ⟨_, rfl⟩
        rw [hc] at hnx hh
        have hc128 := hh.1
        rw [hd2] at hnx
        have h122 : decide ((c : Int) ≤ 122) = false := decide_eq_false (by omega)
        have h57 : decide ((c : Int) ≤ 57) = false := decide_eq_false (by omega)
        have h97 : decide ((97 : Int) ≤ (c : Int)) = true := decide_eq_true (by omega)
        have h48 : decide ((48 : Int) ≤ (c : Int)) = true := decide_eq_true (by omega)
        have h45 : ((c : Int) == 45) = false := beq_eq_false_iff_ne.2 (by omega)
        have hx128 : 128 ≤ x.toNat := by omega
        clear hh hc hd2 hx ha
        go_wp2
        all_goals
          go_ret
          refine ⟨?_, (Below.refl _ _).alloc (Nat.le_refl _) _⟩
          rw [T.nameL_false_at (i := i) (by have := HL.out; omega) (by rw [HX.out]; exact T.nokAt_high _ hx128)]; rfl



set_option maxHeartbeats 400000 in
theorem lower_any (x : UInt8) (w : World) :
    Calls Tryd.prog 60 #[.int .u8 x.toNat] w fun e w' => e = .returned (.bool (T.low x)) ∧ w = w' := by
  by_cases h1 : 97 ≤ x.toNat
  · go_enter Tryd.func60, Tryd.ntmps60
    go_wp2
    all_goals
      go_ret
      exact ⟨ret_b (by rw [Bool.eq_iff_iff]; simp [T.low]; omega), rfl⟩
  · go_enter Tryd.func60, Tryd.ntmps60
    go_wp2
    all_goals
      go_ret
      exact ⟨ret_b (by rw [Bool.eq_iff_iff]; simp [T.low]; omega), rfl⟩
set_option maxHeartbeats 400000 in
theorem digit_any (x : UInt8) (w : World) :
    Calls Tryd.prog 61 #[.int .u8 x.toNat] w fun e w' => e = .returned (.bool (T.dig x)) ∧ w = w' := by
  by_cases h1 : 48 ≤ x.toNat
  · go_enter Tryd.func61, Tryd.ntmps61
    go_wp2
    all_goals
      go_ret
      exact ⟨ret_b (by rw [Bool.eq_iff_iff]; simp [T.dig]; omega), rfl⟩
  · go_enter Tryd.func61, Tryd.ntmps61
    go_wp2
    all_goals
      go_ret
      exact ⟨ret_b (by rw [Bool.eq_iff_iff]; simp [T.dig]; omega), rfl⟩

theorem nup_succ {l : List UInt8} {i : Nat} {x : UInt8} (h0 : T.nokAt 0 (l.getD 0 0) = true) (hx : l.getD i 0 = x) (h : NameUpto l i) (hk : T.nok x = true) : NameUpto l (i + 1) := by
  refine h.succ ?_
  by_cases hi : i = 0
  · subst hi; exact h0
  · rw [hx]
    unfold T.nokAt
    rw [if_neg hi]
    exact hk
theorem name_bad {l : List UInt8} {i : Nat} {x : UInt8} (hi : i < l.length) (hx : l.getD i 0 = x) (hk : T.nok x = false) : T.nameL l = false := by
  refine T.nameL_false_at hi ?_
  rw [hx]
  cases h : T.nokAt i x with
  | false => rfl
  | true => rw [T.nokAt_nok h] at hk; cases hk

set_option maxHeartbeats 1000000 in
theorem rName_any (s : ByteArray) (w : World) (hs63 : s.size ≤ 9223372036854775807) :
    Calls Tryd.prog 42 #[.string s] w fun e w' => e = .returned (.bool (T.nameL s.data.toList)) ∧ w = w' := by
  have hlen := Lib.size_eq s
  by_cases h0 : s.size = 0
  · have hf : T.nameL s.data.toList = false := T.nameL_size (.inl (by omega))
    rw [hf]
    have hd : decide ((s.size : Int) < 1) = true := decide_eq_true (by omega)
    clear hf hlen h0
    go_enter Tryd.func42, Tryd.ntmps42
    go_wp2
    go_ret
    exact ⟨rfl, rfl⟩
  have hd1 : decide ((s.size : Int) < 1) = false := decide_eq_false (by omega)
  by_cases h16 : 16 < s.size
  · have hf : T.nameL s.data.toList = false := T.nameL_size (.inr (by omega))
    rw [hf]
    have hd : decide ((16 : Int) < (s.size : Int)) = true := decide_eq_true (by omega)
    clear hf hlen
    go_enter Tryd.func42, Tryd.ntmps42
    go_wp2
    go_ret
    exact ⟨rfl, rfl⟩
  have hd : decide ((16 : Int) < (s.size : Int)) = false := decide_eq_false (by omega)
  have hs0 : 0 < s.size := by omega
  obtain ⟨x0, hx0⟩ : ∃ x : UInt8, s[0]'hs0 = x := ⟨_, rfl⟩
  have hxg0 : s.data.toList.getD 0 0 = x0 := by rw [getD_of s 0 hs0, hx0]
  have HL := Lib.hid hlen
  have HX0 := Lib.hid hxg0
  clear hlen hxg0
  cases hl0 : T.low x0
  · go_enter Tryd.func42, Tryd.ntmps42
    go_wp2_with (go_at_call 60; refine (lower_any _ _).mono ?_; rintro e w' ⟨rfl, rfl⟩)
    go_ret
    exact ⟨by rw [T.nameL_false_at (i := 0) (by have := HL.out; omega) (by rw [HX0.out]; exact hl0)]; rfl, rfl⟩
  · have H0 : Hid (T.nokAt 0 (s.data.toList.getD 0 0) = true) := Lib.hid (by rw [HX0.out]; exact hl0)
    go_enter Tryd.func42, Tryd.ntmps42
    go_wp2_with (go_at_call 60; refine (lower_any _ _).mono ?_; rintro e w' ⟨rfl, rfl⟩)
    clear hx0 HX0 hl0
    go_loop [3] (fun v => ∃ i : Nat, i ≤ s.size ∧ v = .int .i64 i ∧ NameUpto s.data.toList i) (fun v => s.size - (intOf v).toNat)
    case atStart => exact ⟨0, by omega, rfl, NameUpto.zero _⟩
    case round =>
      obtain ⟨i, hi, rfl, hno⟩ := hrel
      have HN := Lib.hid hno
      clear hno
      by_cases hlt : i < s.size
      · obtain ⟨x, hx⟩ : ∃ x : UInt8, s[i]'hlt = x := ⟨_, rfl⟩
        have hxg : s.data.toList.getD i 0 = x := by rw [getD_of s i hlt, hx]
        have HX := Lib.hid hxg
        clear hxg
        have HNok := Lib.hid (T.nok_eq x)
        cases hlo : T.low x <;> cases hdi : T.dig x <;> cases h45 : ((x.toNat : Int) != 45)
        all_goals
          go_wp2_with first | (go_at_call 60; refine (lower_any _ _).mono ?_; rintro e w' ⟨rfl, rfl⟩) | (go_at_call 61; refine (digit_any _ _).mono ?_; rintro e w' ⟨rfl, rfl⟩)
          first
            | (go_ret
               exact ⟨ret_b (name_bad (by have := HL.out; omega) HX.out (by rw [HNok.out, hlo, hdi, h45]; rfl)).symm, rfl⟩)
            | exact ⟨⟨i + 1, by omega, by go_num, nup_succ H0.out HX.out HN.out (by rw [HNok.out, hlo, hdi, h45]; rfl)⟩, by simp [intOf]; omega⟩
      · have hz : i = s.size := by omega
        have HZ := Lib.hid hz
        clear hz
        go_wp2
        go_ret
        exact ⟨ret_b (T.nameL_true (by have := HL.out; omega) (by have := HL.out; omega) (fun j hj => HN.out j (by have := HL.out; have := HZ.out; omega))).symm, rfl⟩

end Go.Proofs.YtjhojpghllnoiaaDoor.S1
