/-
  The library's Atoi, Itoa and Cut at a blank, under what the world holds of its tables and errors. Conditions: those variables are laid; texts fit.
-/
import Derived.Test.YthpplhhlhheopabGreatDoorDzA
import Derived.Test.YthpplhhlhheopabGreatDoorShelf
import Derived.Lib.SmallJoins
import Derived.Lib.LaidTab
import Derived.Lib.AppendIntMem
namespace Go.Proofs.YthpplhhlhheopabGreatDoor
open Go.RowKit

/-- the library's variables that the walks read -/
structure Okd (w : World) : Prop where
  k : S1.Okw w
  t : Lib.TabIs Tryz.prog w "internal/strconv.uint64pow10" .u64 Lib.pow10Tab
  s : ∃ tp p, w.var? Tryz.prog "strconv.ErrSyntax" = some #[.iface tp p]
  r : ∃ tp p, w.var? Tryz.prog "strconv.ErrRange" = some #[.iface tp p]
theorem gTab : Tryz.prog.globalNamed "internal/strconv.uint64pow10" = some 3 := by kernel_rfl
theorem gSyn : Tryz.prog.globalNamed "strconv.ErrSyntax" = some 1 := by kernel_rfl
theorem gRan : Tryz.prog.globalNamed "strconv.ErrRange" = some 2 := by kernel_rfl
theorem Okd.step {w w' : World} (h : Okd w) (hb : Below w.heap.size w w') : Okd w' := by
  obtain ⟨a, b, hs⟩ := h.s
  obtain ⟨c, d, hr⟩ := h.r
  exact ⟨h.k.step hb, Joins.var_stays gTab h.t hb (Nat.le_refl _), ⟨a, b, Joins.var_stays gSyn hs hb (Nat.le_refl _)⟩, ⟨c, d, Joins.var_stays gRan hr hb (Nat.le_refl _)⟩⟩

theorem itoa_any (n : Int) (h0 : -9223372036854775808 ≤ n) (h1 : n ≤ 9223372036854775807) (w : World) (hw : Okd w) :
    Calls Tryz.prog 19 #[.int .i64 n] w fun e w' => e = .returned (.string ⟨(Lib.itoa n).toArray⟩) ∧ Below w.heap.size w w' :=
  (Tryz.strconv_Itoa n h0 h1 w hw.t).mono fun _ _ h => ⟨h.1, by obtain ⟨_, k, os, rfl⟩ := h; exact Lib.below_grow _ _ (Nat.le_refl _) _ _⟩
theorem itoaN_any (n : Nat) (h1 : n ≤ 1099511627776) (w : World) (hw : Okd w) :
    Calls Tryz.prog 19 #[.int .i64 (n : Int)] w fun e w' => e = .returned (.string (numT n)) ∧ Below w.heap.size w w' := by
  have h := itoa_any (n : Int) (by omega) (by omega) w hw
  rw [Lib.itoa_nonneg] at h
  exact h
theorem atoi_ok (s : ByteArray) (hs : s.size ≤ 1000000) (v : Int) (h : Lib.atoiAll (dl s) = .ok v) (w : World) :
    Calls Tryz.prog 27 #[.string s] w fun e w' => e = .returned (.tuple #[.int .i64 v, .nilIface]) ∧ Below w.heap.size w w' :=
  (Tryz.strconv_Atoi_ok s (by omega) v h w).mono fun _ _ h => ⟨h.1, by
    rcases h.2 with rfl | ⟨t, rfl⟩
    · exact Below.refl _ _
    · exact Lib.bytesWorld_below _ _ _⟩
theorem atoi_bad (s : ByteArray) (hs : s.size ≤ 1000000) (h : ∀ v, Lib.atoiAll (dl s) ≠ .ok v) (w : World) (hw : Okd w) :
    Calls Tryz.prog 27 #[.string s] w fun e w' => ∃ v N, e = .returned (.tuple #[.int .i64 v, .iface 86 (.pointer (some ⟨N, 0, none⟩))]) ∧ Below w.heap.size w w' := by
  obtain ⟨a, b, hsy⟩ := hw.s
  obtain ⟨c, d, hra⟩ := hw.r
  cases hc : Lib.atoiAll (dl s) with
  | ok v => exact absurd hc (h v)
  | «syntax» =>
    refine (Tryz.strconv_Atoi_syntax_var s (by omega) hc a b w hsy).mono fun _ _ h => ?_
    obtain ⟨N, he, _, _, hb⟩ := h
    exact ⟨_, N, he, hb⟩
  | range =>
    refine (Tryz.strconv_Atoi_range_var s (by omega) hc c d w hra).mono fun _ _ h => ?_
    obtain ⟨N, he, _, _, hb⟩ := h
    exact ⟨_, N, he, hb⟩

/-! ### Cut at a blank -/
theorem idx_befS (l : List UInt8) : (Lib.indexByte l 32 = -1 ∧ befS l = l ∧ l.contains 32 = false) ∨
    (∃ i : Nat, Lib.indexByte l 32 = i ∧ i < l.length ∧ befS l = l.take i ∧ (befS l).length = i ∧ l.contains 32 = true) := by
  induction l with
  | nil => exact .inl ⟨rfl, rfl, rfl⟩
  | cons b l ih =>
    by_cases hb : b = 32
    · subst hb
      exact .inr ⟨0, rfl, by simp, by simp [befS], by simp [befS], by simp⟩
    · have hbb : (b == 32) = false := beq_eq_false_iff_ne.2 hb
      have e1 : befS (b :: l) = b :: befS l := by simp [befS, hb]
      have e2 : (b :: l).contains 32 = l.contains 32 := by
        rw [List.contains_cons, show ((32 : UInt8) == b) = false from beq_eq_false_iff_ne.2 (Ne.symm hb)]; rfl
      rcases ih with ⟨h1, h2, h3⟩ | ⟨i, h1, h2, h3, h4, h5⟩
      · left
        refine ⟨?_, by rw [e1, h2], by rw [e2, h3]⟩
        rw [Lib.indexByte, hbb, h1]; rfl
      · right
        refine ⟨i + 1, ?_, by simp; omega, by rw [e1, h3]; rfl, by rw [e1]; simp [h4], by rw [e2, h5]⟩
        rw [Lib.indexByte, hbb, h1]
        have : ((i : Int) == -1) = false := beq_eq_false_iff_ne.2 (by omega)
        rw [this]
        simp
theorem cutS_eq (l : List UInt8) : Lib.cut l [32] = (befS l, aftS l, l.contains 32) := by
  unfold Lib.cut
  rw [Lib.index_one]
  unfold aftS
  rcases idx_befS l with ⟨h1, h2, h3⟩ | ⟨i, h1, h2, h3, h4, h5⟩
  · rw [h1, if_neg (by omega), h2, h3, List.drop_eq_nil_of_le (by omega)]
  · rw [h1, if_pos (by omega), h4, h5, h3]
    rfl
theorem cutS_any (s : ByteArray) (hs : s.size ≤ 1000000) (w : World) (hw : S1.Okw w) :
    Calls Tryz.prog 21 #[.string s, .string ⟨#[32]⟩] w fun e w' => e = .returned (.tuple #[.string (bs (befS (dl s))), .string (bs (aftS (dl s))), .bool ((dl s).contains 32)]) ∧ Below w.heap.size w w' := by
  obtain ⟨m, hm⟩ := hw
  have h := Tryz.strings_Cut s ⟨#[32]⟩ m w (by omega) hm
  rw [show (s.data.toList) = dl s from rfl, show (ByteArray.data ⟨#[32]⟩).toList = [32] from rfl, cutS_eq] at h
  exact h.mono fun _ _ h => ⟨h.1, by obtain ⟨_, n, rfl⟩ := h; exact ⟨rfl, rfl, rfl, Nat.le_refl _, fun _ _ => rfl⟩⟩

end Go.Proofs.YthpplhhlhheopabGreatDoor
