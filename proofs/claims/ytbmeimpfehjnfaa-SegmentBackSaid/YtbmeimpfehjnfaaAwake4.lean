/-
  The examples that every statement of brokerlaw04 holds besides: awake answers true; FrameWraps. Conditions: the list reads as data.
-/
import Derived.Test.YtbmeimpfehjnfaaNext
namespace Go.Proofs.Ytbmeimpfehjnfaa
open Go.RowKit

theorem below_new4 (w : World) (o : Obj) : Below w.heap.size w (w.alloc o) := (Below.refl _ _).alloc (Nat.le_refl _) _
theorem a4_next_val : nextR [9, 2, 228, 12, 41, 44, 97] 1 = ([97], 7, 0) := by decide +kernel
theorem a4_wrap_val : wrapR [97] = [2, 228, 12, 41, 44, 97] := by decide +kernel
theorem a4_sum_val : sumR [] = 2166136261 := by decide +kernel
theorem a4_size_val : sizeR 64 = 70 := by decide +kernel

theorem a4_next (w : World) : Calls Try.prog 47 #[.slice (some ⟨w.heap.size, 0, none⟩) 7 7, .int .i64 1] (w.alloc (.cells #[.int .u8 9, .int .u8 2, .int .u8 228, .int .u8 12, .int .u8 41, .int .u8 44, .int .u8 97] 5)) fun e w' =>
    ∃ A c, e = .returned (.tuple #[.slice A 1 c, .int .i64 7, .int .i64 0]) ∧ CL bv w' w'.heap.size A [97] ∧ Below w.heap.size w w' :=
  (next_any (some ⟨w.heap.size, 0, none⟩) 7 [9, 2, 228, 12, 41, 44, 97] 1 (by decide) (by decide) _ (CL.new (f := bv) (xs := [9, 2, 228, 12, 41, 44, 97])) (by decide) (by decide)).mono fun _ _ h => by
    obtain ⟨v, h1, hown, hb⟩ := h
    rw [a4_next_val] at h1 hown
    obtain ⟨A, c, rfl, _, hsl⟩ := hown.ret
    exact ⟨A, c, h1, hsl, stepB (below_new4 w _) hb⟩
theorem a4_sum (w : World) : Calls Try.prog 53 #[.slice none 0 0] w fun e w' => e = .returned (.int .i64 2166136261) ∧ w = w' :=
  (sum_any none 0 [] w 0 (CL.nil _ _ _) (by decide)).mono fun _ _ h => by
    rw [a4_sum_val] at h
    exact h
theorem a4_wrap (w : World) : Calls Try.prog 41 #[.slice (some ⟨w.heap.size, 0, none⟩) 1 1] (w.alloc (.cells #[.int .u8 97] 5)) fun e w' =>
    ∃ A c, e = .returned (.slice A 6 c) ∧ (convert 22 9 (.slice A 6 c)).run Try.prog w' = .ok (.string ⟨#[2, 228, 12, 41, 44, 97]⟩) w' ∧ Below w.heap.size w w' :=
  (wrap_any (some ⟨w.heap.size, 0, none⟩) 1 [97] _ (CL.new (f := bv) (xs := [97])) (by decide)).mono fun _ _ h => by
    obtain ⟨v, h1, hown, hb⟩ := h
    rw [a4_wrap_val] at hown
    obtain ⟨A, c, rfl, _, hsl⟩ := hown.ret
    exact ⟨A, c, h1, conv_str hsl c, stepB (below_new4 w _) hb⟩
theorem a4_size (w : World) : Calls Try.prog 46 #[.int .i64 64] w fun e w' => e = .returned (.int .i64 70) ∧ Below w.heap.size w w' :=
  (size_any 64 (by decide) (by decide) w).mono fun _ _ h => by
    rw [a4_size_val] at h
    exact h
theorem conv97 {w : World} {B : Nat} {A : Option Addr} (h : CL bv w B A [97]) (c : Nat) : (convert 22 9 (.slice A 1 c)).run Try.prog w = .ok (.string ⟨#[97]⟩) w := conv_str h c

end Go.Proofs.Ytbmeimpfehjnfaa
