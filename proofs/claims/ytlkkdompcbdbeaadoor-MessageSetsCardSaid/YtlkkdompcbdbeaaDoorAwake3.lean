/-
  The examples that every statement of brokerlaw03 holds besides: awake answers true. Conditions: none.
-/
import Derived.Test.YtlkkdompcbdbeaaDoorTexts
namespace Go.Proofs.YtlkkdompcbdbeaaDoor
open Go.RowKit

/-- what a writing function hands back, turned into a text -/
theorem RetB.conv {xs : List UInt8} {W : World} {e : Ending} {w' : World} (h : RetB xs W e w') {n : Nat} (hn : xs.length = n) {s : ByteArray} (hs : bs xs = s) :
    ∃ A c, e = .returned (.slice A n c) ∧ (convert 41 9 (.slice A n c)).run Tryd.prog w' = .ok (.string s) w' ∧ Below W.heap.size W w' := by
  obtain ⟨v, rfl, hown, hb⟩ := h
  obtain ⟨A, c, rfl, hc, hsl⟩ := hown.ret
  subst hn
  subst hs
  exact ⟨A, c, rfl, conv_str hsl c, hb⟩
theorem below_new (w : World) (o : Obj) : Below w.heap.size w (w.alloc o) := (Below.refl _ _).alloc (Nat.le_refl _) _

theorem aw_num (w : World) : Calls Tryd.prog 87 #[.slice (some ⟨w.heap.size, 0, none⟩) 2 2, .int .i64 0] (w.alloc (.cells #[.int .u8 128, .int .u8 1] 5)) fun e w' =>
    e = .returned (.tuple #[.int .i64 64, .int .i64 2, .int .i64 0]) ∧ w.alloc (.cells #[.int .u8 128, .int .u8 1] 5) = w' :=
  num_any (some ⟨w.heap.size, 0, none⟩) 2 [128, 1] 0 (by decide) (by decide) _ _ (CL.new (f := bv) (xs := [128, 1])) (by decide) (by decide)
theorem aw_text (w : World) : Calls Tryd.prog 86 #[.slice (some ⟨w.heap.size, 0, none⟩) 4 4, .int .i64 1, .int .i64 2] (w.alloc (.cells #[.int .u8 9, .int .u8 4, .int .u8 97, .int .u8 98] 5)) fun e w' =>
    e = .returned (.tuple #[.string ⟨#[97, 98]⟩, .int .i64 4, .int .i64 0]) ∧ w.alloc (.cells #[.int .u8 9, .int .u8 4, .int .u8 97, .int .u8 98] 5) = w' :=
  text_any (some ⟨w.heap.size, 0, none⟩) 4 [9, 4, 97, 98] 1 2 (by decide) (by decide) _ _ (CL.new (f := bv) (xs := [9, 4, 97, 98])) (by decide) (by decide)
theorem aw_putNum (w : World) : Calls Tryd.prog 65 #[.slice none 0 0, .int .i64 (-64)] w fun e w' => ∃ A c, e = .returned (.slice A 1 c) ∧ (convert 41 9 (.slice A 1 c)).run Tryd.prog w' = .ok (.string ⟨#[127]⟩) w' ∧ Below w.heap.size w w' :=
  (putNum_any none 0 [] (-64) (by decide) (by decide) w (CL.nil _ _ _) (by decide)).mono fun _ _ h => h.conv rfl rfl
theorem aw_putText (w : World) : Calls Tryd.prog 64 #[.slice (some ⟨w.heap.size, 0, none⟩) 1 1, .string ⟨#[97, 98]⟩] (w.alloc (.cells #[.int .u8 7] 5)) fun e w' =>
    ∃ A c, e = .returned (.slice A 4 c) ∧ (convert 41 9 (.slice A 4 c)).run Tryd.prog w' = .ok (.string ⟨#[7, 4, 97, 98]⟩) w' ∧ Below w.heap.size w w' :=
  (putText_any (some ⟨w.heap.size, 0, none⟩) 1 [7] ⟨#[97, 98]⟩ _ (CL.new (f := bv) (xs := [7])) (by decide) (by decide)).mono fun _ _ h => by
    obtain ⟨A, c, h1, h2, h3⟩ := h.conv (n := 4) (s := ⟨#[7, 4, 97, 98]⟩) rfl rfl
    exact ⟨A, c, h1, h2, stepB (below_new w _) h3⟩
theorem aw_flags (w : World) : Calls Tryd.prog 48 #[.slice (some ⟨w.heap.size, 0, none⟩) 3 3] (w.alloc (.cells #[.bool true, .bool false, .bool true] 4)) fun e w' =>
    e = .returned (.int .i64 5) ∧ w.alloc (.cells #[.bool true, .bool false, .bool true] 4) = w' :=
  flags_any (some ⟨w.heap.size, 0, none⟩) 3 [true, false, true] _ _ (CL.new (f := Value.bool) (xs := [true, false, true])) (by decide) (by decide)
end Go.Proofs.YtlkkdompcbdbeaaDoor
