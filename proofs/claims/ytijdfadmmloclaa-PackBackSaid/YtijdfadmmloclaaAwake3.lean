/-
  The examples that every statement of brokerlaw03 holds besides: awake answers true. Conditions: none.
-/
import Derived.Test.YtijdfadmmloclaaTexts
namespace Go.Proofs.Ytijdfadmmloclaa
open Go.RowKit

/-- what a writing function hands back, turned into a text -/
theorem RetB.conv {xs : List UInt8} {W : World} {e : Ending} {w' : World} (h : RetB xs W e w') {n : Nat} (hn : xs.length = n) {s : ByteArray} (hs : bs xs = s) :
    ∃ A c, e = .returned (.slice A n c) ∧ (convert 22 9 (.slice A n c)).run Try.prog w' = .ok (.string s) w' ∧ Below W.heap.size W w' := by
  obtain ⟨v, rfl, hown, hb⟩ := h
  obtain ⟨A, c, rfl, hc, hsl⟩ := hown.ret
  subst hn
  subst hs
  exact ⟨A, c, rfl, conv_str hsl c, hb⟩
theorem below_new (w : World) (o : Obj) : Below w.heap.size w (w.alloc o) := (Below.refl _ _).alloc (Nat.le_refl _) _

theorem aw_num (w : World) : Calls Try.prog 19 #[.slice (some ⟨w.heap.size, 0, none⟩) 2 2, .int .i64 0] (w.alloc (.cells #[.int .u8 128, .int .u8 1] 5)) fun e w' =>
    e = .returned (.tuple #[.int .i64 64, .int .i64 2, .int .i64 0]) ∧ w.alloc (.cells #[.int .u8 128, .int .u8 1] 5) = w' :=
  num_any (some ⟨w.heap.size, 0, none⟩) 2 [128, 1] 0 (by decide) (by decide) _ _ (CL.new (f := bv) (xs := [128, 1])) (by decide) (by decide)
theorem aw_text (w : World) : Calls Try.prog 26 #[.slice (some ⟨w.heap.size, 0, none⟩) 4 4, .int .i64 1, .int .i64 2] (w.alloc (.cells #[.int .u8 9, .int .u8 4, .int .u8 97, .int .u8 98] 5)) fun e w' =>
    e = .returned (.tuple #[.string ⟨#[97, 98]⟩, .int .i64 4, .int .i64 0]) ∧ w.alloc (.cells #[.int .u8 9, .int .u8 4, .int .u8 97, .int .u8 98] 5) = w' :=
  text_any (some ⟨w.heap.size, 0, none⟩) 4 [9, 4, 97, 98] 1 2 (by decide) (by decide) _ _ (CL.new (f := bv) (xs := [9, 4, 97, 98])) (by decide) (by decide)
theorem aw_putNum (w : World) : Calls Try.prog 17 #[.slice none 0 0, .int .i64 (-64)] w fun e w' => ∃ A c, e = .returned (.slice A 1 c) ∧ (convert 22 9 (.slice A 1 c)).run Try.prog w' = .ok (.string ⟨#[127]⟩) w' ∧ Below w.heap.size w w' :=
  (putNum_any none 0 [] (-64) (by decide) (by decide) w (CL.nil _ _ _) (by decide)).mono fun _ _ h => h.conv rfl rfl
theorem aw_putText (w : World) : Calls Try.prog 22 #[.slice (some ⟨w.heap.size, 0, none⟩) 1 1, .string ⟨#[97, 98]⟩] (w.alloc (.cells #[.int .u8 7] 5)) fun e w' =>
    ∃ A c, e = .returned (.slice A 4 c) ∧ (convert 22 9 (.slice A 4 c)).run Try.prog w' = .ok (.string ⟨#[7, 4, 97, 98]⟩) w' ∧ Below w.heap.size w w' :=
  (putText_any (some ⟨w.heap.size, 0, none⟩) 1 [7] ⟨#[97, 98]⟩ _ (CL.new (f := bv) (xs := [7])) (by decide) (by decide)).mono fun _ _ h => by
    obtain ⟨A, c, h1, h2, h3⟩ := h.conv (n := 4) (s := ⟨#[7, 4, 97, 98]⟩) rfl rfl
    exact ⟨A, c, h1, h2, stepB (below_new w _) h3⟩
theorem aw_putTexts (w : World) : Calls Try.prog 24 #[.slice none 0 0, .slice (some ⟨w.heap.size, 0, none⟩) 2 2] (w.alloc (.cells #[.string ⟨#[97, 98]⟩, .string ⟨#[]⟩] 9)) fun e w' =>
    ∃ A c, e = .returned (.slice A 5 c) ∧ (convert 22 9 (.slice A 5 c)).run Try.prog w' = .ok (.string ⟨#[4, 4, 97, 98, 0]⟩) w' ∧ Below w.heap.size w w' :=
  (putTexts_any none 0 [] (some ⟨w.heap.size, 0, none⟩) 2 [⟨#[97, 98]⟩, ⟨#[]⟩] _ (CL.nil _ _ _) (CL.new (f := Value.string) (xs := [⟨#[97, 98]⟩, ⟨#[]⟩])) (by decide) (by decide) (by decide)).mono fun _ _ h => by
    obtain ⟨A, c, h1, h2, h3⟩ := h.conv (n := 5) (s := ⟨#[4, 4, 97, 98, 0]⟩) rfl rfl
    exact ⟨A, c, h1, h2, stepB (below_new w _) h3⟩
theorem aw_flags (w : World) : Calls Try.prog 31 #[.slice (some ⟨w.heap.size, 0, none⟩) 3 3] (w.alloc (.cells #[.bool true, .bool false, .bool true] 4)) fun e w' =>
    e = .returned (.int .i64 5) ∧ w.alloc (.cells #[.bool true, .bool false, .bool true] 4) = w' :=
  flags_any (some ⟨w.heap.size, 0, none⟩) 3 [true, false, true] _ _ (CL.new (f := Value.bool) (xs := [true, false, true])) (by decide) (by decide)
theorem aw_flag (w : World) : Calls Try.prog 33 #[.int .i64 5, .int .i64 2] w fun e w' => e = .returned (.bool true) ∧ w = w' :=
  flag_any 5 2 (by decide) (by decide) w

set_option maxHeartbeats 1000000 in
theorem awake3_any (w : World) : Calls Try.prog 15 #[] w fun e w' => e = .returned (.bool true) ∧ Below w.heap.size w w' := by
  have hb0 := Below.refl w.heap.size w
  go_enter Try.func15, Try.ntmps15
  go_wp2_with fail
  refine (aw_num _).mono ?_
  rintro e w1 ⟨rfl, rfl⟩
  have hb1 := stepB hb0 (below_new w (.cells #[.int .u8 128, .int .u8 1] 5))
  generalize w.alloc (.cells #[.int .u8 128, .int .u8 1] 5) = w1 at hb1 ⊢
  go_wp2_with fail
  refine (aw_text _).mono ?_
  rintro e w2 ⟨rfl, rfl⟩
  have hb2 := stepB hb1 (below_new w1 (.cells #[.int .u8 9, .int .u8 4, .int .u8 97, .int .u8 98] 5))
  generalize w1.alloc (.cells #[.int .u8 9, .int .u8 4, .int .u8 97, .int .u8 98] 5) = w2 at hb2 ⊢
  go_wp2_with fail
  refine (aw_putNum _).mono ?_
  rintro e w3 ⟨A3, c3, rfl, hcv3, hb3⟩
  have hb3' := stepB hb2 hb3
  clear hb3
  go_wp2_with fail
  refine (aw_putText _).mono ?_
  rintro e w4 ⟨A4, c4, rfl, hcv4, hb4⟩
  have hb4' := stepB hb3' hb4
  clear hb4
  go_wp2_with fail
  refine (aw_putTexts _).mono ?_
  rintro e w5 ⟨A5, c5, rfl, hcv5, hb5⟩
  have hb5' := stepB hb4' hb5
  clear hb5
  go_wp2_with fail
  refine (aw_flags _).mono ?_
  rintro e w6 ⟨rfl, rfl⟩
  have hb6 := stepB hb5' (below_new w5 (.cells #[.bool true, .bool false, .bool true] 4))
  go_wp2_with fail
  refine (aw_flag _).mono ?_
  rintro e w7 ⟨rfl, rfl⟩
  go_wp2_with fail
  go_ret
  exact ⟨rfl, hb6⟩

end Go.Proofs.Ytijdfadmmloclaa
