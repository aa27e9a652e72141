/-
  The library's IndexRune at the two wildcards and a rune of two bytes: not found. Conditions: as in the theorem.
-/
import Derived.Test.YtjhojpghllnoiaaDoorRunes
namespace Go.Proofs.YtjhojpghllnoiaaDoor.S1
open Go.RowKit

theorem idx_none (s : ByteArray) (c : Int) (w : World) (h : Lib.indexByte s.data.toList c.toNat.toUInt8 = -1) :
    Calls Tryd.prog 87 #[.string s, .int .u8 c] w fun e w' => e = .returned (.int .i64 (-1)) ∧ w' = w :=
  (Tryd.strings_IndexByte s c w).mono fun e w' ⟨he, hw⟩ => ⟨by rw [he, h], hw⟩

set_option maxHeartbeats 2000000 in
set_option maxRecDepth 1000000 in
theorem idxRune_two (r : Nat) (h128 : 128 ≤ r) (hmax : r ≤ 2147483647) (he : r ≠ 65533) (hv : Lib.validRune (r : Int) = true) (a b : UInt8) (hab : Utf8.encode r = ⟨#[a, b]⟩) (hb : 128 ≤ b.toNat) (w : World) :
    Calls Tryd.prog 81 #[.string ⟨#[43, 35]⟩, .int .i32 r] w fun e w' => e = .returned (.int .i64 (-1)) ∧ Below w.heap.size w w' := by
  have d1 : decide ((r : Int) < 128) = false := decide_eq_false (by omega)
  have d0 : decide ((0 : Int) ≤ (r : Int)) = true := decide_eq_true (by omega)
  have q : ((r : Int) == 65533) = false := beq_eq_false_iff_ne.2 (by omega)
  have hb35 : ((((⟨#[43, 35]⟩ : ByteArray)[1]'(by decide)).toNat : Int) != (((⟨#[a, b]⟩ : ByteArray)[1]'(by show 1 < 2; decide)).toNat : Int)) = true := by
    show ((35 : Int) != (b.toNat : Int)) = true
    rw [bne_iff_ne]; omega
  clear he
  go_enter Tryd.func81, Tryd.ntmps81
  go_wp2_with (go_at_call 88; refine (Tryd.utf8_ValidRune _ _).mono ?_; rintro e w' ⟨rfl, rfl⟩)
  go_step3
  go_wp2
  refine wp_loop_rounds 1 ?_
  rw [rounds_succ]
  go_wp2
  go_step3
  go_wp2
  go_quiet (fail)
  obtain ⟨w2, hw2⟩ : ∃ w2, w2 = w'.drewN nq := ⟨_, rfl⟩
  have HB : Below w'.heap.size w' w2 := by subst hw2; exact ⟨rfl, rfl, rfl, Nat.le_refl _, fun _ _ => rfl⟩
  rw [← hw2]
  clear hw2
  go_wp2
  go_quiet ((go_at_call 87; exact Calls.quiet_of_same (idx_none _ _ _ (by rfl))))
  go_wp2
  rw [Exit.noGoto_ret]
  go_wp2
  rw [Exit.noGoto_ret]
  go_ret
  exact ⟨rfl, by first | exact HB | exact ⟨HB.os, HB.tape, HB.output, HB.size, HB.block⟩⟩


end Go.Proofs.YtjhojpghllnoiaaDoor.S1
