/-
  The library's IndexRune at the two wildcards and a rune of three or four bytes: not found. Conditions: as in the theorem.
-/
import Derived.Test.YtjhojpghllnoiaaDoorRunes
namespace Go.Proofs.YtjhojpghllnoiaaDoor.S1
open Go.RowKit

set_option maxHeartbeats 2000000 in
set_option maxRecDepth 1000000 in
theorem idxRune_more (r : Nat) (h128 : 128 ≤ r) (hmax : r ≤ 2147483647) (he : r ≠ 65533) (hv : Lib.validRune (r : Int) = true) (en : ByteArray) (hab : Utf8.encode r = en) (h3 : 3 ≤ (en.size : Int)) (h4 : (en.size : Int) ≤ 4) (w : World) :
    Calls Tryd.prog 81 #[.string ⟨#[43, 35]⟩, .int .i32 r] w fun e w' => e = .returned (.int .i64 (-1)) ∧ Below w.heap.size w w' := by
  have d1 : decide ((r : Int) < 128) = false := decide_eq_false (by omega)
  have d0 : decide ((0 : Int) ≤ (r : Int)) = true := decide_eq_true (by omega)
  have q : ((r : Int) == 65533) = false := beq_eq_false_iff_ne.2 (by omega)
  clear he
  go_enter Tryd.func81, Tryd.ntmps81
  go_wp2_with (go_at_call 88; refine (Tryd.utf8_ValidRune _ _).mono ?_; rintro e w' ⟨rfl, rfl⟩)
  go_step3
  go_wp2
  refine wp_loop_rounds 1 ?_
  rw [rounds_succ]
  go_wp2
  repeat rw [Exit.noGoto_ret]
  go_ret
  exact ⟨rfl, Below.refl _ _⟩


end Go.Proofs.YtjhojpghllnoiaaDoor.S1
