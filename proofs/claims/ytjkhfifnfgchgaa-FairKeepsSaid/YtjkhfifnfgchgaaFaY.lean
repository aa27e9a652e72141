/-
  The law FairKeeps in the form in which it is said. Conditions: the list reads as data; names fit an int.
-/
import Derived.Test.YtjkhfifnfgchgaaFaZ
import Derived.Test.YtjkhfifnfgchgaaFaK
namespace Go.Proofs.Ytjkhfifnfgchgaa
open Go.RowKit

set_option maxRecDepth 20000
theorem fairKeeps_long (A : Option Addr) (c : Nat) (xs : List Cs) (x : Cs) (n : Int) (w : World) (h32 : 32 < xs.length) :
    Calls Try.prog 6 #[.slice A xs.length c, csV x, .int .i64 n] w fun e w' => e = .returned (.bool true) ∧ Below w.heap.size w w' := by
  have HX := Lib.hid (fun w1 => example_any w1)
  have HCK := Lib.hid (fun w1 => rCheckL_any A c xs w1 h32)
  clear h32
  unfold csV
  go_enter Try.func6, Try.ntmps6
  go_upto_region 1 with fail
  refine name_world (C := fun w1 => Code.wp _ _ _ _ w1) (w.alloc (.cells (gC x).toArray 25)) ?_
  intro w0 hw0
  have B_w0 : Hid (Below w.heap.size w w0) := Lib.hid (by rw [hw0]; exact S2.below_new w _)
  clear hw0
  go_wp2_with fail
  refine (HCK.out w0).mono ?_
  rintro e w1 ⟨rfl, hb⟩
  have B_w1 := Lib.hid (stepB B_w0.out hb)
  clear hb HCK
  go_wp2_with fail
  refine (HX.out w1).mono ?_
  rintro e w2 ⟨rfl, hb⟩
  have B_w2 := Lib.hid (stepB B_w1.out hb)
  clear hb
  go_wp2
  go_ret
  exact ⟨rfl, B_w2.out⟩
theorem fairKeeps_w (A : Option Addr) (c : Nat) (xs : List Cs) (x : Cs) (n : Int) (w : World) (h : CsL w w.heap.size A xs) (hc : xs.length ≤ c) (hq : ∀ y ∈ xs, y.qu.size ≤ 9223372036854775807) (hxq : x.qu.size ≤ 9223372036854775807) :
    Calls Try.prog 6 #[.slice A xs.length c, csV x, .int .i64 n] w fun e w' => e = .returned (.bool true) ∧ Below w.heap.size w w' := by
  by_cases hn : 32 < xs.length
  · exact fairKeeps_long A c xs x n w hn
  · exact fairKeeps_walk A c xs x n w h hc hq (by omega) hxq
end Go.Proofs.Ytjkhfifnfgchgaa
