/-
  The laws of fair in the form in which they are said. Conditions: the lists read as data; names fit an int.
-/
import Derived.Test.YtjkhfifnfgchgaaFaW
import Derived.Test.YtjkhfifnfgchgaaFaX
import Derived.Test.YtjkhfifnfgchgaaFaT
namespace Go.Proofs.Ytjkhfifnfgchgaa
open Go.RowKit

set_option maxRecDepth 20000
theorem rCheckL_any (A : Option Addr) (c : Nat) (xs : List Cs) (w : World) (h32 : 32 < xs.length) :
    Calls Try.prog 12 #[.slice A xs.length c] w fun e w' => e = .returned (.int .i64 5) ∧ Below w.heap.size w w' := by
  have e1 : decide ((32 : Int) < (xs.length : Int)) = true := decide_eq_true (by omega)
  have e1' : decide (32 < xs.length) = true := decide_eq_true h32
  clear h32
  go_enter Try.func12, Try.ntmps12
  go_wp2
  go_ret
  exact ⟨rfl, Below.refl _ _⟩
theorem fairPlays_long (A : Option Addr) (c : Nat) (xs : List Cs) (Ao : Option Addr) (co n : Nat) (w : World) (h32 : 32 < xs.length) :
    Calls Try.prog 5 #[.slice A xs.length c, .slice Ao n co] w fun e w' => e = .returned (.bool true) ∧ Below w.heap.size w w' := by
  have HX := Lib.hid (fun w1 => example_any w1)
  have HCK := Lib.hid (rCheckL_any A c xs w h32)
  clear h32
  go_enter Try.func5, Try.ntmps5
  go_wp2_with fail
  refine HCK.out.mono ?_
  rintro e w1 ⟨rfl, hb⟩
  have B_w1 := Lib.hid hb
  clear hb HCK
  go_wp2_with fail
  refine (HX.out w1).mono ?_
  rintro e w2 ⟨rfl, hb⟩
  have B_w2 := Lib.hid (stepB B_w1.out hb)
  clear hb
  go_wp2
  go_ret
  exact ⟨rfl, B_w2.out⟩
theorem fairChecks_w (A : Option Addr) (c : Nat) (xs : List Cs) (w : World) (h : CsL w w.heap.size A xs) (hc : xs.length ≤ c) (hq : ∀ x ∈ xs, x.qu.size ≤ 9223372036854775807) :
    Calls Try.prog 3 #[.slice A xs.length c] w fun e w' => e = .returned (.bool true) ∧ Below w.heap.size w w' := fairChecks_walk A c xs w h hc hq
theorem fairNext_w (A : Option Addr) (c : Nat) (xs : List Cs) (q : ByteArray) (last : Int) (w : World) (h : CsL w w.heap.size A xs) (_ : xs.length ≤ c) (_ : ∀ x ∈ xs, x.qu.size ≤ 9223372036854775807) (_ : q.size ≤ 140737488355328) :
    Calls Try.prog 4 #[.slice A xs.length c, .string q, .int .i64 last] w fun e w' => e = .returned (.bool true) ∧ Below w.heap.size w w' := fairNext_walk A c xs q last w h
theorem fairTurns_w (A : Option Addr) (c : Nat) (xs : List Cs) (q : ByteArray) (last : Int) (w : World) (h : CsL w w.heap.size A xs) (hc : xs.length ≤ c) (_ : ∀ x ∈ xs, x.qu.size ≤ 9223372036854775807) (_ : q.size ≤ 140737488355328) :
    Calls Try.prog 7 #[.slice A xs.length c, .string q, .int .i64 last] w fun e w' => e = .returned (.bool true) ∧ Below w.heap.size w w' := fairTurns_walk A c xs q last w h hc
theorem fairPlays_w (A : Option Addr) (c : Nat) (xs0 : List Cs) (Ao : Option Addr) (co : Nat) (ops : List FOp) (w : World) (h : CsL w w.heap.size A xs0) (hc : xs0.length ≤ c) (hq : ∀ x ∈ xs0, x.qu.size ≤ 9223372036854775807)
    (ho : OpL w w.heap.size Ao ops) (_ : ops.length ≤ co) (hqo : ∀ x ∈ ops, x.c.qu.size ≤ 9223372036854775807) :
    Calls Try.prog 5 #[.slice A xs0.length c, .slice Ao ops.length co] w fun e w' => e = .returned (.bool true) ∧ Below w.heap.size w w' := by
  by_cases hn : 32 < xs0.length
  · exact fairPlays_long A c xs0 Ao co ops.length w hn
  · exact fairPlays_walk A c xs0 Ao co ops w h hc hq (by omega) ho hqo
end Go.Proofs.Ytjkhfifnfgchgaa
