/-
  What Same of packet and of the specification answer: whether two packets are one. Conditions: the packets read as data; lengths fit an int.
-/
import Derived.Test.YtomlideijhejfaaGreatDoorPlainP
import Derived.Test.YtomlideijhejfaaGreatDoorEqN
import Derived.Test.YtomlideijhejfaaGreatDoorSame
import Derived.Deep.RegionHeld3
namespace Go.Proofs.YtomlideijhejfaaGreatDoor
open Go.RowKit

set_option maxRecDepth 20000 in
set_option maxHeartbeats 4000000 in
theorem eqPl (a0 b0 : Int) (a1 b1 : Int) (a2 b2 : Bool) (a3 b3 : ByteArray) (a4 b4 : ByteArray) (a5 b5 : Bool) (a6 b6 : Int) (a7 b7 : Int) (a8 b8 : Int) (a9 b9 : Bool) (a10 b10 : Int) (a11 b11 : Bool) (a12 b12 : Int) (w : World) : Sem.run Tryz.prog (binOp .eql 93 (.agg #[.int .i64 a0, .int .i64 a1, .bool a2, .string a3, .string a4, .bool a5, .int .i64 a6, .int .i64 a7, .int .i64 a8, .bool a9, .int .i64 a10, .bool a11, .int .i64 a12]) (.agg #[.int .i64 b0, .int .i64 b1, .bool b2, .string b3, .string b4, .bool b5, .int .i64 b6, .int .i64 b7, .int .i64 b8, .bool b9, .int .i64 b10, .bool b11, .int .i64 b12])) w = .ok (.bool (decide (a0 = b0 ∧ a1 = b1 ∧ a2 = b2 ∧ a3 = b3 ∧ a4 = b4 ∧ a5 = b5 ∧ a6 = b6 ∧ a7 = b7 ∧ a8 = b8 ∧ a9 = b9 ∧ a10 = b10 ∧ a11 = b11 ∧ a12 = b12))) w := by
  have u3 := Tryz.underlying9
  have aa3 := Tryz.isAgg9
  have z3 := Tryz.sizeOf9
  have u4 := Tryz.underlying3
  have aa4 := Tryz.isAgg3
  have z4 := Tryz.sizeOf3
  have u5 := Tryz.underlying4
  have aa5 := Tryz.isAgg4
  have z5 := Tryz.sizeOf4
  have hS : Tryz.prog.underlying 93 = some (.struct (Tryz.prog.fieldsOf 93)) := by kernel_rfl
  have hp : Tryz.prog.stoodInHeld 93 = false := by kernel_rfl
  have hs3 := str_dec a3 b3
  have hs4 := str_dec a4 b4
  rw [run_eql_struct, show (10000 : Nat) = 9999 + 1 from rfl, run_equalIn_agg w 9999 93 _ _ hS hp]
  simp only [Program.fieldsOf, Tryz.underlying93]
  by_cases q0 : a0 = b0
  case neg => go_simp
  by_cases q1 : a1 = b1
  case neg => go_simp
  by_cases q2 : a2 = b2
  case neg => go_simp
  by_cases q3 : a3 = b3
  case neg => go_simp
  by_cases q4 : a4 = b4
  case neg => go_simp
  by_cases q5 : a5 = b5
  case neg => go_simp
  by_cases q6 : a6 = b6
  case neg => go_simp
  by_cases q7 : a7 = b7
  case neg => go_simp
  by_cases q8 : a8 = b8
  case neg => go_simp
  by_cases q9 : a9 = b9
  case neg => go_simp
  by_cases q10 : a10 = b10
  case neg => go_simp
  by_cases q11 : a11 = b11
  case neg => go_simp
  by_cases q12 : a12 = b12
  case neg => go_simp
  subst q0 q1 q2 q3 q4 q5 q6 q7 q8 q9 q10 q11 q12
  go_simp

end Go.Proofs.YtomlideijhejfaaGreatDoor
