/-
  What the specification's small functions on credits answer, and the list of credits in memory. Conditions: the numbers fit an int.
-/
import Derived.Test.YtomlideijhejfabFlP
import Derived.Test.YtomlideijhejfabRow
import Derived.Test.YtomlideijhejfabBlk
namespace Go.Proofs.Ytomlideijhejfab
open Go.RowKit

/-- a credit by value -/
abbrev cv (m u : Int) : Value := .agg #[.int .i64 m, .int .i64 u]
def gC (x : Int × Int) : List Value := [.int .i64 x.1, .int .i64 x.2]
abbrev CrL (w : World) (B : Nat) (A : Option Addr) (X : List (Int × Int)) : Prop := GL gC 2 w B A X
theorem CrL.at_ {w : World} {B : Nat} {A : Option Addr} {X : List (Int × Int)} (h : CrL w B A X) {j : Nat} {x : Int × Int} (hx : X[j]? = some x) :
    ∃ b o, A = some ⟨b, o, none⟩ ∧ b < B ∧ w.cell? ⟨b, o + j * 2, none⟩ = some (.int .i64 x.1) ∧ w.cell? ⟨b, o + j * 2 + 1, none⟩ = some (.int .i64 x.2) := by
  obtain ⟨b, o, e, hb, hc⟩ := h (Nat.lt_of_le_of_lt (Nat.zero_le _) (List.getElem?_eq_some_iff.1 hx).1)
  exact ⟨b, o, e, hb, hc j x 0 _ hx rfl, hc j x 1 _ hx rfl⟩
def fitC (x : Int × Int) : Prop := (-9223372036854775808 ≤ x.1 ∧ x.1 ≤ 9223372036854775807) ∧ (-9223372036854775808 ≤ x.2 ∧ x.2 ≤ 9223372036854775807)
theorem okC_iff {x : Int × Int} : okC x = true ↔ 0 ≤ x.1 ∧ x.1 ≤ 1099511627776 ∧ 0 ≤ x.2 ∧ x.2 ≤ 1099511627776 := by unfold okC; rw [decide_eq_true_eq]

set_option maxHeartbeats 1000000 in
theorem rValidC_any (m u : Int) (w : World) : Calls Try.prog 9 #[cv m u] w fun e w' => e = .returned (.bool (okC (m, u))) ∧ Below w.heap.size w w' := by
  have HB := Lib.hid (below_new w (.cells #[.int .i64 m, .int .i64 u] 23))
  have e : okC (m, u) = (decide (0 ≤ m) && decide (m ≤ 1099511627776) && decide (0 ≤ u) && decide (u ≤ 1099511627776)) := by
    unfold okC
    by_cases h1 : 0 ≤ m <;> by_cases h2 : m ≤ 1099511627776 <;> by_cases h3 : 0 ≤ u <;> by_cases h4 : u ≤ 1099511627776 <;> simp [h1, h2, h3, h4]
  rw [e]
  clear e
  generalize h1 : decide (0 ≤ m) = x1
  generalize h2 : decide (m ≤ 1099511627776) = x2
  generalize h3 : decide (0 ≤ u) = x3
  generalize h4 : decide (u ≤ 1099511627776) = x4
  cases x1 <;> cases x2 <;> cases x3 <;>
    (go_enter Try.func9, Try.ntmps9
     go_wp2
     go_ret
     exact ⟨rfl, HB.out⟩)

set_option maxHeartbeats 1000000 in
theorem rLeftC_any (m u : Int) (_h : -9223372036854775808 ≤ u ∧ u ≤ 9223372036854775807) (_hm : -9223372036854775808 ≤ m ∧ m ≤ 9223372036854775807) (hd : u < m → m - u ≤ 9223372036854775807) (w : World) :
    Calls Try.prog 19 #[cv m u] w fun e w' => e = .returned (.int .i64 (lfC (m, u))) ∧ Below w.heap.size w w' := by
  have HB := Lib.hid (below_new w (.cells #[.int .i64 m, .int .i64 u] 23))
  by_cases hc : m ≤ u
  · have e : lfC (m, u) = 0 := by unfold lfC; rw [if_pos hc]
    rw [e]
    have q : decide (m ≤ u) = true := decide_eq_true hc
    clear hc e hd
    go_enter Try.func19, Try.ntmps19
    go_wp2
    go_ret
    exact ⟨rfl, HB.out⟩
  · have e : lfC (m, u) = m - u := by unfold lfC; rw [if_neg hc]
    rw [e]
    have q : decide (m ≤ u) = false := decide_eq_false hc
    have hd2 := hd (by omega)
    have w1 : wrap64 (m - u) = m - u := wrap64_id _ (by omega) (by omega)
    have w2 : IntKind.i64.wrap (m - u) = m - u := wrap_i64_id _ (by omega) (by omega)
    clear hc e hd
    go_enter Try.func19, Try.ntmps19
    go_wp2
    go_ret
    exact ⟨ret_i (by first | rfl | exact w1), HB.out⟩

set_option maxHeartbeats 1000000 in
theorem same16_any (m u m' u' : Int) (w : World) : Calls Try.prog 13 #[cv m u, cv m' u'] w fun e w' => e = .returned (.bool (m == m' && u == u')) ∧ Below w.heap.size w w' := by
  have HB := Lib.hid (stepB (below_new w (.cells #[.int .i64 m, .int .i64 u] 23)) (below_new _ (.cells #[.int .i64 m', .int .i64 u'] 23)))
  generalize h1 : (m == m') = x1
  generalize h2 : (u == u') = x2
  cases x1 <;>
    (go_enter Try.func13, Try.ntmps13
     go_wp2
     go_ret
     exact ⟨rfl, HB.out⟩)
theorem same16_self (m u : Int) (w : World) : Calls Try.prog 13 #[cv m u, cv m u] w fun e w' => e = .returned (.bool true) ∧ Below w.heap.size w w' := by
  have := same16_any m u m u w
  simpa using this
/-- a credit and a truth value that a call answers -/
def RetCB (m u : Int) (b : Bool) (W : World) (e : Ending) (w' : World) : Prop := e = .returned (.tuple #[cv m u, .bool b]) ∧ Below W.heap.size W w'
def RetC (m u : Int) (W : World) (e : Ending) (w' : World) : Prop := e = .returned (cv m u) ∧ Below W.heap.size W w'
def takeC (m u : Int) : Int := if lfC (m, u) = 0 then u else u + 1
def giveC (u : Int) : Int := if u = 0 then u else u - 1
def limC (x : Int) : Int := if x < 0 then 0 else if 1099511627776 < x then 1099511627776 else x
theorem below_set2' {B : Nat} {w0 w : World} (h : Below B w0 w) {b : Nat} (hb : B ≤ b) (u v : Value) : Below B w0 ((w.setCell ⟨b, 0, none⟩ u).setCell ⟨b, 1, none⟩ v) := (h.setCell (p := ⟨b, 0, none⟩) hb u).setCell (p := ⟨b, 1, none⟩) hb v
end Go.Proofs.Ytomlideijhejfab
