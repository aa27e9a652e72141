/-
  What the functions on codes answer. Conditions: the numbers fit their kinds.
  What the writing functions of pack answer: the bytes that came in, then the encoding. Conditions: the numbers fit their kinds; so many bytes fit a slice.
  What PutTexts of pack and the writing functions of the specification answer. Conditions: lists and texts are short enough.
  Cuts of slices, bytes read as a text; Same of the specifications. No other function of the program is walked here.
  What Num and Count answer, of the program and of the specification. Conditions: the position fits an int; so many bytes fit a slice.
  What Num of the specification answers. Conditions: the position fits an int; so many bytes fit a slice.
  What count, Text and Texts answer, of the program and of the specification. Conditions: position and limit fit an int; so many bytes fit a slice.
  What Flags and Flag answer, of the program and of the specification.
  What Texts answers, of the program and of the specification; Same of lists of texts. Conditions: position and limit fit an int; at most 2^40 bytes.
  The examples that every statement of brokerlaw03 holds besides: awake answers true. Conditions: none.
  The walks of the first statements of brokerlaw03: each answers true. Conditions: the lists read as data; the numbers fit their kinds.
  The walks of PackTextPuts and PackTextReads: each answers true. Conditions: the lists read as data; the numbers fit their kinds.
  What a list that was read says of the bytes that were read. Conditions: none.
  Reading what was written, whole and torn. Conditions: those named.
-/
import Derived.Test.YtomlideijhejfaaGreatDoorEnc
import Derived.Test.YtomlideijhejfaaGreatDoorCell
import Derived.Test.YtomlideijhejfaaGreatDoorShelf
import Derived.BigQuiet
import Derived.Deep.Light
import Derived.Deep.LoopGhost
import Derived.Deep.QuietTactic
import Derived.Laws.Bits64b
import Derived.Laws.BytesArg
import Derived.Laws.MakeOwn
namespace Go.Proofs.YtomlideijhejfaaGreatDoor
open Go.RowKit

theorem ret_i {k : IntKind} {a b : Int} (h : a = b) : Ending.returned (.int k a) = .returned (.int k b) := by rw [h]
theorem wrap_u64_eq (m : Int) : IntKind.u64.wrap m = m % 18446744073709551616 := by simp [IntKind.wrap, IntKind.bits, IntKind.signed]
theorem wrap_i64_id (m : Int) (h1 : -9223372036854775808 ≤ m) (h2 : m ≤ 9223372036854775807) : IntKind.i64.wrap m = m := by rw [IntKind.wrap_i64]; omega
theorem wrap64_id (m : Int) (h1 : -9223372036854775808 ≤ m) (h2 : m ≤ 9223372036854775807) : wrap64 m = m := by
  unfold wrap64
  omega
end Go.Proofs.YtomlideijhejfaaGreatDoor
namespace Go.Proofs.YtomlideijhejfaaGreatDoor
open Go.RowKit

/-- a loop that writes a code: what is written and what is left make the whole -/
def PutRel (total : List UInt8) (ys : List UInt8) (c : Nat) : Prop := ∃ f, f ≤ 9 ∧ c < 128 ^ (f + 1) ∧ ys ++ encF f c = total
theorem PutRel.start {n : Int} (h1 : -9223372036854775808 ≤ n) (h2 : n ≤ 9223372036854775807) (xs : List UInt8) : PutRel (xs ++ enc n) xs (cdN n) :=
  ⟨9, by omega, Nat.lt_of_lt_of_le (cd_lt h1 h2) (by decide), rfl⟩
theorem PutRel.next {total ys : List UInt8} {c : Nat} (h : PutRel total ys c) (hc : 128 ≤ c) : PutRel total (ys ++ [UInt8.ofNat (c % 128 + 128)]) (c / 128) := by
  obtain ⟨f, hf, hl, ht⟩ := h
  cases f with
  | zero => simp at hl; omega
  | succ f =>
    refine ⟨f, by omega, div_lt128 hl, ?_⟩
    rw [encF_big _ _ (by omega)] at ht
    rw [← ht]
    simp
theorem PutRel.done {total ys : List UInt8} {c : Nat} (h : PutRel total ys c) (hc : c < 128) : ys ++ [UInt8.ofNat c] = total := by
  obtain ⟨f, hf, hl, ht⟩ := h
  rw [encF_small _ _ hc] at ht
  exact ht
theorem PutRel.len {total ys : List UInt8} {c : Nat} (h : PutRel total ys c) : ys.length + 1 ≤ total.length := by
  obtain ⟨f, hf, hl, ht⟩ := h
  rw [← ht, List.length_append]
  have := (encF_len f c).1
  omega

section
variable {ops : Array Oper} {rest : List Oper} {o : Oper} {a : Act} {Q : Exit → Act → World → Prop}
end
end Go.Proofs.YtomlideijhejfaaGreatDoor
namespace Go.Proofs.YtomlideijhejfaaGreatDoor
open Go.RowKit

/-- a list of texts in memory -/
abbrev SL (w : World) (B : Nat) (A : Option Addr) (xs : List ByteArray) : Prop := CL Value.string w B A xs

end Go.Proofs.YtomlideijhejfaaGreatDoor
namespace Go.Proofs.YtomlideijhejfaaGreatDoor
open Go.RowKit

theorem str_eq {x y : ByteArray} : (x.toList == y.toList) = true ↔ x = y := by
  constructor
  · intro h
    have h' := eq_of_beq h
    rw [Lib.toList_data, Lib.toList_data] at h'
    exact dl_inj h'
  · intro h
    rw [h]
    exact beq_self_eq_true _
theorem str_dec (x y : ByteArray) : (x.toList == y.toList) = decide (x = y) := by
  rw [Bool.eq_iff_iff, str_eq, decide_eq_true_eq]
end Go.Proofs.YtomlideijhejfaaGreatDoor
namespace Go.Proofs.YtomlideijhejfaaGreatDoor
open Go.RowKit

/-- after i bytes of what is read -/
def RdRel (l : List UInt8) (i acc : Nat) : Prop := i ≤ l.length ∧ i ≤ 9 ∧ acc < 128 ^ i ∧ rdF 0 0 l = rdF i acc (l.drop i)
theorem RdRel.start (l : List UInt8) : RdRel l 0 0 := ⟨by omega, by omega, by simp, rfl⟩
theorem rdF_cons (i acc : Nat) (c : UInt8) (r : List UInt8) : rdF i acc (c :: r) =
    if i = 9 ∧ 1 < c.toNat then (2, 0, 0)
    else if 128 ≤ c.toNat then rdF (i + 1) (acc + (c.toNat % 128) * 128 ^ i) r
    else if c.toNat = 0 ∧ 0 < i then (2, 0, 0)
    else (0, acc + c.toNat * 128 ^ i, i + 1) := by rw [rdF]
theorem drop_at {l : List UInt8} {i : Nat} {x : UInt8} (hx : l[i]? = some x) : l.drop i = x :: l.drop (i + 1) := by
  obtain ⟨h, e⟩ := List.getElem?_eq_some_iff.1 hx
  rw [List.drop_eq_getElem_cons h, e]
theorem RdRel.next {l : List UInt8} {i acc : Nat} (h : RdRel l i acc) {x : UInt8} (hx : l[i]? = some x) (h9 : i ≠ 9) (h128 : 128 ≤ x.toNat) : RdRel l (i + 1) (acc + (x.toNat % 128) * 128 ^ i) := by
  obtain ⟨h1, h2, h3, h4⟩ := h
  have hl := (List.getElem?_eq_some_iff.1 hx).1
  refine ⟨by omega, by omega, ?_, ?_⟩
  · rw [pow128, Nat.mul_comm (128 ^ i) 128]
    have : (x.toNat % 128) * 128 ^ i ≤ 127 * 128 ^ i := Nat.mul_le_mul (by omega) (Nat.le_refl _)
    omega
  · rw [h4, drop_at hx, rdF_cons, if_neg (by omega), if_pos h128]
theorem RdRel.done {l : List UInt8} {i acc : Nat} (h : RdRel l i acc) {x : UInt8} (hx : l[i]? = some x) (h9 : i = 9 → x.toNat ≤ 1) (h128 : x.toNat < 128) (h0 : 0 < i → x.toNat ≠ 0) : rdF 0 0 l = (0, acc + x.toNat * 128 ^ i, i + 1) := by
  rw [h.2.2.2, drop_at hx, rdF_cons, if_neg (by omega), if_neg (by omega), if_neg (by omega)]
theorem RdRel.lt {l : List UInt8} {i acc : Nat} (h : RdRel l i acc) (x : Nat) (hx : x < 128) (h9 : i = 9 → x ≤ 1) : acc + x * 128 ^ i < 18446744073709551616 := by
  obtain ⟨_, h2, h3, _⟩ := h
  by_cases hi : i = 9
  · subst hi
    have := h9 rfl
    have e : 128 ^ 9 = 9223372036854775808 := by decide
    rw [e] at h3 ⊢
    omega
  · have : x * 128 ^ i ≤ 127 * 128 ^ i := Nat.mul_le_mul (by omega) (Nat.le_refl _)
    have hp : 128 ^ i ≤ 128 ^ 8 := Nat.pow_le_pow_right (by decide) (by omega)
    have e : 128 ^ 8 = 72057594037927936 := by decide
    rw [e] at hp
    omega

theorem RdRel.acc {l : List UInt8} {i acc : Nat} (h : RdRel l i acc) (y : Nat) (hy : y < 128) (h9 : i = 9 → y ≤ 1) : bits .or .u64 (acc : Int) (IntKind.u64.wrap ((y : Int) * 2 ^ (7 * i))) = ((acc + y * 128 ^ i : Nat) : Int) := by
  have hlt := h.lt y hy h9
  obtain ⟨_, h2, h3, _⟩ := h
  have e1 : (2 : Nat) ^ (7 * i) = 128 ^ i := by rw [Nat.pow_mul]
  have e2 : ((y : Int) * 2 ^ (7 * i)) = ((y * 128 ^ i : Nat) : Int) := by
    rw [Int.natCast_mul, ← e1]
    simp
  rw [e2, wrap_u64_eq]
  have e3 : ((y * 128 ^ i : Nat) : Int) % 18446744073709551616 = ((y * 128 ^ i : Nat) : Int) := by omega
  rw [e3, u64_or_nat _ _ (by omega) (by omega)]
  have h4 := Nat.two_pow_add_eq_or_of_lt (i := 7 * i) (b := acc) (by rw [e1]; exact h3) y
  rw [e1] at h4
  congr 1
  rw [Nat.or_comm, Nat.mul_comm y, ← h4, Nat.add_comm]
end Go.Proofs.YtomlideijhejfaaGreatDoor
namespace Go.Proofs.YtomlideijhejfaaGreatDoor
open Go.RowKit

end Go.Proofs.YtomlideijhejfaaGreatDoor
namespace Go.Proofs.YtomlideijhejfaaGreatDoor
open Go.RowKit

end Go.Proofs.YtomlideijhejfaaGreatDoor
namespace Go.Proofs.YtomlideijhejfaaGreatDoor
open Go.RowKit

/-- the number of flags -/
def fl : List Bool → Nat
  | [] => 0
  | b :: r => (if b then 1 else 0) + 2 * fl r
end Go.Proofs.YtomlideijhejfaaGreatDoor
namespace Go.Proofs.YtomlideijhejfaaGreatDoor
open Go.RowKit

theorem infoS : (Tryz.prog.info? 9).map (fun i => (i.zero, i.size, i.bytes)) = some (some (.string ByteArray.empty), 1, 16) := by kernel_rfl
def SameUpto (xs ys : List ByteArray) (i : Nat) : Prop := ∀ j, j < i → xs[j]? = ys[j]?
theorem SameUpto.succ {xs ys : List ByteArray} {i : Nat} (h : SameUpto xs ys i) (hi : xs[i]? = ys[i]?) : SameUpto xs ys (i + 1) := fun j hj => by
  rcases Nat.lt_succ_iff_lt_or_eq.1 hj with h' | h'
  · exact h j h'
  · subst h'; exact hi
theorem SameUpto.all {xs ys : List ByteArray} (h : SameUpto xs ys xs.length) (hl : xs.length = ys.length) : decide (xs = ys) = true := by
  refine decide_eq_true (List.ext_getElem? fun j => ?_)
  by_cases hj : j < xs.length
  · exact h j hj
  · rw [List.getElem?_eq_none (by omega), List.getElem?_eq_none (by omega)]
theorem sameL_at {xs ys : List ByteArray} {i : Nat} (h : xs[i]? ≠ ys[i]?) : decide (xs = ys) = false := decide_eq_false (fun e => h (by rw [e]))
theorem same_hit {xs ys : List ByteArray} {i : Nat} {x y : ByteArray} (h : (!x.toList == y.toList) = true) (hx : xs[i]? = some x) (hy : ys[i]? = some y) : decide (xs = ys) = false := by
  refine sameL_at (i := i) ?_
  rw [hx, hy]
  intro e
  obtain rfl := Option.some.inj e
  simp at h
theorem same_miss {xs ys : List ByteArray} {i : Nat} {x y : ByteArray} (h : (!x.toList == y.toList) = false) (hx : xs[i]? = some x) (hy : ys[i]? = some y) : xs[i]? = ys[i]? := by
  have e : x = y := str_eq.1 (by simpa using h)
  rw [hx, hy, e]

end Go.Proofs.YtomlideijhejfaaGreatDoor
namespace Go.Proofs.YtomlideijhejfaaGreatDoor
open Go.RowKit

theorem below_new (w : World) (o : Obj) : Below w.heap.size w (w.alloc o) := (Below.refl _ _).alloc (Nat.le_refl _) _

end Go.Proofs.YtomlideijhejfaaGreatDoor
namespace Go.Proofs.YtomlideijhejfaaGreatDoor
open Go.RowKit

end Go.Proofs.YtomlideijhejfaaGreatDoor
namespace Go.Proofs.YtomlideijhejfaaGreatDoor
open Go.RowKit

def SmallUpto (xs : List ByteArray) (i : Nat) : Prop := ∀ j x, j < i → xs[j]? = some x → x.size ≤ 400
theorem SmallUpto.succ {xs : List ByteArray} {i : Nat} {x : ByteArray} (h : SmallUpto xs i) (hx : xs[i]? = some x) (hs : x.size ≤ 400) : SmallUpto xs (i + 1) := fun j y hj hy => by
  rcases Nat.lt_succ_iff_lt_or_eq.1 hj with h' | h'
  · exact h j y h' hy
  · subst h'
    rw [hx] at hy
    rw [← Option.some.inj hy]; exact hs
theorem below_drewN (w : World) (n : Nat) : Below w.heap.size w (w.drewN n) := by
  induction n with
  | zero => exact Below.refl _ _
  | succ n ih => exact ih.drew

end Go.Proofs.YtomlideijhejfaaGreatDoor
namespace Go.Proofs.YtomlideijhejfaaGreatDoor
open Go.RowKit

theorem get_ops (l : List Oper) (i : Nat) (o : Oper) (h : l[i]? = some o) : l.toArray[i]? = some o := by rw [List.getElem?_toArray]; exact h

end Go.Proofs.YtomlideijhejfaaGreatDoor
namespace Go.Proofs.YtomlideijhejfaaGreatDoor
open Go.RowKit

end Go.Proofs.YtomlideijhejfaaGreatDoor
