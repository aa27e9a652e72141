/-
  What the functions on codes answer. Conditions: the numbers fit their kinds.
  What the writing functions of pack answer: the bytes that came in, then the encoding. Conditions: the numbers fit their kinds; so many bytes fit a slice.
  What PutTexts of pack and the writing functions of the specification answer. Conditions: lists and texts are short enough.
  Cuts of slices, bytes read as a text; Same of the specifications. No other function of the program is walked here.
  What Num and Count answer, of the program and of the specification. Conditions: the position fits an int; so many bytes fit a slice.
  What Num of the specification answers. Conditions: the position fits an int; so many bytes fit a slice.
  What count, Text and Texts answer, of the program and of the specification. Conditions: position and limit fit an int; so many bytes fit a slice.
  What Flags and Flag answer, of the program and of the specification.
  What Texts answers, of the program and of the specification; Same of lists of texts. Conditions: position and limit fit an int; at most 2^40 bytes.
  The examples that every statement of brokerlaw03 holds besides: awake answers true. Conditions: none.
  The walks of the first statements of brokerlaw03: each answers true. Conditions: the lists read as data; the numbers fit their kinds.
  The walks of PackTextPuts and PackTextReads: each answers true. Conditions: the lists read as data; the numbers fit their kinds.
  What a list that was read says of the bytes that were read. Conditions: none.
  Reading what was written, whole and torn. Conditions: those named.
-/
import Derived.Test.YtjhojpghllnoiaaDoorEnc
import Derived.Test.YtjhojpghllnoiaaDoorCell
import Derived.Test.YtjhojpghllnoiaaDoorShelf
import Derived.Laws.Bits64b
import Derived.Laws.MakeOwn
import Derived.Laws.BytesArg
import Derived.Deep.QuietTactic
import Derived.BigQuiet
import Derived.Deep.LoopGhost
import Derived.Deep.Light
namespace Go.Proofs.YtjhojpghllnoiaaDoor
open Go.RowKit

theorem ret_i {k : IntKind} {a b : Int} (h : a = b) : Ending.returned (.int k a) = .returned (.int k b) := by rw [h]
theorem wrap_u64_eq (m : Int) : IntKind.u64.wrap m = m % 18446744073709551616 := by simp [IntKind.wrap, IntKind.bits, IntKind.signed]
theorem wrap_i64_id (m : Int) (h1 : -9223372036854775808 ≤ m) (h2 : m ≤ 9223372036854775807) : IntKind.i64.wrap m = m := by rw [IntKind.wrap_i64]; omega
theorem wrap64_id (m : Int) (h1 : -9223372036854775808 ≤ m) (h2 : m ≤ 9223372036854775807) : wrap64 m = m := by
  unfold wrap64
  omega
theorem xor_ones (x : Nat) (h : x < 18446744073709551616) : x ^^^ 18446744073709551615 = 18446744073709551615 - x := by
  have e : (18446744073709551615 : Nat) - x = 2 ^ 64 - (x + 1) := by omega
  have e2 : (18446744073709551615 : Nat) = 2 ^ 64 - 1 := by decide
  rw [e]
  refine Nat.eq_of_testBit_eq fun i => ?_
  rw [Nat.testBit_two_pow_sub_succ (by omega : x < 2 ^ 64), Nat.testBit_xor, e2, Nat.testBit_two_pow_sub_one]
  by_cases hi : i < 64
  · simp [hi]
  · have : x.testBit i = false := Nat.testBit_lt_two_pow (Nat.lt_of_lt_of_le h (by
      have : (2 : Nat) ^ 64 ≤ 2 ^ i := Nat.pow_le_pow_right (by decide) (by omega)
      simpa using this))
    simp [hi, this]
theorem encoded_form (n : Int) (h1 : -9223372036854775808 ≤ n) (h2 : n ≤ 9223372036854775807) :
    bits .xor .u64 (IntKind.u64.wrap (IntKind.u64.wrap n * 2)) (IntKind.u64.wrap (n / 9223372036854775808)) = (cdN n : Int) := by
  rw [wrap_u64_eq, wrap_u64_eq, wrap_u64_eq]
  by_cases h0 : 0 ≤ n
  · have e1 : n % 18446744073709551616 * 2 % 18446744073709551616 = ((2 * n).toNat : Int) := by omega
    have e2 : n / 9223372036854775808 % 18446744073709551616 = ((0 : Nat) : Int) := by omega
    rw [e1, e2, u64_xor_nat _ _ (by omega) (by omega), Nat.xor_zero]
    unfold cdN
    rw [if_pos h0]
  · have e1 : n % 18446744073709551616 * 2 % 18446744073709551616 = ((2 * n + 18446744073709551616).toNat : Int) := by omega
    have e2 : n / 9223372036854775808 % 18446744073709551616 = ((18446744073709551615 : Nat) : Int) := by omega
    rw [e1, e2, u64_xor_nat _ _ (by omega) (by omega), xor_ones _ (by omega)]
    unfold cdN
    rw [if_neg h0]
    omega
theorem i64_xor_ones (a : Int) (h1 : 0 ≤ a) (h2 : a ≤ 9223372036854775807) : bits .xor .i64 a (-1) = -a - 1 := by
  have e1 : (BitVec.ofInt 64 a ^^^ BitVec.ofInt 64 (-1)) = ~~~ (BitVec.ofInt 64 a) := by
    have : BitVec.ofInt 64 (-1) = BitVec.allOnes 64 := by decide
    rw [this, BitVec.xor_allOnes]
  show IntKind.i64.wrap ((BitVec.ofInt 64 a ^^^ BitVec.ofInt 64 (-1)).toNat : Nat) = _
  rw [e1, BitVec.toNat_not, BitVec.toNat_ofInt, IntKind.wrap_i64]
  omega
theorem i64_xor_zero (a : Int) (h1 : 0 ≤ a) (h2 : a ≤ 9223372036854775807) : bits .xor .i64 a 0 = a := by
  have e1 : (BitVec.ofInt 64 a ^^^ BitVec.ofInt 64 0) = (BitVec.ofInt 64 a) := by
    have : BitVec.ofInt 64 0 = 0#64 := by decide
    rw [this, BitVec.xor_zero]
  show IntKind.i64.wrap ((BitVec.ofInt 64 a ^^^ BitVec.ofInt 64 0).toNat : Nat) = _
  rw [e1, BitVec.toNat_ofInt, IntKind.wrap_i64]
  omega
theorem decoded_form (c : Nat) (h1 : c < 18446744073709551616) :
    bits .xor .i64 ((c : Int) / 2) (wrap64 (-wrap64 (bits .and .u64 (c : Int) 1))) = ncI c := by
  have e : bits .and .u64 (c : Int) 1 = ((c % 2 : Nat) : Int) := by
    have := u64_and_nat c 1 h1 (by decide)
    rw [Nat.and_one_is_mod] at this
    exact this
  rw [e]
  have hr := nc_range h1
  unfold ncI at hr ⊢
  by_cases h0 : c % 2 = 0
  · rw [h0, if_pos rfl]
    have : wrap64 (-wrap64 ((0 : Nat) : Int)) = 0 := by unfold wrap64; omega
    rw [this, i64_xor_zero _ (by omega) (by omega)]
    omega
  · have h1' : c % 2 = 1 := by omega
    rw [h1', if_neg (by decide)]
    have : wrap64 (-wrap64 ((1 : Nat) : Int)) = -1 := by unfold wrap64; omega
    rw [this, i64_xor_ones _ (by omega) (by omega)]
    omega

theorem number_even {c : Nat} (h : ((c : Int) % 2 == 0) = true) : (c : Int) / 2 = ncI c := by
  have h := eq_of_beq h
  unfold ncI
  rw [if_pos (by omega)]
  omega
theorem number_odd {c : Nat} (h : ((c : Int) % 2 == 0) = false) : -((c : Int) / 2) - 1 = ncI c := by
  have h := ne_of_beq_false h
  unfold ncI
  rw [if_neg (by omega)]
  omega
theorem infoU8 : (Tryd.prog.info? 5).map (fun i => (i.zero, i.size, i.bytes)) = some (some (.int .u8 0), 1, 1) := by kernel_rfl
theorem sizeU8 : (Tryd.prog.info? 5).map (fun i => i.size) = some 1 := by kernel_rfl
theorem bv_one (x : UInt8) : (bv x).oneCell' = true := rfl
theorem bvs_one (xs : List UInt8) : ∀ u ∈ xs.map bv, u.oneCell' = true := fun u hu => by
  obtain ⟨x, _, rfl⟩ := List.mem_map.1 hu
  rfl
end Go.Proofs.YtjhojpghllnoiaaDoor
namespace Go.Proofs.YtjhojpghllnoiaaDoor
open Go.RowKit

/-- a slice of these bytes, of the call's own, is handed back; what was there is as it was -/
def RetB (xs : List UInt8) (W : World) (e : Ending) (w' : World) : Prop := ∃ v, e = .returned v ∧ Own 5 bv w' W.heap.size v xs ∧ Below W.heap.size W w'

/-- a loop that writes a code: what is written and what is left make the whole -/
def PutRel (total : List UInt8) (ys : List UInt8) (c : Nat) : Prop := ∃ f, f ≤ 9 ∧ c < 128 ^ (f + 1) ∧ ys ++ encF f c = total
theorem PutRel.start {n : Int} (h1 : -9223372036854775808 ≤ n) (h2 : n ≤ 9223372036854775807) (xs : List UInt8) : PutRel (xs ++ enc n) xs (cdN n) :=
  ⟨9, by omega, Nat.lt_of_lt_of_le (cd_lt h1 h2) (by decide), rfl⟩
theorem PutRel.next {total ys : List UInt8} {c : Nat} (h : PutRel total ys c) (hc : 128 ≤ c) : PutRel total (ys ++ [UInt8.ofNat (c % 128 + 128)]) (c / 128) := by
  obtain ⟨f, hf, hl, ht⟩ := h
  cases f with
  | zero => simp at hl; omega
  | succ f =>
    refine ⟨f, by omega, div_lt128 hl, ?_⟩
    rw [encF_big _ _ (by omega)] at ht
    rw [← ht]
    simp
theorem PutRel.done {total ys : List UInt8} {c : Nat} (h : PutRel total ys c) (hc : c < 128) : ys ++ [UInt8.ofNat c] = total := by
  obtain ⟨f, hf, hl, ht⟩ := h
  rw [encF_small _ _ hc] at ht
  exact ht
theorem PutRel.len {total ys : List UInt8} {c : Nat} (h : PutRel total ys c) : ys.length + 1 ≤ total.length := by
  obtain ⟨f, hf, hl, ht⟩ := h
  rw [← ht, List.length_append]
  have := (encF_len f c).1
  omega

section
variable {ops : Array Oper} {rest : List Oper} {o : Oper} {a : Act} {Q : Exit → Act → World → Prop}
end
theorem byte_more (k : Nat) (hk : k < 18446744073709551616) : Value.int .u8 (bits .or .u64 (bits .and .u64 (k : Int) 127) 128 % 256) = bv (UInt8.ofNat (k % 128 + 128)) := by
  have e1 : bits .and .u64 (k : Int) 127 = ((k % 128 : Nat) : Int) := by
    have := u64_and_nat k 127 hk (by decide)
    rw [show (127 : Nat) = 2 ^ 7 - 1 by decide, Nat.and_two_pow_sub_one_eq_mod] at this
    exact this
  have e2 : bits .or .u64 ((k % 128 : Nat) : Int) 128 = ((k % 128 + 128 : Nat) : Int) := by
    have := u64_or_nat (k % 128) 128 (by omega) (by decide)
    have h2 := Nat.two_pow_add_eq_or_of_lt (i := 7) (b := k % 128) (by omega) 1
    rw [Nat.or_comm] at h2
    have h3 : (k % 128 ||| 128) = 128 + k % 128 := h2.symm
    rw [h3, Nat.add_comm] at this
    exact this
  unfold bv
  rw [e1, e2, toNat_ofNat8 (by omega)]
  congr 1
  omega
theorem byte_last (k : Nat) (hk : k < 128) : Value.int .u8 (k : Int) = bv (UInt8.ofNat k) := by
  unfold bv
  rw [toNat_ofNat8 (by omega)]

end Go.Proofs.YtjhojpghllnoiaaDoor
namespace Go.Proofs.YtjhojpghllnoiaaDoor
open Go.RowKit

def encT (s : ByteArray) : List UInt8 := enc s.size ++ dl s
def encTs (l : List ByteArray) : List UInt8 := (l.map encT).flatten
def encL (l : List ByteArray) : List UInt8 := enc l.length ++ encTs l
theorem encTs_succ {l : List ByteArray} {k : Nat} {x : ByteArray} (h : l[k]? = some x) : encTs (l.take (k + 1)) = encTs (l.take k) ++ encT x := by
  unfold encTs
  rw [List.take_add_one, h]
  simp
theorem encT_len (s : ByteArray) : (encT s).length ≤ 10 + s.size := by
  unfold encT
  rw [List.length_append, ← size_dl]
  have := (enc_len s.size).2
  omega
theorem encTs_len (l : List ByteArray) (M : Nat) (h : ∀ x ∈ l, x.size ≤ M) : (encTs l).length ≤ l.length * (10 + M) := by
  induction l with
  | nil => simp [encTs]
  | cons x r ih =>
    have e : encTs (x :: r) = encT x ++ encTs r := by simp [encTs]
    have h1 := encT_len x
    have h2 := h x (by simp)
    have h3 := ih (fun y hy => h y (by simp [hy]))
    rw [e, List.length_append, List.length_cons, Nat.succ_mul]
    omega

/-- a list of texts in memory -/
abbrev SL (w : World) (B : Nat) (A : Option Addr) (xs : List ByteArray) : Prop := CL Value.string w B A xs

theorem byte_spec (k : Nat) : Value.int .u8 ((k : Int) % 128 + 128) = bv (UInt8.ofNat (k % 128 + 128)) := by
  unfold bv
  rw [toNat_ofNat8 (by omega)]
  congr 1

/-! ### The specification's -/
/-- the bytes that came in, in the world with the empty slice -/
theorem copied {w : World} {B' : Nat} {A : Option Addr} {xs : List UInt8} (hsl : CL bv w B' A xs) (hB' : B' ≤ w.heap.size) (o : Obj) : CL bv (w.alloc o) B' A xs := hsl.below ((Below.refl B' w).alloc hB' _)

end Go.Proofs.YtjhojpghllnoiaaDoor
namespace Go.Proofs.YtjhojpghllnoiaaDoor
open Go.RowKit

/-- the address of a cut -/
theorem cut_addr {α : Type} {f : α → Value} {w : World} {B : Nat} {A : Option Addr} {xs : List α} (h : CL f w B A xs) {k m : Nat} (hk : k ≤ xs.length) (hm : k < xs.length → m ≠ k) :
    CL f w B (if m = k then A else A.map (·.add (k * 1))) (xs.drop k) := fun hn => by
  rw [List.length_drop] at hn
  obtain ⟨b, o, e, hb, hcell⟩ := h (by omega)
  rw [if_neg (hm (by omega)), e]
  refine ⟨b, o + k, ?_, hb, fun j x hx => ?_⟩
  · simp only [Option.map_some, Addr.add, Nat.mul_one]
    split
    · next h0 => subst h0; rfl
    · rfl
  · rw [List.getElem?_drop] at hx
    rw [Nat.add_assoc]
    exact hcell _ x hx

theorem strOf (xs : List UInt8) : strOfNums (xs.map fun x => (x.toNat : Int)) = bs xs := by
  apply dl_inj
  rw [dl_bs]
  unfold dl
  rw [strOfNums_data, List.map_map]
  conv => rhs; rw [← List.map_id xs]
  refine List.map_congr_left fun x _ => ?_
  simp
/-! ### Same -/
theorem str_eq {x y : ByteArray} : (x.toList == y.toList) = true ↔ x = y := by
  constructor
  · intro h
    have h' := eq_of_beq h
    rw [Lib.toList_data, Lib.toList_data] at h'
    exact dl_inj h'
  · intro h
    rw [h]
    exact beq_self_eq_true _
theorem str_dec (x y : ByteArray) : (x.toList == y.toList) = decide (x = y) := by
  rw [Bool.eq_iff_iff, str_eq, decide_eq_true_eq]
theorem bs_dec (x y : List UInt8) : ((bs x).toList == (bs y).toList) = decide (x = y) := by
  rw [str_dec, Bool.eq_iff_iff, decide_eq_true_eq, decide_eq_true_eq]
  exact ⟨bs_inj, fun h => by rw [h]⟩

end Go.Proofs.YtjhojpghllnoiaaDoor
namespace Go.Proofs.YtjhojpghllnoiaaDoor
open Go.RowKit

/-- the number, the position behind it, the error -/
def numR (l : List UInt8) (p : Int) : Int × Int × Int :=
  if p < 0 ∨ (l.length : Int) < p then (0, 0, 1)
  else if (rdF 0 0 (l.drop p.toNat)).1 = 0 then (ncI (rdF 0 0 (l.drop p.toNat)).2.1, p + (rdF 0 0 (l.drop p.toNat)).2.2, 0)
  else (0, 0, (rdF 0 0 (l.drop p.toNat)).1)
def tri (k : IntKind) (r : Int × Int × Int) : Ending := .returned (.tuple #[.int k r.1, .int .i64 r.2.1, .int .i64 r.2.2])
theorem tri3 {k : IntKind} {a a' b b' c c' : Int} (h1 : a = a') (h2 : b = b') (h3 : c = c') : Ending.returned (.tuple #[.int k a, .int .i64 b, .int .i64 c]) = tri k (a', b', c') := by subst h1; subst h2; subst h3; rfl
theorem numR_range {l : List UInt8} {p : Int} (h : p < 0 ∨ (l.length : Int) < p) : numR l p = (0, 0, 1) := by
  unfold numR
  rw [if_pos h]
theorem numR_in {l : List UInt8} {k : Nat} (hk : k ≤ l.length) : numR l (k : Int) =
    if (rdF 0 0 (l.drop k)).1 = 0 then (ncI (rdF 0 0 (l.drop k)).2.1, (k : Int) + ((rdF 0 0 (l.drop k)).2.2 : Int), 0) else (0, 0, ((rdF 0 0 (l.drop k)).1 : Int)) := by
  unfold numR
  rw [if_neg (by omega), Int.toNat_natCast]

/-- after i bytes of what is read -/
def RdRel (l : List UInt8) (i acc : Nat) : Prop := i ≤ l.length ∧ i ≤ 9 ∧ acc < 128 ^ i ∧ rdF 0 0 l = rdF i acc (l.drop i)
theorem RdRel.start (l : List UInt8) : RdRel l 0 0 := ⟨by omega, by omega, by simp, rfl⟩
theorem rdF_cons (i acc : Nat) (c : UInt8) (r : List UInt8) : rdF i acc (c :: r) =
    if i = 9 ∧ 1 < c.toNat then (2, 0, 0)
    else if 128 ≤ c.toNat then rdF (i + 1) (acc + (c.toNat % 128) * 128 ^ i) r
    else if c.toNat = 0 ∧ 0 < i then (2, 0, 0)
    else (0, acc + c.toNat * 128 ^ i, i + 1) := by rw [rdF]
theorem drop_at {l : List UInt8} {i : Nat} {x : UInt8} (hx : l[i]? = some x) : l.drop i = x :: l.drop (i + 1) := by
  obtain ⟨h, e⟩ := List.getElem?_eq_some_iff.1 hx
  rw [List.drop_eq_getElem_cons h, e]
theorem RdRel.next {l : List UInt8} {i acc : Nat} (h : RdRel l i acc) {x : UInt8} (hx : l[i]? = some x) (h9 : i ≠ 9) (h128 : 128 ≤ x.toNat) : RdRel l (i + 1) (acc + (x.toNat % 128) * 128 ^ i) := by
  obtain ⟨h1, h2, h3, h4⟩ := h
  have hl := (List.getElem?_eq_some_iff.1 hx).1
  refine ⟨by omega, by omega, ?_, ?_⟩
  · rw [pow128, Nat.mul_comm (128 ^ i) 128]
    have : (x.toNat % 128) * 128 ^ i ≤ 127 * 128 ^ i := Nat.mul_le_mul (by omega) (Nat.le_refl _)
    omega
  · rw [h4, drop_at hx, rdF_cons, if_neg (by omega), if_pos h128]
theorem RdRel.trunc {l : List UInt8} {i acc : Nat} (h : RdRel l i acc) (hi : i = l.length) : rdF 0 0 l = (3, 0, 0) := by
  rw [h.2.2.2, hi, List.drop_length]
  rfl
theorem RdRel.bad9 {l : List UInt8} {i acc : Nat} (h : RdRel l i acc) {x : UInt8} (hx : l[i]? = some x) (h9 : i = 9) (h1 : x.toNat ≠ 1) : rdF 0 0 l = (2, 0, 0) := by
  have hx256 := x.toNat_lt
  rw [h.2.2.2, drop_at hx, rdF_cons]
  by_cases h2 : 1 < x.toNat
  · rw [if_pos ⟨h9, h2⟩]
  · rw [if_neg (by omega), if_neg (by omega), if_pos (by omega)]
theorem RdRel.bad0 {l : List UInt8} {i acc : Nat} (h : RdRel l i acc) {x : UInt8} (hx : l[i]? = some x) (h9 : 0 < i) (h1 : x.toNat = 0) : rdF 0 0 l = (2, 0, 0) := by
  rw [h.2.2.2, drop_at hx, rdF_cons, if_neg (by omega), if_neg (by omega), if_pos (by omega)]
theorem RdRel.done {l : List UInt8} {i acc : Nat} (h : RdRel l i acc) {x : UInt8} (hx : l[i]? = some x) (h9 : i = 9 → x.toNat ≤ 1) (h128 : x.toNat < 128) (h0 : 0 < i → x.toNat ≠ 0) : rdF 0 0 l = (0, acc + x.toNat * 128 ^ i, i + 1) := by
  rw [h.2.2.2, drop_at hx, rdF_cons, if_neg (by omega), if_neg (by omega), if_neg (by omega)]
theorem RdRel.lt {l : List UInt8} {i acc : Nat} (h : RdRel l i acc) (x : Nat) (hx : x < 128) (h9 : i = 9 → x ≤ 1) : acc + x * 128 ^ i < 18446744073709551616 := by
  obtain ⟨_, h2, h3, _⟩ := h
  by_cases hi : i = 9
  · subst hi
    have := h9 rfl
    have e : 128 ^ 9 = 9223372036854775808 := by decide
    rw [e] at h3 ⊢
    omega
  · have : x * 128 ^ i ≤ 127 * 128 ^ i := Nat.mul_le_mul (by omega) (Nat.le_refl _)
    have hp : 128 ^ i ≤ 128 ^ 8 := Nat.pow_le_pow_right (by decide) (by omega)
    have e : 128 ^ 8 = 72057594037927936 := by decide
    rw [e] at hp
    omega

theorem RdRel.acc {l : List UInt8} {i acc : Nat} (h : RdRel l i acc) (y : Nat) (hy : y < 128) (h9 : i = 9 → y ≤ 1) : bits .or .u64 (acc : Int) (IntKind.u64.wrap ((y : Int) * 2 ^ (7 * i))) = ((acc + y * 128 ^ i : Nat) : Int) := by
  have hlt := h.lt y hy h9
  obtain ⟨_, h2, h3, _⟩ := h
  have e1 : (2 : Nat) ^ (7 * i) = 128 ^ i := by rw [Nat.pow_mul]
  have e2 : ((y : Int) * 2 ^ (7 * i)) = ((y * 128 ^ i : Nat) : Int) := by
    rw [Int.natCast_mul, ← e1]
    simp
  rw [e2, wrap_u64_eq]
  have e3 : ((y * 128 ^ i : Nat) : Int) % 18446744073709551616 = ((y * 128 ^ i : Nat) : Int) := by omega
  rw [e3, u64_or_nat _ _ (by omega) (by omega)]
  have h4 := Nat.two_pow_add_eq_or_of_lt (i := 7 * i) (b := acc) (by rw [e1]; exact h3) y
  rw [e1] at h4
  congr 1
  rw [Nat.or_comm, Nat.mul_comm y, ← h4, Nat.add_comm]
theorem and128 (x : UInt8) (h : 128 ≤ x.toNat) : bits .and .u8 (x.toNat : Int) 128 = 128 := by
  have : ∀ y : Fin 256, 128 ≤ y.val → bits .and .u8 (y.val : Int) 128 = 128 := by decide +kernel
  exact this ⟨x.toNat, x.toNat_lt⟩ h
theorem and128' (x : UInt8) (h : x.toNat < 128) : bits .and .u8 (x.toNat : Int) 128 = 0 := by
  have : ∀ y : Fin 256, y.val < 128 → bits .and .u8 (y.val : Int) 128 = 0 := by decide +kernel
  exact this ⟨x.toNat, x.toNat_lt⟩ h
theorem and127 (x : UInt8) : bits .and .u8 (x.toNat : Int) 127 = ((x.toNat % 128 : Nat) : Int) := by
  have : ∀ y : Fin 256, bits .and .u8 (y.val : Int) 127 = ((y.val % 128 : Nat) : Int) := by decide +kernel
  exact this ⟨x.toNat, x.toNat_lt⟩

end Go.Proofs.YtjhojpghllnoiaaDoor
namespace Go.Proofs.YtjhojpghllnoiaaDoor
open Go.RowKit

theorem cell_at {w : World} {B : Nat} {A : Option Addr} {l : List UInt8} (h : CL bv w B A l) {k i : Nat} {x : UInt8} (hx : (l.drop k)[i]? = some x) : ∃ b o, A = some ⟨b, o, none⟩ ∧ b < B ∧ w.cell? ⟨b, o + (k + i), none⟩ = some (.int .u8 x.toNat) := by
  rw [List.getElem?_drop] at hx
  have hl := (List.getElem?_eq_some_iff.1 hx).1
  obtain ⟨b, o, e, hb, hc⟩ := h (by omega)
  exact ⟨b, o, e, hb, hc _ x hx⟩

end Go.Proofs.YtjhojpghllnoiaaDoor
namespace Go.Proofs.YtjhojpghllnoiaaDoor
open Go.RowKit

def countR (l : List UInt8) (p limit : Int) : Int × Int × Int :=
  if (numR l p).2.2 ≠ 0 then (0, 0, (numR l p).2.2) else if (numR l p).1 < 0 then (0, 0, 2) else if limit < (numR l p).1 then (0, 0, 5) else ((numR l p).1, (numR l p).2.1, 0)
def textR (l : List UInt8) (p limit : Int) : ByteArray × Int × Int :=
  if (countR l p limit).2.2 ≠ 0 then (⟨#[]⟩, 0, (countR l p limit).2.2)
  else if (l.length : Int) - (countR l p limit).2.1 < (countR l p limit).1 then (⟨#[]⟩, 0, 3)
  else (bs ((l.drop (countR l p limit).2.1.toNat).take (countR l p limit).1.toNat), (countR l p limit).2.1 + (countR l p limit).1, 0)

/-- what a reading that succeeds says of the position -/
theorem numR_ok {l : List UInt8} {p n nx : Int} (h : numR l p = (n, nx, 0)) : ∃ (k j : Nat), p = k ∧ nx = ((k + j : Nat) : Int) ∧ 1 ≤ j ∧ j ≤ 10 ∧ k + j ≤ l.length ∧ -9223372036854775808 ≤ n ∧ n ≤ 9223372036854775807 ∧ enc n = (l.drop k).take j := by
  unfold numR at h
  split at h
  · simp at h
  · next hp =>
    split at h
    · next h0 =>
      simp only [Prod.mk.injEq, and_true] at h
      obtain ⟨k, rfl⟩ := Int.eq_ofNat_of_zero_le (by omega : 0 ≤ p)
      simp only [Int.toNat_natCast] at h h0
      generalize hr : rdF 0 0 (l.drop k) = r at h h0
      obtain ⟨e, c, j⟩ := r
      simp only at h h0
      subst h0
      obtain ⟨h1, h2, h3, h4, h5⟩ := rd_only hr
      rw [List.length_drop] at h4
      obtain ⟨rfl, rfl⟩ := h
      have := nc_range h1
      exact ⟨k, j, rfl, by omega, h2, h3, by omega, this.1, this.2, h5⟩
    · simp at h
      omega
theorem numR_bad {l : List UInt8} {p n nx e : Int} (h : numR l p = (n, nx, e)) (he : e ≠ 0) : n = 0 ∧ nx = 0 ∧ 1 ≤ e ∧ e ≤ 3 := by
  unfold numR at h
  split at h
  · simp only [Prod.mk.injEq] at h
    omega
  · split at h
    · simp only [Prod.mk.injEq] at h
      omega
    · next h0 =>
      generalize hr : rdF 0 0 (l.drop p.toNat) = r at h h0
      obtain ⟨e', c, j⟩ := r
      have := rdF_err _ _ _ _ _ _ hr h0
      simp only [Prod.mk.injEq] at h
      omega
theorem countR_ok {l : List UInt8} {p limit n nx : Int} (h : countR l p limit = (n, nx, 0)) : ∃ (k j m : Nat), p = k ∧ nx = ((k + j : Nat) : Int) ∧ n = m ∧ n ≤ limit ∧ 1 ≤ j ∧ j ≤ 10 ∧ k + j ≤ l.length ∧ n ≤ 9223372036854775807 ∧ enc n = (l.drop k).take j := by
  unfold countR at h
  split at h
  · next h0 =>
    simp only [Prod.mk.injEq] at h
    omega
  · next h0 =>
    split at h
    · simp at h
    · next h1 =>
      split at h
      · simp at h
      · next h2 =>
        simp only [Prod.mk.injEq, and_true] at h
        generalize hr : numR l p = r at h h0 h1 h2
        obtain ⟨a, b, e⟩ := r
        simp only at h h0 h1 h2
        obtain rfl : e = 0 := by omega
        obtain ⟨rfl, rfl⟩ := h
        obtain ⟨k, j, h1', h2', h3, h4, h5, h6, h7, h8⟩ := numR_ok hr
        exact ⟨k, j, a.toNat, h1', h2', by omega, by omega, h3, h4, h5, h7, h8⟩

def triS (r : ByteArray × Int × Int) : Ending := .returned (.tuple #[.string r.1, .int .i64 r.2.1, .int .i64 r.2.2])
theorem triS_eq {a a' : ByteArray} {b b' c c' : Int} (h1 : a = a') (h2 : b = b') (h3 : c = c') : Ending.returned (.tuple #[.string a, .int .i64 b, .int .i64 c]) = triS (a', b', c') := by subst h1; subst h2; subst h3; rfl

end Go.Proofs.YtjhojpghllnoiaaDoor
namespace Go.Proofs.YtjhojpghllnoiaaDoor
open Go.RowKit

/-- the number of flags -/
def fl : List Bool → Nat
  | [] => 0
  | b :: r => (if b then 1 else 0) + 2 * fl r
theorem fl_snoc (l : List Bool) (b : Bool) : fl (l ++ [b]) = fl l + (if b then 2 ^ l.length else 0) := by
  induction l with
  | nil => simp [fl]
  | cons x r ih =>
    rw [List.cons_append, fl, ih, fl, List.length_cons, Nat.pow_succ]
    cases b <;> simp <;> omega
theorem fl_lt (l : List Bool) : fl l < 2 ^ l.length := by
  induction l with
  | nil => simp [fl]
  | cons x r ih =>
    rw [fl, List.length_cons, Nat.pow_succ]
    cases x <;> simp <;> omega
theorem fl_bit (l : List Bool) (i : Nat) (b : Bool) (h : l[i]? = some b) : fl l / 2 ^ i % 2 = if b then 1 else 0 := by
  induction l generalizing i with
  | nil => simp at h
  | cons x r ih =>
    cases i with
    | zero =>
      simp at h
      subst h
      rw [fl]
      cases x <;> simp <;> omega
    | succ i =>
      simp at h
      have := ih i h
      rw [fl, Nat.pow_succ, Nat.mul_comm (2 ^ i) 2, ← Nat.div_div_eq_div_mul]
      have e : ((if x = true then 1 else 0) + 2 * fl r) / 2 = fl r := by cases x <;> simp <;> omega
      rw [e, this]
def flagsR (l : List Bool) : Nat := fl (l.take 32)
theorem fl_take {l : List Bool} {k : Nat} {b : Bool} (h : l[k]? = some b) : fl (l.take (k + 1)) = fl (l.take k) + (if b then 2 ^ k else 0) := by
  have hk := (List.getElem?_eq_some_iff.1 h).1
  rw [List.take_add_one, h]
  simp only [Option.toList]
  rw [fl_snoc, List.length_take, Nat.min_eq_left (by omega)]
theorem fl_take_lt (l : List Bool) (k : Nat) : fl (l.take k) < 2 ^ k := by
  refine Nat.lt_of_lt_of_le (fl_lt _) (Nat.pow_le_pow_right (by decide) ?_)
  rw [List.length_take]
  omega

theorem pow_le32 {k : Nat} (h : k ≤ 32) : 2 ^ k ≤ 4294967296 := Nat.le_trans (Nat.pow_le_pow_right (by decide) h) (by decide)
theorem or_form {n k : Nat} (h : n < 2 ^ k) (hk : k ≤ 32) : bits .or .i64 (n : Int) (wrap64 (2 ^ k)) = ((n + 2 ^ k : Nat) : Int) := by
  have hp := pow_le32 hk
  have e : wrap64 ((2 : Int) ^ k) = ((2 ^ k : Nat) : Int) := by
    rw [show ((2 : Int) ^ k) = ((2 ^ k : Nat) : Int) by simp, wrap64_id _ (by omega) (by omega)]
  have h1 : (BitVec.ofInt 64 (n : Int)).toNat = n := by rw [BitVec.toNat_ofInt]; omega
  have h2 : (BitVec.ofInt 64 ((2 ^ k : Nat) : Int)).toNat = 2 ^ k := by rw [BitVec.toNat_ofInt]; omega
  rw [e]
  show IntKind.i64.wrap ((BitVec.ofInt 64 (n : Int) ||| BitVec.ofInt 64 ((2 ^ k : Nat) : Int)).toNat : Nat) = _
  rw [BitVec.toNat_or, h1, h2]
  have h4 := Nat.two_pow_add_eq_or_of_lt (i := k) (b := n) h 1
  rw [Nat.mul_one] at h4
  rw [Nat.or_comm, ← h4, Nat.add_comm, IntKind.wrap_i64]
  omega

abbrev FL (w : World) (B : Nat) (A : Option Addr) (xs : List Bool) : Prop := CL Value.bool w B A xs
theorem infoF : (Tryd.prog.info? 4).map (fun i => (i.zero, i.size, i.bytes)) = some (some (.bool false), 1, 1) := by kernel_rfl
/-- bit i of n -/
def flagR (n i : Int) : Bool := if 0 ≤ i ∧ i < 32 then bits .and .i64 (n / 2 ^ i.toNat) 1 == 1 else false
theorem flagR_in (n : Int) {k : Nat} (h : k < 32) : flagR n (k : Int) = (bits .and .i64 (n / 2 ^ k) 1 == 1) := by
  unfold flagR
  rw [if_pos (by omega), Int.toNat_natCast]
theorem flagR_out (n : Int) {i : Int} (h : ¬ (0 ≤ i ∧ i < 32)) : flagR n i = false := by
  unfold flagR
  rw [if_neg h]
end Go.Proofs.YtjhojpghllnoiaaDoor
namespace Go.Proofs.YtjhojpghllnoiaaDoor
open Go.RowKit

def textsF : Nat → List UInt8 → Int → Int → List ByteArray → List ByteArray × Int × Int
  | 0, _, nx, _, acc => (acc, nx, 0)
  | n + 1, l, nx, limit, acc => if (textR l nx limit).2.2 ≠ 0 then ([], 0, (textR l nx limit).2.2) else textsF n l (textR l nx limit).2.1 limit (acc ++ [(textR l nx limit).1])
def textsR (l : List UInt8) (p limit : Int) : List ByteArray × Int × Int :=
  if (countR l p limit).2.2 ≠ 0 then ([], 0, (countR l p limit).2.2) else textsF (countR l p limit).1.toNat l (countR l p limit).2.1 limit []

theorem textR_ok {l : List UInt8} {p limit nx : Int} {s : ByteArray} (h : textR l p limit = (s, nx, 0)) : ∃ (k j : Nat), p = k ∧ nx = ((k + j : Nat) : Int) ∧ 1 ≤ j ∧ k + j ≤ l.length ∧ (s.size : Int) ≤ limit ∧ encT s = (l.drop k).take j := by
  unfold textR at h
  split at h
  · next h0 => simp only [Prod.mk.injEq] at h; omega
  · next h0 =>
    split at h
    · simp at h
    · next h1 =>
      generalize hr : countR l p limit = r at h h0 h1
      obtain ⟨n, nx', e⟩ := r
      simp only at h h0 h1
      obtain rfl : e = 0 := by omega
      obtain ⟨k, j, m, rfl, rfl, rfl, h2, h3, h4, h5, h6, h7⟩ := countR_ok hr
      simp only [Prod.mk.injEq, and_true, Int.toNat_natCast] at h
      obtain ⟨rfl, rfl⟩ := h
      have hT : ((l.drop (k + j)).take m).length = m := by rw [List.length_take, List.length_drop]; omega
      refine ⟨k, j + m, rfl, by omega, by omega, by omega, by rw [size_bs, hT]; exact h2, ?_⟩
      unfold encT
      rw [size_bs, hT, dl_bs, h7, ← List.drop_drop]
      rw [List.take_add]

def RetTs (r : List ByteArray × Int × Int) (W : World) (e : Ending) (w' : World) : Prop :=
  ∃ v, e = .returned (.tuple #[v, .int .i64 r.2.1, .int .i64 r.2.2]) ∧ Own 9 Value.string w' W.heap.size v r.1 ∧ Below W.heap.size W w'
theorem infoS : (Tryd.prog.info? 9).map (fun i => (i.zero, i.size, i.bytes)) = some (some (.string ByteArray.empty), 1, 16) := by kernel_rfl
theorem wpList_appS1 {ops : Array Oper} {rest : List Oper} {o : Oper} {a : Act} {Q : Exit → Act → World → Prop} (wr : World) (hgd : o.guard = none) (s x : Operand) (ho : o.op = .call { callee := .builtin .append, args := #[s, x], argTypes := #[91, 91] })
    (B : Nat) (v : Value) (xs : List ByteArray) (y : ByteArray) (hs : a.eval s = v) (hown : Own 9 Value.string wr B v xs) (hx : a.eval x = .slice (some ⟨wr.heap.size, 0, none⟩) 1 1) (w0 : World) (hb : Below B w0 wr) (hB : B ≤ wr.heap.size)
    (hn : xs.length ≤ 1099511627776) (h : ∀ v' w', Own 9 Value.string w' B v' (xs ++ [y]) → Below B w0 w' → B ≤ w'.heap.size → wpList Tryd.prog ops Q rest (a.put o.dst v') w') : wpList Tryd.prog ops Q (o :: rest) a (wr.alloc (.cells #[.string y] 9)) :=
  wpList_app _ hgd s x 91 91 ho (.string ByteArray.empty) 16 Tryd.underlying91 infoS rfl (by decide) B v xs [y] hs (hown.alloc _) _ hx 1 (src_one Tryd.underlying91 wr y _ rfl rfl) w0 (hb.alloc hB _) (by simp; omega) (by simp; omega) h

/-! ### Same of lists of texts -/
def SameUpto (xs ys : List ByteArray) (i : Nat) : Prop := ∀ j, j < i → xs[j]? = ys[j]?
theorem SameUpto.succ {xs ys : List ByteArray} {i : Nat} (h : SameUpto xs ys i) (hi : xs[i]? = ys[i]?) : SameUpto xs ys (i + 1) := fun j hj => by
  rcases Nat.lt_succ_iff_lt_or_eq.1 hj with h' | h'
  · exact h j h'
  · subst h'; exact hi
theorem SameUpto.all {xs ys : List ByteArray} (h : SameUpto xs ys xs.length) (hl : xs.length = ys.length) : decide (xs = ys) = true := by
  refine decide_eq_true (List.ext_getElem? fun j => ?_)
  by_cases hj : j < xs.length
  · exact h j hj
  · rw [List.getElem?_eq_none (by omega), List.getElem?_eq_none (by omega)]
theorem sameL_len {xs ys : List ByteArray} (h : xs.length ≠ ys.length) : decide (xs = ys) = false := decide_eq_false (fun e => h (by rw [e]))
theorem sameL_at {xs ys : List ByteArray} {i : Nat} (h : xs[i]? ≠ ys[i]?) : decide (xs = ys) = false := decide_eq_false (fun e => h (by rw [e]))
theorem same_hit {xs ys : List ByteArray} {i : Nat} {x y : ByteArray} (h : (!x.toList == y.toList) = true) (hx : xs[i]? = some x) (hy : ys[i]? = some y) : decide (xs = ys) = false := by
  refine sameL_at (i := i) ?_
  rw [hx, hy]
  intro e
  obtain rfl := Option.some.inj e
  simp at h
theorem same_miss {xs ys : List ByteArray} {i : Nat} {x y : ByteArray} (h : (!x.toList == y.toList) = false) (hx : xs[i]? = some x) (hy : ys[i]? = some y) : xs[i]? = ys[i]? := by
  have e : x = y := str_eq.1 (by simpa using h)
  rw [hx, hy, e]

end Go.Proofs.YtjhojpghllnoiaaDoor
namespace Go.Proofs.YtjhojpghllnoiaaDoor
open Go.RowKit

theorem below_new (w : World) (o : Obj) : Below w.heap.size w (w.alloc o) := (Below.refl _ _).alloc (Nat.le_refl _) _

end Go.Proofs.YtjhojpghllnoiaaDoor
namespace Go.Proofs.YtjhojpghllnoiaaDoor
open Go.RowKit

end Go.Proofs.YtjhojpghllnoiaaDoor
namespace Go.Proofs.YtjhojpghllnoiaaDoor
open Go.RowKit

def shortR (l : List ByteArray) : Bool := decide (l.length ≤ 24) && l.all fun x => decide (x.size ≤ 400)
def SmallUpto (xs : List ByteArray) (i : Nat) : Prop := ∀ j x, j < i → xs[j]? = some x → x.size ≤ 400
theorem SmallUpto.succ {xs : List ByteArray} {i : Nat} {x : ByteArray} (h : SmallUpto xs i) (hx : xs[i]? = some x) (hs : x.size ≤ 400) : SmallUpto xs (i + 1) := fun j y hj hy => by
  rcases Nat.lt_succ_iff_lt_or_eq.1 hj with h' | h'
  · exact h j y h' hy
  · subst h'
    rw [hx] at hy
    rw [← Option.some.inj hy]; exact hs
theorem short_done {xs : List ByteArray} (h : SmallUpto xs xs.length) (hl : xs.length ≤ 24) : shortR xs = true := by
  unfold shortR
  rw [decide_eq_true hl, Bool.true_and, List.all_eq_true]
  intro x hx
  obtain ⟨j, hj⟩ := List.mem_iff_getElem?.1 hx
  exact decide_eq_true (h j x (List.getElem?_eq_some_iff.1 hj).1 hj)
theorem short_long {xs : List ByteArray} (h : 24 < xs.length) : shortR xs = false := by
  unfold shortR
  rw [decide_eq_false (by omega)]; rfl
theorem short_bad {xs : List ByteArray} {i : Nat} {x : ByteArray} (hx : xs[i]? = some x) (hs : ¬ x.size ≤ 400) : shortR xs = false := by
  unfold shortR
  have : (xs.all fun x => decide (x.size ≤ 400)) = false := by
    rw [List.all_eq_false]
    exact ⟨x, List.mem_of_getElem? hx, by simpa using hs⟩
  rw [this]; simp
theorem short_parts {xs : List ByteArray} (h : shortR xs = true) : xs.length ≤ 24 ∧ ∀ x ∈ xs, x.size ≤ 400 := by
  unfold shortR at h
  rw [Bool.and_eq_true, List.all_eq_true] at h
  exact ⟨of_decide_eq_true h.1, fun x hx => of_decide_eq_true (h.2 x hx)⟩

theorem textsF_len {l : List UInt8} {limit : Int} : ∀ (n : Nat) (p : Nat) (acc : List ByteArray), p ≤ l.length → acc.length ≤ p → (textsF n l (p : Int) limit acc).1.length ≤ l.length := by
  intro n
  induction n with
  | zero => intro p acc hp ha; simp [textsF]; omega
  | succ n ih =>
    intro p acc hp ha
    rw [textsF]
    split
    · simp
    · next h0 =>
      generalize hr : textR l p limit = r at h0 ⊢
      obtain ⟨s, nx, e⟩ := r
      simp only at h0 ⊢
      obtain rfl : e = 0 := by omega
      obtain ⟨k, j, h1, rfl, h3, h4, _, _⟩ := textR_ok hr
      obtain rfl : p = k := by omega
      exact ih (p + j) _ h4 (by simp; omega)
theorem textsR_len (l : List UInt8) (p limit : Int) : (textsR l p limit).1.length ≤ l.length := by
  unfold textsR
  split
  · simp
  · next h0 =>
    generalize hr : countR l p limit = r at h0 ⊢
    obtain ⟨n, nx, e⟩ := r
    simp only at h0 ⊢
    obtain rfl : e = 0 := by omega
    obtain ⟨k, j, m, rfl, rfl, rfl, _, h3, _, h5, _, _⟩ := countR_ok hr
    exact textsF_len _ (k + j) [] h5 (by simp)

theorem below_drewN (w : World) (n : Nat) : Below w.heap.size w (w.drewN n) := by
  induction n with
  | zero => exact Below.refl _ _
  | succ n ih => exact ih.drew

end Go.Proofs.YtjhojpghllnoiaaDoor
namespace Go.Proofs.YtjhojpghllnoiaaDoor
open Go.RowKit

theorem take_join {α : Type} (l : List α) (a b c : Nat) : (l.drop a).take b ++ (l.drop (a + b)).take c = (l.drop a).take (b + c) := by
  rw [← List.drop_drop, ← List.take_add]

theorem textsF_only {l : List UInt8} {limit : Int} : ∀ (n p : Nat) (acc xs : List ByteArray) (nx : Int), p ≤ l.length → textsF n l (p : Int) limit acc = (xs, nx, 0) →
    ∃ (ys : List ByteArray) (j : Nat), xs = acc ++ ys ∧ ys.length = n ∧ nx = ((p + j : Nat) : Int) ∧ p + j ≤ l.length ∧ encTs ys = (l.drop p).take j := by
  intro n
  induction n with
  | zero =>
    intro p acc xs nx hp h
    simp only [textsF, Prod.mk.injEq, and_true] at h
    obtain ⟨rfl, rfl⟩ := h
    exact ⟨[], 0, by simp, rfl, by simp, by omega, by simp [encTs]⟩
  | succ n ih =>
    intro p acc xs nx hp h
    rw [textsF] at h
    split at h
    · next h0 => simp only [Prod.mk.injEq] at h; exact absurd h.2.2 h0
    · next h0 =>
      generalize hr : textR l p limit = r at h h0
      obtain ⟨s, nx', e⟩ := r
      simp only at h h0
      obtain rfl : e = 0 := by omega
      obtain ⟨k, j, h1, rfl, h3, h4, _, h6⟩ := textR_ok hr
      obtain rfl : p = k := by omega
      obtain ⟨ys, j', rfl, rfl, rfl, h7, h8⟩ := ih (p + j) _ _ _ h4 h
      refine ⟨s :: ys, j + j', by simp, rfl, by omega, by omega, ?_⟩
      have e1 : encTs (s :: ys) = encT s ++ encTs ys := by simp [encTs]
      rw [e1, h6, h8]
      exact take_join l p j j'

theorem encL_parts {xs : List ByteArray} {T : List UInt8} (h : encL xs = T) : xs.length ≤ T.length ∧ ∀ x ∈ xs, x.size ≤ T.length := by
  subst h
  have h1 : (encTs xs).length ≤ (encL xs).length := by unfold encL; rw [List.length_append]; omega
  have h2 : ∀ ys : List ByteArray, ys.length ≤ (encTs ys).length ∧ ∀ x ∈ ys, x.size ≤ (encTs ys).length := by
    intro ys
    induction ys with
    | nil => exact ⟨by simp, fun x hx => by cases hx⟩
    | cons y ys ih =>
      have e1 : encTs (y :: ys) = encT y ++ encTs ys := by simp [encTs]
      have e2 := (enc_len y.size).1
      have e3 : (encT y).length = (enc y.size).length + y.size := by unfold encT; rw [List.length_append, size_dl]
      rw [e1, List.length_append, List.length_cons]
      refine ⟨by omega, fun x hx => ?_⟩
      rcases List.mem_cons.1 hx with rfl | hx
      · omega
      · have := ih.2 x hx; omega
  have h3 := h2 xs
  exact ⟨by omega, fun x hx => by have := h3.2 x hx; omega⟩

/-- a list that was read -/
theorem textsR_only {l : List UInt8} {limit nx : Int} {xs : List ByteArray} (h : textsR l 0 limit = (xs, nx, 0)) :
    ∃ k : Nat, nx = (k : Int) ∧ 1 ≤ k ∧ k ≤ l.length ∧ (xs.length : Int) ≤ limit ∧ encL xs = l.take k := by
  unfold textsR at h
  split at h
  · next h0 => simp only [Prod.mk.injEq] at h; exact absurd h.2.2 h0
  · next h0 =>
    generalize hr : countR l 0 limit = r at h h0
    obtain ⟨n, nx', e⟩ := r
    simp only at h h0
    obtain rfl : e = 0 := by omega
    obtain ⟨k, j, m, h1, rfl, rfl, h2, h3, _, h5, _, h7⟩ := countR_ok hr
    obtain rfl : k = 0 := by omega
    obtain ⟨ys, j', rfl, h8, rfl, h9, h10⟩ := textsF_only _ (0 + j) [] xs nx h5 h
    have e0 : (m : Int).toNat = m := by omega
    rw [e0] at h8
    refine ⟨0 + j + j', rfl, by omega, h9, by omega, ?_⟩
    unfold encL
    rw [h8, h7, h10, take_join l 0 j j', List.drop_zero, Nat.zero_add]
theorem numR_only {l : List UInt8} {n nx : Int} (h : numR l 0 = (n, nx, 0)) :
    ∃ k : Nat, nx = (k : Int) ∧ 1 ≤ k ∧ k ≤ 10 ∧ k ≤ l.length ∧ -9223372036854775808 ≤ n ∧ n ≤ 9223372036854775807 ∧ enc n = l.take k := by
  obtain ⟨k, j, h1, rfl, h3, h4, h5, h6, h7, h8⟩ := numR_ok h
  obtain rfl : k = 0 := by omega
  exact ⟨0 + j, rfl, by omega, by omega, h5, h6, h7, by simpa using h8⟩
theorem textR_only {l : List UInt8} {limit nx : Int} {s : ByteArray} (h : textR l 0 limit = (s, nx, 0)) :
    ∃ k : Nat, nx = (k : Int) ∧ 1 ≤ k ∧ k ≤ l.length ∧ (s.size : Int) ≤ limit ∧ encT s = l.take k := by
  obtain ⟨k, j, h1, rfl, h3, h4, h5, h6⟩ := textR_ok h
  obtain rfl : k = 0 := by omega
  exact ⟨0 + j, rfl, by omega, by omega, h5, by simpa using h6⟩

theorem get_ops (l : List Oper) (i : Nat) (o : Oper) (h : l[i]? = some o) : l.toArray[i]? = some o := by rw [List.getElem?_toArray]; exact h

end Go.Proofs.YtjhojpghllnoiaaDoor
namespace Go.Proofs.YtjhojpghllnoiaaDoor
open Go.RowKit

theorem numR_enc {l r : List UInt8} {k : Nat} {n : Int} (hk : k ≤ l.length) (h1 : -9223372036854775808 ≤ n) (h2 : n ≤ 9223372036854775807) (h : l.drop k = enc n ++ r) : numR l k = (n, ((k + (enc n).length : Nat) : Int), 0) := by
  rw [numR_in hk, h, rd_enc n h1 h2]
  simp [nc_cd]
theorem numR_torn {l : List UInt8} {k j : Nat} {n : Int} (hk : k ≤ l.length) (hj : j < (enc n).length) (h : l.drop k = (enc n).take j) : numR l k = (0, 0, 3) := by
  rw [numR_in hk, h, rd_torn n j hj]
  simp
theorem countR_enc {l r : List UInt8} {k n : Nat} {limit : Int} (hk : k ≤ l.length) (hn : (n : Int) ≤ 9223372036854775807) (hl : (n : Int) ≤ limit) (h : l.drop k = enc n ++ r) : countR l k limit = ((n : Int), ((k + (enc n).length : Nat) : Int), 0) := by
  unfold countR
  rw [numR_enc hk (by omega) hn h]
  simp only
  rw [if_neg (by simp), if_neg (by omega), if_neg (by omega)]
theorem countR_torn {l : List UInt8} {k j : Nat} {n limit : Int} (hk : k ≤ l.length) (hj : j < (enc n).length) (h : l.drop k = (enc n).take j) : countR l k limit = (0, 0, 3) := by
  unfold countR
  rw [numR_torn hk hj h]
  simp
theorem encT_len2 (s : ByteArray) : (encT s).length = (enc s.size).length + s.size := by unfold encT; rw [List.length_append, size_dl]
theorem textR_enc {l r : List UInt8} {k : Nat} {s : ByteArray} {limit : Int} (hk : k ≤ l.length) (hs : (s.size : Int) ≤ 9223372036854775807) (hl : (s.size : Int) ≤ limit) (h : l.drop k = encT s ++ r) : textR l k limit = (s, ((k + (encT s).length : Nat) : Int), 0) := by
  have hlen := congrArg List.length h
  rw [List.length_drop, List.length_append, encT_len2] at hlen
  have hc : countR l k limit = ((s.size : Int), ((k + (enc s.size).length : Nat) : Int), 0) := countR_enc hk hs hl (r := dl s ++ r) (by rw [h]; unfold encT; rw [List.append_assoc])
  unfold textR
  rw [hc]
  simp only
  rw [if_neg (by simp), if_neg (by omega), Int.toNat_natCast, Int.toNat_natCast]
  have e1 : (l.drop (k + (enc s.size).length)).take s.size = dl s := by
    rw [← List.drop_drop, h]
    unfold encT
    rw [List.append_assoc, List.drop_left, List.take_left' (size_dl s).symm]
  rw [e1, bs_dl, encT_len2]
  congr 2
  omega
theorem textR_torn {l : List UInt8} {k j : Nat} {s : ByteArray} {limit : Int} (hk : k ≤ l.length) (hs : (s.size : Int) ≤ 9223372036854775807) (hl : (s.size : Int) ≤ limit) (hj : j < (encT s).length) (h : l.drop k = (encT s).take j) : (textR l k limit).2.2 = 3 := by
  by_cases h1 : j < (enc s.size).length
  · have hc : countR l k limit = (0, 0, 3) := countR_torn hk h1 (by rw [h]; unfold encT; rw [List.take_append_of_le_length (by omega)])
    unfold textR
    rw [hc]
    simp
  · have hlen := congrArg List.length h
    rw [List.length_drop, List.length_take] at hlen
    rw [encT_len2] at hj hlen
    have hc : countR l k limit = ((s.size : Int), ((k + (enc s.size).length : Nat) : Int), 0) := countR_enc hk hs hl (r := (dl s).take (j - (enc s.size).length)) (by
      rw [h]; unfold encT; rw [List.take_append, List.take_of_length_le (by omega)])
    unfold textR
    rw [hc]
    simp only
    rw [if_neg (by simp), if_pos (by omega)]
theorem encTs_cons (y : ByteArray) (ys : List ByteArray) : encTs (y :: ys) = encT y ++ encTs ys := by simp [encTs]
theorem textsF_enc {l : List UInt8} {limit : Int} : ∀ (ys : List ByteArray) (p : Nat) (r : List UInt8) (acc : List ByteArray), p ≤ l.length → (∀ y ∈ ys, (y.size : Int) ≤ 9223372036854775807 ∧ (y.size : Int) ≤ limit) → l.drop p = encTs ys ++ r →
    textsF ys.length l (p : Int) limit acc = (acc ++ ys, ((p + (encTs ys).length : Nat) : Int), 0) := by
  intro ys
  induction ys with
  | nil => intro p r acc _ _ _; simp [textsF, encTs]
  | cons y ys ih =>
    intro p r acc hp hy h
    rw [encTs_cons, List.append_assoc] at h
    have hlen := congrArg List.length h
    rw [List.length_drop, List.length_append] at hlen
    have ht := textR_enc hp (hy y (by simp)).1 (hy y (by simp)).2 h
    rw [List.length_cons, textsF, ht]
    simp only
    rw [if_neg (by simp), ih (p + (encT y).length) r _ (by omega) (fun z hz => hy z (by simp [hz])) (by rw [← List.drop_drop, h, List.drop_left]), encTs_cons]
    simp [Nat.add_assoc]
theorem textsF_torn {l : List UInt8} {limit : Int} : ∀ (ys : List ByteArray) (p j : Nat) (acc : List ByteArray), p ≤ l.length → (∀ y ∈ ys, (y.size : Int) ≤ 9223372036854775807 ∧ (y.size : Int) ≤ limit) → j < (encTs ys).length → l.drop p = (encTs ys).take j →
    (textsF ys.length l (p : Int) limit acc).2.2 = 3 := by
  intro ys
  induction ys with
  | nil => intro p j acc _ _ hj _; simp [encTs] at hj
  | cons y ys ih =>
    intro p j acc hp hy hj h
    rw [encTs_cons] at hj h
    rw [List.length_append] at hj
    by_cases h1 : j < (encT y).length
    · have ht := textR_torn hp (hy y (by simp)).1 (hy y (by simp)).2 h1 (by rw [h, List.take_append_of_le_length (by omega)])
      rw [List.length_cons, textsF, ht]
      rw [if_pos (by simp)]
    · rw [List.take_append, List.take_of_length_le (by omega)] at h
      have hlen := congrArg List.length h
      rw [List.length_drop, List.length_append] at hlen
      have ht := textR_enc hp (hy y (by simp)).1 (hy y (by simp)).2 h
      rw [List.length_cons, textsF, ht]
      simp only
      rw [if_neg (by simp)]
      exact ih (p + (encT y).length) (j - (encT y).length) _ (by omega) (fun z hz => hy z (by simp [hz])) (by omega) (by rw [← List.drop_drop, h, List.drop_left])
theorem textsR_enc {l r : List UInt8} {k : Nat} {xs : List ByteArray} {limit : Int} (hk : k ≤ l.length) (hx : (xs.length : Int) ≤ 9223372036854775807) (hl : (xs.length : Int) ≤ limit) (hy : ∀ y ∈ xs, (y.size : Int) ≤ 9223372036854775807 ∧ (y.size : Int) ≤ limit) (h : l.drop k = encL xs ++ r) :
    textsR l k limit = (xs, ((k + (encL xs).length : Nat) : Int), 0) := by
  have h' := h
  unfold encL at h'
  rw [List.append_assoc] at h'
  have hlen := congrArg List.length h'
  rw [List.length_drop, List.length_append] at hlen
  unfold textsR
  rw [countR_enc hk hx hl h']
  simp only
  rw [if_neg (by simp), Int.toNat_natCast, textsF_enc xs (k + (enc xs.length).length) r [] (by omega) hy (by rw [← List.drop_drop, h', List.drop_left])]
  unfold encL
  simp [Nat.add_assoc]
theorem textsR_torn {l : List UInt8} {k j : Nat} {xs : List ByteArray} {limit : Int} (hk : k ≤ l.length) (hx : (xs.length : Int) ≤ 9223372036854775807) (hl : (xs.length : Int) ≤ limit) (hy : ∀ y ∈ xs, (y.size : Int) ≤ 9223372036854775807 ∧ (y.size : Int) ≤ limit) (hj : j < (encL xs).length) (h : l.drop k = (encL xs).take j) :
    (textsR l k limit).2.2 = 3 := by
  unfold encL at hj h
  rw [List.length_append] at hj
  by_cases h1 : j < (enc xs.length).length
  · unfold textsR
    rw [countR_torn hk h1 (by rw [h, List.take_append_of_le_length (by omega)])]
    rw [if_pos (by simp)]
  · rw [List.take_append, List.take_of_length_le (by omega)] at h
    have hlen := congrArg List.length h
    rw [List.length_drop, List.length_append] at hlen
    unfold textsR
    rw [countR_enc hk hx hl h]
    simp only
    rw [if_neg (by simp), Int.toNat_natCast]
    exact textsF_torn xs (k + (enc xs.length).length) (j - (enc xs.length).length) [] (by omega) hy (by omega) (by rw [← List.drop_drop, h, List.drop_left])

end Go.Proofs.YtjhojpghllnoiaaDoor
