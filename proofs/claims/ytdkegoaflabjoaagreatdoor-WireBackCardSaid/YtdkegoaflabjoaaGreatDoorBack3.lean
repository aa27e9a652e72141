/-
What the functions on codes answer. Conditions: the numbers fit their kinds.
What the writing functions of pack answer: the bytes that came in, then the encoding. Conditions: the numbers fit their kinds; so many bytes fit a slice.
What PutTexts of pack and the writing functions of the specification answer. Conditions: lists and texts are short enough.
Cuts of slices, bytes read as a text; Same of the specifications. No other function of the program is walked here.
What Num and Count answer, of the program and of the specification. Conditions: the position fits an int; so many bytes fit a slice.
What Num of the specification answers. Conditions: the position fits an int; so many bytes fit a slice.
What count, Text and Texts answer, of the program and of the specification. Conditions: position and limit fit an int; so many bytes fit a slice.
What Flags and Flag answer, of the program and of the specification.
What Texts answers, of the program and of the specification; Same of lists of texts. Conditions: position and limit fit an int; at most 2^40 bytes.
The examples that every statement of brokerlaw03 holds besides: awake answers true. Conditions: none.
The walks of the first statements of brokerlaw03: each answers true. Conditions: the lists read as data; the numbers fit their kinds.
The walks of PackTextPuts and PackTextReads: each answers true. Conditions: the lists read as data; the numbers fit their kinds.
What a list that was read says of the bytes that were read. Conditions: none.
Reading what was written, whole and torn. Conditions: those named.
-/
import Derived.Test.YtdkegoaflabjoaaGreatDoorRow
import Derived.Test.YtdkegoaflabjoaaGreatDoorShelf
import Derived.BigQuiet
import Derived.Deep.Light
import Derived.Deep.LoopGhost
import Derived.Deep.QuietTactic
import Derived.Laws.Bits64b
import Derived.Laws.BytesArg
import Derived.Laws.MakeOwn
set_option maxHeartbeats 4000000
set_option maxRecDepth 20000
namespace Go.Proofs.YtdkegoaflabjoaaGreatDoor
open Go.RowKit

theorem ret_i {k : IntKind} {a b : Int} (h : a = b) : Ending.returned (.int k a) = .returned (.int k b) := by rw [h]
theorem wrap_u64_eq (m : Int) : IntKind.u64.wrap m = m % 18446744073709551616 := by simp [IntKind.wrap, IntKind.bits, IntKind.signed]
theorem wrap_i64_id (m : Int) (h1 : -9223372036854775808 ≤ m) (h2 : m ≤ 9223372036854775807) : IntKind.i64.wrap m = m := by rw [IntKind.wrap_i64]; omega
theorem wrap64_id (m : Int) (h1 : -9223372036854775808 ≤ m) (h2 : m ≤ 9223372036854775807) : wrap64 m = m := by
 unfold wrap64
 omega
theorem xor_ones (x : Nat) (h : x < 18446744073709551616) : x ^^^ 18446744073709551615 = 18446744073709551615 - x := by
 have e : (18446744073709551615 : Nat) - x = 2 ^ 64 - (x + 1) := by omega
 have e2 : (18446744073709551615 : Nat) = 2 ^ 64 - 1 := by decide
 rw [e]
 refine Nat.eq_of_testBit_eq fun i => ?_
 rw [Nat.testBit_two_pow_sub_succ (by omega : x < 2 ^ 64), Nat.testBit_xor, e2, Nat.testBit_two_pow_sub_one]
 by_cases hi : i < 64
 · simp [hi]
 · have : x.testBit i = false := Nat.testBit_lt_two_pow (Nat.lt_of_lt_of_le h (by
    have : (2 : Nat) ^ 64 ≤ 2 ^ i := Nat.pow_le_pow_right (by decide) (by omega)
    simpa using this))
   simp [hi, this]
theorem encoded_form (n : Int) (h1 : -9223372036854775808 ≤ n) (h2 : n ≤ 9223372036854775807) :
 bits .xor .u64 (IntKind.u64.wrap (IntKind.u64.wrap n * 2)) (IntKind.u64.wrap (n / 9223372036854775808)) = (cdN n : Int) := by
 rw [wrap_u64_eq, wrap_u64_eq, wrap_u64_eq]
 by_cases h0 : 0 ≤ n
 · have e1 : n % 18446744073709551616 * 2 % 18446744073709551616 = ((2 * n).toNat : Int) := by omega
   have e2 : n / 9223372036854775808 % 18446744073709551616 = ((0 : Nat) : Int) := by omega
   rw [e1, e2, u64_xor_nat _ _ (by omega) (by omega), Nat.xor_zero]
   unfold cdN
   rw [if_pos h0]
 · have e1 : n % 18446744073709551616 * 2 % 18446744073709551616 = ((2 * n + 18446744073709551616).toNat : Int) := by omega
   have e2 : n / 9223372036854775808 % 18446744073709551616 = ((18446744073709551615 : Nat) : Int) := by omega
   rw [e1, e2, u64_xor_nat _ _ (by omega) (by omega), xor_ones _ (by omega)]
   unfold cdN
   rw [if_neg h0]
   omega
theorem i64_xor_ones (a : Int) (h1 : 0 ≤ a) (h2 : a ≤ 9223372036854775807) : bits .xor .i64 a (-1) = -a - 1 := by
 have e1 : (BitVec.ofInt 64 a ^^^ BitVec.ofInt 64 (-1)) = ~~~ (BitVec.ofInt 64 a) := by
  have : BitVec.ofInt 64 (-1) = BitVec.allOnes 64 := by decide
  rw [this, BitVec.xor_allOnes]
 show IntKind.i64.wrap ((BitVec.ofInt 64 a ^^^ BitVec.ofInt 64 (-1)).toNat : Nat) = _
 rw [e1, BitVec.toNat_not, BitVec.toNat_ofInt, IntKind.wrap_i64]
 omega
theorem i64_xor_zero (a : Int) (h1 : 0 ≤ a) (h2 : a ≤ 9223372036854775807) : bits .xor .i64 a 0 = a := by
 have e1 : (BitVec.ofInt 64 a ^^^ BitVec.ofInt 64 0) = (BitVec.ofInt 64 a) := by
  have : BitVec.ofInt 64 0 = 0#64 := by decide
  rw [this, BitVec.xor_zero]
 show IntKind.i64.wrap ((BitVec.ofInt 64 a ^^^ BitVec.ofInt 64 0).toNat : Nat) = _
 rw [e1, BitVec.toNat_ofInt, IntKind.wrap_i64]
 omega
theorem decoded_form (c : Nat) (h1 : c < 18446744073709551616) :
 bits .xor .i64 ((c : Int) / 2) (wrap64 (-wrap64 (bits .and .u64 (c : Int) 1))) = ncI c := by
 have e : bits .and .u64 (c : Int) 1 = ((c % 2 : Nat) : Int) := by
  have := u64_and_nat c 1 h1 (by decide)
  rw [Nat.and_one_is_mod] at this
  exact this
 rw [e]
 have hr := nc_range h1
 unfold ncI at hr ⊢
 by_cases h0 : c % 2 = 0
 · rw [h0, if_pos rfl]
   have : wrap64 (-wrap64 ((0 : Nat) : Int)) = 0 := by unfold wrap64; omega
   rw [this, i64_xor_zero _ (by omega) (by omega)]
   omega
 · have h1' : c % 2 = 1 := by omega
   rw [h1', if_neg (by decide)]
   have : wrap64 (-wrap64 ((1 : Nat) : Int)) = -1 := by unfold wrap64; omega
   rw [this, i64_xor_ones _ (by omega) (by omega)]
   omega

theorem encoded_any (n : Int) (h1 : -9223372036854775808 ≤ n) (h2 : n ≤ 9223372036854775807) (w : World) :
 Calls Tryz.prog 122 #[.int .i64 n] w fun e w' => e = .returned (.int .u64 (cdN n)) ∧ w = w' := by
 go_enter Tryz.func122, Tryz.ntmps122
 go_wp2
 go_ret
 exact ⟨ret_i (encoded_form n h1 h2), rfl⟩
theorem decoded_any (c : Nat) (h1 : c < 18446744073709551616) (w : World) :
 Calls Tryz.prog 112 #[.int .u64 c] w fun e w' => e = .returned (.int .i64 (ncI c)) ∧ w = w' := by
 go_enter Tryz.func112, Tryz.ntmps112
 go_wp2
 go_ret
 exact ⟨ret_i (decoded_form c h1), rfl⟩
theorem len64_any (c : Nat) (h1 : c < 18446744073709551616) (w : World) :
 Calls Tryz.prog 123 #[.int .u64 c] w fun e w' => (∃ k : Nat, k ≤ 64 ∧ e = .returned (.int .i64 k)) ∧ w = w' := by
 refine (Tryz.bits_Len64 c w (by omega) (by omega)).mono ?_
 rintro e w' ⟨rfl, rfl⟩
 have hb : Lib.bitLen c ≤ 64 := Lib.bitLenAux_le _ _ _ (by simpa using h1)
 exact ⟨⟨Lib.bitLen c, hb, rfl⟩, rfl⟩
theorem numSize_any (n : Int) (h1 : -9223372036854775808 ≤ n) (h2 : n ≤ 9223372036854775807) (w : World) :
 Calls Tryz.prog 108 #[.int .i64 n] w fun e w' => (∃ k : Nat, 1 ≤ k ∧ k ≤ 10 ∧ e = .returned (.int .i64 k)) ∧ w = w' := by
 have HE := Lib.hid (encoded_any n h1 h2)
 have HL := Lib.hid (len64_any (cdN n) (cd_lt h1 h2))
 generalize cdN n = c at HE HL
 clear h1 h2
 go_enter Tryz.func108, Tryz.ntmps108
 go_wp2_with first | (go_at_call 122; refine (HE.out _).mono ?_; rintro e w' ⟨rfl, rfl⟩) | (go_at_call 123; refine (HL.out _).mono ?_; rintro e w' ⟨⟨k, hk, rfl⟩, rfl⟩)
 go_ret
 exact ⟨⟨(max 1 (((k : Int) + 7 - 1) / 7)).toNat, by omega, by omega, ret_i (by omega)⟩, rfl⟩
theorem textSize_any (s : ByteArray) (hs : s.size ≤ 140737488355328) (w : World) :
 Calls Tryz.prog 92 #[.string s] w fun e w' => (∃ k : Nat, k ≤ 10 + s.size ∧ e = .returned (.int .i64 k)) ∧ w = w' := by
 have HN := Lib.hid (numSize_any s.size (by omega) (by omega))
 go_enter Tryz.func92, Tryz.ntmps92
 go_wp2_with fail
 refine (HN.out _).mono ?_
 rintro e w' ⟨⟨k, hk1, hk, rfl⟩, rfl⟩
 go_wp2_with fail
 go_ret
 exact ⟨⟨k + s.size, by omega, ret_i (by omega)⟩, rfl⟩

theorem infoU8 : (Tryz.prog.info? 5).map (fun i => (i.zero, i.size, i.bytes)) = some (some (.int .u8 0), 1, 1) := by kernel_rfl
theorem sizeU8 : (Tryz.prog.info? 5).map (fun i => i.size) = some 1 := by kernel_rfl
theorem bv_one (x : UInt8) : (bv x).oneCell' = true := rfl
theorem bvs_one (xs : List UInt8) : ∀ u ∈ xs.map bv, u.oneCell' = true := fun u hu => by
 obtain ⟨x, _, rfl⟩ := List.mem_map.1 hu
 rfl
theorem extend_any (A : Option Addr) (c : Nat) (xs : List UInt8) (size : Nat) (w : World) (hsl : CL bv w w.heap.size A xs) (hn : xs.length + size ≤ 140737488355328) :
 Calls Tryz.prog 91 #[.slice A xs.length c, .int .i64 size] w fun e w' => ∃ v, e = .returned v ∧ Own 5 bv w' w.heap.size v xs ∧ Below w.heap.size w w' := by
 obtain ⟨i, hi, hz, hz1, hz2⟩ := info_parts infoU8
 obtain ⟨cur, hcur⟩ : ∃ cur : List Value, cur = (madeCells (Value.int .u8 0).cells ((xs.length + size) * i.size)).toList := ⟨_, rfl⟩
 have hcl : cur.length = xs.length + size := by rw [hcur, Array.length_toList, size_madeCells, hz1, Nat.mul_one]
 have hmk : (Instr.makeSlice 25 (.int .i64 (xs.length : Int)) (.int .i64 ((xs.length : Int) + (size : Int)))).run Tryz.prog w =
  .ok (.slice (some ⟨w.heap.size, 0, none⟩) xs.length (xs.length + size)) (w.alloc (.cells cur.toArray 5)) := by
  have hr := run_make (P := Tryz.prog) w 25 5 i (.int .u8 0) Tryz.underlying25 hi hz .i64 .i64 xs.length ((xs.length : Int) + (size : Int)) (by omega) (by omega) (by rw [hz2]; omega) (by omega)
  have e1 : ((xs.length : Int)).toNat = xs.length := by omega
  have e2 : ((xs.length : Int) + (size : Int)).toNat = xs.length + size := by omega
  rw [e1, e2] at hr
  rw [hr, hcur]
 have hpos : 0 < (xs.map bv).length → (some ⟨w.heap.size, 0, none⟩ : Option Addr) = some ⟨w.heap.size, 0, none⟩ ∧ ∃ ad, A = some ad ∧ ∀ (j : Nat) (v : Value), (xs.map bv)[j]? = some v → (w.alloc (.cells cur.toArray 5)).cell? (ad.add j) = some v := fun h0 => by
  rw [List.length_map] at h0
  obtain ⟨b, o, rfl, hb, hc⟩ := hsl h0
  refine ⟨rfl, _, rfl, fun j v hj => ?_⟩
  rw [List.getElem?_map] at hj
  cases hx : xs[j]? with
  | none => rw [hx] at hj; cases hj
  | some x =>
    rw [hx] at hj
    obtain rfl := Option.some.inj hj
    have := hc j x hx
    have h2 : (w.alloc (.cells cur.toArray 5)).cell? ⟨b, o + j, none⟩ = some (bv x) := by rw [((Below.refl w.heap.size w).alloc (Nat.le_refl _) _).cell hb]; exact this
    unfold Addr.add
    split
    · next h0 => subst h0; exact h2
    · exact h2
 have hg : (w.alloc (.cells cur.toArray 5)).heap[w.heap.size]? = some (.cells cur.toArray 5) := heap_alloc_new w _
 have HP := Lib.hid hpos
 have HG := Lib.hid hg
 have HC := Lib.hid hcur
 clear hpos hg hcur hsl
 go_enter Tryz.func91, Tryz.ntmps91
 go_wp2_with (with_reducible refine wpList_copy_splice rfl (.tmp 13) (.tmp 14) 25 25 rfl 5 Tryz.underlying25 sizeU8 (some ⟨w.heap.size, 0, none⟩) A xs.length (xs.length + size) xs.length c rfl rfl w.heap.size 0 cur 5 HG.out (xs.map bv) (by simp) HP.out (by simp; omega) (bvs_one xs) w.heap.size w ((Below.refl _ _).alloc (Nat.le_refl _) _) (Nat.le_refl _) ?_; intro w' hg' hb')
 go_ret
 refine ⟨_, rfl, ?_, hb'⟩
 have hl := length_splice cur 0 (xs.map bv) (by simp; omega)
 refine ⟨by simp, .inr ⟨w.heap.size, xs.length + size, _, rfl, Nat.le_refl _, hg'.out, by omega, by unfold maxLen; omega, ?_, ?_⟩⟩
 · rw [List.size_toArray, hl]; omega
 · unfold splice
   rw [List.take_zero, List.nil_append, Nat.mul_one]
   exact (List.take_left' (by simp))

end Go.Proofs.YtdkegoaflabjoaaGreatDoor
namespace Go.Proofs.YtdkegoaflabjoaaGreatDoor
open Go.RowKit

/-- a slice of these bytes, of the call's own, is handed back; what was there is as it was -/
def RetB (xs : List UInt8) (W : World) (e : Ending) (w' : World) : Prop := ∃ v, e = .returned v ∧ Own 5 bv w' W.heap.size v xs ∧ Below W.heap.size W w'

/-- a loop that writes a code: what is written and what is left make the whole -/
def PutRel (total : List UInt8) (ys : List UInt8) (c : Nat) : Prop := ∃ f, f ≤ 9 ∧ c < 128 ^ (f + 1) ∧ ys ++ encF f c = total
theorem PutRel.start {n : Int} (h1 : -9223372036854775808 ≤ n) (h2 : n ≤ 9223372036854775807) (xs : List UInt8) : PutRel (xs ++ enc n) xs (cdN n) :=
 ⟨9, by omega, Nat.lt_of_lt_of_le (cd_lt h1 h2) (by decide), rfl⟩
theorem PutRel.next {total ys : List UInt8} {c : Nat} (h : PutRel total ys c) (hc : 128 ≤ c) : PutRel total (ys ++ [UInt8.ofNat (c % 128 + 128)]) (c / 128) := by
 obtain ⟨f, hf, hl, ht⟩ := h
 cases f with
 | zero => simp at hl; omega
 | succ f =>
   refine ⟨f, by omega, div_lt128 hl, ?_⟩
   rw [encF_big _ _ (by omega)] at ht
   rw [← ht]
   simp
theorem PutRel.done {total ys : List UInt8} {c : Nat} (h : PutRel total ys c) (hc : c < 128) : ys ++ [UInt8.ofNat c] = total := by
 obtain ⟨f, hf, hl, ht⟩ := h
 rw [encF_small _ _ hc] at ht
 exact ht
theorem PutRel.len {total ys : List UInt8} {c : Nat} (h : PutRel total ys c) : ys.length + 1 ≤ total.length := by
 obtain ⟨f, hf, hl, ht⟩ := h
 rw [← ht, List.length_append]
 have := (encF_len f c).1
 omega

section
variable {ops : Array Oper} {rest : List Oper} {o : Oper} {a : Act} {Q : Exit → Act → World → Prop}
theorem wpList_appB1 (wr : World) (hgd : o.guard = none) (s x : Operand) (ho : o.op = .call { callee := .builtin .append, args := #[s, x], argTypes := #[25, 25] })
 (B : Nat) (v : Value) (xs : List UInt8) (y : UInt8) (u : Value) (hu : u = bv y) (hs : a.eval s = v) (hown : Own 5 bv wr B v xs) (hx : a.eval x = .slice (some ⟨wr.heap.size, 0, none⟩) 1 1) (w0 : World) (hb : Below B w0 wr) (hB : B ≤ wr.heap.size)
 (hn : xs.length ≤ 100000000000100) (h : ∀ v' w', Own 5 bv w' B v' (xs ++ [y]) → Below B w0 w' → B ≤ w'.heap.size → wpList Tryz.prog ops Q rest (a.put o.dst v') w') : wpList Tryz.prog ops Q (o :: rest) a (wr.alloc (.cells #[u] 5)) :=
 wpList_app _ hgd s x 25 25 ho (.int .u8 0) 1 Tryz.underlying25 infoU8 rfl (by decide) B v xs [y] hs (hown.alloc _) _ hx 1 (src_one Tryz.underlying25 wr y u hu rfl) w0 (hb.alloc hB _) (by simp; omega) (by simp; omega) h
theorem wpList_appB (wr : World) (hgd : o.guard = none) (s x : Operand) (ho : o.op = .call { callee := .builtin .append, args := #[s, x], argTypes := #[25, 25] })
 (B : Nat) (v : Value) (xs ys : List UInt8) (A : Option Addr) (c : Nat) (hs : a.eval s = v) (hown : Own 5 bv wr B v xs) (hx : a.eval x = .slice A ys.length c) (B' : Nat) (hsl : CL bv wr B' A ys) (w0 : World) (hb : Below B w0 wr) (hB : B ≤ wr.heap.size)
 (hn : xs.length + ys.length ≤ 140737488355328) (h : ∀ v' w', Own 5 bv w' B v' (xs ++ ys) → Below B w0 w' → B ≤ w'.heap.size → wpList Tryz.prog ops Q rest (a.put o.dst v') w') : wpList Tryz.prog ops Q (o :: rest) a wr :=
 wpList_app wr hgd s x 25 25 ho (.int .u8 0) 1 Tryz.underlying25 infoU8 rfl (by decide) B v xs ys hs hown _ hx ys.length (hsl.src Tryz.underlying25 bv_one c) w0 hb hB (by omega) h
theorem wpList_appBs (wr : World) (hgd : o.guard = none) (s x : Operand) (ho : o.op = .call { callee := .builtin .append, args := #[s, x], argTypes := #[25, 9] })
 (B : Nat) (v : Value) (xs : List UInt8) (y : ByteArray) (hs : a.eval s = v) (hown : Own 5 bv wr B v xs) (hx : a.eval x = .string y) (w0 : World) (hb : Below B w0 wr) (hB : B ≤ wr.heap.size)
 (hn : xs.length + y.size ≤ 140737488355328) (h : ∀ v' w', Own 5 bv w' B v' (xs ++ dl y) → Below B w0 w' → B ≤ w'.heap.size → wpList Tryz.prog ops Q rest (a.put o.dst v') w') : wpList Tryz.prog ops Q (o :: rest) a wr :=
 wpList_app wr hgd s x 25 9 ho (.int .u8 0) 1 Tryz.underlying25 infoU8 rfl (by decide) B v xs (dl y) hs hown _ hx y.size (src_str Tryz.underlying9 wr y) w0 hb hB (by rw [← size_dl]; omega) h
end
theorem byte_more (k : Nat) (hk : k < 18446744073709551616) : Value.int .u8 (bits .or .u64 (bits .and .u64 (k : Int) 127) 128 % 256) = bv (UInt8.ofNat (k % 128 + 128)) := by
 have e1 : bits .and .u64 (k : Int) 127 = ((k % 128 : Nat) : Int) := by
  have := u64_and_nat k 127 hk (by decide)
  rw [show (127 : Nat) = 2 ^ 7 - 1 by decide, Nat.and_two_pow_sub_one_eq_mod] at this
  exact this
 have e2 : bits .or .u64 ((k % 128 : Nat) : Int) 128 = ((k % 128 + 128 : Nat) : Int) := by
  have := u64_or_nat (k % 128) 128 (by omega) (by decide)
  have h2 := Nat.two_pow_add_eq_or_of_lt (i := 7) (b := k % 128) (by omega) 1
  rw [Nat.or_comm] at h2
  have h3 : (k % 128 ||| 128) = 128 + k % 128 := h2.symm
  rw [h3, Nat.add_comm] at this
  exact this
 unfold bv
 rw [e1, e2, toNat_ofNat8 (by omega)]
 congr 1
 omega
theorem byte_last (k : Nat) (hk : k < 128) : Value.int .u8 (k : Int) = bv (UInt8.ofNat k) := by
 unfold bv
 rw [toNat_ofNat8 (by omega)]

theorem addNum_any (v : Value) (xs : List UInt8) (n : Int) (h1 : -9223372036854775808 ≤ n) (h2 : n ≤ 9223372036854775807) (w : World) (B : Nat) (hown : Own 5 bv w B v xs) (hB : B ≤ w.heap.size) (hn : xs.length ≤ 100000000000000) :
 Calls Tryz.prog 107 #[v, .int .i64 n] w fun e w' => ∃ v', e = .returned v' ∧ Own 5 bv w' B v' (xs ++ enc n) ∧ Below B w w' ∧ B ≤ w'.heap.size := by
 have HE := Lib.hid (encoded_any n h1 h2)
 have HS := Lib.hid (PutRel.start h1 h2 xs)
 have hcl := cd_lt h1 h2
 have htl : (xs ++ enc n).length ≤ 100000000000010 := by have := (enc_len n).2; rw [List.length_append]; omega
 generalize cdN n = c at HE HS hcl
 generalize xs ++ enc n = total at HS htl ⊢
 clear h1 h2
 go_enter Tryz.func107, Tryz.ntmps107
 go_wp2_with (go_at_call 122; refine (HE.out _).mono ?_; rintro e w' ⟨rfl, rfl⟩)
 go_loopw [0, 5] (fun u i wr => ∃ (k : Nat) (ys : List UInt8), i = .int .u64 k ∧ k < 18446744073709551616 ∧ PutRel total ys k ∧ Own 5 bv wr B u ys ∧ Below B w wr ∧ B ≤ wr.heap.size) (fun _ i _ => (intOf i).toNat)
 case atStart => exact ⟨c, xs, rfl, hcl, HS.out, hown, Below.refl _ _, hB⟩
 case round =>
  obtain ⟨k, ys, rfl, hkl, hrel, hown, hb, hsz⟩ := hrel
  have HR := Lib.hid hrel
  have hyl := hrel.len
  clear hrel
  by_cases hk : 128 ≤ k
  · have hd : decide ((128 : Int) ≤ (k : Int)) = true := decide_eq_true (by omega)
    go_wp2_with (at_builtin; go_must (refine wpList_appB1 wr rfl _ _ rfl B u0 ys _ _ (byte_more k hkl) rfl hown rfl w hb hsz (by omega) ?_); intro v' w1 hown' hb' hsz')
    exact ⟨⟨k / 128, _, by go_num, by omega, HR.out.next hk, hown', hb', hsz'⟩, by simp [intOf]; omega⟩
  · have hd : decide ((128 : Int) ≤ (k : Int)) = false := decide_eq_false (by omega)
    go_wp2_with (at_builtin; go_must (refine wpList_appB1 wr rfl _ _ rfl B u0 ys _ _ (byte_last k (by omega)) rfl hown rfl w hb hsz (by omega) ?_); intro v' w1 hown' hb' hsz')
    go_ret
    have hd := HR.out.done (by omega)
    rw [hd] at hown'
    exact ⟨_, rfl, hown', hb', hsz'⟩

theorem addText_any (v : Value) (xs : List UInt8) (s : ByteArray) (w : World) (B : Nat) (hown : Own 5 bv w B v xs) (hB : B ≤ w.heap.size) (hn : xs.length ≤ 100000000000) (hs : s.size ≤ 100000000000) :
 Calls Tryz.prog 90 #[v, .string s] w fun e w' => ∃ v', e = .returned v' ∧ Own 5 bv w' B v' (xs ++ (enc s.size ++ dl s)) ∧ Below B w w' ∧ B ≤ w'.heap.size := by
 have HN := Lib.hid (addNum_any v xs s.size (by omega) (by omega) w B hown hB (by omega))
 have htl : (enc s.size).length ≤ 10 := (enc_len s.size).2
 generalize enc s.size = en at HN htl ⊢
 go_enter Tryz.func90, Tryz.ntmps90
 go_wp2_with fail
 refine HN.out.mono ?_
 rintro e w' ⟨v1, rfl, hown1, hb1, hB1⟩
 clear HN
 go_wp2_with (at_builtin; go_must (refine wpList_appBs w' rfl _ _ rfl B v1 (xs ++ en) s rfl hown1 rfl w hb1 hB1 (by simp; omega) ?_); intro v2 w2 hown2 hb2 hB2)
 go_ret
 rw [List.append_assoc] at hown2
 exact ⟨_, rfl, hown2, hb2, hB2⟩

theorem putNum_any (A : Option Addr) (c : Nat) (xs : List UInt8) (n : Int) (h1 : -9223372036854775808 ≤ n) (h2 : n ≤ 9223372036854775807) (w : World) (hsl : CL bv w w.heap.size A xs) (hn : xs.length ≤ 100000000000) :
 Calls Tryz.prog 80 #[.slice A xs.length c, .int .i64 n] w (RetB (xs ++ enc n) w) := by
 have HS := Lib.hid (numSize_any n h1 h2)
 have HN := Lib.hid (fun v w B hown hB => addNum_any v xs n h1 h2 w B hown hB (by omega))
 go_enter Tryz.func80, Tryz.ntmps80
 go_wp2_with fail
 refine (HS.out _).mono ?_
 rintro e w' ⟨⟨k, hk1, hk, rfl⟩, rfl⟩
 have HE := Lib.hid (extend_any A c xs k w hsl (by omega))
 go_wp2_with fail
 refine HE.out.mono ?_
 rintro e w1 ⟨v1, rfl, hown1, hb1⟩
 clear HE
 go_wp2_with fail
 refine (HN.out v1 w1 w.heap.size hown1 hb1.size).mono ?_
 rintro e w2 ⟨v2, rfl, hown2, hb2, hB2⟩
 go_wp2_with fail
 go_ret
 exact ⟨_, rfl, hown2, hb1.trans hb2⟩

theorem putText_any (A : Option Addr) (c : Nat) (xs : List UInt8) (s : ByteArray) (w : World) (hsl : CL bv w w.heap.size A xs) (hn : xs.length ≤ 100000000000) (hs : s.size ≤ 100000000000) :
 Calls Tryz.prog 63 #[.slice A xs.length c, .string s] w (RetB (xs ++ (enc s.size ++ dl s)) w) := by
 have HS := Lib.hid (textSize_any s (by omega))
 have HN := Lib.hid (fun v w B hown hB => addText_any v xs s w B hown hB hn hs)
 go_enter Tryz.func63, Tryz.ntmps63
 go_wp2_with fail
 refine (HS.out _).mono ?_
 rintro e w' ⟨⟨k, hk, rfl⟩, rfl⟩
 have HE := Lib.hid (extend_any A c xs k w hsl (by omega))
 go_wp2_with fail
 refine HE.out.mono ?_
 rintro e w1 ⟨v1, rfl, hown1, hb1⟩
 clear HE
 go_wp2_with fail
 refine (HN.out v1 w1 w.heap.size hown1 hb1.size).mono ?_
 rintro e w2 ⟨v2, rfl, hown2, hb2, hB2⟩
 go_wp2_with fail
 go_ret
 exact ⟨_, rfl, hown2, hb1.trans hb2⟩

end Go.Proofs.YtdkegoaflabjoaaGreatDoor
namespace Go.Proofs.YtdkegoaflabjoaaGreatDoor
open Go.RowKit

def encT (s : ByteArray) : List UInt8 := enc s.size ++ dl s
theorem encT_len (s : ByteArray) : (encT s).length ≤ 10 + s.size := by
 unfold encT
 rw [List.length_append, ← size_dl]
 have := (enc_len s.size).2
 omega
/-- a list of texts in memory -/
abbrev SL (w : World) (B : Nat) (A : Option Addr) (xs : List ByteArray) : Prop := CL Value.string w B A xs

end Go.Proofs.YtdkegoaflabjoaaGreatDoor
namespace Go.Proofs.YtdkegoaflabjoaaGreatDoor
open Go.RowKit

theorem elemB : Tryz.prog.elem 25 = 5 := by kernel_rfl
theorem undB : Tryz.prog.underlying 25 = some (.slice (Tryz.prog.elem 25)) := by rw [elemB]; exact Tryz.underlying25
theorem sizeB (w : World) : (sizeOf (Tryz.prog.elem 25)).run Tryz.prog w = .ok 1 w := by
 obtain ⟨i, hi, hz, hz1, hz2⟩ := info_parts infoU8
 rw [elemB]
 simp [sizeOf, typeInfo, hi, hz1]

/-- the address of a cut -/
theorem cut_addr {α : Type} {f : α → Value} {w : World} {B : Nat} {A : Option Addr} {xs : List α} (h : CL f w B A xs) {k m : Nat} (hk : k ≤ xs.length) (hm : k < xs.length → m ≠ k) :
 CL f w B (if m = k then A else A.map (·.add (k * 1))) (xs.drop k) := fun hn => by
 rw [List.length_drop] at hn
 obtain ⟨b, o, e, hb, hcell⟩ := h (by omega)
 rw [if_neg (hm (by omega)), e]
 refine ⟨b, o + k, ?_, hb, fun j x hx => ?_⟩
 · simp only [Option.map_some, Addr.add, Nat.mul_one]
   split
   · next h0 => subst h0; rfl
   · rfl
 · rw [List.getElem?_drop] at hx
   rw [Nat.add_assoc]
   exact hcell _ x hx

theorem slice_l (A : Option Addr) (c : Nat) (xs : List UInt8) (k : Nat) (hk : k ≤ xs.length) (hc : xs.length ≤ c) :
 ∃ A2, (∀ w, (Instr.slice 25 (.slice A xs.length c) (some (.int .i64 k)) none none).run Tryz.prog w = .ok (.slice A2 (xs.drop k).length (c - k)) w) ∧ ∀ w B, CL bv w B A xs → CL bv w B A2 (xs.drop k) := by
 refine ⟨if c = k then A else A.map (·.add (k * 1)), fun w => ?_, fun w B h => cut_addr h hk (fun _ => by omega)⟩
 rw [run_slice_l (P := Tryz.prog) w 25 A xs.length c undB .i64 k (by omega) (by omega), sizeB, List.length_drop]
 simp [Result.andThen, sliced]
theorem slice_lhm (A : Option Addr) (c : Nat) (xs : List UInt8) (k h : Nat) (hk : k ≤ h) (hh : h ≤ xs.length) (hc : xs.length ≤ c) :
 ∃ A2, (∀ w, (Instr.slice 25 (.slice A xs.length c) (some (.int .i64 k)) (some (.int .i64 h)) (some (.int .i64 h))).run Tryz.prog w = .ok (.slice A2 ((xs.drop k).take (h - k)).length ((xs.drop k).take (h - k)).length) w) ∧ ∀ w B, CL bv w B A xs → CL bv w B A2 ((xs.drop k).take (h - k)) := by
 have e : ((xs.drop k).take (h - k)).length = h - k := by rw [List.length_take, List.length_drop]; omega
 refine ⟨if h = k then A else A.map (·.add (k * 1)), fun w => ?_, fun w B hs => ?_⟩
 · rw [run_slice_lhm (P := Tryz.prog) w 25 A xs.length c undB .i64 .i64 .i64 k h h (by omega) (by omega) (by omega) (by omega), sizeB, e]
   simp [Result.andThen, sliced]
 · by_cases h0 : h = k
   · have : (xs.drop k).take (h - k) = [] := List.eq_nil_of_length_eq_zero (by omega)
     rw [this]
     exact CL.nil _ _ _
   · exact (cut_addr hs (by omega) (fun _ => by omega)).take _
theorem slice_h (A : Option Addr) (c : Nat) (xs : List UInt8) (h : Nat) (hh : h ≤ xs.length) (hc : xs.length ≤ c) :
 ∃ A2, (∀ w, (Instr.slice 25 (.slice A xs.length c) none (some (.int .i64 h)) none).run Tryz.prog w = .ok (.slice A2 (xs.take h).length c) w) ∧ ∀ w B, CL bv w B A xs → CL bv w B A2 (xs.take h) := by
 have e : (xs.take h).length = h := by rw [List.length_take]; omega
 refine ⟨if c = 0 then A else A.map (·.add (0 * 1)), fun w => ?_, fun w B hs => ?_⟩
 · rw [run_slice_h (P := Tryz.prog) w 25 A xs.length c undB .i64 h (by omega) (by omega), sizeB, e]
   simp [Result.andThen, sliced]
 · have := (cut_addr hs (k := 0) (m := c) (by omega) (fun _ => by omega))
   rw [List.drop_zero] at this
   exact this.take _

theorem strOf (xs : List UInt8) : strOfNums (xs.map fun x => (x.toNat : Int)) = bs xs := by
 apply dl_inj
 rw [dl_bs]
 unfold dl
 rw [strOfNums_data, List.map_map]
 conv => rhs; rw [← List.map_id xs]
 refine List.map_congr_left fun x _ => ?_
 simp
theorem conv_str {w : World} {B : Nat} {A : Option Addr} {xs : List UInt8} (h : CL bv w B A xs) (c : Nat) : (convert 25 9 (.slice A xs.length c)).run Tryz.prog w = .ok (.string (bs xs)) w := by
 by_cases h0 : 0 < xs.length
 · obtain ⟨b, o, rfl, hb, hc⟩ := h h0
   have := run_convert_bytes_arg (P := Tryz.prog) w 25 5 Tryz.underlying25 Tryz.underlying5 b o xs.length c (xs.map fun x => (x.toNat : Int)) (by simp) (fun i hi => by
    rw [hc i _ (List.getElem?_eq_getElem hi)]
    unfold bv
    rw [List.getD_eq_getElem?_getD, List.getElem?_map, List.getElem?_eq_getElem hi]
    rfl) 9 Tryz.underlying9
   rw [this, strOf]
 · have hx : xs = [] := List.eq_nil_of_length_eq_zero (by omega)
   subst hx
   cases A with
   | none => exact run_convert_bytes_nil (P := Tryz.prog) w 25 5 Tryz.underlying25 Tryz.underlying5 0 c 9 Tryz.underlying9
   | some a =>
     rw [run_convert_bytes_string (P := Tryz.prog) w 25 9 5 (some a) _ c Tryz.underlying25 Tryz.underlying5 Tryz.underlying9]
     rw [run_bytesToString (P := Tryz.prog) w a _ c [] (by simp [loadCells, loadCellsFrom])]
     rfl

theorem str_eq {x y : ByteArray} : (x.toList == y.toList) = true ↔ x = y := by
 constructor
 · intro h
   have h' := eq_of_beq h
   rw [Lib.toList_data, Lib.toList_data] at h'
   exact dl_inj h'
 · intro h
   rw [h]
   exact beq_self_eq_true _
theorem str_dec (x y : ByteArray) : (x.toList == y.toList) = decide (x = y) := by
 rw [Bool.eq_iff_iff, str_eq, decide_eq_true_eq]
end Go.Proofs.YtdkegoaflabjoaaGreatDoor
namespace Go.Proofs.YtdkegoaflabjoaaGreatDoor
open Go.RowKit

/-- the number, the position behind it, the error -/
def numR (l : List UInt8) (p : Int) : Int × Int × Int :=
 if p < 0 ∨ (l.length : Int) < p then (0, 0, 1)
 else if (rdF 0 0 (l.drop p.toNat)).1 = 0 then (ncI (rdF 0 0 (l.drop p.toNat)).2.1, p + (rdF 0 0 (l.drop p.toNat)).2.2, 0)
 else (0, 0, (rdF 0 0 (l.drop p.toNat)).1)
def tri (k : IntKind) (r : Int × Int × Int) : Ending := .returned (.tuple #[.int k r.1, .int .i64 r.2.1, .int .i64 r.2.2])
theorem tri3 {k : IntKind} {a a' b b' c c' : Int} (h1 : a = a') (h2 : b = b') (h3 : c = c') : Ending.returned (.tuple #[.int k a, .int .i64 b, .int .i64 c]) = tri k (a', b', c') := by subst h1; subst h2; subst h3; rfl
theorem numR_range {l : List UInt8} {p : Int} (h : p < 0 ∨ (l.length : Int) < p) : numR l p = (0, 0, 1) := by
 unfold numR
 rw [if_pos h]
theorem numR_in {l : List UInt8} {k : Nat} (hk : k ≤ l.length) : numR l (k : Int) =
 if (rdF 0 0 (l.drop k)).1 = 0 then (ncI (rdF 0 0 (l.drop k)).2.1, (k : Int) + ((rdF 0 0 (l.drop k)).2.2 : Int), 0) else (0, 0, ((rdF 0 0 (l.drop k)).1 : Int)) := by
 unfold numR
 rw [if_neg (by omega), Int.toNat_natCast]

/-- after i bytes of what is read -/
def RdRel (l : List UInt8) (i acc : Nat) : Prop := i ≤ l.length ∧ i ≤ 9 ∧ acc < 128 ^ i ∧ rdF 0 0 l = rdF i acc (l.drop i)
theorem RdRel.start (l : List UInt8) : RdRel l 0 0 := ⟨by omega, by omega, by simp, rfl⟩
theorem rdF_cons (i acc : Nat) (c : UInt8) (r : List UInt8) : rdF i acc (c :: r) =
 if i = 9 ∧ 1 < c.toNat then (2, 0, 0)
 else if 128 ≤ c.toNat then rdF (i + 1) (acc + (c.toNat % 128) * 128 ^ i) r
 else if c.toNat = 0 ∧ 0 < i then (2, 0, 0)
 else (0, acc + c.toNat * 128 ^ i, i + 1) := by rw [rdF]
theorem drop_at {l : List UInt8} {i : Nat} {x : UInt8} (hx : l[i]? = some x) : l.drop i = x :: l.drop (i + 1) := by
 obtain ⟨h, e⟩ := List.getElem?_eq_some_iff.1 hx
 rw [List.drop_eq_getElem_cons h, e]
theorem RdRel.next {l : List UInt8} {i acc : Nat} (h : RdRel l i acc) {x : UInt8} (hx : l[i]? = some x) (h9 : i ≠ 9) (h128 : 128 ≤ x.toNat) : RdRel l (i + 1) (acc + (x.toNat % 128) * 128 ^ i) := by
 obtain ⟨h1, h2, h3, h4⟩ := h
 have hl := (List.getElem?_eq_some_iff.1 hx).1
 refine ⟨by omega, by omega, ?_, ?_⟩
 · rw [pow128, Nat.mul_comm (128 ^ i) 128]
   have : (x.toNat % 128) * 128 ^ i ≤ 127 * 128 ^ i := Nat.mul_le_mul (by omega) (Nat.le_refl _)
   omega
 · rw [h4, drop_at hx, rdF_cons, if_neg (by omega), if_pos h128]
theorem RdRel.trunc {l : List UInt8} {i acc : Nat} (h : RdRel l i acc) (hi : i = l.length) : rdF 0 0 l = (3, 0, 0) := by
 rw [h.2.2.2, hi, List.drop_length]
 rfl
theorem RdRel.bad9 {l : List UInt8} {i acc : Nat} (h : RdRel l i acc) {x : UInt8} (hx : l[i]? = some x) (h9 : i = 9) (h1 : x.toNat ≠ 1) : rdF 0 0 l = (2, 0, 0) := by
 have hx256 := x.toNat_lt
 rw [h.2.2.2, drop_at hx, rdF_cons]
 by_cases h2 : 1 < x.toNat
 · rw [if_pos ⟨h9, h2⟩]
 · rw [if_neg (by omega), if_neg (by omega), if_pos (by omega)]
theorem RdRel.bad0 {l : List UInt8} {i acc : Nat} (h : RdRel l i acc) {x : UInt8} (hx : l[i]? = some x) (h9 : 0 < i) (h1 : x.toNat = 0) : rdF 0 0 l = (2, 0, 0) := by
 rw [h.2.2.2, drop_at hx, rdF_cons, if_neg (by omega), if_neg (by omega), if_pos (by omega)]
theorem RdRel.done {l : List UInt8} {i acc : Nat} (h : RdRel l i acc) {x : UInt8} (hx : l[i]? = some x) (h9 : i = 9 → x.toNat ≤ 1) (h128 : x.toNat < 128) (h0 : 0 < i → x.toNat ≠ 0) : rdF 0 0 l = (0, acc + x.toNat * 128 ^ i, i + 1) := by
 rw [h.2.2.2, drop_at hx, rdF_cons, if_neg (by omega), if_neg (by omega), if_neg (by omega)]
theorem RdRel.lt {l : List UInt8} {i acc : Nat} (h : RdRel l i acc) (x : Nat) (hx : x < 128) (h9 : i = 9 → x ≤ 1) : acc + x * 128 ^ i < 18446744073709551616 := by
 obtain ⟨_, h2, h3, _⟩ := h
 by_cases hi : i = 9
 · subst hi
   have := h9 rfl
   have e : 128 ^ 9 = 9223372036854775808 := by decide
   rw [e] at h3 ⊢
   omega
 · have : x * 128 ^ i ≤ 127 * 128 ^ i := Nat.mul_le_mul (by omega) (Nat.le_refl _)
   have hp : 128 ^ i ≤ 128 ^ 8 := Nat.pow_le_pow_right (by decide) (by omega)
   have e : 128 ^ 8 = 72057594037927936 := by decide
   rw [e] at hp
   omega

theorem RdRel.acc {l : List UInt8} {i acc : Nat} (h : RdRel l i acc) (y : Nat) (hy : y < 128) (h9 : i = 9 → y ≤ 1) : bits .or .u64 (acc : Int) (IntKind.u64.wrap ((y : Int) * 2 ^ (7 * i))) = ((acc + y * 128 ^ i : Nat) : Int) := by
 have hlt := h.lt y hy h9
 obtain ⟨_, h2, h3, _⟩ := h
 have e1 : (2 : Nat) ^ (7 * i) = 128 ^ i := by rw [Nat.pow_mul]
 have e2 : ((y : Int) * 2 ^ (7 * i)) = ((y * 128 ^ i : Nat) : Int) := by
  rw [Int.natCast_mul, ← e1]
  simp
 rw [e2, wrap_u64_eq]
 have e3 : ((y * 128 ^ i : Nat) : Int) % 18446744073709551616 = ((y * 128 ^ i : Nat) : Int) := by omega
 rw [e3, u64_or_nat _ _ (by omega) (by omega)]
 have h4 := Nat.two_pow_add_eq_or_of_lt (i := 7 * i) (b := acc) (by rw [e1]; exact h3) y
 rw [e1] at h4
 congr 1
 rw [Nat.or_comm, Nat.mul_comm y, ← h4, Nat.add_comm]
theorem and128 (x : UInt8) (h : 128 ≤ x.toNat) : bits .and .u8 (x.toNat : Int) 128 = 128 := by
 have : ∀ y : Fin 256, 128 ≤ y.val → bits .and .u8 (y.val : Int) 128 = 128 := by decide +kernel
 exact this ⟨x.toNat, x.toNat_lt⟩ h
theorem and128' (x : UInt8) (h : x.toNat < 128) : bits .and .u8 (x.toNat : Int) 128 = 0 := by
 have : ∀ y : Fin 256, y.val < 128 → bits .and .u8 (y.val : Int) 128 = 0 := by decide +kernel
 exact this ⟨x.toNat, x.toNat_lt⟩ h
theorem and127 (x : UInt8) : bits .and .u8 (x.toNat : Int) 127 = ((x.toNat % 128 : Nat) : Int) := by
 have : ∀ y : Fin 256, bits .and .u8 (y.val : Int) 127 = ((y.val % 128 : Nat) : Int) := by decide +kernel
 exact this ⟨x.toNat, x.toNat_lt⟩

theorem num_any (A : Option Addr) (c : Nat) (l : List UInt8) (p : Int) (hp1 : -9223372036854775808 ≤ p) (hp2 : p ≤ 9223372036854775807) (w : World) (B : Nat) (hsl : CL bv w B A l) (hc : l.length ≤ c) (hn : l.length ≤ 140737488355328) :
 Calls Tryz.prog 83 #[.slice A l.length c, .int .i64 p] w fun e w' => e = tri .i64 (numR l p) ∧ w = w' := by
 by_cases h0 : p < 0
 · rw [numR_range (Or.inl h0)]
   clear hsl
   go_enter Tryz.func83, Tryz.ntmps83
   go_wp2
   go_ret3
   exact ⟨rfl, rfl⟩
 · obtain ⟨k, rfl⟩ := Int.eq_ofNat_of_zero_le (by omega : 0 ≤ p)
   by_cases h1 : l.length < k
   · rw [numR_range (Or.inr (by omega))]
     clear hsl
     go_enter Tryz.func83, Tryz.ntmps83
     go_wp2
     go_ret3
     exact ⟨rfl, rfl⟩
   · have hR := numR_in (l := l) (k := k) (by omega)
     generalize numR l (k : Int) = R at hR ⊢
     obtain ⟨A2, hs, hcl2⟩ := slice_l A c l k (by omega) hc
     have HS := Lib.hid (hcl2 w B hsl)
     have hdl : k + (l.drop k).length = l.length := by rw [List.length_drop]; omega
     generalize hL : l.drop k = L at hs HS hdl hR ⊢
     have HE : Hid (∀ e : Nat, rdF 0 0 L = (e, 0, 0) → e ≠ 0 → R = (0, 0, (e : Int))) := Lib.hid (fun e he h => by rw [hR, he]; simp [h])
     have HK : Hid (∀ c n : Nat, rdF 0 0 L = (0, c, n) → R = (ncI c, (k : Int) + (n : Int), 0)) := Lib.hid (fun c n he => by rw [hR, he]; simp)
     clear hL hcl2 hsl hR
     have hs' := hs w
     clear hs
     go_enter Tryz.func83, Tryz.ntmps83
     go_wp2
     go_loop [7, 8, 9, 22] (fun a _ _ i => ∃ (k acc : Nat), i = .int .i64 k ∧ a = .int .u64 acc ∧ RdRel L k acc) (fun _ _ _ i => L.length - (intOf i).toNat)
     case atStart => exact ⟨0, 0, rfl, rfl, RdRel.start _⟩
     case round =>
      obtain ⟨i, acc, rfl, rfl, hrel⟩ := hrel
      have hi1 := hrel.1
      have hi9 := hrel.2.1
      have HR := Lib.hid hrel
      clear hrel
      by_cases hlt : i < L.length
      · obtain ⟨b, o, rfl, hbB, hcl⟩ := HS.out (by omega)
        obtain ⟨x, hx⟩ : ∃ x, L[i]? = some x := ⟨_, List.getElem?_eq_getElem hlt⟩
        have k1 := hcl i x hx
        unfold bv at k1
        have hx256 : x.toNat < 256 := x.toNat_lt
        have HX := Lib.hid hx
        have h127 := and127 x
        clear hcl hx
        by_cases hc1 : i = 9 ∧ 1 < x.toNat
        · have h9 : ((i : Int) == 9) = true := by simp; omega
          have hx1 : decide ((1 : Int) < (x.toNat : Int)) = true := decide_eq_true (by omega)
          have HH := Lib.hid hc1
          clear hc1
          go_wp2
          go_ret3
          exact ⟨congrArg (tri .i64) (HE.out 2 (HR.out.bad9 HX.out HH.out.1 (by have := HH.out.2; omega)) (by decide)).symm, rfl⟩
        · by_cases h128 : 128 ≤ x.toNat
          · have h9 : ((i : Int) == 9) = false := by simp; omega
            have ha := and128 x h128
            have HN9 : Hid (i ≠ 9) := Lib.hid (by omega)
            clear hc1
            go_wp2
            exact ⟨⟨i + 1, _, by go_num, congrArg (Value.int .u64) (HR.out.acc (x.toNat % 128) (by omega) (fun h => absurd h HN9.out)), HR.out.next HX.out HN9.out h128⟩, by simp [intOf]; omega⟩
          · by_cases hz : x.toNat = 0 ∧ 0 < i
            · have HH := Lib.hid hz
              have hi0 : 0 < i := hz.2
              rw [hz.1] at k1
              have b1 : bits .and .u8 0 127 = 0 := by decide +kernel
              have b2 : bits .and .u8 0 128 = 0 := by decide +kernel
              clear hz hc1 h128 h127 hx256
              go_wp2
              all_goals
               go_ret3
               exact ⟨congrArg (tri .i64) (HE.out 2 (HR.out.bad0 HX.out HH.out.2 HH.out.1) (by decide)).symm, rfl⟩
            · have hdone := HK.out _ _ (HR.out.done HX.out (by omega) (by omega) (by omega))
              have hac := HR.out.acc x.toNat (by omega) (by omega)
              have hlt64 := HR.out.lt x.toNat (by omega) (by omega)
              obtain ⟨V, hV⟩ : ∃ V, V = acc + x.toNat * 128 ^ i := ⟨_, rfl⟩
              rw [← hV] at hac hlt64 hdone
              have HV := Lib.hid hV
              clear hV
              have HD := Lib.hid hdone
              have HC := Lib.hid (decoded_any V hlt64)
              clear hdone
              by_cases h9 : i = 9
              · subst h9
                have hx1 : x.toNat = 1 := by omega
                rw [hx1] at k1
                have hac9 : bits .or .u64 (acc : Int) 9223372036854775808 = (V : Int) := by
                 rw [← hac, hx1, wrap_u64_eq]
                 rfl
                have b1 : bits .and .u8 1 127 = 1 := by decide +kernel
                have b2 : bits .and .u8 1 128 = 0 := by decide +kernel
                clear hac hz hc1 h128 h127 hx256 hx1
                go_wp2_with (go_at_call 112; refine (HC.out _).mono ?_; rintro e w' ⟨rfl, rfl⟩)
                go_ret3
                exact ⟨congrArg (tri .i64) HD.out.symm, rfl⟩
              · by_cases hx0 : x.toNat = 0
                · obtain rfl : i = 0 := by omega
                  have hacc0 : acc = 0 := by have := HR.out.2.2.1; omega
                  have hV0 : V = 0 := by rw [HV.out, hacc0, hx0]
                  subst hV0
                  subst hacc0
                  rw [hx0] at k1
                  have b1 : bits .and .u8 0 127 = 0 := by decide +kernel
                  have b2 : bits .and .u8 0 128 = 0 := by decide +kernel
                  have b3 : bits .or .u64 0 0 = 0 := by decide +kernel
                  rw [Nat.add_zero] at k1
                  clear hac hz hc1 h128 h127 hx256 hx0 h9
                  go_wp2_with (go_at_call 112; refine (HC.out _).mono ?_; rintro e w' ⟨rfl, rfl⟩)
                  go_ret3
                  exact ⟨by rw [HD.out]; exact tri3 rfl (by omega) rfl, rfl⟩
                · have ha := and128' x (by omega)
                  have h9' : ((i : Int) == 9) = false := by simp; omega
                  have hq : ((x.toNat : Int) == 0) = false := by simp; omega
                  rw [show x.toNat % 128 = x.toNat by omega] at h127
                  have hac2 : bits .or .u64 (acc : Int) (IntKind.u64.wrap ((x.toNat : Int) % 128 * 2 ^ (7 * i))) = (V : Int) := by
                   rw [show (x.toNat : Int) % 128 = (x.toNat : Int) by omega]
                   exact hac
                  clear hz hc1 h9
                  go_wp2_with (go_at_call 112; refine (HC.out _).mono ?_; rintro e w' ⟨rfl, rfl⟩)
                  go_ret3
                  exact ⟨by rw [HD.out]; exact tri3 rfl (by omega) rfl, rfl⟩
      · obtain rfl : i = L.length := by omega
        go_wp2
        go_ret3
        exact ⟨congrArg (tri .i64) (HE.out 3 (HR.out.trunc rfl) (by decide)).symm, rfl⟩
end Go.Proofs.YtdkegoaflabjoaaGreatDoor
namespace Go.Proofs.YtdkegoaflabjoaaGreatDoor
open Go.RowKit

end Go.Proofs.YtdkegoaflabjoaaGreatDoor
namespace Go.Proofs.YtdkegoaflabjoaaGreatDoor
open Go.RowKit

def countR (l : List UInt8) (p limit : Int) : Int × Int × Int :=
 if (numR l p).2.2 ≠ 0 then (0, 0, (numR l p).2.2) else if (numR l p).1 < 0 then (0, 0, 2) else if limit < (numR l p).1 then (0, 0, 5) else ((numR l p).1, (numR l p).2.1, 0)
def textR (l : List UInt8) (p limit : Int) : ByteArray × Int × Int :=
 if (countR l p limit).2.2 ≠ 0 then (⟨#[]⟩, 0, (countR l p limit).2.2)
 else if (l.length : Int) - (countR l p limit).2.1 < (countR l p limit).1 then (⟨#[]⟩, 0, 3)
 else (bs ((l.drop (countR l p limit).2.1.toNat).take (countR l p limit).1.toNat), (countR l p limit).2.1 + (countR l p limit).1, 0)

/-- what a reading that succeeds says of the position -/
theorem numR_ok {l : List UInt8} {p n nx : Int} (h : numR l p = (n, nx, 0)) : ∃ (k j : Nat), p = k ∧ nx = ((k + j : Nat) : Int) ∧ 1 ≤ j ∧ j ≤ 10 ∧ k + j ≤ l.length ∧ -9223372036854775808 ≤ n ∧ n ≤ 9223372036854775807 ∧ enc n = (l.drop k).take j := by
 unfold numR at h
 split at h
 · simp at h
 · next hp =>
   split at h
   · next h0 =>
     simp only [Prod.mk.injEq, and_true] at h
     obtain ⟨k, rfl⟩ := Int.eq_ofNat_of_zero_le (by omega : 0 ≤ p)
     simp only [Int.toNat_natCast] at h h0
     generalize hr : rdF 0 0 (l.drop k) = r at h h0
     obtain ⟨e, c, j⟩ := r
     simp only at h h0
     subst h0
     obtain ⟨h1, h2, h3, h4, h5⟩ := rd_only hr
     rw [List.length_drop] at h4
     obtain ⟨rfl, rfl⟩ := h
     have := nc_range h1
     exact ⟨k, j, rfl, by omega, h2, h3, by omega, this.1, this.2, h5⟩
   · simp at h
     omega
theorem numR_bad {l : List UInt8} {p n nx e : Int} (h : numR l p = (n, nx, e)) (he : e ≠ 0) : n = 0 ∧ nx = 0 ∧ 1 ≤ e ∧ e ≤ 3 := by
 unfold numR at h
 split at h
 · simp only [Prod.mk.injEq] at h
   omega
 · split at h
   · simp only [Prod.mk.injEq] at h
     omega
   · next h0 =>
     generalize hr : rdF 0 0 (l.drop p.toNat) = r at h h0
     obtain ⟨e', c, j⟩ := r
     have := rdF_err _ _ _ _ _ _ hr h0
     simp only [Prod.mk.injEq] at h
     omega
theorem countR_ok {l : List UInt8} {p limit n nx : Int} (h : countR l p limit = (n, nx, 0)) : ∃ (k j m : Nat), p = k ∧ nx = ((k + j : Nat) : Int) ∧ n = m ∧ n ≤ limit ∧ 1 ≤ j ∧ j ≤ 10 ∧ k + j ≤ l.length ∧ n ≤ 9223372036854775807 ∧ enc n = (l.drop k).take j := by
 unfold countR at h
 split at h
 · next h0 =>
   simp only [Prod.mk.injEq] at h
   omega
 · next h0 =>
   split at h
   · simp at h
   · next h1 =>
     split at h
     · simp at h
     · next h2 =>
       simp only [Prod.mk.injEq, and_true] at h
       generalize hr : numR l p = r at h h0 h1 h2
       obtain ⟨a, b, e⟩ := r
       simp only at h h0 h1 h2
       obtain rfl : e = 0 := by omega
       obtain ⟨rfl, rfl⟩ := h
       obtain ⟨k, j, h1', h2', h3, h4, h5, h6, h7, h8⟩ := numR_ok hr
       exact ⟨k, j, a.toNat, h1', h2', by omega, by omega, h3, h4, h5, h7, h8⟩

theorem count_any (A : Option Addr) (c : Nat) (l : List UInt8) (p limit : Int) (hp1 : -9223372036854775808 ≤ p) (hp2 : p ≤ 9223372036854775807) (w : World) (B : Nat) (hsl : CL bv w B A l) (hc : l.length ≤ c) (hn : l.length ≤ 140737488355328) :
 Calls Tryz.prog 64 #[.slice A l.length c, .int .i64 p, .int .i64 limit] w fun e w' => e = tri .i64 (countR l p limit) ∧ w = w' := by
 have hcn := num_any A c l p hp1 hp2 w B hsl hc hn
 unfold countR
 generalize numR l p = r at hcn ⊢
 obtain ⟨n, nx, e⟩ := r
 have HC := Lib.hid hcn
 clear hcn hsl hp1 hp2 hc hn
 dsimp only
 by_cases he : e = 0
 · subst he
   rw [if_neg (by simp)]
   by_cases h0 : n < 0
   · rw [if_pos h0]
     go_enter Tryz.func64, Tryz.ntmps64
     go_wp2_with fail
     refine HC.out.mono ?_
     rintro e w' ⟨rfl, rfl⟩
     unfold tri
     go_wp2
     go_ret3
     exact ⟨rfl, rfl⟩
   · rw [if_neg h0]
     by_cases h1 : limit < n
     · rw [if_pos h1]
       go_enter Tryz.func64, Tryz.ntmps64
       go_wp2_with fail
       refine HC.out.mono ?_
       rintro e w' ⟨rfl, rfl⟩
       unfold tri
       go_wp2
       go_ret3
       exact ⟨rfl, rfl⟩
     · rw [if_neg h1]
       go_enter Tryz.func64, Tryz.ntmps64
       go_wp2_with fail
       refine HC.out.mono ?_
       rintro e w' ⟨rfl, rfl⟩
       unfold tri
       go_wp2
       go_ret3
       exact ⟨rfl, rfl⟩
 · rw [if_pos he]
   have hb : (e != 0) = true := by simp [he]
   clear he
   go_enter Tryz.func64, Tryz.ntmps64
   go_wp2_with fail
   refine HC.out.mono ?_
   rintro e w' ⟨rfl, rfl⟩
   unfold tri
   go_wp2
   go_ret3
   exact ⟨rfl, rfl⟩

def triS (r : ByteArray × Int × Int) : Ending := .returned (.tuple #[.string r.1, .int .i64 r.2.1, .int .i64 r.2.2])
theorem text_any (A : Option Addr) (c : Nat) (l : List UInt8) (p limit : Int) (hp1 : -9223372036854775808 ≤ p) (hp2 : p ≤ 9223372036854775807) (w : World) (B : Nat) (hsl : CL bv w B A l) (hc : l.length ≤ c) (hn : l.length ≤ 140737488355328) :
 Calls Tryz.prog 24 #[.slice A l.length c, .int .i64 p, .int .i64 limit] w fun e w' => e = triS (textR l p limit) ∧ w = w' := by
 have hcn := count_any A c l p limit hp1 hp2 w B hsl hc hn
 have hok := fun n nx => @countR_ok l p limit n nx
 unfold textR
 generalize countR l p limit = r at hcn hok ⊢
 obtain ⟨n, nx, e⟩ := r
 have HC := Lib.hid hcn
 clear hcn hp1 hp2
 dsimp only
 by_cases he : e = 0
 · subst he
   obtain ⟨k, j, m, q1, rfl, rfl, q2, q3, q4, hkj, hm, q5⟩ := hok n nx rfl
   clear hok q1 q2 q3 q4 q5
   rw [if_neg (by simp)]
   by_cases h0 : (l.length : Int) - ((k + j : Nat) : Int) < (m : Int)
   · rw [if_pos h0]
     clear hsl
     generalize k + j = s at *
     go_enter Tryz.func24, Tryz.ntmps24
     go_wp2_with fail
     refine HC.out.mono ?_
     rintro e w' ⟨rfl, rfl⟩
     unfold tri
     go_wp2
     go_ret3
     exact ⟨rfl, rfl⟩
   · rw [if_neg h0]
     generalize k + j = s at *
     obtain ⟨A2, hs, hcl⟩ := slice_lhm A c l s (s + m) (by omega) (by omega) hc
     have hcv := conv_str (hcl w B hsl) ((l.drop s).take (s + m - s)).length
     have hs' := hs w
     rw [Int.natCast_add] at hs'
     rw [Int.toNat_natCast, Int.toNat_natCast]
     rw [show s + m - s = m by omega] at hs' hcv
     generalize (l.drop s).take m = T at hs' hcv ⊢
     clear hs hcl hsl
     go_enter Tryz.func24, Tryz.ntmps24
     go_wp2_with fail
     refine HC.out.mono ?_
     rintro e w' ⟨rfl, rfl⟩
     unfold tri
     go_wp2
     go_ret3
     exact ⟨rfl, rfl⟩
 · rw [if_pos he]
   have hb : (e != 0) = true := by simp [he]
   clear he hok hsl
   go_enter Tryz.func24, Tryz.ntmps24
   go_wp2_with fail
   refine HC.out.mono ?_
   rintro e w' ⟨rfl, rfl⟩
   unfold tri
   go_wp2
   go_ret3
   exact ⟨rfl, rfl⟩

end Go.Proofs.YtdkegoaflabjoaaGreatDoor
namespace Go.Proofs.YtdkegoaflabjoaaGreatDoor
open Go.RowKit

/-- the number of flags -/
def fl : List Bool → Nat
 | [] => 0
 | b :: r => (if b then 1 else 0) + 2 * fl r
theorem fl_snoc (l : List Bool) (b : Bool) : fl (l ++ [b]) = fl l + (if b then 2 ^ l.length else 0) := by
 induction l with
 | nil => simp [fl]
 | cons x r ih =>
   rw [List.cons_append, fl, ih, fl, List.length_cons, Nat.pow_succ]
   cases b <;> simp <;> omega
theorem fl_lt (l : List Bool) : fl l < 2 ^ l.length := by
 induction l with
 | nil => simp [fl]
 | cons x r ih =>
   rw [fl, List.length_cons, Nat.pow_succ]
   cases x <;> simp <;> omega
def flagsR (l : List Bool) : Nat := fl (l.take 32)
theorem fl_take {l : List Bool} {k : Nat} {b : Bool} (h : l[k]? = some b) : fl (l.take (k + 1)) = fl (l.take k) + (if b then 2 ^ k else 0) := by
 have hk := (List.getElem?_eq_some_iff.1 h).1
 rw [List.take_add_one, h]
 simp only [Option.toList]
 rw [fl_snoc, List.length_take, Nat.min_eq_left (by omega)]
theorem fl_take_lt (l : List Bool) (k : Nat) : fl (l.take k) < 2 ^ k := by
 refine Nat.lt_of_lt_of_le (fl_lt _) (Nat.pow_le_pow_right (by decide) ?_)
 rw [List.length_take]
 omega

theorem pow_le32 {k : Nat} (h : k ≤ 32) : 2 ^ k ≤ 4294967296 := Nat.le_trans (Nat.pow_le_pow_right (by decide) h) (by decide)
theorem or_form {n k : Nat} (h : n < 2 ^ k) (hk : k ≤ 32) : bits .or .i64 (n : Int) (wrap64 (2 ^ k)) = ((n + 2 ^ k : Nat) : Int) := by
 have hp := pow_le32 hk
 have e : wrap64 ((2 : Int) ^ k) = ((2 ^ k : Nat) : Int) := by
  rw [show ((2 : Int) ^ k) = ((2 ^ k : Nat) : Int) by simp, wrap64_id _ (by omega) (by omega)]
 have h1 : (BitVec.ofInt 64 (n : Int)).toNat = n := by rw [BitVec.toNat_ofInt]; omega
 have h2 : (BitVec.ofInt 64 ((2 ^ k : Nat) : Int)).toNat = 2 ^ k := by rw [BitVec.toNat_ofInt]; omega
 rw [e]
 show IntKind.i64.wrap ((BitVec.ofInt 64 (n : Int) ||| BitVec.ofInt 64 ((2 ^ k : Nat) : Int)).toNat : Nat) = _
 rw [BitVec.toNat_or, h1, h2]
 have h4 := Nat.two_pow_add_eq_or_of_lt (i := k) (b := n) h 1
 rw [Nat.mul_one] at h4
 rw [Nat.or_comm, ← h4, Nat.add_comm, IntKind.wrap_i64]
 omega

abbrev FL (w : World) (B : Nat) (A : Option Addr) (xs : List Bool) : Prop := CL Value.bool w B A xs
theorem elemF : Tryz.prog.elem 104 = 4 := by kernel_rfl
theorem undF : Tryz.prog.underlying 104 = some (.slice (Tryz.prog.elem 104)) := by rw [elemF]; exact Tryz.underlying104
theorem infoF : (Tryz.prog.info? 4).map (fun i => (i.zero, i.size, i.bytes)) = some (some (.bool false), 1, 1) := by kernel_rfl
theorem sizeF (w : World) : (sizeOf (Tryz.prog.elem 104)).run Tryz.prog w = .ok 1 w := by
 obtain ⟨i, hi, hz, hz1, hz2⟩ := info_parts infoF
 rw [elemF]
 simp [sizeOf, typeInfo, hi, hz1]
theorem slice_hF (A : Option Addr) (c : Nat) (xs : List Bool) (h : Nat) (hh : h ≤ xs.length) (hc : xs.length ≤ c) :
 ∃ A2, (∀ w, (Instr.slice 104 (.slice A xs.length c) none (some (.int .i64 h)) none).run Tryz.prog w = .ok (.slice A2 (xs.take h).length c) w) ∧ ∀ w B, FL w B A xs → FL w B A2 (xs.take h) := by
 have e : (xs.take h).length = h := by rw [List.length_take]; omega
 refine ⟨if c = 0 then A else A.map (·.add (0 * 1)), fun w => ?_, fun w B hs => ?_⟩
 · rw [run_slice_h (P := Tryz.prog) w 104 A xs.length c undF .i64 h (by omega) (by omega), sizeF, e]
   simp [Result.andThen, sliced]
 · have := (cut_addr hs (k := 0) (m := c) (by omega) (fun _ => by omega))
   rw [List.drop_zero] at this
   exact this.take _

theorem flags_any (A : Option Addr) (c : Nat) (l : List Bool) (w : World) (B : Nat) (hsl : FL w B A l) (hc : l.length ≤ c) (hn : l.length ≤ 140737488355328) :
 Calls Tryz.prog 81 #[.slice A l.length c] w fun e w' => e = .returned (.int .i64 (flagsR l)) ∧ w = w' := by
 obtain ⟨A2, hs, hcl⟩ := slice_hF A c l (min l.length 32) (by omega) hc
 have HS := Lib.hid (hcl w B hsl)
 have hs' := hs w
 have e0 : l.take (min l.length 32) = l.take 32 := by
  by_cases h : l.length ≤ 32
  · rw [Nat.min_eq_left h, List.take_length, List.take_of_length_le h]
  · rw [Nat.min_eq_right (by omega)]
 have e1 : ((min l.length 32 : Nat) : Int) = min (l.length : Int) 32 := by omega
 unfold flagsR
 rw [e0] at HS hs'
 rw [e1] at hs'
 have hl32 : (l.take 32).length ≤ 32 := by rw [List.length_take]; omega
 generalize l.take 32 = L at HS hs' hl32 ⊢
 clear hs hcl hsl e0 e1
 go_enter Tryz.func81, Tryz.ntmps81
 go_wp2
 go_loop [3, 4, 5, 12] (fun n _ _ i => ∃ (k : Nat), i = .int .i64 k ∧ n = .int .i64 (fl (L.take k)) ∧ k ≤ L.length) (fun _ _ _ i => L.length - (intOf i).toNat)
 case atStart => exact ⟨0, rfl, rfl, by omega⟩
 case round =>
  obtain ⟨i, rfl, rfl, hi⟩ := hrel
  by_cases hlt : i < L.length
  · obtain ⟨b, o, rfl, hbB, hcl⟩ := HS.out (by omega)
    obtain ⟨x, hx⟩ : ∃ x, L[i]? = some x := ⟨_, List.getElem?_eq_getElem hlt⟩
    have k1 := hcl i x hx
    have HX := Lib.hid (fl_take hx)
    have HO := Lib.hid (or_form (fl_take_lt L i) (by omega))
    clear hcl hx
    generalize fl (L.take i) = n at HX HO ⊢
    cases x
    · go_wp2
      exact ⟨⟨i + 1, by go_num, by rw [HX.out]; rfl, by omega⟩, by simp [intOf]; omega⟩
    · go_wp2
      exact ⟨⟨i + 1, by go_num, by rw [HX.out]; exact congrArg (Value.int .i64) HO.out, by omega⟩, by simp [intOf]; omega⟩
  · obtain rfl : i = L.length := by omega
    go_wp2
    go_ret
    exact ⟨rfl, rfl⟩

/-- bit i of n -/
def flagR (n i : Int) : Bool := if 0 ≤ i ∧ i < 32 then bits .and .i64 (n / 2 ^ i.toNat) 1 == 1 else false
theorem flagR_in (n : Int) {k : Nat} (h : k < 32) : flagR n (k : Int) = (bits .and .i64 (n / 2 ^ k) 1 == 1) := by
 unfold flagR
 rw [if_pos (by omega), Int.toNat_natCast]
theorem flagR_out (n : Int) {i : Int} (h : ¬ (0 ≤ i ∧ i < 32)) : flagR n i = false := by
 unfold flagR
 rw [if_neg h]
theorem flag_any (n i : Int) (h3 : -9223372036854775808 ≤ i) (h4 : i ≤ 9223372036854775807) (w : World) :
 Calls Tryz.prog 87 #[.int .i64 n, .int .i64 i] w fun e w' => e = .returned (.bool (flagR n i)) ∧ w = w' := by
 by_cases hi : 0 ≤ i ∧ i < 32
 · obtain ⟨k, rfl⟩ := Int.eq_ofNat_of_zero_le hi.1
   rw [flagR_in n (by omega)]
   have hk : k < 32 := by omega
   clear hi
   go_enter Tryz.func87, Tryz.ntmps87
   go_wp2
   go_ret
   exact ⟨rfl, rfl⟩
 · rw [flagR_out n hi]
   have HI := Lib.hid hi
   by_cases h0 : 0 ≤ i
   · have h32 : 32 ≤ i := by omega
     clear hi
     go_enter Tryz.func87, Tryz.ntmps87
     go_wp2
     go_ret
     exact ⟨rfl, rfl⟩
   · clear hi
     go_enter Tryz.func87, Tryz.ntmps87
     go_wp2
     go_ret
     exact ⟨rfl, rfl⟩
end Go.Proofs.YtdkegoaflabjoaaGreatDoor
namespace Go.Proofs.YtdkegoaflabjoaaGreatDoor
open Go.RowKit

theorem textR_ok {l : List UInt8} {p limit nx : Int} {s : ByteArray} (h : textR l p limit = (s, nx, 0)) : ∃ (k j : Nat), p = k ∧ nx = ((k + j : Nat) : Int) ∧ 1 ≤ j ∧ k + j ≤ l.length ∧ (s.size : Int) ≤ limit ∧ encT s = (l.drop k).take j := by
 unfold textR at h
 split at h
 · next h0 => simp only [Prod.mk.injEq] at h; omega
 · next h0 =>
   split at h
   · simp at h
   · next h1 =>
     generalize hr : countR l p limit = r at h h0 h1
     obtain ⟨n, nx', e⟩ := r
     simp only at h h0 h1
     obtain rfl : e = 0 := by omega
     obtain ⟨k, j, m, rfl, rfl, rfl, h2, h3, h4, h5, h6, h7⟩ := countR_ok hr
     simp only [Prod.mk.injEq, and_true, Int.toNat_natCast] at h
     obtain ⟨rfl, rfl⟩ := h
     have hT : ((l.drop (k + j)).take m).length = m := by rw [List.length_take, List.length_drop]; omega
     refine ⟨k, j + m, rfl, by omega, by omega, by omega, by rw [size_bs, hT]; exact h2, ?_⟩
     unfold encT
     rw [size_bs, hT, dl_bs, h7, ← List.drop_drop]
     rw [List.take_add]

theorem infoS : (Tryz.prog.info? 9).map (fun i => (i.zero, i.size, i.bytes)) = some (some (.string ByteArray.empty), 1, 16) := by kernel_rfl
theorem wpList_appS1 {ops : Array Oper} {rest : List Oper} {o : Oper} {a : Act} {Q : Exit → Act → World → Prop} (wr : World) (hgd : o.guard = none) (s x : Operand) (ho : o.op = .call { callee := .builtin .append, args := #[s, x], argTypes := #[35, 35] })
 (B : Nat) (v : Value) (xs : List ByteArray) (y : ByteArray) (hs : a.eval s = v) (hown : Own 9 Value.string wr B v xs) (hx : a.eval x = .slice (some ⟨wr.heap.size, 0, none⟩) 1 1) (w0 : World) (hb : Below B w0 wr) (hB : B ≤ wr.heap.size)
 (hn : xs.length ≤ 1099511627776) (h : ∀ v' w', Own 9 Value.string w' B v' (xs ++ [y]) → Below B w0 w' → B ≤ w'.heap.size → wpList Tryz.prog ops Q rest (a.put o.dst v') w') : wpList Tryz.prog ops Q (o :: rest) a (wr.alloc (.cells #[.string y] 9)) :=
 wpList_app _ hgd s x 35 35 ho (.string ByteArray.empty) 16 Tryz.underlying35 infoS rfl (by decide) B v xs [y] hs (hown.alloc _) _ hx 1 (src_one Tryz.underlying35 wr y _ rfl rfl) w0 (hb.alloc hB _) (by simp; omega) (by simp; omega) h

def SameUpto (xs ys : List ByteArray) (i : Nat) : Prop := ∀ j, j < i → xs[j]? = ys[j]?
theorem SameUpto.succ {xs ys : List ByteArray} {i : Nat} (h : SameUpto xs ys i) (hi : xs[i]? = ys[i]?) : SameUpto xs ys (i + 1) := fun j hj => by
 rcases Nat.lt_succ_iff_lt_or_eq.1 hj with h' | h'
 · exact h j h'
 · subst h'; exact hi
theorem SameUpto.all {xs ys : List ByteArray} (h : SameUpto xs ys xs.length) (hl : xs.length = ys.length) : decide (xs = ys) = true := by
 refine decide_eq_true (List.ext_getElem? fun j => ?_)
 by_cases hj : j < xs.length
 · exact h j hj
 · rw [List.getElem?_eq_none (by omega), List.getElem?_eq_none (by omega)]
theorem sameL_at {xs ys : List ByteArray} {i : Nat} (h : xs[i]? ≠ ys[i]?) : decide (xs = ys) = false := decide_eq_false (fun e => h (by rw [e]))
theorem same_hit {xs ys : List ByteArray} {i : Nat} {x y : ByteArray} (h : (!x.toList == y.toList) = true) (hx : xs[i]? = some x) (hy : ys[i]? = some y) : decide (xs = ys) = false := by
 refine sameL_at (i := i) ?_
 rw [hx, hy]
 intro e
 obtain rfl := Option.some.inj e
 simp at h
theorem same_miss {xs ys : List ByteArray} {i : Nat} {x y : ByteArray} (h : (!x.toList == y.toList) = false) (hx : xs[i]? = some x) (hy : ys[i]? = some y) : xs[i]? = ys[i]? := by
 have e : x = y := str_eq.1 (by simpa using h)
 rw [hx, hy, e]

end Go.Proofs.YtdkegoaflabjoaaGreatDoor
namespace Go.Proofs.YtdkegoaflabjoaaGreatDoor
open Go.RowKit

/-- what a writing function hands back, turned into a text -/
theorem RetB.conv {xs : List UInt8} {W : World} {e : Ending} {w' : World} (h : RetB xs W e w') {n : Nat} (hn : xs.length = n) {s : ByteArray} (hs : bs xs = s) :
 ∃ A c, e = .returned (.slice A n c) ∧ (convert 25 9 (.slice A n c)).run Tryz.prog w' = .ok (.string s) w' ∧ Below W.heap.size W w' := by
 obtain ⟨v, rfl, hown, hb⟩ := h
 obtain ⟨A, c, rfl, hc, hsl⟩ := hown.ret
 subst hn
 subst hs
 exact ⟨A, c, rfl, conv_str hsl c, hb⟩
end Go.Proofs.YtdkegoaflabjoaaGreatDoor
namespace Go.Proofs.YtdkegoaflabjoaaGreatDoor
open Go.RowKit

end Go.Proofs.YtdkegoaflabjoaaGreatDoor
namespace Go.Proofs.YtdkegoaflabjoaaGreatDoor
open Go.RowKit

def SmallUpto (xs : List ByteArray) (i : Nat) : Prop := ∀ j x, j < i → xs[j]? = some x → x.size ≤ 400
theorem SmallUpto.succ {xs : List ByteArray} {i : Nat} {x : ByteArray} (h : SmallUpto xs i) (hx : xs[i]? = some x) (hs : x.size ≤ 400) : SmallUpto xs (i + 1) := fun j y hj hy => by
 rcases Nat.lt_succ_iff_lt_or_eq.1 hj with h' | h'
 · exact h j y h' hy
 · subst h'
   rw [hx] at hy
   rw [← Option.some.inj hy]; exact hs
theorem below_drewN (w : World) (n : Nat) : Below w.heap.size w (w.drewN n) := by
 induction n with
 | zero => exact Below.refl _ _
 | succ n ih => exact ih.drew

end Go.Proofs.YtdkegoaflabjoaaGreatDoor
namespace Go.Proofs.YtdkegoaflabjoaaGreatDoor
open Go.RowKit

end Go.Proofs.YtdkegoaflabjoaaGreatDoor
namespace Go.Proofs.YtdkegoaflabjoaaGreatDoor
open Go.RowKit

theorem numR_enc {l r : List UInt8} {k : Nat} {n : Int} (hk : k ≤ l.length) (h1 : -9223372036854775808 ≤ n) (h2 : n ≤ 9223372036854775807) (h : l.drop k = enc n ++ r) : numR l k = (n, ((k + (enc n).length : Nat) : Int), 0) := by
 rw [numR_in hk, h, rd_enc n h1 h2]
 simp [nc_cd]
theorem numR_torn {l : List UInt8} {k j : Nat} {n : Int} (hk : k ≤ l.length) (hj : j < (enc n).length) (h : l.drop k = (enc n).take j) : numR l k = (0, 0, 3) := by
 rw [numR_in hk, h, rd_torn n j hj]
 simp
theorem countR_enc {l r : List UInt8} {k n : Nat} {limit : Int} (hk : k ≤ l.length) (hn : (n : Int) ≤ 9223372036854775807) (hl : (n : Int) ≤ limit) (h : l.drop k = enc n ++ r) : countR l k limit = ((n : Int), ((k + (enc n).length : Nat) : Int), 0) := by
 unfold countR
 rw [numR_enc hk (by omega) hn h]
 simp only
 rw [if_neg (by simp), if_neg (by omega), if_neg (by omega)]
theorem countR_torn {l : List UInt8} {k j : Nat} {n limit : Int} (hk : k ≤ l.length) (hj : j < (enc n).length) (h : l.drop k = (enc n).take j) : countR l k limit = (0, 0, 3) := by
 unfold countR
 rw [numR_torn hk hj h]
 simp
theorem encT_len2 (s : ByteArray) : (encT s).length = (enc s.size).length + s.size := by unfold encT; rw [List.length_append, size_dl]
theorem textR_enc {l r : List UInt8} {k : Nat} {s : ByteArray} {limit : Int} (hk : k ≤ l.length) (hs : (s.size : Int) ≤ 9223372036854775807) (hl : (s.size : Int) ≤ limit) (h : l.drop k = encT s ++ r) : textR l k limit = (s, ((k + (encT s).length : Nat) : Int), 0) := by
 have hlen := congrArg List.length h
 rw [List.length_drop, List.length_append, encT_len2] at hlen
 have hc : countR l k limit = ((s.size : Int), ((k + (enc s.size).length : Nat) : Int), 0) := countR_enc hk hs hl (r := dl s ++ r) (by rw [h]; unfold encT; rw [List.append_assoc])
 unfold textR
 rw [hc]
 simp only
 rw [if_neg (by simp), if_neg (by omega), Int.toNat_natCast, Int.toNat_natCast]
 have e1 : (l.drop (k + (enc s.size).length)).take s.size = dl s := by
  rw [← List.drop_drop, h]
  unfold encT
  rw [List.append_assoc, List.drop_left, List.take_left' (size_dl s).symm]
 rw [e1, bs_dl, encT_len2]
 congr 2
 omega
theorem textR_torn {l : List UInt8} {k j : Nat} {s : ByteArray} {limit : Int} (hk : k ≤ l.length) (hs : (s.size : Int) ≤ 9223372036854775807) (hl : (s.size : Int) ≤ limit) (hj : j < (encT s).length) (h : l.drop k = (encT s).take j) : (textR l k limit).2.2 = 3 := by
 by_cases h1 : j < (enc s.size).length
 · have hc : countR l k limit = (0, 0, 3) := countR_torn hk h1 (by rw [h]; unfold encT; rw [List.take_append_of_le_length (by omega)])
   unfold textR
   rw [hc]
   simp
 · have hlen := congrArg List.length h
   rw [List.length_drop, List.length_take] at hlen
   rw [encT_len2] at hj hlen
   have hc : countR l k limit = ((s.size : Int), ((k + (enc s.size).length : Nat) : Int), 0) := countR_enc hk hs hl (r := (dl s).take (j - (enc s.size).length)) (by
    rw [h]; unfold encT; rw [List.take_append, List.take_of_length_le (by omega)])
   unfold textR
   rw [hc]
   simp only
   rw [if_neg (by simp), if_pos (by omega)]
end Go.Proofs.YtdkegoaflabjoaaGreatDoor
