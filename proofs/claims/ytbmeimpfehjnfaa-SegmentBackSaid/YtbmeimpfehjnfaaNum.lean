/-
  What the functions on codes answer. Conditions: the numbers fit their kinds.
-/
import Derived.Test.YtbmeimpfehjnfaaEnc
import Derived.Test.YtbmeimpfehjnfaaCell
import Derived.Test.YtbmeimpfehjnfaaShelf
import Derived.Laws.Bits64b
import Derived.Laws.MakeOwn
namespace Go.Proofs.Ytbmeimpfehjnfaa
open Go.RowKit

theorem ret_i {k : IntKind} {a b : Int} (h : a = b) : Ending.returned (.int k a) = .returned (.int k b) := by rw [h]
theorem wrap_u64_eq (m : Int) : IntKind.u64.wrap m = m % 18446744073709551616 := by simp [IntKind.wrap, IntKind.bits, IntKind.signed]
theorem wrap_i64_id (m : Int) (h1 : -9223372036854775808 ≤ m) (h2 : m ≤ 9223372036854775807) : IntKind.i64.wrap m = m := by rw [IntKind.wrap_i64]; omega
theorem wrap64_id (m : Int) (h1 : -9223372036854775808 ≤ m) (h2 : m ≤ 9223372036854775807) : wrap64 m = m := by
  unfold wrap64
  omega
theorem xor_ones (x : Nat) (h : x < 18446744073709551616) : x ^^^ 18446744073709551615 = 18446744073709551615 - x := by
  have e : (18446744073709551615 : Nat) - x = 2 ^ 64 - (x + 1) := by omega
  have e2 : (18446744073709551615 : Nat) = 2 ^ 64 - 1 := by decide
  rw [e]
  refine Nat.eq_of_testBit_eq fun i => ?_
  rw [Nat.testBit_two_pow_sub_succ (by omega : x < 2 ^ 64), Nat.testBit_xor, e2, Nat.testBit_two_pow_sub_one]
  by_cases hi : i < 64
  · simp [hi]
  · have : x.testBit i = false := Nat.testBit_lt_two_pow (Nat.lt_of_lt_of_le h (by
      have : (2 : Nat) ^ 64 ≤ 2 ^ i := Nat.pow_le_pow_right (by decide) (by omega)
      simpa using this))
    simp [hi, this]
theorem encoded_form (n : Int) (h1 : -9223372036854775808 ≤ n) (h2 : n ≤ 9223372036854775807) :
    bits .xor .u64 (IntKind.u64.wrap (IntKind.u64.wrap n * 2)) (IntKind.u64.wrap (n / 9223372036854775808)) = (cdN n : Int) := by
  rw [wrap_u64_eq, wrap_u64_eq, wrap_u64_eq]
  by_cases h0 : 0 ≤ n
  · have e1 : n % 18446744073709551616 * 2 % 18446744073709551616 = ((2 * n).toNat : Int) := by omega
    have e2 : n / 9223372036854775808 % 18446744073709551616 = ((0 : Nat) : Int) := by omega
    rw [e1, e2, u64_xor_nat _ _ (by omega) (by omega), Nat.xor_zero]
    unfold cdN
    rw [if_pos h0]
  · have e1 : n % 18446744073709551616 * 2 % 18446744073709551616 = ((2 * n + 18446744073709551616).toNat : Int) := by omega
    have e2 : n / 9223372036854775808 % 18446744073709551616 = ((18446744073709551615 : Nat) : Int) := by omega
    rw [e1, e2, u64_xor_nat _ _ (by omega) (by omega), xor_ones _ (by omega)]
    unfold cdN
    rw [if_neg h0]
    omega
theorem i64_xor_ones (a : Int) (h1 : 0 ≤ a) (h2 : a ≤ 9223372036854775807) : bits .xor .i64 a (-1) = -a - 1 := by
  have e1 : (BitVec.ofInt 64 a ^^^ BitVec.ofInt 64 (-1)) = ~~~ (BitVec.ofInt 64 a) := by
    have : BitVec.ofInt 64 (-1) = BitVec.allOnes 64 := by decide
    rw [this, BitVec.xor_allOnes]
  show IntKind.i64.wrap ((BitVec.ofInt 64 a ^^^ BitVec.ofInt 64 (-1)).toNat : Nat) = _
  rw [e1, BitVec.toNat_not, BitVec.toNat_ofInt, IntKind.wrap_i64]
  omega
theorem i64_xor_zero (a : Int) (h1 : 0 ≤ a) (h2 : a ≤ 9223372036854775807) : bits .xor .i64 a 0 = a := by
  have e1 : (BitVec.ofInt 64 a ^^^ BitVec.ofInt 64 0) = (BitVec.ofInt 64 a) := by
    have : BitVec.ofInt 64 0 = 0#64 := by decide
    rw [this, BitVec.xor_zero]
  show IntKind.i64.wrap ((BitVec.ofInt 64 a ^^^ BitVec.ofInt 64 0).toNat : Nat) = _
  rw [e1, BitVec.toNat_ofInt, IntKind.wrap_i64]
  omega
theorem decoded_form (c : Nat) (h1 : c < 18446744073709551616) :
    bits .xor .i64 ((c : Int) / 2) (wrap64 (-wrap64 (bits .and .u64 (c : Int) 1))) = ncI c := by
  have e : bits .and .u64 (c : Int) 1 = ((c % 2 : Nat) : Int) := by
    have := u64_and_nat c 1 h1 (by decide)
    rw [Nat.and_one_is_mod] at this
    exact this
  rw [e]
  have hr := nc_range h1
  unfold ncI at hr ⊢
  by_cases h0 : c % 2 = 0
  · rw [h0, if_pos rfl]
    have : wrap64 (-wrap64 ((0 : Nat) : Int)) = 0 := by unfold wrap64; omega
    rw [this, i64_xor_zero _ (by omega) (by omega)]
    omega
  · have h1' : c % 2 = 1 := by omega
    rw [h1', if_neg (by decide)]
    have : wrap64 (-wrap64 ((1 : Nat) : Int)) = -1 := by unfold wrap64; omega
    rw [this, i64_xor_ones _ (by omega) (by omega)]
    omega

theorem encoded_any (n : Int) (h1 : -9223372036854775808 ≤ n) (h2 : n ≤ 9223372036854775807) (w : World) :
    Calls Try.prog 69 #[.int .i64 n] w fun e w' => e = .returned (.int .u64 (cdN n)) ∧ w = w' := by
  go_enter Try.func69, Try.ntmps69
  go_wp2
  go_ret
  exact ⟨ret_i (encoded_form n h1 h2), rfl⟩
theorem decoded_any (c : Nat) (h1 : c < 18446744073709551616) (w : World) :
    Calls Try.prog 67 #[.int .u64 c] w fun e w' => e = .returned (.int .i64 (ncI c)) ∧ w = w' := by
  go_enter Try.func67, Try.ntmps67
  go_wp2
  go_ret
  exact ⟨ret_i (decoded_form c h1), rfl⟩
theorem code_any (n : Int) (h1 : -9223372036854775808 ≤ n) (h2 : n ≤ 9223372036854775807) (w : World) :
    Calls Try.prog 56 #[.int .i64 n] w fun e w' => e = .returned (.int .u64 (cdN n)) ∧ w = w' := by
  go_enter Try.func56, Try.ntmps56
  go_wp2
  · go_ret
    exact ⟨ret_i (by unfold cdN; split <;> omega), rfl⟩
  · go_ret
    exact ⟨ret_i (by unfold cdN; split <;> omega), rfl⟩
theorem number_even {c : Nat} (h : ((c : Int) % 2 == 0) = true) : (c : Int) / 2 = ncI c := by
  have h := eq_of_beq h
  unfold ncI
  rw [if_pos (by omega)]
  omega
theorem number_odd {c : Nat} (h : ((c : Int) % 2 == 0) = false) : -((c : Int) / 2) - 1 = ncI c := by
  have h := ne_of_beq_false h
  unfold ncI
  rw [if_neg (by omega)]
  omega
theorem number_any (c : Nat) (h1 : c < 18446744073709551616) (w : World) :
    Calls Try.prog 61 #[.int .u64 c] w fun e w' => e = .returned (.int .i64 (ncI c)) ∧ w = w' := by
  go_enter Try.func61, Try.ntmps61
  go_wp2
  · go_ret
    exact ⟨ret_i (number_even (by assumption)), rfl⟩
  · go_ret
    exact ⟨ret_i (number_odd (by assumption)), rfl⟩
theorem len64_any (c : Nat) (h1 : c < 18446744073709551616) (w : World) :
    Calls Try.prog 70 #[.int .u64 c] w fun e w' => (∃ k : Nat, k ≤ 64 ∧ e = .returned (.int .i64 k)) ∧ w = w' := by
  refine (Try.bits_Len64 c w (by omega) (by omega)).mono ?_
  rintro e w' ⟨rfl, rfl⟩
  have hb : Lib.bitLen c ≤ 64 := Lib.bitLenAux_le _ _ _ (by simpa using h1)
  exact ⟨⟨Lib.bitLen c, hb, rfl⟩, rfl⟩
set_option maxHeartbeats 400000 in
theorem numSize_any (n : Int) (h1 : -9223372036854775808 ≤ n) (h2 : n ≤ 9223372036854775807) (w : World) :
    Calls Try.prog 64 #[.int .i64 n] w fun e w' => (∃ k : Nat, 1 ≤ k ∧ k ≤ 10 ∧ e = .returned (.int .i64 k)) ∧ w = w' := by
  have HE := Lib.hid (encoded_any n h1 h2)
  have HL := Lib.hid (len64_any (cdN n) (cd_lt h1 h2))
  generalize cdN n = c at HE HL
  clear h1 h2
  go_enter Try.func64, Try.ntmps64
  go_wp2_with first | (go_at_call 69; refine (HE.out _).mono ?_; rintro e w' ⟨rfl, rfl⟩) | (go_at_call 70; refine (HL.out _).mono ?_; rintro e w' ⟨⟨k, hk, rfl⟩, rfl⟩)
  go_ret
  exact ⟨⟨(max 1 (((k : Int) + 7 - 1) / 7)).toNat, by omega, by omega, ret_i (by omega)⟩, rfl⟩
set_option maxHeartbeats 400000 in
theorem textSize_any (s : ByteArray) (hs : s.size ≤ 140737488355328) (w : World) :
    Calls Try.prog 66 #[.string s] w fun e w' => (∃ k : Nat, k ≤ 10 + s.size ∧ e = .returned (.int .i64 k)) ∧ w = w' := by
  have HN := Lib.hid (numSize_any s.size (by omega) (by omega))
  go_enter Try.func66, Try.ntmps66
  go_wp2_with fail
  refine (HN.out _).mono ?_
  rintro e w' ⟨⟨k, hk1, hk, rfl⟩, rfl⟩
  go_wp2_with fail
  go_ret
  exact ⟨⟨k + s.size, by omega, ret_i (by omega)⟩, rfl⟩

theorem infoU8 : (Try.prog.info? 5).map (fun i => (i.zero, i.size, i.bytes)) = some (some (.int .u8 0), 1, 1) := by kernel_rfl
theorem sizeU8 : (Try.prog.info? 5).map (fun i => i.size) = some 1 := by kernel_rfl
theorem bv_one (x : UInt8) : (bv x).oneCell' = true := rfl
theorem bvs_one (xs : List UInt8) : ∀ u ∈ xs.map bv, u.oneCell' = true := fun u hu => by
  obtain ⟨x, _, rfl⟩ := List.mem_map.1 hu
  rfl
set_option maxHeartbeats 400000 in
theorem extend_any (A : Option Addr) (c : Nat) (xs : List UInt8) (size : Nat) (w : World) (hsl : CL bv w w.heap.size A xs) (hn : xs.length + size ≤ 140737488355328) :
    Calls Try.prog 63 #[.slice A xs.length c, .int .i64 size] w fun e w' => ∃ v, e = .returned v ∧ Own 5 bv w' w.heap.size v xs ∧ Below w.heap.size w w' := by
  obtain ⟨i, hi, hz, hz1, hz2⟩ := info_parts infoU8
  obtain ⟨cur, hcur⟩ : ∃ cur : List Value, cur = (madeCells (Value.int .u8 0).cells ((xs.length + size) * i.size)).toList := ⟨_, rfl⟩
  have hcl : cur.length = xs.length + size := by rw [hcur, Array.length_toList, size_madeCells, hz1, Nat.mul_one]
  have hmk : (Instr.makeSlice 22 (.int .i64 (xs.length : Int)) (.int .i64 ((xs.length : Int) + (size : Int)))).run Try.prog w =
      .ok (.slice (some ⟨w.heap.size, 0, none⟩) xs.length (xs.length + size)) (w.alloc (.cells cur.toArray 5)) := by
    have hr := run_make (P := Try.prog) w 22 5 i (.int .u8 0) Try.underlying22 hi hz .i64 .i64 xs.length ((xs.length : Int) + (size : Int)) (by omega) (by omega) (by rw [hz2]; omega) (by omega)
    have e1 : ((xs.length : Int)).toNat = xs.length := by omega
    have e2 : ((xs.length : Int) + (size : Int)).toNat = xs.length + size := by omega
    rw [e1, e2] at hr
    rw [hr, hcur]
  have hpos : 0 < (xs.map bv).length → (some ⟨w.heap.size, 0, none⟩ : Option Addr) = some ⟨w.heap.size, 0, none⟩ ∧ ∃ ad, A = some ad ∧ ∀ (j : Nat) (v : Value), (xs.map bv)[j]? = some v → (w.alloc (.cells cur.toArray 5)).cell? (ad.add j) = some v := fun h0 => by
    rw [List.length_map] at h0
    obtain ⟨b, o, rfl, hb, hc⟩ := hsl h0
    refine ⟨rfl, _, rfl, fun j v hj => ?_⟩
    rw [List.getElem?_map] at hj
    cases hx : xs[j]? with
    | none => rw [hx] at hj; cases hj
    | some x =>
      rw [hx] at hj
      obtain rfl := Option.some.inj hj
      have := hc j x hx
      have h2 : (w.alloc (.cells cur.toArray 5)).cell? ⟨b, o + j, none⟩ = some (bv x) := by rw [((Below.refl w.heap.size w).alloc (Nat.le_refl _) _).cell hb]; exact this
      unfold Addr.add
      split
      · next h0 => subst h0; exact h2
      · exact h2
  have hg : (w.alloc (.cells cur.toArray 5)).heap[w.heap.size]? = some (.cells cur.toArray 5) := heap_alloc_new w _
  have HP := Lib.hid hpos
  have HG := Lib.hid hg
  have HC := Lib.hid hcur
  clear hpos hg hcur hsl
  go_enter Try.func63, Try.ntmps63
  go_wp2_with (with_reducible refine wpList_copy_splice rfl (.tmp 13) (.tmp 14) 22 22 rfl 5 Try.underlying22 sizeU8 (some ⟨w.heap.size, 0, none⟩) A xs.length (xs.length + size) xs.length c rfl rfl w.heap.size 0 cur 5 HG.out (xs.map bv) (by simp) HP.out (by simp; omega) (bvs_one xs) w.heap.size w ((Below.refl _ _).alloc (Nat.le_refl _) _) (Nat.le_refl _) ?_; intro w' hg' hb')
  go_ret
  refine ⟨_, rfl, ?_, hb'⟩
  have hl := length_splice cur 0 (xs.map bv) (by simp; omega)
  refine ⟨by simp, .inr ⟨w.heap.size, xs.length + size, _, rfl, Nat.le_refl _, hg'.out, by omega, by unfold maxLen; omega, ?_, ?_⟩⟩
  · rw [List.size_toArray, hl]; omega
  · unfold splice
    rw [List.take_zero, List.nil_append, Nat.mul_one]
    exact (List.take_left' (by simp))

end Go.Proofs.Ytbmeimpfehjnfaa
