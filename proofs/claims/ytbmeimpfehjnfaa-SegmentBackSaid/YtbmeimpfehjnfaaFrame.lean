/-
  What Sum, Wrap, Size and bigEndian of frame answer, and Sum, Wrap and Size of its specification. Conditions: so many bytes fit a slice.
-/
import Derived.Test.YtbmeimpfehjnfaaTexts
namespace Go.Proofs.Ytbmeimpfehjnfaa
open Go.RowKit

def sumStep (h : Nat) (x : UInt8) : Nat := (h ^^^ x.toNat) * 16777619 % 4294967296
def sumR (l : List UInt8) : Nat := l.foldl sumStep 2166136261
theorem fold_take {f : Nat → UInt8 → Nat} (h0 : Nat) {l : List UInt8} {k : Nat} {x : UInt8} (h : l[k]? = some x) : (l.take (k + 1)).foldl f h0 = f ((l.take k).foldl f h0) x := by
  rw [List.take_add_one, h, List.foldl_append]
  rfl
theorem sum_take {l : List UInt8} {k : Nat} {x : UInt8} (h : l[k]? = some x) : sumR (l.take (k + 1)) = sumStep (sumR (l.take k)) x := fold_take 2166136261 h
theorem sumStep_lt (h : Nat) (x : UInt8) : sumStep h x < 4294967296 := Nat.mod_lt _ (by decide)
theorem foldl_lt (l : List UInt8) (h : Nat) (hh : h < 4294967296) : l.foldl sumStep h < 4294967296 := by
  induction l generalizing h with
  | nil => exact hh
  | cons x r ih => exact ih _ (sumStep_lt _ _)
theorem sumR_lt (l : List UInt8) : sumR l < 4294967296 := foldl_lt l _ (by decide)
theorem xor_lt32 {h : Nat} (hh : h < 4294967296) (x : UInt8) : h ^^^ x.toNat < 4294967296 := by
  have := x.toNat_lt
  exact Nat.xor_lt_two_pow (n := 32) hh (by omega)

theorem sum_form32 {h : Nat} (hh : h < 4294967296) (x : UInt8) : bits .xor .u32 (h : Int) (x.toNat : Int) * 16777619 % 4294967296 = (sumStep h x : Int) := by
  have hx := x.toNat_lt
  rw [u32_xor_nat _ _ (by omega) (by omega)]
  unfold sumStep
  generalize h ^^^ x.toNat = q
  omega
theorem sum_form64 {h : Nat} (hh : h < 4294967296) (x : UInt8) : (IntKind.u64.wrap (bits .xor .u64 (h : Int) (x.toNat : Int) * 16777619)).tmod 4294967296 = (sumStep h x : Int) := by
  have hx := x.toNat_lt
  have := xor_lt32 hh x
  rw [u64_xor_nat _ _ (by omega) (by omega), wrap_u64_eq]
  unfold sumStep
  generalize h ^^^ x.toNat = q at this ⊢
  rw [Int.tmod_eq_emod_of_nonneg (by omega)]
  omega

set_option maxHeartbeats 1000000 in
theorem sum_any (A : Option Addr) (c : Nat) (l : List UInt8) (w : World) (B : Nat) (hsl : CL bv w B A l) (hn : l.length ≤ 140737488355328) :
    Calls Try.prog 53 #[.slice A l.length c] w fun e w' => e = .returned (.int .i64 (sumR l)) ∧ w = w' := by
  have HS := Lib.hid hsl
  clear hsl
  go_enter Try.func53, Try.ntmps53
  go_wp2
  go_loop [3, 5, 8] (fun h _ i => ∃ (k q : Nat), i = .int .i64 k ∧ h = .int .u32 q ∧ q = sumR (l.take k) ∧ k ≤ l.length) (fun _ _ i => l.length - (intOf i).toNat)
  case atStart => exact ⟨0, 2166136261, rfl, rfl, rfl, by omega⟩
  case round =>
    obtain ⟨i, q, rfl, rfl, hq, hi⟩ := hrel
    have hql : q < 4294967296 := by rw [hq]; exact sumR_lt _
    have HQ := Lib.hid hq
    clear hq
    by_cases hlt : i < l.length
    · obtain ⟨b, o, rfl, hbB, hcl⟩ := HS.out (by omega)
      obtain ⟨x, hx⟩ : ∃ x, l[i]? = some x := ⟨_, List.getElem?_eq_getElem hlt⟩
      have k1 := hcl i x hx
      unfold bv at k1
      have hx256 : x.toNat < 256 := x.toNat_lt
      have HX := Lib.hid (sum_take hx)
      have HF := Lib.hid (sum_form32 hql x)
      clear hcl hx
      go_wp2
      exact ⟨⟨i + 1, sumStep q x, by go_num, congrArg (Value.int .u32) HF.out, by rw [HX.out, ← HQ.out], by omega⟩, by simp [intOf]; omega⟩
    · obtain rfl : i = l.length := by omega
      have HE : Hid (q = sumR l) := Lib.hid (by rw [HQ.out, List.take_length])
      go_wp2
      go_ret
      exact ⟨by rw [← HE.out]; rfl, rfl⟩

set_option maxHeartbeats 1000000 in
theorem rSum_any (A : Option Addr) (c : Nat) (l : List UInt8) (w : World) (B : Nat) (hsl : CL bv w B A l) (hn : l.length ≤ 140737488355328) :
    Calls Try.prog 57 #[.slice A l.length c] w fun e w' => e = .returned (.int .i64 (sumR l)) ∧ w = w' := by
  have HS := Lib.hid hsl
  clear hsl
  go_enter Try.func57, Try.ntmps57
  go_wp2
  go_loop [3, 4] (fun h i => ∃ (k q : Nat), i = .int .i64 k ∧ h = .int .u64 q ∧ q = sumR (l.take k) ∧ k ≤ l.length) (fun _ i => l.length - (intOf i).toNat)
  case atStart => exact ⟨0, 2166136261, rfl, rfl, rfl, by omega⟩
  case round =>
    obtain ⟨i, q, rfl, rfl, hq, hi⟩ := hrel
    have hql : q < 4294967296 := by rw [hq]; exact sumR_lt _
    have HQ := Lib.hid hq
    clear hq
    by_cases hlt : i < l.length
    · obtain ⟨b, o, rfl, hbB, hcl⟩ := HS.out (by omega)
      obtain ⟨x, hx⟩ : ∃ x, l[i]? = some x := ⟨_, List.getElem?_eq_getElem hlt⟩
      have k1 := hcl i x hx
      unfold bv at k1
      have hx256 : x.toNat < 256 := x.toNat_lt
      have HX := Lib.hid (sum_take hx)
      have HF := Lib.hid (sum_form64 hql x)
      clear hcl hx
      go_wp2
      exact ⟨⟨i + 1, sumStep q x, by go_num, congrArg (Value.int .u64) HF.out, by rw [HX.out, ← HQ.out], by omega⟩, by simp [intOf]; omega⟩
    · obtain rfl : i = l.length := by omega
      have HE : Hid (q = sumR l) := Lib.hid (by rw [HQ.out, List.take_length])
      go_wp2
      go_ret
      exact ⟨by rw [← HE.out]; rfl, rfl⟩

/-- the number of four bytes and more -/
def beStep (n : Nat) (x : UInt8) : Nat := n * 256 + x.toNat
def beR (l : List UInt8) : Nat := l.foldl beStep 0
theorem be_take {l : List UInt8} {k : Nat} {x : UInt8} (h : l[k]? = some x) : beR (l.take (k + 1)) = beStep (beR (l.take k)) x := fold_take 0 h
theorem be_lt {l : List UInt8} : ∀ {k : Nat}, k ≤ l.length → k ≤ 4 → beR (l.take k) < 256 ^ k := by
  intro k
  induction k with
  | zero => intro _ _; simp [beR]
  | succ k ih =>
    intro h h4
    have hx : l[k]? = some (l[k]'(by omega)) := List.getElem?_eq_getElem (by omega)
    rw [be_take hx]
    have := ih (by omega) (by omega)
    have hx := (l[k]'(by omega)).toNat_lt
    unfold beStep
    rw [Nat.pow_succ]
    omega
theorem be_form {n : Nat} (hn : n < 16777216) (x : UInt8) : bits .or .i64 ((n : Int) * 256) (x.toNat : Int) = (beStep n x : Int) := by
  have hx := x.toNat_lt
  have h1 : (BitVec.ofInt 64 ((n : Int) * 256)).toNat = n * 256 := by rw [BitVec.toNat_ofInt]; omega
  have h2 : (BitVec.ofInt 64 (x.toNat : Int)).toNat = x.toNat := by rw [BitVec.toNat_ofInt]; omega
  show IntKind.i64.wrap ((BitVec.ofInt 64 ((n : Int) * 256) ||| BitVec.ofInt 64 (x.toNat : Int)).toNat : Nat) = _
  rw [BitVec.toNat_or, h1, h2]
  have h4 := Nat.two_pow_add_eq_or_of_lt (i := 8) (b := x.toNat) hx n
  have h5 : (n * 256 ||| x.toNat) = 256 * n + x.toNat := by rw [Nat.mul_comm]; exact h4.symm
  unfold beStep
  rw [h5, IntKind.wrap_i64]
  omega

set_option maxHeartbeats 1000000 in
theorem bigEndian_any (A : Option Addr) (c : Nat) (l : List UInt8) (w : World) (B : Nat) (hsl : CL bv w B A l) (hn : l.length ≤ 4) :
    Calls Try.prog 59 #[.slice A l.length c] w fun e w' => e = .returned (.int .i64 (beR l)) ∧ w = w' := by
  have HS := Lib.hid hsl
  clear hsl
  go_enter Try.func59, Try.ntmps59
  go_wp2
  go_loop [3, 5, 8] (fun h _ i => ∃ (k q : Nat), i = .int .i64 k ∧ h = .int .i64 q ∧ q = beR (l.take k) ∧ k ≤ l.length) (fun _ _ i => l.length - (intOf i).toNat)
  case atStart => exact ⟨0, 0, rfl, rfl, rfl, by omega⟩
  case round =>
    obtain ⟨i, q, rfl, rfl, hq, hi⟩ := hrel
    have HQ := Lib.hid hq
    by_cases hlt : i < l.length
    · have hql : q < 16777216 := by
        rw [hq]
        exact Nat.lt_of_lt_of_le (be_lt hi (by omega)) (Nat.le_trans (Nat.pow_le_pow_right (by decide) (show i ≤ 3 by omega)) (by decide))
      clear hq
      obtain ⟨b, o, rfl, hbB, hcl⟩ := HS.out (by omega)
      obtain ⟨x, hx⟩ : ∃ x, l[i]? = some x := ⟨_, List.getElem?_eq_getElem hlt⟩
      have k1 := hcl i x hx
      unfold bv at k1
      have hx256 : x.toNat < 256 := x.toNat_lt
      have HX := Lib.hid (be_take hx)
      have HF := Lib.hid (be_form hql x)
      clear hcl hx
      go_wp2
      exact ⟨⟨i + 1, beStep q x, by go_num, congrArg (Value.int .i64) HF.out, by rw [HX.out, ← HQ.out], by omega⟩, by simp [intOf]; omega⟩
    · clear hq
      obtain rfl : i = l.length := by omega
      have HE : Hid (q = beR l) := Lib.hid (by rw [HQ.out, List.take_length])
      go_wp2
      go_ret
      exact ⟨by rw [← HE.out]; rfl, rfl⟩
end Go.Proofs.Ytbmeimpfehjnfaa
