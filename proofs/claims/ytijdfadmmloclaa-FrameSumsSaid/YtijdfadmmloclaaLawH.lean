/-
  The walk of FrameSums: it answers true. Conditions: the list reads as data.
-/
import Derived.Test.YtijdfadmmloclaaAwake4
import Derived.StillTailTactics
namespace Go.Proofs.Ytijdfadmmloclaa
open Go.RowKit

theorem i64_xor_nat {a b : Nat} (ha : a < 4294967296) (hb : b < 256) : bits .xor .i64 (a : Int) (b : Int) = ((a ^^^ b : Nat) : Int) := by
  have h1 : (BitVec.ofInt 64 (a : Int)).toNat = a := by rw [BitVec.toNat_ofInt]; omega
  have h2 : (BitVec.ofInt 64 (b : Int)).toNat = b := by rw [BitVec.toNat_ofInt]; omega
  have h3 : a ^^^ b < 4294967296 := Nat.xor_lt_two_pow (n := 32) ha (by omega)
  show IntKind.i64.wrap ((BitVec.ofInt 64 (a : Int) ^^^ BitVec.ofInt 64 (b : Int)).toNat : Nat) = _
  rw [BitVec.toNat_xor, h1, h2, IntKind.wrap_i64]
  omega

set_option maxRecDepth 20000 in
set_option maxHeartbeats 2000000 in
theorem frameSums_pos (A : Option Addr) (c n : Nat) (l : List UInt8) (hl : l.length = n + 1) (h6 : n + 1 ≤ 600) (w : World) (hsl : CL bv w w.heap.size A l) (hc : l.length ≤ c) :
    Calls Try.prog 11 #[.slice A (n + 1) c] w fun e w' => e = .returned (.bool true) ∧ Below w.heap.size w w' := by
  have hsum := sum_any A c l w _ hsl (by omega)
  have hrsum := rSum_any A c l w _ hsl (by omega)
  rw [hl] at hsum hrsum
  obtain ⟨x, hx⟩ : ∃ x, l[n]? = some x := ⟨_, List.getElem?_eq_getElem (by omega)⟩
  have hstep := sum_take hx
  rw [List.take_of_length_le (by omega)] at hstep
  obtain ⟨A2, hs, hcl2⟩ := slice_h A c l n (by omega) hc
  have hsum2 := fun w' h => sum_any A2 c (l.take n) w' w.heap.size h (by rw [List.length_take]; omega)
  have htl : (l.take n).length = n := by rw [List.length_take]; omega
  rw [htl] at hs hsum2
  rw [hl] at hs
  obtain ⟨b, o, rfl, hbB, hcl⟩ := hsl (by omega)
  have k1 := hcl n x hx
  unfold bv at k1
  have hslD := hcl2 w.drew _ (hsl.below ((Below.refl _ _).drew))
  have hS2 := hsum2 _ hslD
  have hlt := sumR_lt (l.take n)
  have hltl := sumR_lt l
  have hx256 : x.toNat < 256 := x.toNat_lt
  have hxor := i64_xor_nat hlt hx256
  have hxl := xor_lt32 hlt x
  unfold sumStep at hstep
  generalize sumR (l.take n) = h' at hS2 hlt hxor hxl hstep
  generalize sumR l = h at hsum hrsum hltl hstep
  generalize h' ^^^ x.toNat = q at hxor hxl hstep
  have hq1 : (q : Int) * 16777619 % 4294967296 = (h : Int) := by omega
  have hq2 : ((q : Int) * 16777619).tmod 4294967296 = (h : Int) := by rw [Int.tmod_eq_emod_of_nonneg (by omega)]; exact hq1
  have hfin : (IntKind.i64.wrap (bits .xor .i64 (h' : Int) (IntKind.i64.wrap (x.toNat : Int)) * 16777619)).tmod 4294967296 = (h : Int) := by
    rw [wrap_i64_id (x.toNat : Int) (by omega) (by omega), hxor, wrap_i64_id _ (by omega) (by omega)]
    exact hq2
  clear hxor hq1 hq2 hxl hlt
  have HSUM := Lib.hid hsum
  have HRS := Lib.hid hrsum
  have HS2 : Hid (Calls Try.prog 37 #[.slice A2 n c] w.drew fun e w' => e = .returned (.int .i64 h') ∧ w' = w.drew) := Lib.hid (hS2.mono fun _ _ ⟨h1, h2⟩ => ⟨h1, h2.symm⟩)
  clear hsum hrsum hS2 hslD hcl2 hsum2 hstep hcl hsl hc hl htl hx
  go_enter Try.func11, Try.ntmps11
  go_wp2_with fail
  refine HSUM.out.mono ?_
  rintro e w1 ⟨rfl, rfl⟩
  go_wp2_with fail
  refine HRS.out.mono ?_
  rintro e w1 ⟨rfl, rfl⟩
  go_wp2_with fail
  refine wp_region_still_tail 15 (by kernel_rfl) (by kernel_rfl) ?_
  simp only [List.take_succ_cons, List.take_zero, List.drop_succ_cons, List.drop_zero]
  change wpStill Try.prog _ w.drew (fun a' => wpList Try.prog _ _ _ a' w.drew) _ _
  have hin : (n : Int) < (n : Int) + 1 := by omega
  have k2 : w.drew.cell? ⟨b, o + n, none⟩ = some (.int .u8 x.toNat) := k1
  have hbd : Below w.heap.size w w.drew := (Below.refl _ _).drew
  clear k1
  generalize w.drew = w2 at HS2 k2 hbd ⊢
  still_step
  still_step
  still_step
  still_step
  still_call (HS2.out)
  repeat still_step
  try refine wpStill_nil ?_
  try simp only [beq_self_eq_true]
  clear hfin hx256 hin HSUM HRS HS2 k2 hs hltl
  go_wp2_with fail
  refine (awake4_any _).mono ?_
  rintro e w3 ⟨rfl, hb3⟩
  go_wp2_with fail
  go_ret
  exact ⟨rfl, stepB hbd hb3⟩

set_option maxHeartbeats 2000000 in
theorem frameSums_walk (A : Option Addr) (c : Nat) (l : List UInt8) (w : World) (hsl : CL bv w w.heap.size A l) (hc : l.length ≤ c) (hn : l.length ≤ 140737488355328) :
    Calls Try.prog 11 #[.slice A l.length c] w fun e w' => e = .returned (.bool true) ∧ Below w.heap.size w w' := by
  by_cases h600 : 600 < l.length
  · clear hsl
    go_enter Try.func11, Try.ntmps11
    go_wp2_with fail
    refine (awake4_any _).mono ?_
    rintro e w1 ⟨rfl, hb1⟩
    go_wp2_with fail
    go_ret
    exact ⟨rfl, hb1⟩
  · by_cases h0 : l.length = 0
    · have hx : l = [] := List.eq_nil_of_length_eq_zero h0
      subst hx
      have HSUM : Hid (∀ w, Calls Try.prog 37 #[.slice A 0 c] w fun e w' => e = .returned (.int .i64 2166136261) ∧ w = w') := Lib.hid (fun w => (sum_any A c [] w 0 (CL.nil _ _ _) (by decide)).mono fun _ _ h => by
        rw [a4_sum_val] at h
        exact h)
      have HRS : Hid (∀ w, Calls Try.prog 38 #[.slice A 0 c] w fun e w' => e = .returned (.int .i64 2166136261) ∧ w = w') := Lib.hid (fun w => (rSum_any A c [] w 0 (CL.nil _ _ _) (by decide)).mono fun _ _ h => by
        rw [a4_sum_val] at h
        exact h)
      clear hsl hc hn h600 h0
      show Calls Try.prog 11 #[.slice A 0 c] w _
      go_enter Try.func11, Try.ntmps11
      go_wp2_with fail
      refine (HSUM.out _).mono ?_
      rintro e w1 ⟨rfl, rfl⟩
      go_wp2_with fail
      refine (HRS.out _).mono ?_
      rintro e w1 ⟨rfl, rfl⟩
      go_wp2_with fail
      refine (awake4_any _).mono ?_
      rintro e w1 ⟨rfl, hb1⟩
      go_wp2_with fail
      go_ret
      exact ⟨rfl, hb1⟩
    · obtain ⟨n, hn1⟩ : ∃ n, l.length = n + 1 := ⟨l.length - 1, by omega⟩
      have := frameSums_pos A c n l hn1 (by omega) w hsl hc
      rw [hn1]
      exact this

end Go.Proofs.Ytijdfadmmloclaa
