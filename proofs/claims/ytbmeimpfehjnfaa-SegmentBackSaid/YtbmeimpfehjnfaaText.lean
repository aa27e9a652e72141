/-
  What count, Text and Texts answer, of the program and of the specification. Conditions: position and limit fit an int; so many bytes fit a slice.
-/
import Derived.Test.YtbmeimpfehjnfaaRead2
namespace Go.Proofs.Ytbmeimpfehjnfaa
open Go.RowKit

def countR (l : List UInt8) (p limit : Int) : Int × Int × Int :=
  if (numR l p).2.2 ≠ 0 then (0, 0, (numR l p).2.2) else if (numR l p).1 < 0 then (0, 0, 2) else if limit < (numR l p).1 then (0, 0, 5) else ((numR l p).1, (numR l p).2.1, 0)
def textR (l : List UInt8) (p limit : Int) : ByteArray × Int × Int :=
  if (countR l p limit).2.2 ≠ 0 then (⟨#[]⟩, 0, (countR l p limit).2.2)
  else if (l.length : Int) - (countR l p limit).2.1 < (countR l p limit).1 then (⟨#[]⟩, 0, 3)
  else (bs ((l.drop (countR l p limit).2.1.toNat).take (countR l p limit).1.toNat), (countR l p limit).2.1 + (countR l p limit).1, 0)

/-- what a reading that succeeds says of the position -/
theorem numR_ok {l : List UInt8} {p n nx : Int} (h : numR l p = (n, nx, 0)) : ∃ (k j : Nat), p = k ∧ nx = ((k + j : Nat) : Int) ∧ 1 ≤ j ∧ j ≤ 10 ∧ k + j ≤ l.length ∧ -9223372036854775808 ≤ n ∧ n ≤ 9223372036854775807 ∧ enc n = (l.drop k).take j := by
  unfold numR at h
  split at h
  · simp at h
  · next hp =>
    split at h
    · next h0 =>
      simp only [Prod.mk.injEq, and_true] at h
      obtain ⟨k, rfl⟩ := Int.eq_ofNat_of_zero_le (by omega : 0 ≤ p)
      simp only [Int.toNat_natCast] at h h0
      generalize hr : rdF 0 0 (l.drop k) = r at h h0
      obtain ⟨e, c, j⟩ := r
      simp only at h h0
      subst h0
      obtain ⟨h1, h2, h3, h4, h5⟩ := rd_only hr
      rw [List.length_drop] at h4
      obtain ⟨rfl, rfl⟩ := h
      have := nc_range h1
      exact ⟨k, j, rfl, by omega, h2, h3, by omega, this.1, this.2, h5⟩
    · simp at h
      omega
theorem numR_bad {l : List UInt8} {p n nx e : Int} (h : numR l p = (n, nx, e)) (he : e ≠ 0) : n = 0 ∧ nx = 0 ∧ 1 ≤ e ∧ e ≤ 3 := by
  unfold numR at h
  split at h
  · simp only [Prod.mk.injEq] at h
    omega
  · split at h
    · simp only [Prod.mk.injEq] at h
      omega
    · next h0 =>
      generalize hr : rdF 0 0 (l.drop p.toNat) = r at h h0
      obtain ⟨e', c, j⟩ := r
      have := rdF_err _ _ _ _ _ _ hr h0
      simp only [Prod.mk.injEq] at h
      omega
theorem countR_ok {l : List UInt8} {p limit n nx : Int} (h : countR l p limit = (n, nx, 0)) : ∃ (k j m : Nat), p = k ∧ nx = ((k + j : Nat) : Int) ∧ n = m ∧ n ≤ limit ∧ 1 ≤ j ∧ j ≤ 10 ∧ k + j ≤ l.length ∧ n ≤ 9223372036854775807 ∧ enc n = (l.drop k).take j := by
  unfold countR at h
  split at h
  · next h0 =>
    simp only [Prod.mk.injEq] at h
    omega
  · next h0 =>
    split at h
    · simp at h
    · next h1 =>
      split at h
      · simp at h
      · next h2 =>
        simp only [Prod.mk.injEq, and_true] at h
        generalize hr : numR l p = r at h h0 h1 h2
        obtain ⟨a, b, e⟩ := r
        simp only at h h0 h1 h2
        obtain rfl : e = 0 := by omega
        obtain ⟨rfl, rfl⟩ := h
        obtain ⟨k, j, h1', h2', h3, h4, h5, h6, h7, h8⟩ := numR_ok hr
        exact ⟨k, j, a.toNat, h1', h2', by omega, by omega, h3, h4, h5, h7, h8⟩

set_option maxHeartbeats 1000000 in
theorem count_any (A : Option Addr) (c : Nat) (l : List UInt8) (p limit : Int) (hp1 : -9223372036854775808 ≤ p) (hp2 : p ≤ 9223372036854775807) (w : World) (B : Nat) (hsl : CL bv w B A l) (hc : l.length ≤ c) (hn : l.length ≤ 140737488355328) :
    Calls Try.prog 68 #[.slice A l.length c, .int .i64 p, .int .i64 limit] w fun e w' => e = tri .i64 (countR l p limit) ∧ w = w' := by
  have hcn := num_any A c l p hp1 hp2 w B hsl hc hn
  unfold countR
  generalize numR l p = r at hcn ⊢
  obtain ⟨n, nx, e⟩ := r
  have HC := Lib.hid hcn
  clear hcn hsl hp1 hp2 hc hn
  dsimp only
  by_cases he : e = 0
  · subst he
    rw [if_neg (by simp)]
    by_cases h0 : n < 0
    · rw [if_pos h0]
      go_enter Try.func68, Try.ntmps68
      go_wp2_with fail
      refine HC.out.mono ?_
      rintro e w' ⟨rfl, rfl⟩
      unfold tri
      go_wp2
      go_ret3
      exact ⟨rfl, rfl⟩
    · rw [if_neg h0]
      by_cases h1 : limit < n
      · rw [if_pos h1]
        go_enter Try.func68, Try.ntmps68
        go_wp2_with fail
        refine HC.out.mono ?_
        rintro e w' ⟨rfl, rfl⟩
        unfold tri
        go_wp2
        go_ret3
        exact ⟨rfl, rfl⟩
      · rw [if_neg h1]
        go_enter Try.func68, Try.ntmps68
        go_wp2_with fail
        refine HC.out.mono ?_
        rintro e w' ⟨rfl, rfl⟩
        unfold tri
        go_wp2
        go_ret3
        exact ⟨rfl, rfl⟩
  · rw [if_pos he]
    have hb : (e != 0) = true := by simp [he]
    clear he
    go_enter Try.func68, Try.ntmps68
    go_wp2_with fail
    refine HC.out.mono ?_
    rintro e w' ⟨rfl, rfl⟩
    unfold tri
    go_wp2
    go_ret3
    exact ⟨rfl, rfl⟩

set_option maxHeartbeats 1000000 in
theorem rCount_any (A : Option Addr) (c : Nat) (l : List UInt8) (p limit : Int) (hp1 : -9223372036854775808 ≤ p) (hp2 : p ≤ 9223372036854775807) (w : World) (B : Nat) (hsl : CL bv w B A l) (hc : l.length ≤ c) (hn : l.length ≤ 140737488355328) :
    Calls Try.prog 49 #[.slice A l.length c, .int .i64 p, .int .i64 limit] w fun e w' => e = tri .i64 (countR l p limit) ∧ w = w' := by
  have hcn := rNum_any A c l p hp1 hp2 w B hsl hc hn
  unfold countR
  generalize numR l p = r at hcn ⊢
  obtain ⟨n, nx, e⟩ := r
  have HC := Lib.hid hcn
  clear hcn hsl hp1 hp2 hc hn
  dsimp only
  by_cases he : e = 0
  · subst he
    rw [if_neg (by simp)]
    by_cases h0 : n < 0
    · rw [if_pos h0]
      go_enter Try.func49, Try.ntmps49
      go_wp2_with fail
      refine HC.out.mono ?_
      rintro e w' ⟨rfl, rfl⟩
      unfold tri
      go_wp2
      go_ret3
      exact ⟨rfl, rfl⟩
    · rw [if_neg h0]
      by_cases h1 : limit < n
      · rw [if_pos h1]
        go_enter Try.func49, Try.ntmps49
        go_wp2_with fail
        refine HC.out.mono ?_
        rintro e w' ⟨rfl, rfl⟩
        unfold tri
        go_wp2
        go_ret3
        exact ⟨rfl, rfl⟩
      · rw [if_neg h1]
        go_enter Try.func49, Try.ntmps49
        go_wp2_with fail
        refine HC.out.mono ?_
        rintro e w' ⟨rfl, rfl⟩
        unfold tri
        go_wp2
        go_ret3
        exact ⟨rfl, rfl⟩
  · rw [if_pos he]
    have hb : (e != 0) = true := by simp [he]
    clear he
    go_enter Try.func49, Try.ntmps49
    go_wp2_with fail
    refine HC.out.mono ?_
    rintro e w' ⟨rfl, rfl⟩
    unfold tri
    go_wp2
    go_ret3
    exact ⟨rfl, rfl⟩

def triS (r : ByteArray × Int × Int) : Ending := .returned (.tuple #[.string r.1, .int .i64 r.2.1, .int .i64 r.2.2])
theorem triS_eq {a a' : ByteArray} {b b' c c' : Int} (h1 : a = a') (h2 : b = b') (h3 : c = c') : Ending.returned (.tuple #[.string a, .int .i64 b, .int .i64 c]) = triS (a', b', c') := by subst h1; subst h2; subst h3; rfl

set_option maxHeartbeats 1000000 in
set_option maxRecDepth 20000 in
theorem text_any (A : Option Addr) (c : Nat) (l : List UInt8) (p limit : Int) (hp1 : -9223372036854775808 ≤ p) (hp2 : p ≤ 9223372036854775807) (w : World) (B : Nat) (hsl : CL bv w B A l) (hc : l.length ≤ c) (hn : l.length ≤ 140737488355328) :
    Calls Try.prog 60 #[.slice A l.length c, .int .i64 p, .int .i64 limit] w fun e w' => e = triS (textR l p limit) ∧ w = w' := by
  have hcn := count_any A c l p limit hp1 hp2 w B hsl hc hn
  have hok := fun n nx => @countR_ok l p limit n nx
  unfold textR
  generalize countR l p limit = r at hcn hok ⊢
  obtain ⟨n, nx, e⟩ := r
  have HC := Lib.hid hcn
  clear hcn hp1 hp2
  dsimp only
  by_cases he : e = 0
  · subst he
    obtain ⟨k, j, m, q1, rfl, rfl, q2, q3, q4, hkj, hm, q5⟩ := hok n nx rfl
    clear hok q1 q2 q3 q4 q5
    rw [if_neg (by simp)]
    by_cases h0 : (l.length : Int) - ((k + j : Nat) : Int) < (m : Int)
    · rw [if_pos h0]
      clear hsl
      generalize k + j = s at *
      go_enter Try.func60, Try.ntmps60
      go_wp2_with fail
      refine HC.out.mono ?_
      rintro e w' ⟨rfl, rfl⟩
      unfold tri
      go_wp2
      go_ret3
      exact ⟨rfl, rfl⟩
    · rw [if_neg h0]
      generalize k + j = s at *
      obtain ⟨A2, hs, hcl⟩ := slice_lhm A c l s (s + m) (by omega) (by omega) hc
      have hcv := conv_str (hcl w B hsl) ((l.drop s).take (s + m - s)).length
      have hs' := hs w
      rw [Int.natCast_add] at hs'
      rw [Int.toNat_natCast, Int.toNat_natCast]
      rw [show s + m - s = m by omega] at hs' hcv
      generalize (l.drop s).take m = T at hs' hcv ⊢
      clear hs hcl hsl
      go_enter Try.func60, Try.ntmps60
      go_wp2_with fail
      refine HC.out.mono ?_
      rintro e w' ⟨rfl, rfl⟩
      unfold tri
      go_wp2
      go_ret3
      exact ⟨rfl, rfl⟩
  · rw [if_pos he]
    have hb : (e != 0) = true := by simp [he]
    clear he hok hsl
    go_enter Try.func60, Try.ntmps60
    go_wp2_with fail
    refine HC.out.mono ?_
    rintro e w' ⟨rfl, rfl⟩
    unfold tri
    go_wp2
    go_ret3
    exact ⟨rfl, rfl⟩

set_option maxRecDepth 20000 in
set_option maxHeartbeats 1000000 in
theorem rText_any (A : Option Addr) (c : Nat) (l : List UInt8) (p limit : Int) (hp1 : -9223372036854775808 ≤ p) (hp2 : p ≤ 9223372036854775807) (w : World) (B : Nat) (hsl : CL bv w B A l) (hc : l.length ≤ c) (hn : l.length ≤ 140737488355328) :
    Calls Try.prog 51 #[.slice A l.length c, .int .i64 p, .int .i64 limit] w fun e w' => e = triS (textR l p limit) ∧ w = w' := by
  have hcn := rCount_any A c l p limit hp1 hp2 w B hsl hc hn
  have hok := fun n nx => @countR_ok l p limit n nx
  unfold textR
  generalize countR l p limit = r at hcn hok ⊢
  obtain ⟨n, nx, e⟩ := r
  have HC := Lib.hid hcn
  clear hcn hp1 hp2
  dsimp only
  by_cases he : e = 0
  · subst he
    obtain ⟨k, j, m, q1, rfl, rfl, q2, q3, q4, hkj, hm, q5⟩ := hok n nx rfl
    clear hok q1 q2 q3 q4 q5
    rw [if_neg (by simp)]
    by_cases h0 : (l.length : Int) - ((k + j : Nat) : Int) < (m : Int)
    · rw [if_pos h0]
      clear hsl
      generalize k + j = s at *
      go_enter Try.func51, Try.ntmps51
      go_wp2_with fail
      refine HC.out.mono ?_
      rintro e w' ⟨rfl, rfl⟩
      unfold tri
      go_wp2
      go_ret3
      exact ⟨rfl, rfl⟩
    · rw [if_neg h0]
      generalize k + j = s at *
      obtain ⟨A2, hs, hcl⟩ := slice_lh A c l s (s + m) (by omega) (by omega) hc
      have hcv := conv_str (hcl w B hsl) (c - s)
      have hs' := hs w
      rw [Int.natCast_add] at hs'
      rw [Int.toNat_natCast, Int.toNat_natCast]
      rw [show s + m - s = m by omega] at hs' hcv
      generalize (l.drop s).take m = T at hs' hcv ⊢
      clear hs hcl hsl
      go_enter Try.func51, Try.ntmps51
      go_wp2_with fail
      refine HC.out.mono ?_
      rintro e w' ⟨rfl, rfl⟩
      unfold tri
      go_wp2
      go_ret3
      exact ⟨rfl, rfl⟩
  · rw [if_pos he]
    have hb : (e != 0) = true := by simp [he]
    clear he hok hsl
    go_enter Try.func51, Try.ntmps51
    go_wp2_with fail
    refine HC.out.mono ?_
    rintro e w' ⟨rfl, rfl⟩
    unfold tri
    go_wp2
    go_ret3
    exact ⟨rfl, rfl⟩

end Go.Proofs.Ytbmeimpfehjnfaa
