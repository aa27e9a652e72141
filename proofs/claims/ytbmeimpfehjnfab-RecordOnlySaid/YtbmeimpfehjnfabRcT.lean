/-
  What small and head of the statements about records answer. Conditions: texts fit an int; the bytes begin with an encoded number.
-/
import Derived.Test.YtbmeimpfehjnfabRcB
namespace Go.Proofs.Ytbmeimpfehjnfab
open Go.RowKit

theorem encF_more : ∀ (f c : Nat), c < 128 ^ (f + 1) → (∀ i, i + 1 < (encF f c).length → ∃ x, (encF f c)[i]? = some x ∧ 128 ≤ x.toNat) ∧ ∃ x, (encF f c)[(encF f c).length - 1]? = some x ∧ x.toNat < 128
  | 0, c, h => by
    simp only [encF, List.length_singleton]
    refine ⟨fun i hi => by omega, UInt8.ofNat c, rfl, ?_⟩
    rw [UInt8.toNat_ofNat']
    omega
  | f + 1, c, h => by
    by_cases hc : c < 128
    · rw [encF_small _ _ hc]
      simp only [List.length_singleton]
      refine ⟨fun i hi => by omega, UInt8.ofNat c, rfl, ?_⟩
      rw [UInt8.toNat_ofNat']
      omega
    · rw [encF_big _ _ hc]
      obtain ⟨h1, y, h2, h3⟩ := encF_more f (c / 128) (div_lt128 h)
      have hl := (encF_len f (c / 128)).1
      constructor
      · intro i hi
        cases i with
        | zero => exact ⟨_, rfl, by rw [UInt8.toNat_ofNat']; omega⟩
        | succ i => rw [List.getElem?_cons_succ]; exact h1 i (by simp only [List.length_cons] at hi; omega)
      · refine ⟨y, ?_, h3⟩
        rw [List.length_cons, show (encF f (c / 128)).length + 1 - 1 = ((encF f (c / 128)).length - 1) + 1 by omega, List.getElem?_cons_succ]
        exact h2
theorem enc_more {n : Int} (h1 : -9223372036854775808 ≤ n) (h2 : n ≤ 9223372036854775807) : (∀ i, i + 1 < (enc n).length → ∃ x, (enc n)[i]? = some x ∧ 128 ≤ x.toNat) ∧ ∃ x, (enc n)[(enc n).length - 1]? = some x ∧ x.toNat < 128 :=
  encF_more 9 _ (Nat.lt_trans (cd_lt h1 h2) (by decide))
/-- the bytes begin with a number of J bytes -/
def Hd (l : List UInt8) (J : Nat) : Prop := 1 ≤ J ∧ J ≤ l.length ∧ (∀ i, i + 1 < J → ∃ x, l[i]? = some x ∧ 128 ≤ x.toNat) ∧ ∃ y, l[J - 1]? = some y ∧ y.toNat < 128
theorem Hd.enc {n : Int} (h1 : -9223372036854775808 ≤ n) (h2 : n ≤ 9223372036854775807) (r : List UInt8) : Hd (enc n ++ r) (enc n).length := by
  have hl := (enc_len n).1
  obtain ⟨h3, y, h4, h5⟩ := enc_more h1 h2
  refine ⟨hl, by rw [List.length_append]; omega, fun i hi => ?_, y, ?_, h5⟩
  · rw [List.getElem?_append_left (by omega)]; exact h3 i hi
  · rw [List.getElem?_append_left (by omega)]; exact h4

set_option maxHeartbeats 2000000 in
theorem rSmall_any (r : Rc) (w : World) (hz : r.key.size ≤ 9223372036854775807 ∧ r.val.size ≤ 9223372036854775807) :
    Calls Try.prog 9 #[rcV r] w fun e w' => e = .returned (.bool (decide (r.key.size ≤ 5000) && decide (r.val.size ≤ 5000))) ∧ Below w.heap.size w w' := by
  obtain ⟨o, k, s, v⟩ := r
  unfold rcV
  dsimp only at hz ⊢
  obtain ⟨z1, z2⟩ := hz
  by_cases h1 : s.size ≤ 5000
  · rw [decide_eq_true h1, Bool.true_and]
    go_enter Try.func9, Try.ntmps9
    go_wp2_with fail
    go_ret
    refine ⟨?_, (Below.refl _ _).alloc (Nat.le_refl _) _⟩
    rw [show decide (v.size ≤ 5000) = decide ((v.size : Int) ≤ 5000) from decide_eq_decide.2 (by omega)]
    rfl
  · rw [decide_eq_false h1, Bool.false_and]
    go_enter Try.func9, Try.ntmps9
    go_wp2_with fail
    go_ret
    exact ⟨rfl, (Below.refl _ _).alloc (Nat.le_refl _) _⟩

set_option maxRecDepth 20000 in
set_option maxHeartbeats 2000000 in
theorem head_any (A : Option Addr) (c : Nat) (l : List UInt8) (J : Nat) (hJ : Hd l J) (w : World) (B : Nat) (hsl : CL bv w B A l) (hn : l.length ≤ 140737488355328) :
    Calls Try.prog 19 #[.slice A l.length c] w fun e w' => e = .returned (.int .i64 J) ∧ w = w' := by
  obtain ⟨hj1, hj2, hj3, y, hy, hy2⟩ := hJ
  have HM := Lib.hid hj3
  obtain ⟨b, o, rfl, hbB, hcl⟩ := hsl (by omega)
  have HC := Lib.hid hcl
  have HY := Lib.hid hy
  clear hj3 hcl hsl hy
  go_enter Try.func19, Try.ntmps19
  go_wp2
  go_loop [3] (fun n => ∃ k : Nat, n = .int .i64 ((k : Int) + 1) ∧ k + 1 ≤ J) (fun n => J - (intOf n).toNat)
  case atStart => exact ⟨0, rfl, by omega⟩
  case round =>
    obtain ⟨k, rfl, hk⟩ := hrel
    by_cases hkJ : k + 1 < J
    · obtain ⟨x, hx, hx2⟩ := HM.out k hkJ
      have k1 := HC.out k x hx
      unfold bv at k1
      clear hx
      go_wp2
      · exact ⟨⟨k + 1, by simp, by omega⟩, by simp [intOf]; omega⟩
    · obtain rfl : J = k + 1 := by omega
      have k1 := HC.out k y HY.out
      unfold bv at k1
      by_cases hkl : k + 1 < l.length
      · go_wp2
        go_ret
        exact ⟨by simp, rfl⟩
      · go_wp2
        go_ret
        exact ⟨by simp, rfl⟩
end Go.Proofs.Ytbmeimpfehjnfab
