/-
  The walk of FrameDamaged: it answers true. Conditions: the list reads as data; the numbers fit their kinds.
-/
import Derived.Test.YtijdfadmmloclabBack
import Derived.Test.YtijdfadmmloclabAwake4
namespace Go.Proofs.Ytijdfadmmloclab
open Go.RowKit

theorem xor_u8 (x y : UInt8) : bits .xor .u8 (x.toNat : Int) (y.toNat : Int) = ((x ^^^ y).toNat : Int) := by
  have hx := x.toNat_lt
  have hy := y.toNat_lt
  have h1 : (BitVec.ofInt 8 (x.toNat : Int)).toNat = x.toNat := by rw [BitVec.toNat_ofInt]; omega
  have h2 : (BitVec.ofInt 8 (y.toNat : Int)).toNat = y.toNat := by rw [BitVec.toNat_ofInt]; omega
  have h3 : x.toNat ^^^ y.toNat < 256 := Nat.xor_lt_two_pow (n := 8) hx hy
  show IntKind.u8.wrap ((BitVec.ofInt 8 (x.toNat : Int) ^^^ BitVec.ofInt 8 (y.toNat : Int)).toNat : Nat) = _
  rw [BitVec.toNat_xor, h1, h2, UInt8.toNat_xor]
  simp [IntKind.wrap, IntKind.bits, IntKind.signed]
  omega
theorem xor_ne (x y : UInt8) (h : y.toNat ≠ 0) : x ^^^ y ≠ x := by
  intro e
  have h1 := congrArg UInt8.toNat e
  rw [UInt8.toNat_xor] at h1
  have h2 : x.toNat ^^^ (x.toNat ^^^ y.toNat) = x.toNat ^^^ x.toNat := by rw [h1]
  rw [← Nat.xor_assoc, Nat.xor_self, Nat.zero_xor] at h2
  exact h h2
/-- a slice of the call's own that is not empty -/
theorem own_form {w : World} {B : Nat} {v : Value} {xs : List UInt8} (h : Own 5 bv w B v xs) (h0 : 0 < xs.length) : ∃ g c, v = .slice (some ⟨g, 0, none⟩) xs.length c ∧ B ≤ g ∧ g < w.heap.size ∧
    (∀ j x, xs[j]? = some x → w.cell? ⟨g, j, none⟩ = some (bv x)) ∧ (∀ j, w.frozen? ⟨g, j, none⟩ = false) ∧
    (∀ j y, Own 5 bv (w.setCell ⟨g, j, none⟩ (bv y)) B v (xs.set j y) ∧ w.grownBy (w.setCell ⟨g, j, none⟩ (bv y)) (some g)) := by
  have h1 := h
  unfold Own at h
  rcases h.2 with ⟨rfl, hn⟩ | ⟨g, cap, cur, rfl, hb, hg, hnc, hcm, hcs, htake⟩
  · omega
  · refine ⟨g, cap, rfl, hb, (Array.getElem?_eq_some_iff.1 hg).1, fun j x hx => ?_, fun j => h.frozenAt j, fun j y => ?_⟩
    · have hj : j < xs.length := (List.getElem?_eq_some_iff.1 hx).1
      rw [h.cellAt j (by omega), List.getElem?_map, hx]; rfl
    · obtain ⟨q1, q2⟩ := h.stored j (bv y)
      refine ⟨?_, q2⟩
      unfold Own
      rw [List.map_set, List.length_set]
      exact q1

set_option maxHeartbeats 2000000 in
theorem frameDamaged_walk (A : Option Addr) (c : Nat) (l : List UInt8) (i : Int) (y : UInt8) (w : World) (hsl : CL bv w w.heap.size A l) (_hc : l.length ≤ c) (hn : l.length ≤ 140737488355328) (hi1 : -9223372036854775808 ≤ i) (hi2 : i ≤ 9223372036854775807) :
    Calls Try.prog 6 #[.slice A l.length c, .int .i64 i, .int .u8 y.toNat] w fun e w' => e = .returned (.bool true) ∧ Below w.heap.size w w' := by
  by_cases h600 : 600 < l.length
  · clear hsl
    go_enter Try.func6, Try.ntmps6
    go_wp2_with fail
    refine (awake4_any _).mono ?_
    rintro e w1 ⟨rfl, hb1⟩
    go_wp2_with fail
    go_ret
    exact ⟨rfl, hb1⟩
  by_cases hi0 : i < 0
  · clear hsl
    go_enter Try.func6, Try.ntmps6
    go_wp2_with fail
    refine (awake4_any _).mono ?_
    rintro e w1 ⟨rfl, hb1⟩
    go_wp2_with fail
    go_ret
    exact ⟨rfl, hb1⟩
  obtain ⟨j, rfl⟩ := Int.eq_ofNat_of_zero_le (by omega : 0 ≤ i)
  by_cases hj4 : l.length + 4 ≤ j
  · clear hsl
    go_enter Try.func6, Try.ntmps6
    go_wp2_with fail
    refine (awake4_any _).mono ?_
    rintro e w1 ⟨rfl, hb1⟩
    go_wp2_with fail
    go_ret
    exact ⟨rfl, hb1⟩
  by_cases hy0 : y.toNat = 0
  · rw [hy0]
    clear hsl
    go_enter Try.func6, Try.ntmps6
    go_wp2_with fail
    refine (awake4_any _).mono ?_
    rintro e w1 ⟨rfl, hb1⟩
    go_wp2_with fail
    go_ret
    exact ⟨rfl, hb1⟩
  have HW := Lib.hid (fun w h => wrap_any A c l w h hn)
  have hwl := wrap_len (p := l) (by omega)
  have hel := enc_len l.length
  have hz := sizeR_in (n := l.length) (by omega)
  have HZ := Lib.hid (fun w => size_any l.length (by omega) (by omega) w)
  rw [hz, ← hwl] at HZ
  obtain ⟨K, hK⟩ : ∃ K, K = (wrapR l).length - 1 - j := ⟨_, rfl⟩
  have hdm := fun x hx => next_damaged (p := l) (by omega) (k := K) (x := x) (y := x ^^^ y) (by omega) hx (xor_ne x y hy0)
  have hyn : ((y.toNat : Int) == 0) = false := by simp; omega
  have hT5 : l.length + 5 ≤ (wrapR l).length := by omega
  have hT6 : (wrapR l).length ≤ 700 := by omega
  have hKl : K < (wrapR l).length := by omega
  have hidx : ((wrapR l).length : Int) - 1 - (j : Int) = (K : Int) := by omega
  generalize wrapR l = T at *
  have HDM := Lib.hid hdm
  have HS := Lib.hid hsl
  clear hwl hel hz hsl hdm hy0 hi1 hi2 hK
  go_enter Try.func6, Try.ntmps6
  go_wp2_with fail
  have hcop := copied HS.out (Nat.le_refl _) (.cells #[] 5)
  refine (HW.out _ (hcop.more (by simp))).mono ?_
  rintro e w2 ⟨v2, rfl, hown2, hb2⟩
  obtain ⟨A2, c2, rfl, _, hsl2⟩ := hown2.ret
  have hb2' := stepB (below_new4 w (.cells #[] 5)) hb2
  have hB2 := hb2'.size
  have hmade := (Own.made (f := bv) (e := 5) w 0 #[] w.heap.size (Nat.le_refl _) (by decide) rfl).step hb2
  clear hown2 hb2 hcop HW
  go_wp2_with (at_builtin; go_must (refine wpList_appB w2 rfl (.tmp 30) (.tmp 32) rfl w.heap.size _ [] T A2 c2 rfl hmade rfl w2.heap.size hsl2 w hb2' hB2 (by simp; omega) ?_); intro v3 w3 hown3 hb3 hB3; rw [List.nil_append] at hown3; obtain ⟨g, c3, rfl, hg, hgl, hcell, hfro, hset⟩ := own_form hown3 (by omega))
  have HSET := Lib.hid hset
  have HCELL := Lib.hid hcell
  clear hset hcell hsl2 hmade hb2'
  refine (HZ.out _).mono ?_
  rintro e w4 ⟨rfl, hb4⟩
  have hdg : Below w.heap.size w w4 := hb3.trans (hb4.mono hB3)
  obtain ⟨x, hx⟩ : ∃ x, T[K]? = some x := ⟨_, List.getElem?_eq_getElem hKl⟩
  have k1 : w4.cell? ⟨g, K, none⟩ = some (.int .u8 x.toNat) := (hb4.cell (p := ⟨g, K, none⟩) hgl).trans (HCELL.out K x hx)
  have k2 : w4.frozen? ⟨g, K, none⟩ = false := (hb4.frozen (p := ⟨g, K, none⟩) hgl).trans (hfro K)
  have hown4 := hown3.step hb4
  have hxy := xor_u8 x y
  have HX := Lib.hid hx
  clear hown3 hfro HCELL HSET hb4 hx HZ
  go_wp2_with fail
  have hz : bv (x ^^^ y) = .int .u8 ((x.toNat ^^^ y.toNat : Nat) : Int) := by unfold bv; rw [UInt8.toNat_xor]
  rw [← hz]
  obtain ⟨q1, q2⟩ := World.ownsRow.stored hown4 K (bv (x ^^^ y))
  have hb5 := hdg.grown q2 hdg.size (fun j hj => by cases hj; exact hg)
  have hB5 := hb5.size
  have hown5 : Own 5 bv (w4.setCell ⟨g, K, none⟩ (bv (x ^^^ y))) w.heap.size (.slice (some ⟨g, 0, none⟩) T.length c3) (T.set K (x ^^^ y)) := by
    unfold Own
    rw [List.map_set, List.length_set]
    exact q1
  generalize w4.setCell ⟨g, K, none⟩ (bv (x ^^^ y)) = w5 at *
  obtain ⟨A5, c5, hv5, hc5, hsl5⟩ := hown5.ret
  have hnx := next_any A5 c5 (T.set K (x ^^^ y)) 0 (by omega) (by omega) w5 hsl5 hc5 (by rw [List.length_set]; omega)
  rw [HDM.out x HX.out, ← hv5] at hnx
  refine hnx.mono ?_
  rintro e w6 ⟨v6, rfl, hown6, hb6⟩
  obtain ⟨A6, c6, rfl, _, _⟩ := hown6.ret
  have hb6' := stepB hb5 hb6
  dsimp only
  clear hnx hsl5 hown6 hown5 hown4 q1 q2 hz k1 k2 hdg hb3 hb5 hb6 HDM hv5
  go_wp2_with fail
  refine (awake4_any _).mono ?_
  rintro e w7 ⟨rfl, hb7⟩
  go_wp2_with fail
  go_ret
  exact ⟨rfl, stepB hb6' hb7⟩

end Go.Proofs.Ytijdfadmmloclab
