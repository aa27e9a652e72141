/-
  What the specification of the pools answers: Left, Has, Ints, after, Check. Conditions: the pool reads as data.
-/
import Derived.Test.YtoakhkiiefiebaaDoorIdG
namespace Go.Proofs.YtoakhkiiefiebaaDoor.S2
open Go.RowKit

/-- a pool by value -/
abbrev pv (A : Option Addr) (c : Nat) (X : List Int) (L : Int) : Value := .agg #[.slice A X.length c, .int .i64 L]

theorem ints_none {X Y : List Int} (h : X.length ≠ Y.length) : decide (X = Y) = false := decide_eq_false (fun e => h (by rw [e]))
set_option maxRecDepth 20000 in
set_option maxHeartbeats 2000000 in
theorem rInts_any (A A' : Option Addr) (c c' : Nat) (X Y : List Int) (w : World) (hs : IL w w.heap.size A X) (ht : IL w w.heap.size A' Y) (hX : X.length ≤ 9223372036854775807) (_hY : Y.length ≤ 9223372036854775807) :
    Calls Tryd.prog 21 #[.slice A X.length c, .slice A' Y.length c'] w fun e w' => e = .returned (.bool (decide (X = Y))) ∧ Below w.heap.size w w' := by
  by_cases hl : X.length = Y.length
  · have HS := Lib.hid hs
    have HT := Lib.hid ht
    obtain ⟨R, hR⟩ : ∃ R, decide (X = Y) = R := ⟨_, rfl⟩
    rw [hR]
    have HR := Lib.hid hR
    have HL := Lib.hid hl
    have hb : ((X.length : Int) != (Y.length : Int)) = false := by simp [hl]
    clear hs ht hR hl
    go_enter Tryd.func21, Tryd.ntmps21
    go_wp2
    go_loopg [5] X.length (fun g v wr => ∃ k : Nat, k + g = X.length ∧ v = .int .i64 k ∧ R = decide (X.drop k = Y.drop k) ∧ Below w.heap.size w wr)
    case atStart => exact ⟨0, by omega, rfl, by rw [List.drop_zero, List.drop_zero]; exact HR.out.symm, Below.refl _ _⟩
    case round =>
      obtain ⟨k, hkg, rfl, hrel, hb0⟩ := hrel
      have HB := Lib.hid hb0
      have HREL := Lib.hid hrel
      have HG := Lib.hid hkg
      clear hrel HR
      cases gk with
      | zero =>
        obtain rfl : k = X.length := by omega
        have HF : Hid (R = true) := Lib.hid (by rw [HREL.out, List.drop_length, HL.out, List.drop_length]; simp)
        clear hkg
        go_wp2
        go_ret
        exact ⟨retb HF.out.symm, HB.out⟩
      | succ g =>
        have hlt : k < X.length := by omega
        have e3 : decide ((k : Int) < (X.length : Int)) = true := decide_eq_true (by omega)
        have hlt2 : k < Y.length := by have := HL.out; omega
        obtain ⟨x, hx⟩ : ∃ x, X[k]? = some x := ⟨_, List.getElem?_eq_getElem hlt⟩
        obtain ⟨y, hy⟩ : ∃ y, Y[k]? = some y := ⟨_, List.getElem?_eq_getElem hlt2⟩
        obtain ⟨b, o, hA, hbB, kv⟩ := IL.at_ (HS.out.step hb0) hx
        obtain ⟨b', o', hA', hbB', kv'⟩ := IL.at_ (HT.out.step hb0) hy
        subst hA
        subst hA'
        have j1 : (0 : Int) ≤ (k : Int) := by omega
        have j2 : (k : Int) < (X.length : Int) := by omega
        have j3 : (k : Int) < (Y.length : Int) := by omega
        have HD := Lib.hid (dropI hx)
        have HD2 := Lib.hid (dropI hy)
        clear hx hy hkg hlt hlt2 hbB hbB' hb0
        by_cases hxy : x = y
        · have hb : (x != y) = false := by simp [hxy]
          have HF : Hid (R = decide (X.drop (k + 1) = Y.drop (k + 1))) := Lib.hid (by
            rw [HREL.out, HD.out, HD2.out, hxy]
            simp)
          clear hxy
          go_wp2
          go_quiet (fail)
          go_wp2
          go_roundg g
          case measure => omega
          case rel => exact ⟨k + 1, by have := HG.out; omega, rfl, HF.out, stepB HB.out (bDN _ _)⟩
        · have hb : (x != y) = true := by simp [hxy]
          have HF : Hid (R = false) := Lib.hid (by
            rw [HREL.out, HD.out, HD2.out]
            simp [hxy])
          clear hxy
          go_wp2
          go_quiet (fail)
          go_wp2
          go_ret
          exact ⟨retb HF.out.symm, stepB HB.out (bDN _ _)⟩
  · rw [ints_none hl]
    have hb : ((X.length : Int) != (Y.length : Int)) = true := by simp; omega
    clear hs ht hl
    go_enter Tryd.func21, Tryd.ntmps21
    go_wp2
    go_ret
    exact ⟨rfl, Below.refl _ _⟩

theorem same_dec (X Y : List Int) (L M : Int) : decide ((X, L) = (Y, M)) = (L == M && decide (X = Y)) := by
  by_cases h1 : X = Y <;> by_cases h2 : L = M <;> simp [h1, h2]
end Go.Proofs.YtoakhkiiefiebaaDoor.S2
