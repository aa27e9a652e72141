/-
  What the specification's Check of the pools answers. Conditions: the pool reads as data.
-/
import Derived.Test.YtoakhkiiefiebabGreatDoorIdB
namespace Go.Proofs.YtoakhkiiefiebabGreatDoor.S2
open Go.RowKit

def prevI (X : List Int) (k : Nat) : Int := if k = 0 then 0 else X.getD (k - 1) 0
theorem prevI_zero (X : List Int) : prevI X 0 = 0 := rfl
theorem prevI_succ {X : List Int} {k : Nat} {x : Int} (hx : X[k]? = some x) : prevI X (k + 1) = x := by
  unfold prevI
  rw [if_neg (by omega), Nat.add_sub_cancel, List.getD_eq_getElem?_getD, hx]
  rfl
theorem upI_cons (a x : Int) (xs : List Int) : upI a (x :: xs) = (decide (a < x) && decide (x ≤ 65535) && upI x xs) := rfl

set_option maxRecDepth 20000 in
set_option maxHeartbeats 4000000 in
theorem rCheck_any (A : Option Addr) (c : Nat) (X : List Int) (L : Int) (w : World) (hsl : IL w w.heap.size A X) (hX : X.length ≤ 9223372036854775807) :
    Calls Tryz.prog 19 #[pv A c X L] w fun e w' => e = .returned (.int .i64 (ckI X L)) ∧ Below w.heap.size w w' := by
  unfold ckI
  by_cases h32 : 32 < X.length
  · rw [if_pos h32]
    have hd : decide ((32 : Int) < (X.length : Int)) = true := decide_eq_true (by omega)
    clear hsl h32
    go_enter Tryz.func19, Tryz.ntmps19
    go_wp2
    go_ret
    exact ⟨rfl, (Below.refl _ _).alloc (Nat.le_refl _) _⟩
  rw [if_neg h32]
  have hd : decide ((32 : Int) < (X.length : Int)) = false := decide_eq_false (by omega)
  have HS := Lib.hid hsl
  obtain ⟨R, hR⟩ : ∃ R, upI 0 X = R := ⟨_, rfl⟩
  rw [hR]
  have HR := Lib.hid hR
  obtain ⟨C, hC⟩ : ∃ C : Int, (if R = true then (if 0 ≤ L ∧ L ≤ 65535 then 0 else 1) else 15) = C := ⟨_, rfl⟩
  rw [hC]
  have HC := Lib.hid hC
  clear hR hsl h32 hC
  go_enter Tryz.func19, Tryz.ntmps19
  go_wp2
  obtain ⟨W0, hW0⟩ : ∃ W0, W0 = w.alloc (.cells #[.slice A X.length c, .int .i64 L] 25) := ⟨_, rfl⟩
  rw [← hW0]
  have hT0 : BK 25 W0 w.heap.size [.slice A X.length c, .int .i64 L] := by rw [hW0]; exact BK.new _ _ _
  have hB0 : Below w.heap.size w W0 := by rw [hW0]; exact (Below.refl _ _).alloc (Nat.le_refl _) _
  have H0 := Lib.hid (And.intro hT0 hB0)
  clear hW0 hT0 hB0
  go_loopg [3] X.length (fun g v wr => ∃ k : Nat, k + g = X.length ∧ v = .int .i64 k ∧ R = upI (prevI X k) (X.drop k) ∧ 0 ≤ prevI X k ∧ Below W0.heap.size W0 wr)
  case atStart => exact ⟨0, by omega, rfl, by rw [List.drop_zero, prevI_zero]; exact HR.out.symm, by rw [prevI_zero]; omega, Below.refl _ _⟩
  case round =>
    obtain ⟨k, hkg, rfl, hrel, hpz, hb0⟩ := hrel
    obtain ⟨t1, hB0⟩ := H0.out
    have hb1 : Below w.heap.size w wr := stepB hB0 hb0
    have t1' := t1.step hb0
    have d0 := t1'.cell 0 rfl
    have d1 := t1'.cell 1 rfl
    have HB0 := Lib.hid hb0
    have HB1 := Lib.hid hb1
    have HG := Lib.hid hkg
    have HREL := Lib.hid hrel
    have HPZ := Lib.hid hpz
    clear hB0 t1 t1' hrel hpz
    cases gk with
    | zero =>
      obtain rfl : k = X.length := by omega
      have HF : Hid (R = true) := Lib.hid (by rw [HREL.out, List.drop_length]; rfl)
      clear hkg hb0 hb1
      by_cases hL0 : L < 0
      · have q1 : decide (L < 0) = true := decide_eq_true hL0
        have HL := Lib.hid hL0
        clear hL0
        go_wp2
        go_ret
        exact ⟨ret_i (by rw [← HC.out, if_pos HF.out, if_neg (by have := HL.out; omega)]), HB1.out⟩
      · have q1 : decide (L < 0) = false := decide_eq_false hL0
        by_cases hL1 : 65535 < L
        · have q2 : decide (65535 < L) = true := decide_eq_true hL1
          have HL := Lib.hid hL1
          clear hL0 hL1
          go_wp2
          go_ret
          exact ⟨ret_i (by rw [← HC.out, if_pos HF.out, if_neg (by have := HL.out; omega)]), HB1.out⟩
        · have q2 : decide (65535 < L) = false := decide_eq_false hL1
          have HL := Lib.hid (And.intro hL0 hL1)
          clear hL0 hL1
          go_wp2
          go_ret
          exact ⟨ret_i (by rw [← HC.out, if_pos HF.out, if_pos (by have := HL.out; omega)]), HB1.out⟩
    | succ g =>
      have hlt : k < X.length := by omega
      have e3 : decide ((k : Int) < (X.length : Int)) = true := decide_eq_true (by omega)
      obtain ⟨x, hx⟩ : ∃ x, X[k]? = some x := ⟨_, List.getElem?_eq_getElem hlt⟩
      obtain ⟨b, o, hA, hbB, kv⟩ := IL.at_ (HS.out.step hb1) hx
      subst hA
      have j1 : (0 : Int) ≤ (k : Int) := by omega
      have j2 : (k : Int) < (X.length : Int) := by omega
      have HX := Lib.hid hx
      have HU : Hid (R = (decide (prevI X k < x) && decide (x ≤ 65535) && upI x (X.drop (k + 1)))) := Lib.hid (by rw [HREL.out, dropI hx, upI_cons])
      have HN : Hid (prevI X (k + 1) = x) := Lib.hid (prevI_succ hx)
      by_cases h1 : x < 1
      · have q1 : decide (x < 1) = true := decide_eq_true h1
        have HF : Hid (R = false) := Lib.hid (by rw [HU.out, decide_eq_false (by have := HPZ.out; omega)]; rfl)
        clear hx hkg hlt hbB hb0 hb1 h1
        go_wp2
        go_quiet (fail)
        go_wp2
        go_ret
        exact ⟨ret_i (by rw [← HC.out, if_neg (by rw [HF.out]; decide)]), stepB HB1.out (bDN _ _)⟩
      have q1 : decide (x < 1) = false := decide_eq_false h1
      by_cases h2 : 65535 < x
      · have q2 : decide (65535 < x) = true := decide_eq_true h2
        have HF : Hid (R = false) := Lib.hid (by rw [HU.out, decide_eq_false (p := x ≤ 65535) (by omega)]; simp)
        clear hx hkg hlt hbB hb0 hb1 h1 h2
        go_wp2
        go_quiet (fail)
        go_wp2
        go_ret
        exact ⟨ret_i (by rw [← HC.out, if_neg (by rw [HF.out]; decide)]), stepB HB1.out (bDN _ _)⟩
      have q2 : decide (65535 < x) = false := decide_eq_false h2
      by_cases hk0 : k = 0
      · have q3 : decide ((0 : Int) < (k : Int)) = false := decide_eq_false (by omega)
        have q3' : decide (0 < k) = false := decide_eq_false (by omega)
        have HF : Hid (R = upI (prevI X (k + 1)) (X.drop (k + 1))) := Lib.hid (by
          have hp : prevI X k = 0 := by rw [hk0]; rfl
          rw [HU.out, HN.out, hp, decide_eq_true (p := (0 : Int) < x) (by omega), decide_eq_true (p := x ≤ 65535) (by omega)]; rfl)
        have HPN : Hid (0 ≤ prevI X (k + 1)) := Lib.hid (by rw [HN.out]; omega)
        clear hx hkg hlt hbB hb0 hb1 h1 h2 hk0
        go_wp2
        go_quiet (fail)
        go_wp2
        go_roundg g
        case measure => omega
        case rel => exact ⟨k + 1, by have := HG.out; omega, rfl, HF.out, HPN.out, stepB HB0.out (bDN _ _)⟩
      · obtain ⟨p, hp⟩ : ∃ p, k = p + 1 := ⟨k - 1, by omega⟩
        have hpl : p < X.length := by omega
        obtain ⟨y, hy⟩ : ∃ y, X[p]? = some y := ⟨_, List.getElem?_eq_getElem hpl⟩
        obtain ⟨b', o', hA', _, kp⟩ := IL.at_ (HS.out.step hb1) hy
        simp only [Option.some.injEq, Addr.mk.injEq, and_true] at hA'
        obtain ⟨rfl, rfl⟩ := hA'
        have HPY : Hid (prevI X k = y) := Lib.hid (by rw [hp]; exact prevI_succ hy)
        have q3 : decide ((0 : Int) < (k : Int)) = true := decide_eq_true (by omega)
        have q3' : decide (0 < k) = true := decide_eq_true (by omega)
        have j3 : wrap64 ((k : Int) - 1) = (p : Int) := by rw [wrap64_id _ (by omega) (by omega)]; omega
        have j3' : (k : Int) - 1 = (p : Int) := by omega
        have j4 : (0 : Int) ≤ (p : Int) := by omega
        have j5 : (p : Int) < (X.length : Int) := by omega
        by_cases h4 : x ≤ y
        · have q4 : decide (x ≤ y) = true := decide_eq_true h4
          have HF : Hid (R = false) := Lib.hid (by rw [HU.out, HPY.out, decide_eq_false (p := y < x) (by omega)]; rfl)
          clear hx hy hp hpl hkg hlt hbB hb0 hb1 h1 h2 hk0 h4
          go_wp2
          go_quiet (fail)
          go_wp2
          go_ret
          exact ⟨ret_i (by rw [← HC.out, if_neg (by rw [HF.out]; decide)]), stepB HB1.out (bDN _ _)⟩
        · have q4 : decide (x ≤ y) = false := decide_eq_false h4
          have HF : Hid (R = upI (prevI X (k + 1)) (X.drop (k + 1))) := Lib.hid (by
            rw [HU.out, HN.out, HPY.out, decide_eq_true (p := y < x) (by omega), decide_eq_true (p := x ≤ 65535) (by omega)]; rfl)
          have HPN : Hid (0 ≤ prevI X (k + 1)) := Lib.hid (by rw [HN.out]; omega)
          clear hx hy hp hpl hkg hlt hbB hb0 hb1 h1 h2 hk0 h4
          go_wp2
          go_quiet (fail)
          go_wp2
          go_roundg g
          case measure => omega
          case rel => exact ⟨k + 1, by have := HG.out; omega, rfl, HF.out, HPN.out, stepB HB0.out (bDN _ _)⟩
end Go.Proofs.YtoakhkiiefiebabGreatDoor.S2
