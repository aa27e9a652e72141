/-
  What the specification of the pools answers: Left, Has, Ints, after, Check. Conditions: the pool reads as data.
-/
import Derived.Test.YtmcocepjdhpecabGreatDoorIdG
namespace Go.Proofs.YtmcocepjdhpecabGreatDoor.S2
open Go.RowKit

/-- a pool by value -/
abbrev pv (A : Option Addr) (c : Nat) (X : List Int) (L : Int) : Value := .agg #[.slice A X.length c, .int .i64 L]

set_option maxHeartbeats 1000000 in
theorem rAfter_any (n : Int) (h1 : 0 ≤ n) (h2 : n ≤ 65535) (w : World) :
    Calls Tryz.prog 60 #[.int .i64 n] w fun e w' => e = .returned (.int .i64 (aft n)) ∧ w = w' := by
  by_cases h : 65535 ≤ n
  · have e : aft n = 1 := by unfold aft; rw [if_pos h]
    rw [e]
    have hd : decide (65535 ≤ n) = true := decide_eq_true h
    clear e h
    go_enter Tryz.func60, Tryz.ntmps60
    go_wp2
    go_ret
    exact ⟨rfl, rfl⟩
  · have e : aft n = n + 1 := by unfold aft; rw [if_neg h]
    have hw : wrap64 (n + 1) = n + 1 := wrap64_id _ (by omega) (by omega)
    rw [e]
    have hd : decide (65535 ≤ n) = false := decide_eq_false h
    clear e h
    go_enter Tryz.func60, Tryz.ntmps60
    go_wp2
    go_ret
    exact ⟨ret_i (by first | rfl | exact hw), rfl⟩

set_option maxRecDepth 20000 in
set_option maxHeartbeats 2000000 in
theorem rHas_any (A : Option Addr) (c : Nat) (X : List Int) (L n : Int) (w : World) (hsl : IL w w.heap.size A X) (hX : X.length ≤ 9223372036854775807) :
    Calls Tryz.prog 61 #[pv A c X L, .int .i64 n] w fun e w' => e = .returned (.bool (decide (n ∈ X))) ∧ Below w.heap.size w w' := by
  have HS := Lib.hid hsl
  obtain ⟨R, hR⟩ : ∃ R, decide (n ∈ X) = R := ⟨_, rfl⟩
  rw [hR]
  have HR := Lib.hid hR
  clear hsl hR
  go_enter Tryz.func61, Tryz.ntmps61
  go_wp2
  go_loopg [5] X.length (fun g v wr => ∃ k : Nat, k + g = X.length ∧ v = .int .i64 k ∧ R = decide (n ∈ X.drop k) ∧ wr = w.alloc (.cells #[.slice A X.length c, .int .i64 L] 26))
  case atStart => exact ⟨0, by omega, rfl, by rw [List.drop_zero]; exact HR.out.symm, rfl⟩
  case round =>
    obtain ⟨k, hkg, rfl, hrel, rfl⟩ := hrel
    have HREL := Lib.hid hrel
    have HG := Lib.hid hkg
    clear hrel HR
    cases gk with
    | zero =>
      obtain rfl : k = X.length := by omega
      have HF : Hid (R = false) := Lib.hid (by rw [HREL.out]; simp)
      clear hkg
      go_wp2
      go_ret
      exact ⟨retb HF.out.symm, (Below.refl _ _).alloc (Nat.le_refl _) _⟩
    | succ g =>
      have hlt : k < X.length := by omega
      have e3 : decide ((k : Int) < (X.length : Int)) = true := decide_eq_true (by omega)
      obtain ⟨x, hx⟩ : ∃ x, X[k]? = some x := ⟨_, List.getElem?_eq_getElem hlt⟩
      obtain ⟨b, o, hA, hbB, kv⟩ := IL.at_ HS.out hx
      have kv2 : (w.alloc (.cells #[.slice A X.length c, .int .i64 L] 26)).cell? ⟨b, o + k, none⟩ = some (.int .i64 x) := by rw [((Below.refl w.heap.size w).alloc (Nat.le_refl _) _).cell hbB]; exact kv
      subst hA
      have j1 : (0 : Int) ≤ (k : Int) := by omega
      have j2 : (k : Int) < (X.length : Int) := by omega
      have HD := Lib.hid (dropI hx)
      clear hx hkg kv hlt hbB
      by_cases hxn : x = n
      · have hb : (x == n) = true := by simp [hxn]
        have HF : Hid (R = true) := Lib.hid (by rw [HREL.out, HD.out, hxn]; simp)
        clear hxn
        go_wp2
        go_ret
        exact ⟨retb HF.out.symm, (Below.refl _ _).alloc (Nat.le_refl _) _⟩
      · have hb : (x == n) = false := by simp [hxn]
        have HF : Hid (R = decide (n ∈ X.drop (k + 1))) := Lib.hid (by
          rw [HREL.out, HD.out]
          have : n ≠ x := fun e => hxn e.symm
          simp [this])
        clear hxn
        go_wp2
        go_roundg g
        case measure => omega
        case rel => exact ⟨k + 1, by have := HG.out; omega, rfl, HF.out, rfl⟩

theorem ints_none {X Y : List Int} (h : X.length ≠ Y.length) : decide (X = Y) = false := decide_eq_false (fun e => h (by rw [e]))
set_option maxRecDepth 20000 in
set_option maxHeartbeats 2000000 in
theorem rInts_any (A A' : Option Addr) (c c' : Nat) (X Y : List Int) (w : World) (hs : IL w w.heap.size A X) (ht : IL w w.heap.size A' Y) (hX : X.length ≤ 9223372036854775807) (_hY : Y.length ≤ 9223372036854775807) :
    Calls Tryz.prog 45 #[.slice A X.length c, .slice A' Y.length c'] w fun e w' => e = .returned (.bool (decide (X = Y))) ∧ Below w.heap.size w w' := by
  by_cases hl : X.length = Y.length
  · have HS := Lib.hid hs
    have HT := Lib.hid ht
    obtain ⟨R, hR⟩ : ∃ R, decide (X = Y) = R := ⟨_, rfl⟩
    rw [hR]
    have HR := Lib.hid hR
    have HL := Lib.hid hl
    have hb : ((X.length : Int) != (Y.length : Int)) = false := by simp [hl]
    clear hs ht hR hl
    go_enter Tryz.func45, Tryz.ntmps45
    go_wp2
    go_loopg [5] X.length (fun g v wr => ∃ k : Nat, k + g = X.length ∧ v = .int .i64 k ∧ R = decide (X.drop k = Y.drop k) ∧ Below w.heap.size w wr)
    case atStart => exact ⟨0, by omega, rfl, by rw [List.drop_zero, List.drop_zero]; exact HR.out.symm, Below.refl _ _⟩
    case round =>
      obtain ⟨k, hkg, rfl, hrel, hb0⟩ := hrel
      have HB := Lib.hid hb0
      have HREL := Lib.hid hrel
      have HG := Lib.hid hkg
      clear hrel HR
      cases gk with
      | zero =>
        obtain rfl : k = X.length := by omega
        have HF : Hid (R = true) := Lib.hid (by rw [HREL.out, List.drop_length, HL.out, List.drop_length]; simp)
        clear hkg
        go_wp2
        go_ret
        exact ⟨retb HF.out.symm, HB.out⟩
      | succ g =>
        have hlt : k < X.length := by omega
        have e3 : decide ((k : Int) < (X.length : Int)) = true := decide_eq_true (by omega)
        have hlt2 : k < Y.length := by have := HL.out; omega
        obtain ⟨x, hx⟩ : ∃ x, X[k]? = some x := ⟨_, List.getElem?_eq_getElem hlt⟩
        obtain ⟨y, hy⟩ : ∃ y, Y[k]? = some y := ⟨_, List.getElem?_eq_getElem hlt2⟩
        obtain ⟨b, o, hA, hbB, kv⟩ := IL.at_ (HS.out.step hb0) hx
        obtain ⟨b', o', hA', hbB', kv'⟩ := IL.at_ (HT.out.step hb0) hy
        subst hA
        subst hA'
        have j1 : (0 : Int) ≤ (k : Int) := by omega
        have j2 : (k : Int) < (X.length : Int) := by omega
        have j3 : (k : Int) < (Y.length : Int) := by omega
        have HD := Lib.hid (dropI hx)
        have HD2 := Lib.hid (dropI hy)
        clear hx hy hkg hlt hlt2 hbB hbB' hb0
        by_cases hxy : x = y
        · have hb : (x != y) = false := by simp [hxy]
          have HF : Hid (R = decide (X.drop (k + 1) = Y.drop (k + 1))) := Lib.hid (by
            rw [HREL.out, HD.out, HD2.out, hxy]
            simp)
          clear hxy
          go_wp2
          go_quiet (fail)
          go_wp2
          go_roundg g
          case measure => omega
          case rel => exact ⟨k + 1, by have := HG.out; omega, rfl, HF.out, stepB HB.out (bDN _ _)⟩
        · have hb : (x != y) = true := by simp [hxy]
          have HF : Hid (R = false) := Lib.hid (by
            rw [HREL.out, HD.out, HD2.out]
            simp [hxy])
          clear hxy
          go_wp2
          go_quiet (fail)
          go_wp2
          go_ret
          exact ⟨retb HF.out.symm, stepB HB.out (bDN _ _)⟩
  · rw [ints_none hl]
    have hb : ((X.length : Int) != (Y.length : Int)) = true := by simp; omega
    clear hs ht hl
    go_enter Tryz.func45, Tryz.ntmps45
    go_wp2
    go_ret
    exact ⟨rfl, Below.refl _ _⟩

theorem same_dec (X Y : List Int) (L M : Int) : decide ((X, L) = (Y, M)) = (L == M && decide (X = Y)) := by
  by_cases h1 : X = Y <;> by_cases h2 : L = M <;> simp [h1, h2]
set_option maxHeartbeats 2000000 in
theorem rSame_any (A A' : Option Addr) (c c' : Nat) (X Y : List Int) (L M : Int) (w : World) (hs : IL w w.heap.size A X) (ht : IL w w.heap.size A' Y) (hX : X.length ≤ 9223372036854775807) (hY : Y.length ≤ 9223372036854775807) :
    Calls Tryz.prog 16 #[pv A c X L, pv A' c' Y M] w fun e w' => e = .returned (.bool (decide ((X, L) = (Y, M)))) ∧ Below w.heap.size w w' := by
  rw [same_dec]
  by_cases h : L = M
  · have hb : (L == M) = true := by simp [h]
    have HC := Lib.hid (fun w hs ht => rInts_any A A' c c' X Y w hs ht hX hY)
    have HS := Lib.hid hs
    have HT := Lib.hid ht
    rw [hb, Bool.true_and]
    generalize decide (X = Y) = R at HC ⊢
    clear hs ht h
    go_enter Tryz.func16, Tryz.ntmps16
    go_wp2_with (go_at_call 45; refine (HC.out _ ((HS.out.step ((Below.refl _ _).alloc (Nat.le_refl _) _)).step ((Below.refl _ _).alloc (Nat.le_refl _) _)) ((HT.out.step ((Below.refl _ _).alloc (Nat.le_refl _) _)).step ((Below.refl _ _).alloc (Nat.le_refl _) _))).mono ?_; rintro e w' ⟨rfl, hb1⟩)
    go_ret
    exact ⟨rfl, stepB (stepB ((Below.refl _ _).alloc (Nat.le_refl _) _) ((Below.refl _ _).alloc (Nat.le_refl _) _)) hb1⟩
  · have hb : (L == M) = false := by simp [h]
    rw [hb, Bool.false_and]
    clear hs ht h
    go_enter Tryz.func16, Tryz.ntmps16
    go_wp2
    go_ret
    exact ⟨rfl, stepB ((Below.refl _ _).alloc (Nat.le_refl _) _) ((Below.refl _ _).alloc (Nat.le_refl _) _)⟩

end Go.Proofs.YtmcocepjdhpecabGreatDoor.S2
