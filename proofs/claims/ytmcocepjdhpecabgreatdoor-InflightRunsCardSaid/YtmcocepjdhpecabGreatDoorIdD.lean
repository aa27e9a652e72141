/-
  What the specification's Take of the pools answers. Conditions: the pool reads as data, its last identifier is one or 0, few elements.
-/
import Derived.Test.YtmcocepjdhpecabGreatDoorIdC
namespace Go.Proofs.YtmcocepjdhpecabGreatDoor.S2
open Go.RowKit

def tkR (X : List Int) (L : Int) : Int × List Int × Int × Int := if 32 ≤ X.length then (0, [], 0, 6) else (tkI X L, insI X (tkI X L), tkI X L, 0)
/-- an identifier, a pool and a code that a call answers -/
def RetTk (A0 : Option Addr) (X0 : List Int) (r : Int × List Int × Int × Int) (W : World) (e : Ending) (w' : World) : Prop :=
  ∃ A c, e = .returned (.tuple #[.int .i64 r.1, pv A c r.2.1 r.2.2.1, .int .i64 r.2.2.2]) ∧ r.2.1.length ≤ c ∧ IL w' w'.heap.size A r.2.1 ∧ Fr W A0 X0 A r.2.1 ∧ Below W.heap.size W w'
theorem tkF_succ (k : Nat) (X : List Int) (n : Int) : tkF (k + 1) X n = if n ∈ X then tkF k X (aft n) else n := rfl
theorem below_set2 {B : Nat} {w0 w : World} (h : Below B w0 w) {b : Nat} (hb : B ≤ b) (u v : Value) : Below B w0 ((w.setCell ⟨b, 0, none⟩ u).setCell ⟨b, 1, none⟩ v) := (h.setCell (p := ⟨b, 0, none⟩) hb u).setCell (p := ⟨b, 1, none⟩) hb v

set_option maxRecDepth 20000 in
set_option maxHeartbeats 4000000 in
theorem rTake_any (A : Option Addr) (c : Nat) (X : List Int) (L : Int) (w : World) (hsl : IL w w.heap.size A X) (hc : X.length ≤ c) (hX : X.length ≤ 1000000) (hL0 : 0 ≤ L) (hL1 : L ≤ 65535) :
    Calls Tryz.prog 26 #[pv A c X L] w (RetTk A X (tkR X L) w) := by
  unfold tkR
  by_cases h32 : 32 ≤ X.length
  · rw [if_pos h32]
    have hd : decide ((32 : Int) ≤ (X.length : Int)) = true := decide_eq_true (by omega)
    clear hsl h32 hL0 hL1
    obtain ⟨W0, hW0⟩ : ∃ W0, W0 = (w.alloc (.cells #[.slice A X.length c, .int .i64 L] 26)).alloc (.cells #[.slice none 0 0, .int .i64 0] 26) := ⟨_, rfl⟩
    have H0 := Lib.hid (two_laid (v1 := [.slice A X.length c, .int .i64 L]) (v2 := [.slice none 0 0, .int .i64 0]) hW0)
    go_enter Tryz.func26, Tryz.ntmps26
    go_wp2
    exact bodyPost_ret (v := .tuple #[.int .i64 0, pv none 0 [] 0, .int .i64 6]) (by simp [results, Tryz.results26, go_sem]) rfl ⟨none, 0, rfl, Nat.le_refl _, CL.nil _ _ _, .inl rfl, stepB ((Below.refl _ _).alloc (Nat.le_refl _) _) ((Below.refl _ _).alloc (Nat.le_refl _) _)⟩
  rw [if_neg h32]
  have hd : decide ((32 : Int) ≤ (X.length : Int)) = false := decide_eq_false (by omega)
  have HS := Lib.hid hsl
  obtain ⟨R, hR⟩ : ∃ R, tkI X L = R := ⟨_, rfl⟩
  rw [hR]
  have HR : Hid (tkF 32 X (aft L) = R) := Lib.hid hR
  have har := aft_range hL0 hL1
  have HA := Lib.hid (fun w => rAfter_any L hL0 hL1 w)
  have HAF := Lib.hid (fun n w (h : 1 ≤ n ∧ n ≤ 65535) => rAfter_any n (by omega) h.2 w)
  have HHas := Lib.hid (fun n w hs => rHas_any A c X L n w hs (by omega))
  have HW := Lib.hid (fun n w hs => rWith_any A c X n w hs hc hX)
  have HAR := Lib.hid har
  clear hR hsl h32 hL0 hL1 har hc
  generalize aft L = s0 at HR HA HAR
  go_enter Tryz.func26, Tryz.ntmps26
  go_upto_region 1 with fail
  obtain ⟨W0, hW0⟩ : ∃ W0, W0 = (w.alloc (.cells #[.slice A X.length c, .int .i64 L] 26)).alloc (.cells #[.slice none 0 0, .int .i64 0] 26) := ⟨_, rfl⟩
  rw [← hW0]
  have H0 := Lib.hid (two_laid (v1 := [.slice A X.length c, .int .i64 L]) (v2 := [.slice none 0 0, .int .i64 0]) hW0)
  have d0 := H0.out.1.cell 0 rfl
  have d1 := H0.out.1.cell 1 rfl
  clear hW0
  go_wp2_with fail
  refine (HA.out _).mono ?_
  rintro e w' ⟨rfl, rfl⟩
  clear HA
  go_wp2_with fail
  clear d0 d1
  go_loopg [5, 6] 32 (fun g u5 v wr => ∃ (k : Nat) (n : Int), k + g = 32 ∧ v = .int .i64 k ∧ u5 = .int .i64 n ∧ 1 ≤ n ∧ n ≤ 65535 ∧ tkF g X n = R ∧ Below W0.heap.size W0 wr)
  case atStart => exact ⟨0, s0, by omega, rfl, rfl, HAR.out.1, HAR.out.2, HR.out, Below.refl _ _⟩
  case round =>
    obtain ⟨k, n, hkg, rfl, rfl, hn1, hn2, hrel, hb0⟩ := hrel
    obtain ⟨t1, t2, hs0, hB0⟩ := H0.out
    have hb1 : Below w.heap.size w wr := stepB hB0 hb0
    have t1' := t1.step hb0
    have t2' := t2.step hb0
    have d0 := t1'.cell 0 rfl
    have d1 := t1'.cell 1 rfl
    have HB0 := Lib.hid hb0
    have HB1 := Lib.hid hb1
    have HG := Lib.hid hkg
    have HN := Lib.hid (And.intro hn1 hn2)
    have HREL := Lib.hid hrel
    have HT1 := Lib.hid t1'
    have HT2 := Lib.hid t2'
    have HSX := Lib.hid (HS.out.step hb1)
    have hgt : w.heap.size + 1 < wr.heap.size := t2'.lt
    clear hB0 t1 t2 hs0 hrel t1' t2' hb0 hb1
    cases gk with
    | zero =>
      obtain rfl : k = 32 := by omega
      have HF : Hid (n = R) := Lib.hid HREL.out
      clear hkg hn1 hn2
      go_wp2_with fail
      refine (HW.out _ _ HSX.out).mono ?_
      rintro e w2 ⟨v2, rfl, hown2, hb2⟩
      obtain ⟨A2, c2, hv, hc2, hsl2, hfr2⟩ := hown2.retB
      subst hv
      have t2 := HT2.out.step hb2
      have d2 := t2.cell 0 rfl
      have d3 := t2.cell 1 rfl
      have f2 := t2.free 0
      have f3 := t2.free 1
      have hls := t2.lt
      have HB3 := Lib.hid (stepB HB1.out hb2)
      have HSL := Lib.hid hsl2
      have HC2 := Lib.hid hc2
      have HFR := Lib.hid hfr2
      clear hb2 hown2 hsl2 hc2 t2 hfr2
      go_wp2_with fail
      rw [← HF.out]
      exact bodyPost_ret (v := .tuple #[.int .i64 n, pv A2 c2 (insI X n) n, .int .i64 0]) (by simp [results, Tryz.results26, go_sem, d2, d3]) rfl ⟨A2, c2, rfl, HC2.out, HSL.out _ (by simp) (fun p hp => by rw [set_other _ _ _ _ _ (by omega), set_other _ _ _ _ _ (by omega)]), .inr (.inr (fun b o e => by have := HFR.out b o e; omega)), below_set2 HB3.out (b := w.heap.size + 1) (Nat.le_succ _) _ _⟩
    | succ g =>
      have e3 : decide ((k : Int) < 32) = true := decide_eq_true (by omega)
      by_cases hm : n ∈ X
      · have HF : Hid (tkF g X (aft n) = R) := Lib.hid (by have := HREL.out; rw [tkF_succ, if_pos hm] at this; exact this)
        have hhas := HHas.out n wr HSX.out
        rw [decide_eq_true hm] at hhas
        have HH := Lib.hid hhas
        have HR2 := Lib.hid (aft_range (n := n) (by omega) hn2)
        have HA2 := Lib.hid (fun w => HAF.out n w HN.out)
        clear hm hhas hkg hn1 hn2
        generalize aft n = n2 at HF HR2 HA2
        go_wp2_with fail
        refine HH.out.mono ?_
        rintro e w2 ⟨rfl, hb2⟩
        have HB2 := Lib.hid hb2
        clear hb2
        go_wp2_with fail
        refine (HA2.out _).mono ?_
        rintro e w3 ⟨rfl, rfl⟩
        go_wp2_with fail
        go_roundg g
        case measure => omega
        case rel => exact ⟨k + 1, n2, by have := HG.out; omega, nxt k (by have := HG.out; omega), rfl, HR2.out.1, HR2.out.2, HF.out, stepB HB0.out HB2.out⟩
      · have HF : Hid (n = R) := Lib.hid (by have := HREL.out; rw [tkF_succ, if_neg hm] at this; exact this)
        have hhas := HHas.out n wr HSX.out
        rw [decide_eq_false hm] at hhas
        have HH := Lib.hid hhas
        clear hm hhas hkg hn1 hn2
        go_wp2_with fail
        refine HH.out.mono ?_
        rintro e w1 ⟨rfl, hb1⟩
        have d0' := (hb1.cell (p := ⟨w.heap.size, 0, none⟩) (by show w.heap.size < _; omega)).trans d0
        have d1' := (hb1.cell (p := ⟨w.heap.size, 1, none⟩) (by show w.heap.size < _; omega)).trans d1
        have HT2' := Lib.hid (HT2.out.step hb1)
        have hgt1 := HT2'.out.lt
        have HSX' := Lib.hid (HSX.out.step hb1)
        have HB1' := Lib.hid (stepB HB1.out hb1)
        clear hb1 d0 d1 hgt HT2 HSX HB1 HB0 HT1
        go_wp2_with fail
        refine (HW.out _ _ HSX'.out).mono ?_
        rintro e w2 ⟨v2, rfl, hown2, hb2⟩
        obtain ⟨A2, c2, hv, hc2, hsl2, hfr2⟩ := hown2.retB
        subst hv
        have t2 := HT2'.out.step hb2
        have d2 := t2.cell 0 rfl
        have d3 := t2.cell 1 rfl
        have f2 := t2.free 0
        have f3 := t2.free 1
        have hls := t2.lt
        have HB3 := Lib.hid (stepB HB1'.out hb2)
        have HSL := Lib.hid hsl2
        have HC2 := Lib.hid hc2
        have HFR := Lib.hid hfr2
        clear hb2 hown2 hsl2 hc2 t2 hfr2
        go_wp2_with fail
        rw [← HF.out]
        exact bodyPost_ret (v := .tuple #[.int .i64 n, pv A2 c2 (insI X n) n, .int .i64 0]) (by simp [results, Tryz.results26, go_sem, d2, d3]) rfl ⟨A2, c2, rfl, HC2.out, HSL.out _ (by simp) (fun p hp => by rw [set_other _ _ _ _ _ (by omega), set_other _ _ _ _ _ (by omega)]), .inr (.inr (fun b o e => by have := HFR.out b o e; omega)), below_set2 HB3.out (b := w.heap.size + 1) (Nat.le_succ _) _ _⟩
end Go.Proofs.YtmcocepjdhpecabGreatDoor.S2
