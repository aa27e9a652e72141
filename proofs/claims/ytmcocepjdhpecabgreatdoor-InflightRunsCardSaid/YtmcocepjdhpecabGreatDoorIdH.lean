/-
  What the program's functions on pools answer. Conditions: the pool is valid; Check: any pool that reads as data.
-/
import Derived.Test.YtmcocepjdhpecabGreatDoorIdD
import Derived.Test.YtmcocepjdhpecabGreatDoorBlk
import Derived.Test.YtmcocepjdhpecabGreatDoorInsI
namespace Go.Proofs.YtmcocepjdhpecabGreatDoor.S2
open Go.RowKit

set_option maxRecDepth 20000 in
set_option maxHeartbeats 2000000 in
theorem iHas_any (A : Option Addr) (c : Nat) (X : List Int) (L n : Int) (w : World) (hsl : IL w w.heap.size A X) (_hc : X.length ≤ c) (hv : ckI X L = 0) (_h1 : -9223372036854775808 ≤ n) (_h2 : n ≤ 9223372036854775807) :
    Calls Tryz.prog 68 #[pv A c X L, .int .i64 n] w fun e w' => e = .returned (.bool (decide (n ∈ X))) ∧ Below w.heap.size w w' := by
  have HC := Lib.hid (searchI_any A c X n 0 _ (CL.step hsl (below_new w (.cells #[.slice A X.length c, .int .i64 L] 26))) (by have := (ck_ok.1 hv).1; omega) (ck_ok.1 hv).2.1)
  generalize decide (n ∈ X) = R at HC ⊢
  generalize posI X n = p at HC
  have hm : X.length ≤ 1000000 := by have := (ck_ok.1 hv).1; omega
  clear hsl hv _hc _h1 _h2
  go_enter Tryz.func68, Tryz.ntmps68
  go_wp2_with fail
  refine HC.out.mono ?_
  rintro e w' ⟨rfl, q, rfl⟩
  go_wp2
  go_ret
  exact ⟨rfl, stepB (below_new w _) (bDN _ _)⟩


/-! ### the next identifier -/
theorem tk_first {X : List Int} {L : Int} {j : Nat} (hX : X.length < 32) (h0 : 0 ≤ L) (h1 : L ≤ 65535) (ha : ∀ i, i < j → elI L (1 + i) ∈ X) (hb : elI L (1 + j) ∉ X) : tkI X L = elI L (1 + j) := by
  have hr := aft_range h0 h1
  obtain ⟨j', hj', e, ha', hb'⟩ := tkF_el X 32 (aft L) hr.1 hr.2
  rw [el_aft h0 h1] at e ha' hb'
  have hb'' : elI L (1 + j') ∉ X := by
    have h32 : j' ≤ X.length := inj_len (f := fun i => elI (elI L 1) i) j' X (fun a b h2 h3 h => el_inj (by omega) (by omega) h) ha'
    have := hb' (by omega)
    rwa [el_el] at this
  have hjj : j = j' := by
    rcases Nat.lt_trichotomy j j' with h | h | h
    · have := ha' j h
      rw [el_el] at this
      exact absurd this hb
    · exact h
    · exact absurd (ha j' h) hb''
  unfold tkI
  rw [el_aft h0 h1, e, el_el, hjj]
theorem el_next {L : Int} {k : Nat} {n : Int} (h : elI n 1 = elI L (1 + k)) : n % 65535 + 1 = elI L (1 + k) := by
  rw [← h]; unfold elI; omega
theorem el_all {X : List Int} {L : Int} {j : Nat} (hj : j ≤ 33) (ha : ∀ i, i < j → elI L (1 + i) ∈ X) : j ≤ X.length := inj_len (f := fun i => elI L (1 + i)) j X (fun a b h2 h3 h => by have := el_inj (n := L) (a := 1 + a) (b := 1 + b) (by omega) (by omega) h; omega) ha

set_option maxRecDepth 20000 in
set_option maxHeartbeats 4000000 in
theorem iNext_any (A : Option Addr) (c : Nat) (X : List Int) (L : Int) (w : World) (hsl : IL w w.heap.size A X) (hc : X.length ≤ c) (hv : ckI X L = 0) (h32 : X.length < 32) :
    Calls Tryz.prog 51 #[pv A c X L] w fun e w' => e = .returned (.int .i64 (tkI X L)) ∧ Below w.heap.size w w' := by
  obtain ⟨_, _, hL0, hL1⟩ := ck_ok.1 hv
  have HHas := Lib.hid (fun n w hs h1 h2 => iHas_any A c X L n w hs hc hv h1 h2)
  have HS := Lib.hid (CL.step hsl (below_new w (.cells #[.slice A X.length c, .int .i64 L] 26)))
  obtain ⟨R, hR⟩ : ∃ R, tkI X L = R := ⟨_, rfl⟩
  rw [hR]
  have HR := Lib.hid hR
  have HL := Lib.hid (And.intro hL0 hL1)
  have HB := Lib.hid (below_new w (.cells #[.slice A X.length c, .int .i64 L] 26))
  have HM : Hid (BK 26 (w.alloc (.cells #[.slice A X.length c, .int .i64 L] 26)) w.heap.size [.slice A X.length c, .int .i64 L]) := Lib.hid (BK.new _ _ _)
  clear hR hsl hv hL0 hL1 hc
  go_enter Tryz.func51, Tryz.ntmps51
  go_wp2_with fail
  obtain ⟨W0, hW0⟩ : ∃ W0, W0 = w.alloc (.cells #[.slice A X.length c, .int .i64 L] 26) := ⟨_, rfl⟩
  rw [← hW0] at HS HB HM ⊢
  clear hW0
  go_loopg [3, 10] (X.length + 1) (fun g u3 v wr => ∃ (k : Nat) (n : Int), k + g = X.length + 1 ∧ v = .int .i64 k ∧ u3 = .int .i64 n ∧ 0 ≤ n ∧ n ≤ 65535 ∧ elI n 1 = elI L (1 + k) ∧ (∀ i, i < k → elI L (1 + i) ∈ X) ∧ Below W0.heap.size W0 wr)
  case atStart => exact ⟨0, L, by omega, rfl, rfl, HL.out.1, HL.out.2, rfl, fun i hi => absurd hi (by omega), Below.refl _ _⟩
  case round =>
    obtain ⟨k, n, hkg, rfl, rfl, hn0, hn1, hel, hall, hb0⟩ := hrel
    cases gk with
    | zero =>
      have := el_all (by omega) hall
      omega
    | succ g =>
      have e3 : decide ((k : Int) < (X.length : Int) + 1) = true := decide_eq_true (by omega)
      have e3' : decide (k < X.length + 1) = true := decide_eq_true (by omega)
      have HN := Lib.hid (el_next hel)
      have HER := Lib.hid (el_range L (1 + k))
      have HM2 := Lib.hid (HM.out.step hb0)
      have d0 := HM2.out.cell 0 rfl
      have d1 := HM2.out.cell 1 rfl
      have HB2 := Lib.hid hb0
      have HH := Lib.hid (HHas.out (elI L (1 + k)) wr (HS.out.step hb0) (by have := HER.out; omega) (by have := HER.out; omega))
      have HG := Lib.hid hkg
      have HALL := Lib.hid hall
      have t1 : n.tmod 65535 = n % 65535 := Int.tmod_eq_emod_of_nonneg hn0
      have t2 : IntKind.i64.wrap (n % 65535 + 1) = n % 65535 + 1 := by rw [IntKind.wrap_i64]; omega
      have t3 : 0 ≤ n % 65535 := by omega
      have t4 : n % 65535 ≤ 65534 := by omega
      by_cases hm : elI L (1 + k) ∈ X
      · rw [decide_eq_true hm] at HH
        have HALL2 := Lib.hid (show ∀ i, i < k + 1 → elI L (1 + i) ∈ X from fun i hi => by
          by_cases hik : i < k
          · exact HALL.out i hik
          · have : i = k := by omega
            subst this; exact hm)
        have HEL2 := Lib.hid (show elI (elI L (1 + k)) 1 = elI L (1 + (k + 1)) by rw [el_el]; rfl)
        have HN2 := HN
        clear hm hkg hel hall hb0 HALL
        generalize elI L (1 + k) = m at HN HER HH HEL2
        go_wp2_with fail
        rw [HN.out]
        clear HN2
        refine HH.out.mono ?_
        rintro e w' ⟨rfl, hb⟩
        have HB3 := Lib.hid (stepB HB2.out hb)
        clear hb
        go_wp2
        go_roundg g
        case measure => omega
        case rel => exact ⟨k + 1, m, by have := HG.out; omega, nxt k (by have := HG.out; omega), rfl, by have := HER.out; omega, HER.out.2, HEL2.out, HALL2.out, HB3.out⟩
      · rw [decide_eq_false hm] at HH
        have HF := Lib.hid (show elI L (1 + k) = R by rw [← HR.out]; exact (tk_first h32 HL.out.1 HL.out.2 hall hm).symm)
        clear hm hkg hel hall hb0 HALL
        generalize elI L (1 + k) = m at HN HER HH HF
        go_wp2_with fail
        rw [HN.out]
        refine HH.out.mono ?_
        rintro e w' ⟨rfl, hb⟩
        have HB3 := Lib.hid (stepB HB.out (stepB HB2.out hb))
        clear hb
        go_wp2
        go_ret
        exact ⟨ret_i HF.out, HB3.out⟩
end Go.Proofs.YtmcocepjdhpecabGreatDoor.S2
