/-
  FlowFair answers true, walked. Conditions: the numbers fit an int; the list reads as data.
-/
import Derived.Test.YtomlideijhejfabFlX
namespace Go.Proofs.Ytomlideijhejfab
open Go.RowKit

set_option maxRecDepth 20000 in
set_option maxHeartbeats 8000000 in
theorem flowFair_bad (A : Option Addr) (c : Nat) (X : List (Int × Int)) (last : Int) (y : Nat) (w : World) (hsl : CrL w w.heap.size A X) (hX : X.length ≤ 9223372036854775807) (hl1 : -9223372036854775808 ≤ last) (hl2 : last ≤ 9223372036854775807) (hy : y ≤ 65535) (hv : vlC X = false) :
    Calls Try.prog 7 #[.slice A X.length c, .int .i64 last, .int .u16 (y : Int)] w fun e w' => e = .returned (.bool true) ∧ Below w.heap.size w w' := by
  have HA := Lib.hid (fun w => awake16_any w)
  have CV := Lib.hid (fun w hs => valid16_any A c X w hs hX)
  rw [hv] at CV
  have Sx_w := Lib.hid hsl
  have _u := And.intro hl1 (And.intro hl2 hy)
  clear hsl hX hv hl1 hl2 hy _u
  go_enter Try.func7, Try.ntmps7
  go_wp2_with fail
  refine (CV.out w Sx_w.out).mono ?_
  rintro e w1 ⟨rfl, hb⟩
  have B_w1 : Hid (Below w.heap.size w w1) := Lib.hid (hb)
  have Sx_w1 : Hid (CrL w1 w1.heap.size A X) := Lib.hid (GL.step Sx_w.out hb)
  clear Sx_w
  clear hb
  go_wp2_with fail
  refine (HA.out w1).mono ?_
  rintro e w2 ⟨rfl, hb⟩
  have B_w2 : Hid (Below w.heap.size w w2) := Lib.hid (stepB B_w1.out hb)
  have Sx_w2 : Hid (CrL w2 w2.heap.size A X) := Lib.hid (GL.step Sx_w1.out hb)
  clear B_w1 Sx_w1
  clear hb
  go_wp2_with fail
  go_ret
  exact ⟨rfl, B_w2.out⟩
set_option maxRecDepth 20000 in
set_option maxHeartbeats 8000000 in
theorem flowFair_good (A : Option Addr) (c : Nat) (X : List (Int × Int)) (last : Int) (y : Nat) (w : World) (hsl : CrL w w.heap.size A X) (hX : X.length ≤ 9223372036854775807) (hl1 : -9223372036854775808 ≤ last) (hl2 : last ≤ 9223372036854775807) (hy : y ≤ 65535) (hv : vlC X = true) :
    Calls Try.prog 7 #[.slice A X.length c, .int .i64 last, .int .u16 (y : Int)] w fun e w' => e = .returned (.bool true) ∧ Below w.heap.size w w' := by
  have HA := Lib.hid (fun w => awake16_any w)
  have CV := Lib.hid (fun w hs => valid16_any A c X w hs hX)
  rw [hv] at CV
  have Sx_w := Lib.hid hsl
  obtain ⟨hv1, hv2⟩ := vlC_iff.1 hv
  have hfg := fairG X last (y : Int) (by omega)
  have C1 := Lib.hid (fun w hs => fRound_any A c X last (y : Int) hl1 hl2 w hs (by omega) hv2)
  have HXX := Lib.hid hsl
  have HOK := Lib.hid hv2
  have hX40 : X.length ≤ 40 := hv1
  have w1 : wrap64 (y : Int) = (y : Int) := wrap64_id _ (by omega) (by omega)
  obtain ⟨many, hmany⟩ : ∃ many, min (y : Int) 1024 = many := ⟨_, rfl⟩
  rw [hmany] at hfg
  generalize rdC X last (y : Int) = r at C1 hfg
  obtain ⟨G, la⟩ := r
  dsimp only at hfg
  have HFG := Lib.hid hfg
  have HMY := Lib.hid hmany
  have hlen : ((G.length : Int) != (X.length : Int)) = false := by rw [hfg.len]; simp
  clear hsl hX hv hv2 hl1 hl2 hmany hfg
  by_cases hc : 1024 < (y : Int)
  · have q4 : decide (1024 < (y : Int)) = true := decide_eq_true hc
    have q4n : decide (1024 < y) = true := decide_eq_true (by omega)
    have HC := Lib.hid hc
    have hmy : many = 1024 := by have := HMY.out; omega
    subst hmy
    clear hc
    go_enter Try.func7, Try.ntmps7
    go_wp2_with fail
    refine (CV.out w Sx_w.out).mono ?_
    rintro e w1 ⟨rfl, hb⟩
    have B_w1 : Hid (Below w.heap.size w w1) := Lib.hid (hb)
    have Sx_w1 : Hid (CrL w1 w1.heap.size A X) := Lib.hid (GL.step Sx_w.out hb)
    clear Sx_w
    clear hb
    go_wp2_with fail
    refine (C1.out w1 Sx_w1.out).mono ?_
    rintro e w2 ⟨A1, c1, rfl, _, hs1, hb⟩
    have B_w2 : Hid (Below w.heap.size w w2) := Lib.hid (stepB B_w1.out hb)
    have Sx_w2 : Hid (CrL w2 w2.heap.size A X) := Lib.hid (GL.step Sx_w1.out hb)
    clear B_w1 Sx_w1
    clear hb
    have Sg_w2 := Lib.hid (hs1)
    clear hs1
    go_wp2_with fail
    have HGG : Hid (∀ wr, Below w.heap.size w wr → Below w2.heap.size w2 wr → IL wr wr.heap.size A1 G) := Lib.hid (fun wr _ hb => CL.step Sg_w2.out hb)
    have HW : Hid (Below w.heap.size w w2) := Lib.hid B_w2.out
    clear Sx_w2 Sg_w2 B_w2 C1 CV
    go_loopg [10, 11, 12] X.length (fun g sm mo v wr => ∃ k : Nat, k + g = X.length ∧ v = .int .i64 k ∧ sm = .int .i64 (totL (G.take k)) ∧ mo = .bool (leftAny X G k) ∧ Below w2.heap.size w2 wr)
    case atStart => exact ⟨0, by omega, rfl, rfl, rfl, Below.refl _ _⟩
    case round =>
      rename World => wa
      rename Nat => ga
      obtain ⟨k, hkg, rfl, rfl, rfl, hbW⟩ := hrel
      have HBW := Lib.hid hbW
      have B_wa : Hid (Below w.heap.size w wa) := Lib.hid (stepB HW.out hbW)
      have HG := Lib.hid hkg
      cases ga with
      | zero =>
        obtain rfl : k = X.length := by omega
        have e3 : decide ((X.length : Int) < (X.length : Int)) = false := decide_eq_false (by omega)
        clear hkg hbW HG
        obtain ⟨sm, hsm⟩ : ∃ sm, totL (G.take X.length) = sm := ⟨_, rfl⟩
        obtain ⟨mo, hmo⟩ : ∃ mo, leftAny X G X.length = mo := ⟨_, rfl⟩
        rw [hsm, hmo]
        have HS : Hid (sm = totL G) := Lib.hid (by rw [← hsm, ← HFG.out.len, List.take_length])
        have HMO := Lib.hid hmo
        clear hsm hmo
        go_wp2_with fail
        go_loopg [13] X.length (fun g v wr => ∃ i : Nat, i + g = X.length ∧ v = .int .i64 i ∧ Below w2.heap.size w2 wr)
        case atStart => exact ⟨0, by omega, rfl, HBW.out⟩
        case round =>
          clear HBW B_wa
          rename World => wb
          rename Nat => gb2
          obtain ⟨i, hig, rfl, hbW⟩ := hrel
          have HBW := Lib.hid hbW
          have B_wb : Hid (Below w.heap.size w wb) := Lib.hid (stepB HW.out hbW)
          have HI := Lib.hid hig
          cases gb2 with
          | zero =>
            obtain rfl : i = X.length := by omega
            have e3 : decide ((X.length : Int) < (X.length : Int)) = false := decide_eq_false (by omega)
            clear hig hbW HI HBW
            have q5 : decide (sm ≤ 1024) = true := decide_eq_true (by have := HFG.out.le; have := HS.out; omega)
            by_cases hem : sm = 1024
            · have q6 : (sm == 1024) = true := by simp [hem]
              clear hem
              go_wp2_with fail
              refine (HA.out wb).mono ?_
              rintro e w21 ⟨rfl, hb⟩
              have B_w21 : Hid (Below w.heap.size w w21) := Lib.hid (stepB B_wb.out hb)
              clear B_wb
              clear hb
              go_wp2_with fail
              go_ret
              exact ⟨rfl, B_w21.out⟩
            · have q6 : (sm == 1024) = false := by simp [hem]
              have hm : mo = false := by
                rw [← HMO.out]
                refine leftAny_none fun i hi => ?_
                rcases HFG.out.all with h | h
                · exact absurd (HS.out.trans h) (by omega)
                · exact h i hi
              subst hm
              clear hem
              go_wp2_with fail
              refine (HA.out wb).mono ?_
              rintro e w21 ⟨rfl, hb⟩
              have B_w21 : Hid (Below w.heap.size w w21) := Lib.hid (stepB B_wb.out hb)
              clear B_wb
              clear hb
              go_wp2_with fail
              go_ret
              exact ⟨rfl, B_w21.out⟩
          | succ g2 =>
            have hlti : i < X.length := by omega
            have e3 : decide ((i : Int) < (X.length : Int)) = true := decide_eq_true (by omega)
            have e3n : decide (i < X.length) = true := decide_eq_true hlti
            go_wp2_with fail
            go_loopg [14] X.length (fun g v wr => ∃ k2 : Nat, k2 + g = X.length ∧ v = .int .i64 k2 ∧ Below w2.heap.size w2 wr)
            case atStart => exact ⟨0, by omega, rfl, HBW.out⟩
            case round =>
              clear HBW B_wb hbW hig
              rename World => wc
              rename Nat => gc2
              obtain ⟨k2, hkg2, rfl, hbW⟩ := hrel
              have HBW := Lib.hid hbW
              have B_wc : Hid (Below w.heap.size w wc) := Lib.hid (stepB HW.out hbW)
              have HK2 := Lib.hid hkg2
              cases gc2 with
              | zero =>
                obtain rfl : k2 = X.length := by omega
                have e4 : decide ((X.length : Int) < (X.length : Int)) = false := decide_eq_false (by omega)
                clear hkg2 hbW HK2
                go_wp2_with fail
                go_roundg g2
                case measure => omega
                case rel => exact ⟨i + 1, by have := HI.out; omega, by first | rfl | exact nxt i (by have := HI.out; omega), HBW.out⟩
              | succ g3 =>
                have hlt2 : k2 < X.length := by omega
                have e4 : decide ((k2 : Int) < (X.length : Int)) = true := decide_eq_true (by omega)
                have e4n : decide (k2 < X.length) = true := decide_eq_true hlt2
                obtain ⟨x, hx⟩ : ∃ x, X[i]? = some x := ⟨_, List.getElem?_eq_getElem hlti⟩
                obtain ⟨gv, hg⟩ : ∃ x, G[i]? = some x := ⟨_, List.getElem?_eq_getElem (by rw [HFG.out.len]; exact hlti)⟩
                obtain ⟨xb, xo, hA, hxb, k0, k1⟩ := CrL.at_ (HXX.out.step B_wc.out) hx
                obtain ⟨gb, go, hA1, hgb, kg⟩ := IL.at_ (HGG.out wc B_wc.out HBW.out) hg
                subst hA
                subst hA1
                have hxok := HOK.out x (List.mem_of_getElem? hx)
                have hgd := getD_of hg
                have hat := atC_of hx
                have hok := HFG.out.ok i hlti
                rw [hgd, hat] at hok
                obtain ⟨m, u⟩ := x
                dsimp only at k0 k1
                obtain ⟨z1, z2, z3, z4⟩ := okC_iff.1 hxok
                dsimp only at z1 z2 z3 z4
                have CL := Lib.hid (fun w => fLeftC_any m u (by omega) (by omega) (by omega) w)
                have j1 : (0 : Int) ≤ (i : Int) := by omega
                have j2 : (i : Int) < (X.length : Int) := by omega
                have j3 : (i : Int) < (G.length : Int) := by have := HFG.out.len; omega
                obtain ⟨gw, hg2⟩ : ∃ x, G[k2]? = some x := ⟨_, List.getElem?_eq_getElem (by rw [HFG.out.len]; exact hlt2)⟩
                have hfair := HFG.out.fair i k2 hlti hlt2
                rw [hgd, hat, getD_of hg2] at hfair
                have kg2 : wc.cell? ⟨gb, go + k2, none⟩ = some (.int .i64 gw) := by
                  obtain ⟨b9, o9, e9, _, k9⟩ := IL.at_ (HGG.out wc B_wc.out HBW.out) hg2
                  simp only [Option.some.injEq, Addr.mk.injEq, and_true] at e9
                  obtain ⟨rfl, rfl⟩ := e9
                  exact k9
                have j4 : (0 : Int) ≤ (k2 : Int) := by omega
                have j5 : (k2 : Int) < (G.length : Int) := by have := HFG.out.len; omega
                have SW_wc : Hid (Below w2.heap.size w2 wc) := HBW
                have Sx_wc : Hid ((xb < wc.heap.size ∧ wc.cell? ⟨xb, xo + i * 2, none⟩ = some (.int .i64 m) ∧ wc.cell? ⟨xb, xo + i * 2 + 1, none⟩ = some (.int .i64 u))) := Lib.hid ⟨Nat.lt_of_lt_of_le hxb (Nat.le_refl _), k0, k1⟩
                have Sgi_wc : Hid ((gb < wc.heap.size ∧ wc.cell? ⟨gb, go + i, none⟩ = some (.int .i64 gv))) := Lib.hid ⟨hgb, kg⟩
                have Sgk2_wc : Hid ((gb < wc.heap.size ∧ wc.cell? ⟨gb, go + k2, none⟩ = some (.int .i64 gw))) := Lib.hid ⟨hgb, kg2⟩
                have hlf : lfC (m, u) ≤ 1099511627776 := by unfold lfC; dsimp only; split <;> omega
                generalize lfC (m, u) = lf at CL hok hfair hlf
                have u9 : IntKind.i64.wrap (gv + 1) = gv + 1 := by rw [IntKind.wrap_i64]; omega
                by_cases hc1 : gv < lf
                · have q1 : decide (gv < lf) = true := decide_eq_true hc1
                  have q2 : decide (gv + 1 < gw) = false := decide_eq_false (by have := hfair hc1; omega)
                  clear hx hg hg2 hxok hgd hat hok hfair z1 z2 z3 z4 hxb hgb k0 k1 kg kg2 hbW hkg2 hlt2 hc1
                  go_upto_region 23 with fail
                  obtain ⟨dw21, hdw21⟩ : ∃ dw21, dw21 = World.drew wc := ⟨_, rfl⟩
                  have hbD : Below wc.heap.size wc dw21 := by rw [hdw21]; exact (Below.refl _ _).drew
                  have B_dw21 : Hid (Below w.heap.size w dw21) := Lib.hid (stepB B_wc.out hbD)
                  have SW_dw21 : Hid (Below w2.heap.size w2 dw21) := Lib.hid (stepB SW_wc.out hbD)
                  have Sx_dw21 : Hid ((xb < dw21.heap.size ∧ dw21.cell? ⟨xb, xo + i * 2, none⟩ = some (.int .i64 m) ∧ dw21.cell? ⟨xb, xo + i * 2 + 1, none⟩ = some (.int .i64 u))) := Lib.hid (⟨Nat.lt_of_lt_of_le Sx_wc.out.1 hbD.size, (hbD.cell (p := ⟨xb, xo + i * 2, none⟩) Sx_wc.out.1).trans Sx_wc.out.2.1, (hbD.cell (p := ⟨xb, xo + i * 2 + 1, none⟩) Sx_wc.out.1).trans Sx_wc.out.2.2⟩)
                  have Sgi_dw21 : Hid ((gb < dw21.heap.size ∧ dw21.cell? ⟨gb, go + i, none⟩ = some (.int .i64 gv))) := Lib.hid (⟨Nat.lt_of_lt_of_le Sgi_wc.out.1 hbD.size, (hbD.cell (p := ⟨gb, go + i, none⟩) Sgi_wc.out.1).trans Sgi_wc.out.2⟩)
                  have Sgk2_dw21 : Hid ((gb < dw21.heap.size ∧ dw21.cell? ⟨gb, go + k2, none⟩ = some (.int .i64 gw))) := Lib.hid (⟨Nat.lt_of_lt_of_le Sgk2_wc.out.1 hbD.size, (hbD.cell (p := ⟨gb, go + k2, none⟩) Sgk2_wc.out.1).trans Sgk2_wc.out.2⟩)
                  clear B_wc SW_wc Sx_wc Sgi_wc Sgk2_wc
                  have hbd : (fun w' => (xb < w'.heap.size ∧ w'.cell? ⟨xb, xo + i * 2, none⟩ = some (.int .i64 m) ∧ w'.cell? ⟨xb, xo + i * 2 + 1, none⟩ = some (.int .i64 u)) ∧ (gb < w'.heap.size ∧ w'.cell? ⟨gb, go + i, none⟩ = some (.int .i64 gv)) ∧ (gb < w'.heap.size ∧ w'.cell? ⟨gb, go + k2, none⟩ = some (.int .i64 gw))) (World.drew wc) := by rw [← hdw21]; exact ⟨Sx_dw21.out, Sgi_dw21.out, Sgk2_dw21.out⟩
                  have hSD : (fun w' => (xb < w'.heap.size ∧ w'.cell? ⟨xb, xo + i * 2, none⟩ = some (.int .i64 m) ∧ w'.cell? ⟨xb, xo + i * 2 + 1, none⟩ = some (.int .i64 u)) ∧ (gb < w'.heap.size ∧ w'.cell? ⟨gb, go + i, none⟩ = some (.int .i64 gv)) ∧ (gb < w'.heap.size ∧ w'.cell? ⟨gb, go + k2, none⟩ = some (.int .i64 gw))) dw21 := ⟨Sx_dw21.out, Sgi_dw21.out, Sgk2_dw21.out⟩
                  have HWD := Lib.hid hdw21
                  clear hdw21 hbD
                  refine wp_region_held_drew (S := fun w' => (xb < w'.heap.size ∧ w'.cell? ⟨xb, xo + i * 2, none⟩ = some (.int .i64 m) ∧ w'.cell? ⟨xb, xo + i * 2 + 1, none⟩ = some (.int .i64 u)) ∧ (gb < w'.heap.size ∧ w'.cell? ⟨gb, go + i, none⟩ = some (.int .i64 gv)) ∧ (gb < w'.heap.size ∧ w'.cell? ⟨gb, go + k2, none⟩ = some (.int .i64 gw))) (by kernel_rfl) hbd (fun hHeld => ?_)
                  rw [← HWD.out]
                  clear hHeld
                  have hHeld := hSD
                  clear hSD hbd HWD
                  refine wpAnyH_take (i := 0) (v := .slice (some ⟨gb, go, none⟩) G.length c1) (get_ops _ _ _ rfl) (by kernel_rfl) (by kernel_rfl) (by kernel_rfl) (fun _ _ _ h => h) (Or.inl ⟨by rfl, fun wS hSw => by (try dsimp only at hSw); go_simp⟩) hHeld ?_
                  try simp only [Act.put, List.setIfInBounds_toArray, List.set_cons_zero, List.set_cons_succ]
                  refine wpAnyH_take (i := 1) (v := .int .i64 ((i : Int))) (get_ops _ _ _ rfl) (by kernel_rfl) (by kernel_rfl) (by kernel_rfl) (fun _ _ _ h => h) (Or.inl ⟨by rfl, fun wS hSw => by (try dsimp only at hSw); go_simp⟩) hHeld ?_
                  try simp only [Act.put, List.setIfInBounds_toArray, List.set_cons_zero, List.set_cons_succ]
                  refine wpAnyH_take (i := 2) (v := .pointer (some ⟨gb, go + i, none⟩)) (get_ops _ _ _ rfl) (by kernel_rfl) (by kernel_rfl) (by kernel_rfl) (fun _ _ _ h => h) (Or.inl ⟨by rfl, fun wS hSw => by (try dsimp only at hSw); go_simp⟩) hHeld ?_
                  try simp only [Act.put, List.setIfInBounds_toArray, List.set_cons_zero, List.set_cons_succ]
                  refine wpAnyH_take (i := 3) (v := .int .i64 gv) (get_ops _ _ _ rfl) (by kernel_rfl) (by kernel_rfl) (by kernel_rfl) (fun _ _ _ h => h) (Or.inl ⟨by rfl, fun wS hSw => by (try dsimp only at hSw); have cS : wS.cell? ⟨gb, go + i, none⟩ = some (.int .i64 gv) := hSw.2.1.2; clear hSw; go_simp⟩) hHeld ?_
                  try simp only [Act.put, List.setIfInBounds_toArray, List.set_cons_zero, List.set_cons_succ]
                  refine wpAnyH_take (i := 4) (v := .slice (some ⟨xb, xo, none⟩) X.length c) (get_ops _ _ _ rfl) (by kernel_rfl) (by kernel_rfl) (by kernel_rfl) (fun _ _ _ h => h) (Or.inl ⟨by rfl, fun wS hSw => by (try dsimp only at hSw); go_simp⟩) hHeld ?_
                  try simp only [Act.put, List.setIfInBounds_toArray, List.set_cons_zero, List.set_cons_succ]
                  refine wpAnyH_take (i := 5) (v := .int .i64 ((i : Int))) (get_ops _ _ _ rfl) (by kernel_rfl) (by kernel_rfl) (by kernel_rfl) (fun _ _ _ h => h) (Or.inl ⟨by rfl, fun wS hSw => by (try dsimp only at hSw); go_simp⟩) hHeld ?_
                  try simp only [Act.put, List.setIfInBounds_toArray, List.set_cons_zero, List.set_cons_succ]
                  refine wpAnyH_take (i := 6) (v := .pointer (some ⟨xb, xo + i * 2, none⟩)) (get_ops _ _ _ rfl) (by kernel_rfl) (by kernel_rfl) (by kernel_rfl) (fun _ _ _ h => h) (Or.inl ⟨by rfl, fun wS hSw => by (try dsimp only at hSw); go_simp⟩) hHeld ?_
                  try simp only [Act.put, List.setIfInBounds_toArray, List.set_cons_zero, List.set_cons_succ]
                  refine wpAnyH_take (i := 7) (v := .agg #[.int .i64 m, .int .i64 u]) (get_ops _ _ _ rfl) (by kernel_rfl) (by kernel_rfl) (by kernel_rfl) (fun _ _ _ h => h) (Or.inl ⟨by rfl, fun wS hSw => by (try dsimp only at hSw); exact exec_load 23 _ rfl ⟨xb, xo + i * 2, none⟩ (by go_simp) _ (run_load_pair hSw.1.2.1 hSw.1.2.2 Try.underlying23 rfl infoC2)⟩) hHeld ?_
                  try simp only [Act.put, List.setIfInBounds_toArray, List.set_cons_zero, List.set_cons_succ]
                  refine wpAnyH_ready (rs := [8]) (by kernel_rfl) (by simp) ?_
                  refine (AllReadyH.cons (get_ops _ _ _ rfl) (fun K hK => ?_) AllReadyH.nil)
                  go_simp
                  go_at_call 18
                  refine (CL.out dw21).mono ?_
                  rintro e w22 ⟨rfl, hb⟩
                  have B_w22 : Hid (Below w.heap.size w w22) := Lib.hid (stepB B_dw21.out hb)
                  have SW_w22 : Hid (Below w2.heap.size w2 w22) := Lib.hid (stepB SW_dw21.out hb)
                  have Sx_w22 : Hid ((xb < w22.heap.size ∧ w22.cell? ⟨xb, xo + i * 2, none⟩ = some (.int .i64 m) ∧ w22.cell? ⟨xb, xo + i * 2 + 1, none⟩ = some (.int .i64 u))) := Lib.hid (⟨Nat.lt_of_lt_of_le Sx_dw21.out.1 hb.size, (hb.cell (p := ⟨xb, xo + i * 2, none⟩) Sx_dw21.out.1).trans Sx_dw21.out.2.1, (hb.cell (p := ⟨xb, xo + i * 2 + 1, none⟩) Sx_dw21.out.1).trans Sx_dw21.out.2.2⟩)
                  have Sgi_w22 : Hid ((gb < w22.heap.size ∧ w22.cell? ⟨gb, go + i, none⟩ = some (.int .i64 gv))) := Lib.hid (⟨Nat.lt_of_lt_of_le Sgi_dw21.out.1 hb.size, (hb.cell (p := ⟨gb, go + i, none⟩) Sgi_dw21.out.1).trans Sgi_dw21.out.2⟩)
                  have Sgk2_w22 : Hid ((gb < w22.heap.size ∧ w22.cell? ⟨gb, go + k2, none⟩ = some (.int .i64 gw))) := Lib.hid (⟨Nat.lt_of_lt_of_le Sgk2_dw21.out.1 hb.size, (hb.cell (p := ⟨gb, go + k2, none⟩) Sgk2_dw21.out.1).trans Sgk2_dw21.out.2⟩)
                  clear B_dw21 SW_dw21 Sx_dw21 Sgi_dw21 Sgk2_dw21
                  clear hHeld hb
                  go_wp2_with fail
                  refine hK.out _ _ ⟨Sx_w22.out, Sgi_w22.out, Sgk2_w22.out⟩ (fun hHeld => ?_)
                  clear hK K
                  try simp only [Act.put, List.setIfInBounds_toArray, List.set_cons_zero, List.set_cons_succ]
                  refine wpAnyH_take (i := 9) (v := .bool true) (get_ops _ _ _ rfl) (by kernel_rfl) (by kernel_rfl) (by kernel_rfl) (fun _ _ _ h => h) (Or.inl ⟨by rfl, fun wS hSw => by (try dsimp only at hSw); go_simp⟩) hHeld ?_
                  try simp only [Act.put, List.setIfInBounds_toArray, List.set_cons_zero, List.set_cons_succ]
                  refine wpAnyH_take (i := 10) (v := .bool true) (get_ops _ _ _ rfl) (by kernel_rfl) (by kernel_rfl) (by kernel_rfl) (fun _ _ _ h => h) (Or.inl ⟨by rfl, fun wS hSw => by (try dsimp only at hSw); go_simp⟩) hHeld ?_
                  try simp only [Act.put, List.setIfInBounds_toArray, List.set_cons_zero, List.set_cons_succ]
                  refine wpAnyH_take (i := 11) (v := .slice (some ⟨gb, go, none⟩) G.length c1) (get_ops _ _ _ rfl) (by kernel_rfl) (by kernel_rfl) (by kernel_rfl) (fun _ _ _ h => h) (Or.inl ⟨by rfl, fun wS hSw => by (try dsimp only at hSw); go_simp⟩) hHeld ?_
                  try simp only [Act.put, List.setIfInBounds_toArray, List.set_cons_zero, List.set_cons_succ]
                  refine wpAnyH_take (i := 12) (v := .int .i64 ((k2 : Int))) (get_ops _ _ _ rfl) (by kernel_rfl) (by kernel_rfl) (by kernel_rfl) (fun _ _ _ h => h) (Or.inl ⟨by rfl, fun wS hSw => by (try dsimp only at hSw); go_simp⟩) hHeld ?_
                  try simp only [Act.put, List.setIfInBounds_toArray, List.set_cons_zero, List.set_cons_succ]
                  refine wpAnyH_take (i := 13) (v := .pointer (some ⟨gb, go + k2, none⟩)) (get_ops _ _ _ rfl) (by kernel_rfl) (by kernel_rfl) (by kernel_rfl) (fun _ _ _ h => h) (Or.inl ⟨by rfl, fun wS hSw => by (try dsimp only at hSw); go_simp⟩) hHeld ?_
                  try simp only [Act.put, List.setIfInBounds_toArray, List.set_cons_zero, List.set_cons_succ]
                  refine wpAnyH_take (i := 14) (v := .int .i64 gw) (get_ops _ _ _ rfl) (by kernel_rfl) (by kernel_rfl) (by kernel_rfl) (fun _ _ _ h => h) (Or.inl ⟨by rfl, fun wS hSw => by (try dsimp only at hSw); have cS : wS.cell? ⟨gb, go + k2, none⟩ = some (.int .i64 gw) := hSw.2.2.2; clear hSw; go_simp⟩) hHeld ?_
                  try simp only [Act.put, List.setIfInBounds_toArray, List.set_cons_zero, List.set_cons_succ]
                  refine wpAnyH_take (i := 15) (v := .slice (some ⟨gb, go, none⟩) G.length c1) (get_ops _ _ _ rfl) (by kernel_rfl) (by kernel_rfl) (by kernel_rfl) (fun _ _ _ h => h) (Or.inl ⟨by rfl, fun wS hSw => by (try dsimp only at hSw); go_simp⟩) hHeld ?_
                  try simp only [Act.put, List.setIfInBounds_toArray, List.set_cons_zero, List.set_cons_succ]
                  refine wpAnyH_take (i := 16) (v := .int .i64 ((i : Int))) (get_ops _ _ _ rfl) (by kernel_rfl) (by kernel_rfl) (by kernel_rfl) (fun _ _ _ h => h) (Or.inl ⟨by rfl, fun wS hSw => by (try dsimp only at hSw); go_simp⟩) hHeld ?_
                  try simp only [Act.put, List.setIfInBounds_toArray, List.set_cons_zero, List.set_cons_succ]
                  refine wpAnyH_take (i := 17) (v := .pointer (some ⟨gb, go + i, none⟩)) (get_ops _ _ _ rfl) (by kernel_rfl) (by kernel_rfl) (by kernel_rfl) (fun _ _ _ h => h) (Or.inl ⟨by rfl, fun wS hSw => by (try dsimp only at hSw); go_simp⟩) hHeld ?_
                  try simp only [Act.put, List.setIfInBounds_toArray, List.set_cons_zero, List.set_cons_succ]
                  refine wpAnyH_take (i := 18) (v := .int .i64 gv) (get_ops _ _ _ rfl) (by kernel_rfl) (by kernel_rfl) (by kernel_rfl) (fun _ _ _ h => h) (Or.inl ⟨by rfl, fun wS hSw => by (try dsimp only at hSw); have cS : wS.cell? ⟨gb, go + i, none⟩ = some (.int .i64 gv) := hSw.2.1.2; clear hSw; go_simp⟩) hHeld ?_
                  try simp only [Act.put, List.setIfInBounds_toArray, List.set_cons_zero, List.set_cons_succ]
                  refine wpAnyH_take (i := 19) (v := .int .i64 ((gv + 1))) (get_ops _ _ _ rfl) (by kernel_rfl) (by kernel_rfl) (by kernel_rfl) (fun _ _ _ h => h) (Or.inl ⟨by rfl, fun wS hSw => by (try dsimp only at hSw); first | (go_simp; done) | (go_simp; exact u9)⟩) hHeld ?_
                  try simp only [Act.put, List.setIfInBounds_toArray, List.set_cons_zero, List.set_cons_succ]
                  refine wpAnyH_take (i := 20) (v := .bool false) (get_ops _ _ _ rfl) (by kernel_rfl) (by kernel_rfl) (by kernel_rfl) (fun _ _ _ h => h) (Or.inl ⟨by rfl, fun wS hSw => by (try dsimp only at hSw); go_simp⟩) hHeld ?_
                  try simp only [Act.put, List.setIfInBounds_toArray, List.set_cons_zero, List.set_cons_succ]
                  refine wpAnyH_take (i := 21) (v := .bool false) (get_ops _ _ _ rfl) (by kernel_rfl) (by kernel_rfl) (by kernel_rfl) (fun _ _ _ h => h) (Or.inl ⟨by rfl, fun wS hSw => by (try dsimp only at hSw); go_simp⟩) hHeld ?_
                  try simp only [Act.put, List.setIfInBounds_toArray, List.set_cons_zero, List.set_cons_succ]
                  refine wpAnyH_done (by kernel_rfl) ?_ _
                  go_wp2_with fail
                  go_roundg g3
                  case measure => omega
                  case rel => exact ⟨k2 + 1, by have := HK2.out; omega, by first | rfl | exact nxt k2 (by have := HK2.out; omega), SW_w22.out⟩
                · have q1 : decide (gv < lf) = false := decide_eq_false hc1
                  clear hx hg hg2 hxok hgd hat hok hfair z1 z2 z3 z4 hxb hgb k0 k1 kg kg2 hbW hkg2 hlt2 hc1
                  go_upto_region 23 with fail
                  obtain ⟨dw21, hdw21⟩ : ∃ dw21, dw21 = World.drew wc := ⟨_, rfl⟩
                  have hbD : Below wc.heap.size wc dw21 := by rw [hdw21]; exact (Below.refl _ _).drew
                  have B_dw21 : Hid (Below w.heap.size w dw21) := Lib.hid (stepB B_wc.out hbD)
                  have SW_dw21 : Hid (Below w2.heap.size w2 dw21) := Lib.hid (stepB SW_wc.out hbD)
                  have Sx_dw21 : Hid ((xb < dw21.heap.size ∧ dw21.cell? ⟨xb, xo + i * 2, none⟩ = some (.int .i64 m) ∧ dw21.cell? ⟨xb, xo + i * 2 + 1, none⟩ = some (.int .i64 u))) := Lib.hid (⟨Nat.lt_of_lt_of_le Sx_wc.out.1 hbD.size, (hbD.cell (p := ⟨xb, xo + i * 2, none⟩) Sx_wc.out.1).trans Sx_wc.out.2.1, (hbD.cell (p := ⟨xb, xo + i * 2 + 1, none⟩) Sx_wc.out.1).trans Sx_wc.out.2.2⟩)
                  have Sgi_dw21 : Hid ((gb < dw21.heap.size ∧ dw21.cell? ⟨gb, go + i, none⟩ = some (.int .i64 gv))) := Lib.hid (⟨Nat.lt_of_lt_of_le Sgi_wc.out.1 hbD.size, (hbD.cell (p := ⟨gb, go + i, none⟩) Sgi_wc.out.1).trans Sgi_wc.out.2⟩)
                  have Sgk2_dw21 : Hid ((gb < dw21.heap.size ∧ dw21.cell? ⟨gb, go + k2, none⟩ = some (.int .i64 gw))) := Lib.hid (⟨Nat.lt_of_lt_of_le Sgk2_wc.out.1 hbD.size, (hbD.cell (p := ⟨gb, go + k2, none⟩) Sgk2_wc.out.1).trans Sgk2_wc.out.2⟩)
                  clear B_wc SW_wc Sx_wc Sgi_wc Sgk2_wc
                  have hbd : (fun w' => (xb < w'.heap.size ∧ w'.cell? ⟨xb, xo + i * 2, none⟩ = some (.int .i64 m) ∧ w'.cell? ⟨xb, xo + i * 2 + 1, none⟩ = some (.int .i64 u)) ∧ (gb < w'.heap.size ∧ w'.cell? ⟨gb, go + i, none⟩ = some (.int .i64 gv)) ∧ (gb < w'.heap.size ∧ w'.cell? ⟨gb, go + k2, none⟩ = some (.int .i64 gw))) (World.drew wc) := by rw [← hdw21]; exact ⟨Sx_dw21.out, Sgi_dw21.out, Sgk2_dw21.out⟩
                  have hSD : (fun w' => (xb < w'.heap.size ∧ w'.cell? ⟨xb, xo + i * 2, none⟩ = some (.int .i64 m) ∧ w'.cell? ⟨xb, xo + i * 2 + 1, none⟩ = some (.int .i64 u)) ∧ (gb < w'.heap.size ∧ w'.cell? ⟨gb, go + i, none⟩ = some (.int .i64 gv)) ∧ (gb < w'.heap.size ∧ w'.cell? ⟨gb, go + k2, none⟩ = some (.int .i64 gw))) dw21 := ⟨Sx_dw21.out, Sgi_dw21.out, Sgk2_dw21.out⟩
                  have HWD := Lib.hid hdw21
                  clear hdw21 hbD
                  refine wp_region_held_drew (S := fun w' => (xb < w'.heap.size ∧ w'.cell? ⟨xb, xo + i * 2, none⟩ = some (.int .i64 m) ∧ w'.cell? ⟨xb, xo + i * 2 + 1, none⟩ = some (.int .i64 u)) ∧ (gb < w'.heap.size ∧ w'.cell? ⟨gb, go + i, none⟩ = some (.int .i64 gv)) ∧ (gb < w'.heap.size ∧ w'.cell? ⟨gb, go + k2, none⟩ = some (.int .i64 gw))) (by kernel_rfl) hbd (fun hHeld => ?_)
                  rw [← HWD.out]
                  clear hHeld
                  have hHeld := hSD
                  clear hSD hbd HWD
                  refine wpAnyH_take (i := 0) (v := .slice (some ⟨gb, go, none⟩) G.length c1) (get_ops _ _ _ rfl) (by kernel_rfl) (by kernel_rfl) (by kernel_rfl) (fun _ _ _ h => h) (Or.inl ⟨by rfl, fun wS hSw => by (try dsimp only at hSw); go_simp⟩) hHeld ?_
                  try simp only [Act.put, List.setIfInBounds_toArray, List.set_cons_zero, List.set_cons_succ]
                  refine wpAnyH_take (i := 1) (v := .int .i64 ((i : Int))) (get_ops _ _ _ rfl) (by kernel_rfl) (by kernel_rfl) (by kernel_rfl) (fun _ _ _ h => h) (Or.inl ⟨by rfl, fun wS hSw => by (try dsimp only at hSw); go_simp⟩) hHeld ?_
                  try simp only [Act.put, List.setIfInBounds_toArray, List.set_cons_zero, List.set_cons_succ]
                  refine wpAnyH_take (i := 2) (v := .pointer (some ⟨gb, go + i, none⟩)) (get_ops _ _ _ rfl) (by kernel_rfl) (by kernel_rfl) (by kernel_rfl) (fun _ _ _ h => h) (Or.inl ⟨by rfl, fun wS hSw => by (try dsimp only at hSw); go_simp⟩) hHeld ?_
                  try simp only [Act.put, List.setIfInBounds_toArray, List.set_cons_zero, List.set_cons_succ]
                  refine wpAnyH_take (i := 3) (v := .int .i64 gv) (get_ops _ _ _ rfl) (by kernel_rfl) (by kernel_rfl) (by kernel_rfl) (fun _ _ _ h => h) (Or.inl ⟨by rfl, fun wS hSw => by (try dsimp only at hSw); have cS : wS.cell? ⟨gb, go + i, none⟩ = some (.int .i64 gv) := hSw.2.1.2; clear hSw; go_simp⟩) hHeld ?_
                  try simp only [Act.put, List.setIfInBounds_toArray, List.set_cons_zero, List.set_cons_succ]
                  refine wpAnyH_take (i := 4) (v := .slice (some ⟨xb, xo, none⟩) X.length c) (get_ops _ _ _ rfl) (by kernel_rfl) (by kernel_rfl) (by kernel_rfl) (fun _ _ _ h => h) (Or.inl ⟨by rfl, fun wS hSw => by (try dsimp only at hSw); go_simp⟩) hHeld ?_
                  try simp only [Act.put, List.setIfInBounds_toArray, List.set_cons_zero, List.set_cons_succ]
                  refine wpAnyH_take (i := 5) (v := .int .i64 ((i : Int))) (get_ops _ _ _ rfl) (by kernel_rfl) (by kernel_rfl) (by kernel_rfl) (fun _ _ _ h => h) (Or.inl ⟨by rfl, fun wS hSw => by (try dsimp only at hSw); go_simp⟩) hHeld ?_
                  try simp only [Act.put, List.setIfInBounds_toArray, List.set_cons_zero, List.set_cons_succ]
                  refine wpAnyH_take (i := 6) (v := .pointer (some ⟨xb, xo + i * 2, none⟩)) (get_ops _ _ _ rfl) (by kernel_rfl) (by kernel_rfl) (by kernel_rfl) (fun _ _ _ h => h) (Or.inl ⟨by rfl, fun wS hSw => by (try dsimp only at hSw); go_simp⟩) hHeld ?_
                  try simp only [Act.put, List.setIfInBounds_toArray, List.set_cons_zero, List.set_cons_succ]
                  refine wpAnyH_take (i := 7) (v := .agg #[.int .i64 m, .int .i64 u]) (get_ops _ _ _ rfl) (by kernel_rfl) (by kernel_rfl) (by kernel_rfl) (fun _ _ _ h => h) (Or.inl ⟨by rfl, fun wS hSw => by (try dsimp only at hSw); exact exec_load 23 _ rfl ⟨xb, xo + i * 2, none⟩ (by go_simp) _ (run_load_pair hSw.1.2.1 hSw.1.2.2 Try.underlying23 rfl infoC2)⟩) hHeld ?_
                  try simp only [Act.put, List.setIfInBounds_toArray, List.set_cons_zero, List.set_cons_succ]
                  refine wpAnyH_ready (rs := [8]) (by kernel_rfl) (by simp) ?_
                  refine (AllReadyH.cons (get_ops _ _ _ rfl) (fun K hK => ?_) AllReadyH.nil)
                  go_simp
                  go_at_call 18
                  refine (CL.out dw21).mono ?_
                  rintro e w22 ⟨rfl, hb⟩
                  have B_w22 : Hid (Below w.heap.size w w22) := Lib.hid (stepB B_dw21.out hb)
                  have SW_w22 : Hid (Below w2.heap.size w2 w22) := Lib.hid (stepB SW_dw21.out hb)
                  have Sx_w22 : Hid ((xb < w22.heap.size ∧ w22.cell? ⟨xb, xo + i * 2, none⟩ = some (.int .i64 m) ∧ w22.cell? ⟨xb, xo + i * 2 + 1, none⟩ = some (.int .i64 u))) := Lib.hid (⟨Nat.lt_of_lt_of_le Sx_dw21.out.1 hb.size, (hb.cell (p := ⟨xb, xo + i * 2, none⟩) Sx_dw21.out.1).trans Sx_dw21.out.2.1, (hb.cell (p := ⟨xb, xo + i * 2 + 1, none⟩) Sx_dw21.out.1).trans Sx_dw21.out.2.2⟩)
                  have Sgi_w22 : Hid ((gb < w22.heap.size ∧ w22.cell? ⟨gb, go + i, none⟩ = some (.int .i64 gv))) := Lib.hid (⟨Nat.lt_of_lt_of_le Sgi_dw21.out.1 hb.size, (hb.cell (p := ⟨gb, go + i, none⟩) Sgi_dw21.out.1).trans Sgi_dw21.out.2⟩)
                  have Sgk2_w22 : Hid ((gb < w22.heap.size ∧ w22.cell? ⟨gb, go + k2, none⟩ = some (.int .i64 gw))) := Lib.hid (⟨Nat.lt_of_lt_of_le Sgk2_dw21.out.1 hb.size, (hb.cell (p := ⟨gb, go + k2, none⟩) Sgk2_dw21.out.1).trans Sgk2_dw21.out.2⟩)
                  clear B_dw21 SW_dw21 Sx_dw21 Sgi_dw21 Sgk2_dw21
                  clear hHeld hb
                  go_wp2_with fail
                  refine hK.out _ _ ⟨Sx_w22.out, Sgi_w22.out, Sgk2_w22.out⟩ (fun hHeld => ?_)
                  clear hK K
                  try simp only [Act.put, List.setIfInBounds_toArray, List.set_cons_zero, List.set_cons_succ]
                  refine wpAnyH_take (i := 9) (v := .bool false) (get_ops _ _ _ rfl) (by kernel_rfl) (by kernel_rfl) (by kernel_rfl) (fun _ _ _ h => h) (Or.inl ⟨by rfl, fun wS hSw => by (try dsimp only at hSw); go_simp⟩) hHeld ?_
                  try simp only [Act.put, List.setIfInBounds_toArray, List.set_cons_zero, List.set_cons_succ]
                  refine wpAnyH_take (i := 10) (v := .bool false) (get_ops _ _ _ rfl) (by kernel_rfl) (by kernel_rfl) (by kernel_rfl) (fun _ _ _ h => h) (Or.inl ⟨by rfl, fun wS hSw => by (try dsimp only at hSw); go_simp⟩) hHeld ?_
                  try simp only [Act.put, List.setIfInBounds_toArray, List.set_cons_zero, List.set_cons_succ]
                  refine wpAnyH_take (i := 11) (v := undef) (get_ops _ _ _ rfl) (by kernel_rfl) (by kernel_rfl) (by kernel_rfl) (fun _ _ _ h => h) (Or.inr ⟨by rfl, rfl⟩) hHeld ?_
                  try simp only [Act.put, List.setIfInBounds_toArray, List.set_cons_zero, List.set_cons_succ]
                  refine wpAnyH_take (i := 12) (v := undef) (get_ops _ _ _ rfl) (by kernel_rfl) (by kernel_rfl) (by kernel_rfl) (fun _ _ _ h => h) (Or.inr ⟨by rfl, rfl⟩) hHeld ?_
                  try simp only [Act.put, List.setIfInBounds_toArray, List.set_cons_zero, List.set_cons_succ]
                  refine wpAnyH_take (i := 13) (v := undef) (get_ops _ _ _ rfl) (by kernel_rfl) (by kernel_rfl) (by kernel_rfl) (fun _ _ _ h => h) (Or.inr ⟨by rfl, rfl⟩) hHeld ?_
                  try simp only [Act.put, List.setIfInBounds_toArray, List.set_cons_zero, List.set_cons_succ]
                  refine wpAnyH_take (i := 14) (v := undef) (get_ops _ _ _ rfl) (by kernel_rfl) (by kernel_rfl) (by kernel_rfl) (fun _ _ _ h => h) (Or.inr ⟨by rfl, rfl⟩) hHeld ?_
                  try simp only [Act.put, List.setIfInBounds_toArray, List.set_cons_zero, List.set_cons_succ]
                  refine wpAnyH_take (i := 15) (v := undef) (get_ops _ _ _ rfl) (by kernel_rfl) (by kernel_rfl) (by kernel_rfl) (fun _ _ _ h => h) (Or.inr ⟨by rfl, rfl⟩) hHeld ?_
                  try simp only [Act.put, List.setIfInBounds_toArray, List.set_cons_zero, List.set_cons_succ]
                  refine wpAnyH_take (i := 16) (v := undef) (get_ops _ _ _ rfl) (by kernel_rfl) (by kernel_rfl) (by kernel_rfl) (fun _ _ _ h => h) (Or.inr ⟨by rfl, rfl⟩) hHeld ?_
                  try simp only [Act.put, List.setIfInBounds_toArray, List.set_cons_zero, List.set_cons_succ]
                  refine wpAnyH_take (i := 17) (v := undef) (get_ops _ _ _ rfl) (by kernel_rfl) (by kernel_rfl) (by kernel_rfl) (fun _ _ _ h => h) (Or.inr ⟨by rfl, rfl⟩) hHeld ?_
                  try simp only [Act.put, List.setIfInBounds_toArray, List.set_cons_zero, List.set_cons_succ]
                  refine wpAnyH_take (i := 18) (v := undef) (get_ops _ _ _ rfl) (by kernel_rfl) (by kernel_rfl) (by kernel_rfl) (fun _ _ _ h => h) (Or.inr ⟨by rfl, rfl⟩) hHeld ?_
                  try simp only [Act.put, List.setIfInBounds_toArray, List.set_cons_zero, List.set_cons_succ]
                  refine wpAnyH_take (i := 19) (v := undef) (get_ops _ _ _ rfl) (by kernel_rfl) (by kernel_rfl) (by kernel_rfl) (fun _ _ _ h => h) (Or.inr ⟨by rfl, rfl⟩) hHeld ?_
                  try simp only [Act.put, List.setIfInBounds_toArray, List.set_cons_zero, List.set_cons_succ]
                  refine wpAnyH_take (i := 20) (v := undef) (get_ops _ _ _ rfl) (by kernel_rfl) (by kernel_rfl) (by kernel_rfl) (fun _ _ _ h => h) (Or.inr ⟨by rfl, rfl⟩) hHeld ?_
                  try simp only [Act.put, List.setIfInBounds_toArray, List.set_cons_zero, List.set_cons_succ]
                  refine wpAnyH_take (i := 21) (v := .bool false) (get_ops _ _ _ rfl) (by kernel_rfl) (by kernel_rfl) (by kernel_rfl) (fun _ _ _ h => h) (Or.inl ⟨by rfl, fun wS hSw => by (try dsimp only at hSw); go_simp⟩) hHeld ?_
                  try simp only [Act.put, List.setIfInBounds_toArray, List.set_cons_zero, List.set_cons_succ]
                  refine wpAnyH_done (by kernel_rfl) ?_ _
                  go_wp2_with fail
                  go_roundg g3
                  case measure => omega
                  case rel => exact ⟨k2 + 1, by have := HK2.out; omega, by first | rfl | exact nxt k2 (by have := HK2.out; omega), SW_w22.out⟩
      | succ g =>
        have hltk : k < X.length := by omega
        have e3 : decide ((k : Int) < (X.length : Int)) = true := decide_eq_true (by omega)
        have e3n : decide (k < X.length) = true := decide_eq_true hltk
        obtain ⟨x, hx⟩ : ∃ x, X[k]? = some x := ⟨_, List.getElem?_eq_getElem hltk⟩
        obtain ⟨gv, hg⟩ : ∃ x, G[k]? = some x := ⟨_, List.getElem?_eq_getElem (by rw [HFG.out.len]; exact hltk)⟩
        obtain ⟨xb, xo, hA, hxb, k0, k1⟩ := CrL.at_ (HXX.out.step B_wa.out) hx
        obtain ⟨gb, go, hA1, hgb, kg⟩ := IL.at_ (HGG.out wa B_wa.out HBW.out) hg
        subst hA
        subst hA1
        have hxok := HOK.out x (List.mem_of_getElem? hx)
        have hgd := getD_of hg
        have hat := atC_of hx
        have hok := HFG.out.ok k hltk
        rw [hgd, hat] at hok
        obtain ⟨m, u⟩ := x
        dsimp only at k0 k1
        obtain ⟨z1, z2, z3, z4⟩ := okC_iff.1 hxok
        dsimp only at z1 z2 z3 z4
        have CL := Lib.hid (fun w => fLeftC_any m u (by omega) (by omega) (by omega) w)
        have j1 : (0 : Int) ≤ (k : Int) := by omega
        have j2 : (k : Int) < (X.length : Int) := by omega
        have j3 : (k : Int) < (G.length : Int) := by have := HFG.out.len; omega
        have htot := tot_take hg
        have hnn := HFG.out.nonneg
        have htl := tot_take_le hnn (k + 1)
        have htz := tot_nonneg (G := G.take k) (fun x hx => hnn x (List.mem_of_mem_take hx))
        have hle := HFG.out.le
        have hm1 := HFG.out.m1
        have HLS : Hid (leftAny X G (k + 1) = (leftAny X G k || decide (gv < lfC (m, u)))) := Lib.hid (by rw [leftAny_succ, hgd, hat])
        generalize lfC (m, u) = lf at CL hok HLS
        generalize htk : totL (G.take k) = tk at htot htz
        have w9 : wrap64 (tk + gv) = tk + gv := wrap64_id _ (by omega) (by omega)
        have HTT : Hid (totL (G.take (k + 1)) = tk + gv) := Lib.hid htot
        have q1 : decide (gv < 0) = false := decide_eq_false (by omega)
        have q2 : decide (lf < gv) = false := decide_eq_false (by omega)
        obtain ⟨lt, hlt9⟩ : ∃ lt, decide (gv < lf) = lt := ⟨_, rfl⟩
        rw [hlt9] at HLS
        obtain ⟨mo, hmo⟩ : ∃ mo, leftAny X G k = mo := ⟨_, rfl⟩
        rw [hmo] at HLS
        rw [hmo]
        have SW_wa : Hid (Below w2.heap.size w2 wa) := HBW
        have Sx_wa : Hid ((xb < wa.heap.size ∧ wa.cell? ⟨xb, xo + k * 2, none⟩ = some (.int .i64 m) ∧ wa.cell? ⟨xb, xo + k * 2 + 1, none⟩ = some (.int .i64 u))) := Lib.hid ⟨hxb, k0, k1⟩
        have Sgk_wa : Hid ((gb < wa.heap.size ∧ wa.cell? ⟨gb, go + k, none⟩ = some (.int .i64 gv))) := Lib.hid ⟨hgb, kg⟩
        clear hx hg hxok hgd hat hok z1 z2 z3 z4 hxb hgb k0 k1 kg hbW hkg htot hnn htl htz hle hm1 htk hmo
        go_upto_region 13 with fail
        obtain ⟨dw21, hdw21⟩ : ∃ dw21, dw21 = World.drew wa := ⟨_, rfl⟩
        have hbD : Below wa.heap.size wa dw21 := by rw [hdw21]; exact (Below.refl _ _).drew
        have B_dw21 : Hid (Below w.heap.size w dw21) := Lib.hid (stepB B_wa.out hbD)
        have SW_dw21 : Hid (Below w2.heap.size w2 dw21) := Lib.hid (stepB SW_wa.out hbD)
        have Sx_dw21 : Hid ((xb < dw21.heap.size ∧ dw21.cell? ⟨xb, xo + k * 2, none⟩ = some (.int .i64 m) ∧ dw21.cell? ⟨xb, xo + k * 2 + 1, none⟩ = some (.int .i64 u))) := Lib.hid (⟨Nat.lt_of_lt_of_le Sx_wa.out.1 hbD.size, (hbD.cell (p := ⟨xb, xo + k * 2, none⟩) Sx_wa.out.1).trans Sx_wa.out.2.1, (hbD.cell (p := ⟨xb, xo + k * 2 + 1, none⟩) Sx_wa.out.1).trans Sx_wa.out.2.2⟩)
        have Sgk_dw21 : Hid ((gb < dw21.heap.size ∧ dw21.cell? ⟨gb, go + k, none⟩ = some (.int .i64 gv))) := Lib.hid (⟨Nat.lt_of_lt_of_le Sgk_wa.out.1 hbD.size, (hbD.cell (p := ⟨gb, go + k, none⟩) Sgk_wa.out.1).trans Sgk_wa.out.2⟩)
        clear B_wa SW_wa Sx_wa Sgk_wa
        have hbd : (fun w' => (xb < w'.heap.size ∧ w'.cell? ⟨xb, xo + k * 2, none⟩ = some (.int .i64 m) ∧ w'.cell? ⟨xb, xo + k * 2 + 1, none⟩ = some (.int .i64 u)) ∧ (gb < w'.heap.size ∧ w'.cell? ⟨gb, go + k, none⟩ = some (.int .i64 gv))) (World.drew wa) := by rw [← hdw21]; exact ⟨Sx_dw21.out, Sgk_dw21.out⟩
        have hSD : (fun w' => (xb < w'.heap.size ∧ w'.cell? ⟨xb, xo + k * 2, none⟩ = some (.int .i64 m) ∧ w'.cell? ⟨xb, xo + k * 2 + 1, none⟩ = some (.int .i64 u)) ∧ (gb < w'.heap.size ∧ w'.cell? ⟨gb, go + k, none⟩ = some (.int .i64 gv))) dw21 := ⟨Sx_dw21.out, Sgk_dw21.out⟩
        have HWD := Lib.hid hdw21
        clear hdw21 hbD
        refine wp_region_held_drew (S := fun w' => (xb < w'.heap.size ∧ w'.cell? ⟨xb, xo + k * 2, none⟩ = some (.int .i64 m) ∧ w'.cell? ⟨xb, xo + k * 2 + 1, none⟩ = some (.int .i64 u)) ∧ (gb < w'.heap.size ∧ w'.cell? ⟨gb, go + k, none⟩ = some (.int .i64 gv))) (by kernel_rfl) hbd (fun hHeld => ?_)
        rw [← HWD.out]
        clear hHeld
        have hHeld := hSD
        clear hSD hbd HWD
        refine wpAnyH_take (i := 0) (v := .slice (some ⟨gb, go, none⟩) G.length c1) (get_ops _ _ _ rfl) (by kernel_rfl) (by kernel_rfl) (by kernel_rfl) (fun _ _ _ h => h) (Or.inl ⟨by rfl, fun wS hSw => by (try dsimp only at hSw); go_simp⟩) hHeld ?_
        try simp only [Act.put, List.setIfInBounds_toArray, List.set_cons_zero, List.set_cons_succ]
        refine wpAnyH_take (i := 1) (v := .int .i64 ((k : Int))) (get_ops _ _ _ rfl) (by kernel_rfl) (by kernel_rfl) (by kernel_rfl) (fun _ _ _ h => h) (Or.inl ⟨by rfl, fun wS hSw => by (try dsimp only at hSw); go_simp⟩) hHeld ?_
        try simp only [Act.put, List.setIfInBounds_toArray, List.set_cons_zero, List.set_cons_succ]
        refine wpAnyH_take (i := 2) (v := .pointer (some ⟨gb, go + k, none⟩)) (get_ops _ _ _ rfl) (by kernel_rfl) (by kernel_rfl) (by kernel_rfl) (fun _ _ _ h => h) (Or.inl ⟨by rfl, fun wS hSw => by (try dsimp only at hSw); go_simp⟩) hHeld ?_
        try simp only [Act.put, List.setIfInBounds_toArray, List.set_cons_zero, List.set_cons_succ]
        refine wpAnyH_take (i := 3) (v := .int .i64 gv) (get_ops _ _ _ rfl) (by kernel_rfl) (by kernel_rfl) (by kernel_rfl) (fun _ _ _ h => h) (Or.inl ⟨by rfl, fun wS hSw => by (try dsimp only at hSw); have cS : wS.cell? ⟨gb, go + k, none⟩ = some (.int .i64 gv) := hSw.2.2; clear hSw; go_simp⟩) hHeld ?_
        try simp only [Act.put, List.setIfInBounds_toArray, List.set_cons_zero, List.set_cons_succ]
        refine wpAnyH_take (i := 4) (v := .bool false) (get_ops _ _ _ rfl) (by kernel_rfl) (by kernel_rfl) (by kernel_rfl) (fun _ _ _ h => h) (Or.inl ⟨by rfl, fun wS hSw => by (try dsimp only at hSw); go_simp⟩) hHeld ?_
        try simp only [Act.put, List.setIfInBounds_toArray, List.set_cons_zero, List.set_cons_succ]
        refine wpAnyH_take (i := 5) (v := .bool false) (get_ops _ _ _ rfl) (by kernel_rfl) (by kernel_rfl) (by kernel_rfl) (fun _ _ _ h => h) (Or.inl ⟨by rfl, fun wS hSw => by (try dsimp only at hSw); go_simp⟩) hHeld ?_
        try simp only [Act.put, List.setIfInBounds_toArray, List.set_cons_zero, List.set_cons_succ]
        refine wpAnyH_take (i := 6) (v := .slice (some ⟨gb, go, none⟩) G.length c1) (get_ops _ _ _ rfl) (by kernel_rfl) (by kernel_rfl) (by kernel_rfl) (fun _ _ _ h => h) (Or.inl ⟨by rfl, fun wS hSw => by (try dsimp only at hSw); go_simp⟩) hHeld ?_
        try simp only [Act.put, List.setIfInBounds_toArray, List.set_cons_zero, List.set_cons_succ]
        refine wpAnyH_take (i := 7) (v := .int .i64 ((k : Int))) (get_ops _ _ _ rfl) (by kernel_rfl) (by kernel_rfl) (by kernel_rfl) (fun _ _ _ h => h) (Or.inl ⟨by rfl, fun wS hSw => by (try dsimp only at hSw); go_simp⟩) hHeld ?_
        try simp only [Act.put, List.setIfInBounds_toArray, List.set_cons_zero, List.set_cons_succ]
        refine wpAnyH_take (i := 8) (v := .pointer (some ⟨gb, go + k, none⟩)) (get_ops _ _ _ rfl) (by kernel_rfl) (by kernel_rfl) (by kernel_rfl) (fun _ _ _ h => h) (Or.inl ⟨by rfl, fun wS hSw => by (try dsimp only at hSw); go_simp⟩) hHeld ?_
        try simp only [Act.put, List.setIfInBounds_toArray, List.set_cons_zero, List.set_cons_succ]
        refine wpAnyH_take (i := 9) (v := .int .i64 gv) (get_ops _ _ _ rfl) (by kernel_rfl) (by kernel_rfl) (by kernel_rfl) (fun _ _ _ h => h) (Or.inl ⟨by rfl, fun wS hSw => by (try dsimp only at hSw); have cS : wS.cell? ⟨gb, go + k, none⟩ = some (.int .i64 gv) := hSw.2.2; clear hSw; go_simp⟩) hHeld ?_
        try simp only [Act.put, List.setIfInBounds_toArray, List.set_cons_zero, List.set_cons_succ]
        refine wpAnyH_take (i := 10) (v := .slice (some ⟨xb, xo, none⟩) X.length c) (get_ops _ _ _ rfl) (by kernel_rfl) (by kernel_rfl) (by kernel_rfl) (fun _ _ _ h => h) (Or.inl ⟨by rfl, fun wS hSw => by (try dsimp only at hSw); go_simp⟩) hHeld ?_
        try simp only [Act.put, List.setIfInBounds_toArray, List.set_cons_zero, List.set_cons_succ]
        refine wpAnyH_take (i := 11) (v := .int .i64 ((k : Int))) (get_ops _ _ _ rfl) (by kernel_rfl) (by kernel_rfl) (by kernel_rfl) (fun _ _ _ h => h) (Or.inl ⟨by rfl, fun wS hSw => by (try dsimp only at hSw); go_simp⟩) hHeld ?_
        try simp only [Act.put, List.setIfInBounds_toArray, List.set_cons_zero, List.set_cons_succ]
        refine wpAnyH_take (i := 12) (v := .pointer (some ⟨xb, xo + k * 2, none⟩)) (get_ops _ _ _ rfl) (by kernel_rfl) (by kernel_rfl) (by kernel_rfl) (fun _ _ _ h => h) (Or.inl ⟨by rfl, fun wS hSw => by (try dsimp only at hSw); go_simp⟩) hHeld ?_
        try simp only [Act.put, List.setIfInBounds_toArray, List.set_cons_zero, List.set_cons_succ]
        refine wpAnyH_take (i := 13) (v := .agg #[.int .i64 m, .int .i64 u]) (get_ops _ _ _ rfl) (by kernel_rfl) (by kernel_rfl) (by kernel_rfl) (fun _ _ _ h => h) (Or.inl ⟨by rfl, fun wS hSw => by (try dsimp only at hSw); exact exec_load 23 _ rfl ⟨xb, xo + k * 2, none⟩ (by go_simp) _ (run_load_pair hSw.1.2.1 hSw.1.2.2 Try.underlying23 rfl infoC2)⟩) hHeld ?_
        try simp only [Act.put, List.setIfInBounds_toArray, List.set_cons_zero, List.set_cons_succ]
        refine wpAnyH_ready (rs := [14]) (by kernel_rfl) (by simp) ?_
        refine (AllReadyH.cons (get_ops _ _ _ rfl) (fun K hK => ?_) AllReadyH.nil)
        go_simp
        go_at_call 18
        refine (CL.out dw21).mono ?_
        rintro e w22 ⟨rfl, hb⟩
        have B_w22 : Hid (Below w.heap.size w w22) := Lib.hid (stepB B_dw21.out hb)
        have SW_w22 : Hid (Below w2.heap.size w2 w22) := Lib.hid (stepB SW_dw21.out hb)
        have Sx_w22 : Hid ((xb < w22.heap.size ∧ w22.cell? ⟨xb, xo + k * 2, none⟩ = some (.int .i64 m) ∧ w22.cell? ⟨xb, xo + k * 2 + 1, none⟩ = some (.int .i64 u))) := Lib.hid (⟨Nat.lt_of_lt_of_le Sx_dw21.out.1 hb.size, (hb.cell (p := ⟨xb, xo + k * 2, none⟩) Sx_dw21.out.1).trans Sx_dw21.out.2.1, (hb.cell (p := ⟨xb, xo + k * 2 + 1, none⟩) Sx_dw21.out.1).trans Sx_dw21.out.2.2⟩)
        have Sgk_w22 : Hid ((gb < w22.heap.size ∧ w22.cell? ⟨gb, go + k, none⟩ = some (.int .i64 gv))) := Lib.hid (⟨Nat.lt_of_lt_of_le Sgk_dw21.out.1 hb.size, (hb.cell (p := ⟨gb, go + k, none⟩) Sgk_dw21.out.1).trans Sgk_dw21.out.2⟩)
        clear B_dw21 SW_dw21 Sx_dw21 Sgk_dw21
        clear hHeld hb
        go_wp2_with fail
        refine hK.out _ _ ⟨Sx_w22.out, Sgk_w22.out⟩ (fun hHeld => ?_)
        clear hK K
        try simp only [Act.put, List.setIfInBounds_toArray, List.set_cons_zero, List.set_cons_succ]
        refine wpAnyH_take (i := 15) (v := .bool false) (get_ops _ _ _ rfl) (by kernel_rfl) (by kernel_rfl) (by kernel_rfl) (fun _ _ _ h => h) (Or.inl ⟨by rfl, fun wS hSw => by (try dsimp only at hSw); go_simp⟩) hHeld ?_
        try simp only [Act.put, List.setIfInBounds_toArray, List.set_cons_zero, List.set_cons_succ]
        refine wpAnyH_take (i := 16) (v := .bool false) (get_ops _ _ _ rfl) (by kernel_rfl) (by kernel_rfl) (by kernel_rfl) (fun _ _ _ h => h) (Or.inl ⟨by rfl, fun wS hSw => by (try dsimp only at hSw); go_simp⟩) hHeld ?_
        try simp only [Act.put, List.setIfInBounds_toArray, List.set_cons_zero, List.set_cons_succ]
        refine wpAnyH_done (by kernel_rfl) ?_ _
        have kg := Sgk_w22.out.2
        go_upto_region 16 with fail
        clear kg
        cases mo with
        | true =>
          obtain ⟨dw23, hdw23⟩ : ∃ dw23, dw23 = World.drew w22 := ⟨_, rfl⟩
          have hbD : Below w22.heap.size w22 dw23 := by rw [hdw23]; exact (Below.refl _ _).drew
          have B_dw23 : Hid (Below w.heap.size w dw23) := Lib.hid (stepB B_w22.out hbD)
          have SW_dw23 : Hid (Below w2.heap.size w2 dw23) := Lib.hid (stepB SW_w22.out hbD)
          have Sx_dw23 : Hid ((xb < dw23.heap.size ∧ dw23.cell? ⟨xb, xo + k * 2, none⟩ = some (.int .i64 m) ∧ dw23.cell? ⟨xb, xo + k * 2 + 1, none⟩ = some (.int .i64 u))) := Lib.hid (⟨Nat.lt_of_lt_of_le Sx_w22.out.1 hbD.size, (hbD.cell (p := ⟨xb, xo + k * 2, none⟩) Sx_w22.out.1).trans Sx_w22.out.2.1, (hbD.cell (p := ⟨xb, xo + k * 2 + 1, none⟩) Sx_w22.out.1).trans Sx_w22.out.2.2⟩)
          have Sgk_dw23 : Hid ((gb < dw23.heap.size ∧ dw23.cell? ⟨gb, go + k, none⟩ = some (.int .i64 gv))) := Lib.hid (⟨Nat.lt_of_lt_of_le Sgk_w22.out.1 hbD.size, (hbD.cell (p := ⟨gb, go + k, none⟩) Sgk_w22.out.1).trans Sgk_w22.out.2⟩)
          clear B_w22 SW_w22 Sx_w22 Sgk_w22
          have hbd : (fun w' => (xb < w'.heap.size ∧ w'.cell? ⟨xb, xo + k * 2, none⟩ = some (.int .i64 m) ∧ w'.cell? ⟨xb, xo + k * 2 + 1, none⟩ = some (.int .i64 u)) ∧ (gb < w'.heap.size ∧ w'.cell? ⟨gb, go + k, none⟩ = some (.int .i64 gv))) (World.drew w22) := by rw [← hdw23]; exact ⟨Sx_dw23.out, Sgk_dw23.out⟩
          have hSD : (fun w' => (xb < w'.heap.size ∧ w'.cell? ⟨xb, xo + k * 2, none⟩ = some (.int .i64 m) ∧ w'.cell? ⟨xb, xo + k * 2 + 1, none⟩ = some (.int .i64 u)) ∧ (gb < w'.heap.size ∧ w'.cell? ⟨gb, go + k, none⟩ = some (.int .i64 gv))) dw23 := ⟨Sx_dw23.out, Sgk_dw23.out⟩
          have HWD := Lib.hid hdw23
          clear hdw23 hbD
          refine wp_region_held_drew (S := fun w' => (xb < w'.heap.size ∧ w'.cell? ⟨xb, xo + k * 2, none⟩ = some (.int .i64 m) ∧ w'.cell? ⟨xb, xo + k * 2 + 1, none⟩ = some (.int .i64 u)) ∧ (gb < w'.heap.size ∧ w'.cell? ⟨gb, go + k, none⟩ = some (.int .i64 gv))) (by kernel_rfl) hbd (fun hHeld => ?_)
          rw [← HWD.out]
          clear hHeld
          have hHeld := hSD
          clear hSD hbd HWD
          refine wpAnyH_take (i := 0) (v := .bool true) (get_ops _ _ _ rfl) (by kernel_rfl) (by kernel_rfl) (by kernel_rfl) (fun _ _ _ h => h) (Or.inl ⟨by rfl, fun wS hSw => by (try dsimp only at hSw); go_simp⟩) hHeld ?_
          try simp only [Act.put, List.setIfInBounds_toArray, List.set_cons_zero, List.set_cons_succ]
          refine wpAnyH_take (i := 1) (v := .bool true) (get_ops _ _ _ rfl) (by kernel_rfl) (by kernel_rfl) (by kernel_rfl) (fun _ _ _ h => h) (Or.inl ⟨by rfl, fun wS hSw => by (try dsimp only at hSw); go_simp⟩) hHeld ?_
          try simp only [Act.put, List.setIfInBounds_toArray, List.set_cons_zero, List.set_cons_succ]
          refine wpAnyH_take (i := 2) (v := undef) (get_ops _ _ _ rfl) (by kernel_rfl) (by kernel_rfl) (by kernel_rfl) (fun _ _ _ h => h) (Or.inr ⟨by rfl, rfl⟩) hHeld ?_
          try simp only [Act.put, List.setIfInBounds_toArray, List.set_cons_zero, List.set_cons_succ]
          refine wpAnyH_take (i := 3) (v := undef) (get_ops _ _ _ rfl) (by kernel_rfl) (by kernel_rfl) (by kernel_rfl) (fun _ _ _ h => h) (Or.inr ⟨by rfl, rfl⟩) hHeld ?_
          try simp only [Act.put, List.setIfInBounds_toArray, List.set_cons_zero, List.set_cons_succ]
          refine wpAnyH_take (i := 4) (v := undef) (get_ops _ _ _ rfl) (by kernel_rfl) (by kernel_rfl) (by kernel_rfl) (fun _ _ _ h => h) (Or.inr ⟨by rfl, rfl⟩) hHeld ?_
          try simp only [Act.put, List.setIfInBounds_toArray, List.set_cons_zero, List.set_cons_succ]
          refine wpAnyH_take (i := 5) (v := undef) (get_ops _ _ _ rfl) (by kernel_rfl) (by kernel_rfl) (by kernel_rfl) (fun _ _ _ h => h) (Or.inr ⟨by rfl, rfl⟩) hHeld ?_
          try simp only [Act.put, List.setIfInBounds_toArray, List.set_cons_zero, List.set_cons_succ]
          refine wpAnyH_take (i := 6) (v := undef) (get_ops _ _ _ rfl) (by kernel_rfl) (by kernel_rfl) (by kernel_rfl) (fun _ _ _ h => h) (Or.inr ⟨by rfl, rfl⟩) hHeld ?_
          try simp only [Act.put, List.setIfInBounds_toArray, List.set_cons_zero, List.set_cons_succ]
          refine wpAnyH_take (i := 7) (v := undef) (get_ops _ _ _ rfl) (by kernel_rfl) (by kernel_rfl) (by kernel_rfl) (fun _ _ _ h => h) (Or.inr ⟨by rfl, rfl⟩) hHeld ?_
          try simp only [Act.put, List.setIfInBounds_toArray, List.set_cons_zero, List.set_cons_succ]
          refine wpAnyH_take (i := 8) (v := undef) (get_ops _ _ _ rfl) (by kernel_rfl) (by kernel_rfl) (by kernel_rfl) (fun _ _ _ h => h) (Or.inr ⟨by rfl, rfl⟩) hHeld ?_
          try simp only [Act.put, List.setIfInBounds_toArray, List.set_cons_zero, List.set_cons_succ]
          refine wpAnyH_take (i := 9) (v := undef) (get_ops _ _ _ rfl) (by kernel_rfl) (by kernel_rfl) (by kernel_rfl) (fun _ _ _ h => h) (Or.inr ⟨by rfl, rfl⟩) hHeld ?_
          try simp only [Act.put, List.setIfInBounds_toArray, List.set_cons_zero, List.set_cons_succ]
          refine wpAnyH_take (i := 10) (v := undef) (get_ops _ _ _ rfl) (by kernel_rfl) (by kernel_rfl) (by kernel_rfl) (fun _ _ _ h => h) (Or.inr ⟨by rfl, rfl⟩) hHeld ?_
          try simp only [Act.put, List.setIfInBounds_toArray, List.set_cons_zero, List.set_cons_succ]
          refine wpAnyH_take (i := 11) (v := undef) (get_ops _ _ _ rfl) (by kernel_rfl) (by kernel_rfl) (by kernel_rfl) (fun _ _ _ h => h) (Or.inr ⟨by rfl, rfl⟩) hHeld ?_
          try simp only [Act.put, List.setIfInBounds_toArray, List.set_cons_zero, List.set_cons_succ]
          refine wpAnyH_take (i := 12) (v := .bool true) (get_ops _ _ _ rfl) (by kernel_rfl) (by kernel_rfl) (by kernel_rfl) (fun _ _ _ h => h) (Or.inl ⟨by rfl, fun wS hSw => by (try dsimp only at hSw); go_simp⟩) hHeld ?_
          try simp only [Act.put, List.setIfInBounds_toArray, List.set_cons_zero, List.set_cons_succ]
          refine wpAnyH_take (i := 13) (v := .bool true) (get_ops _ _ _ rfl) (by kernel_rfl) (by kernel_rfl) (by kernel_rfl) (fun _ _ _ h => h) (Or.inl ⟨by rfl, fun wS hSw => by (try dsimp only at hSw); go_simp⟩) hHeld ?_
          try simp only [Act.put, List.setIfInBounds_toArray, List.set_cons_zero, List.set_cons_succ]
          refine wpAnyH_done (by kernel_rfl) ?_ _
          go_wp2_with fail
          go_roundg g
          case measure => omega
          case rel => exact ⟨k + 1, by have := HG.out; omega, by first | rfl | exact nxt k (by have := HG.out; omega), by rw [HTT.out], by rw [HLS.out]; rfl, SW_dw23.out⟩
        | false =>
          obtain ⟨dw23, hdw23⟩ : ∃ dw23, dw23 = World.drew w22 := ⟨_, rfl⟩
          have hbD : Below w22.heap.size w22 dw23 := by rw [hdw23]; exact (Below.refl _ _).drew
          have B_dw23 : Hid (Below w.heap.size w dw23) := Lib.hid (stepB B_w22.out hbD)
          have SW_dw23 : Hid (Below w2.heap.size w2 dw23) := Lib.hid (stepB SW_w22.out hbD)
          have Sx_dw23 : Hid ((xb < dw23.heap.size ∧ dw23.cell? ⟨xb, xo + k * 2, none⟩ = some (.int .i64 m) ∧ dw23.cell? ⟨xb, xo + k * 2 + 1, none⟩ = some (.int .i64 u))) := Lib.hid (⟨Nat.lt_of_lt_of_le Sx_w22.out.1 hbD.size, (hbD.cell (p := ⟨xb, xo + k * 2, none⟩) Sx_w22.out.1).trans Sx_w22.out.2.1, (hbD.cell (p := ⟨xb, xo + k * 2 + 1, none⟩) Sx_w22.out.1).trans Sx_w22.out.2.2⟩)
          have Sgk_dw23 : Hid ((gb < dw23.heap.size ∧ dw23.cell? ⟨gb, go + k, none⟩ = some (.int .i64 gv))) := Lib.hid (⟨Nat.lt_of_lt_of_le Sgk_w22.out.1 hbD.size, (hbD.cell (p := ⟨gb, go + k, none⟩) Sgk_w22.out.1).trans Sgk_w22.out.2⟩)
          clear B_w22 SW_w22 Sx_w22 Sgk_w22
          have hbd : (fun w' => (xb < w'.heap.size ∧ w'.cell? ⟨xb, xo + k * 2, none⟩ = some (.int .i64 m) ∧ w'.cell? ⟨xb, xo + k * 2 + 1, none⟩ = some (.int .i64 u)) ∧ (gb < w'.heap.size ∧ w'.cell? ⟨gb, go + k, none⟩ = some (.int .i64 gv))) (World.drew w22) := by rw [← hdw23]; exact ⟨Sx_dw23.out, Sgk_dw23.out⟩
          have hSD : (fun w' => (xb < w'.heap.size ∧ w'.cell? ⟨xb, xo + k * 2, none⟩ = some (.int .i64 m) ∧ w'.cell? ⟨xb, xo + k * 2 + 1, none⟩ = some (.int .i64 u)) ∧ (gb < w'.heap.size ∧ w'.cell? ⟨gb, go + k, none⟩ = some (.int .i64 gv))) dw23 := ⟨Sx_dw23.out, Sgk_dw23.out⟩
          have HWD := Lib.hid hdw23
          clear hdw23 hbD
          refine wp_region_held_drew (S := fun w' => (xb < w'.heap.size ∧ w'.cell? ⟨xb, xo + k * 2, none⟩ = some (.int .i64 m) ∧ w'.cell? ⟨xb, xo + k * 2 + 1, none⟩ = some (.int .i64 u)) ∧ (gb < w'.heap.size ∧ w'.cell? ⟨gb, go + k, none⟩ = some (.int .i64 gv))) (by kernel_rfl) hbd (fun hHeld => ?_)
          rw [← HWD.out]
          clear hHeld
          have hHeld := hSD
          clear hSD hbd HWD
          refine wpAnyH_take (i := 0) (v := .bool false) (get_ops _ _ _ rfl) (by kernel_rfl) (by kernel_rfl) (by kernel_rfl) (fun _ _ _ h => h) (Or.inl ⟨by rfl, fun wS hSw => by (try dsimp only at hSw); go_simp⟩) hHeld ?_
          try simp only [Act.put, List.setIfInBounds_toArray, List.set_cons_zero, List.set_cons_succ]
          refine wpAnyH_take (i := 1) (v := .bool false) (get_ops _ _ _ rfl) (by kernel_rfl) (by kernel_rfl) (by kernel_rfl) (fun _ _ _ h => h) (Or.inl ⟨by rfl, fun wS hSw => by (try dsimp only at hSw); go_simp⟩) hHeld ?_
          try simp only [Act.put, List.setIfInBounds_toArray, List.set_cons_zero, List.set_cons_succ]
          refine wpAnyH_take (i := 2) (v := .slice (some ⟨gb, go, none⟩) G.length c1) (get_ops _ _ _ rfl) (by kernel_rfl) (by kernel_rfl) (by kernel_rfl) (fun _ _ _ h => h) (Or.inl ⟨by rfl, fun wS hSw => by (try dsimp only at hSw); go_simp⟩) hHeld ?_
          try simp only [Act.put, List.setIfInBounds_toArray, List.set_cons_zero, List.set_cons_succ]
          refine wpAnyH_take (i := 3) (v := .int .i64 ((k : Int))) (get_ops _ _ _ rfl) (by kernel_rfl) (by kernel_rfl) (by kernel_rfl) (fun _ _ _ h => h) (Or.inl ⟨by rfl, fun wS hSw => by (try dsimp only at hSw); go_simp⟩) hHeld ?_
          try simp only [Act.put, List.setIfInBounds_toArray, List.set_cons_zero, List.set_cons_succ]
          refine wpAnyH_take (i := 4) (v := .pointer (some ⟨gb, go + k, none⟩)) (get_ops _ _ _ rfl) (by kernel_rfl) (by kernel_rfl) (by kernel_rfl) (fun _ _ _ h => h) (Or.inl ⟨by rfl, fun wS hSw => by (try dsimp only at hSw); go_simp⟩) hHeld ?_
          try simp only [Act.put, List.setIfInBounds_toArray, List.set_cons_zero, List.set_cons_succ]
          refine wpAnyH_take (i := 5) (v := .int .i64 gv) (get_ops _ _ _ rfl) (by kernel_rfl) (by kernel_rfl) (by kernel_rfl) (fun _ _ _ h => h) (Or.inl ⟨by rfl, fun wS hSw => by (try dsimp only at hSw); have cS : wS.cell? ⟨gb, go + k, none⟩ = some (.int .i64 gv) := hSw.2.2; clear hSw; go_simp⟩) hHeld ?_
          try simp only [Act.put, List.setIfInBounds_toArray, List.set_cons_zero, List.set_cons_succ]
          refine wpAnyH_take (i := 6) (v := .slice (some ⟨xb, xo, none⟩) X.length c) (get_ops _ _ _ rfl) (by kernel_rfl) (by kernel_rfl) (by kernel_rfl) (fun _ _ _ h => h) (Or.inl ⟨by rfl, fun wS hSw => by (try dsimp only at hSw); go_simp⟩) hHeld ?_
          try simp only [Act.put, List.setIfInBounds_toArray, List.set_cons_zero, List.set_cons_succ]
          refine wpAnyH_take (i := 7) (v := .int .i64 ((k : Int))) (get_ops _ _ _ rfl) (by kernel_rfl) (by kernel_rfl) (by kernel_rfl) (fun _ _ _ h => h) (Or.inl ⟨by rfl, fun wS hSw => by (try dsimp only at hSw); go_simp⟩) hHeld ?_
          try simp only [Act.put, List.setIfInBounds_toArray, List.set_cons_zero, List.set_cons_succ]
          refine wpAnyH_take (i := 8) (v := .pointer (some ⟨xb, xo + k * 2, none⟩)) (get_ops _ _ _ rfl) (by kernel_rfl) (by kernel_rfl) (by kernel_rfl) (fun _ _ _ h => h) (Or.inl ⟨by rfl, fun wS hSw => by (try dsimp only at hSw); go_simp⟩) hHeld ?_
          try simp only [Act.put, List.setIfInBounds_toArray, List.set_cons_zero, List.set_cons_succ]
          refine wpAnyH_take (i := 9) (v := .agg #[.int .i64 m, .int .i64 u]) (get_ops _ _ _ rfl) (by kernel_rfl) (by kernel_rfl) (by kernel_rfl) (fun _ _ _ h => h) (Or.inl ⟨by rfl, fun wS hSw => by (try dsimp only at hSw); exact exec_load 23 _ rfl ⟨xb, xo + k * 2, none⟩ (by go_simp) _ (run_load_pair hSw.1.2.1 hSw.1.2.2 Try.underlying23 rfl infoC2)⟩) hHeld ?_
          try simp only [Act.put, List.setIfInBounds_toArray, List.set_cons_zero, List.set_cons_succ]
          refine wpAnyH_ready (rs := [10]) (by kernel_rfl) (by simp) ?_
          refine (AllReadyH.cons (get_ops _ _ _ rfl) (fun K hK => ?_) AllReadyH.nil)
          go_simp
          go_at_call 18
          refine (CL.out dw23).mono ?_
          rintro e w24 ⟨rfl, hb⟩
          have B_w24 : Hid (Below w.heap.size w w24) := Lib.hid (stepB B_dw23.out hb)
          have SW_w24 : Hid (Below w2.heap.size w2 w24) := Lib.hid (stepB SW_dw23.out hb)
          have Sx_w24 : Hid ((xb < w24.heap.size ∧ w24.cell? ⟨xb, xo + k * 2, none⟩ = some (.int .i64 m) ∧ w24.cell? ⟨xb, xo + k * 2 + 1, none⟩ = some (.int .i64 u))) := Lib.hid (⟨Nat.lt_of_lt_of_le Sx_dw23.out.1 hb.size, (hb.cell (p := ⟨xb, xo + k * 2, none⟩) Sx_dw23.out.1).trans Sx_dw23.out.2.1, (hb.cell (p := ⟨xb, xo + k * 2 + 1, none⟩) Sx_dw23.out.1).trans Sx_dw23.out.2.2⟩)
          have Sgk_w24 : Hid ((gb < w24.heap.size ∧ w24.cell? ⟨gb, go + k, none⟩ = some (.int .i64 gv))) := Lib.hid (⟨Nat.lt_of_lt_of_le Sgk_dw23.out.1 hb.size, (hb.cell (p := ⟨gb, go + k, none⟩) Sgk_dw23.out.1).trans Sgk_dw23.out.2⟩)
          clear B_dw23 SW_dw23 Sx_dw23 Sgk_dw23
          clear hHeld hb
          go_wp2_with fail
          refine hK.out _ _ ⟨Sx_w24.out, Sgk_w24.out⟩ (fun hHeld => ?_)
          clear hK K
          try simp only [Act.put, List.setIfInBounds_toArray, List.set_cons_zero, List.set_cons_succ]
          refine wpAnyH_take (i := 11) (v := .bool lt) (get_ops _ _ _ rfl) (by kernel_rfl) (by kernel_rfl) (by kernel_rfl) (fun _ _ _ h => h) (Or.inl ⟨by rfl, fun wS hSw => by (try dsimp only at hSw); go_simp⟩) hHeld ?_
          try simp only [Act.put, List.setIfInBounds_toArray, List.set_cons_zero, List.set_cons_succ]
          refine wpAnyH_take (i := 12) (v := .bool lt) (get_ops _ _ _ rfl) (by kernel_rfl) (by kernel_rfl) (by kernel_rfl) (fun _ _ _ h => h) (Or.inl ⟨by rfl, fun wS hSw => by (try dsimp only at hSw); go_simp⟩) hHeld ?_
          try simp only [Act.put, List.setIfInBounds_toArray, List.set_cons_zero, List.set_cons_succ]
          refine wpAnyH_take (i := 13) (v := .bool lt) (get_ops _ _ _ rfl) (by kernel_rfl) (by kernel_rfl) (by kernel_rfl) (fun _ _ _ h => h) (Or.inl ⟨by rfl, fun wS hSw => by (try dsimp only at hSw); go_simp⟩) hHeld ?_
          try simp only [Act.put, List.setIfInBounds_toArray, List.set_cons_zero, List.set_cons_succ]
          refine wpAnyH_done (by kernel_rfl) ?_ _
          go_wp2_with fail
          go_roundg g
          case measure => omega
          case rel => exact ⟨k + 1, by have := HG.out; omega, by first | rfl | exact nxt k (by have := HG.out; omega), by rw [HTT.out], by rw [HLS.out]; rfl, SW_w24.out⟩
  · have q4 : decide (1024 < (y : Int)) = false := decide_eq_false hc
    have q4n : decide (1024 < y) = false := decide_eq_false (by omega)
    have hmy : many = (y : Int) := by have := HMY.out; omega
    subst hmy
    clear hc
    go_enter Try.func7, Try.ntmps7
    go_wp2_with fail
    refine (CV.out w Sx_w.out).mono ?_
    rintro e w1 ⟨rfl, hb⟩
    have B_w1 : Hid (Below w.heap.size w w1) := Lib.hid (hb)
    have Sx_w1 : Hid (CrL w1 w1.heap.size A X) := Lib.hid (GL.step Sx_w.out hb)
    clear Sx_w
    clear hb
    go_wp2_with fail
    refine (C1.out w1 Sx_w1.out).mono ?_
    rintro e w2 ⟨A1, c1, rfl, _, hs1, hb⟩
    have B_w2 : Hid (Below w.heap.size w w2) := Lib.hid (stepB B_w1.out hb)
    have Sx_w2 : Hid (CrL w2 w2.heap.size A X) := Lib.hid (GL.step Sx_w1.out hb)
    clear B_w1 Sx_w1
    clear hb
    have Sg_w2 := Lib.hid (hs1)
    clear hs1
    go_wp2_with fail
    have HGG : Hid (∀ wr, Below w.heap.size w wr → Below w2.heap.size w2 wr → IL wr wr.heap.size A1 G) := Lib.hid (fun wr _ hb => CL.step Sg_w2.out hb)
    have HW : Hid (Below w.heap.size w w2) := Lib.hid B_w2.out
    clear Sx_w2 Sg_w2 B_w2 C1 CV
    go_loopg [10, 11, 12] X.length (fun g sm mo v wr => ∃ k : Nat, k + g = X.length ∧ v = .int .i64 k ∧ sm = .int .i64 (totL (G.take k)) ∧ mo = .bool (leftAny X G k) ∧ Below w2.heap.size w2 wr)
    case atStart => exact ⟨0, by omega, rfl, rfl, rfl, Below.refl _ _⟩
    case round =>
      rename World => wa
      rename Nat => ga
      obtain ⟨k, hkg, rfl, rfl, rfl, hbW⟩ := hrel
      have HBW := Lib.hid hbW
      have B_wa : Hid (Below w.heap.size w wa) := Lib.hid (stepB HW.out hbW)
      have HG := Lib.hid hkg
      cases ga with
      | zero =>
        obtain rfl : k = X.length := by omega
        have e3 : decide ((X.length : Int) < (X.length : Int)) = false := decide_eq_false (by omega)
        clear hkg hbW HG
        obtain ⟨sm, hsm⟩ : ∃ sm, totL (G.take X.length) = sm := ⟨_, rfl⟩
        obtain ⟨mo, hmo⟩ : ∃ mo, leftAny X G X.length = mo := ⟨_, rfl⟩
        rw [hsm, hmo]
        have HS : Hid (sm = totL G) := Lib.hid (by rw [← hsm, ← HFG.out.len, List.take_length])
        have HMO := Lib.hid hmo
        clear hsm hmo
        go_wp2_with fail
        go_loopg [13] X.length (fun g v wr => ∃ i : Nat, i + g = X.length ∧ v = .int .i64 i ∧ Below w2.heap.size w2 wr)
        case atStart => exact ⟨0, by omega, rfl, HBW.out⟩
        case round =>
          clear HBW B_wa
          rename World => wb
          rename Nat => gb2
          obtain ⟨i, hig, rfl, hbW⟩ := hrel
          have HBW := Lib.hid hbW
          have B_wb : Hid (Below w.heap.size w wb) := Lib.hid (stepB HW.out hbW)
          have HI := Lib.hid hig
          cases gb2 with
          | zero =>
            obtain rfl : i = X.length := by omega
            have e3 : decide ((X.length : Int) < (X.length : Int)) = false := decide_eq_false (by omega)
            clear hig hbW HI HBW
            have q5 : decide (sm ≤ (y : Int)) = true := decide_eq_true (by have := HFG.out.le; have := HS.out; omega)
            by_cases hem : sm = (y : Int)
            · have q6 : (sm == (y : Int)) = true := by simp [hem]
              clear hem
              go_wp2_with fail
              refine (HA.out wb).mono ?_
              rintro e w21 ⟨rfl, hb⟩
              have B_w21 : Hid (Below w.heap.size w w21) := Lib.hid (stepB B_wb.out hb)
              clear B_wb
              clear hb
              go_wp2_with fail
              go_ret
              exact ⟨rfl, B_w21.out⟩
            · have q6 : (sm == (y : Int)) = false := by simp [hem]
              have hm : mo = false := by
                rw [← HMO.out]
                refine leftAny_none fun i hi => ?_
                rcases HFG.out.all with h | h
                · exact absurd (HS.out.trans h) (by omega)
                · exact h i hi
              subst hm
              clear hem
              go_wp2_with fail
              refine (HA.out wb).mono ?_
              rintro e w21 ⟨rfl, hb⟩
              have B_w21 : Hid (Below w.heap.size w w21) := Lib.hid (stepB B_wb.out hb)
              clear B_wb
              clear hb
              go_wp2_with fail
              go_ret
              exact ⟨rfl, B_w21.out⟩
          | succ g2 =>
            have hlti : i < X.length := by omega
            have e3 : decide ((i : Int) < (X.length : Int)) = true := decide_eq_true (by omega)
            have e3n : decide (i < X.length) = true := decide_eq_true hlti
            go_wp2_with fail
            go_loopg [14] X.length (fun g v wr => ∃ k2 : Nat, k2 + g = X.length ∧ v = .int .i64 k2 ∧ Below w2.heap.size w2 wr)
            case atStart => exact ⟨0, by omega, rfl, HBW.out⟩
            case round =>
              clear HBW B_wb hbW hig
              rename World => wc
              rename Nat => gc2
              obtain ⟨k2, hkg2, rfl, hbW⟩ := hrel
              have HBW := Lib.hid hbW
              have B_wc : Hid (Below w.heap.size w wc) := Lib.hid (stepB HW.out hbW)
              have HK2 := Lib.hid hkg2
              cases gc2 with
              | zero =>
                obtain rfl : k2 = X.length := by omega
                have e4 : decide ((X.length : Int) < (X.length : Int)) = false := decide_eq_false (by omega)
                clear hkg2 hbW HK2
                go_wp2_with fail
                go_roundg g2
                case measure => omega
                case rel => exact ⟨i + 1, by have := HI.out; omega, by first | rfl | exact nxt i (by have := HI.out; omega), HBW.out⟩
              | succ g3 =>
                have hlt2 : k2 < X.length := by omega
                have e4 : decide ((k2 : Int) < (X.length : Int)) = true := decide_eq_true (by omega)
                have e4n : decide (k2 < X.length) = true := decide_eq_true hlt2
                obtain ⟨x, hx⟩ : ∃ x, X[i]? = some x := ⟨_, List.getElem?_eq_getElem hlti⟩
                obtain ⟨gv, hg⟩ : ∃ x, G[i]? = some x := ⟨_, List.getElem?_eq_getElem (by rw [HFG.out.len]; exact hlti)⟩
                obtain ⟨xb, xo, hA, hxb, k0, k1⟩ := CrL.at_ (HXX.out.step B_wc.out) hx
                obtain ⟨gb, go, hA1, hgb, kg⟩ := IL.at_ (HGG.out wc B_wc.out HBW.out) hg
                subst hA
                subst hA1
                have hxok := HOK.out x (List.mem_of_getElem? hx)
                have hgd := getD_of hg
                have hat := atC_of hx
                have hok := HFG.out.ok i hlti
                rw [hgd, hat] at hok
                obtain ⟨m, u⟩ := x
                dsimp only at k0 k1
                obtain ⟨z1, z2, z3, z4⟩ := okC_iff.1 hxok
                dsimp only at z1 z2 z3 z4
                have CL := Lib.hid (fun w => fLeftC_any m u (by omega) (by omega) (by omega) w)
                have j1 : (0 : Int) ≤ (i : Int) := by omega
                have j2 : (i : Int) < (X.length : Int) := by omega
                have j3 : (i : Int) < (G.length : Int) := by have := HFG.out.len; omega
                obtain ⟨gw, hg2⟩ : ∃ x, G[k2]? = some x := ⟨_, List.getElem?_eq_getElem (by rw [HFG.out.len]; exact hlt2)⟩
                have hfair := HFG.out.fair i k2 hlti hlt2
                rw [hgd, hat, getD_of hg2] at hfair
                have kg2 : wc.cell? ⟨gb, go + k2, none⟩ = some (.int .i64 gw) := by
                  obtain ⟨b9, o9, e9, _, k9⟩ := IL.at_ (HGG.out wc B_wc.out HBW.out) hg2
                  simp only [Option.some.injEq, Addr.mk.injEq, and_true] at e9
                  obtain ⟨rfl, rfl⟩ := e9
                  exact k9
                have j4 : (0 : Int) ≤ (k2 : Int) := by omega
                have j5 : (k2 : Int) < (G.length : Int) := by have := HFG.out.len; omega
                have SW_wc : Hid (Below w2.heap.size w2 wc) := HBW
                have Sx_wc : Hid ((xb < wc.heap.size ∧ wc.cell? ⟨xb, xo + i * 2, none⟩ = some (.int .i64 m) ∧ wc.cell? ⟨xb, xo + i * 2 + 1, none⟩ = some (.int .i64 u))) := Lib.hid ⟨Nat.lt_of_lt_of_le hxb (Nat.le_refl _), k0, k1⟩
                have Sgi_wc : Hid ((gb < wc.heap.size ∧ wc.cell? ⟨gb, go + i, none⟩ = some (.int .i64 gv))) := Lib.hid ⟨hgb, kg⟩
                have Sgk2_wc : Hid ((gb < wc.heap.size ∧ wc.cell? ⟨gb, go + k2, none⟩ = some (.int .i64 gw))) := Lib.hid ⟨hgb, kg2⟩
                have hlf : lfC (m, u) ≤ 1099511627776 := by unfold lfC; dsimp only; split <;> omega
                generalize lfC (m, u) = lf at CL hok hfair hlf
                have u9 : IntKind.i64.wrap (gv + 1) = gv + 1 := by rw [IntKind.wrap_i64]; omega
                by_cases hc1 : gv < lf
                · have q1 : decide (gv < lf) = true := decide_eq_true hc1
                  have q2 : decide (gv + 1 < gw) = false := decide_eq_false (by have := hfair hc1; omega)
                  clear hx hg hg2 hxok hgd hat hok hfair z1 z2 z3 z4 hxb hgb k0 k1 kg kg2 hbW hkg2 hlt2 hc1
                  go_upto_region 23 with fail
                  obtain ⟨dw21, hdw21⟩ : ∃ dw21, dw21 = World.drew wc := ⟨_, rfl⟩
                  have hbD : Below wc.heap.size wc dw21 := by rw [hdw21]; exact (Below.refl _ _).drew
                  have B_dw21 : Hid (Below w.heap.size w dw21) := Lib.hid (stepB B_wc.out hbD)
                  have SW_dw21 : Hid (Below w2.heap.size w2 dw21) := Lib.hid (stepB SW_wc.out hbD)
                  have Sx_dw21 : Hid ((xb < dw21.heap.size ∧ dw21.cell? ⟨xb, xo + i * 2, none⟩ = some (.int .i64 m) ∧ dw21.cell? ⟨xb, xo + i * 2 + 1, none⟩ = some (.int .i64 u))) := Lib.hid (⟨Nat.lt_of_lt_of_le Sx_wc.out.1 hbD.size, (hbD.cell (p := ⟨xb, xo + i * 2, none⟩) Sx_wc.out.1).trans Sx_wc.out.2.1, (hbD.cell (p := ⟨xb, xo + i * 2 + 1, none⟩) Sx_wc.out.1).trans Sx_wc.out.2.2⟩)
                  have Sgi_dw21 : Hid ((gb < dw21.heap.size ∧ dw21.cell? ⟨gb, go + i, none⟩ = some (.int .i64 gv))) := Lib.hid (⟨Nat.lt_of_lt_of_le Sgi_wc.out.1 hbD.size, (hbD.cell (p := ⟨gb, go + i, none⟩) Sgi_wc.out.1).trans Sgi_wc.out.2⟩)
                  have Sgk2_dw21 : Hid ((gb < dw21.heap.size ∧ dw21.cell? ⟨gb, go + k2, none⟩ = some (.int .i64 gw))) := Lib.hid (⟨Nat.lt_of_lt_of_le Sgk2_wc.out.1 hbD.size, (hbD.cell (p := ⟨gb, go + k2, none⟩) Sgk2_wc.out.1).trans Sgk2_wc.out.2⟩)
                  clear B_wc SW_wc Sx_wc Sgi_wc Sgk2_wc
                  have hbd : (fun w' => (xb < w'.heap.size ∧ w'.cell? ⟨xb, xo + i * 2, none⟩ = some (.int .i64 m) ∧ w'.cell? ⟨xb, xo + i * 2 + 1, none⟩ = some (.int .i64 u)) ∧ (gb < w'.heap.size ∧ w'.cell? ⟨gb, go + i, none⟩ = some (.int .i64 gv)) ∧ (gb < w'.heap.size ∧ w'.cell? ⟨gb, go + k2, none⟩ = some (.int .i64 gw))) (World.drew wc) := by rw [← hdw21]; exact ⟨Sx_dw21.out, Sgi_dw21.out, Sgk2_dw21.out⟩
                  have hSD : (fun w' => (xb < w'.heap.size ∧ w'.cell? ⟨xb, xo + i * 2, none⟩ = some (.int .i64 m) ∧ w'.cell? ⟨xb, xo + i * 2 + 1, none⟩ = some (.int .i64 u)) ∧ (gb < w'.heap.size ∧ w'.cell? ⟨gb, go + i, none⟩ = some (.int .i64 gv)) ∧ (gb < w'.heap.size ∧ w'.cell? ⟨gb, go + k2, none⟩ = some (.int .i64 gw))) dw21 := ⟨Sx_dw21.out, Sgi_dw21.out, Sgk2_dw21.out⟩
                  have HWD := Lib.hid hdw21
                  clear hdw21 hbD
                  refine wp_region_held_drew (S := fun w' => (xb < w'.heap.size ∧ w'.cell? ⟨xb, xo + i * 2, none⟩ = some (.int .i64 m) ∧ w'.cell? ⟨xb, xo + i * 2 + 1, none⟩ = some (.int .i64 u)) ∧ (gb < w'.heap.size ∧ w'.cell? ⟨gb, go + i, none⟩ = some (.int .i64 gv)) ∧ (gb < w'.heap.size ∧ w'.cell? ⟨gb, go + k2, none⟩ = some (.int .i64 gw))) (by kernel_rfl) hbd (fun hHeld => ?_)
                  rw [← HWD.out]
                  clear hHeld
                  have hHeld := hSD
                  clear hSD hbd HWD
                  refine wpAnyH_take (i := 0) (v := .slice (some ⟨gb, go, none⟩) G.length c1) (get_ops _ _ _ rfl) (by kernel_rfl) (by kernel_rfl) (by kernel_rfl) (fun _ _ _ h => h) (Or.inl ⟨by rfl, fun wS hSw => by (try dsimp only at hSw); go_simp⟩) hHeld ?_
                  try simp only [Act.put, List.setIfInBounds_toArray, List.set_cons_zero, List.set_cons_succ]
                  refine wpAnyH_take (i := 1) (v := .int .i64 ((i : Int))) (get_ops _ _ _ rfl) (by kernel_rfl) (by kernel_rfl) (by kernel_rfl) (fun _ _ _ h => h) (Or.inl ⟨by rfl, fun wS hSw => by (try dsimp only at hSw); go_simp⟩) hHeld ?_
                  try simp only [Act.put, List.setIfInBounds_toArray, List.set_cons_zero, List.set_cons_succ]
                  refine wpAnyH_take (i := 2) (v := .pointer (some ⟨gb, go + i, none⟩)) (get_ops _ _ _ rfl) (by kernel_rfl) (by kernel_rfl) (by kernel_rfl) (fun _ _ _ h => h) (Or.inl ⟨by rfl, fun wS hSw => by (try dsimp only at hSw); go_simp⟩) hHeld ?_
                  try simp only [Act.put, List.setIfInBounds_toArray, List.set_cons_zero, List.set_cons_succ]
                  refine wpAnyH_take (i := 3) (v := .int .i64 gv) (get_ops _ _ _ rfl) (by kernel_rfl) (by kernel_rfl) (by kernel_rfl) (fun _ _ _ h => h) (Or.inl ⟨by rfl, fun wS hSw => by (try dsimp only at hSw); have cS : wS.cell? ⟨gb, go + i, none⟩ = some (.int .i64 gv) := hSw.2.1.2; clear hSw; go_simp⟩) hHeld ?_
                  try simp only [Act.put, List.setIfInBounds_toArray, List.set_cons_zero, List.set_cons_succ]
                  refine wpAnyH_take (i := 4) (v := .slice (some ⟨xb, xo, none⟩) X.length c) (get_ops _ _ _ rfl) (by kernel_rfl) (by kernel_rfl) (by kernel_rfl) (fun _ _ _ h => h) (Or.inl ⟨by rfl, fun wS hSw => by (try dsimp only at hSw); go_simp⟩) hHeld ?_
                  try simp only [Act.put, List.setIfInBounds_toArray, List.set_cons_zero, List.set_cons_succ]
                  refine wpAnyH_take (i := 5) (v := .int .i64 ((i : Int))) (get_ops _ _ _ rfl) (by kernel_rfl) (by kernel_rfl) (by kernel_rfl) (fun _ _ _ h => h) (Or.inl ⟨by rfl, fun wS hSw => by (try dsimp only at hSw); go_simp⟩) hHeld ?_
                  try simp only [Act.put, List.setIfInBounds_toArray, List.set_cons_zero, List.set_cons_succ]
                  refine wpAnyH_take (i := 6) (v := .pointer (some ⟨xb, xo + i * 2, none⟩)) (get_ops _ _ _ rfl) (by kernel_rfl) (by kernel_rfl) (by kernel_rfl) (fun _ _ _ h => h) (Or.inl ⟨by rfl, fun wS hSw => by (try dsimp only at hSw); go_simp⟩) hHeld ?_
                  try simp only [Act.put, List.setIfInBounds_toArray, List.set_cons_zero, List.set_cons_succ]
                  refine wpAnyH_take (i := 7) (v := .agg #[.int .i64 m, .int .i64 u]) (get_ops _ _ _ rfl) (by kernel_rfl) (by kernel_rfl) (by kernel_rfl) (fun _ _ _ h => h) (Or.inl ⟨by rfl, fun wS hSw => by (try dsimp only at hSw); exact exec_load 23 _ rfl ⟨xb, xo + i * 2, none⟩ (by go_simp) _ (run_load_pair hSw.1.2.1 hSw.1.2.2 Try.underlying23 rfl infoC2)⟩) hHeld ?_
                  try simp only [Act.put, List.setIfInBounds_toArray, List.set_cons_zero, List.set_cons_succ]
                  refine wpAnyH_ready (rs := [8]) (by kernel_rfl) (by simp) ?_
                  refine (AllReadyH.cons (get_ops _ _ _ rfl) (fun K hK => ?_) AllReadyH.nil)
                  go_simp
                  go_at_call 18
                  refine (CL.out dw21).mono ?_
                  rintro e w22 ⟨rfl, hb⟩
                  have B_w22 : Hid (Below w.heap.size w w22) := Lib.hid (stepB B_dw21.out hb)
                  have SW_w22 : Hid (Below w2.heap.size w2 w22) := Lib.hid (stepB SW_dw21.out hb)
                  have Sx_w22 : Hid ((xb < w22.heap.size ∧ w22.cell? ⟨xb, xo + i * 2, none⟩ = some (.int .i64 m) ∧ w22.cell? ⟨xb, xo + i * 2 + 1, none⟩ = some (.int .i64 u))) := Lib.hid (⟨Nat.lt_of_lt_of_le Sx_dw21.out.1 hb.size, (hb.cell (p := ⟨xb, xo + i * 2, none⟩) Sx_dw21.out.1).trans Sx_dw21.out.2.1, (hb.cell (p := ⟨xb, xo + i * 2 + 1, none⟩) Sx_dw21.out.1).trans Sx_dw21.out.2.2⟩)
                  have Sgi_w22 : Hid ((gb < w22.heap.size ∧ w22.cell? ⟨gb, go + i, none⟩ = some (.int .i64 gv))) := Lib.hid (⟨Nat.lt_of_lt_of_le Sgi_dw21.out.1 hb.size, (hb.cell (p := ⟨gb, go + i, none⟩) Sgi_dw21.out.1).trans Sgi_dw21.out.2⟩)
                  have Sgk2_w22 : Hid ((gb < w22.heap.size ∧ w22.cell? ⟨gb, go + k2, none⟩ = some (.int .i64 gw))) := Lib.hid (⟨Nat.lt_of_lt_of_le Sgk2_dw21.out.1 hb.size, (hb.cell (p := ⟨gb, go + k2, none⟩) Sgk2_dw21.out.1).trans Sgk2_dw21.out.2⟩)
                  clear B_dw21 SW_dw21 Sx_dw21 Sgi_dw21 Sgk2_dw21
                  clear hHeld hb
                  go_wp2_with fail
                  refine hK.out _ _ ⟨Sx_w22.out, Sgi_w22.out, Sgk2_w22.out⟩ (fun hHeld => ?_)
                  clear hK K
                  try simp only [Act.put, List.setIfInBounds_toArray, List.set_cons_zero, List.set_cons_succ]
                  refine wpAnyH_take (i := 9) (v := .bool true) (get_ops _ _ _ rfl) (by kernel_rfl) (by kernel_rfl) (by kernel_rfl) (fun _ _ _ h => h) (Or.inl ⟨by rfl, fun wS hSw => by (try dsimp only at hSw); go_simp⟩) hHeld ?_
                  try simp only [Act.put, List.setIfInBounds_toArray, List.set_cons_zero, List.set_cons_succ]
                  refine wpAnyH_take (i := 10) (v := .bool true) (get_ops _ _ _ rfl) (by kernel_rfl) (by kernel_rfl) (by kernel_rfl) (fun _ _ _ h => h) (Or.inl ⟨by rfl, fun wS hSw => by (try dsimp only at hSw); go_simp⟩) hHeld ?_
                  try simp only [Act.put, List.setIfInBounds_toArray, List.set_cons_zero, List.set_cons_succ]
                  refine wpAnyH_take (i := 11) (v := .slice (some ⟨gb, go, none⟩) G.length c1) (get_ops _ _ _ rfl) (by kernel_rfl) (by kernel_rfl) (by kernel_rfl) (fun _ _ _ h => h) (Or.inl ⟨by rfl, fun wS hSw => by (try dsimp only at hSw); go_simp⟩) hHeld ?_
                  try simp only [Act.put, List.setIfInBounds_toArray, List.set_cons_zero, List.set_cons_succ]
                  refine wpAnyH_take (i := 12) (v := .int .i64 ((k2 : Int))) (get_ops _ _ _ rfl) (by kernel_rfl) (by kernel_rfl) (by kernel_rfl) (fun _ _ _ h => h) (Or.inl ⟨by rfl, fun wS hSw => by (try dsimp only at hSw); go_simp⟩) hHeld ?_
                  try simp only [Act.put, List.setIfInBounds_toArray, List.set_cons_zero, List.set_cons_succ]
                  refine wpAnyH_take (i := 13) (v := .pointer (some ⟨gb, go + k2, none⟩)) (get_ops _ _ _ rfl) (by kernel_rfl) (by kernel_rfl) (by kernel_rfl) (fun _ _ _ h => h) (Or.inl ⟨by rfl, fun wS hSw => by (try dsimp only at hSw); go_simp⟩) hHeld ?_
                  try simp only [Act.put, List.setIfInBounds_toArray, List.set_cons_zero, List.set_cons_succ]
                  refine wpAnyH_take (i := 14) (v := .int .i64 gw) (get_ops _ _ _ rfl) (by kernel_rfl) (by kernel_rfl) (by kernel_rfl) (fun _ _ _ h => h) (Or.inl ⟨by rfl, fun wS hSw => by (try dsimp only at hSw); have cS : wS.cell? ⟨gb, go + k2, none⟩ = some (.int .i64 gw) := hSw.2.2.2; clear hSw; go_simp⟩) hHeld ?_
                  try simp only [Act.put, List.setIfInBounds_toArray, List.set_cons_zero, List.set_cons_succ]
                  refine wpAnyH_take (i := 15) (v := .slice (some ⟨gb, go, none⟩) G.length c1) (get_ops _ _ _ rfl) (by kernel_rfl) (by kernel_rfl) (by kernel_rfl) (fun _ _ _ h => h) (Or.inl ⟨by rfl, fun wS hSw => by (try dsimp only at hSw); go_simp⟩) hHeld ?_
                  try simp only [Act.put, List.setIfInBounds_toArray, List.set_cons_zero, List.set_cons_succ]
                  refine wpAnyH_take (i := 16) (v := .int .i64 ((i : Int))) (get_ops _ _ _ rfl) (by kernel_rfl) (by kernel_rfl) (by kernel_rfl) (fun _ _ _ h => h) (Or.inl ⟨by rfl, fun wS hSw => by (try dsimp only at hSw); go_simp⟩) hHeld ?_
                  try simp only [Act.put, List.setIfInBounds_toArray, List.set_cons_zero, List.set_cons_succ]
                  refine wpAnyH_take (i := 17) (v := .pointer (some ⟨gb, go + i, none⟩)) (get_ops _ _ _ rfl) (by kernel_rfl) (by kernel_rfl) (by kernel_rfl) (fun _ _ _ h => h) (Or.inl ⟨by rfl, fun wS hSw => by (try dsimp only at hSw); go_simp⟩) hHeld ?_
                  try simp only [Act.put, List.setIfInBounds_toArray, List.set_cons_zero, List.set_cons_succ]
                  refine wpAnyH_take (i := 18) (v := .int .i64 gv) (get_ops _ _ _ rfl) (by kernel_rfl) (by kernel_rfl) (by kernel_rfl) (fun _ _ _ h => h) (Or.inl ⟨by rfl, fun wS hSw => by (try dsimp only at hSw); have cS : wS.cell? ⟨gb, go + i, none⟩ = some (.int .i64 gv) := hSw.2.1.2; clear hSw; go_simp⟩) hHeld ?_
                  try simp only [Act.put, List.setIfInBounds_toArray, List.set_cons_zero, List.set_cons_succ]
                  refine wpAnyH_take (i := 19) (v := .int .i64 ((gv + 1))) (get_ops _ _ _ rfl) (by kernel_rfl) (by kernel_rfl) (by kernel_rfl) (fun _ _ _ h => h) (Or.inl ⟨by rfl, fun wS hSw => by (try dsimp only at hSw); first | (go_simp; done) | (go_simp; exact u9)⟩) hHeld ?_
                  try simp only [Act.put, List.setIfInBounds_toArray, List.set_cons_zero, List.set_cons_succ]
                  refine wpAnyH_take (i := 20) (v := .bool false) (get_ops _ _ _ rfl) (by kernel_rfl) (by kernel_rfl) (by kernel_rfl) (fun _ _ _ h => h) (Or.inl ⟨by rfl, fun wS hSw => by (try dsimp only at hSw); go_simp⟩) hHeld ?_
                  try simp only [Act.put, List.setIfInBounds_toArray, List.set_cons_zero, List.set_cons_succ]
                  refine wpAnyH_take (i := 21) (v := .bool false) (get_ops _ _ _ rfl) (by kernel_rfl) (by kernel_rfl) (by kernel_rfl) (fun _ _ _ h => h) (Or.inl ⟨by rfl, fun wS hSw => by (try dsimp only at hSw); go_simp⟩) hHeld ?_
                  try simp only [Act.put, List.setIfInBounds_toArray, List.set_cons_zero, List.set_cons_succ]
                  refine wpAnyH_done (by kernel_rfl) ?_ _
                  go_wp2_with fail
                  go_roundg g3
                  case measure => omega
                  case rel => exact ⟨k2 + 1, by have := HK2.out; omega, by first | rfl | exact nxt k2 (by have := HK2.out; omega), SW_w22.out⟩
                · have q1 : decide (gv < lf) = false := decide_eq_false hc1
                  clear hx hg hg2 hxok hgd hat hok hfair z1 z2 z3 z4 hxb hgb k0 k1 kg kg2 hbW hkg2 hlt2 hc1
                  go_upto_region 23 with fail
                  obtain ⟨dw21, hdw21⟩ : ∃ dw21, dw21 = World.drew wc := ⟨_, rfl⟩
                  have hbD : Below wc.heap.size wc dw21 := by rw [hdw21]; exact (Below.refl _ _).drew
                  have B_dw21 : Hid (Below w.heap.size w dw21) := Lib.hid (stepB B_wc.out hbD)
                  have SW_dw21 : Hid (Below w2.heap.size w2 dw21) := Lib.hid (stepB SW_wc.out hbD)
                  have Sx_dw21 : Hid ((xb < dw21.heap.size ∧ dw21.cell? ⟨xb, xo + i * 2, none⟩ = some (.int .i64 m) ∧ dw21.cell? ⟨xb, xo + i * 2 + 1, none⟩ = some (.int .i64 u))) := Lib.hid (⟨Nat.lt_of_lt_of_le Sx_wc.out.1 hbD.size, (hbD.cell (p := ⟨xb, xo + i * 2, none⟩) Sx_wc.out.1).trans Sx_wc.out.2.1, (hbD.cell (p := ⟨xb, xo + i * 2 + 1, none⟩) Sx_wc.out.1).trans Sx_wc.out.2.2⟩)
                  have Sgi_dw21 : Hid ((gb < dw21.heap.size ∧ dw21.cell? ⟨gb, go + i, none⟩ = some (.int .i64 gv))) := Lib.hid (⟨Nat.lt_of_lt_of_le Sgi_wc.out.1 hbD.size, (hbD.cell (p := ⟨gb, go + i, none⟩) Sgi_wc.out.1).trans Sgi_wc.out.2⟩)
                  have Sgk2_dw21 : Hid ((gb < dw21.heap.size ∧ dw21.cell? ⟨gb, go + k2, none⟩ = some (.int .i64 gw))) := Lib.hid (⟨Nat.lt_of_lt_of_le Sgk2_wc.out.1 hbD.size, (hbD.cell (p := ⟨gb, go + k2, none⟩) Sgk2_wc.out.1).trans Sgk2_wc.out.2⟩)
                  clear B_wc SW_wc Sx_wc Sgi_wc Sgk2_wc
                  have hbd : (fun w' => (xb < w'.heap.size ∧ w'.cell? ⟨xb, xo + i * 2, none⟩ = some (.int .i64 m) ∧ w'.cell? ⟨xb, xo + i * 2 + 1, none⟩ = some (.int .i64 u)) ∧ (gb < w'.heap.size ∧ w'.cell? ⟨gb, go + i, none⟩ = some (.int .i64 gv)) ∧ (gb < w'.heap.size ∧ w'.cell? ⟨gb, go + k2, none⟩ = some (.int .i64 gw))) (World.drew wc) := by rw [← hdw21]; exact ⟨Sx_dw21.out, Sgi_dw21.out, Sgk2_dw21.out⟩
                  have hSD : (fun w' => (xb < w'.heap.size ∧ w'.cell? ⟨xb, xo + i * 2, none⟩ = some (.int .i64 m) ∧ w'.cell? ⟨xb, xo + i * 2 + 1, none⟩ = some (.int .i64 u)) ∧ (gb < w'.heap.size ∧ w'.cell? ⟨gb, go + i, none⟩ = some (.int .i64 gv)) ∧ (gb < w'.heap.size ∧ w'.cell? ⟨gb, go + k2, none⟩ = some (.int .i64 gw))) dw21 := ⟨Sx_dw21.out, Sgi_dw21.out, Sgk2_dw21.out⟩
                  have HWD := Lib.hid hdw21
                  clear hdw21 hbD
                  refine wp_region_held_drew (S := fun w' => (xb < w'.heap.size ∧ w'.cell? ⟨xb, xo + i * 2, none⟩ = some (.int .i64 m) ∧ w'.cell? ⟨xb, xo + i * 2 + 1, none⟩ = some (.int .i64 u)) ∧ (gb < w'.heap.size ∧ w'.cell? ⟨gb, go + i, none⟩ = some (.int .i64 gv)) ∧ (gb < w'.heap.size ∧ w'.cell? ⟨gb, go + k2, none⟩ = some (.int .i64 gw))) (by kernel_rfl) hbd (fun hHeld => ?_)
                  rw [← HWD.out]
                  clear hHeld
                  have hHeld := hSD
                  clear hSD hbd HWD
                  refine wpAnyH_take (i := 0) (v := .slice (some ⟨gb, go, none⟩) G.length c1) (get_ops _ _ _ rfl) (by kernel_rfl) (by kernel_rfl) (by kernel_rfl) (fun _ _ _ h => h) (Or.inl ⟨by rfl, fun wS hSw => by (try dsimp only at hSw); go_simp⟩) hHeld ?_
                  try simp only [Act.put, List.setIfInBounds_toArray, List.set_cons_zero, List.set_cons_succ]
                  refine wpAnyH_take (i := 1) (v := .int .i64 ((i : Int))) (get_ops _ _ _ rfl) (by kernel_rfl) (by kernel_rfl) (by kernel_rfl) (fun _ _ _ h => h) (Or.inl ⟨by rfl, fun wS hSw => by (try dsimp only at hSw); go_simp⟩) hHeld ?_
                  try simp only [Act.put, List.setIfInBounds_toArray, List.set_cons_zero, List.set_cons_succ]
                  refine wpAnyH_take (i := 2) (v := .pointer (some ⟨gb, go + i, none⟩)) (get_ops _ _ _ rfl) (by kernel_rfl) (by kernel_rfl) (by kernel_rfl) (fun _ _ _ h => h) (Or.inl ⟨by rfl, fun wS hSw => by (try dsimp only at hSw); go_simp⟩) hHeld ?_
                  try simp only [Act.put, List.setIfInBounds_toArray, List.set_cons_zero, List.set_cons_succ]
                  refine wpAnyH_take (i := 3) (v := .int .i64 gv) (get_ops _ _ _ rfl) (by kernel_rfl) (by kernel_rfl) (by kernel_rfl) (fun _ _ _ h => h) (Or.inl ⟨by rfl, fun wS hSw => by (try dsimp only at hSw); have cS : wS.cell? ⟨gb, go + i, none⟩ = some (.int .i64 gv) := hSw.2.1.2; clear hSw; go_simp⟩) hHeld ?_
                  try simp only [Act.put, List.setIfInBounds_toArray, List.set_cons_zero, List.set_cons_succ]
                  refine wpAnyH_take (i := 4) (v := .slice (some ⟨xb, xo, none⟩) X.length c) (get_ops _ _ _ rfl) (by kernel_rfl) (by kernel_rfl) (by kernel_rfl) (fun _ _ _ h => h) (Or.inl ⟨by rfl, fun wS hSw => by (try dsimp only at hSw); go_simp⟩) hHeld ?_
                  try simp only [Act.put, List.setIfInBounds_toArray, List.set_cons_zero, List.set_cons_succ]
                  refine wpAnyH_take (i := 5) (v := .int .i64 ((i : Int))) (get_ops _ _ _ rfl) (by kernel_rfl) (by kernel_rfl) (by kernel_rfl) (fun _ _ _ h => h) (Or.inl ⟨by rfl, fun wS hSw => by (try dsimp only at hSw); go_simp⟩) hHeld ?_
                  try simp only [Act.put, List.setIfInBounds_toArray, List.set_cons_zero, List.set_cons_succ]
                  refine wpAnyH_take (i := 6) (v := .pointer (some ⟨xb, xo + i * 2, none⟩)) (get_ops _ _ _ rfl) (by kernel_rfl) (by kernel_rfl) (by kernel_rfl) (fun _ _ _ h => h) (Or.inl ⟨by rfl, fun wS hSw => by (try dsimp only at hSw); go_simp⟩) hHeld ?_
                  try simp only [Act.put, List.setIfInBounds_toArray, List.set_cons_zero, List.set_cons_succ]
                  refine wpAnyH_take (i := 7) (v := .agg #[.int .i64 m, .int .i64 u]) (get_ops _ _ _ rfl) (by kernel_rfl) (by kernel_rfl) (by kernel_rfl) (fun _ _ _ h => h) (Or.inl ⟨by rfl, fun wS hSw => by (try dsimp only at hSw); exact exec_load 23 _ rfl ⟨xb, xo + i * 2, none⟩ (by go_simp) _ (run_load_pair hSw.1.2.1 hSw.1.2.2 Try.underlying23 rfl infoC2)⟩) hHeld ?_
                  try simp only [Act.put, List.setIfInBounds_toArray, List.set_cons_zero, List.set_cons_succ]
                  refine wpAnyH_ready (rs := [8]) (by kernel_rfl) (by simp) ?_
                  refine (AllReadyH.cons (get_ops _ _ _ rfl) (fun K hK => ?_) AllReadyH.nil)
                  go_simp
                  go_at_call 18
                  refine (CL.out dw21).mono ?_
                  rintro e w22 ⟨rfl, hb⟩
                  have B_w22 : Hid (Below w.heap.size w w22) := Lib.hid (stepB B_dw21.out hb)
                  have SW_w22 : Hid (Below w2.heap.size w2 w22) := Lib.hid (stepB SW_dw21.out hb)
                  have Sx_w22 : Hid ((xb < w22.heap.size ∧ w22.cell? ⟨xb, xo + i * 2, none⟩ = some (.int .i64 m) ∧ w22.cell? ⟨xb, xo + i * 2 + 1, none⟩ = some (.int .i64 u))) := Lib.hid (⟨Nat.lt_of_lt_of_le Sx_dw21.out.1 hb.size, (hb.cell (p := ⟨xb, xo + i * 2, none⟩) Sx_dw21.out.1).trans Sx_dw21.out.2.1, (hb.cell (p := ⟨xb, xo + i * 2 + 1, none⟩) Sx_dw21.out.1).trans Sx_dw21.out.2.2⟩)
                  have Sgi_w22 : Hid ((gb < w22.heap.size ∧ w22.cell? ⟨gb, go + i, none⟩ = some (.int .i64 gv))) := Lib.hid (⟨Nat.lt_of_lt_of_le Sgi_dw21.out.1 hb.size, (hb.cell (p := ⟨gb, go + i, none⟩) Sgi_dw21.out.1).trans Sgi_dw21.out.2⟩)
                  have Sgk2_w22 : Hid ((gb < w22.heap.size ∧ w22.cell? ⟨gb, go + k2, none⟩ = some (.int .i64 gw))) := Lib.hid (⟨Nat.lt_of_lt_of_le Sgk2_dw21.out.1 hb.size, (hb.cell (p := ⟨gb, go + k2, none⟩) Sgk2_dw21.out.1).trans Sgk2_dw21.out.2⟩)
                  clear B_dw21 SW_dw21 Sx_dw21 Sgi_dw21 Sgk2_dw21
                  clear hHeld hb
                  go_wp2_with fail
                  refine hK.out _ _ ⟨Sx_w22.out, Sgi_w22.out, Sgk2_w22.out⟩ (fun hHeld => ?_)
                  clear hK K
                  try simp only [Act.put, List.setIfInBounds_toArray, List.set_cons_zero, List.set_cons_succ]
                  refine wpAnyH_take (i := 9) (v := .bool false) (get_ops _ _ _ rfl) (by kernel_rfl) (by kernel_rfl) (by kernel_rfl) (fun _ _ _ h => h) (Or.inl ⟨by rfl, fun wS hSw => by (try dsimp only at hSw); go_simp⟩) hHeld ?_
                  try simp only [Act.put, List.setIfInBounds_toArray, List.set_cons_zero, List.set_cons_succ]
                  refine wpAnyH_take (i := 10) (v := .bool false) (get_ops _ _ _ rfl) (by kernel_rfl) (by kernel_rfl) (by kernel_rfl) (fun _ _ _ h => h) (Or.inl ⟨by rfl, fun wS hSw => by (try dsimp only at hSw); go_simp⟩) hHeld ?_
                  try simp only [Act.put, List.setIfInBounds_toArray, List.set_cons_zero, List.set_cons_succ]
                  refine wpAnyH_take (i := 11) (v := undef) (get_ops _ _ _ rfl) (by kernel_rfl) (by kernel_rfl) (by kernel_rfl) (fun _ _ _ h => h) (Or.inr ⟨by rfl, rfl⟩) hHeld ?_
                  try simp only [Act.put, List.setIfInBounds_toArray, List.set_cons_zero, List.set_cons_succ]
                  refine wpAnyH_take (i := 12) (v := undef) (get_ops _ _ _ rfl) (by kernel_rfl) (by kernel_rfl) (by kernel_rfl) (fun _ _ _ h => h) (Or.inr ⟨by rfl, rfl⟩) hHeld ?_
                  try simp only [Act.put, List.setIfInBounds_toArray, List.set_cons_zero, List.set_cons_succ]
                  refine wpAnyH_take (i := 13) (v := undef) (get_ops _ _ _ rfl) (by kernel_rfl) (by kernel_rfl) (by kernel_rfl) (fun _ _ _ h => h) (Or.inr ⟨by rfl, rfl⟩) hHeld ?_
                  try simp only [Act.put, List.setIfInBounds_toArray, List.set_cons_zero, List.set_cons_succ]
                  refine wpAnyH_take (i := 14) (v := undef) (get_ops _ _ _ rfl) (by kernel_rfl) (by kernel_rfl) (by kernel_rfl) (fun _ _ _ h => h) (Or.inr ⟨by rfl, rfl⟩) hHeld ?_
                  try simp only [Act.put, List.setIfInBounds_toArray, List.set_cons_zero, List.set_cons_succ]
                  refine wpAnyH_take (i := 15) (v := undef) (get_ops _ _ _ rfl) (by kernel_rfl) (by kernel_rfl) (by kernel_rfl) (fun _ _ _ h => h) (Or.inr ⟨by rfl, rfl⟩) hHeld ?_
                  try simp only [Act.put, List.setIfInBounds_toArray, List.set_cons_zero, List.set_cons_succ]
                  refine wpAnyH_take (i := 16) (v := undef) (get_ops _ _ _ rfl) (by kernel_rfl) (by kernel_rfl) (by kernel_rfl) (fun _ _ _ h => h) (Or.inr ⟨by rfl, rfl⟩) hHeld ?_
                  try simp only [Act.put, List.setIfInBounds_toArray, List.set_cons_zero, List.set_cons_succ]
                  refine wpAnyH_take (i := 17) (v := undef) (get_ops _ _ _ rfl) (by kernel_rfl) (by kernel_rfl) (by kernel_rfl) (fun _ _ _ h => h) (Or.inr ⟨by rfl, rfl⟩) hHeld ?_
                  try simp only [Act.put, List.setIfInBounds_toArray, List.set_cons_zero, List.set_cons_succ]
                  refine wpAnyH_take (i := 18) (v := undef) (get_ops _ _ _ rfl) (by kernel_rfl) (by kernel_rfl) (by kernel_rfl) (fun _ _ _ h => h) (Or.inr ⟨by rfl, rfl⟩) hHeld ?_
                  try simp only [Act.put, List.setIfInBounds_toArray, List.set_cons_zero, List.set_cons_succ]
                  refine wpAnyH_take (i := 19) (v := undef) (get_ops _ _ _ rfl) (by kernel_rfl) (by kernel_rfl) (by kernel_rfl) (fun _ _ _ h => h) (Or.inr ⟨by rfl, rfl⟩) hHeld ?_
                  try simp only [Act.put, List.setIfInBounds_toArray, List.set_cons_zero, List.set_cons_succ]
                  refine wpAnyH_take (i := 20) (v := undef) (get_ops _ _ _ rfl) (by kernel_rfl) (by kernel_rfl) (by kernel_rfl) (fun _ _ _ h => h) (Or.inr ⟨by rfl, rfl⟩) hHeld ?_
                  try simp only [Act.put, List.setIfInBounds_toArray, List.set_cons_zero, List.set_cons_succ]
                  refine wpAnyH_take (i := 21) (v := .bool false) (get_ops _ _ _ rfl) (by kernel_rfl) (by kernel_rfl) (by kernel_rfl) (fun _ _ _ h => h) (Or.inl ⟨by rfl, fun wS hSw => by (try dsimp only at hSw); go_simp⟩) hHeld ?_
                  try simp only [Act.put, List.setIfInBounds_toArray, List.set_cons_zero, List.set_cons_succ]
                  refine wpAnyH_done (by kernel_rfl) ?_ _
                  go_wp2_with fail
                  go_roundg g3
                  case measure => omega
                  case rel => exact ⟨k2 + 1, by have := HK2.out; omega, by first | rfl | exact nxt k2 (by have := HK2.out; omega), SW_w22.out⟩
      | succ g =>
        have hltk : k < X.length := by omega
        have e3 : decide ((k : Int) < (X.length : Int)) = true := decide_eq_true (by omega)
        have e3n : decide (k < X.length) = true := decide_eq_true hltk
        obtain ⟨x, hx⟩ : ∃ x, X[k]? = some x := ⟨_, List.getElem?_eq_getElem hltk⟩
        obtain ⟨gv, hg⟩ : ∃ x, G[k]? = some x := ⟨_, List.getElem?_eq_getElem (by rw [HFG.out.len]; exact hltk)⟩
        obtain ⟨xb, xo, hA, hxb, k0, k1⟩ := CrL.at_ (HXX.out.step B_wa.out) hx
        obtain ⟨gb, go, hA1, hgb, kg⟩ := IL.at_ (HGG.out wa B_wa.out HBW.out) hg
        subst hA
        subst hA1
        have hxok := HOK.out x (List.mem_of_getElem? hx)
        have hgd := getD_of hg
        have hat := atC_of hx
        have hok := HFG.out.ok k hltk
        rw [hgd, hat] at hok
        obtain ⟨m, u⟩ := x
        dsimp only at k0 k1
        obtain ⟨z1, z2, z3, z4⟩ := okC_iff.1 hxok
        dsimp only at z1 z2 z3 z4
        have CL := Lib.hid (fun w => fLeftC_any m u (by omega) (by omega) (by omega) w)
        have j1 : (0 : Int) ≤ (k : Int) := by omega
        have j2 : (k : Int) < (X.length : Int) := by omega
        have j3 : (k : Int) < (G.length : Int) := by have := HFG.out.len; omega
        have htot := tot_take hg
        have hnn := HFG.out.nonneg
        have htl := tot_take_le hnn (k + 1)
        have htz := tot_nonneg (G := G.take k) (fun x hx => hnn x (List.mem_of_mem_take hx))
        have hle := HFG.out.le
        have hm1 := HFG.out.m1
        have HLS : Hid (leftAny X G (k + 1) = (leftAny X G k || decide (gv < lfC (m, u)))) := Lib.hid (by rw [leftAny_succ, hgd, hat])
        generalize lfC (m, u) = lf at CL hok HLS
        generalize htk : totL (G.take k) = tk at htot htz
        have w9 : wrap64 (tk + gv) = tk + gv := wrap64_id _ (by omega) (by omega)
        have HTT : Hid (totL (G.take (k + 1)) = tk + gv) := Lib.hid htot
        have q1 : decide (gv < 0) = false := decide_eq_false (by omega)
        have q2 : decide (lf < gv) = false := decide_eq_false (by omega)
        obtain ⟨lt, hlt9⟩ : ∃ lt, decide (gv < lf) = lt := ⟨_, rfl⟩
        rw [hlt9] at HLS
        obtain ⟨mo, hmo⟩ : ∃ mo, leftAny X G k = mo := ⟨_, rfl⟩
        rw [hmo] at HLS
        rw [hmo]
        have SW_wa : Hid (Below w2.heap.size w2 wa) := HBW
        have Sx_wa : Hid ((xb < wa.heap.size ∧ wa.cell? ⟨xb, xo + k * 2, none⟩ = some (.int .i64 m) ∧ wa.cell? ⟨xb, xo + k * 2 + 1, none⟩ = some (.int .i64 u))) := Lib.hid ⟨hxb, k0, k1⟩
        have Sgk_wa : Hid ((gb < wa.heap.size ∧ wa.cell? ⟨gb, go + k, none⟩ = some (.int .i64 gv))) := Lib.hid ⟨hgb, kg⟩
        clear hx hg hxok hgd hat hok z1 z2 z3 z4 hxb hgb k0 k1 kg hbW hkg htot hnn htl htz hle hm1 htk hmo
        go_upto_region 13 with fail
        obtain ⟨dw21, hdw21⟩ : ∃ dw21, dw21 = World.drew wa := ⟨_, rfl⟩
        have hbD : Below wa.heap.size wa dw21 := by rw [hdw21]; exact (Below.refl _ _).drew
        have B_dw21 : Hid (Below w.heap.size w dw21) := Lib.hid (stepB B_wa.out hbD)
        have SW_dw21 : Hid (Below w2.heap.size w2 dw21) := Lib.hid (stepB SW_wa.out hbD)
        have Sx_dw21 : Hid ((xb < dw21.heap.size ∧ dw21.cell? ⟨xb, xo + k * 2, none⟩ = some (.int .i64 m) ∧ dw21.cell? ⟨xb, xo + k * 2 + 1, none⟩ = some (.int .i64 u))) := Lib.hid (⟨Nat.lt_of_lt_of_le Sx_wa.out.1 hbD.size, (hbD.cell (p := ⟨xb, xo + k * 2, none⟩) Sx_wa.out.1).trans Sx_wa.out.2.1, (hbD.cell (p := ⟨xb, xo + k * 2 + 1, none⟩) Sx_wa.out.1).trans Sx_wa.out.2.2⟩)
        have Sgk_dw21 : Hid ((gb < dw21.heap.size ∧ dw21.cell? ⟨gb, go + k, none⟩ = some (.int .i64 gv))) := Lib.hid (⟨Nat.lt_of_lt_of_le Sgk_wa.out.1 hbD.size, (hbD.cell (p := ⟨gb, go + k, none⟩) Sgk_wa.out.1).trans Sgk_wa.out.2⟩)
        clear B_wa SW_wa Sx_wa Sgk_wa
        have hbd : (fun w' => (xb < w'.heap.size ∧ w'.cell? ⟨xb, xo + k * 2, none⟩ = some (.int .i64 m) ∧ w'.cell? ⟨xb, xo + k * 2 + 1, none⟩ = some (.int .i64 u)) ∧ (gb < w'.heap.size ∧ w'.cell? ⟨gb, go + k, none⟩ = some (.int .i64 gv))) (World.drew wa) := by rw [← hdw21]; exact ⟨Sx_dw21.out, Sgk_dw21.out⟩
        have hSD : (fun w' => (xb < w'.heap.size ∧ w'.cell? ⟨xb, xo + k * 2, none⟩ = some (.int .i64 m) ∧ w'.cell? ⟨xb, xo + k * 2 + 1, none⟩ = some (.int .i64 u)) ∧ (gb < w'.heap.size ∧ w'.cell? ⟨gb, go + k, none⟩ = some (.int .i64 gv))) dw21 := ⟨Sx_dw21.out, Sgk_dw21.out⟩
        have HWD := Lib.hid hdw21
        clear hdw21 hbD
        refine wp_region_held_drew (S := fun w' => (xb < w'.heap.size ∧ w'.cell? ⟨xb, xo + k * 2, none⟩ = some (.int .i64 m) ∧ w'.cell? ⟨xb, xo + k * 2 + 1, none⟩ = some (.int .i64 u)) ∧ (gb < w'.heap.size ∧ w'.cell? ⟨gb, go + k, none⟩ = some (.int .i64 gv))) (by kernel_rfl) hbd (fun hHeld => ?_)
        rw [← HWD.out]
        clear hHeld
        have hHeld := hSD
        clear hSD hbd HWD
        refine wpAnyH_take (i := 0) (v := .slice (some ⟨gb, go, none⟩) G.length c1) (get_ops _ _ _ rfl) (by kernel_rfl) (by kernel_rfl) (by kernel_rfl) (fun _ _ _ h => h) (Or.inl ⟨by rfl, fun wS hSw => by (try dsimp only at hSw); go_simp⟩) hHeld ?_
        try simp only [Act.put, List.setIfInBounds_toArray, List.set_cons_zero, List.set_cons_succ]
        refine wpAnyH_take (i := 1) (v := .int .i64 ((k : Int))) (get_ops _ _ _ rfl) (by kernel_rfl) (by kernel_rfl) (by kernel_rfl) (fun _ _ _ h => h) (Or.inl ⟨by rfl, fun wS hSw => by (try dsimp only at hSw); go_simp⟩) hHeld ?_
        try simp only [Act.put, List.setIfInBounds_toArray, List.set_cons_zero, List.set_cons_succ]
        refine wpAnyH_take (i := 2) (v := .pointer (some ⟨gb, go + k, none⟩)) (get_ops _ _ _ rfl) (by kernel_rfl) (by kernel_rfl) (by kernel_rfl) (fun _ _ _ h => h) (Or.inl ⟨by rfl, fun wS hSw => by (try dsimp only at hSw); go_simp⟩) hHeld ?_
        try simp only [Act.put, List.setIfInBounds_toArray, List.set_cons_zero, List.set_cons_succ]
        refine wpAnyH_take (i := 3) (v := .int .i64 gv) (get_ops _ _ _ rfl) (by kernel_rfl) (by kernel_rfl) (by kernel_rfl) (fun _ _ _ h => h) (Or.inl ⟨by rfl, fun wS hSw => by (try dsimp only at hSw); have cS : wS.cell? ⟨gb, go + k, none⟩ = some (.int .i64 gv) := hSw.2.2; clear hSw; go_simp⟩) hHeld ?_
        try simp only [Act.put, List.setIfInBounds_toArray, List.set_cons_zero, List.set_cons_succ]
        refine wpAnyH_take (i := 4) (v := .bool false) (get_ops _ _ _ rfl) (by kernel_rfl) (by kernel_rfl) (by kernel_rfl) (fun _ _ _ h => h) (Or.inl ⟨by rfl, fun wS hSw => by (try dsimp only at hSw); go_simp⟩) hHeld ?_
        try simp only [Act.put, List.setIfInBounds_toArray, List.set_cons_zero, List.set_cons_succ]
        refine wpAnyH_take (i := 5) (v := .bool false) (get_ops _ _ _ rfl) (by kernel_rfl) (by kernel_rfl) (by kernel_rfl) (fun _ _ _ h => h) (Or.inl ⟨by rfl, fun wS hSw => by (try dsimp only at hSw); go_simp⟩) hHeld ?_
        try simp only [Act.put, List.setIfInBounds_toArray, List.set_cons_zero, List.set_cons_succ]
        refine wpAnyH_take (i := 6) (v := .slice (some ⟨gb, go, none⟩) G.length c1) (get_ops _ _ _ rfl) (by kernel_rfl) (by kernel_rfl) (by kernel_rfl) (fun _ _ _ h => h) (Or.inl ⟨by rfl, fun wS hSw => by (try dsimp only at hSw); go_simp⟩) hHeld ?_
        try simp only [Act.put, List.setIfInBounds_toArray, List.set_cons_zero, List.set_cons_succ]
        refine wpAnyH_take (i := 7) (v := .int .i64 ((k : Int))) (get_ops _ _ _ rfl) (by kernel_rfl) (by kernel_rfl) (by kernel_rfl) (fun _ _ _ h => h) (Or.inl ⟨by rfl, fun wS hSw => by (try dsimp only at hSw); go_simp⟩) hHeld ?_
        try simp only [Act.put, List.setIfInBounds_toArray, List.set_cons_zero, List.set_cons_succ]
        refine wpAnyH_take (i := 8) (v := .pointer (some ⟨gb, go + k, none⟩)) (get_ops _ _ _ rfl) (by kernel_rfl) (by kernel_rfl) (by kernel_rfl) (fun _ _ _ h => h) (Or.inl ⟨by rfl, fun wS hSw => by (try dsimp only at hSw); go_simp⟩) hHeld ?_
        try simp only [Act.put, List.setIfInBounds_toArray, List.set_cons_zero, List.set_cons_succ]
        refine wpAnyH_take (i := 9) (v := .int .i64 gv) (get_ops _ _ _ rfl) (by kernel_rfl) (by kernel_rfl) (by kernel_rfl) (fun _ _ _ h => h) (Or.inl ⟨by rfl, fun wS hSw => by (try dsimp only at hSw); have cS : wS.cell? ⟨gb, go + k, none⟩ = some (.int .i64 gv) := hSw.2.2; clear hSw; go_simp⟩) hHeld ?_
        try simp only [Act.put, List.setIfInBounds_toArray, List.set_cons_zero, List.set_cons_succ]
        refine wpAnyH_take (i := 10) (v := .slice (some ⟨xb, xo, none⟩) X.length c) (get_ops _ _ _ rfl) (by kernel_rfl) (by kernel_rfl) (by kernel_rfl) (fun _ _ _ h => h) (Or.inl ⟨by rfl, fun wS hSw => by (try dsimp only at hSw); go_simp⟩) hHeld ?_
        try simp only [Act.put, List.setIfInBounds_toArray, List.set_cons_zero, List.set_cons_succ]
        refine wpAnyH_take (i := 11) (v := .int .i64 ((k : Int))) (get_ops _ _ _ rfl) (by kernel_rfl) (by kernel_rfl) (by kernel_rfl) (fun _ _ _ h => h) (Or.inl ⟨by rfl, fun wS hSw => by (try dsimp only at hSw); go_simp⟩) hHeld ?_
        try simp only [Act.put, List.setIfInBounds_toArray, List.set_cons_zero, List.set_cons_succ]
        refine wpAnyH_take (i := 12) (v := .pointer (some ⟨xb, xo + k * 2, none⟩)) (get_ops _ _ _ rfl) (by kernel_rfl) (by kernel_rfl) (by kernel_rfl) (fun _ _ _ h => h) (Or.inl ⟨by rfl, fun wS hSw => by (try dsimp only at hSw); go_simp⟩) hHeld ?_
        try simp only [Act.put, List.setIfInBounds_toArray, List.set_cons_zero, List.set_cons_succ]
        refine wpAnyH_take (i := 13) (v := .agg #[.int .i64 m, .int .i64 u]) (get_ops _ _ _ rfl) (by kernel_rfl) (by kernel_rfl) (by kernel_rfl) (fun _ _ _ h => h) (Or.inl ⟨by rfl, fun wS hSw => by (try dsimp only at hSw); exact exec_load 23 _ rfl ⟨xb, xo + k * 2, none⟩ (by go_simp) _ (run_load_pair hSw.1.2.1 hSw.1.2.2 Try.underlying23 rfl infoC2)⟩) hHeld ?_
        try simp only [Act.put, List.setIfInBounds_toArray, List.set_cons_zero, List.set_cons_succ]
        refine wpAnyH_ready (rs := [14]) (by kernel_rfl) (by simp) ?_
        refine (AllReadyH.cons (get_ops _ _ _ rfl) (fun K hK => ?_) AllReadyH.nil)
        go_simp
        go_at_call 18
        refine (CL.out dw21).mono ?_
        rintro e w22 ⟨rfl, hb⟩
        have B_w22 : Hid (Below w.heap.size w w22) := Lib.hid (stepB B_dw21.out hb)
        have SW_w22 : Hid (Below w2.heap.size w2 w22) := Lib.hid (stepB SW_dw21.out hb)
        have Sx_w22 : Hid ((xb < w22.heap.size ∧ w22.cell? ⟨xb, xo + k * 2, none⟩ = some (.int .i64 m) ∧ w22.cell? ⟨xb, xo + k * 2 + 1, none⟩ = some (.int .i64 u))) := Lib.hid (⟨Nat.lt_of_lt_of_le Sx_dw21.out.1 hb.size, (hb.cell (p := ⟨xb, xo + k * 2, none⟩) Sx_dw21.out.1).trans Sx_dw21.out.2.1, (hb.cell (p := ⟨xb, xo + k * 2 + 1, none⟩) Sx_dw21.out.1).trans Sx_dw21.out.2.2⟩)
        have Sgk_w22 : Hid ((gb < w22.heap.size ∧ w22.cell? ⟨gb, go + k, none⟩ = some (.int .i64 gv))) := Lib.hid (⟨Nat.lt_of_lt_of_le Sgk_dw21.out.1 hb.size, (hb.cell (p := ⟨gb, go + k, none⟩) Sgk_dw21.out.1).trans Sgk_dw21.out.2⟩)
        clear B_dw21 SW_dw21 Sx_dw21 Sgk_dw21
        clear hHeld hb
        go_wp2_with fail
        refine hK.out _ _ ⟨Sx_w22.out, Sgk_w22.out⟩ (fun hHeld => ?_)
        clear hK K
        try simp only [Act.put, List.setIfInBounds_toArray, List.set_cons_zero, List.set_cons_succ]
        refine wpAnyH_take (i := 15) (v := .bool false) (get_ops _ _ _ rfl) (by kernel_rfl) (by kernel_rfl) (by kernel_rfl) (fun _ _ _ h => h) (Or.inl ⟨by rfl, fun wS hSw => by (try dsimp only at hSw); go_simp⟩) hHeld ?_
        try simp only [Act.put, List.setIfInBounds_toArray, List.set_cons_zero, List.set_cons_succ]
        refine wpAnyH_take (i := 16) (v := .bool false) (get_ops _ _ _ rfl) (by kernel_rfl) (by kernel_rfl) (by kernel_rfl) (fun _ _ _ h => h) (Or.inl ⟨by rfl, fun wS hSw => by (try dsimp only at hSw); go_simp⟩) hHeld ?_
        try simp only [Act.put, List.setIfInBounds_toArray, List.set_cons_zero, List.set_cons_succ]
        refine wpAnyH_done (by kernel_rfl) ?_ _
        have kg := Sgk_w22.out.2
        go_upto_region 16 with fail
        clear kg
        cases mo with
        | true =>
          obtain ⟨dw23, hdw23⟩ : ∃ dw23, dw23 = World.drew w22 := ⟨_, rfl⟩
          have hbD : Below w22.heap.size w22 dw23 := by rw [hdw23]; exact (Below.refl _ _).drew
          have B_dw23 : Hid (Below w.heap.size w dw23) := Lib.hid (stepB B_w22.out hbD)
          have SW_dw23 : Hid (Below w2.heap.size w2 dw23) := Lib.hid (stepB SW_w22.out hbD)
          have Sx_dw23 : Hid ((xb < dw23.heap.size ∧ dw23.cell? ⟨xb, xo + k * 2, none⟩ = some (.int .i64 m) ∧ dw23.cell? ⟨xb, xo + k * 2 + 1, none⟩ = some (.int .i64 u))) := Lib.hid (⟨Nat.lt_of_lt_of_le Sx_w22.out.1 hbD.size, (hbD.cell (p := ⟨xb, xo + k * 2, none⟩) Sx_w22.out.1).trans Sx_w22.out.2.1, (hbD.cell (p := ⟨xb, xo + k * 2 + 1, none⟩) Sx_w22.out.1).trans Sx_w22.out.2.2⟩)
          have Sgk_dw23 : Hid ((gb < dw23.heap.size ∧ dw23.cell? ⟨gb, go + k, none⟩ = some (.int .i64 gv))) := Lib.hid (⟨Nat.lt_of_lt_of_le Sgk_w22.out.1 hbD.size, (hbD.cell (p := ⟨gb, go + k, none⟩) Sgk_w22.out.1).trans Sgk_w22.out.2⟩)
          clear B_w22 SW_w22 Sx_w22 Sgk_w22
          have hbd : (fun w' => (xb < w'.heap.size ∧ w'.cell? ⟨xb, xo + k * 2, none⟩ = some (.int .i64 m) ∧ w'.cell? ⟨xb, xo + k * 2 + 1, none⟩ = some (.int .i64 u)) ∧ (gb < w'.heap.size ∧ w'.cell? ⟨gb, go + k, none⟩ = some (.int .i64 gv))) (World.drew w22) := by rw [← hdw23]; exact ⟨Sx_dw23.out, Sgk_dw23.out⟩
          have hSD : (fun w' => (xb < w'.heap.size ∧ w'.cell? ⟨xb, xo + k * 2, none⟩ = some (.int .i64 m) ∧ w'.cell? ⟨xb, xo + k * 2 + 1, none⟩ = some (.int .i64 u)) ∧ (gb < w'.heap.size ∧ w'.cell? ⟨gb, go + k, none⟩ = some (.int .i64 gv))) dw23 := ⟨Sx_dw23.out, Sgk_dw23.out⟩
          have HWD := Lib.hid hdw23
          clear hdw23 hbD
          refine wp_region_held_drew (S := fun w' => (xb < w'.heap.size ∧ w'.cell? ⟨xb, xo + k * 2, none⟩ = some (.int .i64 m) ∧ w'.cell? ⟨xb, xo + k * 2 + 1, none⟩ = some (.int .i64 u)) ∧ (gb < w'.heap.size ∧ w'.cell? ⟨gb, go + k, none⟩ = some (.int .i64 gv))) (by kernel_rfl) hbd (fun hHeld => ?_)
          rw [← HWD.out]
          clear hHeld
          have hHeld := hSD
          clear hSD hbd HWD
          refine wpAnyH_take (i := 0) (v := .bool true) (get_ops _ _ _ rfl) (by kernel_rfl) (by kernel_rfl) (by kernel_rfl) (fun _ _ _ h => h) (Or.inl ⟨by rfl, fun wS hSw => by (try dsimp only at hSw); go_simp⟩) hHeld ?_
          try simp only [Act.put, List.setIfInBounds_toArray, List.set_cons_zero, List.set_cons_succ]
          refine wpAnyH_take (i := 1) (v := .bool true) (get_ops _ _ _ rfl) (by kernel_rfl) (by kernel_rfl) (by kernel_rfl) (fun _ _ _ h => h) (Or.inl ⟨by rfl, fun wS hSw => by (try dsimp only at hSw); go_simp⟩) hHeld ?_
          try simp only [Act.put, List.setIfInBounds_toArray, List.set_cons_zero, List.set_cons_succ]
          refine wpAnyH_take (i := 2) (v := undef) (get_ops _ _ _ rfl) (by kernel_rfl) (by kernel_rfl) (by kernel_rfl) (fun _ _ _ h => h) (Or.inr ⟨by rfl, rfl⟩) hHeld ?_
          try simp only [Act.put, List.setIfInBounds_toArray, List.set_cons_zero, List.set_cons_succ]
          refine wpAnyH_take (i := 3) (v := undef) (get_ops _ _ _ rfl) (by kernel_rfl) (by kernel_rfl) (by kernel_rfl) (fun _ _ _ h => h) (Or.inr ⟨by rfl, rfl⟩) hHeld ?_
          try simp only [Act.put, List.setIfInBounds_toArray, List.set_cons_zero, List.set_cons_succ]
          refine wpAnyH_take (i := 4) (v := undef) (get_ops _ _ _ rfl) (by kernel_rfl) (by kernel_rfl) (by kernel_rfl) (fun _ _ _ h => h) (Or.inr ⟨by rfl, rfl⟩) hHeld ?_
          try simp only [Act.put, List.setIfInBounds_toArray, List.set_cons_zero, List.set_cons_succ]
          refine wpAnyH_take (i := 5) (v := undef) (get_ops _ _ _ rfl) (by kernel_rfl) (by kernel_rfl) (by kernel_rfl) (fun _ _ _ h => h) (Or.inr ⟨by rfl, rfl⟩) hHeld ?_
          try simp only [Act.put, List.setIfInBounds_toArray, List.set_cons_zero, List.set_cons_succ]
          refine wpAnyH_take (i := 6) (v := undef) (get_ops _ _ _ rfl) (by kernel_rfl) (by kernel_rfl) (by kernel_rfl) (fun _ _ _ h => h) (Or.inr ⟨by rfl, rfl⟩) hHeld ?_
          try simp only [Act.put, List.setIfInBounds_toArray, List.set_cons_zero, List.set_cons_succ]
          refine wpAnyH_take (i := 7) (v := undef) (get_ops _ _ _ rfl) (by kernel_rfl) (by kernel_rfl) (by kernel_rfl) (fun _ _ _ h => h) (Or.inr ⟨by rfl, rfl⟩) hHeld ?_
          try simp only [Act.put, List.setIfInBounds_toArray, List.set_cons_zero, List.set_cons_succ]
          refine wpAnyH_take (i := 8) (v := undef) (get_ops _ _ _ rfl) (by kernel_rfl) (by kernel_rfl) (by kernel_rfl) (fun _ _ _ h => h) (Or.inr ⟨by rfl, rfl⟩) hHeld ?_
          try simp only [Act.put, List.setIfInBounds_toArray, List.set_cons_zero, List.set_cons_succ]
          refine wpAnyH_take (i := 9) (v := undef) (get_ops _ _ _ rfl) (by kernel_rfl) (by kernel_rfl) (by kernel_rfl) (fun _ _ _ h => h) (Or.inr ⟨by rfl, rfl⟩) hHeld ?_
          try simp only [Act.put, List.setIfInBounds_toArray, List.set_cons_zero, List.set_cons_succ]
          refine wpAnyH_take (i := 10) (v := undef) (get_ops _ _ _ rfl) (by kernel_rfl) (by kernel_rfl) (by kernel_rfl) (fun _ _ _ h => h) (Or.inr ⟨by rfl, rfl⟩) hHeld ?_
          try simp only [Act.put, List.setIfInBounds_toArray, List.set_cons_zero, List.set_cons_succ]
          refine wpAnyH_take (i := 11) (v := undef) (get_ops _ _ _ rfl) (by kernel_rfl) (by kernel_rfl) (by kernel_rfl) (fun _ _ _ h => h) (Or.inr ⟨by rfl, rfl⟩) hHeld ?_
          try simp only [Act.put, List.setIfInBounds_toArray, List.set_cons_zero, List.set_cons_succ]
          refine wpAnyH_take (i := 12) (v := .bool true) (get_ops _ _ _ rfl) (by kernel_rfl) (by kernel_rfl) (by kernel_rfl) (fun _ _ _ h => h) (Or.inl ⟨by rfl, fun wS hSw => by (try dsimp only at hSw); go_simp⟩) hHeld ?_
          try simp only [Act.put, List.setIfInBounds_toArray, List.set_cons_zero, List.set_cons_succ]
          refine wpAnyH_take (i := 13) (v := .bool true) (get_ops _ _ _ rfl) (by kernel_rfl) (by kernel_rfl) (by kernel_rfl) (fun _ _ _ h => h) (Or.inl ⟨by rfl, fun wS hSw => by (try dsimp only at hSw); go_simp⟩) hHeld ?_
          try simp only [Act.put, List.setIfInBounds_toArray, List.set_cons_zero, List.set_cons_succ]
          refine wpAnyH_done (by kernel_rfl) ?_ _
          go_wp2_with fail
          go_roundg g
          case measure => omega
          case rel => exact ⟨k + 1, by have := HG.out; omega, by first | rfl | exact nxt k (by have := HG.out; omega), by rw [HTT.out], by rw [HLS.out]; rfl, SW_dw23.out⟩
        | false =>
          obtain ⟨dw23, hdw23⟩ : ∃ dw23, dw23 = World.drew w22 := ⟨_, rfl⟩
          have hbD : Below w22.heap.size w22 dw23 := by rw [hdw23]; exact (Below.refl _ _).drew
          have B_dw23 : Hid (Below w.heap.size w dw23) := Lib.hid (stepB B_w22.out hbD)
          have SW_dw23 : Hid (Below w2.heap.size w2 dw23) := Lib.hid (stepB SW_w22.out hbD)
          have Sx_dw23 : Hid ((xb < dw23.heap.size ∧ dw23.cell? ⟨xb, xo + k * 2, none⟩ = some (.int .i64 m) ∧ dw23.cell? ⟨xb, xo + k * 2 + 1, none⟩ = some (.int .i64 u))) := Lib.hid (⟨Nat.lt_of_lt_of_le Sx_w22.out.1 hbD.size, (hbD.cell (p := ⟨xb, xo + k * 2, none⟩) Sx_w22.out.1).trans Sx_w22.out.2.1, (hbD.cell (p := ⟨xb, xo + k * 2 + 1, none⟩) Sx_w22.out.1).trans Sx_w22.out.2.2⟩)
          have Sgk_dw23 : Hid ((gb < dw23.heap.size ∧ dw23.cell? ⟨gb, go + k, none⟩ = some (.int .i64 gv))) := Lib.hid (⟨Nat.lt_of_lt_of_le Sgk_w22.out.1 hbD.size, (hbD.cell (p := ⟨gb, go + k, none⟩) Sgk_w22.out.1).trans Sgk_w22.out.2⟩)
          clear B_w22 SW_w22 Sx_w22 Sgk_w22
          have hbd : (fun w' => (xb < w'.heap.size ∧ w'.cell? ⟨xb, xo + k * 2, none⟩ = some (.int .i64 m) ∧ w'.cell? ⟨xb, xo + k * 2 + 1, none⟩ = some (.int .i64 u)) ∧ (gb < w'.heap.size ∧ w'.cell? ⟨gb, go + k, none⟩ = some (.int .i64 gv))) (World.drew w22) := by rw [← hdw23]; exact ⟨Sx_dw23.out, Sgk_dw23.out⟩
          have hSD : (fun w' => (xb < w'.heap.size ∧ w'.cell? ⟨xb, xo + k * 2, none⟩ = some (.int .i64 m) ∧ w'.cell? ⟨xb, xo + k * 2 + 1, none⟩ = some (.int .i64 u)) ∧ (gb < w'.heap.size ∧ w'.cell? ⟨gb, go + k, none⟩ = some (.int .i64 gv))) dw23 := ⟨Sx_dw23.out, Sgk_dw23.out⟩
          have HWD := Lib.hid hdw23
          clear hdw23 hbD
          refine wp_region_held_drew (S := fun w' => (xb < w'.heap.size ∧ w'.cell? ⟨xb, xo + k * 2, none⟩ = some (.int .i64 m) ∧ w'.cell? ⟨xb, xo + k * 2 + 1, none⟩ = some (.int .i64 u)) ∧ (gb < w'.heap.size ∧ w'.cell? ⟨gb, go + k, none⟩ = some (.int .i64 gv))) (by kernel_rfl) hbd (fun hHeld => ?_)
          rw [← HWD.out]
          clear hHeld
          have hHeld := hSD
          clear hSD hbd HWD
          refine wpAnyH_take (i := 0) (v := .bool false) (get_ops _ _ _ rfl) (by kernel_rfl) (by kernel_rfl) (by kernel_rfl) (fun _ _ _ h => h) (Or.inl ⟨by rfl, fun wS hSw => by (try dsimp only at hSw); go_simp⟩) hHeld ?_
          try simp only [Act.put, List.setIfInBounds_toArray, List.set_cons_zero, List.set_cons_succ]
          refine wpAnyH_take (i := 1) (v := .bool false) (get_ops _ _ _ rfl) (by kernel_rfl) (by kernel_rfl) (by kernel_rfl) (fun _ _ _ h => h) (Or.inl ⟨by rfl, fun wS hSw => by (try dsimp only at hSw); go_simp⟩) hHeld ?_
          try simp only [Act.put, List.setIfInBounds_toArray, List.set_cons_zero, List.set_cons_succ]
          refine wpAnyH_take (i := 2) (v := .slice (some ⟨gb, go, none⟩) G.length c1) (get_ops _ _ _ rfl) (by kernel_rfl) (by kernel_rfl) (by kernel_rfl) (fun _ _ _ h => h) (Or.inl ⟨by rfl, fun wS hSw => by (try dsimp only at hSw); go_simp⟩) hHeld ?_
          try simp only [Act.put, List.setIfInBounds_toArray, List.set_cons_zero, List.set_cons_succ]
          refine wpAnyH_take (i := 3) (v := .int .i64 ((k : Int))) (get_ops _ _ _ rfl) (by kernel_rfl) (by kernel_rfl) (by kernel_rfl) (fun _ _ _ h => h) (Or.inl ⟨by rfl, fun wS hSw => by (try dsimp only at hSw); go_simp⟩) hHeld ?_
          try simp only [Act.put, List.setIfInBounds_toArray, List.set_cons_zero, List.set_cons_succ]
          refine wpAnyH_take (i := 4) (v := .pointer (some ⟨gb, go + k, none⟩)) (get_ops _ _ _ rfl) (by kernel_rfl) (by kernel_rfl) (by kernel_rfl) (fun _ _ _ h => h) (Or.inl ⟨by rfl, fun wS hSw => by (try dsimp only at hSw); go_simp⟩) hHeld ?_
          try simp only [Act.put, List.setIfInBounds_toArray, List.set_cons_zero, List.set_cons_succ]
          refine wpAnyH_take (i := 5) (v := .int .i64 gv) (get_ops _ _ _ rfl) (by kernel_rfl) (by kernel_rfl) (by kernel_rfl) (fun _ _ _ h => h) (Or.inl ⟨by rfl, fun wS hSw => by (try dsimp only at hSw); have cS : wS.cell? ⟨gb, go + k, none⟩ = some (.int .i64 gv) := hSw.2.2; clear hSw; go_simp⟩) hHeld ?_
          try simp only [Act.put, List.setIfInBounds_toArray, List.set_cons_zero, List.set_cons_succ]
          refine wpAnyH_take (i := 6) (v := .slice (some ⟨xb, xo, none⟩) X.length c) (get_ops _ _ _ rfl) (by kernel_rfl) (by kernel_rfl) (by kernel_rfl) (fun _ _ _ h => h) (Or.inl ⟨by rfl, fun wS hSw => by (try dsimp only at hSw); go_simp⟩) hHeld ?_
          try simp only [Act.put, List.setIfInBounds_toArray, List.set_cons_zero, List.set_cons_succ]
          refine wpAnyH_take (i := 7) (v := .int .i64 ((k : Int))) (get_ops _ _ _ rfl) (by kernel_rfl) (by kernel_rfl) (by kernel_rfl) (fun _ _ _ h => h) (Or.inl ⟨by rfl, fun wS hSw => by (try dsimp only at hSw); go_simp⟩) hHeld ?_
          try simp only [Act.put, List.setIfInBounds_toArray, List.set_cons_zero, List.set_cons_succ]
          refine wpAnyH_take (i := 8) (v := .pointer (some ⟨xb, xo + k * 2, none⟩)) (get_ops _ _ _ rfl) (by kernel_rfl) (by kernel_rfl) (by kernel_rfl) (fun _ _ _ h => h) (Or.inl ⟨by rfl, fun wS hSw => by (try dsimp only at hSw); go_simp⟩) hHeld ?_
          try simp only [Act.put, List.setIfInBounds_toArray, List.set_cons_zero, List.set_cons_succ]
          refine wpAnyH_take (i := 9) (v := .agg #[.int .i64 m, .int .i64 u]) (get_ops _ _ _ rfl) (by kernel_rfl) (by kernel_rfl) (by kernel_rfl) (fun _ _ _ h => h) (Or.inl ⟨by rfl, fun wS hSw => by (try dsimp only at hSw); exact exec_load 23 _ rfl ⟨xb, xo + k * 2, none⟩ (by go_simp) _ (run_load_pair hSw.1.2.1 hSw.1.2.2 Try.underlying23 rfl infoC2)⟩) hHeld ?_
          try simp only [Act.put, List.setIfInBounds_toArray, List.set_cons_zero, List.set_cons_succ]
          refine wpAnyH_ready (rs := [10]) (by kernel_rfl) (by simp) ?_
          refine (AllReadyH.cons (get_ops _ _ _ rfl) (fun K hK => ?_) AllReadyH.nil)
          go_simp
          go_at_call 18
          refine (CL.out dw23).mono ?_
          rintro e w24 ⟨rfl, hb⟩
          have B_w24 : Hid (Below w.heap.size w w24) := Lib.hid (stepB B_dw23.out hb)
          have SW_w24 : Hid (Below w2.heap.size w2 w24) := Lib.hid (stepB SW_dw23.out hb)
          have Sx_w24 : Hid ((xb < w24.heap.size ∧ w24.cell? ⟨xb, xo + k * 2, none⟩ = some (.int .i64 m) ∧ w24.cell? ⟨xb, xo + k * 2 + 1, none⟩ = some (.int .i64 u))) := Lib.hid (⟨Nat.lt_of_lt_of_le Sx_dw23.out.1 hb.size, (hb.cell (p := ⟨xb, xo + k * 2, none⟩) Sx_dw23.out.1).trans Sx_dw23.out.2.1, (hb.cell (p := ⟨xb, xo + k * 2 + 1, none⟩) Sx_dw23.out.1).trans Sx_dw23.out.2.2⟩)
          have Sgk_w24 : Hid ((gb < w24.heap.size ∧ w24.cell? ⟨gb, go + k, none⟩ = some (.int .i64 gv))) := Lib.hid (⟨Nat.lt_of_lt_of_le Sgk_dw23.out.1 hb.size, (hb.cell (p := ⟨gb, go + k, none⟩) Sgk_dw23.out.1).trans Sgk_dw23.out.2⟩)
          clear B_dw23 SW_dw23 Sx_dw23 Sgk_dw23
          clear hHeld hb
          go_wp2_with fail
          refine hK.out _ _ ⟨Sx_w24.out, Sgk_w24.out⟩ (fun hHeld => ?_)
          clear hK K
          try simp only [Act.put, List.setIfInBounds_toArray, List.set_cons_zero, List.set_cons_succ]
          refine wpAnyH_take (i := 11) (v := .bool lt) (get_ops _ _ _ rfl) (by kernel_rfl) (by kernel_rfl) (by kernel_rfl) (fun _ _ _ h => h) (Or.inl ⟨by rfl, fun wS hSw => by (try dsimp only at hSw); go_simp⟩) hHeld ?_
          try simp only [Act.put, List.setIfInBounds_toArray, List.set_cons_zero, List.set_cons_succ]
          refine wpAnyH_take (i := 12) (v := .bool lt) (get_ops _ _ _ rfl) (by kernel_rfl) (by kernel_rfl) (by kernel_rfl) (fun _ _ _ h => h) (Or.inl ⟨by rfl, fun wS hSw => by (try dsimp only at hSw); go_simp⟩) hHeld ?_
          try simp only [Act.put, List.setIfInBounds_toArray, List.set_cons_zero, List.set_cons_succ]
          refine wpAnyH_take (i := 13) (v := .bool lt) (get_ops _ _ _ rfl) (by kernel_rfl) (by kernel_rfl) (by kernel_rfl) (fun _ _ _ h => h) (Or.inl ⟨by rfl, fun wS hSw => by (try dsimp only at hSw); go_simp⟩) hHeld ?_
          try simp only [Act.put, List.setIfInBounds_toArray, List.set_cons_zero, List.set_cons_succ]
          refine wpAnyH_done (by kernel_rfl) ?_ _
          go_wp2_with fail
          go_roundg g
          case measure => omega
          case rel => exact ⟨k + 1, by have := HG.out; omega, by first | rfl | exact nxt k (by have := HG.out; omega), by rw [HTT.out], by rw [HLS.out]; rfl, SW_w24.out⟩
theorem flowFair_walk (A : Option Addr) (c : Nat) (X : List (Int × Int)) (last : Int) (y : Nat) (w : World) (hsl : CrL w w.heap.size A X) (hX : X.length ≤ 9223372036854775807) (hl1 : -9223372036854775808 ≤ last) (hl2 : last ≤ 9223372036854775807) (hy : y ≤ 65535) :
    Calls Try.prog 7 #[.slice A X.length c, .int .i64 last, .int .u16 (y : Int)] w fun e w' => e = .returned (.bool true) ∧ Below w.heap.size w w' := by
  cases hv : vlC X with
  | true => exact flowFair_good A c X last y w hsl hX hl1 hl2 hy hv
  | false => exact flowFair_bad A c X last y w hsl hX hl1 hl2 hy hv
end Go.Proofs.Ytomlideijhejfab
