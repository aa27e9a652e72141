/-
  What Matches, Covers and Meets of the specification answer. No conditions for Covers and Meets; the topic name has at most 2^47 bytes for Matches.
-/
import Derived.Test.YtoakhkiiefiebaaDoorSpecMet
import Derived.Test.YtoakhkiiefiebaaDoorCommonN
import Derived.Test.YtoakhkiiefiebaaDoorPure3
namespace Go.Proofs.YtoakhkiiefiebaaDoor.S1
open Go.RowKit

set_option maxHeartbeats 4000000 in
theorem sCov_any (a b : ByteArray) (w : World) :
    Calls Tryd.prog 42 #[.string a, .string b] w fun e w' => e = .returned (.bool (coversL a b)) ∧ Below w.heap.size w w' := by
  have c1 := fun w => rFilter_any a w
  have c2 := fun w => rFilter_any b w
  cases hfa : T.filterL (dl a)
  · rw [hfa] at c1
    have HR : Hid (coversL a b = false) := Lib.hid (by unfold coversL; rw [hfa]; rfl)
    have C1 := Lib.hid c1
    clear c1 c2 hfa
    go_enter Tryd.func42, Tryd.ntmps42
    go_wp2_with fail
    refine (C1.out _).mono ?_
    rintro e w1 ⟨rfl, hb1⟩
    go_wp2_with fail
    go_ret
    exact ⟨retb HR.out.symm, hb1⟩
  · rw [hfa] at c1
    cases hfb : T.filterL (dl b)
    · rw [hfb] at c2
      have HR : Hid (coversL a b = false) := Lib.hid (by unfold coversL; rw [hfa, hfb]; rfl)
      have C1 := Lib.hid c1
      have C2 := Lib.hid c2
      clear c1 c2 hfa hfb
      go_enter Tryd.func42, Tryd.ntmps42
      go_wp2_with fail
      refine (C1.out _).mono ?_
      rintro e w1 ⟨rfl, hb1⟩
      go_wp2_with fail
      refine (C2.out _).mono ?_
      rintro e w2 ⟨rfl, hb2⟩
      go_wp2_with fail
      go_ret
      exact ⟨retb HR.out.symm, Below.step hb1 hb2⟩
    · rw [hfb] at c2
      have fb : T.filterL (dl b) = true := hfb
      have la := filter_le hfa
      have lb := filter_le fb
      have na := lv_small hfa
      have nb := lv_small fb
      have pa := lvB_pos a
      have pb := lvB_pos b
      have HR := Lib.hid (show coversL a b = (!(hdW (lvB a) && sysL (dl b)) && covB (lvB a) (lvB b)) by unfold coversL blB; rw [hfa, hfb, Bool.and_comm (sysL (dl b))]; rfl)
      have cs := fun w => rSystem_any b w
      have cw := fun A c w B h => rWild_any A c (lvB a) w B h pa
      have cc := fun A A' c c' w B h h' => sCovers_any A A' c c' (lvB a) (lvB b) (by omega) (by omega) _ 0 (Nat.zero_add _) (by omega) w B h h'
      simp only [List.drop_zero, Int.ofNat_zero] at cc
      generalize hdW (lvB a) = hd at HR cw
      generalize sysL (dl b) = sy at HR cs
      have C1 := Lib.hid c1
      have C2 := Lib.hid c2
      have CS := Lib.hid cs
      have CW := Lib.hid cw
      have CC := Lib.hid cc
      clear c1 c2 cs cw cc hfa hfb fb
      cases hd
      · go_enter Tryd.func42, Tryd.ntmps42
        go_wp2_with fail
        refine (C1.out _).mono ?_
        rintro e w1 ⟨rfl, hb1⟩
        go_wp2_with fail
        refine (C2.out _).mono ?_
        rintro e w2 ⟨rfl, hb2⟩
        have hb2 := Below.step hb1 hb2
        go_wp2_with fail
        refine (rLevels_any a _ (by omega)).mono ?_
        rintro e w3 ⟨A, c, rfl, hc, hsl, hb3⟩
        have hb3 := Below.step hb2 hb3
        go_wp2_with fail
        refine (CW.out _ _ _ _ hsl).mono ?_
        rintro e w4 ⟨rfl, rfl⟩
        go_wp2_with fail
        refine (rLevels_any b _ (by omega)).mono ?_
        rintro e w5 ⟨A', c', rfl, hc', hsl', hb5⟩
        have hsl := hsl.step hb5
        have hb5 := Below.step hb3 hb5
        go_wp2_with fail
        refine (CC.out _ _ _ _ _ _ hsl hsl').mono ?_
        rintro e w6 ⟨rfl, n, rfl⟩
        go_wp2_with fail
        go_ret
        exact ⟨retb (by rw [HR.out]; simp), Below.step hb5 (below_draw _ _)⟩
      · cases sy
        · go_enter Tryd.func42, Tryd.ntmps42
          go_wp2_with fail
          refine (C1.out _).mono ?_
          rintro e w1 ⟨rfl, hb1⟩
          go_wp2_with fail
          refine (C2.out _).mono ?_
          rintro e w2 ⟨rfl, hb2⟩
          have hb2 := Below.step hb1 hb2
          go_wp2_with fail
          refine (rLevels_any a _ (by omega)).mono ?_
          rintro e w3 ⟨A, c, rfl, hc, hsl, hb3⟩
          have hb3 := Below.step hb2 hb3
          go_wp2_with fail
          refine (CW.out _ _ _ _ hsl).mono ?_
          rintro e w4 ⟨rfl, rfl⟩
          go_wp2_with fail
          refine (CS.out _).mono ?_
          rintro e w4 ⟨rfl, rfl⟩
          go_wp2_with fail
          refine (rLevels_any b _ (by omega)).mono ?_
          rintro e w5 ⟨A', c', rfl, hc', hsl', hb5⟩
          have hsl := hsl.step hb5
          have hb5 := Below.step hb3 hb5
          go_wp2_with fail
          refine (CC.out _ _ _ _ _ _ hsl hsl').mono ?_
          rintro e w6 ⟨rfl, n, rfl⟩
          go_wp2_with fail
          go_ret
          exact ⟨retb (by rw [HR.out]; simp), Below.step hb5 (below_draw _ _)⟩
        · go_enter Tryd.func42, Tryd.ntmps42
          go_wp2_with fail
          refine (C1.out _).mono ?_
          rintro e w1 ⟨rfl, hb1⟩
          go_wp2_with fail
          refine (C2.out _).mono ?_
          rintro e w2 ⟨rfl, hb2⟩
          have hb2 := Below.step hb1 hb2
          go_wp2_with fail
          refine (rLevels_any a _ (by omega)).mono ?_
          rintro e w3 ⟨A, c, rfl, hc, hsl, hb3⟩
          have hb3 := Below.step hb2 hb3
          go_wp2_with fail
          refine (CW.out _ _ _ _ hsl).mono ?_
          rintro e w4 ⟨rfl, rfl⟩
          go_wp2_with fail
          refine (CS.out _).mono ?_
          rintro e w4 ⟨rfl, rfl⟩
          go_wp2_with fail
          go_ret
          exact ⟨retb (by rw [HR.out]; simp), hb3⟩

theorem nam_hash {n : ByteArray} (h : T.validL (dl n) = true) : ∀ y ∈ lvB n, y ≠ hashB := fun _ hy => (nam_ne (namOk_of h) hy).2
set_option maxHeartbeats 4000000 in
theorem sMat_any (a b : ByteArray) (w : World) (_ : b.size ≤ 140737488355328) :
    Calls Tryd.prog 25 #[.string a, .string b] w fun e w' => e = .returned (.bool (matchesL a b)) ∧ Below w.heap.size w w' := by
  have c1 := fun w => rFilter_any a w
  have c2 := fun w => rValid_any b w (by omega)
  cases hfa : T.filterL (dl a)
  · rw [hfa] at c1
    have HR : Hid (matchesL a b = false) := Lib.hid (by unfold matchesL coversL; rw [hfa]; simp)
    have C1 := Lib.hid c1
    clear c1 c2 hfa
    go_enter Tryd.func25, Tryd.ntmps25
    go_wp2_with fail
    refine (C1.out _).mono ?_
    rintro e w1 ⟨rfl, hb1⟩
    go_wp2_with fail
    go_ret
    exact ⟨retb HR.out.symm, hb1⟩
  · rw [hfa] at c1
    cases hfb : T.validL (dl b)
    · rw [hfb] at c2
      have HR : Hid (matchesL a b = false) := Lib.hid (by unfold matchesL; rw [hfb]; rfl)
      have C1 := Lib.hid c1
      have C2 := Lib.hid c2
      clear c1 c2 hfa hfb
      go_enter Tryd.func25, Tryd.ntmps25
      go_wp2_with fail
      refine (C1.out _).mono ?_
      rintro e w1 ⟨rfl, hb1⟩
      go_wp2_with fail
      refine (C2.out _).mono ?_
      rintro e w2 ⟨rfl, hb2⟩
      go_wp2_with fail
      go_ret
      exact ⟨retb HR.out.symm, Below.step hb1 hb2⟩
    · rw [hfb] at c2
      have fb : T.filterL (dl b) = true := valid_filter hfb
      have la := filter_le hfa
      have lb := filter_le fb
      have na := lv_small hfa
      have nb := lv_small fb
      have pa := lvB_pos a
      have pb := lvB_pos b
      have HR := Lib.hid (show matchesL a b = (!(hdW (lvB a) && sysL (dl b)) && levB (lvB a) (lvB b)) by unfold matchesL coversL blB; rw [hfa, hfb, valid_filter hfb, Bool.and_comm (sysL (dl b)), lev_cov _ _ (nam_hash hfb)]; rfl)
      have cs := fun w => rSystem_any b w
      have cw := fun A c w B h => rWild_any A c (lvB a) w B h pa
      have cc := fun A A' c c' w B h h' => sLevels_any A A' c c' (lvB a) (lvB b) (by omega) (by omega) _ 0 (Nat.zero_add _) (by omega) w B h h'
      simp only [List.drop_zero, Int.ofNat_zero] at cc
      generalize hdW (lvB a) = hd at HR cw
      generalize sysL (dl b) = sy at HR cs
      have C1 := Lib.hid c1
      have C2 := Lib.hid c2
      have CS := Lib.hid cs
      have CW := Lib.hid cw
      have CC := Lib.hid cc
      clear c1 c2 cs cw cc hfa hfb fb
      cases hd
      · go_enter Tryd.func25, Tryd.ntmps25
        go_wp2_with fail
        refine (C1.out _).mono ?_
        rintro e w1 ⟨rfl, hb1⟩
        go_wp2_with fail
        refine (C2.out _).mono ?_
        rintro e w2 ⟨rfl, hb2⟩
        have hb2 := Below.step hb1 hb2
        go_wp2_with fail
        refine (rLevels_any a _ (by omega)).mono ?_
        rintro e w3 ⟨A, c, rfl, hc, hsl, hb3⟩
        have hb3 := Below.step hb2 hb3
        go_wp2_with fail
        refine (CW.out _ _ _ _ hsl).mono ?_
        rintro e w4 ⟨rfl, rfl⟩
        go_wp2_with fail
        refine (rLevels_any b _ (by omega)).mono ?_
        rintro e w5 ⟨A', c', rfl, hc', hsl', hb5⟩
        have hsl := hsl.step hb5
        have hb5 := Below.step hb3 hb5
        go_wp2_with fail
        refine (CC.out _ _ _ _ _ _ hsl hsl').mono ?_
        rintro e w6 ⟨rfl, n, rfl⟩
        go_wp2_with fail
        go_ret
        exact ⟨retb (by rw [HR.out]; simp), Below.step hb5 (below_draw _ _)⟩
      · cases sy
        · go_enter Tryd.func25, Tryd.ntmps25
          go_wp2_with fail
          refine (C1.out _).mono ?_
          rintro e w1 ⟨rfl, hb1⟩
          go_wp2_with fail
          refine (C2.out _).mono ?_
          rintro e w2 ⟨rfl, hb2⟩
          have hb2 := Below.step hb1 hb2
          go_wp2_with fail
          refine (rLevels_any a _ (by omega)).mono ?_
          rintro e w3 ⟨A, c, rfl, hc, hsl, hb3⟩
          have hb3 := Below.step hb2 hb3
          go_wp2_with fail
          refine (CW.out _ _ _ _ hsl).mono ?_
          rintro e w4 ⟨rfl, rfl⟩
          go_wp2_with fail
          refine (CS.out _).mono ?_
          rintro e w4 ⟨rfl, rfl⟩
          go_wp2_with fail
          refine (rLevels_any b _ (by omega)).mono ?_
          rintro e w5 ⟨A', c', rfl, hc', hsl', hb5⟩
          have hsl := hsl.step hb5
          have hb5 := Below.step hb3 hb5
          go_wp2_with fail
          refine (CC.out _ _ _ _ _ _ hsl hsl').mono ?_
          rintro e w6 ⟨rfl, n, rfl⟩
          go_wp2_with fail
          go_ret
          exact ⟨retb (by rw [HR.out]; simp), Below.step hb5 (below_draw _ _)⟩
        · go_enter Tryd.func25, Tryd.ntmps25
          go_wp2_with fail
          refine (C1.out _).mono ?_
          rintro e w1 ⟨rfl, hb1⟩
          go_wp2_with fail
          refine (C2.out _).mono ?_
          rintro e w2 ⟨rfl, hb2⟩
          have hb2 := Below.step hb1 hb2
          go_wp2_with fail
          refine (rLevels_any a _ (by omega)).mono ?_
          rintro e w3 ⟨A, c, rfl, hc, hsl, hb3⟩
          have hb3 := Below.step hb2 hb3
          go_wp2_with fail
          refine (CW.out _ _ _ _ hsl).mono ?_
          rintro e w4 ⟨rfl, rfl⟩
          go_wp2_with fail
          refine (CS.out _).mono ?_
          rintro e w4 ⟨rfl, rfl⟩
          go_wp2_with fail
          go_ret
          exact ⟨retb (by rw [HR.out]; simp), hb3⟩

theorem met_res {a b : ByteArray} (hfa : T.filterL (dl a) = true) (hfb : T.filterL (dl b) = true) :
    (cmRes a b).isSome = (!(hdW (lvB a) && sysL (dl b)) && (!(hdW (lvB b) && sysL (dl a)) && metB (lvB a) (lvB b))) := by
  have e := com_met _ _ (filOk_of hfa) (filOk_of hfb)
  unfold cmRes cmGate blB
  rw [hfa, hfb, Bool.and_comm (hdW (lvB a)), Bool.and_comm (hdW (lvB b)), ← e]
  cases sysL (dl b) && hdW (lvB a) <;> cases sysL (dl a) && hdW (lvB b) <;> simp
theorem met_no {a b : ByteArray} (h : T.filterL (dl a) = false ∨ T.filterL (dl b) = false) : (cmRes a b).isSome = false := by
  unfold cmRes cmGate
  rcases h with h | h <;> rw [h] <;> simp

set_option maxHeartbeats 8000000 in
theorem sMet_any (a b : ByteArray) (w : World) :
    Calls Tryd.prog 41 #[.string a, .string b] w fun e w' => e = .returned (.bool (cmRes a b).isSome) ∧ Below w.heap.size w w' := by
  have c1 := fun w => rFilter_any a w
  have c2 := fun w => rFilter_any b w
  cases hfa : T.filterL (dl a)
  · rw [hfa] at c1
    have HR := Lib.hid (met_no (b := b) (.inl hfa))
    have C1 := Lib.hid c1
    clear c1 c2 hfa
    go_enter Tryd.func41, Tryd.ntmps41
    go_wp2_with fail
    refine (C1.out _).mono ?_
    rintro e w1 ⟨rfl, hb1⟩
    go_wp2_with fail
    go_ret
    exact ⟨retb HR.out.symm, hb1⟩
  · rw [hfa] at c1
    cases hfb : T.filterL (dl b)
    · rw [hfb] at c2
      have HR := Lib.hid (met_no (a := a) (.inr hfb))
      have C1 := Lib.hid c1
      have C2 := Lib.hid c2
      clear c1 c2 hfa hfb
      go_enter Tryd.func41, Tryd.ntmps41
      go_wp2_with fail
      refine (C1.out _).mono ?_
      rintro e w1 ⟨rfl, hb1⟩
      go_wp2_with fail
      refine (C2.out _).mono ?_
      rintro e w2 ⟨rfl, hb2⟩
      go_wp2_with fail
      go_ret
      exact ⟨retb HR.out.symm, Below.step hb1 hb2⟩
    · rw [hfb] at c2
      have HR := Lib.hid (met_res hfa hfb)
      have la := filter_le hfa
      have lb := filter_le hfb
      have na := lv_small hfa
      have nb := lv_small hfb
      have pa := lvB_pos a
      have pb := lvB_pos b
      have csb := fun w => rSystem_any b w
      have csa := fun w => rSystem_any a w
      have cwa := fun A c w B h => rWild_any A c (lvB a) w B h pa
      have cwb := fun A c w B h => rWild_any A c (lvB b) w B h pb
      have cc := fun A A' c c' w B h h' => sMeets_any A A' c c' (lvB a) (lvB b) (by omega) (by omega) _ 0 (Nat.zero_add _) (by omega) w B h h'
      simp only [List.drop_zero, Int.ofNat_zero] at cc
      generalize hdW (lvB a) = hx at HR cwa
      generalize sysL (dl b) = sb at HR csb
      generalize hdW (lvB b) = hy at HR cwb
      generalize sysL (dl a) = sa at HR csa
      have C1 := Lib.hid c1
      have C2 := Lib.hid c2
      have CSA := Lib.hid csa
      have CSB := Lib.hid csb
      have CWA := Lib.hid cwa
      have CWB := Lib.hid cwb
      have CC := Lib.hid cc
      clear c1 c2 csa csb cwa cwb cc hfa hfb
      cases hx <;> cases sb <;> cases hy <;> cases sa
      all_goals
        go_enter Tryd.func41, Tryd.ntmps41
        go_wp2_with fail
        refine (C1.out _).mono ?_
        rintro e w1 ⟨rfl, hb1⟩
        go_wp2_with fail
        refine (C2.out _).mono ?_
        rintro e w2 ⟨rfl, hb2⟩
        have hb2 := Below.step hb1 hb2
        go_wp2_with fail
        refine (rLevels_any a _ (by omega)).mono ?_
        rintro e w3 ⟨A, c, rfl, hc, hsl, hb3⟩
        have hb3 := Below.step hb2 hb3
        go_wp2_with fail
        refine (rLevels_any b _ (by omega)).mono ?_
        rintro e w5 ⟨A', c', rfl, hc', hsl', hb5⟩
        have hsl := hsl.step hb5
        have hb5 := Below.step hb3 hb5
        go_wp2_with first
          | (go_at_call 48; (with_reducible refine (CWA.out _ _ _ _ hsl).mono ?_); rintro e w4 ⟨rfl, rfl⟩)
          | (go_at_call 48; (with_reducible refine (CWB.out _ _ _ _ hsl').mono ?_); rintro e w4 ⟨rfl, rfl⟩)
          | (go_at_call 49; (with_reducible refine (CSA.out _).mono ?_); rintro e w4 ⟨rfl, rfl⟩)
          | (go_at_call 49; (with_reducible refine (CSB.out _).mono ?_); rintro e w4 ⟨rfl, rfl⟩)
          | (go_at_call 64; refine (CC.out _ _ _ _ _ _ hsl hsl').mono ?_; rintro e w6 ⟨rfl, n, rfl⟩)
        go_ret
        exact ⟨retb (by rw [HR.out]; simp), by first | exact hb5 | exact Below.step hb5 (below_draw _ _)⟩

end Go.Proofs.YtoakhkiiefiebaaDoor.S1
