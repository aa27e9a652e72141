/-
  The laws FairChecks and FairNext: they answer true. Conditions: the lists read as data; names fit an int.
-/
import Derived.Test.YtjkhfifnfgchgaaFaE
namespace Go.Proofs.Ytjkhfifnfgchgaa
open Go.RowKit
open S2 (BK Put get_ops exec_load)

set_option maxRecDepth 20000 in
set_option maxHeartbeats 8000000 in
theorem fairChecks_walk (A : Option Addr) (c : Nat) (xs : List Cs) (w : World) (h : CsL w w.heap.size A xs) (hc : xs.length ≤ c) (hq : ∀ x ∈ xs, x.qu.size ≤ 9223372036854775807) :
    Calls Try.prog 3 #[.slice A xs.length c] w fun e w' => e = .returned (.bool true) ∧ Below w.heap.size w w' := by
  have HX := Lib.hid (fun w1 => example_any w1)
  by_cases h60 : 60 < xs.length
  · have e1 : decide ((60 : Int) < (xs.length : Int)) = true := decide_eq_true (by omega)
    have e1' : decide (60 < xs.length) = true := decide_eq_true h60
    clear h hc hq h60
    go_enter Try.func3, Try.ntmps3
    go_wp2_with fail
    refine (HX.out w).mono ?_
    rintro e w2 ⟨rfl, hb⟩
    go_wp2
    go_ret
    exact ⟨rfl, hb⟩
  have e1 : decide ((60 : Int) < (xs.length : Int)) = false := decide_eq_false (by omega)
  have e1' : decide (60 < xs.length) = false := decide_eq_false h60
  have HC1 := Lib.hid (fun w1 hs => fCheck_any A c xs w1 hs hc (by omega) hq)
  have HC2 := Lib.hid (fun w1 hs => rCheck_any A c xs w1 hs hc (by omega) hq)
  have HR1 := Lib.hid (fun x w1 => fReady_any x w1)
  have HR2 := Lib.hid (fun x w1 => rReady_any x w1)
  have HS := Lib.hid h
  have hn : xs.length ≤ 60 := by omega
  clear h hc hq h60
  go_enter Try.func3, Try.ntmps3
  go_wp2_with fail
  go_loopg [11] xs.length (fun g v wr => ∃ k : Nat, k + g = xs.length ∧ v = .int .i64 k ∧ Below w.heap.size w wr)
  case atStart => exact ⟨0, by omega, rfl, Below.refl _ _⟩
  case round =>
    obtain ⟨k, hkg, rfl, hb0⟩ := hrel
    have HB0 := Lib.hid hb0
    have HG := Lib.hid hkg
    clear hb0
    cases gk with
    | zero =>
      obtain rfl : k = xs.length := by omega
      have e3 : decide ((xs.length : Int) < (xs.length : Int)) = false := decide_eq_false (by omega)
      have S_wr := Lib.hid (GL.step HS.out HB0.out)
      clear hkg HS
      go_wp2_with fail
      refine (HC1.out wr S_wr.out).mono ?_
      rintro e w2 ⟨rfl, hb⟩
      have S_w2 := Lib.hid (GL.step S_wr.out hb)
      have B_w2 := Lib.hid (stepB HB0.out hb)
      clear hb S_wr HB0
      go_wp2_with fail
      refine (HC2.out w2 S_w2.out).mono ?_
      rintro e w3 ⟨rfl, hb⟩
      have B_w3 := Lib.hid (stepB B_w2.out hb)
      clear hb S_w2 B_w2
      have e4 : (chkC xs == chkC xs) = true := beq_self_eq_true _
      go_wp2_with fail
      refine (HX.out w3).mono ?_
      rintro e w4 ⟨rfl, hb⟩
      have B_w4 := Lib.hid (stepB B_w3.out hb)
      clear hb
      go_wp2
      go_ret
      exact ⟨rfl, B_w4.out⟩
    | succ gk =>
      have hlt : k < xs.length := by omega
      have e3 : decide ((k : Int) < (xs.length : Int)) = true := decide_eq_true (by omega)
      obtain ⟨x, hx⟩ : ∃ x, xs[k]? = some x := ⟨_, List.getElem?_eq_getElem hlt⟩
      obtain ⟨b, o, hA, hbB, hc⟩ := CsL.at_ (GL.step HS.out HB0.out) hx
      have HLD := Lib.hid (load_cs hc)
      subst hA
      have j1 : (0 : Int) ≤ (k : Int) := by omega
      have j2 : (k : Int) < (xs.length : Int) := by omega
      clear hx hc hbB hkg
      go_upto_region 6 with first
        | (refine wpList_load_v (by rfl) 25 _ rfl ⟨b, o + k * 5, none⟩ (by go_simp) _ HLD.out ?_)
        | (refine S2.wpList_store_all (by rfl) 25 (.tmp 4) (.tmp 14) rfl rfl wr.heap.size rfl (gC x) rfl 25 _ (BK.new wr _ _) conSize rfl (gC_one _) ?_; intro w2 hM hP; have hb := hP.below (S2.below_new wr _) (Nat.le_refl _); have V_w2 := Lib.hid hM; have B_w2 := Lib.hid (stepB HB0.out hb); clear hM hP hb)
      have HRx1 := Lib.hid (HR1.out x)
      have HRx2 := Lib.hid (HR2.out x)
      obtain ⟨vg, hvg⟩ : ∃ n, n = wr.heap.size := ⟨_, rfl⟩
      rw [← hvg] at V_w2 ⊢
      generalize rdyC x = rd at *
      have hne : (rd != rd) = false := by cases rd <;> rfl
      clear hvg HB0 HLD
      obtain ⟨x1, hx1⟩ : ∃ x1, x1 = World.drew w2 := ⟨_, rfl⟩
      have hbD : Below w2.heap.size w2 x1 := by rw [hx1]; exact (Below.refl _ _).drew
      have V_x1 : Hid (BK 25 x1 vg (gC x)) := Lib.hid (V_w2.out.step hbD)
      have B_x1 : Hid (Below w.heap.size w x1) := Lib.hid (stepB B_w2.out hbD)
      clear V_w2 B_w2
      have hbd : (fun w' => BK 25 w' vg (gC x)) (World.drew w2) := by rw [← hx1]; exact V_x1.out
      have hSD : (fun w' => BK 25 w' vg (gC x)) x1 := V_x1.out
      have HWD := Lib.hid hx1
      clear hx1 hbD
      refine wp_region_held_drew (S := fun w' => BK 25 w' vg (gC x)) (by kernel_rfl) hbd (fun hHeld => ?_)
      rw [← HWD.out]
      clear hHeld
      have hHeld := hSD
      clear hSD hbd HWD
      refine wpAnyH_take (i := 0) (v := (csV x)) (get_ops _ _ _ rfl) (by kernel_rfl) (by kernel_rfl) (by kernel_rfl) (fun _ _ _ h => h) (Or.inl ⟨by rfl, fun wS hSw => by (try dsimp only at hSw); exact exec_load 25 _ rfl ⟨vg, 0, none⟩ (by go_simp) _ (load_cs0 hSw)⟩) hHeld ?_
      try simp only [Act.put, List.setIfInBounds_toArray, List.set_cons_zero, List.set_cons_succ]
      refine wpAnyH_take (i := 2) (v := (csV x)) (get_ops _ _ _ rfl) (by kernel_rfl) (by kernel_rfl) (by kernel_rfl) (fun _ _ _ h => h) (Or.inl ⟨by rfl, fun wS hSw => by (try dsimp only at hSw); exact exec_load 25 _ rfl ⟨vg, 0, none⟩ (by go_simp) _ (load_cs0 hSw)⟩) hHeld ?_
      try simp only [Act.put, List.setIfInBounds_toArray, List.set_cons_zero, List.set_cons_succ]
      refine wpAnyH_ready (rs := [1]) (by kernel_rfl) (by simp) ?_
      refine (AllReadyH.cons (get_ops _ _ _ rfl) (fun K hK => ?_) AllReadyH.nil)
      go_simp
      refine (HRx1.out x1).mono ?_
      rintro e x2 ⟨rfl, hb⟩
      have V_x2 : Hid (BK 25 x2 vg (gC x)) := Lib.hid (V_x1.out.step hb)
      have B_x2 : Hid (Below w.heap.size w x2) := Lib.hid (stepB B_x1.out hb)
      clear V_x1 B_x1
      clear hHeld hb
      go_wp2_with fail
      refine hK.out _ _ V_x2.out (fun hHeld => ?_)
      clear hK K
      try simp only [Act.put, List.setIfInBounds_toArray, List.set_cons_zero, List.set_cons_succ]
      refine wpAnyH_ready (rs := [3]) (by kernel_rfl) (by simp) ?_
      refine (AllReadyH.cons (get_ops _ _ _ rfl) (fun K hK => ?_) AllReadyH.nil)
      go_simp
      refine (HRx2.out x2).mono ?_
      rintro e x3 ⟨rfl, hb⟩
      have V_x3 : Hid (BK 25 x3 vg (gC x)) := Lib.hid (V_x2.out.step hb)
      have B_x3 : Hid (Below w.heap.size w x3) := Lib.hid (stepB B_x2.out hb)
      clear V_x2 B_x2
      clear hHeld hb
      go_wp2_with fail
      refine hK.out _ _ V_x3.out (fun hHeld => ?_)
      clear hK K
      try simp only [Act.put, List.setIfInBounds_toArray, List.set_cons_zero, List.set_cons_succ]
      refine wpAnyH_take (i := 4) (v := .bool false) (get_ops _ _ _ rfl) (by kernel_rfl) (by kernel_rfl) (by kernel_rfl) (fun _ _ _ h => h) (Or.inl ⟨by rfl, fun wS hSw => by (try dsimp only at hSw); go_simp⟩) hHeld ?_
      try simp only [Act.put, List.setIfInBounds_toArray, List.set_cons_zero, List.set_cons_succ]
      refine wpAnyH_done (by kernel_rfl) ?_ _
      go_wp2_with fail
      go_roundg gk
      case measure => omega
      case rel => exact ⟨k + 1, by have := HG.out; omega, by go_num, B_x3.out⟩

set_option maxRecDepth 20000 in
set_option maxHeartbeats 8000000 in
theorem fairNext_walk (A : Option Addr) (c : Nat) (xs : List Cs) (q : ByteArray) (last : Int) (w : World) (h : CsL w w.heap.size A xs) :
    Calls Try.prog 4 #[.slice A xs.length c, .string q, .int .i64 last] w fun e w' => e = .returned (.bool true) ∧ Below w.heap.size w w' := by
  have HX := Lib.hid (fun w1 => example_any w1)
  by_cases h60 : 60 < xs.length
  · have e1 : decide ((60 : Int) < (xs.length : Int)) = true := decide_eq_true (by omega)
    have e1' : decide (60 < xs.length) = true := decide_eq_true h60
    clear h h60
    go_enter Try.func4, Try.ntmps4
    go_wp2_with fail
    refine (HX.out w).mono ?_
    rintro e w2 ⟨rfl, hb⟩
    go_wp2
    go_ret
    exact ⟨rfl, hb⟩
  have e1 : decide ((60 : Int) < (xs.length : Int)) = false := decide_eq_false (by omega)
  have e1' : decide (60 < xs.length) = false := decide_eq_false h60
  have HN1 := Lib.hid (fun w1 hs => fNext_any A c xs q last w1 hs (by omega))
  have HN2 := Lib.hid (fun w1 hs => rNext_any A c xs q last w1 hs (by omega))
  generalize nxC xs q last = R at *
  have HS := Lib.hid h
  clear h h60
  unfold RetNx at HN1 HN2
  have e4 : (nxI R == nxI R) = true := beq_self_eq_true _
  have e5 : (R.isSome == R.isSome) = true := beq_self_eq_true _
  generalize nxI R = i at *
  generalize R.isSome = ok at *
  go_enter Try.func4, Try.ntmps4
  go_wp2_with fail
  refine (HN1.out w HS.out).mono ?_
  rintro e w2 ⟨rfl, hb⟩
  have S_w2 := Lib.hid (GL.step HS.out hb)
  have B_w2 := Lib.hid hb
  clear hb HS
  go_wp2_with fail
  refine (HN2.out w2 S_w2.out).mono ?_
  rintro e w3 ⟨rfl, hb⟩
  have B_w3 := Lib.hid (stepB B_w2.out hb)
  clear hb S_w2 B_w2
  go_wp2_with fail
  refine (HX.out w3).mono ?_
  rintro e w4 ⟨rfl, hb⟩
  have B_w4 := Lib.hid (stepB B_w3.out hb)
  clear hb
  go_wp2
  go_ret
  exact ⟨rfl, B_w4.out⟩
end Go.Proofs.Ytjkhfifnfgchgaa
