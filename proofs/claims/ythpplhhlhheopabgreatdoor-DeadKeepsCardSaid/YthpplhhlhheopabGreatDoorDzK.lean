/-
  The examples of the chapter of dead hold: what exampleHolds answers. Conditions: the library's tables and errors are laid.
-/
import Derived.Test.YthpplhhlhheopabGreatDoorDzJ
namespace Go.Proofs.YthpplhhlhheopabGreatDoor
open Go.RowKit
open S2 (BK Put get_ops)

theorem spSize : (Tryz.prog.info? 40).map (·.size) = some 5 := by kernel_rfl
theorem enSize : (Tryz.prog.info? 42).map (·.size) = some 12 := by kernel_rfl
theorem PL.putW {w w' : World} {B g : Nat} {A : Option Addr} {xs : List PR} (h : PL w B A xs) (hp : Put g w w') (hg : B ≤ g) : PL w' B A xs := fun hn => by
  obtain ⟨b, o, e, hb, hc⟩ := h hn
  refine ⟨b, o, e, hb, fun j x i v hx hv => ?_⟩
  rw [hp.cell (by show b ≠ g; omega)]
  exact hc j x i v hx hv
theorem fullP_at {k : Nat} (h : k < 8) : ∃ c, chs[k]? = some c ∧ fullP.take (k + 1) = fullP.take k ++ [(⟨#[c]⟩, ⟨#[]⟩)] := by
  match k, h with
  | 0, _ => exact ⟨_, rfl, rfl⟩
  | 1, _ => exact ⟨_, rfl, rfl⟩
  | 2, _ => exact ⟨_, rfl, rfl⟩
  | 3, _ => exact ⟨_, rfl, rfl⟩
  | 4, _ => exact ⟨_, rfl, rfl⟩
  | 5, _ => exact ⟨_, rfl, rfl⟩
  | 6, _ => exact ⟨_, rfl, rfl⟩
  | 7, _ => exact ⟨_, rfl, rfl⟩

set_option maxRecDepth 20000 in
set_option maxHeartbeats 16000000 in
theorem exHolds_any (w : World) (hw : Okd w) : Calls Tryz.prog 5 #[] w fun e w' => e = .returned (.bool true) ∧ Below w.heap.size w w' := by
  have HO := Lib.hid hw
  have HR1 := Lib.hid (fun w1 => dReason_any s0 1 5 1 m0 none 0 14 w1 (by decide) (by decide))
  have HR2 := Lib.hid (fun w1 => dReason_any s0 1 5 1 m0 none 0 15 w1 (by decide) (by decide))
  have HR3 := Lib.hid (fun w1 => dReason_any s0 1 5 2 m0 none 0 5 w1 (by decide) (by decide))
  rw [ex_r1] at HR1
  rw [ex_r2] at HR2
  rw [ex_r3] at HR3
  have HM1 := Lib.hid (fun w1 h => dMark_any qB m0 1 none 0 w1 h (GL.nil _ _ _) m0_ok qB_name (by decide))
  have HM2 := Lib.hid (fun a c w1 h h1 => dMark_any pB m1 2 a c w1 h h1 m1_ok pB_name (by decide))
  have HM3 := Lib.hid (fun a c w1 h h1 => dMark_any qB mF 3 a c w1 h h1 mF_ok qB_name (by decide))
  have HM4 := Lib.hid (fun a c w1 h h1 => dMark_any qB mD 3 a c w1 h h1 mD_ok qB_name (by decide))
  rw [show markR qB m0 1 = m1 from rfl] at HM1
  rw [show markR pB m1 2 = n1 from rfl] at HM2
  rw [show markR qB mF 3 = mO from rfl] at HM3
  rw [show markR qB mD 3 = mE from rfl] at HM4
  have hl (m : Msg) (h : checkR m = 0) : m.props.length ≤ 9223372036854775806 := by have := (propsR_parts (checkR_parts h)).1; omega
  have HF1 := Lib.hid (fun a c w1 h h1 => dFrom_any m1 a c w1 h h1 (hl _ m1_ok) (val160 (checkR_parts m1_ok)))
  have HF2 := Lib.hid (fun a c w1 h h1 => dFrom_any n1 a c w1 h h1 (hl _ n1_ok) (val160 (checkR_parts n1_ok)))
  rw [m1_f] at HF1
  rw [n1_f] at HF2
  have HD1 := Lib.hid (fun a c w1 h h1 => dDeaths_any m1 a c w1 h h1 (hl _ m1_ok) (val160 (checkR_parts m1_ok)))
  have HD2 := Lib.hid (fun a c w1 h h1 => dDeaths_any n1 a c w1 h h1 (hl _ n1_ok) (val160 (checkR_parts n1_ok)))
  have HD3 := Lib.hid (fun a c w1 h h1 => dDeaths_any mE a c w1 h h1 (hl _ mE_ok) (val160 (checkR_parts mE_ok)))
  rw [m1_d] at HD1
  rw [n1_d] at HD2
  rw [mE_d] at HD3
  have HA2 := Lib.hid (fun a c w1 h h1 => dAgain_any n1 a c w1 h h1 (hl _ n1_ok) (val160 (checkR_parts n1_ok)))
  rw [n1_a] at HA2
  obtain ⟨dO, qO, hO⟩ := mO_at
  have HOP := Lib.hid hO
  have HSX := Lib.hid (fun w1 => split_ex w1)
  unfold pB at HM2 HF2
  unfold qB at HM1 HM3 HM4 HF1
  unfold abcB at HSX
  clear hw hl hO
  generalize m1 = M1 at *
  generalize n1 = N1 at *
  generalize mO = MO at *
  generalize mE = ME at *
  go_enter Tryz.func5, Tryz.ntmps5
  have B_w : Hid (Below w.heap.size w w) := Lib.hid (Below.refl _ _)
  have LWS : Hid (w.heap.size ≤ w.heap.size) := Lib.hid B_w.out.size
  go_upto_region 2 with first
    | (refine S2.wpList_store_all (by rfl) 40 (.tmp 1) (.tmp 16) rfl rfl (w.heap.size) rfl (spC s0) rfl 40 _ (BK.new w _ _) spSize rfl (ones rfl) ?_; intro y1 hM hP; have hb : Below w.heap.size w y1 := hP.below (S2.below_new w _) (Nat.le_refl _); have B_y1 : Hid (Below w.heap.size w y1) := Lib.hid (stepB B_w.out hb); have S_y1 : Hid (BK 40 y1 (w.heap.size) (spC s0)) := Lib.hid hM; clear hM hP hb B_w)
  obtain ⟨gS, hgS⟩ : ∃ gS, gS = w.heap.size := ⟨_, rfl⟩
  rw [← hgS] at LWS
  rw [← hgS] at S_y1
  try rw [← hgS]
  clear hgS
  have LSE : Hid (gS < y1.heap.size) := Lib.hid S_y1.out.lt
  have LWE : Hid (w.heap.size ≤ y1.heap.size) := Lib.hid B_y1.out.size
  go_upto_region 3 with first
    | (refine S2.wpList_store_all (by rfl) 42 (.tmp 2) (.tmp 18) rfl rfl (y1.heap.size) rfl (enC 1 5 1 m0 none 0) rfl 42 _ (BK.new y1 _ _) enSize rfl (ones rfl) ?_; intro y2 hM hP; have hb : Below y1.heap.size y1 y2 := hP.below (S2.below_new y1 _) (Nat.le_refl _); have B_y2 : Hid (Below w.heap.size w y2) := Lib.hid (stepB B_y1.out hb); have S_y2 : Hid (BK 40 y2 gS (spC s0)) := Lib.hid (S_y1.out.step hb); have E_y2 : Hid (BK 42 y2 (y1.heap.size) (enC 1 5 1 m0 none 0)) := Lib.hid hM; clear hM hP hb B_y1 S_y1)
  obtain ⟨gE, hgE⟩ : ∃ gE, gE = y1.heap.size := ⟨_, rfl⟩
  rw [← hgE] at LSE
  rw [← hgE] at LWE
  rw [← hgE] at E_y2
  try rw [← hgE]
  clear hgE
  obtain ⟨y3, hy3⟩ : ∃ y3, y3 = World.drew y2 := ⟨_, rfl⟩
  have hbD : Below y2.heap.size y2 y3 := by rw [hy3]; exact (Below.refl _ _).drew
  have B_y3 : Hid (Below w.heap.size w y3) := Lib.hid (stepB B_y2.out hbD)
  have S_y3 : Hid (BK 40 y3 gS (spC s0)) := Lib.hid (S_y2.out.step hbD)
  have E_y3 : Hid (BK 42 y3 gE (enC 1 5 1 m0 none 0)) := Lib.hid (E_y2.out.step hbD)
  clear B_y2 S_y2 E_y2
  have hbd : (fun w' => BK 40 w' gS (spC s0) ∧ BK 42 w' gE (enC 1 5 1 m0 none 0)) (World.drew y2) := by rw [← hy3]; exact ⟨S_y3.out, E_y3.out⟩
  have hSD : (fun w' => BK 40 w' gS (spC s0) ∧ BK 42 w' gE (enC 1 5 1 m0 none 0)) y3 := ⟨S_y3.out, E_y3.out⟩
  have HWD := Lib.hid hy3
  clear hy3 hbD
  refine wp_region_held_drew (S := fun w' => BK 40 w' gS (spC s0) ∧ BK 42 w' gE (enC 1 5 1 m0 none 0)) (by kernel_rfl) hbd (fun hHeld => ?_)
  rw [← HWD.out]
  clear hHeld
  have hHeld := hSD
  clear hSD hbd HWD
  refine wpAnyH_take (i := 0) (v := (spV s0)) (get_ops _ _ _ rfl) (by kernel_rfl) (by kernel_rfl) (by kernel_rfl) (fun _ _ _ h => h) (Or.inl ⟨by rfl, fun wS hSw => by (try dsimp only at hSw); exact exec_load 40 _ rfl ⟨gS, 0, none⟩ (by go_simp) _ (load_sp hSw.1)⟩) hHeld ?_
  try simp only [Act.put, List.setIfInBounds_toArray, List.set_cons_zero, List.set_cons_succ]
  refine wpAnyH_take (i := 1) (v := (enV 1 5 1 m0 none 0)) (get_ops _ _ _ rfl) (by kernel_rfl) (by kernel_rfl) (by kernel_rfl) (fun _ _ _ h => h) (Or.inl ⟨by rfl, fun wS hSw => by (try dsimp only at hSw); exact exec_load 42 _ rfl ⟨gE, 0, none⟩ (by go_simp) _ (load_en hSw.2)⟩) hHeld ?_
  try simp only [Act.put, List.setIfInBounds_toArray, List.set_cons_zero, List.set_cons_succ]
  refine wpAnyH_take (i := 3) (v := (spV s0)) (get_ops _ _ _ rfl) (by kernel_rfl) (by kernel_rfl) (by kernel_rfl) (fun _ _ _ h => h) (Or.inl ⟨by rfl, fun wS hSw => by (try dsimp only at hSw); exact exec_load 40 _ rfl ⟨gS, 0, none⟩ (by go_simp) _ (load_sp hSw.1)⟩) hHeld ?_
  try simp only [Act.put, List.setIfInBounds_toArray, List.set_cons_zero, List.set_cons_succ]
  refine wpAnyH_take (i := 4) (v := (enV 1 5 1 m0 none 0)) (get_ops _ _ _ rfl) (by kernel_rfl) (by kernel_rfl) (by kernel_rfl) (fun _ _ _ h => h) (Or.inl ⟨by rfl, fun wS hSw => by (try dsimp only at hSw); exact exec_load 42 _ rfl ⟨gE, 0, none⟩ (by go_simp) _ (load_en hSw.2)⟩) hHeld ?_
  try simp only [Act.put, List.setIfInBounds_toArray, List.set_cons_zero, List.set_cons_succ]
  refine wpAnyH_ready (rs := [2]) (by kernel_rfl) (by simp) ?_
  refine (AllReadyH.cons (get_ops _ _ _ rfl) (fun K hK => ?_) AllReadyH.nil)
  go_simp
  refine (HR1.out y3).mono ?_
  rintro e y4 ⟨rfl, hb⟩
  have B_y4 : Hid (Below w.heap.size w y4) := Lib.hid (stepB B_y3.out hb)
  have S_y4 : Hid (BK 40 y4 gS (spC s0)) := Lib.hid (S_y3.out.step hb)
  have E_y4 : Hid (BK 42 y4 gE (enC 1 5 1 m0 none 0)) := Lib.hid (E_y3.out.step hb)
  clear B_y3 S_y3 E_y3
  clear hHeld hb
  go_wp2_with fail
  refine hK.out _ _ ⟨S_y4.out, E_y4.out⟩ (fun hHeld => ?_)
  clear hK K
  try simp only [Act.put, List.setIfInBounds_toArray, List.set_cons_zero, List.set_cons_succ]
  refine wpAnyH_ready (rs := [5]) (by kernel_rfl) (by simp) ?_
  refine (AllReadyH.cons (get_ops _ _ _ rfl) (fun K hK => ?_) AllReadyH.nil)
  go_simp
  refine (HR2.out y4).mono ?_
  rintro e y5 ⟨rfl, hb⟩
  have B_y5 : Hid (Below w.heap.size w y5) := Lib.hid (stepB B_y4.out hb)
  have S_y5 : Hid (BK 40 y5 gS (spC s0)) := Lib.hid (S_y4.out.step hb)
  have E_y5 : Hid (BK 42 y5 gE (enC 1 5 1 m0 none 0)) := Lib.hid (E_y4.out.step hb)
  clear B_y4 S_y4 E_y4
  clear hHeld hb
  go_wp2_with fail
  refine hK.out _ _ ⟨S_y5.out, E_y5.out⟩ (fun hHeld => ?_)
  clear hK K
  try simp only [Act.put, List.setIfInBounds_toArray, List.set_cons_zero, List.set_cons_succ]
  refine wpAnyH_take (i := 6) (v := .int .i64 0) (get_ops _ _ _ rfl) (by kernel_rfl) (by kernel_rfl) (by kernel_rfl) (fun _ _ _ h => h) (Or.inl ⟨by rfl, fun wS hSw => by (try dsimp only at hSw); go_simp⟩) hHeld ?_
  try simp only [Act.put, List.setIfInBounds_toArray, List.set_cons_zero, List.set_cons_succ]
  refine wpAnyH_take (i := 7) (v := .int .i64 2) (get_ops _ _ _ rfl) (by kernel_rfl) (by kernel_rfl) (by kernel_rfl) (fun _ _ _ h => h) (Or.inl ⟨by rfl, fun wS hSw => by (try dsimp only at hSw); go_simp⟩) hHeld ?_
  try simp only [Act.put, List.setIfInBounds_toArray, List.set_cons_zero, List.set_cons_succ]
  refine wpAnyH_done (by kernel_rfl) ?_ _
  go_upto_region 5 with first
    | (refine wpList_store_row (by rfl) 3 (.tmp 25) _ rfl rfl gE 2 1 rfl (.int .i64 2) rfl 42 _ [.int .i64 2] E_y5.out rfl rfl (by kernel_rfl) (by show 3 ≤ 12; decide) (ones rfl) ?_; intro y6 hM hP hk; have E_y6 : Hid (BK 42 y6 gE (enC 1 5 2 m0 none 0)) := Lib.hid hM; have S_y6 := Lib.hid (hP.other S_y5.out (by have := LSE.out; omega)); have B_y6 : Hid (Below w.heap.size w y6) := Lib.hid (hP.below B_y5.out LWE.out); clear hM hP hk S_y5 E_y5 B_y5)
  go_wp2_with first
    | (refine wpList_load_v (by rfl) 24 (.tmp 26) rfl ⟨gE, 3, none⟩ rfl (.agg (msgC m0 none 0).toArray) (load_en_msg E_y6.out) ?_)
  refine (HM1.out y6 (HO.out.step B_y6.out)).mono ?_
  rintro e y7 ⟨a1, c1, rfl, hpl, hnw, hb⟩
  have B_y7 : Hid (Below w.heap.size w y7) := Lib.hid (stepB B_y6.out hb)
  have S_y7 : Hid (BK 40 y7 gS (spC s0)) := Lib.hid (S_y6.out.step hb)
  have E_y7 : Hid (BK 42 y7 gE (enC 1 5 2 m0 none 0)) := Lib.hid (E_y6.out.step hb)
  clear B_y6 S_y6 E_y6
  have P1_y7 : Hid (PL y7 y7.heap.size a1 M1.props) := Lib.hid (hpl)
  clear hpl hnw
  clear hb
  have LSM : Hid (gS < y7.heap.size) := Lib.hid S_y7.out.lt
  have LEM : Hid (gE < y7.heap.size) := Lib.hid E_y7.out.lt
  have LWM : Hid (w.heap.size ≤ y7.heap.size) := Lib.hid B_y7.out.size
  go_upto_region 6 with first
    | (refine S2.wpList_store_all (by rfl) 24 (.tmp 5) (.tmp 28) rfl rfl (y7.heap.size) rfl (msgC M1 a1 c1) rfl 24 _ (BK.new y7 _ _) msgSize rfl (msgC_one _ _ _) ?_; intro y8 hM hP; have hb : Below y7.heap.size y7 y8 := hP.below (S2.below_new y7 _) (Nat.le_refl _); have B_y8 : Hid (Below w.heap.size w y8) := Lib.hid (stepB B_y7.out hb); have S_y8 : Hid (BK 40 y8 gS (spC s0)) := Lib.hid (S_y7.out.step hb); have E_y8 : Hid (BK 42 y8 gE (enC 1 5 2 m0 none 0)) := Lib.hid (E_y7.out.step hb); have P1_y8 : Hid (PL y8 y8.heap.size a1 M1.props) := Lib.hid (GL.step P1_y7.out hb); have M_y8 : Hid (BK 24 y8 (y7.heap.size) (msgC M1 a1 c1)) := Lib.hid hM; clear hM hP hb B_y7 S_y7 E_y7 P1_y7)
  obtain ⟨gM, hgM⟩ : ∃ gM, gM = y7.heap.size := ⟨_, rfl⟩
  rw [← hgM] at LSM
  rw [← hgM] at LEM
  rw [← hgM] at LWM
  rw [← hgM] at M_y8
  try rw [← hgM]
  clear hgM
  go_wp2_with first
    | (refine wpList_load_v (by rfl) 24 (.tmp 5) rfl ⟨gM, 0, none⟩ rfl (.agg (msgC M1 a1 c1).toArray) (S2.run_load_all M_y8.out Tryz.underlying24 rfl msgSize) ?_)
  refine (HM2.out a1 c1 y8 (HO.out.step B_y8.out) P1_y8.out).mono ?_
  rintro e y9 ⟨a2, c2, rfl, hpl, hnw, hb⟩
  have B_y9 : Hid (Below w.heap.size w y9) := Lib.hid (stepB B_y8.out hb)
  have S_y9 : Hid (BK 40 y9 gS (spC s0)) := Lib.hid (S_y8.out.step hb)
  have E_y9 : Hid (BK 42 y9 gE (enC 1 5 2 m0 none 0)) := Lib.hid (E_y8.out.step hb)
  have P1_y9 : Hid (PL y9 y9.heap.size a1 M1.props) := Lib.hid (GL.step P1_y8.out hb)
  have M_y9 : Hid (BK 24 y9 gM (msgC M1 a1 c1)) := Lib.hid (M_y8.out.step hb)
  clear B_y8 S_y8 E_y8 P1_y8 M_y8
  have P2_y9 : Hid (PL y9 y9.heap.size a2 N1.props) := Lib.hid (hpl)
  clear hpl hnw
  clear hb
  have LSN : Hid (gS < y9.heap.size) := Lib.hid S_y9.out.lt
  have LEN : Hid (gE < y9.heap.size) := Lib.hid E_y9.out.lt
  have LMN : Hid (gM < y9.heap.size) := Lib.hid M_y9.out.lt
  have LWN : Hid (w.heap.size ≤ y9.heap.size) := Lib.hid B_y9.out.size
  go_upto_region 7 with first
    | (refine S2.wpList_store_all (by rfl) 24 (.tmp 6) (.tmp 30) rfl rfl (y9.heap.size) rfl (msgC N1 a2 c2) rfl 24 _ (BK.new y9 _ _) msgSize rfl (msgC_one _ _ _) ?_; intro y10 hM hP; have hb : Below y9.heap.size y9 y10 := hP.below (S2.below_new y9 _) (Nat.le_refl _); have B_y10 : Hid (Below w.heap.size w y10) := Lib.hid (stepB B_y9.out hb); have S_y10 : Hid (BK 40 y10 gS (spC s0)) := Lib.hid (S_y9.out.step hb); have E_y10 : Hid (BK 42 y10 gE (enC 1 5 2 m0 none 0)) := Lib.hid (E_y9.out.step hb); have P1_y10 : Hid (PL y10 y10.heap.size a1 M1.props) := Lib.hid (GL.step P1_y9.out hb); have M_y10 : Hid (BK 24 y10 gM (msgC M1 a1 c1)) := Lib.hid (M_y9.out.step hb); have P2_y10 : Hid (PL y10 y10.heap.size a2 N1.props) := Lib.hid (GL.step P2_y9.out hb); have N_y10 : Hid (BK 24 y10 (y9.heap.size) (msgC N1 a2 c2)) := Lib.hid hM; clear hM hP hb B_y9 S_y9 E_y9 P1_y9 M_y9 P2_y9)
  obtain ⟨gN, hgN⟩ : ∃ gN, gN = y9.heap.size := ⟨_, rfl⟩
  rw [← hgN] at LSN
  rw [← hgN] at LEN
  rw [← hgN] at LMN
  rw [← hgN] at LWN
  rw [← hgN] at N_y10
  try rw [← hgN]
  clear hgN
  go_wp2_with first
    | (refine wpList_load_v (by rfl) 24 (.tmp 5) rfl ⟨gM, 0, none⟩ rfl (.agg (msgC M1 a1 c1).toArray) (S2.run_load_all M_y10.out Tryz.underlying24 rfl msgSize) ?_)
  refine (HF1.out a1 c1 y10 (HO.out.step B_y10.out) P1_y10.out).mono ?_
  rintro e y11 ⟨rfl, hb⟩
  have B_y11 : Hid (Below w.heap.size w y11) := Lib.hid (stepB B_y10.out hb)
  have S_y11 : Hid (BK 40 y11 gS (spC s0)) := Lib.hid (S_y10.out.step hb)
  have E_y11 : Hid (BK 42 y11 gE (enC 1 5 2 m0 none 0)) := Lib.hid (E_y10.out.step hb)
  have P1_y11 : Hid (PL y11 y11.heap.size a1 M1.props) := Lib.hid (GL.step P1_y10.out hb)
  have M_y11 : Hid (BK 24 y11 gM (msgC M1 a1 c1)) := Lib.hid (M_y10.out.step hb)
  have P2_y11 : Hid (PL y11 y11.heap.size a2 N1.props) := Lib.hid (GL.step P2_y10.out hb)
  have N_y11 : Hid (BK 24 y11 gN (msgC N1 a2 c2)) := Lib.hid (N_y10.out.step hb)
  clear B_y10 S_y10 E_y10 P1_y10 M_y10 P2_y10 N_y10
  clear hb
  go_wp2_with first
    | (refine wpList_load_v (by rfl) 24 (.tmp 6) rfl ⟨gN, 0, none⟩ rfl (.agg (msgC N1 a2 c2).toArray) (S2.run_load_all N_y11.out Tryz.underlying24 rfl msgSize) ?_)
  refine (HF2.out a2 c2 y11 (HO.out.step B_y11.out) P2_y11.out).mono ?_
  rintro e y12 ⟨rfl, hb⟩
  have B_y12 : Hid (Below w.heap.size w y12) := Lib.hid (stepB B_y11.out hb)
  have S_y12 : Hid (BK 40 y12 gS (spC s0)) := Lib.hid (S_y11.out.step hb)
  have E_y12 : Hid (BK 42 y12 gE (enC 1 5 2 m0 none 0)) := Lib.hid (E_y11.out.step hb)
  have P1_y12 : Hid (PL y12 y12.heap.size a1 M1.props) := Lib.hid (GL.step P1_y11.out hb)
  have M_y12 : Hid (BK 24 y12 gM (msgC M1 a1 c1)) := Lib.hid (M_y11.out.step hb)
  have P2_y12 : Hid (PL y12 y12.heap.size a2 N1.props) := Lib.hid (GL.step P2_y11.out hb)
  have N_y12 : Hid (BK 24 y12 gN (msgC N1 a2 c2)) := Lib.hid (N_y11.out.step hb)
  clear B_y11 S_y11 E_y11 P1_y11 M_y11 P2_y11 N_y11
  clear hb
  go_wp2_with first
    | (refine wpList_load_v (by rfl) 40 (.tmp 1) rfl ⟨gS, 0, none⟩ rfl (spV s0) (load_sp S_y12.out) ?_)
    | (refine wpList_load_v (by rfl) 42 (.tmp 2) rfl ⟨gE, 0, none⟩ rfl (enV 1 5 2 m0 none 0) (load_en E_y12.out) ?_)
  refine (HR3.out y12).mono ?_
  rintro e y13 ⟨rfl, hb⟩
  have B_y13 : Hid (Below w.heap.size w y13) := Lib.hid (stepB B_y12.out hb)
  have S_y13 : Hid (BK 40 y13 gS (spC s0)) := Lib.hid (S_y12.out.step hb)
  have E_y13 : Hid (BK 42 y13 gE (enC 1 5 2 m0 none 0)) := Lib.hid (E_y12.out.step hb)
  have P1_y13 : Hid (PL y13 y13.heap.size a1 M1.props) := Lib.hid (GL.step P1_y12.out hb)
  have M_y13 : Hid (BK 24 y13 gM (msgC M1 a1 c1)) := Lib.hid (M_y12.out.step hb)
  have P2_y13 : Hid (PL y13 y13.heap.size a2 N1.props) := Lib.hid (GL.step P2_y12.out hb)
  have N_y13 : Hid (BK 24 y13 gN (msgC N1 a2 c2)) := Lib.hid (N_y12.out.step hb)
  clear B_y12 S_y12 E_y12 P1_y12 M_y12 P2_y12 N_y12
  clear hb
  go_wp2_with first
    | (refine wpList_load_v (by rfl) 24 (.tmp 5) rfl ⟨gM, 0, none⟩ rfl (.agg (msgC M1 a1 c1).toArray) (S2.run_load_all M_y13.out Tryz.underlying24 rfl msgSize) ?_)
  refine (HD1.out a1 c1 y13 (HO.out.step B_y13.out) P1_y13.out).mono ?_
  rintro e y14 ⟨rfl, hb⟩
  have B_y14 : Hid (Below w.heap.size w y14) := Lib.hid (stepB B_y13.out hb)
  have S_y14 : Hid (BK 40 y14 gS (spC s0)) := Lib.hid (S_y13.out.step hb)
  have E_y14 : Hid (BK 42 y14 gE (enC 1 5 2 m0 none 0)) := Lib.hid (E_y13.out.step hb)
  have P1_y14 : Hid (PL y14 y14.heap.size a1 M1.props) := Lib.hid (GL.step P1_y13.out hb)
  have M_y14 : Hid (BK 24 y14 gM (msgC M1 a1 c1)) := Lib.hid (M_y13.out.step hb)
  have P2_y14 : Hid (PL y14 y14.heap.size a2 N1.props) := Lib.hid (GL.step P2_y13.out hb)
  have N_y14 : Hid (BK 24 y14 gN (msgC N1 a2 c2)) := Lib.hid (N_y13.out.step hb)
  clear B_y13 S_y13 E_y13 P1_y13 M_y13 P2_y13 N_y13
  clear hb
  go_wp2_with first
    | (refine wpList_load_v (by rfl) 24 (.tmp 6) rfl ⟨gN, 0, none⟩ rfl (.agg (msgC N1 a2 c2).toArray) (S2.run_load_all N_y14.out Tryz.underlying24 rfl msgSize) ?_)
  refine (HD2.out a2 c2 y14 (HO.out.step B_y14.out) P2_y14.out).mono ?_
  rintro e y15 ⟨rfl, hb⟩
  have B_y15 : Hid (Below w.heap.size w y15) := Lib.hid (stepB B_y14.out hb)
  have S_y15 : Hid (BK 40 y15 gS (spC s0)) := Lib.hid (S_y14.out.step hb)
  have E_y15 : Hid (BK 42 y15 gE (enC 1 5 2 m0 none 0)) := Lib.hid (E_y14.out.step hb)
  have P1_y15 : Hid (PL y15 y15.heap.size a1 M1.props) := Lib.hid (GL.step P1_y14.out hb)
  have M_y15 : Hid (BK 24 y15 gM (msgC M1 a1 c1)) := Lib.hid (M_y14.out.step hb)
  have P2_y15 : Hid (PL y15 y15.heap.size a2 N1.props) := Lib.hid (GL.step P2_y14.out hb)
  have N_y15 : Hid (BK 24 y15 gN (msgC N1 a2 c2)) := Lib.hid (N_y14.out.step hb)
  clear B_y14 S_y14 E_y14 P1_y14 M_y14 P2_y14 N_y14
  clear hb
  have Q2_y15 := P2_y15
  have LSF : Hid (gS < y15.heap.size) := Lib.hid S_y15.out.lt
  have LEF : Hid (gE < y15.heap.size) := Lib.hid E_y15.out.lt
  have LMF : Hid (gM < y15.heap.size) := Lib.hid M_y15.out.lt
  have LNF : Hid (gN < y15.heap.size) := Lib.hid N_y15.out.lt
  have LWF : Hid (w.heap.size ≤ y15.heap.size) := Lib.hid B_y15.out.size
  go_upto_region 12 with first
    | (refine S2.wpList_store_all (by rfl) 24 (.tmp 11) (.tmp 79) rfl rfl (y15.heap.size) rfl (msgC m0 none 0) rfl 24 _ (BK.new y15 _ _) msgSize rfl (msgC_one _ _ _) ?_; intro y16 hM hP; have hb : Below y15.heap.size y15 y16 := hP.below (S2.below_new y15 _) (Nat.le_refl _); have B_y16 : Hid (Below w.heap.size w y16) := Lib.hid (stepB B_y15.out hb); have S_y16 : Hid (BK 40 y16 gS (spC s0)) := Lib.hid (S_y15.out.step hb); have E_y16 : Hid (BK 42 y16 gE (enC 1 5 2 m0 none 0)) := Lib.hid (E_y15.out.step hb); have P1_y16 : Hid (PL y16 y16.heap.size a1 M1.props) := Lib.hid (GL.step P1_y15.out hb); have M_y16 : Hid (BK 24 y16 gM (msgC M1 a1 c1)) := Lib.hid (M_y15.out.step hb); have P2_y16 : Hid (PL y16 y16.heap.size a2 N1.props) := Lib.hid (GL.step P2_y15.out hb); have N_y16 : Hid (BK 24 y16 gN (msgC N1 a2 c2)) := Lib.hid (N_y15.out.step hb); have Q2_y16 : Hid (PL y16 y15.heap.size a2 N1.props) := Lib.hid (GL.below Q2_y15.out hb); have F_y16 : Hid (BK 24 y16 (y15.heap.size) (msgC m0 none 0)) := Lib.hid hM; clear hM hP hb B_y15 S_y15 E_y15 P1_y15 M_y15 P2_y15 N_y15 Q2_y15)
  obtain ⟨gF, hgF⟩ : ∃ gF, gF = y15.heap.size := ⟨_, rfl⟩
  rw [← hgF] at LSF
  rw [← hgF] at LEF
  rw [← hgF] at LMF
  rw [← hgF] at LNF
  rw [← hgF] at LWF
  rw [← hgF] at Q2_y16
  rw [← hgF] at F_y16
  try rw [← hgF]
  clear hgF
  clear S_y16 E_y16 M_y16 P1_y16
  have LFQ : Hid (gF < y16.heap.size) := Lib.hid F_y16.out.lt
  go_wp2_with fail
  refine (HSX.out y16).mono ?_
  rintro e y17 ⟨gT, rfl, hbk, hgt, hb⟩
  have B_y17 : Hid (Below w.heap.size w y17) := Lib.hid (stepB B_y16.out hb)
  have P2_y17 : Hid (PL y17 y17.heap.size a2 N1.props) := Lib.hid (GL.step P2_y16.out hb)
  have N_y17 : Hid (BK 24 y17 gN (msgC N1 a2 c2)) := Lib.hid (N_y16.out.step hb)
  have Q2_y17 : Hid (PL y17 gF a2 N1.props) := Lib.hid (GL.below Q2_y16.out (hb.mono (Nat.le_of_lt F_y16.out.lt)))
  have F_y17 : Hid (BK 24 y17 gF (msgC m0 none 0)) := Lib.hid (F_y16.out.step hb)
  clear B_y16 P2_y16 N_y16 Q2_y16 F_y16
  have T_y17 : Hid (BK 9 y17 gT (chs.map fun c => .string ⟨#[c]⟩)) := Lib.hid (hbk)
  clear hbk
  clear hb
  have LTF : Hid (gT ≠ gF) := Lib.hid (by have := LFQ.out; omega)
  clear hgt
  go_wp2
  have LFL : Hid (gF < y17.heap.size) := Lib.hid F_y17.out.lt
  have LNL : Hid (gN < y17.heap.size) := Lib.hid N_y17.out.lt
  have LTL : Hid (gT < y17.heap.size) := Lib.hid T_y17.out.lt
  have LWL : Hid (w.heap.size ≤ y17.heap.size) := Lib.hid B_y17.out.size
  go_loopg [82] 8 (fun g v wr => ∃ (k : Nat) (A : Option Addr) (c : Nat), k + g = 8 ∧ v = .int .i64 k ∧ BK 24 wr gF (msgC { m0 with props := fullP.take k } A c) ∧ OwnP wr y17.heap.size (.slice A (fullP.take k).length c) (fullP.take k) ∧ Below w.heap.size w wr ∧ BK 24 wr gN (msgC N1 a2 c2) ∧ PL wr gF a2 N1.props ∧ BK 9 wr gT (chs.map fun c => .string ⟨#[c]⟩) ∧ y17.heap.size ≤ wr.heap.size)
  case atStart => exact ⟨0, none, 0, by omega, rfl, F_y17.out, OwnG.nil _ _, B_y17.out, N_y17.out, Q2_y17.out, T_y17.out, Nat.le_refl _⟩
  case round =>
    obtain ⟨k, A, c, hkg, rfl, hF, hown, hB, hN, hP2, hT, hsz⟩ := hrel
    have F_wr := Lib.hid hF
    have V_wr := Lib.hid hown
    have B_wr := Lib.hid hB
    have N_wr := Lib.hid hN
    have Q_wr := Lib.hid hP2
    have T_wr := Lib.hid hT
    have Z_wr := Lib.hid hsz
    have HG := Lib.hid hkg
    clear hF hown hB hN hP2 hT hsz F_y17 B_y17 N_y17 P2_y17 Q2_y17 T_y17
    cases gk with
    | succ g =>
      have hk8 : k < 8 := by omega
      obtain ⟨ch, hch, hfp⟩ := fullP_at hk8
      have HFP := Lib.hid hfp
      have e3 : decide ((k : Int) < 8) = true := decide_eq_true (by omega)
      have j1 : (0 : Int) ≤ (k : Int) := by omega
      have j2 : (k : Int) < 8 := by omega
      obtain ⟨K, hK⟩ : ∃ K : ByteArray, K = ⟨#[ch]⟩ := ⟨_, rfl⟩
      rw [← hK] at HFP
      have d0 : wr.cell? ⟨gT, k, none⟩ = some (.string K) := T_wr.out.cell k (by rw [List.getElem?_map, hch, hK]; rfl)
      have d8 : wr.cell? ⟨gF, 8, none⟩ = some (.slice A (fullP.take k).length c) := F_wr.out.cell 8 rfl
      have hlen : (fullP.take k).length ≤ 1000 := by rw [List.length_take]; omega
      have HLE := Lib.hid hlen
      obtain ⟨L, hL⟩ : ∃ L, fullP.take k = L := ⟨_, rfl⟩
      rw [hL] at d8 HLE HFP
      have F_wr := Lib.hid F_wr.out
      rw [hL] at V_wr F_wr
      clear hkg hfp hch hK hlen hL
      go_wp2_with first
        | (at_builtin; go_must (refine wpList_appP1 wr rfl _ _ rfl y17.heap.size _ L K ⟨#[]⟩ V_wr.out rfl rfl wr (Below.refl _ _) Z_wr.out (by have := HLE.out; omega) ?_); intro v3 w3 hown3 hb3 hsz3; obtain ⟨L3, hL3⟩ : ∃ L3, L ++ [(K, ⟨#[]⟩)] = L3 := ⟨_, rfl⟩; rw [hL3] at hown3; have HL3 := Lib.hid hL3; clear hL3; obtain ⟨A3, c3, hv3, _, _⟩ := own_new hown3; subst hv3; have V3 := Lib.hid hown3; have B3 := Lib.hid hb3; have F3 := Lib.hid (F_wr.out.keep LFL.out hb3); have Z3 := Lib.hid hsz3; clear hown3 hb3 hsz3)
        | (refine wpList_store_row (by rfl) 22 (.tmp 92) (.tmp 91) rfl rfl gF 8 1 rfl (.slice A3 L3.length c3) rfl 24 _ [.slice A3 L3.length c3] F3.out rfl rfl (by kernel_rfl) (by show 9 ≤ 9; decide) (ones rfl) ?_; intro w4 hM hP hk; have F4 := Lib.hid hM; have P4 := Lib.hid hP; clear hM hP hk)
      go_roundg g
      case measure => omega
      case rel =>
        refine ⟨k + 1, A3, c3, by have := HG.out; omega, by go_num, ?_, ?_, ?_, ?_, ?_, ?_, ?_⟩
        · have h := F4.out
          rw [HFP.out, HL3.out]
          exact h
        · rw [HFP.out, HL3.out]
          exact own_put V3.out P4.out (OwnG.off V3.out LFL.out)
        · exact P4.out.below (B_wr.out.trans (B3.out.mono LWL.out)) LWF.out
        · exact P4.out.other (N_wr.out.keep LNL.out B3.out) (by have := LNF.out; omega)
        · exact PL.putW (GL.below Q_wr.out (B3.out.mono (Nat.le_of_lt LFL.out))) P4.out (Nat.le_refl _)
        · exact P4.out.other (T_wr.out.keep LTL.out B3.out) LTF.out
        · rw [P4.out.size]; exact Z3.out
    | zero =>
      obtain rfl : k = 8 := by omega
      have e3 : decide ((8 : Int) < 8) = false := rfl
      have hpl : PL wr wr.heap.size A mF.props := by
        obtain ⟨A5, c5, e5, h5, _⟩ := own_new V_wr.out
        simp only [Value.slice.injEq, true_and] at e5
        obtain ⟨rfl, rfl⟩ := e5
        exact h5
      have F_wq : Hid (BK 24 wr gF (msgC mF A c)) := Lib.hid F_wr.out
      have P3_wr := Lib.hid hpl
      have P2_wr : Hid (PL wr wr.heap.size a2 N1.props) := Lib.hid (GL.more Q_wr.out (Nat.le_trans (Nat.le_of_lt LFL.out) Z_wr.out))
      clear hkg hpl F_wr V_wr Q_wr T_wr Z_wr
      have F_wr := F_wq
      clear F_wq
      go_wp2_with first
        | (refine wpList_load_v (by rfl) 24 (.tmp 11) rfl ⟨gF, 0, none⟩ rfl (.agg (msgC mF A c).toArray) (S2.run_load_all F_wr.out Tryz.underlying24 rfl msgSize) ?_)
      refine (HM3.out A c wr (HO.out.step B_wr.out) P3_wr.out).mono ?_
      rintro e z1 ⟨a4, c4, rfl, hpl, hnw, hb⟩
      have B_z1 : Hid (Below w.heap.size w z1) := Lib.hid (stepB B_wr.out hb)
      have F_z1 : Hid (BK 24 z1 gF (msgC mF A c)) := Lib.hid (F_wr.out.step hb)
      have N_z1 : Hid (BK 24 z1 gN (msgC N1 a2 c2)) := Lib.hid (N_wr.out.step hb)
      have P2_z1 : Hid (PL z1 z1.heap.size a2 N1.props) := Lib.hid (GL.step P2_wr.out hb)
      have P3_z1 : Hid (PL z1 z1.heap.size A mF.props) := Lib.hid (GL.step P3_wr.out hb)
      clear B_wr F_wr N_wr P2_wr P3_wr
      have P4_z1 : Hid (PL z1 z1.heap.size a4 MO.props) := Lib.hid (hpl)
      clear hpl hnw
      clear hb
      clear F_z1 P3_z1
      have LNO : Hid (gN < z1.heap.size) := Lib.hid N_z1.out.lt
      have LWO : Hid (w.heap.size ≤ z1.heap.size) := Lib.hid B_z1.out.size
      go_upto_region 18 with first
        | (refine S2.wpList_store_all (by rfl) 24 (.tmp 14) (.tmp 95) rfl rfl (z1.heap.size) rfl (msgC MO a4 c4) rfl 24 _ (BK.new z1 _ _) msgSize rfl (msgC_one _ _ _) ?_; intro z2 hM hP; have hb : Below z1.heap.size z1 z2 := hP.below (S2.below_new z1 _) (Nat.le_refl _); have B_z2 : Hid (Below w.heap.size w z2) := Lib.hid (stepB B_z1.out hb); have N_z2 : Hid (BK 24 z2 gN (msgC N1 a2 c2)) := Lib.hid (N_z1.out.step hb); have P2_z2 : Hid (PL z2 z2.heap.size a2 N1.props) := Lib.hid (GL.step P2_z1.out hb); have P4_z2 : Hid (PL z2 z2.heap.size a4 MO.props) := Lib.hid (GL.step P4_z1.out hb); have O_z2 : Hid (BK 24 z2 (z1.heap.size) (msgC MO a4 c4)) := Lib.hid hM; clear hM hP hb B_z1 N_z1 P2_z1 P4_z1)
      obtain ⟨gO, hgO⟩ : ∃ gO, gO = z1.heap.size := ⟨_, rfl⟩
      rw [← hgO] at LNO
      rw [← hgO] at LWO
      rw [← hgO] at O_z2
      try rw [← hgO]
      clear hgO
      go_wp2_with fail
      obtain ⟨z3, hz3⟩ : ∃ z3, z3 = z2.alloc (.cells #[.string ⟨#[100, 101, 97, 116, 104, 115]⟩, .string ⟨#[48, 55]⟩] 36) := ⟨_, rfl⟩
      have hb : Below z2.heap.size z2 z3 := by rw [hz3]; exact S2.below_new _ _
      have hN : BK 36 z3 (z2.heap.size) (mD.props.flatMap gP) := by rw [hz3]; exact BK.new _ _ _
      have B_z3 : Hid (Below w.heap.size w z3) := Lib.hid (stepB B_z2.out hb)
      have N_z3 : Hid (BK 24 z3 gN (msgC N1 a2 c2)) := Lib.hid (N_z2.out.step hb)
      have P2_z3 : Hid (PL z3 z3.heap.size a2 N1.props) := Lib.hid (GL.step P2_z2.out hb)
      have P4_z3 : Hid (PL z3 z3.heap.size a4 MO.props) := Lib.hid (GL.step P4_z2.out hb)
      have O_z3 : Hid (BK 24 z3 gO (msgC MO a4 c4)) := Lib.hid (O_z2.out.step hb)
      clear B_z2 N_z2 P2_z2 P4_z2 O_z2
      have P5_z3 : Hid (PL z3 z3.heap.size (some ⟨z2.heap.size, 0, none⟩) mD.props) := Lib.hid (pl_of_bk hN)
      rw [← hz3]
      clear hb hN hz3
      refine (HM4.out (some ⟨z2.heap.size, 0, none⟩) 1 z3 (HO.out.step B_z3.out) P5_z3.out).mono ?_
      rintro e z4 ⟨a5, c5, rfl, hpl, hnw, hb⟩
      have B_z4 : Hid (Below w.heap.size w z4) := Lib.hid (stepB B_z3.out hb)
      have N_z4 : Hid (BK 24 z4 gN (msgC N1 a2 c2)) := Lib.hid (N_z3.out.step hb)
      have P2_z4 : Hid (PL z4 z4.heap.size a2 N1.props) := Lib.hid (GL.step P2_z3.out hb)
      have P4_z4 : Hid (PL z4 z4.heap.size a4 MO.props) := Lib.hid (GL.step P4_z3.out hb)
      have O_z4 : Hid (BK 24 z4 gO (msgC MO a4 c4)) := Lib.hid (O_z3.out.step hb)
      have P5_z4 : Hid (PL z4 z4.heap.size (some ⟨z2.heap.size, 0, none⟩) mD.props) := Lib.hid (GL.step P5_z3.out hb)
      clear B_z3 N_z3 P2_z3 P4_z3 O_z3 P5_z3
      have P6_z4 : Hid (PL z4 z4.heap.size a5 ME.props) := Lib.hid (hpl)
      clear hpl hnw
      clear hb
      clear P5_z4
      have LND : Hid (gN < z4.heap.size) := Lib.hid N_z4.out.lt
      have LOD : Hid (gO < z4.heap.size) := Lib.hid O_z4.out.lt
      have LWD : Hid (w.heap.size ≤ z4.heap.size) := Lib.hid B_z4.out.size
      go_upto_region 19 with first
        | (refine S2.wpList_store_all (by rfl) 24 (.tmp 15) (.tmp 99) rfl rfl (z4.heap.size) rfl (msgC ME a5 c5) rfl 24 _ (BK.new z4 _ _) msgSize rfl (msgC_one _ _ _) ?_; intro z5 hM hP; have hb : Below z4.heap.size z4 z5 := hP.below (S2.below_new z4 _) (Nat.le_refl _); have B_z5 : Hid (Below w.heap.size w z5) := Lib.hid (stepB B_z4.out hb); have N_z5 : Hid (BK 24 z5 gN (msgC N1 a2 c2)) := Lib.hid (N_z4.out.step hb); have P2_z5 : Hid (PL z5 z5.heap.size a2 N1.props) := Lib.hid (GL.step P2_z4.out hb); have P4_z5 : Hid (PL z5 z5.heap.size a4 MO.props) := Lib.hid (GL.step P4_z4.out hb); have O_z5 : Hid (BK 24 z5 gO (msgC MO a4 c4)) := Lib.hid (O_z4.out.step hb); have P6_z5 : Hid (PL z5 z5.heap.size a5 ME.props) := Lib.hid (GL.step P6_z4.out hb); have D_z5 : Hid (BK 24 z5 (z4.heap.size) (msgC ME a5 c5)) := Lib.hid hM; clear hM hP hb B_z4 N_z4 P2_z4 P4_z4 O_z4 P6_z4)
      obtain ⟨gD, hgD⟩ : ∃ gD, gD = z4.heap.size := ⟨_, rfl⟩
      rw [← hgD] at LND
      rw [← hgD] at LOD
      rw [← hgD] at LWD
      rw [← hgD] at D_z5
      try rw [← hgD]
      clear hgD
      have hpo := P4_z5.out
      rw [HOP.out] at hpo
      obtain ⟨b4, o4, hA4, _, hc4⟩ := hpo (show 0 < 8 by decide)
      subst hA4
      have d8 : z5.cell? ⟨gO, 8, none⟩ = some (.slice (some ⟨b4, o4, none⟩) 8 c4) := by have h := O_z5.out.cell 8 rfl; rw [HOP.out] at h; exact h
      have k3 : z5.cell? ⟨b4, o4 + 6, none⟩ = some (.string ⟨#[100]⟩) := hc4 3 _ 0 _ rfl rfl
      have k4 : z5.cell? ⟨b4, o4 + 8, none⟩ = some (.string kDeaths) := hc4 4 _ 0 _ rfl rfl
      have k7 : z5.cell? ⟨b4, o4 + 14, none⟩ = some (.string ⟨#[102]⟩) := hc4 7 _ 0 _ rfl rfl
      clear hc4 hpo
      unfold kDeaths at k4
      clear P4_z5 O_z5
      go_wp2_with first
        | (refine wpList_load_v (by rfl) 24 (.tmp 15) rfl ⟨gD, 0, none⟩ rfl (.agg (msgC ME a5 c5).toArray) (S2.run_load_all D_z5.out Tryz.underlying24 rfl msgSize) ?_)
      refine (HD3.out a5 c5 z5 (HO.out.step B_z5.out) P6_z5.out).mono ?_
      rintro e z6 ⟨rfl, hb⟩
      have B_z6 : Hid (Below w.heap.size w z6) := Lib.hid (stepB B_z5.out hb)
      have N_z6 : Hid (BK 24 z6 gN (msgC N1 a2 c2)) := Lib.hid (N_z5.out.step hb)
      have P2_z6 : Hid (PL z6 z6.heap.size a2 N1.props) := Lib.hid (GL.step P2_z5.out hb)
      have P6_z6 : Hid (PL z6 z6.heap.size a5 ME.props) := Lib.hid (GL.step P6_z5.out hb)
      have D_z6 : Hid (BK 24 z6 gD (msgC ME a5 c5)) := Lib.hid (D_z5.out.step hb)
      clear B_z5 N_z5 P2_z5 P6_z5 D_z5
      clear hb
      clear d8 k3 k4 k7
      go_wp2_with first
        | (refine wpList_load_v (by rfl) 24 (.tmp 6) rfl ⟨gN, 0, none⟩ rfl (.agg (msgC N1 a2 c2).toArray) (S2.run_load_all N_z6.out Tryz.underlying24 rfl msgSize) ?_)
      refine (HA2.out a2 c2 z6 (HO.out.step B_z6.out) P2_z6.out).mono ?_
      rintro e z7 ⟨rfl, hb⟩
      have B_z7 : Hid (Below w.heap.size w z7) := Lib.hid (stepB B_z6.out hb)
      have N_z7 : Hid (BK 24 z7 gN (msgC N1 a2 c2)) := Lib.hid (N_z6.out.step hb)
      have P2_z7 : Hid (PL z7 z7.heap.size a2 N1.props) := Lib.hid (GL.step P2_z6.out hb)
      have P6_z7 : Hid (PL z7 z7.heap.size a5 ME.props) := Lib.hid (GL.step P6_z6.out hb)
      have D_z7 : Hid (BK 24 z7 gD (msgC ME a5 c5)) := Lib.hid (D_z6.out.step hb)
      clear B_z6 N_z6 P2_z6 P6_z6 D_z6
      clear hb
      go_wp2
      go_ret
      exact ⟨rfl, B_z7.out⟩

end Go.Proofs.YthpplhhlhheopabGreatDoor
