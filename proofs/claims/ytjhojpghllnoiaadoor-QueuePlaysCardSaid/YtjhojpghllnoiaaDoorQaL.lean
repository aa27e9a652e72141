/-
  The examples of the chapter of queue hold: what exampleHolds answers. Conditions: the library's bound on short texts holds a number.
-/
import Derived.Test.YtjhojpghllnoiaaDoorQaK
import Derived.Deep.CutRange
namespace Go.Proofs.YtjhojpghllnoiaaDoor
open Go.RowKit
open S2 (BK Put get_ops)

theorem ens_step {B : Nat} {w w' : World} {A : Option Addr} {xs : List EE} (h : EN w B A xs) (hb : Below w.heap.size w w') : EI w' w'.heap.size A xs := h.1.step hb
theorem wp_load2 {P : Program} {o : Oper} {a : Act} {w : World} {K : Act → World → Prop} {Q : Exit → Act → World → Prop} (ty : TypeId) (x : Operand) (ho : o.op = .load ty x)
    (p : Addr) (hx : a.eval x = .pointer (some p)) (v : Value) (hl : (loadVar ty p).run P w = .ok v w) (h : K (a.put o.dst v) w) : o.wp P a w K Q := by
  unfold Oper.wp execOp
  simp only [ho, hx, Instr.loadAt, Instr.sureAddr, Sem.run_bind, Sem.run_pure, Result.andThen_ok, hl]
  exact h
/-- a queue in the variable g, its list elsewhere -/
def CutP (w : World) (g : Nat) (n : Int) (L : List En) (wx : World) : Prop := ∃ B A c ys, BK 26 wx g (quC sq n (.slice A ys.length c)) ∧ EN wx B A ys ∧ g < B ∧ ys.length ≤ c ∧ ys.map EE.x = L ∧ Below w.heap.size w wx
theorem head_x2 {ys : List EE} (h : ys.map EE.x = [x2, x1]) : ∃ y, ys[0]? = some y ∧ y.x = x2 := by
  cases ys with
  | nil => cases h
  | cons y r => exact ⟨y, rfl, by simp at h; exact h.1⟩
set_option maxRecDepth 20000 in
set_option maxHeartbeats 16000000 in
theorem exHoldsQ_any (w : World) (hw : S1.Okw w) : Calls Tryd.prog 9 #[] w fun e w' => e = .returned (.bool true) ∧ Below w.heap.size w w' := by
  have HO := Lib.hid hw
  have HNW := Lib.hid (fun w1 => exNew w1)
  have HMS := Lib.hid (fun p w1 => message_any p w1)
  have HP1 := Lib.hid (fun A c ys w1 h1 h2 => exPush1 A c ys w1 h1 h2)
  have HP2 := Lib.hid (fun A c ys w1 h1 h2 h3 => exPush2 A c ys w1 h1 h2 h3)
  have HP3 := Lib.hid (fun A c ys w1 h1 h2 h3 => exPush3 A c ys w1 h1 h2 h3)
  have HPO := Lib.hid (fun A c ys w1 h1 h2 h3 => exPop A c ys w1 h1 h2 h3)
  have HR1 := Lib.hid (fun A c ys a ac w1 h1 h2 h3 h4 => exRet1 A c ys a ac w1 h1 h2 h3 h4)
  have HR2 := Lib.hid (fun A c ys a ac w1 h1 h2 h3 h4 => exRet2 A c ys a ac w1 h1 h2 h3 h4)
  have HX1 := Lib.hid (fun A c ys w1 h1 h2 => exExp15 A c ys w1 h1 h2)
  have HX2 := Lib.hid (fun A c ys w1 h1 h2 => exExp14 A c ys w1 h1 h2)
  have HSM := Lib.hid (fun A c xs A' c' ys w1 h1 h2 h3 h4 => exSame A c xs A' c' ys w1 h1 h2 h3 h4)
  have HVA := Lib.hid (fun A c ys w1 h1 h2 h3 => exValid A c ys w1 h1 h2 h3)
  have HEW : Hid (∀ a c, enW x2 a c = .agg (enX x2 a c).toArray) := Lib.hid (fun _ _ => rfl)
  clear hw
  go_enter Tryd.func9, Tryd.ntmps9
  have B_w : Hid (Below w.heap.size w w) := Lib.hid (Below.refl _ _)
  go_wp2_with fail
  refine (HNW.out w).mono ?_
  rintro e y1 ⟨v1, ys1, rfl, hys1, hL1, hb⟩
  have B_y1 : Hid (Below w.heap.size w y1) := Lib.hid (stepB B_w.out hb)
  clear B_w
  obtain ⟨A1, c1, rfl, _⟩ := hL1.ret gE_len
  have HY1 := Lib.hid hys1
  clear hL1 hys1
  clear hb
  have LWQ : Hid (w.heap.size ≤ y1.heap.size) := Lib.hid (by have h := B_y1.out.size; exact h)
  go_upto_region 2 with first
    | (refine S2.wpList_store_all (by rfl) 26 (.tmp 1) (.tmp 21) rfl rfl (y1.heap.size) rfl (quC sq 1 (.slice A1 ys1.length c1)) rfl 26 _ (BK.new y1 _ _) quSize rfl (ones rfl) ?_; intro y2 hM hP; have hb : Below y1.heap.size y1 y2 := hP.below (S2.below_new y1 _) (Nat.le_refl _); have B_y2 : Hid (Below w.heap.size w y2) := Lib.hid (stepB B_y1.out hb); have Q_y2 : Hid (BK 26 y2 (y1.heap.size) (quC sq 1 (.slice A1 ys1.length c1))) := Lib.hid hM; clear hM hP hb B_y1)
  obtain ⟨gQ, hgQ⟩ : ∃ gQ, gQ = y1.heap.size := ⟨_, rfl⟩
  rw [← hgQ] at LWQ Q_y2
  try rw [← hgQ]
  clear hgQ
  go_cut [3] from 23 to 28 (fun s3 wx => s3 = .int .i64 0 ∧ CutP w gQ 2 [x1] wx)
  case first =>
    obtain ⟨y3, hy3⟩ : ∃ y3, y3 = World.drew y2 := ⟨_, rfl⟩
    have hbD : Below y2.heap.size y2 y3 := by rw [hy3]; exact (Below.refl _ _).drew
    have B_y3 : Hid (Below w.heap.size w y3) := Lib.hid (stepB B_y2.out hbD)
    have Q_y3 : Hid (BK 26 y3 gQ (quC sq 1 (.slice A1 ys1.length c1))) := Lib.hid (Q_y2.out.step hbD)
    clear B_y2 Q_y2
    have hbd : (fun w' => Below w.heap.size w w') (World.drew y2) := by rw [← hy3]; exact B_y3.out
    have hSD : (fun w' => Below w.heap.size w w') y3 := B_y3.out
    have HWD := Lib.hid hy3
    clear hy3 hbD
    refine wp_region_held_drew (S := fun w' => Below w.heap.size w w') (by kernel_rfl) hbd (fun hHeld => ?_)
    rw [← HWD.out]
    clear hHeld
    have hHeld := hSD
    clear hSD hbd HWD
    refine wpAnyH_ready (rs := [0, 1]) (by kernel_rfl) (by simp) ?_
    refine (AllReadyH.cons (get_ops _ _ _ rfl) (fun K hK => ?_) (AllReadyH.cons (get_ops _ _ _ rfl) (fun K hK => ?_) AllReadyH.nil))
    · refine wp_load2 26 _ rfl ⟨gQ, 0, none⟩ (by first | rfl | go_simp) (.agg (quC sq 1 (.slice A1 ys1.length c1)).toArray) (load_qu Q_y3.out) ?_
      clear hHeld
      refine hK.out _ _ B_y3.out (fun hHeld => ?_)
      clear hK K
      try simp only [Act.put, List.setIfInBounds_toArray, List.set_cons_zero, List.set_cons_succ]
      refine wpAnyH_ready (rs := [1]) (by kernel_rfl) (by simp) ?_
      refine (AllReadyH.cons (get_ops _ _ _ rfl) (fun K hK => ?_) AllReadyH.nil)
      go_simp
      refine (HMS.out 0 y3).mono ?_
      rintro e y4 ⟨rfl, hb⟩
      have B_y4 : Hid (Below w.heap.size w y4) := Lib.hid (stepB B_y3.out hb)
      have Q_y4 : Hid (BK 26 y4 gQ (quC sq 1 (.slice A1 ys1.length c1))) := Lib.hid (Q_y3.out.step hb)
      clear B_y3 Q_y3
      clear hHeld hb
      go_wp2_with fail
      refine hK.out _ _ B_y4.out (fun hHeld => ?_)
      clear hK K
      try simp only [Act.put, List.setIfInBounds_toArray, List.set_cons_zero, List.set_cons_succ]
      refine wpAnyH_ready (rs := [2]) (by kernel_rfl) (by simp) ?_
      refine (AllReadyH.cons (get_ops _ _ _ rfl) (fun K hK => ?_) AllReadyH.nil)
      have HB2 : Hid (gQ < y4.heap.size) := Lib.hid Q_y4.out.lt
      go_simp
      refine (HP1.out A1 c1 ys1 y4 (HO.out.step B_y4.out) HY1.out).mono ?_
      rintro e y5 ⟨v2, ys2, rfl, hys2, hL2, hb⟩
      have B_y5 : Hid (Below w.heap.size w y5) := Lib.hid (stepB B_y4.out hb)
      have Q_y5 : Hid (BK 26 y5 gQ (quC sq 1 (.slice A1 ys1.length c1))) := Lib.hid (Q_y4.out.step hb)
      clear B_y4 Q_y4
      obtain ⟨A2, c2, rfl, hc2, hen2⟩ := LN.of gE_len hL2
      have HY2 := Lib.hid hys2
      have HC2 := Lib.hid hc2
      have L2_y5 := Lib.hid hen2
      clear hL2 hen2 hys2 hc2
      clear hHeld hb
      go_wp2_with fail
      refine hK.out _ _ B_y5.out (fun hHeld => ?_)
      clear hK K
      try simp only [Act.put, List.setIfInBounds_toArray, List.set_cons_zero, List.set_cons_succ]
      refine wpAnyH_take (i := 3) (v := (.tuple #[quV sq 2 (.slice A2 ys2.length c2), .int .i64 0])) (get_ops _ _ _ rfl) (by kernel_rfl) (by kernel_rfl) (by kernel_rfl) (fun _ _ _ h => h) (Or.inl ⟨by rfl, fun wS hSw => by (try dsimp only at hSw); go_simp⟩) hHeld ?_
      try simp only [Act.put, List.setIfInBounds_toArray, List.set_cons_zero, List.set_cons_succ]
      refine wpAnyH_take (i := 4) (v := (quV sq 2 (.slice A2 ys2.length c2))) (get_ops _ _ _ rfl) (by kernel_rfl) (by kernel_rfl) (by kernel_rfl) (fun _ _ _ h => h) (Or.inl ⟨by rfl, fun wS hSw => by (try dsimp only at hSw); go_simp⟩) hHeld ?_
      try simp only [Act.put, List.setIfInBounds_toArray, List.set_cons_zero, List.set_cons_succ]
      refine wpAnyH_take (i := 5) (v := (.int .i64 0)) (get_ops _ _ _ rfl) (by kernel_rfl) (by kernel_rfl) (by kernel_rfl) (fun _ _ _ h => h) (Or.inl ⟨by rfl, fun wS hSw => by (try dsimp only at hSw); go_simp⟩) hHeld ?_
      try simp only [Act.put, List.setIfInBounds_toArray, List.set_cons_zero, List.set_cons_succ]
      refine wpAnyH_ready (rs := [6]) (by kernel_rfl) (by simp) ?_
      refine (AllReadyH.cons (get_ops _ _ _ rfl) (fun K hK => ?_) AllReadyH.nil)
      refine S2.wp_store_all 26 _ _ rfl rfl gQ (by go_simp) (quC sq 2 (.slice A2 ys2.length c2)) (by first | rfl | go_simp) 26 _ Q_y5.out quSize rfl (quC_one _ rfl) ?_
      intro y6 hM hP
      have Q_y6 : Hid (BK 26 y6 gQ (quC sq 2 (.slice A2 ys2.length c2))) := Lib.hid (hM)
      have B_y6 : Hid (Below w.heap.size w y6) := Lib.hid (hP.below B_y5.out LWQ.out)
      have L2_y6 : Hid (EN y6 y4.heap.size A2 ys2) := Lib.hid (LN.put L2_y5.out hP HB2.out)
      clear B_y5 Q_y5 L2_y5
      clear hM hP hHeld
      refine hK.out _ _ B_y6.out (fun hHeld => ?_)
      clear hK K
      try simp only [Act.put, List.setIfInBounds_toArray, List.set_cons_zero, List.set_cons_succ]
      refine wpAnyH_take (i := 7) (v := (.int .i64 0)) (get_ops _ _ _ rfl) (by kernel_rfl) (by kernel_rfl) (by kernel_rfl) (fun _ _ _ h => h) (Or.inl ⟨by rfl, fun wS hSw => by (try dsimp only at hSw); go_simp⟩) hHeld ?_
      try simp only [Act.put, List.setIfInBounds_toArray, List.set_cons_zero, List.set_cons_succ]
      refine wpAnyH_done (by kernel_rfl) ?_ _
      go_wp2_with fail
      go_meet
      exact ⟨rfl, y4.heap.size, A2, c2, ys2, Q_y6.out, L2_y6.out, HB2.out, HC2.out, HY2.out, B_y6.out⟩
    · go_simp
      refine (HMS.out 0 y3).mono ?_
      rintro e y4 ⟨rfl, hb⟩
      have B_y4 : Hid (Below w.heap.size w y4) := Lib.hid (stepB B_y3.out hb)
      have Q_y4 : Hid (BK 26 y4 gQ (quC sq 1 (.slice A1 ys1.length c1))) := Lib.hid (Q_y3.out.step hb)
      clear B_y3 Q_y3
      clear hHeld hb
      go_wp2_with fail
      refine hK.out _ _ B_y4.out (fun hHeld => ?_)
      clear hK K
      try simp only [Act.put, List.setIfInBounds_toArray, List.set_cons_zero, List.set_cons_succ]
      refine wpAnyH_ready (rs := [0]) (by kernel_rfl) (by simp) ?_
      refine (AllReadyH.cons (get_ops _ _ _ rfl) (fun K hK => ?_) AllReadyH.nil)
      refine wp_load2 26 _ rfl ⟨gQ, 0, none⟩ (by first | rfl | go_simp) (.agg (quC sq 1 (.slice A1 ys1.length c1)).toArray) (load_qu Q_y4.out) ?_
      clear hHeld
      refine hK.out _ _ B_y4.out (fun hHeld => ?_)
      clear hK K
      try simp only [Act.put, List.setIfInBounds_toArray, List.set_cons_zero, List.set_cons_succ]
      refine wpAnyH_ready (rs := [2]) (by kernel_rfl) (by simp) ?_
      refine (AllReadyH.cons (get_ops _ _ _ rfl) (fun K hK => ?_) AllReadyH.nil)
      have HB2 : Hid (gQ < y4.heap.size) := Lib.hid Q_y4.out.lt
      go_simp
      refine (HP1.out A1 c1 ys1 y4 (HO.out.step B_y4.out) HY1.out).mono ?_
      rintro e y5 ⟨v2, ys2, rfl, hys2, hL2, hb⟩
      have B_y5 : Hid (Below w.heap.size w y5) := Lib.hid (stepB B_y4.out hb)
      have Q_y5 : Hid (BK 26 y5 gQ (quC sq 1 (.slice A1 ys1.length c1))) := Lib.hid (Q_y4.out.step hb)
      clear B_y4 Q_y4
      obtain ⟨A2, c2, rfl, hc2, hen2⟩ := LN.of gE_len hL2
      have HY2 := Lib.hid hys2
      have HC2 := Lib.hid hc2
      have L2_y5 := Lib.hid hen2
      clear hL2 hen2 hys2 hc2
      clear hHeld hb
      go_wp2_with fail
      refine hK.out _ _ B_y5.out (fun hHeld => ?_)
      clear hK K
      try simp only [Act.put, List.setIfInBounds_toArray, List.set_cons_zero, List.set_cons_succ]
      refine wpAnyH_take (i := 3) (v := (.tuple #[quV sq 2 (.slice A2 ys2.length c2), .int .i64 0])) (get_ops _ _ _ rfl) (by kernel_rfl) (by kernel_rfl) (by kernel_rfl) (fun _ _ _ h => h) (Or.inl ⟨by rfl, fun wS hSw => by (try dsimp only at hSw); go_simp⟩) hHeld ?_
      try simp only [Act.put, List.setIfInBounds_toArray, List.set_cons_zero, List.set_cons_succ]
      refine wpAnyH_take (i := 4) (v := (quV sq 2 (.slice A2 ys2.length c2))) (get_ops _ _ _ rfl) (by kernel_rfl) (by kernel_rfl) (by kernel_rfl) (fun _ _ _ h => h) (Or.inl ⟨by rfl, fun wS hSw => by (try dsimp only at hSw); go_simp⟩) hHeld ?_
      try simp only [Act.put, List.setIfInBounds_toArray, List.set_cons_zero, List.set_cons_succ]
      refine wpAnyH_take (i := 5) (v := (.int .i64 0)) (get_ops _ _ _ rfl) (by kernel_rfl) (by kernel_rfl) (by kernel_rfl) (fun _ _ _ h => h) (Or.inl ⟨by rfl, fun wS hSw => by (try dsimp only at hSw); go_simp⟩) hHeld ?_
      try simp only [Act.put, List.setIfInBounds_toArray, List.set_cons_zero, List.set_cons_succ]
      refine wpAnyH_ready (rs := [6]) (by kernel_rfl) (by simp) ?_
      refine (AllReadyH.cons (get_ops _ _ _ rfl) (fun K hK => ?_) AllReadyH.nil)
      refine S2.wp_store_all 26 _ _ rfl rfl gQ (by go_simp) (quC sq 2 (.slice A2 ys2.length c2)) (by first | rfl | go_simp) 26 _ Q_y5.out quSize rfl (quC_one _ rfl) ?_
      intro y6 hM hP
      have Q_y6 : Hid (BK 26 y6 gQ (quC sq 2 (.slice A2 ys2.length c2))) := Lib.hid (hM)
      have B_y6 : Hid (Below w.heap.size w y6) := Lib.hid (hP.below B_y5.out LWQ.out)
      have L2_y6 : Hid (EN y6 y4.heap.size A2 ys2) := Lib.hid (LN.put L2_y5.out hP HB2.out)
      clear B_y5 Q_y5 L2_y5
      clear hM hP hHeld
      refine hK.out _ _ B_y6.out (fun hHeld => ?_)
      clear hK K
      try simp only [Act.put, List.setIfInBounds_toArray, List.set_cons_zero, List.set_cons_succ]
      refine wpAnyH_take (i := 7) (v := (.int .i64 0)) (get_ops _ _ _ rfl) (by kernel_rfl) (by kernel_rfl) (by kernel_rfl) (fun _ _ _ h => h) (Or.inl ⟨by rfl, fun wS hSw => by (try dsimp only at hSw); go_simp⟩) hHeld ?_
      try simp only [Act.put, List.setIfInBounds_toArray, List.set_cons_zero, List.set_cons_succ]
      refine wpAnyH_done (by kernel_rfl) ?_ _
      go_wp2_with fail
      go_meet
      exact ⟨rfl, y4.heap.size, A2, c2, ys2, Q_y6.out, L2_y6.out, HB2.out, HC2.out, HY2.out, B_y6.out⟩
  case rest =>
  rename World => W2
  obtain ⟨rfl, N2, A2, c2, ys2, hq, hl, hlt, hc, hys, hbb⟩ := hcut
  have Q_W2 := Lib.hid hq
  have L2_W2 := Lib.hid hl
  have HB2 := Lib.hid hlt
  have HC2 := Lib.hid hc
  have HY2 := Lib.hid hys
  have B_W2 := Lib.hid hbb
  clear hq hl hlt hc hys hbb B_y2 Q_y2
  go_upto_region 3 with fail
  go_cut [4] from 29 to 34 (fun s3 wx => s3 = .int .i64 0 ∧ CutP w gQ 3 [x2, x1] wx)
  case first =>
    obtain ⟨y4, hy4⟩ : ∃ y4, y4 = World.drew W2 := ⟨_, rfl⟩
    have hbD : Below W2.heap.size W2 y4 := by rw [hy4]; exact (Below.refl _ _).drew
    have B_y4 : Hid (Below w.heap.size w y4) := Lib.hid (stepB B_W2.out hbD)
    have Q_y4 : Hid (BK 26 y4 gQ (quC sq 2 (.slice A2 ys2.length c2))) := Lib.hid (Q_W2.out.step hbD)
    have L2_y4 : Hid (EN y4 N2 A2 ys2) := Lib.hid (LN.step L2_W2.out hbD)
    clear B_W2 Q_W2 L2_W2
    have hbd : (fun w' => Below w.heap.size w w') (World.drew W2) := by rw [← hy4]; exact B_y4.out
    have hSD : (fun w' => Below w.heap.size w w') y4 := B_y4.out
    have HWD := Lib.hid hy4
    clear hy4 hbD
    refine wp_region_held_drew (S := fun w' => Below w.heap.size w w') (by kernel_rfl) hbd (fun hHeld => ?_)
    rw [← HWD.out]
    clear hHeld
    have hHeld := hSD
    clear hSD hbd HWD
    refine wpAnyH_ready (rs := [0, 1]) (by kernel_rfl) (by simp) ?_
    refine (AllReadyH.cons (get_ops _ _ _ rfl) (fun K hK => ?_) (AllReadyH.cons (get_ops _ _ _ rfl) (fun K hK => ?_) AllReadyH.nil))
    · refine wp_load2 26 _ rfl ⟨gQ, 0, none⟩ (by first | rfl | go_simp) (.agg (quC sq 2 (.slice A2 ys2.length c2)).toArray) (load_qu Q_y4.out) ?_
      clear hHeld
      refine hK.out _ _ B_y4.out (fun hHeld => ?_)
      clear hK K
      try simp only [Act.put, List.setIfInBounds_toArray, List.set_cons_zero, List.set_cons_succ]
      refine wpAnyH_ready (rs := [1]) (by kernel_rfl) (by simp) ?_
      refine (AllReadyH.cons (get_ops _ _ _ rfl) (fun K hK => ?_) AllReadyH.nil)
      go_simp
      refine (HMS.out 4 y4).mono ?_
      rintro e y5 ⟨rfl, hb⟩
      have B_y5 : Hid (Below w.heap.size w y5) := Lib.hid (stepB B_y4.out hb)
      have Q_y5 : Hid (BK 26 y5 gQ (quC sq 2 (.slice A2 ys2.length c2))) := Lib.hid (Q_y4.out.step hb)
      have L2_y5 : Hid (EN y5 N2 A2 ys2) := Lib.hid (LN.step L2_y4.out hb)
      clear B_y4 Q_y4 L2_y4
      clear hHeld hb
      go_wp2_with fail
      refine hK.out _ _ B_y5.out (fun hHeld => ?_)
      clear hK K
      try simp only [Act.put, List.setIfInBounds_toArray, List.set_cons_zero, List.set_cons_succ]
      refine wpAnyH_ready (rs := [2]) (by kernel_rfl) (by simp) ?_
      refine (AllReadyH.cons (get_ops _ _ _ rfl) (fun K hK => ?_) AllReadyH.nil)
      have HB3 : Hid (gQ < y5.heap.size) := Lib.hid Q_y5.out.lt
      go_simp
      refine (HP2.out A2 c2 ys2 y5 (HO.out.step B_y5.out) (ens_step L2_y5.out (Below.refl _ _)) HY2.out).mono ?_
      rintro e y6 ⟨v3, ys3, rfl, hys3, hL3, hb⟩
      have B_y6 : Hid (Below w.heap.size w y6) := Lib.hid (stepB B_y5.out hb)
      have Q_y6 : Hid (BK 26 y6 gQ (quC sq 2 (.slice A2 ys2.length c2))) := Lib.hid (Q_y5.out.step hb)
      have L2_y6 : Hid (EN y6 N2 A2 ys2) := Lib.hid (LN.step L2_y5.out hb)
      clear B_y5 Q_y5 L2_y5
      obtain ⟨A3, c3, rfl, hc3, hen3⟩ := LN.of gE_len hL3
      have HY3 := Lib.hid hys3
      have HC3 := Lib.hid hc3
      have L3_y6 := Lib.hid hen3
      clear hL3 hen3 hys3 hc3
      clear hHeld hb
      go_wp2_with fail
      refine hK.out _ _ B_y6.out (fun hHeld => ?_)
      clear hK K
      try simp only [Act.put, List.setIfInBounds_toArray, List.set_cons_zero, List.set_cons_succ]
      refine wpAnyH_take (i := 3) (v := (.tuple #[quV sq 3 (.slice A3 ys3.length c3), .int .i64 0])) (get_ops _ _ _ rfl) (by kernel_rfl) (by kernel_rfl) (by kernel_rfl) (fun _ _ _ h => h) (Or.inl ⟨by rfl, fun wS hSw => by (try dsimp only at hSw); go_simp⟩) hHeld ?_
      try simp only [Act.put, List.setIfInBounds_toArray, List.set_cons_zero, List.set_cons_succ]
      refine wpAnyH_take (i := 4) (v := (quV sq 3 (.slice A3 ys3.length c3))) (get_ops _ _ _ rfl) (by kernel_rfl) (by kernel_rfl) (by kernel_rfl) (fun _ _ _ h => h) (Or.inl ⟨by rfl, fun wS hSw => by (try dsimp only at hSw); go_simp⟩) hHeld ?_
      try simp only [Act.put, List.setIfInBounds_toArray, List.set_cons_zero, List.set_cons_succ]
      refine wpAnyH_take (i := 5) (v := (.int .i64 0)) (get_ops _ _ _ rfl) (by kernel_rfl) (by kernel_rfl) (by kernel_rfl) (fun _ _ _ h => h) (Or.inl ⟨by rfl, fun wS hSw => by (try dsimp only at hSw); go_simp⟩) hHeld ?_
      try simp only [Act.put, List.setIfInBounds_toArray, List.set_cons_zero, List.set_cons_succ]
      refine wpAnyH_ready (rs := [6]) (by kernel_rfl) (by simp) ?_
      refine (AllReadyH.cons (get_ops _ _ _ rfl) (fun K hK => ?_) AllReadyH.nil)
      clear L2_y6
      refine S2.wp_store_all 26 _ _ rfl rfl gQ (by go_simp) (quC sq 3 (.slice A3 ys3.length c3)) (by first | rfl | go_simp) 26 _ Q_y6.out quSize rfl (quC_one _ rfl) ?_
      intro y7 hM hP
      have Q_y7 : Hid (BK 26 y7 gQ (quC sq 3 (.slice A3 ys3.length c3))) := Lib.hid (hM)
      have B_y7 : Hid (Below w.heap.size w y7) := Lib.hid (hP.below B_y6.out LWQ.out)
      have L3_y7 : Hid (EN y7 y5.heap.size A3 ys3) := Lib.hid (LN.put L3_y6.out hP HB3.out)
      clear B_y6 Q_y6 L3_y6
      clear hM hP hHeld
      refine hK.out _ _ B_y7.out (fun hHeld => ?_)
      clear hK K
      try simp only [Act.put, List.setIfInBounds_toArray, List.set_cons_zero, List.set_cons_succ]
      refine wpAnyH_take (i := 7) (v := (.int .i64 0)) (get_ops _ _ _ rfl) (by kernel_rfl) (by kernel_rfl) (by kernel_rfl) (fun _ _ _ h => h) (Or.inl ⟨by rfl, fun wS hSw => by (try dsimp only at hSw); go_simp⟩) hHeld ?_
      try simp only [Act.put, List.setIfInBounds_toArray, List.set_cons_zero, List.set_cons_succ]
      refine wpAnyH_done (by kernel_rfl) ?_ _
      go_wp2_with fail
      go_meet
      exact ⟨rfl, y5.heap.size, A3, c3, ys3, Q_y7.out, L3_y7.out, HB3.out, HC3.out, HY3.out, B_y7.out⟩
    · go_simp
      refine (HMS.out 4 y4).mono ?_
      rintro e y5 ⟨rfl, hb⟩
      have B_y5 : Hid (Below w.heap.size w y5) := Lib.hid (stepB B_y4.out hb)
      have Q_y5 : Hid (BK 26 y5 gQ (quC sq 2 (.slice A2 ys2.length c2))) := Lib.hid (Q_y4.out.step hb)
      have L2_y5 : Hid (EN y5 N2 A2 ys2) := Lib.hid (LN.step L2_y4.out hb)
      clear B_y4 Q_y4 L2_y4
      clear hHeld hb
      go_wp2_with fail
      refine hK.out _ _ B_y5.out (fun hHeld => ?_)
      clear hK K
      try simp only [Act.put, List.setIfInBounds_toArray, List.set_cons_zero, List.set_cons_succ]
      refine wpAnyH_ready (rs := [0]) (by kernel_rfl) (by simp) ?_
      refine (AllReadyH.cons (get_ops _ _ _ rfl) (fun K hK => ?_) AllReadyH.nil)
      refine wp_load2 26 _ rfl ⟨gQ, 0, none⟩ (by first | rfl | go_simp) (.agg (quC sq 2 (.slice A2 ys2.length c2)).toArray) (load_qu Q_y5.out) ?_
      clear hHeld
      refine hK.out _ _ B_y5.out (fun hHeld => ?_)
      clear hK K
      try simp only [Act.put, List.setIfInBounds_toArray, List.set_cons_zero, List.set_cons_succ]
      refine wpAnyH_ready (rs := [2]) (by kernel_rfl) (by simp) ?_
      refine (AllReadyH.cons (get_ops _ _ _ rfl) (fun K hK => ?_) AllReadyH.nil)
      have HB3 : Hid (gQ < y5.heap.size) := Lib.hid Q_y5.out.lt
      go_simp
      refine (HP2.out A2 c2 ys2 y5 (HO.out.step B_y5.out) (ens_step L2_y5.out (Below.refl _ _)) HY2.out).mono ?_
      rintro e y6 ⟨v3, ys3, rfl, hys3, hL3, hb⟩
      have B_y6 : Hid (Below w.heap.size w y6) := Lib.hid (stepB B_y5.out hb)
      have Q_y6 : Hid (BK 26 y6 gQ (quC sq 2 (.slice A2 ys2.length c2))) := Lib.hid (Q_y5.out.step hb)
      have L2_y6 : Hid (EN y6 N2 A2 ys2) := Lib.hid (LN.step L2_y5.out hb)
      clear B_y5 Q_y5 L2_y5
      obtain ⟨A3, c3, rfl, hc3, hen3⟩ := LN.of gE_len hL3
      have HY3 := Lib.hid hys3
      have HC3 := Lib.hid hc3
      have L3_y6 := Lib.hid hen3
      clear hL3 hen3 hys3 hc3
      clear hHeld hb
      go_wp2_with fail
      refine hK.out _ _ B_y6.out (fun hHeld => ?_)
      clear hK K
      try simp only [Act.put, List.setIfInBounds_toArray, List.set_cons_zero, List.set_cons_succ]
      refine wpAnyH_take (i := 3) (v := (.tuple #[quV sq 3 (.slice A3 ys3.length c3), .int .i64 0])) (get_ops _ _ _ rfl) (by kernel_rfl) (by kernel_rfl) (by kernel_rfl) (fun _ _ _ h => h) (Or.inl ⟨by rfl, fun wS hSw => by (try dsimp only at hSw); go_simp⟩) hHeld ?_
      try simp only [Act.put, List.setIfInBounds_toArray, List.set_cons_zero, List.set_cons_succ]
      refine wpAnyH_take (i := 4) (v := (quV sq 3 (.slice A3 ys3.length c3))) (get_ops _ _ _ rfl) (by kernel_rfl) (by kernel_rfl) (by kernel_rfl) (fun _ _ _ h => h) (Or.inl ⟨by rfl, fun wS hSw => by (try dsimp only at hSw); go_simp⟩) hHeld ?_
      try simp only [Act.put, List.setIfInBounds_toArray, List.set_cons_zero, List.set_cons_succ]
      refine wpAnyH_take (i := 5) (v := (.int .i64 0)) (get_ops _ _ _ rfl) (by kernel_rfl) (by kernel_rfl) (by kernel_rfl) (fun _ _ _ h => h) (Or.inl ⟨by rfl, fun wS hSw => by (try dsimp only at hSw); go_simp⟩) hHeld ?_
      try simp only [Act.put, List.setIfInBounds_toArray, List.set_cons_zero, List.set_cons_succ]
      refine wpAnyH_ready (rs := [6]) (by kernel_rfl) (by simp) ?_
      refine (AllReadyH.cons (get_ops _ _ _ rfl) (fun K hK => ?_) AllReadyH.nil)
      clear L2_y6
      refine S2.wp_store_all 26 _ _ rfl rfl gQ (by go_simp) (quC sq 3 (.slice A3 ys3.length c3)) (by first | rfl | go_simp) 26 _ Q_y6.out quSize rfl (quC_one _ rfl) ?_
      intro y7 hM hP
      have Q_y7 : Hid (BK 26 y7 gQ (quC sq 3 (.slice A3 ys3.length c3))) := Lib.hid (hM)
      have B_y7 : Hid (Below w.heap.size w y7) := Lib.hid (hP.below B_y6.out LWQ.out)
      have L3_y7 : Hid (EN y7 y5.heap.size A3 ys3) := Lib.hid (LN.put L3_y6.out hP HB3.out)
      clear B_y6 Q_y6 L3_y6
      clear hM hP hHeld
      refine hK.out _ _ B_y7.out (fun hHeld => ?_)
      clear hK K
      try simp only [Act.put, List.setIfInBounds_toArray, List.set_cons_zero, List.set_cons_succ]
      refine wpAnyH_take (i := 7) (v := (.int .i64 0)) (get_ops _ _ _ rfl) (by kernel_rfl) (by kernel_rfl) (by kernel_rfl) (fun _ _ _ h => h) (Or.inl ⟨by rfl, fun wS hSw => by (try dsimp only at hSw); go_simp⟩) hHeld ?_
      try simp only [Act.put, List.setIfInBounds_toArray, List.set_cons_zero, List.set_cons_succ]
      refine wpAnyH_done (by kernel_rfl) ?_ _
      go_wp2_with fail
      go_meet
      exact ⟨rfl, y5.heap.size, A3, c3, ys3, Q_y7.out, L3_y7.out, HB3.out, HC3.out, HY3.out, B_y7.out⟩
  case rest =>
  rename World => W3
  obtain ⟨rfl, N3, A3, c3, ys3, hq, hl, hlt, hc, hys, hbb⟩ := hcut
  have Q_W3 := Lib.hid hq
  have L3_W3 := Lib.hid hl
  have HB3 := Lib.hid hlt
  have HC3 := Lib.hid hc
  have HY3 := Lib.hid hys
  have B_W3 := Lib.hid hbb
  clear hq hl hlt hc hys hbb B_W2 Q_W2 L2_W2
  go_upto_region 4 with fail
  have W3Q := Lib.hid Q_W3.out
  have W3L := Lib.hid L3_W3.out
  have W3B := Lib.hid B_W3.out
  have C_W3 : Hid (Below W3.heap.size W3 W3) := Lib.hid (Below.refl _ _)
  clear B_W3
  clear Q_W3
  clear L3_W3
  obtain ⟨y0, hy0, hy2⟩ := head_x2 HY3.out
  obtain ⟨p3, o3, hA3, _, hcl3, _⟩ := LI.at_ W3L.out.1 hy0
  have hk3 : W3.cell? ⟨p3, o3, none⟩ = some (.int .i64 2) := by have h := hcl3 0 (.int .i64 y0.x.k) rfl; rw [hy2, Nat.zero_mul, Nat.add_zero] at h; exact h
  have HK3 : Hid (p3 < W3.heap.size) := Lib.hid (by have h := W3L.out.1; rw [hA3] at h; obtain ⟨b, o, e, hb, _⟩ := h.1 (by rw [len_map HY3.out]; decide); simp only [Option.some.injEq, Addr.mk.injEq, and_true] at e; omega)
  have HKC := Lib.hid hk3
  clear hy0 hy2 hcl3 hk3
  subst hA3
  have HL3 : Hid (ys3.length = 2) := Lib.hid (len_map HY3.out)
  go_cut [5, 6] from 35 to 40 (fun s5 s6 wx => s6 = .int .i64 6 ∧ Below W3.heap.size W3 wx)
  case first =>
    obtain ⟨y5, hy5⟩ : ∃ y5, y5 = World.drew W3 := ⟨_, rfl⟩
    have hbD : Below W3.heap.size W3 y5 := by rw [hy5]; exact (Below.refl _ _).drew
    have C_y5 : Hid (Below W3.heap.size W3 y5) := Lib.hid (stepB C_W3.out hbD)
    clear C_W3
    have hbd : (fun w' => Below W3.heap.size W3 w') (World.drew W3) := by rw [← hy5]; exact C_y5.out
    have hSD : (fun w' => Below W3.heap.size W3 w') y5 := C_y5.out
    have HWD := Lib.hid hy5
    clear hy5 hbD
    refine wp_region_held_drew (S := fun w' => Below W3.heap.size W3 w') (by kernel_rfl) hbd (fun hHeld => ?_)
    rw [← HWD.out]
    clear hHeld
    have hHeld := hSD
    clear hSD hbd HWD
    refine wpAnyH_take (i := 0) (v := (.agg (quC sq 3 (.slice (some ⟨p3, o3, none⟩) ys3.length c3)).toArray)) (get_ops _ _ _ rfl) (by kernel_rfl) (by kernel_rfl) (by kernel_rfl) (fun _ _ _ h => h) (Or.inl ⟨by rfl, fun wS hSw => by (try dsimp only at hSw); exact exec_load 26 _ rfl ⟨gQ, 0, none⟩ (by go_simp) _ (load_qu (W3Q.out.step hSw))⟩) hHeld ?_
    try simp only [Act.put, List.setIfInBounds_toArray, List.set_cons_zero, List.set_cons_succ]
    refine wpAnyH_ready (rs := [1, 6]) (by kernel_rfl) (by simp) ?_
    refine (AllReadyH.cons (get_ops _ _ _ rfl) (fun K hK => ?_) (AllReadyH.cons (get_ops _ _ _ rfl) (fun K hK => ?_) AllReadyH.nil))
    · go_simp
      refine (HMS.out 9 y5).mono ?_
      rintro e y6 ⟨rfl, hb⟩
      have C_y6 : Hid (Below W3.heap.size W3 y6) := Lib.hid (stepB C_y5.out hb)
      clear C_y5
      clear hHeld hb
      go_wp2_with fail
      refine hK.out _ _ C_y6.out (fun hHeld => ?_)
      clear hK K
      try simp only [Act.put, List.setIfInBounds_toArray, List.set_cons_zero, List.set_cons_succ]
      refine wpAnyH_ready (rs := [2, 6]) (by kernel_rfl) (by simp) ?_
      refine (AllReadyH.cons (get_ops _ _ _ rfl) (fun K hK => ?_) (AllReadyH.cons (get_ops _ _ _ rfl) (fun K hK => ?_) AllReadyH.nil))
      · go_simp
        refine (HP3.out (some ⟨p3, o3, none⟩) c3 ys3 y6 (HO.out.step (stepB W3B.out C_y6.out)) (ens_step W3L.out C_y6.out) HY3.out).mono ?_
        rintro e y7 ⟨v4, ys4, rfl, hys4, hL4, hb⟩
        have C_y7 : Hid (Below W3.heap.size W3 y7) := Lib.hid (stepB C_y6.out hb)
        clear C_y6
        obtain ⟨A4, c4, rfl, _⟩ := hL4.ret gE_len
        clear hL4 hys4
        clear hHeld hb
        go_wp2_with fail
        refine hK.out _ _ C_y7.out (fun hHeld => ?_)
        clear hK K
        try simp only [Act.put, List.setIfInBounds_toArray, List.set_cons_zero, List.set_cons_succ]
        refine wpAnyH_take (i := 3) (v := (.tuple #[quV Sp.zero 0 (.slice A4 ys4.length c4), .int .i64 6])) (get_ops _ _ _ rfl) (by kernel_rfl) (by kernel_rfl) (by kernel_rfl) (fun _ _ _ h => h) (Or.inl ⟨by rfl, fun wS hSw => by (try dsimp only at hSw); go_simp⟩) hHeld ?_
        try simp only [Act.put, List.setIfInBounds_toArray, List.set_cons_zero, List.set_cons_succ]
        refine wpAnyH_take (i := 4) (v := (quV Sp.zero 0 (.slice A4 ys4.length c4))) (get_ops _ _ _ rfl) (by kernel_rfl) (by kernel_rfl) (by kernel_rfl) (fun _ _ _ h => h) (Or.inl ⟨by rfl, fun wS hSw => by (try dsimp only at hSw); go_simp⟩) hHeld ?_
        try simp only [Act.put, List.setIfInBounds_toArray, List.set_cons_zero, List.set_cons_succ]
        refine wpAnyH_take (i := 5) (v := (.int .i64 6)) (get_ops _ _ _ rfl) (by kernel_rfl) (by kernel_rfl) (by kernel_rfl) (fun _ _ _ h => h) (Or.inl ⟨by rfl, fun wS hSw => by (try dsimp only at hSw); go_simp⟩) hHeld ?_
        try simp only [Act.put, List.setIfInBounds_toArray, List.set_cons_zero, List.set_cons_succ]
        refine wpAnyH_ready (rs := [6]) (by kernel_rfl) (by simp) ?_
        refine (AllReadyH.cons (get_ops _ _ _ rfl) (fun K hK => ?_) AllReadyH.nil)
        have HT0 : Hid (W3.heap.size ≤ y7.heap.size) := Lib.hid C_y7.out.size
        go_simp
        obtain ⟨y8, hy8⟩ : ∃ y8, y8 = y7.alloc (.cells ([.string ⟨#[]⟩, .int .i64 0, .int .i64 0, .int .i64 0, .string ⟨#[]⟩, .int .i64 0, .slice none 0 0] : List Value).toArray 26) := ⟨_, rfl⟩
        have hb : Below y7.heap.size y7 y8 := by rw [hy8]; exact S2.below_new _ _
        have hN : BK 26 y8 (y7.heap.size) ([.string ⟨#[]⟩, .int .i64 0, .int .i64 0, .int .i64 0, .string ⟨#[]⟩, .int .i64 0, .slice none 0 0] : List Value) := by rw [hy8]; exact BK.new _ _ _
        have C_y8 : Hid (Below W3.heap.size W3 y8) := Lib.hid (stepB C_y7.out hb)
        clear C_y7
        have T_y8 := Lib.hid hN
        try rw [← hy8]
        clear hHeld hb hN hy8
        refine hK.out _ _ C_y8.out (fun hHeld => ?_)
        clear hK K
        try simp only [Act.put, List.setIfInBounds_toArray, List.set_cons_zero, List.set_cons_succ]
        refine wpAnyH_ready (rs := [7]) (by kernel_rfl) (by simp) ?_
        refine (AllReadyH.cons (get_ops _ _ _ rfl) (fun K hK => ?_) AllReadyH.nil)
        refine S2.wp_store_all 26 _ _ rfl rfl (y7.heap.size) (by go_simp) (quC Sp.zero 0 (.slice A4 ys4.length c4)) (by first | rfl | go_simp) 26 _ T_y8.out quSize rfl (quC_one _ rfl) ?_
        intro y9 hM hP
        have T_y9 : Hid (BK 26 y9 (y7.heap.size) (quC Sp.zero 0 (.slice A4 ys4.length c4))) := Lib.hid (hM)
        have C_y9 : Hid (Below W3.heap.size W3 y9) := Lib.hid (hP.below C_y8.out HT0.out)
        clear C_y8 T_y8
        clear hM hP hHeld
        refine hK.out _ _ C_y9.out (fun hHeld => ?_)
        clear hK K
        try simp only [Act.put, List.setIfInBounds_toArray, List.set_cons_zero, List.set_cons_succ]
        refine wpAnyH_take (i := 8) (v := (.int .i64 6)) (get_ops _ _ _ rfl) (by kernel_rfl) (by kernel_rfl) (by kernel_rfl) (fun _ _ _ h => h) (Or.inl ⟨by rfl, fun wS hSw => by (try dsimp only at hSw); go_simp⟩) hHeld ?_
        try simp only [Act.put, List.setIfInBounds_toArray, List.set_cons_zero, List.set_cons_succ]
        refine wpAnyH_done (by kernel_rfl) ?_ _
        go_wp2_with fail
        go_meet
        exact ⟨rfl, C_y9.out⟩
      · have HT0 : Hid (W3.heap.size ≤ y6.heap.size) := Lib.hid C_y6.out.size
        go_simp
        obtain ⟨y7, hy7⟩ : ∃ y7, y7 = y6.alloc (.cells ([.string ⟨#[]⟩, .int .i64 0, .int .i64 0, .int .i64 0, .string ⟨#[]⟩, .int .i64 0, .slice none 0 0] : List Value).toArray 26) := ⟨_, rfl⟩
        have hb : Below y6.heap.size y6 y7 := by rw [hy7]; exact S2.below_new _ _
        have hN : BK 26 y7 (y6.heap.size) ([.string ⟨#[]⟩, .int .i64 0, .int .i64 0, .int .i64 0, .string ⟨#[]⟩, .int .i64 0, .slice none 0 0] : List Value) := by rw [hy7]; exact BK.new _ _ _
        have C_y7 : Hid (Below W3.heap.size W3 y7) := Lib.hid (stepB C_y6.out hb)
        clear C_y6
        have T_y7 := Lib.hid hN
        try rw [← hy7]
        clear hHeld hb hN hy7
        refine hK.out _ _ C_y7.out (fun hHeld => ?_)
        clear hK K
        try simp only [Act.put, List.setIfInBounds_toArray, List.set_cons_zero, List.set_cons_succ]
        refine wpAnyH_ready (rs := [2]) (by kernel_rfl) (by simp) ?_
        refine (AllReadyH.cons (get_ops _ _ _ rfl) (fun K hK => ?_) AllReadyH.nil)
        go_simp
        refine (HP3.out (some ⟨p3, o3, none⟩) c3 ys3 y7 (HO.out.step (stepB W3B.out C_y7.out)) (ens_step W3L.out C_y7.out) HY3.out).mono ?_
        rintro e y8 ⟨v4, ys4, rfl, hys4, hL4, hb⟩
        have C_y8 : Hid (Below W3.heap.size W3 y8) := Lib.hid (stepB C_y7.out hb)
        have T_y8 : Hid (BK 26 y8 (y6.heap.size) ([.string ⟨#[]⟩, .int .i64 0, .int .i64 0, .int .i64 0, .string ⟨#[]⟩, .int .i64 0, .slice none 0 0] : List Value)) := Lib.hid (T_y7.out.step hb)
        clear C_y7 T_y7
        obtain ⟨A4, c4, rfl, _⟩ := hL4.ret gE_len
        clear hL4 hys4
        clear hHeld hb
        go_wp2_with fail
        refine hK.out _ _ C_y8.out (fun hHeld => ?_)
        clear hK K
        try simp only [Act.put, List.setIfInBounds_toArray, List.set_cons_zero, List.set_cons_succ]
        refine wpAnyH_take (i := 3) (v := (.tuple #[quV Sp.zero 0 (.slice A4 ys4.length c4), .int .i64 6])) (get_ops _ _ _ rfl) (by kernel_rfl) (by kernel_rfl) (by kernel_rfl) (fun _ _ _ h => h) (Or.inl ⟨by rfl, fun wS hSw => by (try dsimp only at hSw); go_simp⟩) hHeld ?_
        try simp only [Act.put, List.setIfInBounds_toArray, List.set_cons_zero, List.set_cons_succ]
        refine wpAnyH_take (i := 4) (v := (quV Sp.zero 0 (.slice A4 ys4.length c4))) (get_ops _ _ _ rfl) (by kernel_rfl) (by kernel_rfl) (by kernel_rfl) (fun _ _ _ h => h) (Or.inl ⟨by rfl, fun wS hSw => by (try dsimp only at hSw); go_simp⟩) hHeld ?_
        try simp only [Act.put, List.setIfInBounds_toArray, List.set_cons_zero, List.set_cons_succ]
        refine wpAnyH_take (i := 5) (v := (.int .i64 6)) (get_ops _ _ _ rfl) (by kernel_rfl) (by kernel_rfl) (by kernel_rfl) (fun _ _ _ h => h) (Or.inl ⟨by rfl, fun wS hSw => by (try dsimp only at hSw); go_simp⟩) hHeld ?_
        try simp only [Act.put, List.setIfInBounds_toArray, List.set_cons_zero, List.set_cons_succ]
        refine wpAnyH_ready (rs := [7]) (by kernel_rfl) (by simp) ?_
        refine (AllReadyH.cons (get_ops _ _ _ rfl) (fun K hK => ?_) AllReadyH.nil)
        refine S2.wp_store_all 26 _ _ rfl rfl (y6.heap.size) (by go_simp) (quC Sp.zero 0 (.slice A4 ys4.length c4)) (by first | rfl | go_simp) 26 _ T_y8.out quSize rfl (quC_one _ rfl) ?_
        intro y9 hM hP
        have T_y9 : Hid (BK 26 y9 (y6.heap.size) (quC Sp.zero 0 (.slice A4 ys4.length c4))) := Lib.hid (hM)
        have C_y9 : Hid (Below W3.heap.size W3 y9) := Lib.hid (hP.below C_y8.out HT0.out)
        clear C_y8 T_y8
        clear hM hP hHeld
        refine hK.out _ _ C_y9.out (fun hHeld => ?_)
        clear hK K
        try simp only [Act.put, List.setIfInBounds_toArray, List.set_cons_zero, List.set_cons_succ]
        refine wpAnyH_take (i := 8) (v := (.int .i64 6)) (get_ops _ _ _ rfl) (by kernel_rfl) (by kernel_rfl) (by kernel_rfl) (fun _ _ _ h => h) (Or.inl ⟨by rfl, fun wS hSw => by (try dsimp only at hSw); go_simp⟩) hHeld ?_
        try simp only [Act.put, List.setIfInBounds_toArray, List.set_cons_zero, List.set_cons_succ]
        refine wpAnyH_done (by kernel_rfl) ?_ _
        go_wp2_with fail
        go_meet
        exact ⟨rfl, C_y9.out⟩
    · have HT0 : Hid (W3.heap.size ≤ y5.heap.size) := Lib.hid C_y5.out.size
      go_simp
      obtain ⟨y6, hy6⟩ : ∃ y6, y6 = y5.alloc (.cells ([.string ⟨#[]⟩, .int .i64 0, .int .i64 0, .int .i64 0, .string ⟨#[]⟩, .int .i64 0, .slice none 0 0] : List Value).toArray 26) := ⟨_, rfl⟩
      have hb : Below y5.heap.size y5 y6 := by rw [hy6]; exact S2.below_new _ _
      have hN : BK 26 y6 (y5.heap.size) ([.string ⟨#[]⟩, .int .i64 0, .int .i64 0, .int .i64 0, .string ⟨#[]⟩, .int .i64 0, .slice none 0 0] : List Value) := by rw [hy6]; exact BK.new _ _ _
      have C_y6 : Hid (Below W3.heap.size W3 y6) := Lib.hid (stepB C_y5.out hb)
      clear C_y5
      have T_y6 := Lib.hid hN
      try rw [← hy6]
      clear hHeld hb hN hy6
      refine hK.out _ _ C_y6.out (fun hHeld => ?_)
      clear hK K
      try simp only [Act.put, List.setIfInBounds_toArray, List.set_cons_zero, List.set_cons_succ]
      refine wpAnyH_ready (rs := [1]) (by kernel_rfl) (by simp) ?_
      refine (AllReadyH.cons (get_ops _ _ _ rfl) (fun K hK => ?_) AllReadyH.nil)
      go_simp
      refine (HMS.out 9 y6).mono ?_
      rintro e y7 ⟨rfl, hb⟩
      have C_y7 : Hid (Below W3.heap.size W3 y7) := Lib.hid (stepB C_y6.out hb)
      have T_y7 : Hid (BK 26 y7 (y5.heap.size) ([.string ⟨#[]⟩, .int .i64 0, .int .i64 0, .int .i64 0, .string ⟨#[]⟩, .int .i64 0, .slice none 0 0] : List Value)) := Lib.hid (T_y6.out.step hb)
      clear C_y6 T_y6
      clear hHeld hb
      go_wp2_with fail
      refine hK.out _ _ C_y7.out (fun hHeld => ?_)
      clear hK K
      try simp only [Act.put, List.setIfInBounds_toArray, List.set_cons_zero, List.set_cons_succ]
      refine wpAnyH_ready (rs := [2]) (by kernel_rfl) (by simp) ?_
      refine (AllReadyH.cons (get_ops _ _ _ rfl) (fun K hK => ?_) AllReadyH.nil)
      go_simp
      refine (HP3.out (some ⟨p3, o3, none⟩) c3 ys3 y7 (HO.out.step (stepB W3B.out C_y7.out)) (ens_step W3L.out C_y7.out) HY3.out).mono ?_
      rintro e y8 ⟨v4, ys4, rfl, hys4, hL4, hb⟩
      have C_y8 : Hid (Below W3.heap.size W3 y8) := Lib.hid (stepB C_y7.out hb)
      have T_y8 : Hid (BK 26 y8 (y5.heap.size) ([.string ⟨#[]⟩, .int .i64 0, .int .i64 0, .int .i64 0, .string ⟨#[]⟩, .int .i64 0, .slice none 0 0] : List Value)) := Lib.hid (T_y7.out.step hb)
      clear C_y7 T_y7
      obtain ⟨A4, c4, rfl, _⟩ := hL4.ret gE_len
      clear hL4 hys4
      clear hHeld hb
      go_wp2_with fail
      refine hK.out _ _ C_y8.out (fun hHeld => ?_)
      clear hK K
      try simp only [Act.put, List.setIfInBounds_toArray, List.set_cons_zero, List.set_cons_succ]
      refine wpAnyH_take (i := 3) (v := (.tuple #[quV Sp.zero 0 (.slice A4 ys4.length c4), .int .i64 6])) (get_ops _ _ _ rfl) (by kernel_rfl) (by kernel_rfl) (by kernel_rfl) (fun _ _ _ h => h) (Or.inl ⟨by rfl, fun wS hSw => by (try dsimp only at hSw); go_simp⟩) hHeld ?_
      try simp only [Act.put, List.setIfInBounds_toArray, List.set_cons_zero, List.set_cons_succ]
      refine wpAnyH_take (i := 4) (v := (quV Sp.zero 0 (.slice A4 ys4.length c4))) (get_ops _ _ _ rfl) (by kernel_rfl) (by kernel_rfl) (by kernel_rfl) (fun _ _ _ h => h) (Or.inl ⟨by rfl, fun wS hSw => by (try dsimp only at hSw); go_simp⟩) hHeld ?_
      try simp only [Act.put, List.setIfInBounds_toArray, List.set_cons_zero, List.set_cons_succ]
      refine wpAnyH_take (i := 5) (v := (.int .i64 6)) (get_ops _ _ _ rfl) (by kernel_rfl) (by kernel_rfl) (by kernel_rfl) (fun _ _ _ h => h) (Or.inl ⟨by rfl, fun wS hSw => by (try dsimp only at hSw); go_simp⟩) hHeld ?_
      try simp only [Act.put, List.setIfInBounds_toArray, List.set_cons_zero, List.set_cons_succ]
      refine wpAnyH_ready (rs := [7]) (by kernel_rfl) (by simp) ?_
      refine (AllReadyH.cons (get_ops _ _ _ rfl) (fun K hK => ?_) AllReadyH.nil)
      refine S2.wp_store_all 26 _ _ rfl rfl (y5.heap.size) (by go_simp) (quC Sp.zero 0 (.slice A4 ys4.length c4)) (by first | rfl | go_simp) 26 _ T_y8.out quSize rfl (quC_one _ rfl) ?_
      intro y9 hM hP
      have T_y9 : Hid (BK 26 y9 (y5.heap.size) (quC Sp.zero 0 (.slice A4 ys4.length c4))) := Lib.hid (hM)
      have C_y9 : Hid (Below W3.heap.size W3 y9) := Lib.hid (hP.below C_y8.out HT0.out)
      clear C_y8 T_y8
      clear hM hP hHeld
      refine hK.out _ _ C_y9.out (fun hHeld => ?_)
      clear hK K
      try simp only [Act.put, List.setIfInBounds_toArray, List.set_cons_zero, List.set_cons_succ]
      refine wpAnyH_take (i := 8) (v := (.int .i64 6)) (get_ops _ _ _ rfl) (by kernel_rfl) (by kernel_rfl) (by kernel_rfl) (fun _ _ _ h => h) (Or.inl ⟨by rfl, fun wS hSw => by (try dsimp only at hSw); go_simp⟩) hHeld ?_
      try simp only [Act.put, List.setIfInBounds_toArray, List.set_cons_zero, List.set_cons_succ]
      refine wpAnyH_done (by kernel_rfl) ?_ _
      go_wp2_with fail
      go_meet
      exact ⟨rfl, C_y9.out⟩
  case rest =>
  rename World => W4
  obtain ⟨rfl, hcc⟩ := hcut
  have C_W4 := Lib.hid hcc
  clear hcc C_W3
  have d6 := (W3Q.out.step C_W4.out).cell 6 rfl
  have d5 := (W3Q.out.step C_W4.out).cell 5 rfl
  have d0 : W4.cell? ⟨p3, o3, none⟩ = some (.int .i64 2) := (World.cell?_of_block (a := ⟨p3, o3, none⟩) (C_W4.out.block p3 HK3.out)).trans HKC.out
  have q1 : ((ys3.length : Int) != 2) = false := by rw [HL3.out]; rfl
  have q2 : (0 : Int) < (ys3.length : Int) := by rw [HL3.out]; decide
  have q3 : (ys3.length != 2) = false := by rw [HL3.out]; rfl
  have q4 : ¬ ys3.length = 0 := by rw [HL3.out]; decide
  have q5 : 0 < ys3.length := by rw [HL3.out]; decide
  go_upto_region 7 with fail
  clear d6 d5 d0 q1 q2 q3 q4 q5
  go_wp2_with first
    | (refine wpList_load_v (by rfl) 26 (.tmp 1) rfl ⟨gQ, 0, none⟩ rfl (.agg (quC sq 3 (.slice (some ⟨p3, o3, none⟩) ys3.length c3)).toArray) (load_qu (W3Q.out.step C_W4.out)) ?_)
  refine (HPO.out (some ⟨p3, o3, none⟩) c3 ys3 W4 (ens_step W3L.out C_W4.out) HC3.out HY3.out).mono ?_
  rintro e y6 ⟨a7, c7, v8, ys8, rfl, hp7, hn7, hys8, hL8, hb⟩
  have C_y6 : Hid (Below W3.heap.size W3 y6) := Lib.hid (stepB C_W4.out hb)
  clear C_W4
  obtain ⟨A8, c8, rfl, hc8, hen8⟩ := LN.of gE_len hL8
  have HY8 := Lib.hid hys8
  clear hL8 hys8 hp7 hn7 hc8
  have L8_y6 := Lib.hid hen8.1
  clear hen8
  clear hb
  go_upto_region 8 with first
    | (refine S2.wpList_store_all (by rfl) 34 (.tmp 7) (.tmp 77) rfl rfl y6.heap.size rfl (enX x2 a7 c7) rfl 34 (enX En.zero none 0) (BK.alloc (BK.new y6 _ _) _) enSize rfl (enX_one _ _ _) ?_; intro y7 hM hP; have XM := Lib.hid hM; have XP := Lib.hid hP; clear hM hP)
    | (refine S2.wpList_store_all (by rfl) 26 (.tmp 8) (.tmp 78) rfl rfl (y6.heap.size + 1) rfl (quC sq 3 (.slice A8 ys8.length c8)) rfl 26 zeroQ (XP.out.other (bk_new1 y6 _ _ _) (by omega)) quSize rfl (quC_one _ rfl) ?_; intro y8 hM hP; have hb : Below y6.heap.size y6 y8 := hP.below (XP.out.below (stepB (S2.below_new y6 _) (S2.below_new _ _)) (Nat.le_refl _)) (by omega); have E7_y8 : Hid (BK 34 y8 y6.heap.size (enX x2 a7 c7)) := Lib.hid (hP.other XM.out (by omega)); have Q8_y8 : Hid (BK 26 y8 (y6.heap.size + 1) (quC sq 3 (.slice A8 ys8.length c8))) := Lib.hid hM; have C_y8 := Lib.hid (stepB C_y6.out hb); have L8_y8 : Hid (EI y8 y8.heap.size A8 ys8) := Lib.hid (LI.step L8_y6.out hb); clear hM hP hb XM XP C_y6 L8_y6)
  obtain ⟨g7, hg7⟩ : ∃ b, b = y6.heap.size := ⟨_, rfl⟩
  obtain ⟨g8, hg8⟩ : ∃ b, b = y6.heap.size + 1 := ⟨_, rfl⟩
  rw [← hg8] at Q8_y8
  rw [← hg7] at E7_y8
  try rw [← hg8]
  try rw [← hg7]
  clear hg7 hg8
  go_wp2_with first
    | (refine wpList_load_v (by rfl) 26 (.tmp 8) rfl ⟨g8, 0, none⟩ rfl (.agg (quC sq 3 (.slice A8 ys8.length c8)).toArray) (load_qu Q8_y8.out) ?_)
    | (refine wpList_load_v (by rfl) 34 (.tmp 7) rfl ⟨g7, 0, none⟩ rfl (.agg (enX x2 a7 c7).toArray) (load_en0 E7_y8.out) ?_)
  refine (HR1.out A8 c8 ys8 a7 c7 y8 (HO.out.step (stepB W3B.out C_y8.out)) L8_y8.out (GL.nil _ _ _) HY8.out).mono ?_
  rintro e y9 ⟨v10, ys10, rfl, hys10, hL10, hb⟩
  have C_y9 : Hid (Below W3.heap.size W3 y9) := Lib.hid (stepB C_y8.out hb)
  have L8_y9 : Hid (EI y9 y9.heap.size A8 ys8) := Lib.hid (LI.step L8_y8.out hb)
  have E7_y9 : Hid (BK 34 y9 g7 (enX x2 a7 c7)) := Lib.hid (E7_y8.out.step hb)
  have Q8_y9 : Hid (BK 26 y9 g8 (quC sq 3 (.slice A8 ys8.length c8))) := Lib.hid (Q8_y8.out.step hb)
  clear C_y8 L8_y8 E7_y8 Q8_y8
  obtain ⟨A10, c10, rfl, hc10, hen10⟩ := LN.of gE_len hL10
  have HY10 := Lib.hid hys10
  clear hL10 hys10 hc10
  have L10_y9 := Lib.hid hen10.1
  clear hen10
  clear hb
  have B_y9 : Hid (Below w.heap.size w y9) := Lib.hid (stepB W3B.out C_y9.out)
  have LWQ10 : Hid (w.heap.size ≤ y9.heap.size) := Lib.hid (by have h := B_y9.out.size; exact h)
  go_upto_region 9 with first
    | (refine S2.wpList_store_all (by rfl) 26 (.tmp 10) (.tmp 84) rfl rfl (y9.heap.size) rfl (quC sq 3 (.slice A10 ys10.length c10)) rfl 26 _ (BK.new y9 _ _) quSize rfl (ones rfl) ?_; intro y10 hM hP; have hb : Below y9.heap.size y9 y10 := hP.below (S2.below_new y9 _) (Nat.le_refl _); have C_y10 : Hid (Below W3.heap.size W3 y10) := Lib.hid (stepB C_y9.out hb); have L8_y10 : Hid (EI y10 y10.heap.size A8 ys8) := Lib.hid (LI.step L8_y9.out hb); have E7_y10 : Hid (BK 34 y10 g7 (enX x2 a7 c7)) := Lib.hid (E7_y9.out.step hb); have Q8_y10 : Hid (BK 26 y10 g8 (quC sq 3 (.slice A8 ys8.length c8))) := Lib.hid (Q8_y9.out.step hb); have L10_y10 : Hid (EI y10 y10.heap.size A10 ys10) := Lib.hid (LI.step L10_y9.out hb); have B_y10 : Hid (Below w.heap.size w y10) := Lib.hid (stepB B_y9.out hb); have Q10_y10 : Hid (BK 26 y10 (y9.heap.size) (quC sq 3 (.slice A10 ys10.length c10))) := Lib.hid hM; clear hM hP hb C_y9 L8_y9 E7_y9 Q8_y9 L10_y9 B_y9)
  obtain ⟨gQ10, hgQ10⟩ : ∃ gQ10, gQ10 = y9.heap.size := ⟨_, rfl⟩
  rw [← hgQ10] at LWQ10 Q10_y10
  try rw [← hgQ10]
  clear hgQ10
  go_wp2_with first
    | (refine wpList_load_v (by rfl) 26 (.tmp 10) rfl ⟨gQ10, 0, none⟩ rfl (.agg (quC sq 3 (.slice A10 ys10.length c10)).toArray) (load_qu Q10_y10.out) ?_)
    | (refine wpList_load_v (by rfl) 34 (.tmp 7) rfl ⟨g7, 0, none⟩ rfl (.agg (enX x2 a7 c7).toArray) (load_en0 E7_y10.out) ?_)
  refine (HR2.out A10 c10 ys10 a7 c7 y10 (HO.out.step B_y10.out) L10_y10.out (GL.nil _ _ _) HY10.out).mono ?_
  rintro e y11 ⟨v12, ys12, rfl, hys12, hL12, hb⟩
  have C_y11 : Hid (Below W3.heap.size W3 y11) := Lib.hid (stepB C_y10.out hb)
  have L8_y11 : Hid (EI y11 y11.heap.size A8 ys8) := Lib.hid (LI.step L8_y10.out hb)
  have E7_y11 : Hid (BK 34 y11 g7 (enX x2 a7 c7)) := Lib.hid (E7_y10.out.step hb)
  have Q8_y11 : Hid (BK 26 y11 g8 (quC sq 3 (.slice A8 ys8.length c8))) := Lib.hid (Q8_y10.out.step hb)
  have L10_y11 : Hid (EI y11 y11.heap.size A10 ys10) := Lib.hid (LI.step L10_y10.out hb)
  have B_y11 : Hid (Below w.heap.size w y11) := Lib.hid (stepB B_y10.out hb)
  have Q10_y11 : Hid (BK 26 y11 gQ10 (quC sq 3 (.slice A10 ys10.length c10))) := Lib.hid (Q10_y10.out.step hb)
  clear C_y10 L8_y10 E7_y10 Q8_y10 L10_y10 B_y10 Q10_y10
  obtain ⟨A12, c12, rfl, _⟩ := hL12.ret gE_len
  clear hL12 hys12
  clear hb
  have LWQ12 : Hid (w.heap.size ≤ y11.heap.size) := Lib.hid (by have h := B_y11.out.size; exact h)
  go_upto_region 10 with first
    | (refine S2.wpList_store_all (by rfl) 26 (.tmp 12) (.tmp 90) rfl rfl (y11.heap.size) rfl (quC Sp.zero 0 (.slice A12 ys12.length c12)) rfl 26 _ (BK.new y11 _ _) quSize rfl (ones rfl) ?_; intro y12 hM hP; have hb : Below y11.heap.size y11 y12 := hP.below (S2.below_new y11 _) (Nat.le_refl _); have C_y12 : Hid (Below W3.heap.size W3 y12) := Lib.hid (stepB C_y11.out hb); have L8_y12 : Hid (EI y12 y12.heap.size A8 ys8) := Lib.hid (LI.step L8_y11.out hb); have E7_y12 : Hid (BK 34 y12 g7 (enX x2 a7 c7)) := Lib.hid (E7_y11.out.step hb); have Q8_y12 : Hid (BK 26 y12 g8 (quC sq 3 (.slice A8 ys8.length c8))) := Lib.hid (Q8_y11.out.step hb); have L10_y12 : Hid (EI y12 y12.heap.size A10 ys10) := Lib.hid (LI.step L10_y11.out hb); have B_y12 : Hid (Below w.heap.size w y12) := Lib.hid (stepB B_y11.out hb); have Q10_y12 : Hid (BK 26 y12 gQ10 (quC sq 3 (.slice A10 ys10.length c10))) := Lib.hid (Q10_y11.out.step hb); have Q12_y12 : Hid (BK 26 y12 (y11.heap.size) (quC Sp.zero 0 (.slice A12 ys12.length c12))) := Lib.hid hM; clear hM hP hb C_y11 L8_y11 E7_y11 Q8_y11 L10_y11 B_y11 Q10_y11)
  obtain ⟨gQ12, hgQ12⟩ : ∃ gQ12, gQ12 = y11.heap.size := ⟨_, rfl⟩
  rw [← hgQ12] at LWQ12 Q12_y12
  try rw [← hgQ12]
  clear hgQ12
  clear Q12_y12 L8_y12 Q8_y12
  go_wp2_with first
    | (refine wpList_load_v (by rfl) 26 (.tmp 1) rfl ⟨gQ, 0, none⟩ rfl (.agg (quC sq 3 (.slice (some ⟨p3, o3, none⟩) ys3.length c3)).toArray) (load_qu (W3Q.out.step C_y12.out)) ?_)
  refine (HX1.out (some ⟨p3, o3, none⟩) c3 ys3 y12 (ens_step W3L.out C_y12.out) HY3.out).mono ?_
  rintro e y13 ⟨A14, c14, fs1, A15, c15, es1, rfl, hfs, hes, hx1, hx2, hx3, hx4, hb⟩
  have C_y13 : Hid (Below W3.heap.size W3 y13) := Lib.hid (stepB C_y12.out hb)
  have E7_y13 : Hid (BK 34 y13 g7 (enX x2 a7 c7)) := Lib.hid (E7_y12.out.step hb)
  have L10_y13 : Hid (EI y13 y13.heap.size A10 ys10) := Lib.hid (LI.step L10_y12.out hb)
  have B_y13 : Hid (Below w.heap.size w y13) := Lib.hid (stepB B_y12.out hb)
  have Q10_y13 : Hid (BK 26 y13 gQ10 (quC sq 3 (.slice A10 ys10.length c10))) := Lib.hid (Q10_y12.out.step hb)
  clear C_y12 E7_y12 L10_y12 B_y12 Q10_y12
  have HF1 : Hid (fs1.length = 2) := Lib.hid (len_map hfs)
  have HE1 : Hid (es1.length = 0) := Lib.hid (len_map hes)
  clear hfs hes hx1 hx2 hx3 hx4
  clear hb
  have LWQ15 : Hid (w.heap.size ≤ y13.heap.size) := Lib.hid (by have h := B_y13.out.size; exact h)
  go_upto_region 11 with first
    | (refine S2.wpList_store_all (by rfl) 26 (.tmp 15) (.tmp 96) rfl rfl (y13.heap.size) rfl (quC sq 3 (.slice A15 es1.length c15)) rfl 26 _ (BK.new y13 _ _) quSize rfl (ones rfl) ?_; intro y14 hM hP; have hb : Below y13.heap.size y13 y14 := hP.below (S2.below_new y13 _) (Nat.le_refl _); have C_y14 : Hid (Below W3.heap.size W3 y14) := Lib.hid (stepB C_y13.out hb); have E7_y14 : Hid (BK 34 y14 g7 (enX x2 a7 c7)) := Lib.hid (E7_y13.out.step hb); have L10_y14 : Hid (EI y14 y14.heap.size A10 ys10) := Lib.hid (LI.step L10_y13.out hb); have B_y14 : Hid (Below w.heap.size w y14) := Lib.hid (stepB B_y13.out hb); have Q10_y14 : Hid (BK 26 y14 gQ10 (quC sq 3 (.slice A10 ys10.length c10))) := Lib.hid (Q10_y13.out.step hb); have Q15_y14 : Hid (BK 26 y14 (y13.heap.size) (quC sq 3 (.slice A15 es1.length c15))) := Lib.hid hM; clear hM hP hb C_y13 E7_y13 L10_y13 B_y13 Q10_y13)
  obtain ⟨gQ15, hgQ15⟩ : ∃ gQ15, gQ15 = y13.heap.size := ⟨_, rfl⟩
  rw [← hgQ15] at LWQ15 Q15_y14
  try rw [← hgQ15]
  clear hgQ15
  go_wp2_with first
    | (refine wpList_load_v (by rfl) 26 (.tmp 1) rfl ⟨gQ, 0, none⟩ rfl (.agg (quC sq 3 (.slice (some ⟨p3, o3, none⟩) ys3.length c3)).toArray) (load_qu (W3Q.out.step C_y14.out)) ?_)
  refine (HX2.out (some ⟨p3, o3, none⟩) c3 ys3 y14 (ens_step W3L.out C_y14.out) HY3.out).mono ?_
  rintro e y15 ⟨A24, c24, fs2, A25, c25, es2, rfl, hfs, hes, hx1, hx2, hx3, hx4, hb⟩
  have C_y15 : Hid (Below W3.heap.size W3 y15) := Lib.hid (stepB C_y14.out hb)
  have E7_y15 : Hid (BK 34 y15 g7 (enX x2 a7 c7)) := Lib.hid (E7_y14.out.step hb)
  have L10_y15 : Hid (EI y15 y15.heap.size A10 ys10) := Lib.hid (LI.step L10_y14.out hb)
  have B_y15 : Hid (Below w.heap.size w y15) := Lib.hid (stepB B_y14.out hb)
  have Q10_y15 : Hid (BK 26 y15 gQ10 (quC sq 3 (.slice A10 ys10.length c10))) := Lib.hid (Q10_y14.out.step hb)
  have Q15_y15 : Hid (BK 26 y15 gQ15 (quC sq 3 (.slice A15 es1.length c15))) := Lib.hid (Q15_y14.out.step hb)
  clear C_y14 E7_y14 L10_y14 B_y14 Q10_y14 Q15_y14
  have HF2 : Hid (fs2.length = 0) := Lib.hid (len_map hfs)
  have HE2 : Hid (es2.length = 2) := Lib.hid (len_map hes)
  clear hfs hes hx1 hx2 hx3 hx4
  clear hb
  have LWQ17 : Hid (w.heap.size ≤ y15.heap.size) := Lib.hid (by have h := B_y15.out.size; exact h)
  go_upto_region 12 with first
    | (refine S2.wpList_store_all (by rfl) 26 (.tmp 17) (.tmp 101) rfl rfl (y15.heap.size) rfl (quC sq 3 (.slice A25 es2.length c25)) rfl 26 _ (BK.new y15 _ _) quSize rfl (ones rfl) ?_; intro y16 hM hP; have hb : Below y15.heap.size y15 y16 := hP.below (S2.below_new y15 _) (Nat.le_refl _); have C_y16 : Hid (Below W3.heap.size W3 y16) := Lib.hid (stepB C_y15.out hb); have E7_y16 : Hid (BK 34 y16 g7 (enX x2 a7 c7)) := Lib.hid (E7_y15.out.step hb); have L10_y16 : Hid (EI y16 y16.heap.size A10 ys10) := Lib.hid (LI.step L10_y15.out hb); have B_y16 : Hid (Below w.heap.size w y16) := Lib.hid (stepB B_y15.out hb); have Q10_y16 : Hid (BK 26 y16 gQ10 (quC sq 3 (.slice A10 ys10.length c10))) := Lib.hid (Q10_y15.out.step hb); have Q15_y16 : Hid (BK 26 y16 gQ15 (quC sq 3 (.slice A15 es1.length c15))) := Lib.hid (Q15_y15.out.step hb); have Q17_y16 : Hid (BK 26 y16 (y15.heap.size) (quC sq 3 (.slice A25 es2.length c25))) := Lib.hid hM; clear hM hP hb C_y15 E7_y15 L10_y15 B_y15 Q10_y15 Q15_y15)
  obtain ⟨gQ17, hgQ17⟩ : ∃ gQ17, gQ17 = y15.heap.size := ⟨_, rfl⟩
  rw [← hgQ17] at LWQ17 Q17_y16
  try rw [← hgQ17]
  clear hgQ17
  have z7 : y16.cell? ⟨g7, 0, none⟩ = some (.int .i64 2) := E7_y16.out.cell 0 rfl
  go_wp2_with first
    | (refine wpList_load_v (by rfl) 26 (.tmp 10) rfl ⟨gQ10, 0, none⟩ rfl (.agg (quC sq 3 (.slice A10 ys10.length c10)).toArray) (load_qu Q10_y16.out) ?_)
    | (refine wpList_load_v (by rfl) 26 (.tmp 1) rfl ⟨gQ, 0, none⟩ rfl (.agg (quC sq 3 (.slice (some ⟨p3, o3, none⟩) ys3.length c3)).toArray) (load_qu (W3Q.out.step C_y16.out)) ?_)
  refine (HSM.out A10 c10 ys10 (some ⟨p3, o3, none⟩) c3 ys3 y16 L10_y16.out (ens_step W3L.out C_y16.out) HY10.out HY3.out).mono ?_
  rintro e y17 ⟨rfl, hb⟩
  have C_y17 : Hid (Below W3.heap.size W3 y17) := Lib.hid (stepB C_y16.out hb)
  have E7_y17 : Hid (BK 34 y17 g7 (enX x2 a7 c7)) := Lib.hid (E7_y16.out.step hb)
  have L10_y17 : Hid (EI y17 y17.heap.size A10 ys10) := Lib.hid (LI.step L10_y16.out hb)
  have B_y17 : Hid (Below w.heap.size w y17) := Lib.hid (stepB B_y16.out hb)
  have Q10_y17 : Hid (BK 26 y17 gQ10 (quC sq 3 (.slice A10 ys10.length c10))) := Lib.hid (Q10_y16.out.step hb)
  have Q15_y17 : Hid (BK 26 y17 gQ15 (quC sq 3 (.slice A15 es1.length c15))) := Lib.hid (Q15_y16.out.step hb)
  have Q17_y17 : Hid (BK 26 y17 gQ17 (quC sq 3 (.slice A25 es2.length c25))) := Lib.hid (Q17_y16.out.step hb)
  clear C_y16 E7_y16 L10_y16 B_y16 Q10_y16 Q15_y16 Q17_y16
  clear hb
  clear z7
  have z15 := Q15_y17.out.cell 6 rfl
  have z17 := Q17_y17.out.cell 6 rfl
  have f1 : ((fs1.length : Int) == 2) = true := by rw [HF1.out]; rfl
  have e1 : ((es1.length : Int) == 0) = true := by rw [HE1.out]; rfl
  have f1n : (fs1.length == 2) = true := by rw [HF1.out]; rfl
  have e1n : (es1.length == 0) = true := by rw [HE1.out]; rfl
  have f2 : ((fs2.length : Int) == 0) = true := by rw [HF2.out]; rfl
  have e2 : ((es2.length : Int) == 2) = true := by rw [HE2.out]; rfl
  have f2n : (fs2.length == 0) = true := by rw [HF2.out]; rfl
  have e2n : (es2.length == 2) = true := by rw [HE2.out]; rfl
  go_wp2_with first
    | (refine wpList_load_v (by rfl) 26 (.tmp 1) rfl ⟨gQ, 0, none⟩ rfl (.agg (quC sq 3 (.slice (some ⟨p3, o3, none⟩) ys3.length c3)).toArray) (load_qu (W3Q.out.step C_y17.out)) ?_)
  refine (HVA.out (some ⟨p3, o3, none⟩) c3 ys3 y17 (HO.out.step B_y17.out) (ens_step W3L.out C_y17.out) HY3.out).mono ?_
  rintro e y18 ⟨rfl, hb⟩
  have C_y18 : Hid (Below W3.heap.size W3 y18) := Lib.hid (stepB C_y17.out hb)
  have E7_y18 : Hid (BK 34 y18 g7 (enX x2 a7 c7)) := Lib.hid (E7_y17.out.step hb)
  have L10_y18 : Hid (EI y18 y18.heap.size A10 ys10) := Lib.hid (LI.step L10_y17.out hb)
  have B_y18 : Hid (Below w.heap.size w y18) := Lib.hid (stepB B_y17.out hb)
  have Q10_y18 : Hid (BK 26 y18 gQ10 (quC sq 3 (.slice A10 ys10.length c10))) := Lib.hid (Q10_y17.out.step hb)
  have Q15_y18 : Hid (BK 26 y18 gQ15 (quC sq 3 (.slice A15 es1.length c15))) := Lib.hid (Q15_y17.out.step hb)
  have Q17_y18 : Hid (BK 26 y18 gQ17 (quC sq 3 (.slice A25 es2.length c25))) := Lib.hid (Q17_y17.out.step hb)
  clear C_y17 E7_y17 L10_y17 B_y17 Q10_y17 Q15_y17 Q17_y17
  clear hb
  go_wp2
  go_ret
  exact ⟨rfl, B_y18.out⟩

end Go.Proofs.YtjhojpghllnoiaaDoor
