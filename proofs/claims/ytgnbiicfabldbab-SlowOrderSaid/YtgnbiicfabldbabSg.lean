/-
  What Push of brokerref17 answers. Conditions: the lists read as data; few messages.
-/
import Derived.Test.YtgnbiicfabldbabSf
namespace Go.Proofs.Ytgnbiicfabldbab
open Go.RowKit
open S2 (BK Put)

theorem push_msgs {xs : List ME} {A2 : Option Addr} {w : World} {m : Msg} {am : Option Addr} {cm : Nat} (h : GL gM 9 w w.heap.size A2 (xs ++ [⟨m, am, cm⟩])) (h1 : ∀ x ∈ xs, PL w w.heap.size x.a x.m.props) (h2 : PL w w.heap.size am m.props) : MI w w.heap.size A2 (xs ++ [⟨m, am, cm⟩]) := ⟨h, fun x hx => by
  rcases List.mem_append.1 hx with hx | hx
  · exact h1 x hx
  · simp at hx; subst hx; exact h2⟩

set_option maxRecDepth 20000 in
set_option maxHeartbeats 4000000 in
theorem rPushQ_any (A : Option Addr) (c : Nat) (xs : List ME) (m : Msg) (am : Option Addr) (cm : Nat) (mx pol : Int) (w : World) (hsl : MI w w.heap.size A xs) (hm : PL w w.heap.size am m.props) (hc : xs.length ≤ c) (hn : xs.length ≤ 90000) :
    Calls Try.prog 12 #[.slice A xs.length c, msgV m am cm, .int .i64 mx, .int .i64 pol] w (RetPu (pushR (xs.map ME.m) m mx pol) w) := by
  have HS := Lib.hid hsl
  have HM := Lib.hid hm
  have HN := Lib.hid hn
  have HC := Lib.hid hc
  obtain ⟨R, hR⟩ : ∃ R, pushR (xs.map ME.m) m mx pol = R := ⟨_, rfl⟩
  rw [hR]
  have HPC := Lib.hid (push_cases hR)
  have hlm : (((xs.map ME.m).length : Nat) : Int) = (xs.length : Int) := by simp
  rw [hlm] at HPC
  clear hR hsl hm hc hlm
  unfold msgV
  go_enter Try.func12, Try.ntmps12
  go_upto_region 1 with fail
  refine name_world (C := fun w1 => Code.wp _ _ _ _ w1) (w.alloc (.cells (msgC m am cm).toArray 25)) ?_
  intro w1 hw1
  have hb1 : Below w.heap.size w w1 := by rw [hw1]; exact S2.below_new w _
  have V_w1 : Hid (BK 25 w1 w.heap.size (msgC m am cm)) := Lib.hid (by rw [hw1]; exact BK.new w _ _)
  have B_w1 := Lib.hid hb1
  obtain ⟨q, hq⟩ : ∃ q, q = w1.heap.size := ⟨_, rfl⟩
  have HQ : Hid (w.heap.size < q) := Lib.hid (by rw [hq]; exact V_w1.out.lt)
  have Z_w1 : Hid (q ≤ w1.heap.size) := Lib.hid (by omega)
  clear hw1 hb1 hq
  by_cases hl : (xs.length : Int) < mx
  · have q1 : decide ((xs.length : Int) < mx) = true := decide_eq_true hl
    have HR : Hid ((xs.map ME.m ++ [m], [], false) = R) := Lib.hid (HPC.out.1 hl)
    clear hl HPC
    go_upto_region 2 with fail
    clear q1
    obtain ⟨x1, hx1⟩ : ∃ x1, x1 = World.drew w1 := ⟨_, rfl⟩
    have hbD : Below w1.heap.size w1 x1 := by rw [hx1]; exact (Below.refl _ _).drew
    have V_x1 : Hid (BK 25 x1 w.heap.size (msgC m am cm)) := Lib.hid (V_w1.out.step hbD)
    have B_x1 : Hid (Below w.heap.size w x1) := Lib.hid (stepB B_w1.out hbD)
    have Z_x1 : Hid (q ≤ x1.heap.size) := Lib.hid (Nat.le_trans Z_w1.out hbD.size)
    clear V_w1 B_w1 Z_w1
    have hbd : (fun w' => BK 25 w' w.heap.size (msgC m am cm) ∧ Below w.heap.size w w') (World.drew w1) := by rw [← hx1]; exact ⟨V_x1.out, B_x1.out⟩
    have hSD : (fun w' => BK 25 w' w.heap.size (msgC m am cm) ∧ Below w.heap.size w w') x1 := ⟨V_x1.out, B_x1.out⟩
    have HWD := Lib.hid hx1
    clear hx1 hbD
    refine wp_region_held_drew (S := fun w' => BK 25 w' w.heap.size (msgC m am cm) ∧ Below w.heap.size w w') (by kernel_rfl) hbd (fun hHeld => ?_)
    rw [← HWD.out]
    clear hHeld
    have hHeld := hSD
    clear hSD hbd HWD
    refine wpAnyH_take (i := 1) (v := .slice A xs.length c) (get_ops _ _ _ rfl) (by kernel_rfl) (by kernel_rfl) (by kernel_rfl) (fun _ _ _ h => h) (Or.inl ⟨by rfl, fun wS hSw => by (try dsimp only at hSw); go_simp⟩) hHeld ?_
    try simp only [Act.put, List.setIfInBounds_toArray, List.set_cons_zero, List.set_cons_succ]
    refine wpAnyH_take (i := 3) (v := (.agg #[.string m.topic, .string m.payload, .int .i64 m.level, .bool m.retain, .int .i64 m.prio, .int .i64 m.exps, .string m.frm, .int .i64 m.seq, .slice am m.props.length cm])) (get_ops _ _ _ rfl) (by kernel_rfl) (by kernel_rfl) (by kernel_rfl) (fun _ _ _ h => h) (Or.inl ⟨by rfl, fun wS hSw => by (try dsimp only at hSw); exact exec_load 25 _ rfl ⟨w.heap.size, 0, none⟩ (by go_simp) _ (S2.run_load_all hSw.1 Try.underlying25 rfl msgSize)⟩) hHeld ?_
    try simp only [Act.put, List.setIfInBounds_toArray, List.set_cons_zero, List.set_cons_succ]
    refine wpAnyH_ready (rs := [0, 4]) (by kernel_rfl) (by simp) ?_
    refine (AllReadyH.cons (get_ops _ _ _ rfl) (fun K hK => ?_) (AllReadyH.cons (get_ops _ _ _ rfl) (fun K hK => ?_) AllReadyH.nil))
    · go_simp
      obtain ⟨va, hva⟩ : ∃ v : Value, v = .slice (some ⟨x1.heap.size, 0, none⟩) 0 0 := ⟨_, rfl⟩
      rw [← hva]
      refine name_world (C := fun w9 => K _ w9) (x1.alloc (.cells #[] 25)) ?_
      intro x2 hx2
      have hb : Below x1.heap.size x1 x2 := by rw [hx2]; exact S2.below_new _ _
      have hN : OwnG 25 gM 9 x2 q va [] := by rw [hx2, hva]; exact OwnG.made _ 0 #[] _ Z_x1.out (by decide) rfl
      have V_x2 : Hid (BK 25 x2 w.heap.size (msgC m am cm)) := Lib.hid (V_x1.out.step hb)
      have B_x2 : Hid (Below w.heap.size w x2) := Lib.hid (stepB B_x1.out hb)
      have Z_x2 : Hid (q ≤ x2.heap.size) := Lib.hid (Nat.le_trans Z_x1.out hb.size)
      clear V_x1 B_x1 Z_x1
      have La_x2 := Lib.hid hN
      clear hHeld hb hN hx2 hva
      refine hK.out _ _ ⟨V_x2.out, B_x2.out⟩ (fun hHeld => ?_)
      clear hK K
      try simp only [Act.put, List.setIfInBounds_toArray, List.set_cons_zero, List.set_cons_succ]
      refine wpAnyH_ready (rs := [2, 4]) (by kernel_rfl) (by simp) ?_
      refine (AllReadyH.cons (get_ops _ _ _ rfl) (fun K hK => ?_) (AllReadyH.cons (get_ops _ _ _ rfl) (fun K hK => ?_) AllReadyH.nil))
      · rw [if_pos (by rfl)]
        have hoy := La_x2.out
        refine oper_appG (g := gM) (k := 9) (e := 25) (by decide) (.tmp 15) (.tmp 16) 22 22 rfl (.agg (msgC Msg.zero none 0).toArray) 112 Try.underlying22 msgInfo rfl (by decide) q va [] xs _ (by go_simp) hoy (by go_simp) (GL.src gM_len gM_one ((HS.out.step B_x2.out).1) Try.underlying22 c) Z_x2.out (by simp; have := HN.out; omega) ?_
        intro vb x3 hown hgr hoffs
        have V_x3 : Hid (BK 25 x3 w.heap.size (msgC m am cm)) := Lib.hid (BK.grow V_x2.out hgr (OwnG.off hoy (HQ.out)))
        have B_x3 : Hid (Below w.heap.size w x3) := Lib.hid (Below.grow B_x2.out hoy hgr B_x2.out.size (Nat.le_of_lt HQ.out))
        have Z_x3 : Hid (q ≤ x3.heap.size) := Lib.hid (Nat.le_trans Z_x2.out hgr.size)
        have Lb_x3 : Hid (OwnG 25 gM 9 x3 q vb ([] ++ xs)) := Lib.hid hown
        clear hoy hown hgr hoffs hHeld V_x2 B_x2 Z_x2 La_x2
        refine hK.out _ _ ⟨V_x3.out, B_x3.out⟩ (fun hHeld => ?_)
        clear hK K
        try simp only [Act.put, List.setIfInBounds_toArray, List.set_cons_zero, List.set_cons_succ]
        refine wpAnyH_ready (rs := [4]) (by kernel_rfl) (by simp) ?_
        refine (AllReadyH.cons (get_ops _ _ _ rfl) (fun K hK => ?_) AllReadyH.nil)
        go_simp
        obtain ⟨bm, hbm⟩ : ∃ n, n = x3.heap.size := ⟨_, rfl⟩
        refine name_world (C := fun w9 => K _ w9) (x3.alloc (.cells (gM (⟨m, am, cm⟩ : ME)).toArray 25)) ?_
        intro x4 hx4
        have hb : Below x3.heap.size x3 x4 := by rw [hx4]; exact S2.below_new _ _
        have hN : BK 25 x4 bm (gM (⟨m, am, cm⟩ : ME)) := by rw [hx4, hbm]; exact BK.new _ _ _
        have HD_b_m : Hid (vb.ownBlock ≠ some bm) := Lib.hid (OwnG.high Lb_x3.out (by omega))
        have V_x4 : Hid (BK 25 x4 w.heap.size (msgC m am cm)) := Lib.hid (V_x3.out.step hb)
        have B_x4 : Hid (Below w.heap.size w x4) := Lib.hid (stepB B_x3.out hb)
        have Z_x4 : Hid (q ≤ x4.heap.size) := Lib.hid (Nat.le_trans Z_x3.out hb.size)
        have Lb_x4 : Hid (OwnG 25 gM 9 x4 q vb ([] ++ xs)) := Lib.hid (OwnG.step Lb_x3.out hb)
        clear V_x3 B_x3 Z_x3 Lb_x3
        have Xm_x4 := Lib.hid hN
        try rw [← hbm]
        clear hHeld hb hN hx4 hbm
        refine hK.out _ _ ⟨V_x4.out, B_x4.out⟩ (fun hHeld => ?_)
        clear hK K
        try simp only [Act.put, List.setIfInBounds_toArray, List.set_cons_zero, List.set_cons_succ]
        refine wpAnyH_ready (rs := [5]) (by kernel_rfl) (by simp) ?_
        refine (AllReadyH.cons (get_ops _ _ _ rfl) (fun K hK => ?_) AllReadyH.nil)
        rw [if_pos (by rfl)]
        have hoy := Lb_x4.out
        refine oper_appG (g := gM) (k := 9) (e := 25) (by decide) (.tmp 17) (.tmp 19) 22 22 rfl (.agg (msgC Msg.zero none 0).toArray) 112 Try.underlying22 msgInfo rfl (by decide) q vb ([] ++ xs) [(⟨m, am, cm⟩ : ME)] _ (by go_simp) hoy (by go_simp) (src_blk gM_len gM_one Try.underlying22 Xm_x4.out) Z_x4.out (by simp; have := HN.out; omega) ?_
        intro vc x5 hown hgr hoffs
        have V_x5 : Hid (BK 25 x5 w.heap.size (msgC m am cm)) := Lib.hid (BK.grow V_x4.out hgr (OwnG.off hoy (HQ.out)))
        have B_x5 : Hid (Below w.heap.size w x5) := Lib.hid (Below.grow B_x4.out hoy hgr B_x4.out.size (Nat.le_of_lt HQ.out))
        have Z_x5 : Hid (q ≤ x5.heap.size) := Lib.hid (Nat.le_trans Z_x4.out hgr.size)
        have Xm_x5 : Hid (BK 25 x5 bm (gM (⟨m, am, cm⟩ : ME))) := Lib.hid (BK.grow Xm_x4.out hgr HD_b_m.out)
        have HD_c_m : Hid (vc.ownBlock ≠ some bm) := Lib.hid (hoffs _ Xm_x4.out.lt HD_b_m.out)
        have Lc_x5 : Hid (OwnG 25 gM 9 x5 q vc (([] ++ xs) ++ [(⟨m, am, cm⟩ : ME)])) := Lib.hid hown
        clear hoy hown hgr hoffs hHeld V_x4 B_x4 Z_x4 Lb_x4 Xm_x4
        refine hK.out _ _ ⟨V_x5.out, B_x5.out⟩ (fun hHeld => ?_)
        clear hK K
        try simp only [Act.put, List.setIfInBounds_toArray, List.set_cons_zero, List.set_cons_succ]
        refine wpAnyH_take (i := 6) (v := vc) (get_ops _ _ _ rfl) (by kernel_rfl) (by kernel_rfl) (by kernel_rfl) (fun _ _ _ h => h) (Or.inl ⟨by rfl, fun wS hSw => by (try dsimp only at hSw); go_simp⟩) hHeld ?_
        try simp only [Act.put, List.setIfInBounds_toArray, List.set_cons_zero, List.set_cons_succ]
        refine wpAnyH_take (i := 7) (v := .slice none 0 0) (get_ops _ _ _ rfl) (by kernel_rfl) (by kernel_rfl) (by kernel_rfl) (fun _ _ _ h => h) (Or.inl ⟨by rfl, fun wS hSw => by (try dsimp only at hSw); go_simp⟩) hHeld ?_
        try simp only [Act.put, List.setIfInBounds_toArray, List.set_cons_zero, List.set_cons_succ]
        refine wpAnyH_take (i := 8) (v := .bool false) (get_ops _ _ _ rfl) (by kernel_rfl) (by kernel_rfl) (by kernel_rfl) (fun _ _ _ h => h) (Or.inl ⟨by rfl, fun wS hSw => by (try dsimp only at hSw); go_simp⟩) hHeld ?_
        try simp only [Act.put, List.setIfInBounds_toArray, List.set_cons_zero, List.set_cons_succ]
        refine wpAnyH_done (by kernel_rfl) ?_ _
        obtain ⟨A2, c2, hv2, hc2, hgl2⟩ := OwnG.ret gM_len Lc_x5.out
        subst hv2
        go_wp2_with fail
        go_ret3
        exact ⟨A2, c2, xs ++ [⟨m, am, cm⟩], none, 0, [], by rw [← HR.out]; simp, by rw [← HR.out]; simp, by rw [← HR.out]; rfl, by simpa using hc2, Nat.le_refl _, push_msgs (by simpa using hgl2) (HS.out.step B_x5.out).2 (GL.step HM.out B_x5.out), LI.nil _ _ _, B_x5.out⟩
      · go_simp
        obtain ⟨bm, hbm⟩ : ∃ n, n = x2.heap.size := ⟨_, rfl⟩
        refine name_world (C := fun w9 => K _ w9) (x2.alloc (.cells (gM (⟨m, am, cm⟩ : ME)).toArray 25)) ?_
        intro x3 hx3
        have hb : Below x2.heap.size x2 x3 := by rw [hx3]; exact S2.below_new _ _
        have hN : BK 25 x3 bm (gM (⟨m, am, cm⟩ : ME)) := by rw [hx3, hbm]; exact BK.new _ _ _
        have HD_a_m : Hid (va.ownBlock ≠ some bm) := Lib.hid (OwnG.high La_x2.out (by omega))
        have V_x3 : Hid (BK 25 x3 w.heap.size (msgC m am cm)) := Lib.hid (V_x2.out.step hb)
        have B_x3 : Hid (Below w.heap.size w x3) := Lib.hid (stepB B_x2.out hb)
        have Z_x3 : Hid (q ≤ x3.heap.size) := Lib.hid (Nat.le_trans Z_x2.out hb.size)
        have La_x3 : Hid (OwnG 25 gM 9 x3 q va []) := Lib.hid (OwnG.step La_x2.out hb)
        clear V_x2 B_x2 Z_x2 La_x2
        have Xm_x3 := Lib.hid hN
        try rw [← hbm]
        clear hHeld hb hN hx3 hbm
        refine hK.out _ _ ⟨V_x3.out, B_x3.out⟩ (fun hHeld => ?_)
        clear hK K
        try simp only [Act.put, List.setIfInBounds_toArray, List.set_cons_zero, List.set_cons_succ]
        refine wpAnyH_ready (rs := [2]) (by kernel_rfl) (by simp) ?_
        refine (AllReadyH.cons (get_ops _ _ _ rfl) (fun K hK => ?_) AllReadyH.nil)
        rw [if_pos (by rfl)]
        have hoy := La_x3.out
        refine oper_appG (g := gM) (k := 9) (e := 25) (by decide) (.tmp 15) (.tmp 16) 22 22 rfl (.agg (msgC Msg.zero none 0).toArray) 112 Try.underlying22 msgInfo rfl (by decide) q va [] xs _ (by go_simp) hoy (by go_simp) (GL.src gM_len gM_one ((HS.out.step B_x3.out).1) Try.underlying22 c) Z_x3.out (by simp; have := HN.out; omega) ?_
        intro vb x4 hown hgr hoffs
        have V_x4 : Hid (BK 25 x4 w.heap.size (msgC m am cm)) := Lib.hid (BK.grow V_x3.out hgr (OwnG.off hoy (HQ.out)))
        have B_x4 : Hid (Below w.heap.size w x4) := Lib.hid (Below.grow B_x3.out hoy hgr B_x3.out.size (Nat.le_of_lt HQ.out))
        have Z_x4 : Hid (q ≤ x4.heap.size) := Lib.hid (Nat.le_trans Z_x3.out hgr.size)
        have Xm_x4 : Hid (BK 25 x4 bm (gM (⟨m, am, cm⟩ : ME))) := Lib.hid (BK.grow Xm_x3.out hgr HD_a_m.out)
        have HD_b_m : Hid (vb.ownBlock ≠ some bm) := Lib.hid (hoffs _ Xm_x3.out.lt HD_a_m.out)
        have Lb_x4 : Hid (OwnG 25 gM 9 x4 q vb ([] ++ xs)) := Lib.hid hown
        clear hoy hown hgr hoffs hHeld V_x3 B_x3 Z_x3 La_x3 Xm_x3
        refine hK.out _ _ ⟨V_x4.out, B_x4.out⟩ (fun hHeld => ?_)
        clear hK K
        try simp only [Act.put, List.setIfInBounds_toArray, List.set_cons_zero, List.set_cons_succ]
        refine wpAnyH_ready (rs := [5]) (by kernel_rfl) (by simp) ?_
        refine (AllReadyH.cons (get_ops _ _ _ rfl) (fun K hK => ?_) AllReadyH.nil)
        rw [if_pos (by rfl)]
        have hoy := Lb_x4.out
        refine oper_appG (g := gM) (k := 9) (e := 25) (by decide) (.tmp 17) (.tmp 19) 22 22 rfl (.agg (msgC Msg.zero none 0).toArray) 112 Try.underlying22 msgInfo rfl (by decide) q vb ([] ++ xs) [(⟨m, am, cm⟩ : ME)] _ (by go_simp) hoy (by go_simp) (src_blk gM_len gM_one Try.underlying22 Xm_x4.out) Z_x4.out (by simp; have := HN.out; omega) ?_
        intro vc x5 hown hgr hoffs
        have V_x5 : Hid (BK 25 x5 w.heap.size (msgC m am cm)) := Lib.hid (BK.grow V_x4.out hgr (OwnG.off hoy (HQ.out)))
        have B_x5 : Hid (Below w.heap.size w x5) := Lib.hid (Below.grow B_x4.out hoy hgr B_x4.out.size (Nat.le_of_lt HQ.out))
        have Z_x5 : Hid (q ≤ x5.heap.size) := Lib.hid (Nat.le_trans Z_x4.out hgr.size)
        have Xm_x5 : Hid (BK 25 x5 bm (gM (⟨m, am, cm⟩ : ME))) := Lib.hid (BK.grow Xm_x4.out hgr HD_b_m.out)
        have HD_c_m : Hid (vc.ownBlock ≠ some bm) := Lib.hid (hoffs _ Xm_x4.out.lt HD_b_m.out)
        have Lc_x5 : Hid (OwnG 25 gM 9 x5 q vc (([] ++ xs) ++ [(⟨m, am, cm⟩ : ME)])) := Lib.hid hown
        clear hoy hown hgr hoffs hHeld V_x4 B_x4 Z_x4 Xm_x4 Lb_x4
        refine hK.out _ _ ⟨V_x5.out, B_x5.out⟩ (fun hHeld => ?_)
        clear hK K
        try simp only [Act.put, List.setIfInBounds_toArray, List.set_cons_zero, List.set_cons_succ]
        refine wpAnyH_take (i := 6) (v := vc) (get_ops _ _ _ rfl) (by kernel_rfl) (by kernel_rfl) (by kernel_rfl) (fun _ _ _ h => h) (Or.inl ⟨by rfl, fun wS hSw => by (try dsimp only at hSw); go_simp⟩) hHeld ?_
        try simp only [Act.put, List.setIfInBounds_toArray, List.set_cons_zero, List.set_cons_succ]
        refine wpAnyH_take (i := 7) (v := .slice none 0 0) (get_ops _ _ _ rfl) (by kernel_rfl) (by kernel_rfl) (by kernel_rfl) (fun _ _ _ h => h) (Or.inl ⟨by rfl, fun wS hSw => by (try dsimp only at hSw); go_simp⟩) hHeld ?_
        try simp only [Act.put, List.setIfInBounds_toArray, List.set_cons_zero, List.set_cons_succ]
        refine wpAnyH_take (i := 8) (v := .bool false) (get_ops _ _ _ rfl) (by kernel_rfl) (by kernel_rfl) (by kernel_rfl) (fun _ _ _ h => h) (Or.inl ⟨by rfl, fun wS hSw => by (try dsimp only at hSw); go_simp⟩) hHeld ?_
        try simp only [Act.put, List.setIfInBounds_toArray, List.set_cons_zero, List.set_cons_succ]
        refine wpAnyH_done (by kernel_rfl) ?_ _
        obtain ⟨A2, c2, hv2, hc2, hgl2⟩ := OwnG.ret gM_len Lc_x5.out
        subst hv2
        go_wp2_with fail
        go_ret3
        exact ⟨A2, c2, xs ++ [⟨m, am, cm⟩], none, 0, [], by rw [← HR.out]; simp, by rw [← HR.out]; simp, by rw [← HR.out]; rfl, by simpa using hc2, Nat.le_refl _, push_msgs (by simpa using hgl2) (HS.out.step B_x5.out).2 (GL.step HM.out B_x5.out), LI.nil _ _ _, B_x5.out⟩
    · go_simp
      obtain ⟨bm, hbm⟩ : ∃ n, n = x1.heap.size := ⟨_, rfl⟩
      refine name_world (C := fun w9 => K _ w9) (x1.alloc (.cells (gM (⟨m, am, cm⟩ : ME)).toArray 25)) ?_
      intro x2 hx2
      have hb : Below x1.heap.size x1 x2 := by rw [hx2]; exact S2.below_new _ _
      have hN : BK 25 x2 bm (gM (⟨m, am, cm⟩ : ME)) := by rw [hx2, hbm]; exact BK.new _ _ _
      have V_x2 : Hid (BK 25 x2 w.heap.size (msgC m am cm)) := Lib.hid (V_x1.out.step hb)
      have B_x2 : Hid (Below w.heap.size w x2) := Lib.hid (stepB B_x1.out hb)
      have Z_x2 : Hid (q ≤ x2.heap.size) := Lib.hid (Nat.le_trans Z_x1.out hb.size)
      clear V_x1 B_x1 Z_x1
      have Xm_x2 := Lib.hid hN
      try rw [← hbm]
      clear hHeld hb hN hx2 hbm
      refine hK.out _ _ ⟨V_x2.out, B_x2.out⟩ (fun hHeld => ?_)
      clear hK K
      try simp only [Act.put, List.setIfInBounds_toArray, List.set_cons_zero, List.set_cons_succ]
      refine wpAnyH_ready (rs := [0]) (by kernel_rfl) (by simp) ?_
      refine (AllReadyH.cons (get_ops _ _ _ rfl) (fun K hK => ?_) AllReadyH.nil)
      go_simp
      obtain ⟨va, hva⟩ : ∃ v : Value, v = .slice (some ⟨x2.heap.size, 0, none⟩) 0 0 := ⟨_, rfl⟩
      rw [← hva]
      refine name_world (C := fun w9 => K _ w9) (x2.alloc (.cells #[] 25)) ?_
      intro x3 hx3
      have hb : Below x2.heap.size x2 x3 := by rw [hx3]; exact S2.below_new _ _
      have hN : OwnG 25 gM 9 x3 q va [] := by rw [hx3, hva]; exact OwnG.made _ 0 #[] _ Z_x2.out (by decide) rfl
      have HD_a_m : Hid (va.ownBlock ≠ some bm) := Lib.hid (fun e1 => by have := Xm_x2.out.lt; rw [hva] at e1; simp only [Value.ownBlock, Option.some.injEq] at e1; omega)
      have V_x3 : Hid (BK 25 x3 w.heap.size (msgC m am cm)) := Lib.hid (V_x2.out.step hb)
      have B_x3 : Hid (Below w.heap.size w x3) := Lib.hid (stepB B_x2.out hb)
      have Z_x3 : Hid (q ≤ x3.heap.size) := Lib.hid (Nat.le_trans Z_x2.out hb.size)
      have Xm_x3 : Hid (BK 25 x3 bm (gM (⟨m, am, cm⟩ : ME))) := Lib.hid (Xm_x2.out.step hb)
      clear V_x2 B_x2 Z_x2 Xm_x2
      have La_x3 := Lib.hid hN
      clear hHeld hb hN hx3 hva
      refine hK.out _ _ ⟨V_x3.out, B_x3.out⟩ (fun hHeld => ?_)
      clear hK K
      try simp only [Act.put, List.setIfInBounds_toArray, List.set_cons_zero, List.set_cons_succ]
      refine wpAnyH_ready (rs := [2]) (by kernel_rfl) (by simp) ?_
      refine (AllReadyH.cons (get_ops _ _ _ rfl) (fun K hK => ?_) AllReadyH.nil)
      rw [if_pos (by rfl)]
      have hoy := La_x3.out
      refine oper_appG (g := gM) (k := 9) (e := 25) (by decide) (.tmp 15) (.tmp 16) 22 22 rfl (.agg (msgC Msg.zero none 0).toArray) 112 Try.underlying22 msgInfo rfl (by decide) q va [] xs _ (by go_simp) hoy (by go_simp) (GL.src gM_len gM_one ((HS.out.step B_x3.out).1) Try.underlying22 c) Z_x3.out (by simp; have := HN.out; omega) ?_
      intro vb x4 hown hgr hoffs
      have V_x4 : Hid (BK 25 x4 w.heap.size (msgC m am cm)) := Lib.hid (BK.grow V_x3.out hgr (OwnG.off hoy (HQ.out)))
      have B_x4 : Hid (Below w.heap.size w x4) := Lib.hid (Below.grow B_x3.out hoy hgr B_x3.out.size (Nat.le_of_lt HQ.out))
      have Z_x4 : Hid (q ≤ x4.heap.size) := Lib.hid (Nat.le_trans Z_x3.out hgr.size)
      have Xm_x4 : Hid (BK 25 x4 bm (gM (⟨m, am, cm⟩ : ME))) := Lib.hid (BK.grow Xm_x3.out hgr HD_a_m.out)
      have HD_b_m : Hid (vb.ownBlock ≠ some bm) := Lib.hid (hoffs _ Xm_x3.out.lt HD_a_m.out)
      have Lb_x4 : Hid (OwnG 25 gM 9 x4 q vb ([] ++ xs)) := Lib.hid hown
      clear hoy hown hgr hoffs hHeld V_x3 B_x3 Z_x3 Xm_x3 La_x3
      refine hK.out _ _ ⟨V_x4.out, B_x4.out⟩ (fun hHeld => ?_)
      clear hK K
      try simp only [Act.put, List.setIfInBounds_toArray, List.set_cons_zero, List.set_cons_succ]
      refine wpAnyH_ready (rs := [5]) (by kernel_rfl) (by simp) ?_
      refine (AllReadyH.cons (get_ops _ _ _ rfl) (fun K hK => ?_) AllReadyH.nil)
      rw [if_pos (by rfl)]
      have hoy := Lb_x4.out
      refine oper_appG (g := gM) (k := 9) (e := 25) (by decide) (.tmp 17) (.tmp 19) 22 22 rfl (.agg (msgC Msg.zero none 0).toArray) 112 Try.underlying22 msgInfo rfl (by decide) q vb ([] ++ xs) [(⟨m, am, cm⟩ : ME)] _ (by go_simp) hoy (by go_simp) (src_blk gM_len gM_one Try.underlying22 Xm_x4.out) Z_x4.out (by simp; have := HN.out; omega) ?_
      intro vc x5 hown hgr hoffs
      have V_x5 : Hid (BK 25 x5 w.heap.size (msgC m am cm)) := Lib.hid (BK.grow V_x4.out hgr (OwnG.off hoy (HQ.out)))
      have B_x5 : Hid (Below w.heap.size w x5) := Lib.hid (Below.grow B_x4.out hoy hgr B_x4.out.size (Nat.le_of_lt HQ.out))
      have Z_x5 : Hid (q ≤ x5.heap.size) := Lib.hid (Nat.le_trans Z_x4.out hgr.size)
      have Xm_x5 : Hid (BK 25 x5 bm (gM (⟨m, am, cm⟩ : ME))) := Lib.hid (BK.grow Xm_x4.out hgr HD_b_m.out)
      have HD_c_m : Hid (vc.ownBlock ≠ some bm) := Lib.hid (hoffs _ Xm_x4.out.lt HD_b_m.out)
      have Lc_x5 : Hid (OwnG 25 gM 9 x5 q vc (([] ++ xs) ++ [(⟨m, am, cm⟩ : ME)])) := Lib.hid hown
      clear hoy hown hgr hoffs hHeld V_x4 B_x4 Z_x4 Xm_x4 Lb_x4
      refine hK.out _ _ ⟨V_x5.out, B_x5.out⟩ (fun hHeld => ?_)
      clear hK K
      try simp only [Act.put, List.setIfInBounds_toArray, List.set_cons_zero, List.set_cons_succ]
      refine wpAnyH_take (i := 6) (v := vc) (get_ops _ _ _ rfl) (by kernel_rfl) (by kernel_rfl) (by kernel_rfl) (fun _ _ _ h => h) (Or.inl ⟨by rfl, fun wS hSw => by (try dsimp only at hSw); go_simp⟩) hHeld ?_
      try simp only [Act.put, List.setIfInBounds_toArray, List.set_cons_zero, List.set_cons_succ]
      refine wpAnyH_take (i := 7) (v := .slice none 0 0) (get_ops _ _ _ rfl) (by kernel_rfl) (by kernel_rfl) (by kernel_rfl) (fun _ _ _ h => h) (Or.inl ⟨by rfl, fun wS hSw => by (try dsimp only at hSw); go_simp⟩) hHeld ?_
      try simp only [Act.put, List.setIfInBounds_toArray, List.set_cons_zero, List.set_cons_succ]
      refine wpAnyH_take (i := 8) (v := .bool false) (get_ops _ _ _ rfl) (by kernel_rfl) (by kernel_rfl) (by kernel_rfl) (fun _ _ _ h => h) (Or.inl ⟨by rfl, fun wS hSw => by (try dsimp only at hSw); go_simp⟩) hHeld ?_
      try simp only [Act.put, List.setIfInBounds_toArray, List.set_cons_zero, List.set_cons_succ]
      refine wpAnyH_done (by kernel_rfl) ?_ _
      obtain ⟨A2, c2, hv2, hc2, hgl2⟩ := OwnG.ret gM_len Lc_x5.out
      subst hv2
      go_wp2_with fail
      go_ret3
      exact ⟨A2, c2, xs ++ [⟨m, am, cm⟩], none, 0, [], by rw [← HR.out]; simp, by rw [← HR.out]; simp, by rw [← HR.out]; rfl, by simpa using hc2, Nat.le_refl _, push_msgs (by simpa using hgl2) (HS.out.step B_x5.out).2 (GL.step HM.out B_x5.out), LI.nil _ _ _, B_x5.out⟩
  have q1 : decide ((xs.length : Int) < mx) = false := decide_eq_false hl
  by_cases hpo : pol = 1 ∧ 1 ≤ mx
  · obtain ⟨rfl, hmx⟩ := hpo
    have q2 : decide ((1 : Int) ≤ mx) = true := decide_eq_true hmx
    have HR : Hid (((xs.map ME.m).drop 1 ++ [m], (xs.map ME.m).take 1, false) = R) := Lib.hid (HPC.out.2.1 hl rfl hmx)
    have s1 : (1 : Int) ≤ (xs.length : Int) := by omega
    have s2 : (1 : Int) ≤ (c : Int) := by have := HC.out; omega
    have s3 : (0 : Int) < (xs.length : Int) := by omega
    have HL1 : Hid (1 ≤ xs.length) := Lib.hid (by omega)
    clear hl hmx HPC
    obtain ⟨x0, hx0⟩ : ∃ x, xs[0]? = some x := ⟨_, List.getElem?_eq_getElem (by have := HL1.out; omega)⟩
    obtain ⟨b, o, hA, hbB, hcx, hpx⟩ := HS.out.at_ hx0
    have HCX : Hid (∀ w1, Below w.heap.size w w1 → ∀ i v, (gM x0)[i]? = some v → w1.cell? ⟨b, o + i, none⟩ = some v) := Lib.hid (fun w1 h i v hv => by
      rw [h.cell (p := ⟨b, o + i, none⟩) hbB]; have := hcx i v hv; simpa using this)
    have HPX := Lib.hid hpx
    have HX0 : Hid ((xs.map ME.m).take 1 = [x0.m]) := Lib.hid (by
      cases xs with
      | nil => simp at hx0
      | cons y ys => simp at hx0; subst hx0; simp)
    obtain ⟨AD, hAD⟩ : ∃ AD, AD = (if c = 1 then A else A.map (·.add (1 * 9))) := ⟨_, rfl⟩
    obtain ⟨cd, hcd⟩ : ∃ cd, cd = c - 1 := ⟨_, rfl⟩
    obtain ⟨ds, hds⟩ : ∃ ds, ds = xs.drop 1 := ⟨_, rfl⟩
    subst hA
    have HDE : Hid (Value.slice AD ds.length cd = .slice (if c = 1 then (some ⟨b, o, none⟩) else (some (⟨b, o, none⟩ : Addr)).map (·.add (1 * 9))) (xs.length - 1) (c - 1)) := Lib.hid (by rw [hAD, hcd, hds, List.length_drop])
    have HDS : Hid (∀ w1, MI w1 w1.heap.size (some ⟨b, o, none⟩) xs → MI w1 w1.heap.size AD ds) := Lib.hid (fun w1 h => by rw [hAD, hds]; exact LI.drop h HL1.out HC.out)
    have HDB : Hid (ds.length ≤ 90000) := Lib.hid (by rw [hds, List.length_drop]; have := HN.out; omega)
    have HDM : Hid (ds.map ME.m = (xs.map ME.m).drop 1) := Lib.hid (by rw [hds, List.map_drop])
    clear hAD hcd hds hx0 hbB hcx hpx
    go_upto_region 4 with fail
    clear q1 q2
    obtain ⟨y1, hy1⟩ : ∃ y1, y1 = World.drew w1 := ⟨_, rfl⟩
    have hbD : Below w1.heap.size w1 y1 := by rw [hy1]; exact (Below.refl _ _).drew
    have V_y1 : Hid (BK 25 y1 w.heap.size (msgC m am cm)) := Lib.hid (V_w1.out.step hbD)
    have B_y1 : Hid (Below w.heap.size w y1) := Lib.hid (stepB B_w1.out hbD)
    have Z_y1 : Hid (q ≤ y1.heap.size) := Lib.hid (Nat.le_trans Z_w1.out hbD.size)
    clear V_w1 B_w1 Z_w1
    have hbd : (fun w' => BK 25 w' w.heap.size (msgC m am cm) ∧ Below w.heap.size w w') (World.drew w1) := by rw [← hy1]; exact ⟨V_y1.out, B_y1.out⟩
    have hSD : (fun w' => BK 25 w' w.heap.size (msgC m am cm) ∧ Below w.heap.size w w') y1 := ⟨V_y1.out, B_y1.out⟩
    have HWD := Lib.hid hy1
    clear hy1 hbD
    refine wp_region_held_drew (S := fun w' => BK 25 w' w.heap.size (msgC m am cm) ∧ Below w.heap.size w w') (by kernel_rfl) hbd (fun hHeld => ?_)
    rw [← HWD.out]
    clear hHeld
    have hHeld := hSD
    clear hSD hbd HWD
    refine wpAnyH_take (i := 1) (v := .slice (some ⟨b, o, none⟩) xs.length c) (get_ops _ _ _ rfl) (by kernel_rfl) (by kernel_rfl) (by kernel_rfl) (fun _ _ _ h => h) (Or.inl ⟨by rfl, fun wS hSw => by (try dsimp only at hSw); go_simp⟩) hHeld ?_
    try simp only [Act.put, List.setIfInBounds_toArray, List.set_cons_zero, List.set_cons_succ]
    refine wpAnyH_take (i := 2) (v := (.slice AD ds.length cd)) (get_ops _ _ _ rfl) (by kernel_rfl) (by kernel_rfl) (by kernel_rfl) (fun _ _ _ h => h) (Or.inl ⟨by rfl, fun wS hSw => by (try dsimp only at hSw); rw [HDE.out]; go_simp⟩) hHeld ?_
    try simp only [Act.put, List.setIfInBounds_toArray, List.set_cons_zero, List.set_cons_succ]
    refine wpAnyH_take (i := 4) (v := (.agg #[.string m.topic, .string m.payload, .int .i64 m.level, .bool m.retain, .int .i64 m.prio, .int .i64 m.exps, .string m.frm, .int .i64 m.seq, .slice am m.props.length cm])) (get_ops _ _ _ rfl) (by kernel_rfl) (by kernel_rfl) (by kernel_rfl) (fun _ _ _ h => h) (Or.inl ⟨by rfl, fun wS hSw => by (try dsimp only at hSw); exact exec_load 25 _ rfl ⟨w.heap.size, 0, none⟩ (by go_simp) _ (S2.run_load_all hSw.1 Try.underlying25 rfl msgSize)⟩) hHeld ?_
    try simp only [Act.put, List.setIfInBounds_toArray, List.set_cons_zero, List.set_cons_succ]
    refine wpAnyH_take (i := 7) (v := .slice (some ⟨b, o, none⟩) xs.length c) (get_ops _ _ _ rfl) (by kernel_rfl) (by kernel_rfl) (by kernel_rfl) (fun _ _ _ h => h) (Or.inl ⟨by rfl, fun wS hSw => by (try dsimp only at hSw); go_simp⟩) hHeld ?_
    try simp only [Act.put, List.setIfInBounds_toArray, List.set_cons_zero, List.set_cons_succ]
    refine wpAnyH_take (i := 8) (v := .pointer (some ⟨b, o, none⟩)) (get_ops _ _ _ rfl) (by kernel_rfl) (by kernel_rfl) (by kernel_rfl) (fun _ _ _ h => h) (Or.inl ⟨by rfl, fun wS hSw => by (try dsimp only at hSw); go_simp; intro he; exact absurd HL1.out (by simp [he])⟩) hHeld ?_
    try simp only [Act.put, List.setIfInBounds_toArray, List.set_cons_zero, List.set_cons_succ]
    refine wpAnyH_take (i := 9) (v := (msgV x0.m x0.a x0.c)) (get_ops _ _ _ rfl) (by kernel_rfl) (by kernel_rfl) (by kernel_rfl) (fun _ _ _ h => h) (Or.inl ⟨by rfl, fun wS hSw => by (try dsimp only at hSw); exact exec_load 25 _ rfl ⟨b, o, none⟩ (by go_simp) _ (load_msg (HCX.out _ hSw.2))⟩) hHeld ?_
    try simp only [Act.put, List.setIfInBounds_toArray, List.set_cons_zero, List.set_cons_succ]
    refine wpAnyH_ready (rs := [0, 5, 10]) (by kernel_rfl) (by simp) ?_
    refine (AllReadyH.cons (get_ops _ _ _ rfl) (fun K hK => ?_) (AllReadyH.cons (get_ops _ _ _ rfl) (fun K hK => ?_) (AllReadyH.cons (get_ops _ _ _ rfl) (fun K hK => ?_) AllReadyH.nil)))
    · go_simp
      obtain ⟨va, hva⟩ : ∃ v : Value, v = .slice (some ⟨y1.heap.size, 0, none⟩) 0 0 := ⟨_, rfl⟩
      rw [← hva]
      refine name_world (C := fun w9 => K _ w9) (y1.alloc (.cells #[] 25)) ?_
      intro y2 hy2
      have hb : Below y1.heap.size y1 y2 := by rw [hy2]; exact S2.below_new _ _
      have hN : OwnG 25 gM 9 y2 q va [] := by rw [hy2, hva]; exact OwnG.made _ 0 #[] _ Z_y1.out (by decide) rfl
      have V_y2 : Hid (BK 25 y2 w.heap.size (msgC m am cm)) := Lib.hid (V_y1.out.step hb)
      have B_y2 : Hid (Below w.heap.size w y2) := Lib.hid (stepB B_y1.out hb)
      have Z_y2 : Hid (q ≤ y2.heap.size) := Lib.hid (Nat.le_trans Z_y1.out hb.size)
      clear V_y1 B_y1 Z_y1
      have La_y2 := Lib.hid hN
      clear hHeld hb hN hy2 hva
      refine hK.out _ _ ⟨V_y2.out, B_y2.out⟩ (fun hHeld => ?_)
      clear hK K
      try simp only [Act.put, List.setIfInBounds_toArray, List.set_cons_zero, List.set_cons_succ]
      refine wpAnyH_ready (rs := [3, 5, 10]) (by kernel_rfl) (by simp) ?_
      refine (AllReadyH.cons (get_ops _ _ _ rfl) (fun K hK => ?_) (AllReadyH.cons (get_ops _ _ _ rfl) (fun K hK => ?_) (AllReadyH.cons (get_ops _ _ _ rfl) (fun K hK => ?_) AllReadyH.nil)))
      · rw [if_pos (by rfl)]
        have hoy := La_y2.out
        refine oper_appG (g := gM) (k := 9) (e := 25) (by decide) (.tmp 27) (.tmp 29) 22 22 rfl (.agg (msgC Msg.zero none 0).toArray) 112 Try.underlying22 msgInfo rfl (by decide) q va [] ds _ (by go_simp) hoy (by go_simp) (GL.src gM_len gM_one ((HDS.out _ (HS.out.step B_y2.out)).1) Try.underlying22 cd) Z_y2.out (by simp; have := HDB.out; omega) ?_
        intro vb y3 hown hgr hoffs
        have V_y3 : Hid (BK 25 y3 w.heap.size (msgC m am cm)) := Lib.hid (BK.grow V_y2.out hgr (OwnG.off hoy (HQ.out)))
        have B_y3 : Hid (Below w.heap.size w y3) := Lib.hid (Below.grow B_y2.out hoy hgr B_y2.out.size (Nat.le_of_lt HQ.out))
        have Z_y3 : Hid (q ≤ y3.heap.size) := Lib.hid (Nat.le_trans Z_y2.out hgr.size)
        have Lb_y3 : Hid (OwnG 25 gM 9 y3 q vb ([] ++ ds)) := Lib.hid hown
        clear hoy hown hgr hoffs hHeld V_y2 B_y2 Z_y2 La_y2
        refine hK.out _ _ ⟨V_y3.out, B_y3.out⟩ (fun hHeld => ?_)
        clear hK K
        try simp only [Act.put, List.setIfInBounds_toArray, List.set_cons_zero, List.set_cons_succ]
        refine wpAnyH_ready (rs := [5, 10]) (by kernel_rfl) (by simp) ?_
        refine (AllReadyH.cons (get_ops _ _ _ rfl) (fun K hK => ?_) (AllReadyH.cons (get_ops _ _ _ rfl) (fun K hK => ?_) AllReadyH.nil))
        · go_simp
          obtain ⟨bm, hbm⟩ : ∃ n, n = y3.heap.size := ⟨_, rfl⟩
          refine name_world (C := fun w9 => K _ w9) (y3.alloc (.cells (gM (⟨m, am, cm⟩ : ME)).toArray 25)) ?_
          intro y4 hy4
          have hb : Below y3.heap.size y3 y4 := by rw [hy4]; exact S2.below_new _ _
          have hN : BK 25 y4 bm (gM (⟨m, am, cm⟩ : ME)) := by rw [hy4, hbm]; exact BK.new _ _ _
          have HD_b_m : Hid (vb.ownBlock ≠ some bm) := Lib.hid (OwnG.high Lb_y3.out (by omega))
          have V_y4 : Hid (BK 25 y4 w.heap.size (msgC m am cm)) := Lib.hid (V_y3.out.step hb)
          have B_y4 : Hid (Below w.heap.size w y4) := Lib.hid (stepB B_y3.out hb)
          have Z_y4 : Hid (q ≤ y4.heap.size) := Lib.hid (Nat.le_trans Z_y3.out hb.size)
          have Lb_y4 : Hid (OwnG 25 gM 9 y4 q vb ([] ++ ds)) := Lib.hid (OwnG.step Lb_y3.out hb)
          clear V_y3 B_y3 Z_y3 Lb_y3
          have Xm_y4 := Lib.hid hN
          try rw [← hbm]
          clear hHeld hb hN hy4 hbm
          refine hK.out _ _ ⟨V_y4.out, B_y4.out⟩ (fun hHeld => ?_)
          clear hK K
          try simp only [Act.put, List.setIfInBounds_toArray, List.set_cons_zero, List.set_cons_succ]
          refine wpAnyH_ready (rs := [6, 10]) (by kernel_rfl) (by simp) ?_
          refine (AllReadyH.cons (get_ops _ _ _ rfl) (fun K hK => ?_) (AllReadyH.cons (get_ops _ _ _ rfl) (fun K hK => ?_) AllReadyH.nil))
          · rw [if_pos (by rfl)]
            have hoy := Lb_y4.out
            refine oper_appG (g := gM) (k := 9) (e := 25) (by decide) (.tmp 30) (.tmp 32) 22 22 rfl (.agg (msgC Msg.zero none 0).toArray) 112 Try.underlying22 msgInfo rfl (by decide) q vb ([] ++ ds) [(⟨m, am, cm⟩ : ME)] _ (by go_simp) hoy (by go_simp) (src_blk gM_len gM_one Try.underlying22 Xm_y4.out) Z_y4.out (by simp; have := HDB.out; omega) ?_
            intro vc y5 hown hgr hoffs
            have V_y5 : Hid (BK 25 y5 w.heap.size (msgC m am cm)) := Lib.hid (BK.grow V_y4.out hgr (OwnG.off hoy (HQ.out)))
            have B_y5 : Hid (Below w.heap.size w y5) := Lib.hid (Below.grow B_y4.out hoy hgr B_y4.out.size (Nat.le_of_lt HQ.out))
            have Z_y5 : Hid (q ≤ y5.heap.size) := Lib.hid (Nat.le_trans Z_y4.out hgr.size)
            have Xm_y5 : Hid (BK 25 y5 bm (gM (⟨m, am, cm⟩ : ME))) := Lib.hid (BK.grow Xm_y4.out hgr HD_b_m.out)
            have HD_c_m : Hid (vc.ownBlock ≠ some bm) := Lib.hid (hoffs _ Xm_y4.out.lt HD_b_m.out)
            have Lc_y5 : Hid (OwnG 25 gM 9 y5 q vc (([] ++ ds) ++ [(⟨m, am, cm⟩ : ME)])) := Lib.hid hown
            clear hoy hown hgr hoffs hHeld V_y4 B_y4 Z_y4 Lb_y4 Xm_y4
            refine hK.out _ _ ⟨V_y5.out, B_y5.out⟩ (fun hHeld => ?_)
            clear hK K
            try simp only [Act.put, List.setIfInBounds_toArray, List.set_cons_zero, List.set_cons_succ]
            refine wpAnyH_take (i := 11) (v := vc) (get_ops _ _ _ rfl) (by kernel_rfl) (by kernel_rfl) (by kernel_rfl) (fun _ _ _ h => h) (Or.inl ⟨by rfl, fun wS hSw => by (try dsimp only at hSw); go_simp⟩) hHeld ?_
            try simp only [Act.put, List.setIfInBounds_toArray, List.set_cons_zero, List.set_cons_succ]
            refine wpAnyH_ready (rs := [10]) (by kernel_rfl) (by simp) ?_
            refine (AllReadyH.cons (get_ops _ _ _ rfl) (fun K hK => ?_) AllReadyH.nil)
            (try simp only [msgV]); go_simp
            obtain ⟨by_, hby_⟩ : ∃ n, n = y5.heap.size := ⟨_, rfl⟩
            refine name_world (C := fun w9 => K _ w9) (y5.alloc (.cells (gM x0).toArray 25)) ?_
            intro y6 hy6
            have hb : Below y5.heap.size y5 y6 := by rw [hy6]; exact S2.below_new _ _
            have hN : BK 25 y6 by_ (gM x0) := by rw [hy6, hby_]; exact BK.new _ _ _
            have HD_c_y : Hid (vc.ownBlock ≠ some by_) := Lib.hid (OwnG.high Lc_y5.out (by omega))
            have V_y6 : Hid (BK 25 y6 w.heap.size (msgC m am cm)) := Lib.hid (V_y5.out.step hb)
            have B_y6 : Hid (Below w.heap.size w y6) := Lib.hid (stepB B_y5.out hb)
            have Z_y6 : Hid (q ≤ y6.heap.size) := Lib.hid (Nat.le_trans Z_y5.out hb.size)
            have Xm_y6 : Hid (BK 25 y6 bm (gM (⟨m, am, cm⟩ : ME))) := Lib.hid (Xm_y5.out.step hb)
            have Lc_y6 : Hid (OwnG 25 gM 9 y6 q vc (([] ++ ds) ++ [(⟨m, am, cm⟩ : ME)])) := Lib.hid (OwnG.step Lc_y5.out hb)
            clear V_y5 B_y5 Z_y5 Xm_y5 Lc_y5
            have Xy_y6 := Lib.hid hN
            try rw [← hby_]
            clear hHeld hb hN hy6 hby_
            refine hK.out _ _ ⟨V_y6.out, B_y6.out⟩ (fun hHeld => ?_)
            clear hK K
            try simp only [Act.put, List.setIfInBounds_toArray, List.set_cons_zero, List.set_cons_succ]
            refine wpAnyH_take (i := 12) (v := .slice (some ⟨by_, 0, none⟩) 1 1) (get_ops _ _ _ rfl) (by kernel_rfl) (by kernel_rfl) (by kernel_rfl) (fun _ _ _ h => h) (Or.inl ⟨by rfl, fun wS hSw => by (try dsimp only at hSw); go_simp⟩) hHeld ?_
            try simp only [Act.put, List.setIfInBounds_toArray, List.set_cons_zero, List.set_cons_succ]
            refine wpAnyH_take (i := 13) (v := .bool false) (get_ops _ _ _ rfl) (by kernel_rfl) (by kernel_rfl) (by kernel_rfl) (fun _ _ _ h => h) (Or.inl ⟨by rfl, fun wS hSw => by (try dsimp only at hSw); go_simp⟩) hHeld ?_
            try simp only [Act.put, List.setIfInBounds_toArray, List.set_cons_zero, List.set_cons_succ]
            refine wpAnyH_done (by kernel_rfl) ?_ _
            obtain ⟨A2, c2, hv2, hc2, hgl2⟩ := OwnG.ret gM_len Lc_y6.out
            subst hv2
            go_wp2_with fail
            go_ret3
            exact ⟨A2, c2, ds ++ [⟨m, am, cm⟩], some ⟨by_, 0, none⟩, 1, [x0], by rw [← HR.out]; simp, by rw [← HR.out, ← HDM.out]; simp, by rw [← HR.out, HX0.out]; rfl, by simpa using hc2, by simp, push_msgs (by simpa using hgl2) (HDS.out _ (HS.out.step B_y6.out)).2 (GL.step HM.out B_y6.out), mi_one Xy_y6.out (GL.step HPX.out B_y6.out), B_y6.out⟩
          · (try simp only [msgV]); go_simp
            obtain ⟨by_, hby_⟩ : ∃ n, n = y4.heap.size := ⟨_, rfl⟩
            refine name_world (C := fun w9 => K _ w9) (y4.alloc (.cells (gM x0).toArray 25)) ?_
            intro y5 hy5
            have hb : Below y4.heap.size y4 y5 := by rw [hy5]; exact S2.below_new _ _
            have hN : BK 25 y5 by_ (gM x0) := by rw [hy5, hby_]; exact BK.new _ _ _
            have HD_b_y : Hid (vb.ownBlock ≠ some by_) := Lib.hid (OwnG.high Lb_y4.out (by omega))
            have V_y5 : Hid (BK 25 y5 w.heap.size (msgC m am cm)) := Lib.hid (V_y4.out.step hb)
            have B_y5 : Hid (Below w.heap.size w y5) := Lib.hid (stepB B_y4.out hb)
            have Z_y5 : Hid (q ≤ y5.heap.size) := Lib.hid (Nat.le_trans Z_y4.out hb.size)
            have Lb_y5 : Hid (OwnG 25 gM 9 y5 q vb ([] ++ ds)) := Lib.hid (OwnG.step Lb_y4.out hb)
            have Xm_y5 : Hid (BK 25 y5 bm (gM (⟨m, am, cm⟩ : ME))) := Lib.hid (Xm_y4.out.step hb)
            clear V_y4 B_y4 Z_y4 Lb_y4 Xm_y4
            have Xy_y5 := Lib.hid hN
            try rw [← hby_]
            clear hHeld hb hN hy5 hby_
            refine hK.out _ _ ⟨V_y5.out, B_y5.out⟩ (fun hHeld => ?_)
            clear hK K
            try simp only [Act.put, List.setIfInBounds_toArray, List.set_cons_zero, List.set_cons_succ]
            refine wpAnyH_ready (rs := [6]) (by kernel_rfl) (by simp) ?_
            refine (AllReadyH.cons (get_ops _ _ _ rfl) (fun K hK => ?_) AllReadyH.nil)
            rw [if_pos (by rfl)]
            have hoy := Lb_y5.out
            refine oper_appG (g := gM) (k := 9) (e := 25) (by decide) (.tmp 30) (.tmp 32) 22 22 rfl (.agg (msgC Msg.zero none 0).toArray) 112 Try.underlying22 msgInfo rfl (by decide) q vb ([] ++ ds) [(⟨m, am, cm⟩ : ME)] _ (by go_simp) hoy (by go_simp) (src_blk gM_len gM_one Try.underlying22 Xm_y5.out) Z_y5.out (by simp; have := HDB.out; omega) ?_
            intro vc y6 hown hgr hoffs
            have V_y6 : Hid (BK 25 y6 w.heap.size (msgC m am cm)) := Lib.hid (BK.grow V_y5.out hgr (OwnG.off hoy (HQ.out)))
            have B_y6 : Hid (Below w.heap.size w y6) := Lib.hid (Below.grow B_y5.out hoy hgr B_y5.out.size (Nat.le_of_lt HQ.out))
            have Z_y6 : Hid (q ≤ y6.heap.size) := Lib.hid (Nat.le_trans Z_y5.out hgr.size)
            have Xm_y6 : Hid (BK 25 y6 bm (gM (⟨m, am, cm⟩ : ME))) := Lib.hid (BK.grow Xm_y5.out hgr HD_b_m.out)
            have Xy_y6 : Hid (BK 25 y6 by_ (gM x0)) := Lib.hid (BK.grow Xy_y5.out hgr HD_b_y.out)
            have HD_c_m : Hid (vc.ownBlock ≠ some bm) := Lib.hid (hoffs _ Xm_y5.out.lt HD_b_m.out)
            have HD_c_y : Hid (vc.ownBlock ≠ some by_) := Lib.hid (hoffs _ Xy_y5.out.lt HD_b_y.out)
            have Lc_y6 : Hid (OwnG 25 gM 9 y6 q vc (([] ++ ds) ++ [(⟨m, am, cm⟩ : ME)])) := Lib.hid hown
            clear hoy hown hgr hoffs hHeld V_y5 B_y5 Z_y5 Lb_y5 Xm_y5 Xy_y5
            refine hK.out _ _ ⟨V_y6.out, B_y6.out⟩ (fun hHeld => ?_)
            clear hK K
            try simp only [Act.put, List.setIfInBounds_toArray, List.set_cons_zero, List.set_cons_succ]
            refine wpAnyH_take (i := 11) (v := vc) (get_ops _ _ _ rfl) (by kernel_rfl) (by kernel_rfl) (by kernel_rfl) (fun _ _ _ h => h) (Or.inl ⟨by rfl, fun wS hSw => by (try dsimp only at hSw); go_simp⟩) hHeld ?_
            try simp only [Act.put, List.setIfInBounds_toArray, List.set_cons_zero, List.set_cons_succ]
            refine wpAnyH_take (i := 12) (v := .slice (some ⟨by_, 0, none⟩) 1 1) (get_ops _ _ _ rfl) (by kernel_rfl) (by kernel_rfl) (by kernel_rfl) (fun _ _ _ h => h) (Or.inl ⟨by rfl, fun wS hSw => by (try dsimp only at hSw); go_simp⟩) hHeld ?_
            try simp only [Act.put, List.setIfInBounds_toArray, List.set_cons_zero, List.set_cons_succ]
            refine wpAnyH_take (i := 13) (v := .bool false) (get_ops _ _ _ rfl) (by kernel_rfl) (by kernel_rfl) (by kernel_rfl) (fun _ _ _ h => h) (Or.inl ⟨by rfl, fun wS hSw => by (try dsimp only at hSw); go_simp⟩) hHeld ?_
            try simp only [Act.put, List.setIfInBounds_toArray, List.set_cons_zero, List.set_cons_succ]
            refine wpAnyH_done (by kernel_rfl) ?_ _
            obtain ⟨A2, c2, hv2, hc2, hgl2⟩ := OwnG.ret gM_len Lc_y6.out
            subst hv2
            go_wp2_with fail
            go_ret3
            exact ⟨A2, c2, ds ++ [⟨m, am, cm⟩], some ⟨by_, 0, none⟩, 1, [x0], by rw [← HR.out]; simp, by rw [← HR.out, ← HDM.out]; simp, by rw [← HR.out, HX0.out]; rfl, by simpa using hc2, by simp, push_msgs (by simpa using hgl2) (HDS.out _ (HS.out.step B_y6.out)).2 (GL.step HM.out B_y6.out), mi_one Xy_y6.out (GL.step HPX.out B_y6.out), B_y6.out⟩
        · (try simp only [msgV]); go_simp
          obtain ⟨by_, hby_⟩ : ∃ n, n = y3.heap.size := ⟨_, rfl⟩
          refine name_world (C := fun w9 => K _ w9) (y3.alloc (.cells (gM x0).toArray 25)) ?_
          intro y4 hy4
          have hb : Below y3.heap.size y3 y4 := by rw [hy4]; exact S2.below_new _ _
          have hN : BK 25 y4 by_ (gM x0) := by rw [hy4, hby_]; exact BK.new _ _ _
          have HD_b_y : Hid (vb.ownBlock ≠ some by_) := Lib.hid (OwnG.high Lb_y3.out (by omega))
          have V_y4 : Hid (BK 25 y4 w.heap.size (msgC m am cm)) := Lib.hid (V_y3.out.step hb)
          have B_y4 : Hid (Below w.heap.size w y4) := Lib.hid (stepB B_y3.out hb)
          have Z_y4 : Hid (q ≤ y4.heap.size) := Lib.hid (Nat.le_trans Z_y3.out hb.size)
          have Lb_y4 : Hid (OwnG 25 gM 9 y4 q vb ([] ++ ds)) := Lib.hid (OwnG.step Lb_y3.out hb)
          clear V_y3 B_y3 Z_y3 Lb_y3
          have Xy_y4 := Lib.hid hN
          try rw [← hby_]
          clear hHeld hb hN hy4 hby_
          refine hK.out _ _ ⟨V_y4.out, B_y4.out⟩ (fun hHeld => ?_)
          clear hK K
          try simp only [Act.put, List.setIfInBounds_toArray, List.set_cons_zero, List.set_cons_succ]
          refine wpAnyH_ready (rs := [5]) (by kernel_rfl) (by simp) ?_
          refine (AllReadyH.cons (get_ops _ _ _ rfl) (fun K hK => ?_) AllReadyH.nil)
          go_simp
          obtain ⟨bm, hbm⟩ : ∃ n, n = y4.heap.size := ⟨_, rfl⟩
          refine name_world (C := fun w9 => K _ w9) (y4.alloc (.cells (gM (⟨m, am, cm⟩ : ME)).toArray 25)) ?_
          intro y5 hy5
          have hb : Below y4.heap.size y4 y5 := by rw [hy5]; exact S2.below_new _ _
          have hN : BK 25 y5 bm (gM (⟨m, am, cm⟩ : ME)) := by rw [hy5, hbm]; exact BK.new _ _ _
          have HD_b_m : Hid (vb.ownBlock ≠ some bm) := Lib.hid (OwnG.high Lb_y4.out (by omega))
          have V_y5 : Hid (BK 25 y5 w.heap.size (msgC m am cm)) := Lib.hid (V_y4.out.step hb)
          have B_y5 : Hid (Below w.heap.size w y5) := Lib.hid (stepB B_y4.out hb)
          have Z_y5 : Hid (q ≤ y5.heap.size) := Lib.hid (Nat.le_trans Z_y4.out hb.size)
          have Lb_y5 : Hid (OwnG 25 gM 9 y5 q vb ([] ++ ds)) := Lib.hid (OwnG.step Lb_y4.out hb)
          have Xy_y5 : Hid (BK 25 y5 by_ (gM x0)) := Lib.hid (Xy_y4.out.step hb)
          clear V_y4 B_y4 Z_y4 Lb_y4 Xy_y4
          have Xm_y5 := Lib.hid hN
          try rw [← hbm]
          clear hHeld hb hN hy5 hbm
          refine hK.out _ _ ⟨V_y5.out, B_y5.out⟩ (fun hHeld => ?_)
          clear hK K
          try simp only [Act.put, List.setIfInBounds_toArray, List.set_cons_zero, List.set_cons_succ]
          refine wpAnyH_ready (rs := [6]) (by kernel_rfl) (by simp) ?_
          refine (AllReadyH.cons (get_ops _ _ _ rfl) (fun K hK => ?_) AllReadyH.nil)
          rw [if_pos (by rfl)]
          have hoy := Lb_y5.out
          refine oper_appG (g := gM) (k := 9) (e := 25) (by decide) (.tmp 30) (.tmp 32) 22 22 rfl (.agg (msgC Msg.zero none 0).toArray) 112 Try.underlying22 msgInfo rfl (by decide) q vb ([] ++ ds) [(⟨m, am, cm⟩ : ME)] _ (by go_simp) hoy (by go_simp) (src_blk gM_len gM_one Try.underlying22 Xm_y5.out) Z_y5.out (by simp; have := HDB.out; omega) ?_
          intro vc y6 hown hgr hoffs
          have V_y6 : Hid (BK 25 y6 w.heap.size (msgC m am cm)) := Lib.hid (BK.grow V_y5.out hgr (OwnG.off hoy (HQ.out)))
          have B_y6 : Hid (Below w.heap.size w y6) := Lib.hid (Below.grow B_y5.out hoy hgr B_y5.out.size (Nat.le_of_lt HQ.out))
          have Z_y6 : Hid (q ≤ y6.heap.size) := Lib.hid (Nat.le_trans Z_y5.out hgr.size)
          have Xy_y6 : Hid (BK 25 y6 by_ (gM x0)) := Lib.hid (BK.grow Xy_y5.out hgr HD_b_y.out)
          have Xm_y6 : Hid (BK 25 y6 bm (gM (⟨m, am, cm⟩ : ME))) := Lib.hid (BK.grow Xm_y5.out hgr HD_b_m.out)
          have HD_c_y : Hid (vc.ownBlock ≠ some by_) := Lib.hid (hoffs _ Xy_y5.out.lt HD_b_y.out)
          have HD_c_m : Hid (vc.ownBlock ≠ some bm) := Lib.hid (hoffs _ Xm_y5.out.lt HD_b_m.out)
          have Lc_y6 : Hid (OwnG 25 gM 9 y6 q vc (([] ++ ds) ++ [(⟨m, am, cm⟩ : ME)])) := Lib.hid hown
          clear hoy hown hgr hoffs hHeld V_y5 B_y5 Z_y5 Lb_y5 Xy_y5 Xm_y5
          refine hK.out _ _ ⟨V_y6.out, B_y6.out⟩ (fun hHeld => ?_)
          clear hK K
          try simp only [Act.put, List.setIfInBounds_toArray, List.set_cons_zero, List.set_cons_succ]
          refine wpAnyH_take (i := 11) (v := vc) (get_ops _ _ _ rfl) (by kernel_rfl) (by kernel_rfl) (by kernel_rfl) (fun _ _ _ h => h) (Or.inl ⟨by rfl, fun wS hSw => by (try dsimp only at hSw); go_simp⟩) hHeld ?_
          try simp only [Act.put, List.setIfInBounds_toArray, List.set_cons_zero, List.set_cons_succ]
          refine wpAnyH_take (i := 12) (v := .slice (some ⟨by_, 0, none⟩) 1 1) (get_ops _ _ _ rfl) (by kernel_rfl) (by kernel_rfl) (by kernel_rfl) (fun _ _ _ h => h) (Or.inl ⟨by rfl, fun wS hSw => by (try dsimp only at hSw); go_simp⟩) hHeld ?_
          try simp only [Act.put, List.setIfInBounds_toArray, List.set_cons_zero, List.set_cons_succ]
          refine wpAnyH_take (i := 13) (v := .bool false) (get_ops _ _ _ rfl) (by kernel_rfl) (by kernel_rfl) (by kernel_rfl) (fun _ _ _ h => h) (Or.inl ⟨by rfl, fun wS hSw => by (try dsimp only at hSw); go_simp⟩) hHeld ?_
          try simp only [Act.put, List.setIfInBounds_toArray, List.set_cons_zero, List.set_cons_succ]
          refine wpAnyH_done (by kernel_rfl) ?_ _
          obtain ⟨A2, c2, hv2, hc2, hgl2⟩ := OwnG.ret gM_len Lc_y6.out
          subst hv2
          go_wp2_with fail
          go_ret3
          exact ⟨A2, c2, ds ++ [⟨m, am, cm⟩], some ⟨by_, 0, none⟩, 1, [x0], by rw [← HR.out]; simp, by rw [← HR.out, ← HDM.out]; simp, by rw [← HR.out, HX0.out]; rfl, by simpa using hc2, by simp, push_msgs (by simpa using hgl2) (HDS.out _ (HS.out.step B_y6.out)).2 (GL.step HM.out B_y6.out), mi_one Xy_y6.out (GL.step HPX.out B_y6.out), B_y6.out⟩
      · go_simp
        obtain ⟨bm, hbm⟩ : ∃ n, n = y2.heap.size := ⟨_, rfl⟩
        refine name_world (C := fun w9 => K _ w9) (y2.alloc (.cells (gM (⟨m, am, cm⟩ : ME)).toArray 25)) ?_
        intro y3 hy3
        have hb : Below y2.heap.size y2 y3 := by rw [hy3]; exact S2.below_new _ _
        have hN : BK 25 y3 bm (gM (⟨m, am, cm⟩ : ME)) := by rw [hy3, hbm]; exact BK.new _ _ _
        have HD_a_m : Hid (va.ownBlock ≠ some bm) := Lib.hid (OwnG.high La_y2.out (by omega))
        have V_y3 : Hid (BK 25 y3 w.heap.size (msgC m am cm)) := Lib.hid (V_y2.out.step hb)
        have B_y3 : Hid (Below w.heap.size w y3) := Lib.hid (stepB B_y2.out hb)
        have Z_y3 : Hid (q ≤ y3.heap.size) := Lib.hid (Nat.le_trans Z_y2.out hb.size)
        have La_y3 : Hid (OwnG 25 gM 9 y3 q va []) := Lib.hid (OwnG.step La_y2.out hb)
        clear V_y2 B_y2 Z_y2 La_y2
        have Xm_y3 := Lib.hid hN
        try rw [← hbm]
        clear hHeld hb hN hy3 hbm
        refine hK.out _ _ ⟨V_y3.out, B_y3.out⟩ (fun hHeld => ?_)
        clear hK K
        try simp only [Act.put, List.setIfInBounds_toArray, List.set_cons_zero, List.set_cons_succ]
        refine wpAnyH_ready (rs := [3, 10]) (by kernel_rfl) (by simp) ?_
        refine (AllReadyH.cons (get_ops _ _ _ rfl) (fun K hK => ?_) (AllReadyH.cons (get_ops _ _ _ rfl) (fun K hK => ?_) AllReadyH.nil))
        · rw [if_pos (by rfl)]
          have hoy := La_y3.out
          refine oper_appG (g := gM) (k := 9) (e := 25) (by decide) (.tmp 27) (.tmp 29) 22 22 rfl (.agg (msgC Msg.zero none 0).toArray) 112 Try.underlying22 msgInfo rfl (by decide) q va [] ds _ (by go_simp) hoy (by go_simp) (GL.src gM_len gM_one ((HDS.out _ (HS.out.step B_y3.out)).1) Try.underlying22 cd) Z_y3.out (by simp; have := HDB.out; omega) ?_
          intro vb y4 hown hgr hoffs
          have V_y4 : Hid (BK 25 y4 w.heap.size (msgC m am cm)) := Lib.hid (BK.grow V_y3.out hgr (OwnG.off hoy (HQ.out)))
          have B_y4 : Hid (Below w.heap.size w y4) := Lib.hid (Below.grow B_y3.out hoy hgr B_y3.out.size (Nat.le_of_lt HQ.out))
          have Z_y4 : Hid (q ≤ y4.heap.size) := Lib.hid (Nat.le_trans Z_y3.out hgr.size)
          have Xm_y4 : Hid (BK 25 y4 bm (gM (⟨m, am, cm⟩ : ME))) := Lib.hid (BK.grow Xm_y3.out hgr HD_a_m.out)
          have HD_b_m : Hid (vb.ownBlock ≠ some bm) := Lib.hid (hoffs _ Xm_y3.out.lt HD_a_m.out)
          have Lb_y4 : Hid (OwnG 25 gM 9 y4 q vb ([] ++ ds)) := Lib.hid hown
          clear hoy hown hgr hoffs hHeld V_y3 B_y3 Z_y3 La_y3 Xm_y3
          refine hK.out _ _ ⟨V_y4.out, B_y4.out⟩ (fun hHeld => ?_)
          clear hK K
          try simp only [Act.put, List.setIfInBounds_toArray, List.set_cons_zero, List.set_cons_succ]
          refine wpAnyH_ready (rs := [6, 10]) (by kernel_rfl) (by simp) ?_
          refine (AllReadyH.cons (get_ops _ _ _ rfl) (fun K hK => ?_) (AllReadyH.cons (get_ops _ _ _ rfl) (fun K hK => ?_) AllReadyH.nil))
          · rw [if_pos (by rfl)]
            have hoy := Lb_y4.out
            refine oper_appG (g := gM) (k := 9) (e := 25) (by decide) (.tmp 30) (.tmp 32) 22 22 rfl (.agg (msgC Msg.zero none 0).toArray) 112 Try.underlying22 msgInfo rfl (by decide) q vb ([] ++ ds) [(⟨m, am, cm⟩ : ME)] _ (by go_simp) hoy (by go_simp) (src_blk gM_len gM_one Try.underlying22 Xm_y4.out) Z_y4.out (by simp; have := HDB.out; omega) ?_
            intro vc y5 hown hgr hoffs
            have V_y5 : Hid (BK 25 y5 w.heap.size (msgC m am cm)) := Lib.hid (BK.grow V_y4.out hgr (OwnG.off hoy (HQ.out)))
            have B_y5 : Hid (Below w.heap.size w y5) := Lib.hid (Below.grow B_y4.out hoy hgr B_y4.out.size (Nat.le_of_lt HQ.out))
            have Z_y5 : Hid (q ≤ y5.heap.size) := Lib.hid (Nat.le_trans Z_y4.out hgr.size)
            have Xm_y5 : Hid (BK 25 y5 bm (gM (⟨m, am, cm⟩ : ME))) := Lib.hid (BK.grow Xm_y4.out hgr HD_b_m.out)
            have HD_c_m : Hid (vc.ownBlock ≠ some bm) := Lib.hid (hoffs _ Xm_y4.out.lt HD_b_m.out)
            have Lc_y5 : Hid (OwnG 25 gM 9 y5 q vc (([] ++ ds) ++ [(⟨m, am, cm⟩ : ME)])) := Lib.hid hown
            clear hoy hown hgr hoffs hHeld V_y4 B_y4 Z_y4 Xm_y4 Lb_y4
            refine hK.out _ _ ⟨V_y5.out, B_y5.out⟩ (fun hHeld => ?_)
            clear hK K
            try simp only [Act.put, List.setIfInBounds_toArray, List.set_cons_zero, List.set_cons_succ]
            refine wpAnyH_take (i := 11) (v := vc) (get_ops _ _ _ rfl) (by kernel_rfl) (by kernel_rfl) (by kernel_rfl) (fun _ _ _ h => h) (Or.inl ⟨by rfl, fun wS hSw => by (try dsimp only at hSw); go_simp⟩) hHeld ?_
            try simp only [Act.put, List.setIfInBounds_toArray, List.set_cons_zero, List.set_cons_succ]
            refine wpAnyH_ready (rs := [10]) (by kernel_rfl) (by simp) ?_
            refine (AllReadyH.cons (get_ops _ _ _ rfl) (fun K hK => ?_) AllReadyH.nil)
            (try simp only [msgV]); go_simp
            obtain ⟨by_, hby_⟩ : ∃ n, n = y5.heap.size := ⟨_, rfl⟩
            refine name_world (C := fun w9 => K _ w9) (y5.alloc (.cells (gM x0).toArray 25)) ?_
            intro y6 hy6
            have hb : Below y5.heap.size y5 y6 := by rw [hy6]; exact S2.below_new _ _
            have hN : BK 25 y6 by_ (gM x0) := by rw [hy6, hby_]; exact BK.new _ _ _
            have HD_c_y : Hid (vc.ownBlock ≠ some by_) := Lib.hid (OwnG.high Lc_y5.out (by omega))
            have V_y6 : Hid (BK 25 y6 w.heap.size (msgC m am cm)) := Lib.hid (V_y5.out.step hb)
            have B_y6 : Hid (Below w.heap.size w y6) := Lib.hid (stepB B_y5.out hb)
            have Z_y6 : Hid (q ≤ y6.heap.size) := Lib.hid (Nat.le_trans Z_y5.out hb.size)
            have Xm_y6 : Hid (BK 25 y6 bm (gM (⟨m, am, cm⟩ : ME))) := Lib.hid (Xm_y5.out.step hb)
            have Lc_y6 : Hid (OwnG 25 gM 9 y6 q vc (([] ++ ds) ++ [(⟨m, am, cm⟩ : ME)])) := Lib.hid (OwnG.step Lc_y5.out hb)
            clear V_y5 B_y5 Z_y5 Xm_y5 Lc_y5
            have Xy_y6 := Lib.hid hN
            try rw [← hby_]
            clear hHeld hb hN hy6 hby_
            refine hK.out _ _ ⟨V_y6.out, B_y6.out⟩ (fun hHeld => ?_)
            clear hK K
            try simp only [Act.put, List.setIfInBounds_toArray, List.set_cons_zero, List.set_cons_succ]
            refine wpAnyH_take (i := 12) (v := .slice (some ⟨by_, 0, none⟩) 1 1) (get_ops _ _ _ rfl) (by kernel_rfl) (by kernel_rfl) (by kernel_rfl) (fun _ _ _ h => h) (Or.inl ⟨by rfl, fun wS hSw => by (try dsimp only at hSw); go_simp⟩) hHeld ?_
            try simp only [Act.put, List.setIfInBounds_toArray, List.set_cons_zero, List.set_cons_succ]
            refine wpAnyH_take (i := 13) (v := .bool false) (get_ops _ _ _ rfl) (by kernel_rfl) (by kernel_rfl) (by kernel_rfl) (fun _ _ _ h => h) (Or.inl ⟨by rfl, fun wS hSw => by (try dsimp only at hSw); go_simp⟩) hHeld ?_
            try simp only [Act.put, List.setIfInBounds_toArray, List.set_cons_zero, List.set_cons_succ]
            refine wpAnyH_done (by kernel_rfl) ?_ _
            obtain ⟨A2, c2, hv2, hc2, hgl2⟩ := OwnG.ret gM_len Lc_y6.out
            subst hv2
            go_wp2_with fail
            go_ret3
            exact ⟨A2, c2, ds ++ [⟨m, am, cm⟩], some ⟨by_, 0, none⟩, 1, [x0], by rw [← HR.out]; simp, by rw [← HR.out, ← HDM.out]; simp, by rw [← HR.out, HX0.out]; rfl, by simpa using hc2, by simp, push_msgs (by simpa using hgl2) (HDS.out _ (HS.out.step B_y6.out)).2 (GL.step HM.out B_y6.out), mi_one Xy_y6.out (GL.step HPX.out B_y6.out), B_y6.out⟩
          · (try simp only [msgV]); go_simp
            obtain ⟨by_, hby_⟩ : ∃ n, n = y4.heap.size := ⟨_, rfl⟩
            refine name_world (C := fun w9 => K _ w9) (y4.alloc (.cells (gM x0).toArray 25)) ?_
            intro y5 hy5
            have hb : Below y4.heap.size y4 y5 := by rw [hy5]; exact S2.below_new _ _
            have hN : BK 25 y5 by_ (gM x0) := by rw [hy5, hby_]; exact BK.new _ _ _
            have HD_b_y : Hid (vb.ownBlock ≠ some by_) := Lib.hid (OwnG.high Lb_y4.out (by omega))
            have V_y5 : Hid (BK 25 y5 w.heap.size (msgC m am cm)) := Lib.hid (V_y4.out.step hb)
            have B_y5 : Hid (Below w.heap.size w y5) := Lib.hid (stepB B_y4.out hb)
            have Z_y5 : Hid (q ≤ y5.heap.size) := Lib.hid (Nat.le_trans Z_y4.out hb.size)
            have Xm_y5 : Hid (BK 25 y5 bm (gM (⟨m, am, cm⟩ : ME))) := Lib.hid (Xm_y4.out.step hb)
            have Lb_y5 : Hid (OwnG 25 gM 9 y5 q vb ([] ++ ds)) := Lib.hid (OwnG.step Lb_y4.out hb)
            clear V_y4 B_y4 Z_y4 Xm_y4 Lb_y4
            have Xy_y5 := Lib.hid hN
            try rw [← hby_]
            clear hHeld hb hN hy5 hby_
            refine hK.out _ _ ⟨V_y5.out, B_y5.out⟩ (fun hHeld => ?_)
            clear hK K
            try simp only [Act.put, List.setIfInBounds_toArray, List.set_cons_zero, List.set_cons_succ]
            refine wpAnyH_ready (rs := [6]) (by kernel_rfl) (by simp) ?_
            refine (AllReadyH.cons (get_ops _ _ _ rfl) (fun K hK => ?_) AllReadyH.nil)
            rw [if_pos (by rfl)]
            have hoy := Lb_y5.out
            refine oper_appG (g := gM) (k := 9) (e := 25) (by decide) (.tmp 30) (.tmp 32) 22 22 rfl (.agg (msgC Msg.zero none 0).toArray) 112 Try.underlying22 msgInfo rfl (by decide) q vb ([] ++ ds) [(⟨m, am, cm⟩ : ME)] _ (by go_simp) hoy (by go_simp) (src_blk gM_len gM_one Try.underlying22 Xm_y5.out) Z_y5.out (by simp; have := HDB.out; omega) ?_
            intro vc y6 hown hgr hoffs
            have V_y6 : Hid (BK 25 y6 w.heap.size (msgC m am cm)) := Lib.hid (BK.grow V_y5.out hgr (OwnG.off hoy (HQ.out)))
            have B_y6 : Hid (Below w.heap.size w y6) := Lib.hid (Below.grow B_y5.out hoy hgr B_y5.out.size (Nat.le_of_lt HQ.out))
            have Z_y6 : Hid (q ≤ y6.heap.size) := Lib.hid (Nat.le_trans Z_y5.out hgr.size)
            have Xm_y6 : Hid (BK 25 y6 bm (gM (⟨m, am, cm⟩ : ME))) := Lib.hid (BK.grow Xm_y5.out hgr HD_b_m.out)
            have Xy_y6 : Hid (BK 25 y6 by_ (gM x0)) := Lib.hid (BK.grow Xy_y5.out hgr HD_b_y.out)
            have HD_c_m : Hid (vc.ownBlock ≠ some bm) := Lib.hid (hoffs _ Xm_y5.out.lt HD_b_m.out)
            have HD_c_y : Hid (vc.ownBlock ≠ some by_) := Lib.hid (hoffs _ Xy_y5.out.lt HD_b_y.out)
            have Lc_y6 : Hid (OwnG 25 gM 9 y6 q vc (([] ++ ds) ++ [(⟨m, am, cm⟩ : ME)])) := Lib.hid hown
            clear hoy hown hgr hoffs hHeld V_y5 B_y5 Z_y5 Xm_y5 Lb_y5 Xy_y5
            refine hK.out _ _ ⟨V_y6.out, B_y6.out⟩ (fun hHeld => ?_)
            clear hK K
            try simp only [Act.put, List.setIfInBounds_toArray, List.set_cons_zero, List.set_cons_succ]
            refine wpAnyH_take (i := 11) (v := vc) (get_ops _ _ _ rfl) (by kernel_rfl) (by kernel_rfl) (by kernel_rfl) (fun _ _ _ h => h) (Or.inl ⟨by rfl, fun wS hSw => by (try dsimp only at hSw); go_simp⟩) hHeld ?_
            try simp only [Act.put, List.setIfInBounds_toArray, List.set_cons_zero, List.set_cons_succ]
            refine wpAnyH_take (i := 12) (v := .slice (some ⟨by_, 0, none⟩) 1 1) (get_ops _ _ _ rfl) (by kernel_rfl) (by kernel_rfl) (by kernel_rfl) (fun _ _ _ h => h) (Or.inl ⟨by rfl, fun wS hSw => by (try dsimp only at hSw); go_simp⟩) hHeld ?_
            try simp only [Act.put, List.setIfInBounds_toArray, List.set_cons_zero, List.set_cons_succ]
            refine wpAnyH_take (i := 13) (v := .bool false) (get_ops _ _ _ rfl) (by kernel_rfl) (by kernel_rfl) (by kernel_rfl) (fun _ _ _ h => h) (Or.inl ⟨by rfl, fun wS hSw => by (try dsimp only at hSw); go_simp⟩) hHeld ?_
            try simp only [Act.put, List.setIfInBounds_toArray, List.set_cons_zero, List.set_cons_succ]
            refine wpAnyH_done (by kernel_rfl) ?_ _
            obtain ⟨A2, c2, hv2, hc2, hgl2⟩ := OwnG.ret gM_len Lc_y6.out
            subst hv2
            go_wp2_with fail
            go_ret3
            exact ⟨A2, c2, ds ++ [⟨m, am, cm⟩], some ⟨by_, 0, none⟩, 1, [x0], by rw [← HR.out]; simp, by rw [← HR.out, ← HDM.out]; simp, by rw [← HR.out, HX0.out]; rfl, by simpa using hc2, by simp, push_msgs (by simpa using hgl2) (HDS.out _ (HS.out.step B_y6.out)).2 (GL.step HM.out B_y6.out), mi_one Xy_y6.out (GL.step HPX.out B_y6.out), B_y6.out⟩
        · (try simp only [msgV]); go_simp
          obtain ⟨by_, hby_⟩ : ∃ n, n = y3.heap.size := ⟨_, rfl⟩
          refine name_world (C := fun w9 => K _ w9) (y3.alloc (.cells (gM x0).toArray 25)) ?_
          intro y4 hy4
          have hb : Below y3.heap.size y3 y4 := by rw [hy4]; exact S2.below_new _ _
          have hN : BK 25 y4 by_ (gM x0) := by rw [hy4, hby_]; exact BK.new _ _ _
          have HD_a_y : Hid (va.ownBlock ≠ some by_) := Lib.hid (OwnG.high La_y3.out (by omega))
          have V_y4 : Hid (BK 25 y4 w.heap.size (msgC m am cm)) := Lib.hid (V_y3.out.step hb)
          have B_y4 : Hid (Below w.heap.size w y4) := Lib.hid (stepB B_y3.out hb)
          have Z_y4 : Hid (q ≤ y4.heap.size) := Lib.hid (Nat.le_trans Z_y3.out hb.size)
          have La_y4 : Hid (OwnG 25 gM 9 y4 q va []) := Lib.hid (OwnG.step La_y3.out hb)
          have Xm_y4 : Hid (BK 25 y4 bm (gM (⟨m, am, cm⟩ : ME))) := Lib.hid (Xm_y3.out.step hb)
          clear V_y3 B_y3 Z_y3 La_y3 Xm_y3
          have Xy_y4 := Lib.hid hN
          try rw [← hby_]
          clear hHeld hb hN hy4 hby_
          refine hK.out _ _ ⟨V_y4.out, B_y4.out⟩ (fun hHeld => ?_)
          clear hK K
          try simp only [Act.put, List.setIfInBounds_toArray, List.set_cons_zero, List.set_cons_succ]
          refine wpAnyH_ready (rs := [3]) (by kernel_rfl) (by simp) ?_
          refine (AllReadyH.cons (get_ops _ _ _ rfl) (fun K hK => ?_) AllReadyH.nil)
          rw [if_pos (by rfl)]
          have hoy := La_y4.out
          refine oper_appG (g := gM) (k := 9) (e := 25) (by decide) (.tmp 27) (.tmp 29) 22 22 rfl (.agg (msgC Msg.zero none 0).toArray) 112 Try.underlying22 msgInfo rfl (by decide) q va [] ds _ (by go_simp) hoy (by go_simp) (GL.src gM_len gM_one ((HDS.out _ (HS.out.step B_y4.out)).1) Try.underlying22 cd) Z_y4.out (by simp; have := HDB.out; omega) ?_
          intro vb y5 hown hgr hoffs
          have V_y5 : Hid (BK 25 y5 w.heap.size (msgC m am cm)) := Lib.hid (BK.grow V_y4.out hgr (OwnG.off hoy (HQ.out)))
          have B_y5 : Hid (Below w.heap.size w y5) := Lib.hid (Below.grow B_y4.out hoy hgr B_y4.out.size (Nat.le_of_lt HQ.out))
          have Z_y5 : Hid (q ≤ y5.heap.size) := Lib.hid (Nat.le_trans Z_y4.out hgr.size)
          have Xm_y5 : Hid (BK 25 y5 bm (gM (⟨m, am, cm⟩ : ME))) := Lib.hid (BK.grow Xm_y4.out hgr HD_a_m.out)
          have Xy_y5 : Hid (BK 25 y5 by_ (gM x0)) := Lib.hid (BK.grow Xy_y4.out hgr HD_a_y.out)
          have HD_b_m : Hid (vb.ownBlock ≠ some bm) := Lib.hid (hoffs _ Xm_y4.out.lt HD_a_m.out)
          have HD_b_y : Hid (vb.ownBlock ≠ some by_) := Lib.hid (hoffs _ Xy_y4.out.lt HD_a_y.out)
          have Lb_y5 : Hid (OwnG 25 gM 9 y5 q vb ([] ++ ds)) := Lib.hid hown
          clear hoy hown hgr hoffs hHeld V_y4 B_y4 Z_y4 La_y4 Xm_y4 Xy_y4
          refine hK.out _ _ ⟨V_y5.out, B_y5.out⟩ (fun hHeld => ?_)
          clear hK K
          try simp only [Act.put, List.setIfInBounds_toArray, List.set_cons_zero, List.set_cons_succ]
          refine wpAnyH_ready (rs := [6]) (by kernel_rfl) (by simp) ?_
          refine (AllReadyH.cons (get_ops _ _ _ rfl) (fun K hK => ?_) AllReadyH.nil)
          rw [if_pos (by rfl)]
          have hoy := Lb_y5.out
          refine oper_appG (g := gM) (k := 9) (e := 25) (by decide) (.tmp 30) (.tmp 32) 22 22 rfl (.agg (msgC Msg.zero none 0).toArray) 112 Try.underlying22 msgInfo rfl (by decide) q vb ([] ++ ds) [(⟨m, am, cm⟩ : ME)] _ (by go_simp) hoy (by go_simp) (src_blk gM_len gM_one Try.underlying22 Xm_y5.out) Z_y5.out (by simp; have := HDB.out; omega) ?_
          intro vc y6 hown hgr hoffs
          have V_y6 : Hid (BK 25 y6 w.heap.size (msgC m am cm)) := Lib.hid (BK.grow V_y5.out hgr (OwnG.off hoy (HQ.out)))
          have B_y6 : Hid (Below w.heap.size w y6) := Lib.hid (Below.grow B_y5.out hoy hgr B_y5.out.size (Nat.le_of_lt HQ.out))
          have Z_y6 : Hid (q ≤ y6.heap.size) := Lib.hid (Nat.le_trans Z_y5.out hgr.size)
          have Xm_y6 : Hid (BK 25 y6 bm (gM (⟨m, am, cm⟩ : ME))) := Lib.hid (BK.grow Xm_y5.out hgr HD_b_m.out)
          have Xy_y6 : Hid (BK 25 y6 by_ (gM x0)) := Lib.hid (BK.grow Xy_y5.out hgr HD_b_y.out)
          have HD_c_m : Hid (vc.ownBlock ≠ some bm) := Lib.hid (hoffs _ Xm_y5.out.lt HD_b_m.out)
          have HD_c_y : Hid (vc.ownBlock ≠ some by_) := Lib.hid (hoffs _ Xy_y5.out.lt HD_b_y.out)
          have Lc_y6 : Hid (OwnG 25 gM 9 y6 q vc (([] ++ ds) ++ [(⟨m, am, cm⟩ : ME)])) := Lib.hid hown
          clear hoy hown hgr hoffs hHeld V_y5 B_y5 Z_y5 Xm_y5 Xy_y5 Lb_y5
          refine hK.out _ _ ⟨V_y6.out, B_y6.out⟩ (fun hHeld => ?_)
          clear hK K
          try simp only [Act.put, List.setIfInBounds_toArray, List.set_cons_zero, List.set_cons_succ]
          refine wpAnyH_take (i := 11) (v := vc) (get_ops _ _ _ rfl) (by kernel_rfl) (by kernel_rfl) (by kernel_rfl) (fun _ _ _ h => h) (Or.inl ⟨by rfl, fun wS hSw => by (try dsimp only at hSw); go_simp⟩) hHeld ?_
          try simp only [Act.put, List.setIfInBounds_toArray, List.set_cons_zero, List.set_cons_succ]
          refine wpAnyH_take (i := 12) (v := .slice (some ⟨by_, 0, none⟩) 1 1) (get_ops _ _ _ rfl) (by kernel_rfl) (by kernel_rfl) (by kernel_rfl) (fun _ _ _ h => h) (Or.inl ⟨by rfl, fun wS hSw => by (try dsimp only at hSw); go_simp⟩) hHeld ?_
          try simp only [Act.put, List.setIfInBounds_toArray, List.set_cons_zero, List.set_cons_succ]
          refine wpAnyH_take (i := 13) (v := .bool false) (get_ops _ _ _ rfl) (by kernel_rfl) (by kernel_rfl) (by kernel_rfl) (fun _ _ _ h => h) (Or.inl ⟨by rfl, fun wS hSw => by (try dsimp only at hSw); go_simp⟩) hHeld ?_
          try simp only [Act.put, List.setIfInBounds_toArray, List.set_cons_zero, List.set_cons_succ]
          refine wpAnyH_done (by kernel_rfl) ?_ _
          obtain ⟨A2, c2, hv2, hc2, hgl2⟩ := OwnG.ret gM_len Lc_y6.out
          subst hv2
          go_wp2_with fail
          go_ret3
          exact ⟨A2, c2, ds ++ [⟨m, am, cm⟩], some ⟨by_, 0, none⟩, 1, [x0], by rw [← HR.out]; simp, by rw [← HR.out, ← HDM.out]; simp, by rw [← HR.out, HX0.out]; rfl, by simpa using hc2, by simp, push_msgs (by simpa using hgl2) (HDS.out _ (HS.out.step B_y6.out)).2 (GL.step HM.out B_y6.out), mi_one Xy_y6.out (GL.step HPX.out B_y6.out), B_y6.out⟩
      · (try simp only [msgV]); go_simp
        obtain ⟨by_, hby_⟩ : ∃ n, n = y2.heap.size := ⟨_, rfl⟩
        refine name_world (C := fun w9 => K _ w9) (y2.alloc (.cells (gM x0).toArray 25)) ?_
        intro y3 hy3
        have hb : Below y2.heap.size y2 y3 := by rw [hy3]; exact S2.below_new _ _
        have hN : BK 25 y3 by_ (gM x0) := by rw [hy3, hby_]; exact BK.new _ _ _
        have HD_a_y : Hid (va.ownBlock ≠ some by_) := Lib.hid (OwnG.high La_y2.out (by omega))
        have V_y3 : Hid (BK 25 y3 w.heap.size (msgC m am cm)) := Lib.hid (V_y2.out.step hb)
        have B_y3 : Hid (Below w.heap.size w y3) := Lib.hid (stepB B_y2.out hb)
        have Z_y3 : Hid (q ≤ y3.heap.size) := Lib.hid (Nat.le_trans Z_y2.out hb.size)
        have La_y3 : Hid (OwnG 25 gM 9 y3 q va []) := Lib.hid (OwnG.step La_y2.out hb)
        clear V_y2 B_y2 Z_y2 La_y2
        have Xy_y3 := Lib.hid hN
        try rw [← hby_]
        clear hHeld hb hN hy3 hby_
        refine hK.out _ _ ⟨V_y3.out, B_y3.out⟩ (fun hHeld => ?_)
        clear hK K
        try simp only [Act.put, List.setIfInBounds_toArray, List.set_cons_zero, List.set_cons_succ]
        refine wpAnyH_ready (rs := [3, 5]) (by kernel_rfl) (by simp) ?_
        refine (AllReadyH.cons (get_ops _ _ _ rfl) (fun K hK => ?_) (AllReadyH.cons (get_ops _ _ _ rfl) (fun K hK => ?_) AllReadyH.nil))
        · rw [if_pos (by rfl)]
          have hoy := La_y3.out
          refine oper_appG (g := gM) (k := 9) (e := 25) (by decide) (.tmp 27) (.tmp 29) 22 22 rfl (.agg (msgC Msg.zero none 0).toArray) 112 Try.underlying22 msgInfo rfl (by decide) q va [] ds _ (by go_simp) hoy (by go_simp) (GL.src gM_len gM_one ((HDS.out _ (HS.out.step B_y3.out)).1) Try.underlying22 cd) Z_y3.out (by simp; have := HDB.out; omega) ?_
          intro vb y4 hown hgr hoffs
          have V_y4 : Hid (BK 25 y4 w.heap.size (msgC m am cm)) := Lib.hid (BK.grow V_y3.out hgr (OwnG.off hoy (HQ.out)))
          have B_y4 : Hid (Below w.heap.size w y4) := Lib.hid (Below.grow B_y3.out hoy hgr B_y3.out.size (Nat.le_of_lt HQ.out))
          have Z_y4 : Hid (q ≤ y4.heap.size) := Lib.hid (Nat.le_trans Z_y3.out hgr.size)
          have Xy_y4 : Hid (BK 25 y4 by_ (gM x0)) := Lib.hid (BK.grow Xy_y3.out hgr HD_a_y.out)
          have HD_b_y : Hid (vb.ownBlock ≠ some by_) := Lib.hid (hoffs _ Xy_y3.out.lt HD_a_y.out)
          have Lb_y4 : Hid (OwnG 25 gM 9 y4 q vb ([] ++ ds)) := Lib.hid hown
          clear hoy hown hgr hoffs hHeld V_y3 B_y3 Z_y3 La_y3 Xy_y3
          refine hK.out _ _ ⟨V_y4.out, B_y4.out⟩ (fun hHeld => ?_)
          clear hK K
          try simp only [Act.put, List.setIfInBounds_toArray, List.set_cons_zero, List.set_cons_succ]
          refine wpAnyH_ready (rs := [5]) (by kernel_rfl) (by simp) ?_
          refine (AllReadyH.cons (get_ops _ _ _ rfl) (fun K hK => ?_) AllReadyH.nil)
          go_simp
          obtain ⟨bm, hbm⟩ : ∃ n, n = y4.heap.size := ⟨_, rfl⟩
          refine name_world (C := fun w9 => K _ w9) (y4.alloc (.cells (gM (⟨m, am, cm⟩ : ME)).toArray 25)) ?_
          intro y5 hy5
          have hb : Below y4.heap.size y4 y5 := by rw [hy5]; exact S2.below_new _ _
          have hN : BK 25 y5 bm (gM (⟨m, am, cm⟩ : ME)) := by rw [hy5, hbm]; exact BK.new _ _ _
          have HD_b_m : Hid (vb.ownBlock ≠ some bm) := Lib.hid (OwnG.high Lb_y4.out (by omega))
          have V_y5 : Hid (BK 25 y5 w.heap.size (msgC m am cm)) := Lib.hid (V_y4.out.step hb)
          have B_y5 : Hid (Below w.heap.size w y5) := Lib.hid (stepB B_y4.out hb)
          have Z_y5 : Hid (q ≤ y5.heap.size) := Lib.hid (Nat.le_trans Z_y4.out hb.size)
          have Xy_y5 : Hid (BK 25 y5 by_ (gM x0)) := Lib.hid (Xy_y4.out.step hb)
          have Lb_y5 : Hid (OwnG 25 gM 9 y5 q vb ([] ++ ds)) := Lib.hid (OwnG.step Lb_y4.out hb)
          clear V_y4 B_y4 Z_y4 Xy_y4 Lb_y4
          have Xm_y5 := Lib.hid hN
          try rw [← hbm]
          clear hHeld hb hN hy5 hbm
          refine hK.out _ _ ⟨V_y5.out, B_y5.out⟩ (fun hHeld => ?_)
          clear hK K
          try simp only [Act.put, List.setIfInBounds_toArray, List.set_cons_zero, List.set_cons_succ]
          refine wpAnyH_ready (rs := [6]) (by kernel_rfl) (by simp) ?_
          refine (AllReadyH.cons (get_ops _ _ _ rfl) (fun K hK => ?_) AllReadyH.nil)
          rw [if_pos (by rfl)]
          have hoy := Lb_y5.out
          refine oper_appG (g := gM) (k := 9) (e := 25) (by decide) (.tmp 30) (.tmp 32) 22 22 rfl (.agg (msgC Msg.zero none 0).toArray) 112 Try.underlying22 msgInfo rfl (by decide) q vb ([] ++ ds) [(⟨m, am, cm⟩ : ME)] _ (by go_simp) hoy (by go_simp) (src_blk gM_len gM_one Try.underlying22 Xm_y5.out) Z_y5.out (by simp; have := HDB.out; omega) ?_
          intro vc y6 hown hgr hoffs
          have V_y6 : Hid (BK 25 y6 w.heap.size (msgC m am cm)) := Lib.hid (BK.grow V_y5.out hgr (OwnG.off hoy (HQ.out)))
          have B_y6 : Hid (Below w.heap.size w y6) := Lib.hid (Below.grow B_y5.out hoy hgr B_y5.out.size (Nat.le_of_lt HQ.out))
          have Z_y6 : Hid (q ≤ y6.heap.size) := Lib.hid (Nat.le_trans Z_y5.out hgr.size)
          have Xy_y6 : Hid (BK 25 y6 by_ (gM x0)) := Lib.hid (BK.grow Xy_y5.out hgr HD_b_y.out)
          have Xm_y6 : Hid (BK 25 y6 bm (gM (⟨m, am, cm⟩ : ME))) := Lib.hid (BK.grow Xm_y5.out hgr HD_b_m.out)
          have HD_c_y : Hid (vc.ownBlock ≠ some by_) := Lib.hid (hoffs _ Xy_y5.out.lt HD_b_y.out)
          have HD_c_m : Hid (vc.ownBlock ≠ some bm) := Lib.hid (hoffs _ Xm_y5.out.lt HD_b_m.out)
          have Lc_y6 : Hid (OwnG 25 gM 9 y6 q vc (([] ++ ds) ++ [(⟨m, am, cm⟩ : ME)])) := Lib.hid hown
          clear hoy hown hgr hoffs hHeld V_y5 B_y5 Z_y5 Xy_y5 Lb_y5 Xm_y5
          refine hK.out _ _ ⟨V_y6.out, B_y6.out⟩ (fun hHeld => ?_)
          clear hK K
          try simp only [Act.put, List.setIfInBounds_toArray, List.set_cons_zero, List.set_cons_succ]
          refine wpAnyH_take (i := 11) (v := vc) (get_ops _ _ _ rfl) (by kernel_rfl) (by kernel_rfl) (by kernel_rfl) (fun _ _ _ h => h) (Or.inl ⟨by rfl, fun wS hSw => by (try dsimp only at hSw); go_simp⟩) hHeld ?_
          try simp only [Act.put, List.setIfInBounds_toArray, List.set_cons_zero, List.set_cons_succ]
          refine wpAnyH_take (i := 12) (v := .slice (some ⟨by_, 0, none⟩) 1 1) (get_ops _ _ _ rfl) (by kernel_rfl) (by kernel_rfl) (by kernel_rfl) (fun _ _ _ h => h) (Or.inl ⟨by rfl, fun wS hSw => by (try dsimp only at hSw); go_simp⟩) hHeld ?_
          try simp only [Act.put, List.setIfInBounds_toArray, List.set_cons_zero, List.set_cons_succ]
          refine wpAnyH_take (i := 13) (v := .bool false) (get_ops _ _ _ rfl) (by kernel_rfl) (by kernel_rfl) (by kernel_rfl) (fun _ _ _ h => h) (Or.inl ⟨by rfl, fun wS hSw => by (try dsimp only at hSw); go_simp⟩) hHeld ?_
          try simp only [Act.put, List.setIfInBounds_toArray, List.set_cons_zero, List.set_cons_succ]
          refine wpAnyH_done (by kernel_rfl) ?_ _
          obtain ⟨A2, c2, hv2, hc2, hgl2⟩ := OwnG.ret gM_len Lc_y6.out
          subst hv2
          go_wp2_with fail
          go_ret3
          exact ⟨A2, c2, ds ++ [⟨m, am, cm⟩], some ⟨by_, 0, none⟩, 1, [x0], by rw [← HR.out]; simp, by rw [← HR.out, ← HDM.out]; simp, by rw [← HR.out, HX0.out]; rfl, by simpa using hc2, by simp, push_msgs (by simpa using hgl2) (HDS.out _ (HS.out.step B_y6.out)).2 (GL.step HM.out B_y6.out), mi_one Xy_y6.out (GL.step HPX.out B_y6.out), B_y6.out⟩
        · go_simp
          obtain ⟨bm, hbm⟩ : ∃ n, n = y3.heap.size := ⟨_, rfl⟩
          refine name_world (C := fun w9 => K _ w9) (y3.alloc (.cells (gM (⟨m, am, cm⟩ : ME)).toArray 25)) ?_
          intro y4 hy4
          have hb : Below y3.heap.size y3 y4 := by rw [hy4]; exact S2.below_new _ _
          have hN : BK 25 y4 bm (gM (⟨m, am, cm⟩ : ME)) := by rw [hy4, hbm]; exact BK.new _ _ _
          have HD_a_m : Hid (va.ownBlock ≠ some bm) := Lib.hid (OwnG.high La_y3.out (by omega))
          have V_y4 : Hid (BK 25 y4 w.heap.size (msgC m am cm)) := Lib.hid (V_y3.out.step hb)
          have B_y4 : Hid (Below w.heap.size w y4) := Lib.hid (stepB B_y3.out hb)
          have Z_y4 : Hid (q ≤ y4.heap.size) := Lib.hid (Nat.le_trans Z_y3.out hb.size)
          have La_y4 : Hid (OwnG 25 gM 9 y4 q va []) := Lib.hid (OwnG.step La_y3.out hb)
          have Xy_y4 : Hid (BK 25 y4 by_ (gM x0)) := Lib.hid (Xy_y3.out.step hb)
          clear V_y3 B_y3 Z_y3 La_y3 Xy_y3
          have Xm_y4 := Lib.hid hN
          try rw [← hbm]
          clear hHeld hb hN hy4 hbm
          refine hK.out _ _ ⟨V_y4.out, B_y4.out⟩ (fun hHeld => ?_)
          clear hK K
          try simp only [Act.put, List.setIfInBounds_toArray, List.set_cons_zero, List.set_cons_succ]
          refine wpAnyH_ready (rs := [3]) (by kernel_rfl) (by simp) ?_
          refine (AllReadyH.cons (get_ops _ _ _ rfl) (fun K hK => ?_) AllReadyH.nil)
          rw [if_pos (by rfl)]
          have hoy := La_y4.out
          refine oper_appG (g := gM) (k := 9) (e := 25) (by decide) (.tmp 27) (.tmp 29) 22 22 rfl (.agg (msgC Msg.zero none 0).toArray) 112 Try.underlying22 msgInfo rfl (by decide) q va [] ds _ (by go_simp) hoy (by go_simp) (GL.src gM_len gM_one ((HDS.out _ (HS.out.step B_y4.out)).1) Try.underlying22 cd) Z_y4.out (by simp; have := HDB.out; omega) ?_
          intro vb y5 hown hgr hoffs
          have V_y5 : Hid (BK 25 y5 w.heap.size (msgC m am cm)) := Lib.hid (BK.grow V_y4.out hgr (OwnG.off hoy (HQ.out)))
          have B_y5 : Hid (Below w.heap.size w y5) := Lib.hid (Below.grow B_y4.out hoy hgr B_y4.out.size (Nat.le_of_lt HQ.out))
          have Z_y5 : Hid (q ≤ y5.heap.size) := Lib.hid (Nat.le_trans Z_y4.out hgr.size)
          have Xy_y5 : Hid (BK 25 y5 by_ (gM x0)) := Lib.hid (BK.grow Xy_y4.out hgr HD_a_y.out)
          have Xm_y5 : Hid (BK 25 y5 bm (gM (⟨m, am, cm⟩ : ME))) := Lib.hid (BK.grow Xm_y4.out hgr HD_a_m.out)
          have HD_b_y : Hid (vb.ownBlock ≠ some by_) := Lib.hid (hoffs _ Xy_y4.out.lt HD_a_y.out)
          have HD_b_m : Hid (vb.ownBlock ≠ some bm) := Lib.hid (hoffs _ Xm_y4.out.lt HD_a_m.out)
          have Lb_y5 : Hid (OwnG 25 gM 9 y5 q vb ([] ++ ds)) := Lib.hid hown
          clear hoy hown hgr hoffs hHeld V_y4 B_y4 Z_y4 La_y4 Xy_y4 Xm_y4
          refine hK.out _ _ ⟨V_y5.out, B_y5.out⟩ (fun hHeld => ?_)
          clear hK K
          try simp only [Act.put, List.setIfInBounds_toArray, List.set_cons_zero, List.set_cons_succ]
          refine wpAnyH_ready (rs := [6]) (by kernel_rfl) (by simp) ?_
          refine (AllReadyH.cons (get_ops _ _ _ rfl) (fun K hK => ?_) AllReadyH.nil)
          rw [if_pos (by rfl)]
          have hoy := Lb_y5.out
          refine oper_appG (g := gM) (k := 9) (e := 25) (by decide) (.tmp 30) (.tmp 32) 22 22 rfl (.agg (msgC Msg.zero none 0).toArray) 112 Try.underlying22 msgInfo rfl (by decide) q vb ([] ++ ds) [(⟨m, am, cm⟩ : ME)] _ (by go_simp) hoy (by go_simp) (src_blk gM_len gM_one Try.underlying22 Xm_y5.out) Z_y5.out (by simp; have := HDB.out; omega) ?_
          intro vc y6 hown hgr hoffs
          have V_y6 : Hid (BK 25 y6 w.heap.size (msgC m am cm)) := Lib.hid (BK.grow V_y5.out hgr (OwnG.off hoy (HQ.out)))
          have B_y6 : Hid (Below w.heap.size w y6) := Lib.hid (Below.grow B_y5.out hoy hgr B_y5.out.size (Nat.le_of_lt HQ.out))
          have Z_y6 : Hid (q ≤ y6.heap.size) := Lib.hid (Nat.le_trans Z_y5.out hgr.size)
          have Xy_y6 : Hid (BK 25 y6 by_ (gM x0)) := Lib.hid (BK.grow Xy_y5.out hgr HD_b_y.out)
          have Xm_y6 : Hid (BK 25 y6 bm (gM (⟨m, am, cm⟩ : ME))) := Lib.hid (BK.grow Xm_y5.out hgr HD_b_m.out)
          have HD_c_y : Hid (vc.ownBlock ≠ some by_) := Lib.hid (hoffs _ Xy_y5.out.lt HD_b_y.out)
          have HD_c_m : Hid (vc.ownBlock ≠ some bm) := Lib.hid (hoffs _ Xm_y5.out.lt HD_b_m.out)
          have Lc_y6 : Hid (OwnG 25 gM 9 y6 q vc (([] ++ ds) ++ [(⟨m, am, cm⟩ : ME)])) := Lib.hid hown
          clear hoy hown hgr hoffs hHeld V_y5 B_y5 Z_y5 Xy_y5 Xm_y5 Lb_y5
          refine hK.out _ _ ⟨V_y6.out, B_y6.out⟩ (fun hHeld => ?_)
          clear hK K
          try simp only [Act.put, List.setIfInBounds_toArray, List.set_cons_zero, List.set_cons_succ]
          refine wpAnyH_take (i := 11) (v := vc) (get_ops _ _ _ rfl) (by kernel_rfl) (by kernel_rfl) (by kernel_rfl) (fun _ _ _ h => h) (Or.inl ⟨by rfl, fun wS hSw => by (try dsimp only at hSw); go_simp⟩) hHeld ?_
          try simp only [Act.put, List.setIfInBounds_toArray, List.set_cons_zero, List.set_cons_succ]
          refine wpAnyH_take (i := 12) (v := .slice (some ⟨by_, 0, none⟩) 1 1) (get_ops _ _ _ rfl) (by kernel_rfl) (by kernel_rfl) (by kernel_rfl) (fun _ _ _ h => h) (Or.inl ⟨by rfl, fun wS hSw => by (try dsimp only at hSw); go_simp⟩) hHeld ?_
          try simp only [Act.put, List.setIfInBounds_toArray, List.set_cons_zero, List.set_cons_succ]
          refine wpAnyH_take (i := 13) (v := .bool false) (get_ops _ _ _ rfl) (by kernel_rfl) (by kernel_rfl) (by kernel_rfl) (fun _ _ _ h => h) (Or.inl ⟨by rfl, fun wS hSw => by (try dsimp only at hSw); go_simp⟩) hHeld ?_
          try simp only [Act.put, List.setIfInBounds_toArray, List.set_cons_zero, List.set_cons_succ]
          refine wpAnyH_done (by kernel_rfl) ?_ _
          obtain ⟨A2, c2, hv2, hc2, hgl2⟩ := OwnG.ret gM_len Lc_y6.out
          subst hv2
          go_wp2_with fail
          go_ret3
          exact ⟨A2, c2, ds ++ [⟨m, am, cm⟩], some ⟨by_, 0, none⟩, 1, [x0], by rw [← HR.out]; simp, by rw [← HR.out, ← HDM.out]; simp, by rw [← HR.out, HX0.out]; rfl, by simpa using hc2, by simp, push_msgs (by simpa using hgl2) (HDS.out _ (HS.out.step B_y6.out)).2 (GL.step HM.out B_y6.out), mi_one Xy_y6.out (GL.step HPX.out B_y6.out), B_y6.out⟩
    · go_simp
      obtain ⟨bm, hbm⟩ : ∃ n, n = y1.heap.size := ⟨_, rfl⟩
      refine name_world (C := fun w9 => K _ w9) (y1.alloc (.cells (gM (⟨m, am, cm⟩ : ME)).toArray 25)) ?_
      intro y2 hy2
      have hb : Below y1.heap.size y1 y2 := by rw [hy2]; exact S2.below_new _ _
      have hN : BK 25 y2 bm (gM (⟨m, am, cm⟩ : ME)) := by rw [hy2, hbm]; exact BK.new _ _ _
      have V_y2 : Hid (BK 25 y2 w.heap.size (msgC m am cm)) := Lib.hid (V_y1.out.step hb)
      have B_y2 : Hid (Below w.heap.size w y2) := Lib.hid (stepB B_y1.out hb)
      have Z_y2 : Hid (q ≤ y2.heap.size) := Lib.hid (Nat.le_trans Z_y1.out hb.size)
      clear V_y1 B_y1 Z_y1
      have Xm_y2 := Lib.hid hN
      try rw [← hbm]
      clear hHeld hb hN hy2 hbm
      refine hK.out _ _ ⟨V_y2.out, B_y2.out⟩ (fun hHeld => ?_)
      clear hK K
      try simp only [Act.put, List.setIfInBounds_toArray, List.set_cons_zero, List.set_cons_succ]
      refine wpAnyH_ready (rs := [0, 10]) (by kernel_rfl) (by simp) ?_
      refine (AllReadyH.cons (get_ops _ _ _ rfl) (fun K hK => ?_) (AllReadyH.cons (get_ops _ _ _ rfl) (fun K hK => ?_) AllReadyH.nil))
      · go_simp
        obtain ⟨va, hva⟩ : ∃ v : Value, v = .slice (some ⟨y2.heap.size, 0, none⟩) 0 0 := ⟨_, rfl⟩
        rw [← hva]
        refine name_world (C := fun w9 => K _ w9) (y2.alloc (.cells #[] 25)) ?_
        intro y3 hy3
        have hb : Below y2.heap.size y2 y3 := by rw [hy3]; exact S2.below_new _ _
        have hN : OwnG 25 gM 9 y3 q va [] := by rw [hy3, hva]; exact OwnG.made _ 0 #[] _ Z_y2.out (by decide) rfl
        have HD_a_m : Hid (va.ownBlock ≠ some bm) := Lib.hid (fun e1 => by have := Xm_y2.out.lt; rw [hva] at e1; simp only [Value.ownBlock, Option.some.injEq] at e1; omega)
        have V_y3 : Hid (BK 25 y3 w.heap.size (msgC m am cm)) := Lib.hid (V_y2.out.step hb)
        have B_y3 : Hid (Below w.heap.size w y3) := Lib.hid (stepB B_y2.out hb)
        have Z_y3 : Hid (q ≤ y3.heap.size) := Lib.hid (Nat.le_trans Z_y2.out hb.size)
        have Xm_y3 : Hid (BK 25 y3 bm (gM (⟨m, am, cm⟩ : ME))) := Lib.hid (Xm_y2.out.step hb)
        clear V_y2 B_y2 Z_y2 Xm_y2
        have La_y3 := Lib.hid hN
        clear hHeld hb hN hy3 hva
        refine hK.out _ _ ⟨V_y3.out, B_y3.out⟩ (fun hHeld => ?_)
        clear hK K
        try simp only [Act.put, List.setIfInBounds_toArray, List.set_cons_zero, List.set_cons_succ]
        refine wpAnyH_ready (rs := [3, 10]) (by kernel_rfl) (by simp) ?_
        refine (AllReadyH.cons (get_ops _ _ _ rfl) (fun K hK => ?_) (AllReadyH.cons (get_ops _ _ _ rfl) (fun K hK => ?_) AllReadyH.nil))
        · rw [if_pos (by rfl)]
          have hoy := La_y3.out
          refine oper_appG (g := gM) (k := 9) (e := 25) (by decide) (.tmp 27) (.tmp 29) 22 22 rfl (.agg (msgC Msg.zero none 0).toArray) 112 Try.underlying22 msgInfo rfl (by decide) q va [] ds _ (by go_simp) hoy (by go_simp) (GL.src gM_len gM_one ((HDS.out _ (HS.out.step B_y3.out)).1) Try.underlying22 cd) Z_y3.out (by simp; have := HDB.out; omega) ?_
          intro vb y4 hown hgr hoffs
          have V_y4 : Hid (BK 25 y4 w.heap.size (msgC m am cm)) := Lib.hid (BK.grow V_y3.out hgr (OwnG.off hoy (HQ.out)))
          have B_y4 : Hid (Below w.heap.size w y4) := Lib.hid (Below.grow B_y3.out hoy hgr B_y3.out.size (Nat.le_of_lt HQ.out))
          have Z_y4 : Hid (q ≤ y4.heap.size) := Lib.hid (Nat.le_trans Z_y3.out hgr.size)
          have Xm_y4 : Hid (BK 25 y4 bm (gM (⟨m, am, cm⟩ : ME))) := Lib.hid (BK.grow Xm_y3.out hgr HD_a_m.out)
          have HD_b_m : Hid (vb.ownBlock ≠ some bm) := Lib.hid (hoffs _ Xm_y3.out.lt HD_a_m.out)
          have Lb_y4 : Hid (OwnG 25 gM 9 y4 q vb ([] ++ ds)) := Lib.hid hown
          clear hoy hown hgr hoffs hHeld V_y3 B_y3 Z_y3 Xm_y3 La_y3
          refine hK.out _ _ ⟨V_y4.out, B_y4.out⟩ (fun hHeld => ?_)
          clear hK K
          try simp only [Act.put, List.setIfInBounds_toArray, List.set_cons_zero, List.set_cons_succ]
          refine wpAnyH_ready (rs := [6, 10]) (by kernel_rfl) (by simp) ?_
          refine (AllReadyH.cons (get_ops _ _ _ rfl) (fun K hK => ?_) (AllReadyH.cons (get_ops _ _ _ rfl) (fun K hK => ?_) AllReadyH.nil))
          · rw [if_pos (by rfl)]
            have hoy := Lb_y4.out
            refine oper_appG (g := gM) (k := 9) (e := 25) (by decide) (.tmp 30) (.tmp 32) 22 22 rfl (.agg (msgC Msg.zero none 0).toArray) 112 Try.underlying22 msgInfo rfl (by decide) q vb ([] ++ ds) [(⟨m, am, cm⟩ : ME)] _ (by go_simp) hoy (by go_simp) (src_blk gM_len gM_one Try.underlying22 Xm_y4.out) Z_y4.out (by simp; have := HDB.out; omega) ?_
            intro vc y5 hown hgr hoffs
            have V_y5 : Hid (BK 25 y5 w.heap.size (msgC m am cm)) := Lib.hid (BK.grow V_y4.out hgr (OwnG.off hoy (HQ.out)))
            have B_y5 : Hid (Below w.heap.size w y5) := Lib.hid (Below.grow B_y4.out hoy hgr B_y4.out.size (Nat.le_of_lt HQ.out))
            have Z_y5 : Hid (q ≤ y5.heap.size) := Lib.hid (Nat.le_trans Z_y4.out hgr.size)
            have Xm_y5 : Hid (BK 25 y5 bm (gM (⟨m, am, cm⟩ : ME))) := Lib.hid (BK.grow Xm_y4.out hgr HD_b_m.out)
            have HD_c_m : Hid (vc.ownBlock ≠ some bm) := Lib.hid (hoffs _ Xm_y4.out.lt HD_b_m.out)
            have Lc_y5 : Hid (OwnG 25 gM 9 y5 q vc (([] ++ ds) ++ [(⟨m, am, cm⟩ : ME)])) := Lib.hid hown
            clear hoy hown hgr hoffs hHeld V_y4 B_y4 Z_y4 Xm_y4 Lb_y4
            refine hK.out _ _ ⟨V_y5.out, B_y5.out⟩ (fun hHeld => ?_)
            clear hK K
            try simp only [Act.put, List.setIfInBounds_toArray, List.set_cons_zero, List.set_cons_succ]
            refine wpAnyH_take (i := 11) (v := vc) (get_ops _ _ _ rfl) (by kernel_rfl) (by kernel_rfl) (by kernel_rfl) (fun _ _ _ h => h) (Or.inl ⟨by rfl, fun wS hSw => by (try dsimp only at hSw); go_simp⟩) hHeld ?_
            try simp only [Act.put, List.setIfInBounds_toArray, List.set_cons_zero, List.set_cons_succ]
            refine wpAnyH_ready (rs := [10]) (by kernel_rfl) (by simp) ?_
            refine (AllReadyH.cons (get_ops _ _ _ rfl) (fun K hK => ?_) AllReadyH.nil)
            (try simp only [msgV]); go_simp
            obtain ⟨by_, hby_⟩ : ∃ n, n = y5.heap.size := ⟨_, rfl⟩
            refine name_world (C := fun w9 => K _ w9) (y5.alloc (.cells (gM x0).toArray 25)) ?_
            intro y6 hy6
            have hb : Below y5.heap.size y5 y6 := by rw [hy6]; exact S2.below_new _ _
            have hN : BK 25 y6 by_ (gM x0) := by rw [hy6, hby_]; exact BK.new _ _ _
            have HD_c_y : Hid (vc.ownBlock ≠ some by_) := Lib.hid (OwnG.high Lc_y5.out (by omega))
            have V_y6 : Hid (BK 25 y6 w.heap.size (msgC m am cm)) := Lib.hid (V_y5.out.step hb)
            have B_y6 : Hid (Below w.heap.size w y6) := Lib.hid (stepB B_y5.out hb)
            have Z_y6 : Hid (q ≤ y6.heap.size) := Lib.hid (Nat.le_trans Z_y5.out hb.size)
            have Xm_y6 : Hid (BK 25 y6 bm (gM (⟨m, am, cm⟩ : ME))) := Lib.hid (Xm_y5.out.step hb)
            have Lc_y6 : Hid (OwnG 25 gM 9 y6 q vc (([] ++ ds) ++ [(⟨m, am, cm⟩ : ME)])) := Lib.hid (OwnG.step Lc_y5.out hb)
            clear V_y5 B_y5 Z_y5 Xm_y5 Lc_y5
            have Xy_y6 := Lib.hid hN
            try rw [← hby_]
            clear hHeld hb hN hy6 hby_
            refine hK.out _ _ ⟨V_y6.out, B_y6.out⟩ (fun hHeld => ?_)
            clear hK K
            try simp only [Act.put, List.setIfInBounds_toArray, List.set_cons_zero, List.set_cons_succ]
            refine wpAnyH_take (i := 12) (v := .slice (some ⟨by_, 0, none⟩) 1 1) (get_ops _ _ _ rfl) (by kernel_rfl) (by kernel_rfl) (by kernel_rfl) (fun _ _ _ h => h) (Or.inl ⟨by rfl, fun wS hSw => by (try dsimp only at hSw); go_simp⟩) hHeld ?_
            try simp only [Act.put, List.setIfInBounds_toArray, List.set_cons_zero, List.set_cons_succ]
            refine wpAnyH_take (i := 13) (v := .bool false) (get_ops _ _ _ rfl) (by kernel_rfl) (by kernel_rfl) (by kernel_rfl) (fun _ _ _ h => h) (Or.inl ⟨by rfl, fun wS hSw => by (try dsimp only at hSw); go_simp⟩) hHeld ?_
            try simp only [Act.put, List.setIfInBounds_toArray, List.set_cons_zero, List.set_cons_succ]
            refine wpAnyH_done (by kernel_rfl) ?_ _
            obtain ⟨A2, c2, hv2, hc2, hgl2⟩ := OwnG.ret gM_len Lc_y6.out
            subst hv2
            go_wp2_with fail
            go_ret3
            exact ⟨A2, c2, ds ++ [⟨m, am, cm⟩], some ⟨by_, 0, none⟩, 1, [x0], by rw [← HR.out]; simp, by rw [← HR.out, ← HDM.out]; simp, by rw [← HR.out, HX0.out]; rfl, by simpa using hc2, by simp, push_msgs (by simpa using hgl2) (HDS.out _ (HS.out.step B_y6.out)).2 (GL.step HM.out B_y6.out), mi_one Xy_y6.out (GL.step HPX.out B_y6.out), B_y6.out⟩
          · (try simp only [msgV]); go_simp
            obtain ⟨by_, hby_⟩ : ∃ n, n = y4.heap.size := ⟨_, rfl⟩
            refine name_world (C := fun w9 => K _ w9) (y4.alloc (.cells (gM x0).toArray 25)) ?_
            intro y5 hy5
            have hb : Below y4.heap.size y4 y5 := by rw [hy5]; exact S2.below_new _ _
            have hN : BK 25 y5 by_ (gM x0) := by rw [hy5, hby_]; exact BK.new _ _ _
            have HD_b_y : Hid (vb.ownBlock ≠ some by_) := Lib.hid (OwnG.high Lb_y4.out (by omega))
            have V_y5 : Hid (BK 25 y5 w.heap.size (msgC m am cm)) := Lib.hid (V_y4.out.step hb)
            have B_y5 : Hid (Below w.heap.size w y5) := Lib.hid (stepB B_y4.out hb)
            have Z_y5 : Hid (q ≤ y5.heap.size) := Lib.hid (Nat.le_trans Z_y4.out hb.size)
            have Xm_y5 : Hid (BK 25 y5 bm (gM (⟨m, am, cm⟩ : ME))) := Lib.hid (Xm_y4.out.step hb)
            have Lb_y5 : Hid (OwnG 25 gM 9 y5 q vb ([] ++ ds)) := Lib.hid (OwnG.step Lb_y4.out hb)
            clear V_y4 B_y4 Z_y4 Xm_y4 Lb_y4
            have Xy_y5 := Lib.hid hN
            try rw [← hby_]
            clear hHeld hb hN hy5 hby_
            refine hK.out _ _ ⟨V_y5.out, B_y5.out⟩ (fun hHeld => ?_)
            clear hK K
            try simp only [Act.put, List.setIfInBounds_toArray, List.set_cons_zero, List.set_cons_succ]
            refine wpAnyH_ready (rs := [6]) (by kernel_rfl) (by simp) ?_
            refine (AllReadyH.cons (get_ops _ _ _ rfl) (fun K hK => ?_) AllReadyH.nil)
            rw [if_pos (by rfl)]
            have hoy := Lb_y5.out
            refine oper_appG (g := gM) (k := 9) (e := 25) (by decide) (.tmp 30) (.tmp 32) 22 22 rfl (.agg (msgC Msg.zero none 0).toArray) 112 Try.underlying22 msgInfo rfl (by decide) q vb ([] ++ ds) [(⟨m, am, cm⟩ : ME)] _ (by go_simp) hoy (by go_simp) (src_blk gM_len gM_one Try.underlying22 Xm_y5.out) Z_y5.out (by simp; have := HDB.out; omega) ?_
            intro vc y6 hown hgr hoffs
            have V_y6 : Hid (BK 25 y6 w.heap.size (msgC m am cm)) := Lib.hid (BK.grow V_y5.out hgr (OwnG.off hoy (HQ.out)))
            have B_y6 : Hid (Below w.heap.size w y6) := Lib.hid (Below.grow B_y5.out hoy hgr B_y5.out.size (Nat.le_of_lt HQ.out))
            have Z_y6 : Hid (q ≤ y6.heap.size) := Lib.hid (Nat.le_trans Z_y5.out hgr.size)
            have Xm_y6 : Hid (BK 25 y6 bm (gM (⟨m, am, cm⟩ : ME))) := Lib.hid (BK.grow Xm_y5.out hgr HD_b_m.out)
            have Xy_y6 : Hid (BK 25 y6 by_ (gM x0)) := Lib.hid (BK.grow Xy_y5.out hgr HD_b_y.out)
            have HD_c_m : Hid (vc.ownBlock ≠ some bm) := Lib.hid (hoffs _ Xm_y5.out.lt HD_b_m.out)
            have HD_c_y : Hid (vc.ownBlock ≠ some by_) := Lib.hid (hoffs _ Xy_y5.out.lt HD_b_y.out)
            have Lc_y6 : Hid (OwnG 25 gM 9 y6 q vc (([] ++ ds) ++ [(⟨m, am, cm⟩ : ME)])) := Lib.hid hown
            clear hoy hown hgr hoffs hHeld V_y5 B_y5 Z_y5 Xm_y5 Lb_y5 Xy_y5
            refine hK.out _ _ ⟨V_y6.out, B_y6.out⟩ (fun hHeld => ?_)
            clear hK K
            try simp only [Act.put, List.setIfInBounds_toArray, List.set_cons_zero, List.set_cons_succ]
            refine wpAnyH_take (i := 11) (v := vc) (get_ops _ _ _ rfl) (by kernel_rfl) (by kernel_rfl) (by kernel_rfl) (fun _ _ _ h => h) (Or.inl ⟨by rfl, fun wS hSw => by (try dsimp only at hSw); go_simp⟩) hHeld ?_
            try simp only [Act.put, List.setIfInBounds_toArray, List.set_cons_zero, List.set_cons_succ]
            refine wpAnyH_take (i := 12) (v := .slice (some ⟨by_, 0, none⟩) 1 1) (get_ops _ _ _ rfl) (by kernel_rfl) (by kernel_rfl) (by kernel_rfl) (fun _ _ _ h => h) (Or.inl ⟨by rfl, fun wS hSw => by (try dsimp only at hSw); go_simp⟩) hHeld ?_
            try simp only [Act.put, List.setIfInBounds_toArray, List.set_cons_zero, List.set_cons_succ]
            refine wpAnyH_take (i := 13) (v := .bool false) (get_ops _ _ _ rfl) (by kernel_rfl) (by kernel_rfl) (by kernel_rfl) (fun _ _ _ h => h) (Or.inl ⟨by rfl, fun wS hSw => by (try dsimp only at hSw); go_simp⟩) hHeld ?_
            try simp only [Act.put, List.setIfInBounds_toArray, List.set_cons_zero, List.set_cons_succ]
            refine wpAnyH_done (by kernel_rfl) ?_ _
            obtain ⟨A2, c2, hv2, hc2, hgl2⟩ := OwnG.ret gM_len Lc_y6.out
            subst hv2
            go_wp2_with fail
            go_ret3
            exact ⟨A2, c2, ds ++ [⟨m, am, cm⟩], some ⟨by_, 0, none⟩, 1, [x0], by rw [← HR.out]; simp, by rw [← HR.out, ← HDM.out]; simp, by rw [← HR.out, HX0.out]; rfl, by simpa using hc2, by simp, push_msgs (by simpa using hgl2) (HDS.out _ (HS.out.step B_y6.out)).2 (GL.step HM.out B_y6.out), mi_one Xy_y6.out (GL.step HPX.out B_y6.out), B_y6.out⟩
        · (try simp only [msgV]); go_simp
          obtain ⟨by_, hby_⟩ : ∃ n, n = y3.heap.size := ⟨_, rfl⟩
          refine name_world (C := fun w9 => K _ w9) (y3.alloc (.cells (gM x0).toArray 25)) ?_
          intro y4 hy4
          have hb : Below y3.heap.size y3 y4 := by rw [hy4]; exact S2.below_new _ _
          have hN : BK 25 y4 by_ (gM x0) := by rw [hy4, hby_]; exact BK.new _ _ _
          have HD_a_y : Hid (va.ownBlock ≠ some by_) := Lib.hid (OwnG.high La_y3.out (by omega))
          have V_y4 : Hid (BK 25 y4 w.heap.size (msgC m am cm)) := Lib.hid (V_y3.out.step hb)
          have B_y4 : Hid (Below w.heap.size w y4) := Lib.hid (stepB B_y3.out hb)
          have Z_y4 : Hid (q ≤ y4.heap.size) := Lib.hid (Nat.le_trans Z_y3.out hb.size)
          have Xm_y4 : Hid (BK 25 y4 bm (gM (⟨m, am, cm⟩ : ME))) := Lib.hid (Xm_y3.out.step hb)
          have La_y4 : Hid (OwnG 25 gM 9 y4 q va []) := Lib.hid (OwnG.step La_y3.out hb)
          clear V_y3 B_y3 Z_y3 Xm_y3 La_y3
          have Xy_y4 := Lib.hid hN
          try rw [← hby_]
          clear hHeld hb hN hy4 hby_
          refine hK.out _ _ ⟨V_y4.out, B_y4.out⟩ (fun hHeld => ?_)
          clear hK K
          try simp only [Act.put, List.setIfInBounds_toArray, List.set_cons_zero, List.set_cons_succ]
          refine wpAnyH_ready (rs := [3]) (by kernel_rfl) (by simp) ?_
          refine (AllReadyH.cons (get_ops _ _ _ rfl) (fun K hK => ?_) AllReadyH.nil)
          rw [if_pos (by rfl)]
          have hoy := La_y4.out
          refine oper_appG (g := gM) (k := 9) (e := 25) (by decide) (.tmp 27) (.tmp 29) 22 22 rfl (.agg (msgC Msg.zero none 0).toArray) 112 Try.underlying22 msgInfo rfl (by decide) q va [] ds _ (by go_simp) hoy (by go_simp) (GL.src gM_len gM_one ((HDS.out _ (HS.out.step B_y4.out)).1) Try.underlying22 cd) Z_y4.out (by simp; have := HDB.out; omega) ?_
          intro vb y5 hown hgr hoffs
          have V_y5 : Hid (BK 25 y5 w.heap.size (msgC m am cm)) := Lib.hid (BK.grow V_y4.out hgr (OwnG.off hoy (HQ.out)))
          have B_y5 : Hid (Below w.heap.size w y5) := Lib.hid (Below.grow B_y4.out hoy hgr B_y4.out.size (Nat.le_of_lt HQ.out))
          have Z_y5 : Hid (q ≤ y5.heap.size) := Lib.hid (Nat.le_trans Z_y4.out hgr.size)
          have Xm_y5 : Hid (BK 25 y5 bm (gM (⟨m, am, cm⟩ : ME))) := Lib.hid (BK.grow Xm_y4.out hgr HD_a_m.out)
          have Xy_y5 : Hid (BK 25 y5 by_ (gM x0)) := Lib.hid (BK.grow Xy_y4.out hgr HD_a_y.out)
          have HD_b_m : Hid (vb.ownBlock ≠ some bm) := Lib.hid (hoffs _ Xm_y4.out.lt HD_a_m.out)
          have HD_b_y : Hid (vb.ownBlock ≠ some by_) := Lib.hid (hoffs _ Xy_y4.out.lt HD_a_y.out)
          have Lb_y5 : Hid (OwnG 25 gM 9 y5 q vb ([] ++ ds)) := Lib.hid hown
          clear hoy hown hgr hoffs hHeld V_y4 B_y4 Z_y4 Xm_y4 La_y4 Xy_y4
          refine hK.out _ _ ⟨V_y5.out, B_y5.out⟩ (fun hHeld => ?_)
          clear hK K
          try simp only [Act.put, List.setIfInBounds_toArray, List.set_cons_zero, List.set_cons_succ]
          refine wpAnyH_ready (rs := [6]) (by kernel_rfl) (by simp) ?_
          refine (AllReadyH.cons (get_ops _ _ _ rfl) (fun K hK => ?_) AllReadyH.nil)
          rw [if_pos (by rfl)]
          have hoy := Lb_y5.out
          refine oper_appG (g := gM) (k := 9) (e := 25) (by decide) (.tmp 30) (.tmp 32) 22 22 rfl (.agg (msgC Msg.zero none 0).toArray) 112 Try.underlying22 msgInfo rfl (by decide) q vb ([] ++ ds) [(⟨m, am, cm⟩ : ME)] _ (by go_simp) hoy (by go_simp) (src_blk gM_len gM_one Try.underlying22 Xm_y5.out) Z_y5.out (by simp; have := HDB.out; omega) ?_
          intro vc y6 hown hgr hoffs
          have V_y6 : Hid (BK 25 y6 w.heap.size (msgC m am cm)) := Lib.hid (BK.grow V_y5.out hgr (OwnG.off hoy (HQ.out)))
          have B_y6 : Hid (Below w.heap.size w y6) := Lib.hid (Below.grow B_y5.out hoy hgr B_y5.out.size (Nat.le_of_lt HQ.out))
          have Z_y6 : Hid (q ≤ y6.heap.size) := Lib.hid (Nat.le_trans Z_y5.out hgr.size)
          have Xm_y6 : Hid (BK 25 y6 bm (gM (⟨m, am, cm⟩ : ME))) := Lib.hid (BK.grow Xm_y5.out hgr HD_b_m.out)
          have Xy_y6 : Hid (BK 25 y6 by_ (gM x0)) := Lib.hid (BK.grow Xy_y5.out hgr HD_b_y.out)
          have HD_c_m : Hid (vc.ownBlock ≠ some bm) := Lib.hid (hoffs _ Xm_y5.out.lt HD_b_m.out)
          have HD_c_y : Hid (vc.ownBlock ≠ some by_) := Lib.hid (hoffs _ Xy_y5.out.lt HD_b_y.out)
          have Lc_y6 : Hid (OwnG 25 gM 9 y6 q vc (([] ++ ds) ++ [(⟨m, am, cm⟩ : ME)])) := Lib.hid hown
          clear hoy hown hgr hoffs hHeld V_y5 B_y5 Z_y5 Xm_y5 Xy_y5 Lb_y5
          refine hK.out _ _ ⟨V_y6.out, B_y6.out⟩ (fun hHeld => ?_)
          clear hK K
          try simp only [Act.put, List.setIfInBounds_toArray, List.set_cons_zero, List.set_cons_succ]
          refine wpAnyH_take (i := 11) (v := vc) (get_ops _ _ _ rfl) (by kernel_rfl) (by kernel_rfl) (by kernel_rfl) (fun _ _ _ h => h) (Or.inl ⟨by rfl, fun wS hSw => by (try dsimp only at hSw); go_simp⟩) hHeld ?_
          try simp only [Act.put, List.setIfInBounds_toArray, List.set_cons_zero, List.set_cons_succ]
          refine wpAnyH_take (i := 12) (v := .slice (some ⟨by_, 0, none⟩) 1 1) (get_ops _ _ _ rfl) (by kernel_rfl) (by kernel_rfl) (by kernel_rfl) (fun _ _ _ h => h) (Or.inl ⟨by rfl, fun wS hSw => by (try dsimp only at hSw); go_simp⟩) hHeld ?_
          try simp only [Act.put, List.setIfInBounds_toArray, List.set_cons_zero, List.set_cons_succ]
          refine wpAnyH_take (i := 13) (v := .bool false) (get_ops _ _ _ rfl) (by kernel_rfl) (by kernel_rfl) (by kernel_rfl) (fun _ _ _ h => h) (Or.inl ⟨by rfl, fun wS hSw => by (try dsimp only at hSw); go_simp⟩) hHeld ?_
          try simp only [Act.put, List.setIfInBounds_toArray, List.set_cons_zero, List.set_cons_succ]
          refine wpAnyH_done (by kernel_rfl) ?_ _
          obtain ⟨A2, c2, hv2, hc2, hgl2⟩ := OwnG.ret gM_len Lc_y6.out
          subst hv2
          go_wp2_with fail
          go_ret3
          exact ⟨A2, c2, ds ++ [⟨m, am, cm⟩], some ⟨by_, 0, none⟩, 1, [x0], by rw [← HR.out]; simp, by rw [← HR.out, ← HDM.out]; simp, by rw [← HR.out, HX0.out]; rfl, by simpa using hc2, by simp, push_msgs (by simpa using hgl2) (HDS.out _ (HS.out.step B_y6.out)).2 (GL.step HM.out B_y6.out), mi_one Xy_y6.out (GL.step HPX.out B_y6.out), B_y6.out⟩
      · (try simp only [msgV]); go_simp
        obtain ⟨by_, hby_⟩ : ∃ n, n = y2.heap.size := ⟨_, rfl⟩
        refine name_world (C := fun w9 => K _ w9) (y2.alloc (.cells (gM x0).toArray 25)) ?_
        intro y3 hy3
        have hb : Below y2.heap.size y2 y3 := by rw [hy3]; exact S2.below_new _ _
        have hN : BK 25 y3 by_ (gM x0) := by rw [hy3, hby_]; exact BK.new _ _ _
        have V_y3 : Hid (BK 25 y3 w.heap.size (msgC m am cm)) := Lib.hid (V_y2.out.step hb)
        have B_y3 : Hid (Below w.heap.size w y3) := Lib.hid (stepB B_y2.out hb)
        have Z_y3 : Hid (q ≤ y3.heap.size) := Lib.hid (Nat.le_trans Z_y2.out hb.size)
        have Xm_y3 : Hid (BK 25 y3 bm (gM (⟨m, am, cm⟩ : ME))) := Lib.hid (Xm_y2.out.step hb)
        clear V_y2 B_y2 Z_y2 Xm_y2
        have Xy_y3 := Lib.hid hN
        try rw [← hby_]
        clear hHeld hb hN hy3 hby_
        refine hK.out _ _ ⟨V_y3.out, B_y3.out⟩ (fun hHeld => ?_)
        clear hK K
        try simp only [Act.put, List.setIfInBounds_toArray, List.set_cons_zero, List.set_cons_succ]
        refine wpAnyH_ready (rs := [0]) (by kernel_rfl) (by simp) ?_
        refine (AllReadyH.cons (get_ops _ _ _ rfl) (fun K hK => ?_) AllReadyH.nil)
        go_simp
        obtain ⟨va, hva⟩ : ∃ v : Value, v = .slice (some ⟨y3.heap.size, 0, none⟩) 0 0 := ⟨_, rfl⟩
        rw [← hva]
        refine name_world (C := fun w9 => K _ w9) (y3.alloc (.cells #[] 25)) ?_
        intro y4 hy4
        have hb : Below y3.heap.size y3 y4 := by rw [hy4]; exact S2.below_new _ _
        have hN : OwnG 25 gM 9 y4 q va [] := by rw [hy4, hva]; exact OwnG.made _ 0 #[] _ Z_y3.out (by decide) rfl
        have HD_a_m : Hid (va.ownBlock ≠ some bm) := Lib.hid (fun e1 => by have := Xm_y3.out.lt; rw [hva] at e1; simp only [Value.ownBlock, Option.some.injEq] at e1; omega)
        have HD_a_y : Hid (va.ownBlock ≠ some by_) := Lib.hid (fun e1 => by have := Xy_y3.out.lt; rw [hva] at e1; simp only [Value.ownBlock, Option.some.injEq] at e1; omega)
        have V_y4 : Hid (BK 25 y4 w.heap.size (msgC m am cm)) := Lib.hid (V_y3.out.step hb)
        have B_y4 : Hid (Below w.heap.size w y4) := Lib.hid (stepB B_y3.out hb)
        have Z_y4 : Hid (q ≤ y4.heap.size) := Lib.hid (Nat.le_trans Z_y3.out hb.size)
        have Xm_y4 : Hid (BK 25 y4 bm (gM (⟨m, am, cm⟩ : ME))) := Lib.hid (Xm_y3.out.step hb)
        have Xy_y4 : Hid (BK 25 y4 by_ (gM x0)) := Lib.hid (Xy_y3.out.step hb)
        clear V_y3 B_y3 Z_y3 Xm_y3 Xy_y3
        have La_y4 := Lib.hid hN
        clear hHeld hb hN hy4 hva
        refine hK.out _ _ ⟨V_y4.out, B_y4.out⟩ (fun hHeld => ?_)
        clear hK K
        try simp only [Act.put, List.setIfInBounds_toArray, List.set_cons_zero, List.set_cons_succ]
        refine wpAnyH_ready (rs := [3]) (by kernel_rfl) (by simp) ?_
        refine (AllReadyH.cons (get_ops _ _ _ rfl) (fun K hK => ?_) AllReadyH.nil)
        rw [if_pos (by rfl)]
        have hoy := La_y4.out
        refine oper_appG (g := gM) (k := 9) (e := 25) (by decide) (.tmp 27) (.tmp 29) 22 22 rfl (.agg (msgC Msg.zero none 0).toArray) 112 Try.underlying22 msgInfo rfl (by decide) q va [] ds _ (by go_simp) hoy (by go_simp) (GL.src gM_len gM_one ((HDS.out _ (HS.out.step B_y4.out)).1) Try.underlying22 cd) Z_y4.out (by simp; have := HDB.out; omega) ?_
        intro vb y5 hown hgr hoffs
        have V_y5 : Hid (BK 25 y5 w.heap.size (msgC m am cm)) := Lib.hid (BK.grow V_y4.out hgr (OwnG.off hoy (HQ.out)))
        have B_y5 : Hid (Below w.heap.size w y5) := Lib.hid (Below.grow B_y4.out hoy hgr B_y4.out.size (Nat.le_of_lt HQ.out))
        have Z_y5 : Hid (q ≤ y5.heap.size) := Lib.hid (Nat.le_trans Z_y4.out hgr.size)
        have Xm_y5 : Hid (BK 25 y5 bm (gM (⟨m, am, cm⟩ : ME))) := Lib.hid (BK.grow Xm_y4.out hgr HD_a_m.out)
        have Xy_y5 : Hid (BK 25 y5 by_ (gM x0)) := Lib.hid (BK.grow Xy_y4.out hgr HD_a_y.out)
        have HD_b_m : Hid (vb.ownBlock ≠ some bm) := Lib.hid (hoffs _ Xm_y4.out.lt HD_a_m.out)
        have HD_b_y : Hid (vb.ownBlock ≠ some by_) := Lib.hid (hoffs _ Xy_y4.out.lt HD_a_y.out)
        have Lb_y5 : Hid (OwnG 25 gM 9 y5 q vb ([] ++ ds)) := Lib.hid hown
        clear hoy hown hgr hoffs hHeld V_y4 B_y4 Z_y4 Xm_y4 Xy_y4 La_y4
        refine hK.out _ _ ⟨V_y5.out, B_y5.out⟩ (fun hHeld => ?_)
        clear hK K
        try simp only [Act.put, List.setIfInBounds_toArray, List.set_cons_zero, List.set_cons_succ]
        refine wpAnyH_ready (rs := [6]) (by kernel_rfl) (by simp) ?_
        refine (AllReadyH.cons (get_ops _ _ _ rfl) (fun K hK => ?_) AllReadyH.nil)
        rw [if_pos (by rfl)]
        have hoy := Lb_y5.out
        refine oper_appG (g := gM) (k := 9) (e := 25) (by decide) (.tmp 30) (.tmp 32) 22 22 rfl (.agg (msgC Msg.zero none 0).toArray) 112 Try.underlying22 msgInfo rfl (by decide) q vb ([] ++ ds) [(⟨m, am, cm⟩ : ME)] _ (by go_simp) hoy (by go_simp) (src_blk gM_len gM_one Try.underlying22 Xm_y5.out) Z_y5.out (by simp; have := HDB.out; omega) ?_
        intro vc y6 hown hgr hoffs
        have V_y6 : Hid (BK 25 y6 w.heap.size (msgC m am cm)) := Lib.hid (BK.grow V_y5.out hgr (OwnG.off hoy (HQ.out)))
        have B_y6 : Hid (Below w.heap.size w y6) := Lib.hid (Below.grow B_y5.out hoy hgr B_y5.out.size (Nat.le_of_lt HQ.out))
        have Z_y6 : Hid (q ≤ y6.heap.size) := Lib.hid (Nat.le_trans Z_y5.out hgr.size)
        have Xm_y6 : Hid (BK 25 y6 bm (gM (⟨m, am, cm⟩ : ME))) := Lib.hid (BK.grow Xm_y5.out hgr HD_b_m.out)
        have Xy_y6 : Hid (BK 25 y6 by_ (gM x0)) := Lib.hid (BK.grow Xy_y5.out hgr HD_b_y.out)
        have HD_c_m : Hid (vc.ownBlock ≠ some bm) := Lib.hid (hoffs _ Xm_y5.out.lt HD_b_m.out)
        have HD_c_y : Hid (vc.ownBlock ≠ some by_) := Lib.hid (hoffs _ Xy_y5.out.lt HD_b_y.out)
        have Lc_y6 : Hid (OwnG 25 gM 9 y6 q vc (([] ++ ds) ++ [(⟨m, am, cm⟩ : ME)])) := Lib.hid hown
        clear hoy hown hgr hoffs hHeld V_y5 B_y5 Z_y5 Xm_y5 Xy_y5 Lb_y5
        refine hK.out _ _ ⟨V_y6.out, B_y6.out⟩ (fun hHeld => ?_)
        clear hK K
        try simp only [Act.put, List.setIfInBounds_toArray, List.set_cons_zero, List.set_cons_succ]
        refine wpAnyH_take (i := 11) (v := vc) (get_ops _ _ _ rfl) (by kernel_rfl) (by kernel_rfl) (by kernel_rfl) (fun _ _ _ h => h) (Or.inl ⟨by rfl, fun wS hSw => by (try dsimp only at hSw); go_simp⟩) hHeld ?_
        try simp only [Act.put, List.setIfInBounds_toArray, List.set_cons_zero, List.set_cons_succ]
        refine wpAnyH_take (i := 12) (v := .slice (some ⟨by_, 0, none⟩) 1 1) (get_ops _ _ _ rfl) (by kernel_rfl) (by kernel_rfl) (by kernel_rfl) (fun _ _ _ h => h) (Or.inl ⟨by rfl, fun wS hSw => by (try dsimp only at hSw); go_simp⟩) hHeld ?_
        try simp only [Act.put, List.setIfInBounds_toArray, List.set_cons_zero, List.set_cons_succ]
        refine wpAnyH_take (i := 13) (v := .bool false) (get_ops _ _ _ rfl) (by kernel_rfl) (by kernel_rfl) (by kernel_rfl) (fun _ _ _ h => h) (Or.inl ⟨by rfl, fun wS hSw => by (try dsimp only at hSw); go_simp⟩) hHeld ?_
        try simp only [Act.put, List.setIfInBounds_toArray, List.set_cons_zero, List.set_cons_succ]
        refine wpAnyH_done (by kernel_rfl) ?_ _
        obtain ⟨A2, c2, hv2, hc2, hgl2⟩ := OwnG.ret gM_len Lc_y6.out
        subst hv2
        go_wp2_with fail
        go_ret3
        exact ⟨A2, c2, ds ++ [⟨m, am, cm⟩], some ⟨by_, 0, none⟩, 1, [x0], by rw [← HR.out]; simp, by rw [← HR.out, ← HDM.out]; simp, by rw [← HR.out, HX0.out]; rfl, by simpa using hc2, by simp, push_msgs (by simpa using hgl2) (HDS.out _ (HS.out.step B_y6.out)).2 (GL.step HM.out B_y6.out), mi_one Xy_y6.out (GL.step HPX.out B_y6.out), B_y6.out⟩
    · (try simp only [msgV]); go_simp
      obtain ⟨by_, hby_⟩ : ∃ n, n = y1.heap.size := ⟨_, rfl⟩
      refine name_world (C := fun w9 => K _ w9) (y1.alloc (.cells (gM x0).toArray 25)) ?_
      intro y2 hy2
      have hb : Below y1.heap.size y1 y2 := by rw [hy2]; exact S2.below_new _ _
      have hN : BK 25 y2 by_ (gM x0) := by rw [hy2, hby_]; exact BK.new _ _ _
      have V_y2 : Hid (BK 25 y2 w.heap.size (msgC m am cm)) := Lib.hid (V_y1.out.step hb)
      have B_y2 : Hid (Below w.heap.size w y2) := Lib.hid (stepB B_y1.out hb)
      have Z_y2 : Hid (q ≤ y2.heap.size) := Lib.hid (Nat.le_trans Z_y1.out hb.size)
      clear V_y1 B_y1 Z_y1
      have Xy_y2 := Lib.hid hN
      try rw [← hby_]
      clear hHeld hb hN hy2 hby_
      refine hK.out _ _ ⟨V_y2.out, B_y2.out⟩ (fun hHeld => ?_)
      clear hK K
      try simp only [Act.put, List.setIfInBounds_toArray, List.set_cons_zero, List.set_cons_succ]
      refine wpAnyH_ready (rs := [0, 5]) (by kernel_rfl) (by simp) ?_
      refine (AllReadyH.cons (get_ops _ _ _ rfl) (fun K hK => ?_) (AllReadyH.cons (get_ops _ _ _ rfl) (fun K hK => ?_) AllReadyH.nil))
      · go_simp
        obtain ⟨va, hva⟩ : ∃ v : Value, v = .slice (some ⟨y2.heap.size, 0, none⟩) 0 0 := ⟨_, rfl⟩
        rw [← hva]
        refine name_world (C := fun w9 => K _ w9) (y2.alloc (.cells #[] 25)) ?_
        intro y3 hy3
        have hb : Below y2.heap.size y2 y3 := by rw [hy3]; exact S2.below_new _ _
        have hN : OwnG 25 gM 9 y3 q va [] := by rw [hy3, hva]; exact OwnG.made _ 0 #[] _ Z_y2.out (by decide) rfl
        have HD_a_y : Hid (va.ownBlock ≠ some by_) := Lib.hid (fun e1 => by have := Xy_y2.out.lt; rw [hva] at e1; simp only [Value.ownBlock, Option.some.injEq] at e1; omega)
        have V_y3 : Hid (BK 25 y3 w.heap.size (msgC m am cm)) := Lib.hid (V_y2.out.step hb)
        have B_y3 : Hid (Below w.heap.size w y3) := Lib.hid (stepB B_y2.out hb)
        have Z_y3 : Hid (q ≤ y3.heap.size) := Lib.hid (Nat.le_trans Z_y2.out hb.size)
        have Xy_y3 : Hid (BK 25 y3 by_ (gM x0)) := Lib.hid (Xy_y2.out.step hb)
        clear V_y2 B_y2 Z_y2 Xy_y2
        have La_y3 := Lib.hid hN
        clear hHeld hb hN hy3 hva
        refine hK.out _ _ ⟨V_y3.out, B_y3.out⟩ (fun hHeld => ?_)
        clear hK K
        try simp only [Act.put, List.setIfInBounds_toArray, List.set_cons_zero, List.set_cons_succ]
        refine wpAnyH_ready (rs := [3, 5]) (by kernel_rfl) (by simp) ?_
        refine (AllReadyH.cons (get_ops _ _ _ rfl) (fun K hK => ?_) (AllReadyH.cons (get_ops _ _ _ rfl) (fun K hK => ?_) AllReadyH.nil))
        · rw [if_pos (by rfl)]
          have hoy := La_y3.out
          refine oper_appG (g := gM) (k := 9) (e := 25) (by decide) (.tmp 27) (.tmp 29) 22 22 rfl (.agg (msgC Msg.zero none 0).toArray) 112 Try.underlying22 msgInfo rfl (by decide) q va [] ds _ (by go_simp) hoy (by go_simp) (GL.src gM_len gM_one ((HDS.out _ (HS.out.step B_y3.out)).1) Try.underlying22 cd) Z_y3.out (by simp; have := HDB.out; omega) ?_
          intro vb y4 hown hgr hoffs
          have V_y4 : Hid (BK 25 y4 w.heap.size (msgC m am cm)) := Lib.hid (BK.grow V_y3.out hgr (OwnG.off hoy (HQ.out)))
          have B_y4 : Hid (Below w.heap.size w y4) := Lib.hid (Below.grow B_y3.out hoy hgr B_y3.out.size (Nat.le_of_lt HQ.out))
          have Z_y4 : Hid (q ≤ y4.heap.size) := Lib.hid (Nat.le_trans Z_y3.out hgr.size)
          have Xy_y4 : Hid (BK 25 y4 by_ (gM x0)) := Lib.hid (BK.grow Xy_y3.out hgr HD_a_y.out)
          have HD_b_y : Hid (vb.ownBlock ≠ some by_) := Lib.hid (hoffs _ Xy_y3.out.lt HD_a_y.out)
          have Lb_y4 : Hid (OwnG 25 gM 9 y4 q vb ([] ++ ds)) := Lib.hid hown
          clear hoy hown hgr hoffs hHeld V_y3 B_y3 Z_y3 Xy_y3 La_y3
          refine hK.out _ _ ⟨V_y4.out, B_y4.out⟩ (fun hHeld => ?_)
          clear hK K
          try simp only [Act.put, List.setIfInBounds_toArray, List.set_cons_zero, List.set_cons_succ]
          refine wpAnyH_ready (rs := [5]) (by kernel_rfl) (by simp) ?_
          refine (AllReadyH.cons (get_ops _ _ _ rfl) (fun K hK => ?_) AllReadyH.nil)
          go_simp
          obtain ⟨bm, hbm⟩ : ∃ n, n = y4.heap.size := ⟨_, rfl⟩
          refine name_world (C := fun w9 => K _ w9) (y4.alloc (.cells (gM (⟨m, am, cm⟩ : ME)).toArray 25)) ?_
          intro y5 hy5
          have hb : Below y4.heap.size y4 y5 := by rw [hy5]; exact S2.below_new _ _
          have hN : BK 25 y5 bm (gM (⟨m, am, cm⟩ : ME)) := by rw [hy5, hbm]; exact BK.new _ _ _
          have HD_b_m : Hid (vb.ownBlock ≠ some bm) := Lib.hid (OwnG.high Lb_y4.out (by omega))
          have V_y5 : Hid (BK 25 y5 w.heap.size (msgC m am cm)) := Lib.hid (V_y4.out.step hb)
          have B_y5 : Hid (Below w.heap.size w y5) := Lib.hid (stepB B_y4.out hb)
          have Z_y5 : Hid (q ≤ y5.heap.size) := Lib.hid (Nat.le_trans Z_y4.out hb.size)
          have Xy_y5 : Hid (BK 25 y5 by_ (gM x0)) := Lib.hid (Xy_y4.out.step hb)
          have Lb_y5 : Hid (OwnG 25 gM 9 y5 q vb ([] ++ ds)) := Lib.hid (OwnG.step Lb_y4.out hb)
          clear V_y4 B_y4 Z_y4 Xy_y4 Lb_y4
          have Xm_y5 := Lib.hid hN
          try rw [← hbm]
          clear hHeld hb hN hy5 hbm
          refine hK.out _ _ ⟨V_y5.out, B_y5.out⟩ (fun hHeld => ?_)
          clear hK K
          try simp only [Act.put, List.setIfInBounds_toArray, List.set_cons_zero, List.set_cons_succ]
          refine wpAnyH_ready (rs := [6]) (by kernel_rfl) (by simp) ?_
          refine (AllReadyH.cons (get_ops _ _ _ rfl) (fun K hK => ?_) AllReadyH.nil)
          rw [if_pos (by rfl)]
          have hoy := Lb_y5.out
          refine oper_appG (g := gM) (k := 9) (e := 25) (by decide) (.tmp 30) (.tmp 32) 22 22 rfl (.agg (msgC Msg.zero none 0).toArray) 112 Try.underlying22 msgInfo rfl (by decide) q vb ([] ++ ds) [(⟨m, am, cm⟩ : ME)] _ (by go_simp) hoy (by go_simp) (src_blk gM_len gM_one Try.underlying22 Xm_y5.out) Z_y5.out (by simp; have := HDB.out; omega) ?_
          intro vc y6 hown hgr hoffs
          have V_y6 : Hid (BK 25 y6 w.heap.size (msgC m am cm)) := Lib.hid (BK.grow V_y5.out hgr (OwnG.off hoy (HQ.out)))
          have B_y6 : Hid (Below w.heap.size w y6) := Lib.hid (Below.grow B_y5.out hoy hgr B_y5.out.size (Nat.le_of_lt HQ.out))
          have Z_y6 : Hid (q ≤ y6.heap.size) := Lib.hid (Nat.le_trans Z_y5.out hgr.size)
          have Xy_y6 : Hid (BK 25 y6 by_ (gM x0)) := Lib.hid (BK.grow Xy_y5.out hgr HD_b_y.out)
          have Xm_y6 : Hid (BK 25 y6 bm (gM (⟨m, am, cm⟩ : ME))) := Lib.hid (BK.grow Xm_y5.out hgr HD_b_m.out)
          have HD_c_y : Hid (vc.ownBlock ≠ some by_) := Lib.hid (hoffs _ Xy_y5.out.lt HD_b_y.out)
          have HD_c_m : Hid (vc.ownBlock ≠ some bm) := Lib.hid (hoffs _ Xm_y5.out.lt HD_b_m.out)
          have Lc_y6 : Hid (OwnG 25 gM 9 y6 q vc (([] ++ ds) ++ [(⟨m, am, cm⟩ : ME)])) := Lib.hid hown
          clear hoy hown hgr hoffs hHeld V_y5 B_y5 Z_y5 Xy_y5 Lb_y5 Xm_y5
          refine hK.out _ _ ⟨V_y6.out, B_y6.out⟩ (fun hHeld => ?_)
          clear hK K
          try simp only [Act.put, List.setIfInBounds_toArray, List.set_cons_zero, List.set_cons_succ]
          refine wpAnyH_take (i := 11) (v := vc) (get_ops _ _ _ rfl) (by kernel_rfl) (by kernel_rfl) (by kernel_rfl) (fun _ _ _ h => h) (Or.inl ⟨by rfl, fun wS hSw => by (try dsimp only at hSw); go_simp⟩) hHeld ?_
          try simp only [Act.put, List.setIfInBounds_toArray, List.set_cons_zero, List.set_cons_succ]
          refine wpAnyH_take (i := 12) (v := .slice (some ⟨by_, 0, none⟩) 1 1) (get_ops _ _ _ rfl) (by kernel_rfl) (by kernel_rfl) (by kernel_rfl) (fun _ _ _ h => h) (Or.inl ⟨by rfl, fun wS hSw => by (try dsimp only at hSw); go_simp⟩) hHeld ?_
          try simp only [Act.put, List.setIfInBounds_toArray, List.set_cons_zero, List.set_cons_succ]
          refine wpAnyH_take (i := 13) (v := .bool false) (get_ops _ _ _ rfl) (by kernel_rfl) (by kernel_rfl) (by kernel_rfl) (fun _ _ _ h => h) (Or.inl ⟨by rfl, fun wS hSw => by (try dsimp only at hSw); go_simp⟩) hHeld ?_
          try simp only [Act.put, List.setIfInBounds_toArray, List.set_cons_zero, List.set_cons_succ]
          refine wpAnyH_done (by kernel_rfl) ?_ _
          obtain ⟨A2, c2, hv2, hc2, hgl2⟩ := OwnG.ret gM_len Lc_y6.out
          subst hv2
          go_wp2_with fail
          go_ret3
          exact ⟨A2, c2, ds ++ [⟨m, am, cm⟩], some ⟨by_, 0, none⟩, 1, [x0], by rw [← HR.out]; simp, by rw [← HR.out, ← HDM.out]; simp, by rw [← HR.out, HX0.out]; rfl, by simpa using hc2, by simp, push_msgs (by simpa using hgl2) (HDS.out _ (HS.out.step B_y6.out)).2 (GL.step HM.out B_y6.out), mi_one Xy_y6.out (GL.step HPX.out B_y6.out), B_y6.out⟩
        · go_simp
          obtain ⟨bm, hbm⟩ : ∃ n, n = y3.heap.size := ⟨_, rfl⟩
          refine name_world (C := fun w9 => K _ w9) (y3.alloc (.cells (gM (⟨m, am, cm⟩ : ME)).toArray 25)) ?_
          intro y4 hy4
          have hb : Below y3.heap.size y3 y4 := by rw [hy4]; exact S2.below_new _ _
          have hN : BK 25 y4 bm (gM (⟨m, am, cm⟩ : ME)) := by rw [hy4, hbm]; exact BK.new _ _ _
          have HD_a_m : Hid (va.ownBlock ≠ some bm) := Lib.hid (OwnG.high La_y3.out (by omega))
          have V_y4 : Hid (BK 25 y4 w.heap.size (msgC m am cm)) := Lib.hid (V_y3.out.step hb)
          have B_y4 : Hid (Below w.heap.size w y4) := Lib.hid (stepB B_y3.out hb)
          have Z_y4 : Hid (q ≤ y4.heap.size) := Lib.hid (Nat.le_trans Z_y3.out hb.size)
          have Xy_y4 : Hid (BK 25 y4 by_ (gM x0)) := Lib.hid (Xy_y3.out.step hb)
          have La_y4 : Hid (OwnG 25 gM 9 y4 q va []) := Lib.hid (OwnG.step La_y3.out hb)
          clear V_y3 B_y3 Z_y3 Xy_y3 La_y3
          have Xm_y4 := Lib.hid hN
          try rw [← hbm]
          clear hHeld hb hN hy4 hbm
          refine hK.out _ _ ⟨V_y4.out, B_y4.out⟩ (fun hHeld => ?_)
          clear hK K
          try simp only [Act.put, List.setIfInBounds_toArray, List.set_cons_zero, List.set_cons_succ]
          refine wpAnyH_ready (rs := [3]) (by kernel_rfl) (by simp) ?_
          refine (AllReadyH.cons (get_ops _ _ _ rfl) (fun K hK => ?_) AllReadyH.nil)
          rw [if_pos (by rfl)]
          have hoy := La_y4.out
          refine oper_appG (g := gM) (k := 9) (e := 25) (by decide) (.tmp 27) (.tmp 29) 22 22 rfl (.agg (msgC Msg.zero none 0).toArray) 112 Try.underlying22 msgInfo rfl (by decide) q va [] ds _ (by go_simp) hoy (by go_simp) (GL.src gM_len gM_one ((HDS.out _ (HS.out.step B_y4.out)).1) Try.underlying22 cd) Z_y4.out (by simp; have := HDB.out; omega) ?_
          intro vb y5 hown hgr hoffs
          have V_y5 : Hid (BK 25 y5 w.heap.size (msgC m am cm)) := Lib.hid (BK.grow V_y4.out hgr (OwnG.off hoy (HQ.out)))
          have B_y5 : Hid (Below w.heap.size w y5) := Lib.hid (Below.grow B_y4.out hoy hgr B_y4.out.size (Nat.le_of_lt HQ.out))
          have Z_y5 : Hid (q ≤ y5.heap.size) := Lib.hid (Nat.le_trans Z_y4.out hgr.size)
          have Xy_y5 : Hid (BK 25 y5 by_ (gM x0)) := Lib.hid (BK.grow Xy_y4.out hgr HD_a_y.out)
          have Xm_y5 : Hid (BK 25 y5 bm (gM (⟨m, am, cm⟩ : ME))) := Lib.hid (BK.grow Xm_y4.out hgr HD_a_m.out)
          have HD_b_y : Hid (vb.ownBlock ≠ some by_) := Lib.hid (hoffs _ Xy_y4.out.lt HD_a_y.out)
          have HD_b_m : Hid (vb.ownBlock ≠ some bm) := Lib.hid (hoffs _ Xm_y4.out.lt HD_a_m.out)
          have Lb_y5 : Hid (OwnG 25 gM 9 y5 q vb ([] ++ ds)) := Lib.hid hown
          clear hoy hown hgr hoffs hHeld V_y4 B_y4 Z_y4 Xy_y4 La_y4 Xm_y4
          refine hK.out _ _ ⟨V_y5.out, B_y5.out⟩ (fun hHeld => ?_)
          clear hK K
          try simp only [Act.put, List.setIfInBounds_toArray, List.set_cons_zero, List.set_cons_succ]
          refine wpAnyH_ready (rs := [6]) (by kernel_rfl) (by simp) ?_
          refine (AllReadyH.cons (get_ops _ _ _ rfl) (fun K hK => ?_) AllReadyH.nil)
          rw [if_pos (by rfl)]
          have hoy := Lb_y5.out
          refine oper_appG (g := gM) (k := 9) (e := 25) (by decide) (.tmp 30) (.tmp 32) 22 22 rfl (.agg (msgC Msg.zero none 0).toArray) 112 Try.underlying22 msgInfo rfl (by decide) q vb ([] ++ ds) [(⟨m, am, cm⟩ : ME)] _ (by go_simp) hoy (by go_simp) (src_blk gM_len gM_one Try.underlying22 Xm_y5.out) Z_y5.out (by simp; have := HDB.out; omega) ?_
          intro vc y6 hown hgr hoffs
          have V_y6 : Hid (BK 25 y6 w.heap.size (msgC m am cm)) := Lib.hid (BK.grow V_y5.out hgr (OwnG.off hoy (HQ.out)))
          have B_y6 : Hid (Below w.heap.size w y6) := Lib.hid (Below.grow B_y5.out hoy hgr B_y5.out.size (Nat.le_of_lt HQ.out))
          have Z_y6 : Hid (q ≤ y6.heap.size) := Lib.hid (Nat.le_trans Z_y5.out hgr.size)
          have Xy_y6 : Hid (BK 25 y6 by_ (gM x0)) := Lib.hid (BK.grow Xy_y5.out hgr HD_b_y.out)
          have Xm_y6 : Hid (BK 25 y6 bm (gM (⟨m, am, cm⟩ : ME))) := Lib.hid (BK.grow Xm_y5.out hgr HD_b_m.out)
          have HD_c_y : Hid (vc.ownBlock ≠ some by_) := Lib.hid (hoffs _ Xy_y5.out.lt HD_b_y.out)
          have HD_c_m : Hid (vc.ownBlock ≠ some bm) := Lib.hid (hoffs _ Xm_y5.out.lt HD_b_m.out)
          have Lc_y6 : Hid (OwnG 25 gM 9 y6 q vc (([] ++ ds) ++ [(⟨m, am, cm⟩ : ME)])) := Lib.hid hown
          clear hoy hown hgr hoffs hHeld V_y5 B_y5 Z_y5 Xy_y5 Xm_y5 Lb_y5
          refine hK.out _ _ ⟨V_y6.out, B_y6.out⟩ (fun hHeld => ?_)
          clear hK K
          try simp only [Act.put, List.setIfInBounds_toArray, List.set_cons_zero, List.set_cons_succ]
          refine wpAnyH_take (i := 11) (v := vc) (get_ops _ _ _ rfl) (by kernel_rfl) (by kernel_rfl) (by kernel_rfl) (fun _ _ _ h => h) (Or.inl ⟨by rfl, fun wS hSw => by (try dsimp only at hSw); go_simp⟩) hHeld ?_
          try simp only [Act.put, List.setIfInBounds_toArray, List.set_cons_zero, List.set_cons_succ]
          refine wpAnyH_take (i := 12) (v := .slice (some ⟨by_, 0, none⟩) 1 1) (get_ops _ _ _ rfl) (by kernel_rfl) (by kernel_rfl) (by kernel_rfl) (fun _ _ _ h => h) (Or.inl ⟨by rfl, fun wS hSw => by (try dsimp only at hSw); go_simp⟩) hHeld ?_
          try simp only [Act.put, List.setIfInBounds_toArray, List.set_cons_zero, List.set_cons_succ]
          refine wpAnyH_take (i := 13) (v := .bool false) (get_ops _ _ _ rfl) (by kernel_rfl) (by kernel_rfl) (by kernel_rfl) (fun _ _ _ h => h) (Or.inl ⟨by rfl, fun wS hSw => by (try dsimp only at hSw); go_simp⟩) hHeld ?_
          try simp only [Act.put, List.setIfInBounds_toArray, List.set_cons_zero, List.set_cons_succ]
          refine wpAnyH_done (by kernel_rfl) ?_ _
          obtain ⟨A2, c2, hv2, hc2, hgl2⟩ := OwnG.ret gM_len Lc_y6.out
          subst hv2
          go_wp2_with fail
          go_ret3
          exact ⟨A2, c2, ds ++ [⟨m, am, cm⟩], some ⟨by_, 0, none⟩, 1, [x0], by rw [← HR.out]; simp, by rw [← HR.out, ← HDM.out]; simp, by rw [← HR.out, HX0.out]; rfl, by simpa using hc2, by simp, push_msgs (by simpa using hgl2) (HDS.out _ (HS.out.step B_y6.out)).2 (GL.step HM.out B_y6.out), mi_one Xy_y6.out (GL.step HPX.out B_y6.out), B_y6.out⟩
      · go_simp
        obtain ⟨bm, hbm⟩ : ∃ n, n = y2.heap.size := ⟨_, rfl⟩
        refine name_world (C := fun w9 => K _ w9) (y2.alloc (.cells (gM (⟨m, am, cm⟩ : ME)).toArray 25)) ?_
        intro y3 hy3
        have hb : Below y2.heap.size y2 y3 := by rw [hy3]; exact S2.below_new _ _
        have hN : BK 25 y3 bm (gM (⟨m, am, cm⟩ : ME)) := by rw [hy3, hbm]; exact BK.new _ _ _
        have V_y3 : Hid (BK 25 y3 w.heap.size (msgC m am cm)) := Lib.hid (V_y2.out.step hb)
        have B_y3 : Hid (Below w.heap.size w y3) := Lib.hid (stepB B_y2.out hb)
        have Z_y3 : Hid (q ≤ y3.heap.size) := Lib.hid (Nat.le_trans Z_y2.out hb.size)
        have Xy_y3 : Hid (BK 25 y3 by_ (gM x0)) := Lib.hid (Xy_y2.out.step hb)
        clear V_y2 B_y2 Z_y2 Xy_y2
        have Xm_y3 := Lib.hid hN
        try rw [← hbm]
        clear hHeld hb hN hy3 hbm
        refine hK.out _ _ ⟨V_y3.out, B_y3.out⟩ (fun hHeld => ?_)
        clear hK K
        try simp only [Act.put, List.setIfInBounds_toArray, List.set_cons_zero, List.set_cons_succ]
        refine wpAnyH_ready (rs := [0]) (by kernel_rfl) (by simp) ?_
        refine (AllReadyH.cons (get_ops _ _ _ rfl) (fun K hK => ?_) AllReadyH.nil)
        go_simp
        obtain ⟨va, hva⟩ : ∃ v : Value, v = .slice (some ⟨y3.heap.size, 0, none⟩) 0 0 := ⟨_, rfl⟩
        rw [← hva]
        refine name_world (C := fun w9 => K _ w9) (y3.alloc (.cells #[] 25)) ?_
        intro y4 hy4
        have hb : Below y3.heap.size y3 y4 := by rw [hy4]; exact S2.below_new _ _
        have hN : OwnG 25 gM 9 y4 q va [] := by rw [hy4, hva]; exact OwnG.made _ 0 #[] _ Z_y3.out (by decide) rfl
        have HD_a_y : Hid (va.ownBlock ≠ some by_) := Lib.hid (fun e1 => by have := Xy_y3.out.lt; rw [hva] at e1; simp only [Value.ownBlock, Option.some.injEq] at e1; omega)
        have HD_a_m : Hid (va.ownBlock ≠ some bm) := Lib.hid (fun e1 => by have := Xm_y3.out.lt; rw [hva] at e1; simp only [Value.ownBlock, Option.some.injEq] at e1; omega)
        have V_y4 : Hid (BK 25 y4 w.heap.size (msgC m am cm)) := Lib.hid (V_y3.out.step hb)
        have B_y4 : Hid (Below w.heap.size w y4) := Lib.hid (stepB B_y3.out hb)
        have Z_y4 : Hid (q ≤ y4.heap.size) := Lib.hid (Nat.le_trans Z_y3.out hb.size)
        have Xy_y4 : Hid (BK 25 y4 by_ (gM x0)) := Lib.hid (Xy_y3.out.step hb)
        have Xm_y4 : Hid (BK 25 y4 bm (gM (⟨m, am, cm⟩ : ME))) := Lib.hid (Xm_y3.out.step hb)
        clear V_y3 B_y3 Z_y3 Xy_y3 Xm_y3
        have La_y4 := Lib.hid hN
        clear hHeld hb hN hy4 hva
        refine hK.out _ _ ⟨V_y4.out, B_y4.out⟩ (fun hHeld => ?_)
        clear hK K
        try simp only [Act.put, List.setIfInBounds_toArray, List.set_cons_zero, List.set_cons_succ]
        refine wpAnyH_ready (rs := [3]) (by kernel_rfl) (by simp) ?_
        refine (AllReadyH.cons (get_ops _ _ _ rfl) (fun K hK => ?_) AllReadyH.nil)
        rw [if_pos (by rfl)]
        have hoy := La_y4.out
        refine oper_appG (g := gM) (k := 9) (e := 25) (by decide) (.tmp 27) (.tmp 29) 22 22 rfl (.agg (msgC Msg.zero none 0).toArray) 112 Try.underlying22 msgInfo rfl (by decide) q va [] ds _ (by go_simp) hoy (by go_simp) (GL.src gM_len gM_one ((HDS.out _ (HS.out.step B_y4.out)).1) Try.underlying22 cd) Z_y4.out (by simp; have := HDB.out; omega) ?_
        intro vb y5 hown hgr hoffs
        have V_y5 : Hid (BK 25 y5 w.heap.size (msgC m am cm)) := Lib.hid (BK.grow V_y4.out hgr (OwnG.off hoy (HQ.out)))
        have B_y5 : Hid (Below w.heap.size w y5) := Lib.hid (Below.grow B_y4.out hoy hgr B_y4.out.size (Nat.le_of_lt HQ.out))
        have Z_y5 : Hid (q ≤ y5.heap.size) := Lib.hid (Nat.le_trans Z_y4.out hgr.size)
        have Xy_y5 : Hid (BK 25 y5 by_ (gM x0)) := Lib.hid (BK.grow Xy_y4.out hgr HD_a_y.out)
        have Xm_y5 : Hid (BK 25 y5 bm (gM (⟨m, am, cm⟩ : ME))) := Lib.hid (BK.grow Xm_y4.out hgr HD_a_m.out)
        have HD_b_y : Hid (vb.ownBlock ≠ some by_) := Lib.hid (hoffs _ Xy_y4.out.lt HD_a_y.out)
        have HD_b_m : Hid (vb.ownBlock ≠ some bm) := Lib.hid (hoffs _ Xm_y4.out.lt HD_a_m.out)
        have Lb_y5 : Hid (OwnG 25 gM 9 y5 q vb ([] ++ ds)) := Lib.hid hown
        clear hoy hown hgr hoffs hHeld V_y4 B_y4 Z_y4 Xy_y4 Xm_y4 La_y4
        refine hK.out _ _ ⟨V_y5.out, B_y5.out⟩ (fun hHeld => ?_)
        clear hK K
        try simp only [Act.put, List.setIfInBounds_toArray, List.set_cons_zero, List.set_cons_succ]
        refine wpAnyH_ready (rs := [6]) (by kernel_rfl) (by simp) ?_
        refine (AllReadyH.cons (get_ops _ _ _ rfl) (fun K hK => ?_) AllReadyH.nil)
        rw [if_pos (by rfl)]
        have hoy := Lb_y5.out
        refine oper_appG (g := gM) (k := 9) (e := 25) (by decide) (.tmp 30) (.tmp 32) 22 22 rfl (.agg (msgC Msg.zero none 0).toArray) 112 Try.underlying22 msgInfo rfl (by decide) q vb ([] ++ ds) [(⟨m, am, cm⟩ : ME)] _ (by go_simp) hoy (by go_simp) (src_blk gM_len gM_one Try.underlying22 Xm_y5.out) Z_y5.out (by simp; have := HDB.out; omega) ?_
        intro vc y6 hown hgr hoffs
        have V_y6 : Hid (BK 25 y6 w.heap.size (msgC m am cm)) := Lib.hid (BK.grow V_y5.out hgr (OwnG.off hoy (HQ.out)))
        have B_y6 : Hid (Below w.heap.size w y6) := Lib.hid (Below.grow B_y5.out hoy hgr B_y5.out.size (Nat.le_of_lt HQ.out))
        have Z_y6 : Hid (q ≤ y6.heap.size) := Lib.hid (Nat.le_trans Z_y5.out hgr.size)
        have Xy_y6 : Hid (BK 25 y6 by_ (gM x0)) := Lib.hid (BK.grow Xy_y5.out hgr HD_b_y.out)
        have Xm_y6 : Hid (BK 25 y6 bm (gM (⟨m, am, cm⟩ : ME))) := Lib.hid (BK.grow Xm_y5.out hgr HD_b_m.out)
        have HD_c_y : Hid (vc.ownBlock ≠ some by_) := Lib.hid (hoffs _ Xy_y5.out.lt HD_b_y.out)
        have HD_c_m : Hid (vc.ownBlock ≠ some bm) := Lib.hid (hoffs _ Xm_y5.out.lt HD_b_m.out)
        have Lc_y6 : Hid (OwnG 25 gM 9 y6 q vc (([] ++ ds) ++ [(⟨m, am, cm⟩ : ME)])) := Lib.hid hown
        clear hoy hown hgr hoffs hHeld V_y5 B_y5 Z_y5 Xy_y5 Xm_y5 Lb_y5
        refine hK.out _ _ ⟨V_y6.out, B_y6.out⟩ (fun hHeld => ?_)
        clear hK K
        try simp only [Act.put, List.setIfInBounds_toArray, List.set_cons_zero, List.set_cons_succ]
        refine wpAnyH_take (i := 11) (v := vc) (get_ops _ _ _ rfl) (by kernel_rfl) (by kernel_rfl) (by kernel_rfl) (fun _ _ _ h => h) (Or.inl ⟨by rfl, fun wS hSw => by (try dsimp only at hSw); go_simp⟩) hHeld ?_
        try simp only [Act.put, List.setIfInBounds_toArray, List.set_cons_zero, List.set_cons_succ]
        refine wpAnyH_take (i := 12) (v := .slice (some ⟨by_, 0, none⟩) 1 1) (get_ops _ _ _ rfl) (by kernel_rfl) (by kernel_rfl) (by kernel_rfl) (fun _ _ _ h => h) (Or.inl ⟨by rfl, fun wS hSw => by (try dsimp only at hSw); go_simp⟩) hHeld ?_
        try simp only [Act.put, List.setIfInBounds_toArray, List.set_cons_zero, List.set_cons_succ]
        refine wpAnyH_take (i := 13) (v := .bool false) (get_ops _ _ _ rfl) (by kernel_rfl) (by kernel_rfl) (by kernel_rfl) (fun _ _ _ h => h) (Or.inl ⟨by rfl, fun wS hSw => by (try dsimp only at hSw); go_simp⟩) hHeld ?_
        try simp only [Act.put, List.setIfInBounds_toArray, List.set_cons_zero, List.set_cons_succ]
        refine wpAnyH_done (by kernel_rfl) ?_ _
        obtain ⟨A2, c2, hv2, hc2, hgl2⟩ := OwnG.ret gM_len Lc_y6.out
        subst hv2
        go_wp2_with fail
        go_ret3
        exact ⟨A2, c2, ds ++ [⟨m, am, cm⟩], some ⟨by_, 0, none⟩, 1, [x0], by rw [← HR.out]; simp, by rw [← HR.out, ← HDM.out]; simp, by rw [← HR.out, HX0.out]; rfl, by simpa using hc2, by simp, push_msgs (by simpa using hgl2) (HDS.out _ (HS.out.step B_y6.out)).2 (GL.step HM.out B_y6.out), mi_one Xy_y6.out (GL.step HPX.out B_y6.out), B_y6.out⟩
  have HR : Hid ((xs.map ME.m, [m], pol == 3) = R) := Lib.hid (HPC.out.2.2 hl hpo)
  clear HPC
  by_cases h1 : pol = 1
  case pos =>
    have q2 : (pol == 1) = true := by simp [h1]
    have q3 : decide ((1 : Int) ≤ mx) = false := decide_eq_false (fun h3 => hpo ⟨h1, h3⟩)
    clear hl hpo h1
    go_upto_region 5 with fail
    clear q1 q2 q3
    obtain ⟨z1, hz1⟩ : ∃ z1, z1 = World.drew w1 := ⟨_, rfl⟩
    have hbD : Below w1.heap.size w1 z1 := by rw [hz1]; exact (Below.refl _ _).drew
    have V_z1 : Hid (BK 25 z1 w.heap.size (msgC m am cm)) := Lib.hid (V_w1.out.step hbD)
    have B_z1 : Hid (Below w.heap.size w z1) := Lib.hid (stepB B_w1.out hbD)
    have Z_z1 : Hid (q ≤ z1.heap.size) := Lib.hid (Nat.le_trans Z_w1.out hbD.size)
    clear V_w1 B_w1 Z_w1
    have hbd : (fun w' => BK 25 w' w.heap.size (msgC m am cm) ∧ Below w.heap.size w w') (World.drew w1) := by rw [← hz1]; exact ⟨V_z1.out, B_z1.out⟩
    have hSD : (fun w' => BK 25 w' w.heap.size (msgC m am cm) ∧ Below w.heap.size w w') z1 := ⟨V_z1.out, B_z1.out⟩
    have HWD := Lib.hid hz1
    clear hz1 hbD
    refine wp_region_held_drew (S := fun w' => BK 25 w' w.heap.size (msgC m am cm) ∧ Below w.heap.size w w') (by kernel_rfl) hbd (fun hHeld => ?_)
    rw [← HWD.out]
    clear hHeld
    have hHeld := hSD
    clear hSD hbd HWD
    refine wpAnyH_take (i := 0) (v := .slice A xs.length c) (get_ops _ _ _ rfl) (by kernel_rfl) (by kernel_rfl) (by kernel_rfl) (fun _ _ _ h => h) (Or.inl ⟨by rfl, fun wS hSw => by (try dsimp only at hSw); go_simp⟩) hHeld ?_
    try simp only [Act.put, List.setIfInBounds_toArray, List.set_cons_zero, List.set_cons_succ]
    refine wpAnyH_take (i := 1) (v := (.agg #[.string m.topic, .string m.payload, .int .i64 m.level, .bool m.retain, .int .i64 m.prio, .int .i64 m.exps, .string m.frm, .int .i64 m.seq, .slice am m.props.length cm])) (get_ops _ _ _ rfl) (by kernel_rfl) (by kernel_rfl) (by kernel_rfl) (fun _ _ _ h => h) (Or.inl ⟨by rfl, fun wS hSw => by (try dsimp only at hSw); exact exec_load 25 _ rfl ⟨w.heap.size, 0, none⟩ (by go_simp) _ (S2.run_load_all hSw.1 Try.underlying25 rfl msgSize)⟩) hHeld ?_
    try simp only [Act.put, List.setIfInBounds_toArray, List.set_cons_zero, List.set_cons_succ]
    refine wpAnyH_take (i := 3) (v := .int .i64 pol) (get_ops _ _ _ rfl) (by kernel_rfl) (by kernel_rfl) (by kernel_rfl) (fun _ _ _ h => h) (Or.inl ⟨by rfl, fun wS hSw => by (try dsimp only at hSw); go_simp⟩) hHeld ?_
    try simp only [Act.put, List.setIfInBounds_toArray, List.set_cons_zero, List.set_cons_succ]
    refine wpAnyH_take (i := 4) (v := .bool (pol == 3)) (get_ops _ _ _ rfl) (by kernel_rfl) (by kernel_rfl) (by kernel_rfl) (fun _ _ _ h => h) (Or.inl ⟨by rfl, fun wS hSw => by (try dsimp only at hSw); go_simp⟩) hHeld ?_
    try simp only [Act.put, List.setIfInBounds_toArray, List.set_cons_zero, List.set_cons_succ]
    refine wpAnyH_take (i := 5) (v := .slice A xs.length c) (get_ops _ _ _ rfl) (by kernel_rfl) (by kernel_rfl) (by kernel_rfl) (fun _ _ _ h => h) (Or.inl ⟨by rfl, fun wS hSw => by (try dsimp only at hSw); go_simp⟩) hHeld ?_
    try simp only [Act.put, List.setIfInBounds_toArray, List.set_cons_zero, List.set_cons_succ]
    refine wpAnyH_ready (rs := [2]) (by kernel_rfl) (by simp) ?_
    refine (AllReadyH.cons (get_ops _ _ _ rfl) (fun K hK => ?_) AllReadyH.nil)
    go_simp
    obtain ⟨bm, hbm⟩ : ∃ n, n = z1.heap.size := ⟨_, rfl⟩
    refine name_world (C := fun w9 => K _ w9) (z1.alloc (.cells (gM (⟨m, am, cm⟩ : ME)).toArray 25)) ?_
    intro z2 hz2
    have hb : Below z1.heap.size z1 z2 := by rw [hz2]; exact S2.below_new _ _
    have hN : BK 25 z2 bm (gM (⟨m, am, cm⟩ : ME)) := by rw [hz2, hbm]; exact BK.new _ _ _
    have V_z2 : Hid (BK 25 z2 w.heap.size (msgC m am cm)) := Lib.hid (V_z1.out.step hb)
    have B_z2 : Hid (Below w.heap.size w z2) := Lib.hid (stepB B_z1.out hb)
    have Z_z2 : Hid (q ≤ z2.heap.size) := Lib.hid (Nat.le_trans Z_z1.out hb.size)
    clear V_z1 B_z1 Z_z1
    have Xm_z2 := Lib.hid hN
    try rw [← hbm]
    clear hHeld hb hN hz2 hbm
    refine hK.out _ _ ⟨V_z2.out, B_z2.out⟩ (fun hHeld => ?_)
    clear hK K
    try simp only [Act.put, List.setIfInBounds_toArray, List.set_cons_zero, List.set_cons_succ]
    refine wpAnyH_take (i := 6) (v := .slice (some ⟨bm, 0, none⟩) 1 1) (get_ops _ _ _ rfl) (by kernel_rfl) (by kernel_rfl) (by kernel_rfl) (fun _ _ _ h => h) (Or.inl ⟨by rfl, fun wS hSw => by (try dsimp only at hSw); go_simp⟩) hHeld ?_
    try simp only [Act.put, List.setIfInBounds_toArray, List.set_cons_zero, List.set_cons_succ]
    refine wpAnyH_take (i := 7) (v := .bool (pol == 3)) (get_ops _ _ _ rfl) (by kernel_rfl) (by kernel_rfl) (by kernel_rfl) (fun _ _ _ h => h) (Or.inl ⟨by rfl, fun wS hSw => by (try dsimp only at hSw); go_simp⟩) hHeld ?_
    try simp only [Act.put, List.setIfInBounds_toArray, List.set_cons_zero, List.set_cons_succ]
    refine wpAnyH_done (by kernel_rfl) ?_ _
    go_wp2_with fail
    go_ret3
    exact ⟨A, c, xs, some ⟨bm, 0, none⟩, 1, [⟨m, am, cm⟩], by rw [← HR.out]; simp, by rw [← HR.out], by rw [← HR.out]; rfl, HC.out, by simp, HS.out.step B_z2.out, mi_one Xm_z2.out (GL.step HM.out B_z2.out), B_z2.out⟩
  have q2 : (pol == 1) = false := by simp [h1]
  clear hl hpo h1
  go_upto_region 5 with fail
  clear q1 q2
  obtain ⟨z1, hz1⟩ : ∃ z1, z1 = World.drew w1 := ⟨_, rfl⟩
  have hbD : Below w1.heap.size w1 z1 := by rw [hz1]; exact (Below.refl _ _).drew
  have V_z1 : Hid (BK 25 z1 w.heap.size (msgC m am cm)) := Lib.hid (V_w1.out.step hbD)
  have B_z1 : Hid (Below w.heap.size w z1) := Lib.hid (stepB B_w1.out hbD)
  have Z_z1 : Hid (q ≤ z1.heap.size) := Lib.hid (Nat.le_trans Z_w1.out hbD.size)
  clear V_w1 B_w1 Z_w1
  have hbd : (fun w' => BK 25 w' w.heap.size (msgC m am cm) ∧ Below w.heap.size w w') (World.drew w1) := by rw [← hz1]; exact ⟨V_z1.out, B_z1.out⟩
  have hSD : (fun w' => BK 25 w' w.heap.size (msgC m am cm) ∧ Below w.heap.size w w') z1 := ⟨V_z1.out, B_z1.out⟩
  have HWD := Lib.hid hz1
  clear hz1 hbD
  refine wp_region_held_drew (S := fun w' => BK 25 w' w.heap.size (msgC m am cm) ∧ Below w.heap.size w w') (by kernel_rfl) hbd (fun hHeld => ?_)
  rw [← HWD.out]
  clear hHeld
  have hHeld := hSD
  clear hSD hbd HWD
  refine wpAnyH_take (i := 0) (v := .slice A xs.length c) (get_ops _ _ _ rfl) (by kernel_rfl) (by kernel_rfl) (by kernel_rfl) (fun _ _ _ h => h) (Or.inl ⟨by rfl, fun wS hSw => by (try dsimp only at hSw); go_simp⟩) hHeld ?_
  try simp only [Act.put, List.setIfInBounds_toArray, List.set_cons_zero, List.set_cons_succ]
  refine wpAnyH_take (i := 1) (v := (.agg #[.string m.topic, .string m.payload, .int .i64 m.level, .bool m.retain, .int .i64 m.prio, .int .i64 m.exps, .string m.frm, .int .i64 m.seq, .slice am m.props.length cm])) (get_ops _ _ _ rfl) (by kernel_rfl) (by kernel_rfl) (by kernel_rfl) (fun _ _ _ h => h) (Or.inl ⟨by rfl, fun wS hSw => by (try dsimp only at hSw); exact exec_load 25 _ rfl ⟨w.heap.size, 0, none⟩ (by go_simp) _ (S2.run_load_all hSw.1 Try.underlying25 rfl msgSize)⟩) hHeld ?_
  try simp only [Act.put, List.setIfInBounds_toArray, List.set_cons_zero, List.set_cons_succ]
  refine wpAnyH_take (i := 3) (v := .int .i64 pol) (get_ops _ _ _ rfl) (by kernel_rfl) (by kernel_rfl) (by kernel_rfl) (fun _ _ _ h => h) (Or.inl ⟨by rfl, fun wS hSw => by (try dsimp only at hSw); go_simp⟩) hHeld ?_
  try simp only [Act.put, List.setIfInBounds_toArray, List.set_cons_zero, List.set_cons_succ]
  refine wpAnyH_take (i := 4) (v := .bool (pol == 3)) (get_ops _ _ _ rfl) (by kernel_rfl) (by kernel_rfl) (by kernel_rfl) (fun _ _ _ h => h) (Or.inl ⟨by rfl, fun wS hSw => by (try dsimp only at hSw); go_simp⟩) hHeld ?_
  try simp only [Act.put, List.setIfInBounds_toArray, List.set_cons_zero, List.set_cons_succ]
  refine wpAnyH_take (i := 5) (v := .slice A xs.length c) (get_ops _ _ _ rfl) (by kernel_rfl) (by kernel_rfl) (by kernel_rfl) (fun _ _ _ h => h) (Or.inl ⟨by rfl, fun wS hSw => by (try dsimp only at hSw); go_simp⟩) hHeld ?_
  try simp only [Act.put, List.setIfInBounds_toArray, List.set_cons_zero, List.set_cons_succ]
  refine wpAnyH_ready (rs := [2]) (by kernel_rfl) (by simp) ?_
  refine (AllReadyH.cons (get_ops _ _ _ rfl) (fun K hK => ?_) AllReadyH.nil)
  go_simp
  obtain ⟨bm, hbm⟩ : ∃ n, n = z1.heap.size := ⟨_, rfl⟩
  refine name_world (C := fun w9 => K _ w9) (z1.alloc (.cells (gM (⟨m, am, cm⟩ : ME)).toArray 25)) ?_
  intro z2 hz2
  have hb : Below z1.heap.size z1 z2 := by rw [hz2]; exact S2.below_new _ _
  have hN : BK 25 z2 bm (gM (⟨m, am, cm⟩ : ME)) := by rw [hz2, hbm]; exact BK.new _ _ _
  have V_z2 : Hid (BK 25 z2 w.heap.size (msgC m am cm)) := Lib.hid (V_z1.out.step hb)
  have B_z2 : Hid (Below w.heap.size w z2) := Lib.hid (stepB B_z1.out hb)
  have Z_z2 : Hid (q ≤ z2.heap.size) := Lib.hid (Nat.le_trans Z_z1.out hb.size)
  clear V_z1 B_z1 Z_z1
  have Xm_z2 := Lib.hid hN
  try rw [← hbm]
  clear hHeld hb hN hz2 hbm
  refine hK.out _ _ ⟨V_z2.out, B_z2.out⟩ (fun hHeld => ?_)
  clear hK K
  try simp only [Act.put, List.setIfInBounds_toArray, List.set_cons_zero, List.set_cons_succ]
  refine wpAnyH_take (i := 6) (v := .slice (some ⟨bm, 0, none⟩) 1 1) (get_ops _ _ _ rfl) (by kernel_rfl) (by kernel_rfl) (by kernel_rfl) (fun _ _ _ h => h) (Or.inl ⟨by rfl, fun wS hSw => by (try dsimp only at hSw); go_simp⟩) hHeld ?_
  try simp only [Act.put, List.setIfInBounds_toArray, List.set_cons_zero, List.set_cons_succ]
  refine wpAnyH_take (i := 7) (v := .bool (pol == 3)) (get_ops _ _ _ rfl) (by kernel_rfl) (by kernel_rfl) (by kernel_rfl) (fun _ _ _ h => h) (Or.inl ⟨by rfl, fun wS hSw => by (try dsimp only at hSw); go_simp⟩) hHeld ?_
  try simp only [Act.put, List.setIfInBounds_toArray, List.set_cons_zero, List.set_cons_succ]
  refine wpAnyH_done (by kernel_rfl) ?_ _
  go_wp2_with fail
  go_ret3
  exact ⟨A, c, xs, some ⟨bm, 0, none⟩, 1, [⟨m, am, cm⟩], by rw [← HR.out]; simp, by rw [← HR.out], by rw [← HR.out]; rfl, HC.out, by simp, HS.out.step B_z2.out, mi_one Xm_z2.out (GL.step HM.out B_z2.out), B_z2.out⟩
end Go.Proofs.Ytgnbiicfabldbab
