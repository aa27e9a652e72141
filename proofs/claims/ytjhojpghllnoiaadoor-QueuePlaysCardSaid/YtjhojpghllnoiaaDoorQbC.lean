/-
  insert of brokerref25: a queue with an entry at its place, in memory of its own. Conditions: the lists read as data; few entries, with few properties; the entry's number is a new one.
-/
import Derived.Test.YtjhojpghllnoiaaDoorQbB
import Derived.Deep.CutRange
namespace Go.Proofs.YtjhojpghllnoiaaDoor
open Go.RowKit
open S2 (BK Put get_ops)

theorem insF_len (x : En) : ∀ (l : List En) (b : Bool) (acc : List En), (l.foldl (stepI x) (b, acc)).2.length ≤ acc.length + l.length + 1 ∧ (b = true → (l.foldl (stepI x) (b, acc)).2.length ≤ acc.length + l.length)
  | [], b, acc => ⟨by simp, fun _ => by simp⟩
  | y :: r, b, acc => by
    rw [List.foldl_cons]
    by_cases h : b = false ∧ precR x y = true
    · have e : stepI x (b, acc) y = (true, acc ++ [x] ++ [y]) := by unfold stepI; rw [if_pos h]
      rw [e]
      have h1 := (insF_len x r true (acc ++ [x] ++ [y])).2 rfl
      simp at h1 ⊢
      refine ⟨by omega, fun e => ?_⟩
      rw [h.1] at e
      cases e
    · have e : stepI x (b, acc) y = (b, acc ++ [y]) := by unfold stepI; rw [if_neg h]
      rw [e]
      have h1 := insF_len x r b (acc ++ [y])
      simp at h1 ⊢
      exact ⟨by omega, fun e => by have := h1.2 e; omega⟩
theorem insF_le (x : En) (l : List En) : (insF x l).2.length ≤ l.length + 1 := by
  have := (insF_len x l false []).1
  unfold insF
  simpa using this
theorem three_laid {w w1 : World} {T1 T2 T3 : TypeId} {v1 v2 v3 : List Value} (h : w1 = ((w.alloc (.cells v1.toArray T1)).alloc (.cells v2.toArray T2)).alloc (.cells v3.toArray T3)) : BK T1 w1 w.heap.size v1 ∧ BK T2 w1 (w.heap.size + 1) v2 ∧ BK T3 w1 (w.heap.size + 2) v3 ∧ Below w.heap.size w w1 := by
  subst h
  exact ⟨BK.alloc (BK.alloc (BK.new w _ _) _) _, BK.alloc (bk_new1 w _ _ _) _, bk_new2 w _ _ _ _, stepB (stepB (S2.below_new w _) (S2.below_new _ _)) (S2.below_new _ _)⟩
set_option maxRecDepth 20000 in
set_option maxHeartbeats 32000000 in
theorem rInsert_any (s : Sp) (n : Int) (A : Option Addr) (c : Nat) (l : List EE) (x : En) (xa : Option Addr) (xc : Nat) (w : World) (hsl : EI w w.heap.size A l) (hx : PL w w.heap.size xa x.m.props) (hn : l.length ≤ 99900) (hp : ∀ y ∈ l, y.x.m.props.length ≤ 4398046511104) (hxp : x.m.props.length ≤ 4398046511104) (hk : ∀ y ∈ l.map EE.x, y.k ≠ x.k) :
    Calls Tryd.prog 45 #[quV s n (.slice A l.length c), enW x xa xc] w (RetI s n (insQ (l.map EE.x) x) w) := by
  have HIN := Lib.hid (insF_ins hk)
  have HCE := Lib.hid (fun (y : En) a c w1 h1 h2 => rCloneEntry_any y a c w1 h1 h2)
  have HCL := Lib.hid (fun w1 h1 => rClone_any s n A c l w1 h1 (by omega) hp)
  have HPC := Lib.hid (fun (y : EE) w1 => rPrec_any x y.x xa y.a xc y.c w1)
  have HS := Lib.hid hsl
  have HPP := Lib.hid hp
  have HXP := Lib.hid hxp
  have HL := Lib.hid hn
  have HXL : Hid (∀ w', Below w.heap.size w w' → PL w' w'.heap.size xa x.m.props) := Lib.hid (fun w' h' => GL.step hx h')
  clear hsl hp hn hx hxp hk
  unfold RetE enW enV at HCE
  unfold RetI quV at HCL
  unfold quV
  unfold enW enV at HPC ⊢
  go_enter Tryd.func45, Tryd.ntmps45
  go_upto_region 1 with fail
  refine name_world (C := fun w1 => Code.wp _ _ _ _ w1) (((w.alloc (.cells (quC s n (.slice A l.length c)).toArray 26)).alloc (.cells (enX x xa xc).toArray 34)).alloc (.cells (quC Sp.zero 0 (.slice none 0 0)).toArray 26)) ?_
  intro w1 hw1
  obtain ⟨t1, t2, t3, hb1⟩ := three_laid (v1 := quC s n (.slice A l.length c)) (v2 := enX x xa xc) (v3 := (quC Sp.zero 0 (.slice none 0 0))) hw1
  have Q_w1 := Lib.hid t1
  have E_w1 := Lib.hid t2
  have R_w1 := Lib.hid t3
  have B_w1 := Lib.hid hb1
  clear hw1 hb1 t1 t2 t3
  obtain ⟨g2, hg2⟩ : ∃ g, g = w.heap.size + 2 := ⟨_, rfl⟩
  obtain ⟨gEn, hgE⟩ : ∃ g, g = w.heap.size + 1 := ⟨_, rfl⟩
  obtain ⟨g1, hg1⟩ : ∃ g, g = w.heap.size := ⟨_, rfl⟩
  have HG12 : Hid (w.heap.size ≤ g1 ∧ g1 < g2 ∧ g1 < gEn ∧ gEn < g2) := Lib.hid (by omega)
  rw [← hg2] at R_w1
  try rw [← hg2]
  clear hg2
  rw [← hgE] at E_w1
  try rw [← hgE]
  clear hgE
  rw [← hg1] at Q_w1
  try rw [← hg1]
  clear hg1
  go_wp2_with first
    | (refine wpList_load_v (by rfl) 26 (.tmp 2) rfl ⟨g1, 0, none⟩ rfl (.agg (quC s n (.slice A l.length c)).toArray) (load_qu Q_w1.out) ?_)
  refine (HCL.out w1 (HS.out.step B_w1.out)).mono ?_
  rintro e y1 ⟨Ac, cc, yc, rfl, _, _, _, hb⟩
  have B_y1 : Hid (Below w.heap.size w y1) := Lib.hid (stepB B_w1.out hb)
  have Q_y1 : Hid (BK 26 y1 g1 (quC s n (.slice A l.length c))) := Lib.hid (Q_w1.out.step hb)
  have E_y1 : Hid (BK 34 y1 gEn (enX x xa xc)) := Lib.hid (E_w1.out.step hb)
  have R_y1 : Hid (BK 26 y1 g2 (quC Sp.zero 0 (.slice none 0 0))) := Lib.hid (R_w1.out.step hb)
  clear B_w1 Q_w1 E_w1 R_w1
  clear hb
  have HRW : Hid (g2 < y1.heap.size) := Lib.hid R_y1.out.lt
  clear HCL
  have HB5 : Hid (w.heap.size ≤ y1.heap.size) := Lib.hid B_y1.out.size
  go_upto_region 2 with first
    | (refine S2.wpList_store_all (by rfl) 26 (.tmp 5) (.tmp 10) rfl rfl (y1.heap.size) rfl (quC s n (.slice Ac yc.length cc)) rfl 26 _ (BK.new y1 _ _) quSize rfl (ones rfl) ?_; intro y2 hM hP; have hb : Below y1.heap.size y1 y2 := hP.below (S2.below_new y1 _) (Nat.le_refl _); have B_y2 : Hid (Below w.heap.size w y2) := Lib.hid (stepB B_y1.out hb); have Q_y2 : Hid (BK 26 y2 g1 (quC s n (.slice A l.length c))) := Lib.hid (Q_y1.out.step hb); have E_y2 : Hid (BK 34 y2 gEn (enX x xa xc)) := Lib.hid (E_y1.out.step hb); have R_y2 : Hid (BK 26 y2 g2 (quC Sp.zero 0 (.slice none 0 0))) := Lib.hid (R_y1.out.step hb); have T_y2 : Hid (BK 26 y2 (y1.heap.size) (quC s n (.slice Ac yc.length cc))) := Lib.hid hM; clear hM hP hb B_y1 Q_y1 E_y1 R_y1)
  obtain ⟨g5, hg5⟩ : ∃ b, b = y1.heap.size := ⟨_, rfl⟩
  have HRS : Hid (g2 < g5 ∧ w.heap.size ≤ g5) := Lib.hid (by rw [hg5]; have h1 := HRW.out; have h2 := HB5.out; exact ⟨by omega, h2⟩)
  rw [← hg5] at T_y2
  try rw [← hg5]
  clear hg5 HB5 HRW
  go_upto_region 4 with first
    | (refine wpList_store_in (by rfl) 24 (.tmp 11) (.const (.slice none 0 0)) rfl rfl g5 6 1 (by first | rfl | go_simp) (.slice none 0 0) rfl 26 (quC s n (.slice Ac yc.length cc)) [.slice none 0 0] T_y2.out rfl rfl (by kernel_rfl) (by show 6 + 1 ≤ 7; decide) (ones rfl) ?_; intro y3 hM hP; have T_y3 : Hid (BK 26 y3 g5 (quC s n (.slice none 0 0))) := Lib.hid hM; have B_y3 : Hid (Below w.heap.size w y3) := Lib.hid (hP.below B_y2.out HRS.out.2); have Q_y3 : Hid (BK 26 y3 g1 (quC s n (.slice A l.length c))) := Lib.hid (hP.other Q_y2.out (by have h1 := HRS.out; have h2 := HG12.out; omega)); have E_y3 : Hid (BK 34 y3 gEn (enX x xa xc)) := Lib.hid (hP.other E_y2.out (by have h1 := HRS.out; have h2 := HG12.out; omega)); have R_y3 : Hid (BK 26 y3 g2 (quC Sp.zero 0 (.slice none 0 0))) := Lib.hid (hP.other R_y2.out (by have h1 := HRS.out; have h2 := HG12.out; omega)); clear hM hP B_y2 Q_y2 E_y2 R_y2 T_y2)
  obtain ⟨B0, hB0⟩ : ∃ b, b = y3.heap.size := ⟨_, rfl⟩
  have HG5 : Hid (g5 < B0) := Lib.hid (by rw [hB0]; exact T_y3.out.lt)
  have HWB : Hid (w.heap.size ≤ B0) := Lib.hid (by rw [hB0]; exact B_y3.out.size)
  have HB0 : Hid (B0 ≤ y3.heap.size) := Lib.hid (by rw [hB0]; exact Nat.le_refl _)
  have HW5 : Hid (w.heap.size ≤ g5) := Lib.hid HRS.out.2
  have HG1B : Hid (g1 < B0 ∧ g2 < B0) := Lib.hid (by have h1 := HG12.out; have h2 := HRS.out; have h3 := HG5.out; omega)
  clear hB0
  have HGEB : Hid (gEn < B0 ∧ gEn < g5) := Lib.hid (by have h1 := HG12.out; have h2 := HRS.out; have h3 := HG5.out; omega)
  have d6 := Q_y3.out.cell 6 rfl
  go_wp2_with fail
  clear d6
  go_loopg [15, 6] l.length (fun g v u wr => ∃ (j : Nat) (bq : Bool) (A5 : Option Addr) (c5 : Nat) (ys : List EE), j + g = l.length ∧ v = .int .i64 j ∧ u = .bool bq ∧ BK 26 wr g5 (quC s n (.slice A5 ys.length c5)) ∧ OwL B0 wr.heap.size wr (.slice A5 ys.length c5) ys ∧ insF x ((l.map EE.x).take j) = (bq, ys.map EE.x) ∧ BK 34 wr gEn (enX x xa xc) ∧ BK 26 wr g2 (quC Sp.zero 0 (.slice none 0 0)) ∧ Below w.heap.size w wr ∧ B0 ≤ wr.heap.size)
  case atStart => exact ⟨0, false, none, 0, [], by omega, rfl, rfl, T_y3.out, OwL.nil _ _ _, rfl, E_y3.out, R_y3.out, B_y3.out, HB0.out⟩
  case round =>
    clear B_y3 Q_y3 E_y3 R_y3 T_y3
    obtain ⟨j, bq, A5, c5, ys, hjg, rfl, rfl, ht, hu, hys, he, hr, hbb, hzz⟩ := hrel
    have T_wr := Lib.hid ht
    have U_wr := Lib.hid hu
    have E_wr := Lib.hid he
    have R_wr := Lib.hid hr
    have B_wr := Lib.hid hbb
    have HZZ := Lib.hid hzz
    have HJ := Lib.hid hjg
    have HYS := Lib.hid hys
    have HLN : Hid (ys.length ≤ 99990) := Lib.hid (by have h1 := insF_le x ((l.map EE.x).take j); rw [hys, List.length_map, List.length_take, List.length_map] at h1; have h2 := HL.out; omega)
    clear ht hu he hr hbb hzz hys
    obtain ⟨N0, hN0⟩ : ∃ k, k = wr.heap.size := ⟨_, rfl⟩
    have HBN : Hid (B0 ≤ N0) := Lib.hid (by rw [hN0]; exact HZZ.out)
    have HZ0 : Hid (N0 ≤ wr.heap.size) := Lib.hid (by rw [hN0]; exact Nat.le_refl _)
    rw [← hN0] at U_wr
    have Z_wr : Hid (N0 ≤ wr.heap.size) := Lib.hid (by rw [hN0]; exact Nat.le_refl _)
    clear hN0
    cases gk with
    | zero =>
      obtain rfl : j = l.length := by omega
      clear hjg
      have hfin : insE x (bq, ys.map EE.x) = insQ (l.map EE.x) x := by have h1 := HYS.out; rw [List.take_of_length_le (by simp)] at h1; rw [← h1]; exact HIN.out
      have HF := Lib.hid hfin
      clear hfin
      cases bq with
      | true =>
        go_wp2_with first
          | (refine wpList_load_v (by rfl) 26 (.tmp 5) rfl ⟨g5, 0, none⟩ rfl (.agg (quC s n (.slice A5 ys.length c5)).toArray) (load_qu T_wr.out) ?_)
          | (refine S2.wpList_store_all (by rfl) 26 (.tmp 4) (.tmp 50) rfl rfl g2 rfl (quC s n (.slice A5 ys.length c5)) rfl 26 (quC Sp.zero 0 (.slice none 0 0)) R_wr.out quSize rfl (quC_one _ rfl) ?_; intro we hM hP; have ME := Lib.hid hM; have PE := Lib.hid hP; clear hM hP)
        exact bodyPost_ret (v := quV s n (.slice A5 ys.length c5)) (S2.res_cell rfl _ _ g2 26 (quC s n (.slice A5 ys.length c5)) _ rfl ME.out Tryd.underlying26 rfl quSize) rfl ⟨A5, c5, ys, rfl, HF.out, lstE_len U_wr.out.1, lst_weak (lst_put U_wr.out.1 PE.out HG1B.out.2) HWB.out, PE.out.below B_wr.out (by have := HG12.out; omega)⟩
      | false =>
        go_upto_region 13 with fail
        have C_wr : Hid (Below wr.heap.size wr wr) := Lib.hid (Below.refl _ _)
        have HZW6 : Hid (N0 ≤ wr.heap.size) := Lib.hid Z_wr.out
        clear Z_wr
        obtain ⟨y4, hy4⟩ : ∃ y4, y4 = World.drew wr := ⟨_, rfl⟩
        have hbD : Below wr.heap.size wr y4 := by rw [hy4]; exact (Below.refl _ _).drew
        have T_y4 : Hid (BK 26 y4 g5 (quC s n (.slice A5 ys.length c5))) := Lib.hid (T_wr.out.step hbD)
        have U_y4 : Hid (OwL B0 N0 y4 (.slice A5 ys.length c5) ys) := Lib.hid (OwL.step U_wr.out hbD)
        have E_y4 : Hid (BK 34 y4 gEn (enX x xa xc)) := Lib.hid (E_wr.out.step hbD)
        have R_y4 : Hid (BK 26 y4 g2 (quC Sp.zero 0 (.slice none 0 0))) := Lib.hid (R_wr.out.step hbD)
        have B_y4 : Hid (Below w.heap.size w y4) := Lib.hid (stepB B_wr.out hbD)
        have C_y4 : Hid (Below wr.heap.size wr y4) := Lib.hid (stepB C_wr.out hbD)
        clear T_wr U_wr E_wr R_wr B_wr C_wr
        have hbd : (fun w' => BK 34 w' gEn (enX x xa xc)) (World.drew wr) := by rw [← hy4]; exact E_y4.out
        have hSD : (fun w' => BK 34 w' gEn (enX x xa xc)) y4 := E_y4.out
        have HWD := Lib.hid hy4
        clear hy4 hbD
        refine wp_region_held_drew (S := fun w' => BK 34 w' gEn (enX x xa xc)) (by kernel_rfl) hbd (fun hHeld => ?_)
        rw [← HWD.out]
        clear hHeld
        have hHeld := hSD
        clear hSD hbd HWD
        refine wpAnyH_take (i := 0) (v := (.pointer (some ⟨g5, 6, none⟩))) (get_ops _ _ _ rfl) (by kernel_rfl) (by kernel_rfl) (by kernel_rfl) (fun _ _ _ h => h) (Or.inl ⟨by rfl, fun wS hSw => by (try dsimp only at hSw); go_simp⟩) hHeld ?_
        try simp only [Act.put, List.setIfInBounds_toArray, List.set_cons_zero, List.set_cons_succ]
        refine wpAnyH_take (i := 2) (v := (.agg (enX x xa xc).toArray)) (get_ops _ _ _ rfl) (by kernel_rfl) (by kernel_rfl) (by kernel_rfl) (fun _ _ _ h => h) (Or.inl ⟨by rfl, fun wS hSw => by (try dsimp only at hSw); exact exec_load 34 _ rfl ⟨gEn, 0, none⟩ (by go_simp) _ (load_en0 hSw)⟩) hHeld ?_
        try simp only [Act.put, List.setIfInBounds_toArray, List.set_cons_zero, List.set_cons_succ]
        refine wpAnyH_ready (rs := [1, 3]) (by kernel_rfl) (by simp) ?_
        refine (AllReadyH.cons (get_ops _ _ _ rfl) (fun K hK => ?_) (AllReadyH.cons (get_ops _ _ _ rfl) (fun K hK => ?_) AllReadyH.nil))
        · refine wp_load2 24 _ rfl ⟨g5, 6, none⟩ (by first | rfl | go_simp) (.slice A5 ys.length c5) (by have cS := T_y4.out.cell 6 rfl; go_simp) ?_
          clear hHeld
          refine hK.out _ _ E_y4.out (fun hHeld => ?_)
          clear hK K
          try simp only [Act.put, List.setIfInBounds_toArray, List.set_cons_zero, List.set_cons_succ]
          refine wpAnyH_ready (rs := [3]) (by kernel_rfl) (by simp) ?_
          refine (AllReadyH.cons (get_ops _ _ _ rfl) (fun K hK => ?_) AllReadyH.nil)
          have HZ6 : Hid (N0 ≤ y4.heap.size) := Lib.hid (Nat.le_trans HZW6.out C_y4.out.size)
          go_simp
          refine (HCE.out x xa xc y4 (HXL.out _ B_y4.out) HXP.out).mono ?_
          rintro e y5 ⟨a6, ac6, rfl, hpl, hnl, hb⟩
          have T_y5 : Hid (BK 26 y5 g5 (quC s n (.slice A5 ys.length c5))) := Lib.hid (T_y4.out.step hb)
          have U_y5 : Hid (OwL B0 N0 y5 (.slice A5 ys.length c5) ys) := Lib.hid (OwL.step U_y4.out hb)
          have E_y5 : Hid (BK 34 y5 gEn (enX x xa xc)) := Lib.hid (E_y4.out.step hb)
          have R_y5 : Hid (BK 26 y5 g2 (quC Sp.zero 0 (.slice none 0 0))) := Lib.hid (R_y4.out.step hb)
          have B_y5 : Hid (Below w.heap.size w y5) := Lib.hid (stepB B_y4.out hb)
          have C_y5 : Hid (Below wr.heap.size wr y5) := Lib.hid (stepB C_y4.out hb)
          clear T_y4 U_y4 E_y4 R_y4 B_y4 C_y4
          have P_y5 : Hid (PN y5 y4.heap.size a6 x.m.props) := Lib.hid ⟨hpl, hnl⟩
          have Y_y5 : Hid (y4.heap.size ≤ y5.heap.size) := Lib.hid hb.size
          clear hpl hnl
          clear hHeld hb
          go_wp2_with fail
          refine hK.out _ _ E_y5.out (fun hHeld => ?_)
          clear hK K
          try simp only [Act.put, List.setIfInBounds_toArray, List.set_cons_zero, List.set_cons_succ]
          refine wpAnyH_ready (rs := [4]) (by kernel_rfl) (by simp) ?_
          refine (AllReadyH.cons (get_ops _ _ _ rfl) (fun K hK => ?_) AllReadyH.nil)
          go_simp
          obtain ⟨vb6, hvb⟩ : ∃ n, n = y5.heap.size := ⟨_, rfl⟩
          refine name_world (C := fun w9 => K _ w9) (y5.alloc (.cells (gE (⟨x, a6, ac6⟩ : EE)).toArray 34)) ?_
          intro y6 hy6
          have hb : Below y5.heap.size y5 y6 := by rw [hy6]; exact S2.below_new _ _
          have hN : BK 34 y6 vb6 (gE (⟨x, a6, ac6⟩ : EE)) := by rw [hy6, hvb]; exact BK.new _ _ _
          have T_y6 : Hid (BK 26 y6 g5 (quC s n (.slice A5 ys.length c5))) := Lib.hid (T_y5.out.step hb)
          have U_y6 : Hid (OwL B0 N0 y6 (.slice A5 ys.length c5) ys) := Lib.hid (OwL.step U_y5.out hb)
          have E_y6 : Hid (BK 34 y6 gEn (enX x xa xc)) := Lib.hid (E_y5.out.step hb)
          have R_y6 : Hid (BK 26 y6 g2 (quC Sp.zero 0 (.slice none 0 0))) := Lib.hid (R_y5.out.step hb)
          have B_y6 : Hid (Below w.heap.size w y6) := Lib.hid (stepB B_y5.out hb)
          have C_y6 : Hid (Below wr.heap.size wr y6) := Lib.hid (stepB C_y5.out hb)
          have P_y6 : Hid (PN y6 y4.heap.size a6 x.m.props) := Lib.hid (PN.step P_y5.out hb)
          have Y_y6 : Hid (y4.heap.size ≤ y6.heap.size) := Lib.hid (Nat.le_trans Y_y5.out hb.size)
          clear T_y5 U_y5 E_y5 R_y5 B_y5 C_y5 P_y5 Y_y5
          have X_y6 := Lib.hid hN
          try rw [← hvb]
          clear hHeld hb hN hy6 hvb
          refine hK.out _ _ E_y6.out (fun hHeld => ?_)
          clear hK K
          try simp only [Act.put, List.setIfInBounds_toArray, List.set_cons_zero, List.set_cons_succ]
          refine wpAnyH_ready (rs := [5]) (by kernel_rfl) (by simp) ?_
          refine (AllReadyH.cons (get_ops _ _ _ rfl) (fun K hK => ?_) AllReadyH.nil)
          have HW6 : Hid (y4.heap.size ≤ y6.heap.size) := Lib.hid Y_y6.out
          refine oper_owl (B := B0) (N := N0) (Bp := y4.heap.size) _ _ rfl (.slice A5 ys.length c5) ys (⟨x, a6, ac6⟩ : EE) (by go_simp) U_y6.out (by go_simp) X_y6.out P_y6.out.1 P_y6.out.2 HBN.out HZ6.out HW6.out (Nat.le_trans HLN.out (by decide)) ?_
          intro v6 y7 hO hK9 hsz9
          obtain ⟨A6, c6, rfl, hc6, hen6⟩ := LN.of gE_len hO.1
          have T_y7 : Hid (BK 26 y7 g5 (quC s n (.slice A5 ys.length c5))) := Lib.hid (hK9.bk T_y6.out (Or.inl HG5.out))
          have E_y7 : Hid (BK 34 y7 gEn (enX x xa xc)) := Lib.hid (hK9.bk E_y6.out (Or.inl HGEB.out.1))
          have R_y7 : Hid (BK 26 y7 g2 (quC Sp.zero 0 (.slice none 0 0))) := Lib.hid (hK9.bk R_y6.out (Or.inl HG1B.out.2))
          have B_y7 : Hid (Below w.heap.size w y7) := Lib.hid (hK9.below B_y6.out HWB.out)
          have U_y7 : Hid (OwL B0 y7.heap.size y7 (.slice A6 (ys ++ [(⟨x, a6, ac6⟩ : EE)]).length c6) (ys ++ [(⟨x, a6, ac6⟩ : EE)])) := Lib.hid hO
          have Z_y7 : Hid (N0 ≤ y7.heap.size) := Lib.hid (Nat.le_trans (Nat.le_trans HZ6.out HW6.out) hsz9)
          have HC6 := Lib.hid hc6
          have HSZ9_6 := Lib.hid hsz9
          have S_y7 : Hid (y7.heap.size ≤ y7.heap.size) := Lib.hid (Nat.le_refl _)
          clear hO hK9 hsz9 hc6 hen6 hHeld T_y6 U_y6 E_y6 R_y6 B_y6 C_y6 P_y6 Y_y6 X_y6
          refine hK.out _ _ E_y7.out (fun hHeld => ?_)
          clear hK K
          try simp only [Act.put, List.setIfInBounds_toArray, List.set_cons_zero, List.set_cons_succ]
          refine wpAnyH_take (i := 6) (v := (.pointer (some ⟨g5, 6, none⟩))) (get_ops _ _ _ rfl) (by kernel_rfl) (by kernel_rfl) (by kernel_rfl) (fun _ _ _ h => h) (Or.inl ⟨by rfl, fun wS hSw => by (try dsimp only at hSw); go_simp⟩) hHeld ?_
          try simp only [Act.put, List.setIfInBounds_toArray, List.set_cons_zero, List.set_cons_succ]
          refine wpAnyH_ready (rs := [7]) (by kernel_rfl) (by simp) ?_
          refine (AllReadyH.cons (get_ops _ _ _ rfl) (fun K hK => ?_) AllReadyH.nil)
          refine wp_store 24 _ _ rfl rfl ⟨g5, 6, none⟩ (by go_simp) (.slice A6 (ys ++ [(⟨x, a6, ac6⟩ : EE)]).length c6) (by first | rfl | go_simp) _ (run_store_part y7 g5 6 1 26 24 (quC s n (.slice A5 ys.length c5)) [(.slice A6 (ys ++ [(⟨x, a6, ac6⟩ : EE)]).length c6)] _ rfl rfl (by kernel_rfl) T_y7.out (by show 6 + 1 ≤ 7; decide) (ones rfl)) ?_
          have hM : BK 26 (y7.setRow g5 (putC (quC s n (.slice A5 ys.length c5)) 6 [(.slice A6 (ys ++ [(⟨x, a6, ac6⟩ : EE)]).length c6)]).toArray) g5 (quC s n (.slice A6 (ys ++ [(⟨x, a6, ac6⟩ : EE)]).length c6)) := MT.put T_y7.out 6 [(.slice A6 (ys ++ [(⟨x, a6, ac6⟩ : EE)]).length c6)]
          have hP := S2.put_row y7 g5 (putC (quC s n (.slice A5 ys.length c5)) 6 [(.slice A6 (ys ++ [(⟨x, a6, ac6⟩ : EE)]).length c6)]).toArray
          refine name_world (C := fun w9 => K _ w9) _ ?_
          intro y8 hy8
          rw [← hy8] at hM hP
          clear hy8
          have T_y8 : Hid (BK 26 y8 g5 (quC s n (.slice A6 (ys ++ [(⟨x, a6, ac6⟩ : EE)]).length c6))) := Lib.hid (hM)
          have U_y8 : Hid (OwL B0 y7.heap.size y8 (.slice A6 (ys ++ [(⟨x, a6, ac6⟩ : EE)]).length c6) (ys ++ [(⟨x, a6, ac6⟩ : EE)])) := Lib.hid (OwL.put U_y7.out hP HG5.out)
          have E_y8 : Hid (BK 34 y8 gEn (enX x xa xc)) := Lib.hid (hP.other E_y7.out (by have h1 := HGEB.out.2; omega))
          have R_y8 : Hid (BK 26 y8 g2 (quC Sp.zero 0 (.slice none 0 0))) := Lib.hid (hP.other R_y7.out (by have h1 := HRS.out; omega))
          have B_y8 : Hid (Below w.heap.size w y8) := Lib.hid (hP.below B_y7.out HW5.out)
          have Z_y8 : Hid (N0 ≤ y8.heap.size) := Lib.hid (by have h9 := hP.size; have h8 := Z_y7.out; omega)
          have S_y8 : Hid (y7.heap.size ≤ y8.heap.size) := Lib.hid (by have h9 := hP.size; have h8 := S_y7.out; omega)
          clear T_y7 U_y7 E_y7 R_y7 B_y7 Z_y7 S_y7
          clear hM hP hHeld
          refine hK.out _ _ E_y8.out (fun hHeld => ?_)
          clear hK K
          try simp only [Act.put, List.setIfInBounds_toArray, List.set_cons_zero, List.set_cons_succ]
          refine wpAnyH_done (by kernel_rfl) ?_ _
          go_wp2_with first
            | (refine wpList_load_v (by rfl) 26 (.tmp 5) rfl ⟨g5, 0, none⟩ rfl (.agg (quC s n (.slice A6 (ys ++ [(⟨x, a6, ac6⟩ : EE)]).length c6)).toArray) (load_qu T_y8.out) ?_)
            | (refine S2.wpList_store_all (by rfl) 26 (.tmp 4) (.tmp 50) rfl rfl g2 rfl (quC s n (.slice A6 (ys ++ [(⟨x, a6, ac6⟩ : EE)]).length c6)) rfl 26 (quC Sp.zero 0 (.slice none 0 0)) R_y8.out quSize rfl (quC_one _ rfl) ?_; intro we hM hP; have ME := Lib.hid hM; have PE := Lib.hid hP; clear hM hP)
          exact bodyPost_ret (v := quV s n (.slice A6 (ys ++ [(⟨x, a6, ac6⟩ : EE)]).length c6)) (S2.res_cell rfl _ _ g2 26 (quC s n (.slice A6 (ys ++ [(⟨x, a6, ac6⟩ : EE)]).length c6)) _ rfl ME.out Tryd.underlying26 rfl quSize) rfl ⟨A6, c6, (ys ++ [(⟨x, a6, ac6⟩ : EE)]), rfl, by rw [List.map_append]; exact HF.out, lstE_len U_y8.out.1, lst_weak (lst_put U_y8.out.1 PE.out HG1B.out.2) HWB.out, PE.out.below B_y8.out (by have := HG12.out; omega)⟩
        · have HZ6 : Hid (N0 ≤ y4.heap.size) := Lib.hid (Nat.le_trans HZW6.out C_y4.out.size)
          go_simp
          refine (HCE.out x xa xc y4 (HXL.out _ B_y4.out) HXP.out).mono ?_
          rintro e y5 ⟨a6, ac6, rfl, hpl, hnl, hb⟩
          have T_y5 : Hid (BK 26 y5 g5 (quC s n (.slice A5 ys.length c5))) := Lib.hid (T_y4.out.step hb)
          have U_y5 : Hid (OwL B0 N0 y5 (.slice A5 ys.length c5) ys) := Lib.hid (OwL.step U_y4.out hb)
          have E_y5 : Hid (BK 34 y5 gEn (enX x xa xc)) := Lib.hid (E_y4.out.step hb)
          have R_y5 : Hid (BK 26 y5 g2 (quC Sp.zero 0 (.slice none 0 0))) := Lib.hid (R_y4.out.step hb)
          have B_y5 : Hid (Below w.heap.size w y5) := Lib.hid (stepB B_y4.out hb)
          have C_y5 : Hid (Below wr.heap.size wr y5) := Lib.hid (stepB C_y4.out hb)
          clear T_y4 U_y4 E_y4 R_y4 B_y4 C_y4
          have P_y5 : Hid (PN y5 y4.heap.size a6 x.m.props) := Lib.hid ⟨hpl, hnl⟩
          have Y_y5 : Hid (y4.heap.size ≤ y5.heap.size) := Lib.hid hb.size
          clear hpl hnl
          clear hHeld hb
          go_wp2_with fail
          refine hK.out _ _ E_y5.out (fun hHeld => ?_)
          clear hK K
          try simp only [Act.put, List.setIfInBounds_toArray, List.set_cons_zero, List.set_cons_succ]
          refine wpAnyH_ready (rs := [1, 4]) (by kernel_rfl) (by simp) ?_
          refine (AllReadyH.cons (get_ops _ _ _ rfl) (fun K hK => ?_) (AllReadyH.cons (get_ops _ _ _ rfl) (fun K hK => ?_) AllReadyH.nil))
          · refine wp_load2 24 _ rfl ⟨g5, 6, none⟩ (by first | rfl | go_simp) (.slice A5 ys.length c5) (by have cS := T_y5.out.cell 6 rfl; go_simp) ?_
            clear hHeld
            refine hK.out _ _ E_y5.out (fun hHeld => ?_)
            clear hK K
            try simp only [Act.put, List.setIfInBounds_toArray, List.set_cons_zero, List.set_cons_succ]
            refine wpAnyH_ready (rs := [4]) (by kernel_rfl) (by simp) ?_
            refine (AllReadyH.cons (get_ops _ _ _ rfl) (fun K hK => ?_) AllReadyH.nil)
            go_simp
            obtain ⟨vb6, hvb⟩ : ∃ n, n = y5.heap.size := ⟨_, rfl⟩
            refine name_world (C := fun w9 => K _ w9) (y5.alloc (.cells (gE (⟨x, a6, ac6⟩ : EE)).toArray 34)) ?_
            intro y6 hy6
            have hb : Below y5.heap.size y5 y6 := by rw [hy6]; exact S2.below_new _ _
            have hN : BK 34 y6 vb6 (gE (⟨x, a6, ac6⟩ : EE)) := by rw [hy6, hvb]; exact BK.new _ _ _
            have T_y6 : Hid (BK 26 y6 g5 (quC s n (.slice A5 ys.length c5))) := Lib.hid (T_y5.out.step hb)
            have U_y6 : Hid (OwL B0 N0 y6 (.slice A5 ys.length c5) ys) := Lib.hid (OwL.step U_y5.out hb)
            have E_y6 : Hid (BK 34 y6 gEn (enX x xa xc)) := Lib.hid (E_y5.out.step hb)
            have R_y6 : Hid (BK 26 y6 g2 (quC Sp.zero 0 (.slice none 0 0))) := Lib.hid (R_y5.out.step hb)
            have B_y6 : Hid (Below w.heap.size w y6) := Lib.hid (stepB B_y5.out hb)
            have C_y6 : Hid (Below wr.heap.size wr y6) := Lib.hid (stepB C_y5.out hb)
            have P_y6 : Hid (PN y6 y4.heap.size a6 x.m.props) := Lib.hid (PN.step P_y5.out hb)
            have Y_y6 : Hid (y4.heap.size ≤ y6.heap.size) := Lib.hid (Nat.le_trans Y_y5.out hb.size)
            clear T_y5 U_y5 E_y5 R_y5 B_y5 C_y5 P_y5 Y_y5
            have X_y6 := Lib.hid hN
            try rw [← hvb]
            clear hHeld hb hN hy6 hvb
            refine hK.out _ _ E_y6.out (fun hHeld => ?_)
            clear hK K
            try simp only [Act.put, List.setIfInBounds_toArray, List.set_cons_zero, List.set_cons_succ]
            refine wpAnyH_ready (rs := [5]) (by kernel_rfl) (by simp) ?_
            refine (AllReadyH.cons (get_ops _ _ _ rfl) (fun K hK => ?_) AllReadyH.nil)
            have HW6 : Hid (y4.heap.size ≤ y6.heap.size) := Lib.hid Y_y6.out
            refine oper_owl (B := B0) (N := N0) (Bp := y4.heap.size) _ _ rfl (.slice A5 ys.length c5) ys (⟨x, a6, ac6⟩ : EE) (by go_simp) U_y6.out (by go_simp) X_y6.out P_y6.out.1 P_y6.out.2 HBN.out HZ6.out HW6.out (Nat.le_trans HLN.out (by decide)) ?_
            intro v6 y7 hO hK9 hsz9
            obtain ⟨A6, c6, rfl, hc6, hen6⟩ := LN.of gE_len hO.1
            have T_y7 : Hid (BK 26 y7 g5 (quC s n (.slice A5 ys.length c5))) := Lib.hid (hK9.bk T_y6.out (Or.inl HG5.out))
            have E_y7 : Hid (BK 34 y7 gEn (enX x xa xc)) := Lib.hid (hK9.bk E_y6.out (Or.inl HGEB.out.1))
            have R_y7 : Hid (BK 26 y7 g2 (quC Sp.zero 0 (.slice none 0 0))) := Lib.hid (hK9.bk R_y6.out (Or.inl HG1B.out.2))
            have B_y7 : Hid (Below w.heap.size w y7) := Lib.hid (hK9.below B_y6.out HWB.out)
            have U_y7 : Hid (OwL B0 y7.heap.size y7 (.slice A6 (ys ++ [(⟨x, a6, ac6⟩ : EE)]).length c6) (ys ++ [(⟨x, a6, ac6⟩ : EE)])) := Lib.hid hO
            have Z_y7 : Hid (N0 ≤ y7.heap.size) := Lib.hid (Nat.le_trans (Nat.le_trans HZ6.out HW6.out) hsz9)
            have HC6 := Lib.hid hc6
            have HSZ9_6 := Lib.hid hsz9
            have S_y7 : Hid (y7.heap.size ≤ y7.heap.size) := Lib.hid (Nat.le_refl _)
            clear hO hK9 hsz9 hc6 hen6 hHeld T_y6 U_y6 E_y6 R_y6 B_y6 C_y6 P_y6 Y_y6 X_y6
            refine hK.out _ _ E_y7.out (fun hHeld => ?_)
            clear hK K
            try simp only [Act.put, List.setIfInBounds_toArray, List.set_cons_zero, List.set_cons_succ]
            refine wpAnyH_take (i := 6) (v := (.pointer (some ⟨g5, 6, none⟩))) (get_ops _ _ _ rfl) (by kernel_rfl) (by kernel_rfl) (by kernel_rfl) (fun _ _ _ h => h) (Or.inl ⟨by rfl, fun wS hSw => by (try dsimp only at hSw); go_simp⟩) hHeld ?_
            try simp only [Act.put, List.setIfInBounds_toArray, List.set_cons_zero, List.set_cons_succ]
            refine wpAnyH_ready (rs := [7]) (by kernel_rfl) (by simp) ?_
            refine (AllReadyH.cons (get_ops _ _ _ rfl) (fun K hK => ?_) AllReadyH.nil)
            refine wp_store 24 _ _ rfl rfl ⟨g5, 6, none⟩ (by go_simp) (.slice A6 (ys ++ [(⟨x, a6, ac6⟩ : EE)]).length c6) (by first | rfl | go_simp) _ (run_store_part y7 g5 6 1 26 24 (quC s n (.slice A5 ys.length c5)) [(.slice A6 (ys ++ [(⟨x, a6, ac6⟩ : EE)]).length c6)] _ rfl rfl (by kernel_rfl) T_y7.out (by show 6 + 1 ≤ 7; decide) (ones rfl)) ?_
            have hM : BK 26 (y7.setRow g5 (putC (quC s n (.slice A5 ys.length c5)) 6 [(.slice A6 (ys ++ [(⟨x, a6, ac6⟩ : EE)]).length c6)]).toArray) g5 (quC s n (.slice A6 (ys ++ [(⟨x, a6, ac6⟩ : EE)]).length c6)) := MT.put T_y7.out 6 [(.slice A6 (ys ++ [(⟨x, a6, ac6⟩ : EE)]).length c6)]
            have hP := S2.put_row y7 g5 (putC (quC s n (.slice A5 ys.length c5)) 6 [(.slice A6 (ys ++ [(⟨x, a6, ac6⟩ : EE)]).length c6)]).toArray
            refine name_world (C := fun w9 => K _ w9) _ ?_
            intro y8 hy8
            rw [← hy8] at hM hP
            clear hy8
            have T_y8 : Hid (BK 26 y8 g5 (quC s n (.slice A6 (ys ++ [(⟨x, a6, ac6⟩ : EE)]).length c6))) := Lib.hid (hM)
            have U_y8 : Hid (OwL B0 y7.heap.size y8 (.slice A6 (ys ++ [(⟨x, a6, ac6⟩ : EE)]).length c6) (ys ++ [(⟨x, a6, ac6⟩ : EE)])) := Lib.hid (OwL.put U_y7.out hP HG5.out)
            have E_y8 : Hid (BK 34 y8 gEn (enX x xa xc)) := Lib.hid (hP.other E_y7.out (by have h1 := HGEB.out.2; omega))
            have R_y8 : Hid (BK 26 y8 g2 (quC Sp.zero 0 (.slice none 0 0))) := Lib.hid (hP.other R_y7.out (by have h1 := HRS.out; omega))
            have B_y8 : Hid (Below w.heap.size w y8) := Lib.hid (hP.below B_y7.out HW5.out)
            have Z_y8 : Hid (N0 ≤ y8.heap.size) := Lib.hid (by have h9 := hP.size; have h8 := Z_y7.out; omega)
            have S_y8 : Hid (y7.heap.size ≤ y8.heap.size) := Lib.hid (by have h9 := hP.size; have h8 := S_y7.out; omega)
            clear T_y7 U_y7 E_y7 R_y7 B_y7 Z_y7 S_y7
            clear hM hP hHeld
            refine hK.out _ _ E_y8.out (fun hHeld => ?_)
            clear hK K
            try simp only [Act.put, List.setIfInBounds_toArray, List.set_cons_zero, List.set_cons_succ]
            refine wpAnyH_done (by kernel_rfl) ?_ _
            go_wp2_with first
              | (refine wpList_load_v (by rfl) 26 (.tmp 5) rfl ⟨g5, 0, none⟩ rfl (.agg (quC s n (.slice A6 (ys ++ [(⟨x, a6, ac6⟩ : EE)]).length c6)).toArray) (load_qu T_y8.out) ?_)
              | (refine S2.wpList_store_all (by rfl) 26 (.tmp 4) (.tmp 50) rfl rfl g2 rfl (quC s n (.slice A6 (ys ++ [(⟨x, a6, ac6⟩ : EE)]).length c6)) rfl 26 (quC Sp.zero 0 (.slice none 0 0)) R_y8.out quSize rfl (quC_one _ rfl) ?_; intro we hM hP; have ME := Lib.hid hM; have PE := Lib.hid hP; clear hM hP)
            exact bodyPost_ret (v := quV s n (.slice A6 (ys ++ [(⟨x, a6, ac6⟩ : EE)]).length c6)) (S2.res_cell rfl _ _ g2 26 (quC s n (.slice A6 (ys ++ [(⟨x, a6, ac6⟩ : EE)]).length c6)) _ rfl ME.out Tryd.underlying26 rfl quSize) rfl ⟨A6, c6, (ys ++ [(⟨x, a6, ac6⟩ : EE)]), rfl, by rw [List.map_append]; exact HF.out, lstE_len U_y8.out.1, lst_weak (lst_put U_y8.out.1 PE.out HG1B.out.2) HWB.out, PE.out.below B_y8.out (by have := HG12.out; omega)⟩
          · go_simp
            obtain ⟨vb6, hvb⟩ : ∃ n, n = y5.heap.size := ⟨_, rfl⟩
            refine name_world (C := fun w9 => K _ w9) (y5.alloc (.cells (gE (⟨x, a6, ac6⟩ : EE)).toArray 34)) ?_
            intro y6 hy6
            have hb : Below y5.heap.size y5 y6 := by rw [hy6]; exact S2.below_new _ _
            have hN : BK 34 y6 vb6 (gE (⟨x, a6, ac6⟩ : EE)) := by rw [hy6, hvb]; exact BK.new _ _ _
            have T_y6 : Hid (BK 26 y6 g5 (quC s n (.slice A5 ys.length c5))) := Lib.hid (T_y5.out.step hb)
            have U_y6 : Hid (OwL B0 N0 y6 (.slice A5 ys.length c5) ys) := Lib.hid (OwL.step U_y5.out hb)
            have E_y6 : Hid (BK 34 y6 gEn (enX x xa xc)) := Lib.hid (E_y5.out.step hb)
            have R_y6 : Hid (BK 26 y6 g2 (quC Sp.zero 0 (.slice none 0 0))) := Lib.hid (R_y5.out.step hb)
            have B_y6 : Hid (Below w.heap.size w y6) := Lib.hid (stepB B_y5.out hb)
            have C_y6 : Hid (Below wr.heap.size wr y6) := Lib.hid (stepB C_y5.out hb)
            have P_y6 : Hid (PN y6 y4.heap.size a6 x.m.props) := Lib.hid (PN.step P_y5.out hb)
            have Y_y6 : Hid (y4.heap.size ≤ y6.heap.size) := Lib.hid (Nat.le_trans Y_y5.out hb.size)
            clear T_y5 U_y5 E_y5 R_y5 B_y5 C_y5 P_y5 Y_y5
            have X_y6 := Lib.hid hN
            try rw [← hvb]
            clear hHeld hb hN hy6 hvb
            refine hK.out _ _ E_y6.out (fun hHeld => ?_)
            clear hK K
            try simp only [Act.put, List.setIfInBounds_toArray, List.set_cons_zero, List.set_cons_succ]
            refine wpAnyH_ready (rs := [1]) (by kernel_rfl) (by simp) ?_
            refine (AllReadyH.cons (get_ops _ _ _ rfl) (fun K hK => ?_) AllReadyH.nil)
            refine wp_load2 24 _ rfl ⟨g5, 6, none⟩ (by first | rfl | go_simp) (.slice A5 ys.length c5) (by have cS := T_y6.out.cell 6 rfl; go_simp) ?_
            clear hHeld
            refine hK.out _ _ E_y6.out (fun hHeld => ?_)
            clear hK K
            try simp only [Act.put, List.setIfInBounds_toArray, List.set_cons_zero, List.set_cons_succ]
            refine wpAnyH_ready (rs := [5]) (by kernel_rfl) (by simp) ?_
            refine (AllReadyH.cons (get_ops _ _ _ rfl) (fun K hK => ?_) AllReadyH.nil)
            have HW6 : Hid (y4.heap.size ≤ y6.heap.size) := Lib.hid Y_y6.out
            refine oper_owl (B := B0) (N := N0) (Bp := y4.heap.size) _ _ rfl (.slice A5 ys.length c5) ys (⟨x, a6, ac6⟩ : EE) (by go_simp) U_y6.out (by go_simp) X_y6.out P_y6.out.1 P_y6.out.2 HBN.out HZ6.out HW6.out (Nat.le_trans HLN.out (by decide)) ?_
            intro v6 y7 hO hK9 hsz9
            obtain ⟨A6, c6, rfl, hc6, hen6⟩ := LN.of gE_len hO.1
            have T_y7 : Hid (BK 26 y7 g5 (quC s n (.slice A5 ys.length c5))) := Lib.hid (hK9.bk T_y6.out (Or.inl HG5.out))
            have E_y7 : Hid (BK 34 y7 gEn (enX x xa xc)) := Lib.hid (hK9.bk E_y6.out (Or.inl HGEB.out.1))
            have R_y7 : Hid (BK 26 y7 g2 (quC Sp.zero 0 (.slice none 0 0))) := Lib.hid (hK9.bk R_y6.out (Or.inl HG1B.out.2))
            have B_y7 : Hid (Below w.heap.size w y7) := Lib.hid (hK9.below B_y6.out HWB.out)
            have U_y7 : Hid (OwL B0 y7.heap.size y7 (.slice A6 (ys ++ [(⟨x, a6, ac6⟩ : EE)]).length c6) (ys ++ [(⟨x, a6, ac6⟩ : EE)])) := Lib.hid hO
            have Z_y7 : Hid (N0 ≤ y7.heap.size) := Lib.hid (Nat.le_trans (Nat.le_trans HZ6.out HW6.out) hsz9)
            have HC6 := Lib.hid hc6
            have HSZ9_6 := Lib.hid hsz9
            have S_y7 : Hid (y7.heap.size ≤ y7.heap.size) := Lib.hid (Nat.le_refl _)
            clear hO hK9 hsz9 hc6 hen6 hHeld T_y6 U_y6 E_y6 R_y6 B_y6 C_y6 P_y6 Y_y6 X_y6
            refine hK.out _ _ E_y7.out (fun hHeld => ?_)
            clear hK K
            try simp only [Act.put, List.setIfInBounds_toArray, List.set_cons_zero, List.set_cons_succ]
            refine wpAnyH_take (i := 6) (v := (.pointer (some ⟨g5, 6, none⟩))) (get_ops _ _ _ rfl) (by kernel_rfl) (by kernel_rfl) (by kernel_rfl) (fun _ _ _ h => h) (Or.inl ⟨by rfl, fun wS hSw => by (try dsimp only at hSw); go_simp⟩) hHeld ?_
            try simp only [Act.put, List.setIfInBounds_toArray, List.set_cons_zero, List.set_cons_succ]
            refine wpAnyH_ready (rs := [7]) (by kernel_rfl) (by simp) ?_
            refine (AllReadyH.cons (get_ops _ _ _ rfl) (fun K hK => ?_) AllReadyH.nil)
            refine wp_store 24 _ _ rfl rfl ⟨g5, 6, none⟩ (by go_simp) (.slice A6 (ys ++ [(⟨x, a6, ac6⟩ : EE)]).length c6) (by first | rfl | go_simp) _ (run_store_part y7 g5 6 1 26 24 (quC s n (.slice A5 ys.length c5)) [(.slice A6 (ys ++ [(⟨x, a6, ac6⟩ : EE)]).length c6)] _ rfl rfl (by kernel_rfl) T_y7.out (by show 6 + 1 ≤ 7; decide) (ones rfl)) ?_
            have hM : BK 26 (y7.setRow g5 (putC (quC s n (.slice A5 ys.length c5)) 6 [(.slice A6 (ys ++ [(⟨x, a6, ac6⟩ : EE)]).length c6)]).toArray) g5 (quC s n (.slice A6 (ys ++ [(⟨x, a6, ac6⟩ : EE)]).length c6)) := MT.put T_y7.out 6 [(.slice A6 (ys ++ [(⟨x, a6, ac6⟩ : EE)]).length c6)]
            have hP := S2.put_row y7 g5 (putC (quC s n (.slice A5 ys.length c5)) 6 [(.slice A6 (ys ++ [(⟨x, a6, ac6⟩ : EE)]).length c6)]).toArray
            refine name_world (C := fun w9 => K _ w9) _ ?_
            intro y8 hy8
            rw [← hy8] at hM hP
            clear hy8
            have T_y8 : Hid (BK 26 y8 g5 (quC s n (.slice A6 (ys ++ [(⟨x, a6, ac6⟩ : EE)]).length c6))) := Lib.hid (hM)
            have U_y8 : Hid (OwL B0 y7.heap.size y8 (.slice A6 (ys ++ [(⟨x, a6, ac6⟩ : EE)]).length c6) (ys ++ [(⟨x, a6, ac6⟩ : EE)])) := Lib.hid (OwL.put U_y7.out hP HG5.out)
            have E_y8 : Hid (BK 34 y8 gEn (enX x xa xc)) := Lib.hid (hP.other E_y7.out (by have h1 := HGEB.out.2; omega))
            have R_y8 : Hid (BK 26 y8 g2 (quC Sp.zero 0 (.slice none 0 0))) := Lib.hid (hP.other R_y7.out (by have h1 := HRS.out; omega))
            have B_y8 : Hid (Below w.heap.size w y8) := Lib.hid (hP.below B_y7.out HW5.out)
            have Z_y8 : Hid (N0 ≤ y8.heap.size) := Lib.hid (by have h9 := hP.size; have h8 := Z_y7.out; omega)
            have S_y8 : Hid (y7.heap.size ≤ y8.heap.size) := Lib.hid (by have h9 := hP.size; have h8 := S_y7.out; omega)
            clear T_y7 U_y7 E_y7 R_y7 B_y7 Z_y7 S_y7
            clear hM hP hHeld
            refine hK.out _ _ E_y8.out (fun hHeld => ?_)
            clear hK K
            try simp only [Act.put, List.setIfInBounds_toArray, List.set_cons_zero, List.set_cons_succ]
            refine wpAnyH_done (by kernel_rfl) ?_ _
            go_wp2_with first
              | (refine wpList_load_v (by rfl) 26 (.tmp 5) rfl ⟨g5, 0, none⟩ rfl (.agg (quC s n (.slice A6 (ys ++ [(⟨x, a6, ac6⟩ : EE)]).length c6)).toArray) (load_qu T_y8.out) ?_)
              | (refine S2.wpList_store_all (by rfl) 26 (.tmp 4) (.tmp 50) rfl rfl g2 rfl (quC s n (.slice A6 (ys ++ [(⟨x, a6, ac6⟩ : EE)]).length c6)) rfl 26 (quC Sp.zero 0 (.slice none 0 0)) R_y8.out quSize rfl (quC_one _ rfl) ?_; intro we hM hP; have ME := Lib.hid hM; have PE := Lib.hid hP; clear hM hP)
            exact bodyPost_ret (v := quV s n (.slice A6 (ys ++ [(⟨x, a6, ac6⟩ : EE)]).length c6)) (S2.res_cell rfl _ _ g2 26 (quC s n (.slice A6 (ys ++ [(⟨x, a6, ac6⟩ : EE)]).length c6)) _ rfl ME.out Tryd.underlying26 rfl quSize) rfl ⟨A6, c6, (ys ++ [(⟨x, a6, ac6⟩ : EE)]), rfl, by rw [List.map_append]; exact HF.out, lstE_len U_y8.out.1, lst_weak (lst_put U_y8.out.1 PE.out HG1B.out.2) HWB.out, PE.out.below B_y8.out (by have := HG12.out; omega)⟩
    | succ g =>
      have hlt : j < l.length := by omega
      have e3 : decide ((j : Int) < (l.length : Int)) = true := decide_eq_true (by omega)
      obtain ⟨y, hy⟩ : ∃ y, l[j]? = some y := ⟨_, List.getElem?_eq_getElem hlt⟩
      have HY1 : Hid ((l.map EE.x)[j]? = some y.x) := Lib.hid (by rw [List.getElem?_map, hy]; rfl)
      obtain ⟨b, o, hA3, hbB, hcl, hpl⟩ := (HS.out.step B_wr.out).at_ hy
      have HLD := Lib.hid (load_ent hcl)
      unfold enW enV at HLD
      have HYP : Hid (y.x.m.props.length ≤ 4398046511104) := Lib.hid (HPP.out y (List.mem_of_getElem? hy))
      have HYPL : Hid (∀ w', Below w.heap.size w w' → PL w' w'.heap.size y.a y.x.m.props) := Lib.hid (fun w' h' => (HS.out.step h').2 y (List.mem_of_getElem? hy))
      subst hA3
      have j1 : (0 : Int) ≤ (j : Int) := by omega
      have j2 : (j : Int) < (l.length : Int) := by omega
      have hlk : j ≤ 1000000 := by have := HL.out; omega
      clear hcl hpl hbB hy hjg
      go_upto_region 7 with first
        | (refine wpList_load_v (by rfl) 34 _ rfl ⟨b, o + j * 12, none⟩ (by simp [Act.eval, Act.put]) _ HLD.out ?_)
        | (refine S2.wpList_store_all (by rfl) 34 (.tmp 8) (.tmp 18) rfl rfl (wr.heap.size) rfl (gE y) rfl 34 (enX En.zero none 0) (BK.new wr _ _) enSize rfl (ones rfl) ?_; intro y5 hM hP; have hb : Below wr.heap.size wr y5 := hP.below (S2.below_new wr _) (Nat.le_refl _); have T_y5 : Hid (BK 26 y5 g5 (quC s n (.slice A5 ys.length c5))) := Lib.hid (T_wr.out.step hb); have U_y5 : Hid (OwL B0 N0 y5 (.slice A5 ys.length c5) ys) := Lib.hid (OwL.step U_wr.out hb); have E_y5 : Hid (BK 34 y5 gEn (enX x xa xc)) := Lib.hid (E_wr.out.step hb); have R_y5 : Hid (BK 26 y5 g2 (quC Sp.zero 0 (.slice none 0 0))) := Lib.hid (R_wr.out.step hb); have B_y5 : Hid (Below w.heap.size w y5) := Lib.hid (stepB B_wr.out hb); have Z_y5 : Hid (N0 ≤ y5.heap.size) := Lib.hid (Nat.le_trans Z_wr.out hb.size); have V_y5 : Hid (BK 34 y5 (wr.heap.size) (gE y)) := Lib.hid hM; clear hM hP hb T_wr U_wr E_wr R_wr B_wr Z_wr)
      obtain ⟨gx, hgx⟩ : ∃ b, b = wr.heap.size := ⟨_, rfl⟩
      have HGX : Hid (N0 ≤ gx) := Lib.hid (by rw [hgx]; exact HZ0.out)
      rw [← hgx] at V_y5
      try rw [← hgx]
      clear hgx HLD e3 j1 j2 hlk hlt
      cases bq with
      | true =>
        go_upto_region 10 with fail
        have C_y5 : Hid (Below y5.heap.size y5 y5) := Lib.hid (Below.refl _ _)
        have HZW6 : Hid (N0 ≤ y5.heap.size) := Lib.hid Z_y5.out
        clear Z_y5
        obtain ⟨y6, hy6⟩ : ∃ y6, y6 = World.drew y5 := ⟨_, rfl⟩
        have hbD : Below y5.heap.size y5 y6 := by rw [hy6]; exact (Below.refl _ _).drew
        have T_y6 : Hid (BK 26 y6 g5 (quC s n (.slice A5 ys.length c5))) := Lib.hid (T_y5.out.step hbD)
        have U_y6 : Hid (OwL B0 N0 y6 (.slice A5 ys.length c5) ys) := Lib.hid (OwL.step U_y5.out hbD)
        have E_y6 : Hid (BK 34 y6 gEn (enX x xa xc)) := Lib.hid (E_y5.out.step hbD)
        have R_y6 : Hid (BK 26 y6 g2 (quC Sp.zero 0 (.slice none 0 0))) := Lib.hid (R_y5.out.step hbD)
        have B_y6 : Hid (Below w.heap.size w y6) := Lib.hid (stepB B_y5.out hbD)
        have V_y6 : Hid (BK 34 y6 gx (gE y)) := Lib.hid (V_y5.out.step hbD)
        have C_y6 : Hid (Below y5.heap.size y5 y6) := Lib.hid (stepB C_y5.out hbD)
        clear T_y5 U_y5 E_y5 R_y5 B_y5 V_y5 C_y5
        have hbd : (fun w' => Below w.heap.size w w') (World.drew y5) := by rw [← hy6]; exact B_y6.out
        have hSD : (fun w' => Below w.heap.size w w') y6 := B_y6.out
        have HWD := Lib.hid hy6
        clear hy6 hbD
        refine wp_region_held_drew (S := fun w' => Below w.heap.size w w') (by kernel_rfl) hbd (fun hHeld => ?_)
        rw [← HWD.out]
        clear hHeld
        have hHeld := hSD
        clear hSD hbd HWD
        refine wpAnyH_take (i := 0) (v := (.pointer (some ⟨g5, 6, none⟩))) (get_ops _ _ _ rfl) (by kernel_rfl) (by kernel_rfl) (by kernel_rfl) (fun _ _ _ h => h) (Or.inl ⟨by rfl, fun wS hSw => by (try dsimp only at hSw); go_simp⟩) hHeld ?_
        try simp only [Act.put, List.setIfInBounds_toArray, List.set_cons_zero, List.set_cons_succ]
        refine wpAnyH_ready (rs := [1, 2]) (by kernel_rfl) (by simp) ?_
        refine (AllReadyH.cons (get_ops _ _ _ rfl) (fun K hK => ?_) (AllReadyH.cons (get_ops _ _ _ rfl) (fun K hK => ?_) AllReadyH.nil))
        · refine wp_load2 24 _ rfl ⟨g5, 6, none⟩ (by first | rfl | go_simp) (.slice A5 ys.length c5) (by have cS := T_y6.out.cell 6 rfl; go_simp) ?_
          clear hHeld
          refine hK.out _ _ B_y6.out (fun hHeld => ?_)
          clear hK K
          try simp only [Act.put, List.setIfInBounds_toArray, List.set_cons_zero, List.set_cons_succ]
          refine wpAnyH_ready (rs := [2]) (by kernel_rfl) (by simp) ?_
          refine (AllReadyH.cons (get_ops _ _ _ rfl) (fun K hK => ?_) AllReadyH.nil)
          refine wp_load2 34 _ rfl ⟨gx, 0, none⟩ (by first | rfl | go_simp) (.agg (gE y).toArray) (load_en0 V_y6.out) ?_
          clear hHeld
          refine hK.out _ _ B_y6.out (fun hHeld => ?_)
          clear hK K
          try simp only [Act.put, List.setIfInBounds_toArray, List.set_cons_zero, List.set_cons_succ]
          refine wpAnyH_ready (rs := [3]) (by kernel_rfl) (by simp) ?_
          refine (AllReadyH.cons (get_ops _ _ _ rfl) (fun K hK => ?_) AllReadyH.nil)
          have HZ6 : Hid (N0 ≤ y6.heap.size) := Lib.hid (Nat.le_trans HZW6.out C_y6.out.size)
          go_simp
          refine (HCE.out y.x y.a y.c y6 (HYPL.out _ B_y6.out) HYP.out).mono ?_
          rintro e y7 ⟨a6, ac6, rfl, hpl, hnl, hb⟩
          have T_y7 : Hid (BK 26 y7 g5 (quC s n (.slice A5 ys.length c5))) := Lib.hid (T_y6.out.step hb)
          have U_y7 : Hid (OwL B0 N0 y7 (.slice A5 ys.length c5) ys) := Lib.hid (OwL.step U_y6.out hb)
          have E_y7 : Hid (BK 34 y7 gEn (enX x xa xc)) := Lib.hid (E_y6.out.step hb)
          have R_y7 : Hid (BK 26 y7 g2 (quC Sp.zero 0 (.slice none 0 0))) := Lib.hid (R_y6.out.step hb)
          have B_y7 : Hid (Below w.heap.size w y7) := Lib.hid (stepB B_y6.out hb)
          have V_y7 : Hid (BK 34 y7 gx (gE y)) := Lib.hid (V_y6.out.step hb)
          have C_y7 : Hid (Below y5.heap.size y5 y7) := Lib.hid (stepB C_y6.out hb)
          clear T_y6 U_y6 E_y6 R_y6 B_y6 V_y6 C_y6
          have P_y7 : Hid (PN y7 y6.heap.size a6 y.x.m.props) := Lib.hid ⟨hpl, hnl⟩
          have Y_y7 : Hid (y6.heap.size ≤ y7.heap.size) := Lib.hid hb.size
          clear hpl hnl
          clear hHeld hb
          go_wp2_with fail
          refine hK.out _ _ B_y7.out (fun hHeld => ?_)
          clear hK K
          try simp only [Act.put, List.setIfInBounds_toArray, List.set_cons_zero, List.set_cons_succ]
          refine wpAnyH_ready (rs := [4]) (by kernel_rfl) (by simp) ?_
          refine (AllReadyH.cons (get_ops _ _ _ rfl) (fun K hK => ?_) AllReadyH.nil)
          go_simp
          obtain ⟨vb6, hvb⟩ : ∃ n, n = y7.heap.size := ⟨_, rfl⟩
          refine name_world (C := fun w9 => K _ w9) (y7.alloc (.cells (gE (⟨y.x, a6, ac6⟩ : EE)).toArray 34)) ?_
          intro y8 hy8
          have hb : Below y7.heap.size y7 y8 := by rw [hy8]; exact S2.below_new _ _
          have hN : BK 34 y8 vb6 (gE (⟨y.x, a6, ac6⟩ : EE)) := by rw [hy8, hvb]; exact BK.new _ _ _
          have T_y8 : Hid (BK 26 y8 g5 (quC s n (.slice A5 ys.length c5))) := Lib.hid (T_y7.out.step hb)
          have U_y8 : Hid (OwL B0 N0 y8 (.slice A5 ys.length c5) ys) := Lib.hid (OwL.step U_y7.out hb)
          have E_y8 : Hid (BK 34 y8 gEn (enX x xa xc)) := Lib.hid (E_y7.out.step hb)
          have R_y8 : Hid (BK 26 y8 g2 (quC Sp.zero 0 (.slice none 0 0))) := Lib.hid (R_y7.out.step hb)
          have B_y8 : Hid (Below w.heap.size w y8) := Lib.hid (stepB B_y7.out hb)
          have V_y8 : Hid (BK 34 y8 gx (gE y)) := Lib.hid (V_y7.out.step hb)
          have C_y8 : Hid (Below y5.heap.size y5 y8) := Lib.hid (stepB C_y7.out hb)
          have P_y8 : Hid (PN y8 y6.heap.size a6 y.x.m.props) := Lib.hid (PN.step P_y7.out hb)
          have Y_y8 : Hid (y6.heap.size ≤ y8.heap.size) := Lib.hid (Nat.le_trans Y_y7.out hb.size)
          clear T_y7 U_y7 E_y7 R_y7 B_y7 V_y7 C_y7 P_y7 Y_y7
          have X_y8 := Lib.hid hN
          try rw [← hvb]
          clear hHeld hb hN hy8 hvb
          refine hK.out _ _ B_y8.out (fun hHeld => ?_)
          clear hK K
          try simp only [Act.put, List.setIfInBounds_toArray, List.set_cons_zero, List.set_cons_succ]
          refine wpAnyH_ready (rs := [5]) (by kernel_rfl) (by simp) ?_
          refine (AllReadyH.cons (get_ops _ _ _ rfl) (fun K hK => ?_) AllReadyH.nil)
          have HW6 : Hid (y6.heap.size ≤ y8.heap.size) := Lib.hid Y_y8.out
          refine oper_owl (B := B0) (N := N0) (Bp := y6.heap.size) _ _ rfl (.slice A5 ys.length c5) ys (⟨y.x, a6, ac6⟩ : EE) (by go_simp) U_y8.out (by go_simp) X_y8.out P_y8.out.1 P_y8.out.2 HBN.out HZ6.out HW6.out (Nat.le_trans HLN.out (by decide)) ?_
          intro v6 y9 hO hK9 hsz9
          obtain ⟨A6, c6, rfl, hc6, hen6⟩ := LN.of gE_len hO.1
          have T_y9 : Hid (BK 26 y9 g5 (quC s n (.slice A5 ys.length c5))) := Lib.hid (hK9.bk T_y8.out (Or.inl HG5.out))
          have E_y9 : Hid (BK 34 y9 gEn (enX x xa xc)) := Lib.hid (hK9.bk E_y8.out (Or.inl HGEB.out.1))
          have R_y9 : Hid (BK 26 y9 g2 (quC Sp.zero 0 (.slice none 0 0))) := Lib.hid (hK9.bk R_y8.out (Or.inl HG1B.out.2))
          have B_y9 : Hid (Below w.heap.size w y9) := Lib.hid (hK9.below B_y8.out HWB.out)
          have U_y9 : Hid (OwL B0 y9.heap.size y9 (.slice A6 (ys ++ [(⟨y.x, a6, ac6⟩ : EE)]).length c6) (ys ++ [(⟨y.x, a6, ac6⟩ : EE)])) := Lib.hid hO
          have Z_y9 : Hid (N0 ≤ y9.heap.size) := Lib.hid (Nat.le_trans (Nat.le_trans HZ6.out HW6.out) hsz9)
          have HC6 := Lib.hid hc6
          have HSZ9_6 := Lib.hid hsz9
          have S_y9 : Hid (y9.heap.size ≤ y9.heap.size) := Lib.hid (Nat.le_refl _)
          clear hO hK9 hsz9 hc6 hen6 hHeld T_y8 U_y8 E_y8 R_y8 B_y8 V_y8 C_y8 P_y8 Y_y8 X_y8
          refine hK.out _ _ B_y9.out (fun hHeld => ?_)
          clear hK K
          try simp only [Act.put, List.setIfInBounds_toArray, List.set_cons_zero, List.set_cons_succ]
          refine wpAnyH_take (i := 6) (v := (.pointer (some ⟨g5, 6, none⟩))) (get_ops _ _ _ rfl) (by kernel_rfl) (by kernel_rfl) (by kernel_rfl) (fun _ _ _ h => h) (Or.inl ⟨by rfl, fun wS hSw => by (try dsimp only at hSw); go_simp⟩) hHeld ?_
          try simp only [Act.put, List.setIfInBounds_toArray, List.set_cons_zero, List.set_cons_succ]
          refine wpAnyH_ready (rs := [7]) (by kernel_rfl) (by simp) ?_
          refine (AllReadyH.cons (get_ops _ _ _ rfl) (fun K hK => ?_) AllReadyH.nil)
          refine wp_store 24 _ _ rfl rfl ⟨g5, 6, none⟩ (by go_simp) (.slice A6 (ys ++ [(⟨y.x, a6, ac6⟩ : EE)]).length c6) (by first | rfl | go_simp) _ (run_store_part y9 g5 6 1 26 24 (quC s n (.slice A5 ys.length c5)) [(.slice A6 (ys ++ [(⟨y.x, a6, ac6⟩ : EE)]).length c6)] _ rfl rfl (by kernel_rfl) T_y9.out (by show 6 + 1 ≤ 7; decide) (ones rfl)) ?_
          have hM : BK 26 (y9.setRow g5 (putC (quC s n (.slice A5 ys.length c5)) 6 [(.slice A6 (ys ++ [(⟨y.x, a6, ac6⟩ : EE)]).length c6)]).toArray) g5 (quC s n (.slice A6 (ys ++ [(⟨y.x, a6, ac6⟩ : EE)]).length c6)) := MT.put T_y9.out 6 [(.slice A6 (ys ++ [(⟨y.x, a6, ac6⟩ : EE)]).length c6)]
          have hP := S2.put_row y9 g5 (putC (quC s n (.slice A5 ys.length c5)) 6 [(.slice A6 (ys ++ [(⟨y.x, a6, ac6⟩ : EE)]).length c6)]).toArray
          refine name_world (C := fun w9 => K _ w9) _ ?_
          intro y10 hy10
          rw [← hy10] at hM hP
          clear hy10
          have T_y10 : Hid (BK 26 y10 g5 (quC s n (.slice A6 (ys ++ [(⟨y.x, a6, ac6⟩ : EE)]).length c6))) := Lib.hid (hM)
          have U_y10 : Hid (OwL B0 y9.heap.size y10 (.slice A6 (ys ++ [(⟨y.x, a6, ac6⟩ : EE)]).length c6) (ys ++ [(⟨y.x, a6, ac6⟩ : EE)])) := Lib.hid (OwL.put U_y9.out hP HG5.out)
          have E_y10 : Hid (BK 34 y10 gEn (enX x xa xc)) := Lib.hid (hP.other E_y9.out (by have h1 := HGEB.out.2; omega))
          have R_y10 : Hid (BK 26 y10 g2 (quC Sp.zero 0 (.slice none 0 0))) := Lib.hid (hP.other R_y9.out (by have h1 := HRS.out; omega))
          have B_y10 : Hid (Below w.heap.size w y10) := Lib.hid (hP.below B_y9.out HW5.out)
          have Z_y10 : Hid (N0 ≤ y10.heap.size) := Lib.hid (by have h9 := hP.size; have h8 := Z_y9.out; omega)
          have S_y10 : Hid (y9.heap.size ≤ y10.heap.size) := Lib.hid (by have h9 := hP.size; have h8 := S_y9.out; omega)
          clear T_y9 U_y9 E_y9 R_y9 B_y9 Z_y9 S_y9
          clear hM hP hHeld
          refine hK.out _ _ B_y10.out (fun hHeld => ?_)
          clear hK K
          try simp only [Act.put, List.setIfInBounds_toArray, List.set_cons_zero, List.set_cons_succ]
          refine wpAnyH_done (by kernel_rfl) ?_ _
          have w1a : j ≤ 1000000 := by have h1 := HJ.out; have h2 := HL.out; omega
          go_wp2
          go_roundg g
          case measure => omega
          case rel => exact ⟨j + 1, true, A6, c6, (ys ++ [(⟨y.x, a6, ac6⟩ : EE)]), by have := HJ.out; omega, by go_num, rfl, T_y10.out, U_y10.out.more S_y10.out, (by rw [insF_succ x HY1.out, HYS.out, List.map_append]; unfold stepI; rw [if_neg (by simp)]; rfl), E_y10.out, R_y10.out, B_y10.out, Nat.le_trans HBN.out (Nat.le_trans (Nat.le_refl _) Z_y10.out)⟩
        · refine wp_load2 34 _ rfl ⟨gx, 0, none⟩ (by first | rfl | go_simp) (.agg (gE y).toArray) (load_en0 V_y6.out) ?_
          clear hHeld
          refine hK.out _ _ B_y6.out (fun hHeld => ?_)
          clear hK K
          try simp only [Act.put, List.setIfInBounds_toArray, List.set_cons_zero, List.set_cons_succ]
          refine wpAnyH_ready (rs := [1, 3]) (by kernel_rfl) (by simp) ?_
          refine (AllReadyH.cons (get_ops _ _ _ rfl) (fun K hK => ?_) (AllReadyH.cons (get_ops _ _ _ rfl) (fun K hK => ?_) AllReadyH.nil))
          · refine wp_load2 24 _ rfl ⟨g5, 6, none⟩ (by first | rfl | go_simp) (.slice A5 ys.length c5) (by have cS := T_y6.out.cell 6 rfl; go_simp) ?_
            clear hHeld
            refine hK.out _ _ B_y6.out (fun hHeld => ?_)
            clear hK K
            try simp only [Act.put, List.setIfInBounds_toArray, List.set_cons_zero, List.set_cons_succ]
            refine wpAnyH_ready (rs := [3]) (by kernel_rfl) (by simp) ?_
            refine (AllReadyH.cons (get_ops _ _ _ rfl) (fun K hK => ?_) AllReadyH.nil)
            have HZ6 : Hid (N0 ≤ y6.heap.size) := Lib.hid (Nat.le_trans HZW6.out C_y6.out.size)
            go_simp
            refine (HCE.out y.x y.a y.c y6 (HYPL.out _ B_y6.out) HYP.out).mono ?_
            rintro e y7 ⟨a6, ac6, rfl, hpl, hnl, hb⟩
            have T_y7 : Hid (BK 26 y7 g5 (quC s n (.slice A5 ys.length c5))) := Lib.hid (T_y6.out.step hb)
            have U_y7 : Hid (OwL B0 N0 y7 (.slice A5 ys.length c5) ys) := Lib.hid (OwL.step U_y6.out hb)
            have E_y7 : Hid (BK 34 y7 gEn (enX x xa xc)) := Lib.hid (E_y6.out.step hb)
            have R_y7 : Hid (BK 26 y7 g2 (quC Sp.zero 0 (.slice none 0 0))) := Lib.hid (R_y6.out.step hb)
            have B_y7 : Hid (Below w.heap.size w y7) := Lib.hid (stepB B_y6.out hb)
            have V_y7 : Hid (BK 34 y7 gx (gE y)) := Lib.hid (V_y6.out.step hb)
            have C_y7 : Hid (Below y5.heap.size y5 y7) := Lib.hid (stepB C_y6.out hb)
            clear T_y6 U_y6 E_y6 R_y6 B_y6 V_y6 C_y6
            have P_y7 : Hid (PN y7 y6.heap.size a6 y.x.m.props) := Lib.hid ⟨hpl, hnl⟩
            have Y_y7 : Hid (y6.heap.size ≤ y7.heap.size) := Lib.hid hb.size
            clear hpl hnl
            clear hHeld hb
            go_wp2_with fail
            refine hK.out _ _ B_y7.out (fun hHeld => ?_)
            clear hK K
            try simp only [Act.put, List.setIfInBounds_toArray, List.set_cons_zero, List.set_cons_succ]
            refine wpAnyH_ready (rs := [4]) (by kernel_rfl) (by simp) ?_
            refine (AllReadyH.cons (get_ops _ _ _ rfl) (fun K hK => ?_) AllReadyH.nil)
            go_simp
            obtain ⟨vb6, hvb⟩ : ∃ n, n = y7.heap.size := ⟨_, rfl⟩
            refine name_world (C := fun w9 => K _ w9) (y7.alloc (.cells (gE (⟨y.x, a6, ac6⟩ : EE)).toArray 34)) ?_
            intro y8 hy8
            have hb : Below y7.heap.size y7 y8 := by rw [hy8]; exact S2.below_new _ _
            have hN : BK 34 y8 vb6 (gE (⟨y.x, a6, ac6⟩ : EE)) := by rw [hy8, hvb]; exact BK.new _ _ _
            have T_y8 : Hid (BK 26 y8 g5 (quC s n (.slice A5 ys.length c5))) := Lib.hid (T_y7.out.step hb)
            have U_y8 : Hid (OwL B0 N0 y8 (.slice A5 ys.length c5) ys) := Lib.hid (OwL.step U_y7.out hb)
            have E_y8 : Hid (BK 34 y8 gEn (enX x xa xc)) := Lib.hid (E_y7.out.step hb)
            have R_y8 : Hid (BK 26 y8 g2 (quC Sp.zero 0 (.slice none 0 0))) := Lib.hid (R_y7.out.step hb)
            have B_y8 : Hid (Below w.heap.size w y8) := Lib.hid (stepB B_y7.out hb)
            have V_y8 : Hid (BK 34 y8 gx (gE y)) := Lib.hid (V_y7.out.step hb)
            have C_y8 : Hid (Below y5.heap.size y5 y8) := Lib.hid (stepB C_y7.out hb)
            have P_y8 : Hid (PN y8 y6.heap.size a6 y.x.m.props) := Lib.hid (PN.step P_y7.out hb)
            have Y_y8 : Hid (y6.heap.size ≤ y8.heap.size) := Lib.hid (Nat.le_trans Y_y7.out hb.size)
            clear T_y7 U_y7 E_y7 R_y7 B_y7 V_y7 C_y7 P_y7 Y_y7
            have X_y8 := Lib.hid hN
            try rw [← hvb]
            clear hHeld hb hN hy8 hvb
            refine hK.out _ _ B_y8.out (fun hHeld => ?_)
            clear hK K
            try simp only [Act.put, List.setIfInBounds_toArray, List.set_cons_zero, List.set_cons_succ]
            refine wpAnyH_ready (rs := [5]) (by kernel_rfl) (by simp) ?_
            refine (AllReadyH.cons (get_ops _ _ _ rfl) (fun K hK => ?_) AllReadyH.nil)
            have HW6 : Hid (y6.heap.size ≤ y8.heap.size) := Lib.hid Y_y8.out
            refine oper_owl (B := B0) (N := N0) (Bp := y6.heap.size) _ _ rfl (.slice A5 ys.length c5) ys (⟨y.x, a6, ac6⟩ : EE) (by go_simp) U_y8.out (by go_simp) X_y8.out P_y8.out.1 P_y8.out.2 HBN.out HZ6.out HW6.out (Nat.le_trans HLN.out (by decide)) ?_
            intro v6 y9 hO hK9 hsz9
            obtain ⟨A6, c6, rfl, hc6, hen6⟩ := LN.of gE_len hO.1
            have T_y9 : Hid (BK 26 y9 g5 (quC s n (.slice A5 ys.length c5))) := Lib.hid (hK9.bk T_y8.out (Or.inl HG5.out))
            have E_y9 : Hid (BK 34 y9 gEn (enX x xa xc)) := Lib.hid (hK9.bk E_y8.out (Or.inl HGEB.out.1))
            have R_y9 : Hid (BK 26 y9 g2 (quC Sp.zero 0 (.slice none 0 0))) := Lib.hid (hK9.bk R_y8.out (Or.inl HG1B.out.2))
            have B_y9 : Hid (Below w.heap.size w y9) := Lib.hid (hK9.below B_y8.out HWB.out)
            have U_y9 : Hid (OwL B0 y9.heap.size y9 (.slice A6 (ys ++ [(⟨y.x, a6, ac6⟩ : EE)]).length c6) (ys ++ [(⟨y.x, a6, ac6⟩ : EE)])) := Lib.hid hO
            have Z_y9 : Hid (N0 ≤ y9.heap.size) := Lib.hid (Nat.le_trans (Nat.le_trans HZ6.out HW6.out) hsz9)
            have HC6 := Lib.hid hc6
            have HSZ9_6 := Lib.hid hsz9
            have S_y9 : Hid (y9.heap.size ≤ y9.heap.size) := Lib.hid (Nat.le_refl _)
            clear hO hK9 hsz9 hc6 hen6 hHeld T_y8 U_y8 E_y8 R_y8 B_y8 V_y8 C_y8 P_y8 Y_y8 X_y8
            refine hK.out _ _ B_y9.out (fun hHeld => ?_)
            clear hK K
            try simp only [Act.put, List.setIfInBounds_toArray, List.set_cons_zero, List.set_cons_succ]
            refine wpAnyH_take (i := 6) (v := (.pointer (some ⟨g5, 6, none⟩))) (get_ops _ _ _ rfl) (by kernel_rfl) (by kernel_rfl) (by kernel_rfl) (fun _ _ _ h => h) (Or.inl ⟨by rfl, fun wS hSw => by (try dsimp only at hSw); go_simp⟩) hHeld ?_
            try simp only [Act.put, List.setIfInBounds_toArray, List.set_cons_zero, List.set_cons_succ]
            refine wpAnyH_ready (rs := [7]) (by kernel_rfl) (by simp) ?_
            refine (AllReadyH.cons (get_ops _ _ _ rfl) (fun K hK => ?_) AllReadyH.nil)
            refine wp_store 24 _ _ rfl rfl ⟨g5, 6, none⟩ (by go_simp) (.slice A6 (ys ++ [(⟨y.x, a6, ac6⟩ : EE)]).length c6) (by first | rfl | go_simp) _ (run_store_part y9 g5 6 1 26 24 (quC s n (.slice A5 ys.length c5)) [(.slice A6 (ys ++ [(⟨y.x, a6, ac6⟩ : EE)]).length c6)] _ rfl rfl (by kernel_rfl) T_y9.out (by show 6 + 1 ≤ 7; decide) (ones rfl)) ?_
            have hM : BK 26 (y9.setRow g5 (putC (quC s n (.slice A5 ys.length c5)) 6 [(.slice A6 (ys ++ [(⟨y.x, a6, ac6⟩ : EE)]).length c6)]).toArray) g5 (quC s n (.slice A6 (ys ++ [(⟨y.x, a6, ac6⟩ : EE)]).length c6)) := MT.put T_y9.out 6 [(.slice A6 (ys ++ [(⟨y.x, a6, ac6⟩ : EE)]).length c6)]
            have hP := S2.put_row y9 g5 (putC (quC s n (.slice A5 ys.length c5)) 6 [(.slice A6 (ys ++ [(⟨y.x, a6, ac6⟩ : EE)]).length c6)]).toArray
            refine name_world (C := fun w9 => K _ w9) _ ?_
            intro y10 hy10
            rw [← hy10] at hM hP
            clear hy10
            have T_y10 : Hid (BK 26 y10 g5 (quC s n (.slice A6 (ys ++ [(⟨y.x, a6, ac6⟩ : EE)]).length c6))) := Lib.hid (hM)
            have U_y10 : Hid (OwL B0 y9.heap.size y10 (.slice A6 (ys ++ [(⟨y.x, a6, ac6⟩ : EE)]).length c6) (ys ++ [(⟨y.x, a6, ac6⟩ : EE)])) := Lib.hid (OwL.put U_y9.out hP HG5.out)
            have E_y10 : Hid (BK 34 y10 gEn (enX x xa xc)) := Lib.hid (hP.other E_y9.out (by have h1 := HGEB.out.2; omega))
            have R_y10 : Hid (BK 26 y10 g2 (quC Sp.zero 0 (.slice none 0 0))) := Lib.hid (hP.other R_y9.out (by have h1 := HRS.out; omega))
            have B_y10 : Hid (Below w.heap.size w y10) := Lib.hid (hP.below B_y9.out HW5.out)
            have Z_y10 : Hid (N0 ≤ y10.heap.size) := Lib.hid (by have h9 := hP.size; have h8 := Z_y9.out; omega)
            have S_y10 : Hid (y9.heap.size ≤ y10.heap.size) := Lib.hid (by have h9 := hP.size; have h8 := S_y9.out; omega)
            clear T_y9 U_y9 E_y9 R_y9 B_y9 Z_y9 S_y9
            clear hM hP hHeld
            refine hK.out _ _ B_y10.out (fun hHeld => ?_)
            clear hK K
            try simp only [Act.put, List.setIfInBounds_toArray, List.set_cons_zero, List.set_cons_succ]
            refine wpAnyH_done (by kernel_rfl) ?_ _
            have w1a : j ≤ 1000000 := by have h1 := HJ.out; have h2 := HL.out; omega
            go_wp2
            go_roundg g
            case measure => omega
            case rel => exact ⟨j + 1, true, A6, c6, (ys ++ [(⟨y.x, a6, ac6⟩ : EE)]), by have := HJ.out; omega, by go_num, rfl, T_y10.out, U_y10.out.more S_y10.out, (by rw [insF_succ x HY1.out, HYS.out, List.map_append]; unfold stepI; rw [if_neg (by simp)]; rfl), E_y10.out, R_y10.out, B_y10.out, Nat.le_trans HBN.out (Nat.le_trans (Nat.le_refl _) Z_y10.out)⟩
          · have HZ6 : Hid (N0 ≤ y6.heap.size) := Lib.hid (Nat.le_trans HZW6.out C_y6.out.size)
            go_simp
            refine (HCE.out y.x y.a y.c y6 (HYPL.out _ B_y6.out) HYP.out).mono ?_
            rintro e y7 ⟨a6, ac6, rfl, hpl, hnl, hb⟩
            have T_y7 : Hid (BK 26 y7 g5 (quC s n (.slice A5 ys.length c5))) := Lib.hid (T_y6.out.step hb)
            have U_y7 : Hid (OwL B0 N0 y7 (.slice A5 ys.length c5) ys) := Lib.hid (OwL.step U_y6.out hb)
            have E_y7 : Hid (BK 34 y7 gEn (enX x xa xc)) := Lib.hid (E_y6.out.step hb)
            have R_y7 : Hid (BK 26 y7 g2 (quC Sp.zero 0 (.slice none 0 0))) := Lib.hid (R_y6.out.step hb)
            have B_y7 : Hid (Below w.heap.size w y7) := Lib.hid (stepB B_y6.out hb)
            have V_y7 : Hid (BK 34 y7 gx (gE y)) := Lib.hid (V_y6.out.step hb)
            have C_y7 : Hid (Below y5.heap.size y5 y7) := Lib.hid (stepB C_y6.out hb)
            clear T_y6 U_y6 E_y6 R_y6 B_y6 V_y6 C_y6
            have P_y7 : Hid (PN y7 y6.heap.size a6 y.x.m.props) := Lib.hid ⟨hpl, hnl⟩
            have Y_y7 : Hid (y6.heap.size ≤ y7.heap.size) := Lib.hid hb.size
            clear hpl hnl
            clear hHeld hb
            go_wp2_with fail
            refine hK.out _ _ B_y7.out (fun hHeld => ?_)
            clear hK K
            try simp only [Act.put, List.setIfInBounds_toArray, List.set_cons_zero, List.set_cons_succ]
            refine wpAnyH_ready (rs := [1, 4]) (by kernel_rfl) (by simp) ?_
            refine (AllReadyH.cons (get_ops _ _ _ rfl) (fun K hK => ?_) (AllReadyH.cons (get_ops _ _ _ rfl) (fun K hK => ?_) AllReadyH.nil))
            · refine wp_load2 24 _ rfl ⟨g5, 6, none⟩ (by first | rfl | go_simp) (.slice A5 ys.length c5) (by have cS := T_y7.out.cell 6 rfl; go_simp) ?_
              clear hHeld
              refine hK.out _ _ B_y7.out (fun hHeld => ?_)
              clear hK K
              try simp only [Act.put, List.setIfInBounds_toArray, List.set_cons_zero, List.set_cons_succ]
              refine wpAnyH_ready (rs := [4]) (by kernel_rfl) (by simp) ?_
              refine (AllReadyH.cons (get_ops _ _ _ rfl) (fun K hK => ?_) AllReadyH.nil)
              go_simp
              obtain ⟨vb6, hvb⟩ : ∃ n, n = y7.heap.size := ⟨_, rfl⟩
              refine name_world (C := fun w9 => K _ w9) (y7.alloc (.cells (gE (⟨y.x, a6, ac6⟩ : EE)).toArray 34)) ?_
              intro y8 hy8
              have hb : Below y7.heap.size y7 y8 := by rw [hy8]; exact S2.below_new _ _
              have hN : BK 34 y8 vb6 (gE (⟨y.x, a6, ac6⟩ : EE)) := by rw [hy8, hvb]; exact BK.new _ _ _
              have T_y8 : Hid (BK 26 y8 g5 (quC s n (.slice A5 ys.length c5))) := Lib.hid (T_y7.out.step hb)
              have U_y8 : Hid (OwL B0 N0 y8 (.slice A5 ys.length c5) ys) := Lib.hid (OwL.step U_y7.out hb)
              have E_y8 : Hid (BK 34 y8 gEn (enX x xa xc)) := Lib.hid (E_y7.out.step hb)
              have R_y8 : Hid (BK 26 y8 g2 (quC Sp.zero 0 (.slice none 0 0))) := Lib.hid (R_y7.out.step hb)
              have B_y8 : Hid (Below w.heap.size w y8) := Lib.hid (stepB B_y7.out hb)
              have V_y8 : Hid (BK 34 y8 gx (gE y)) := Lib.hid (V_y7.out.step hb)
              have C_y8 : Hid (Below y5.heap.size y5 y8) := Lib.hid (stepB C_y7.out hb)
              have P_y8 : Hid (PN y8 y6.heap.size a6 y.x.m.props) := Lib.hid (PN.step P_y7.out hb)
              have Y_y8 : Hid (y6.heap.size ≤ y8.heap.size) := Lib.hid (Nat.le_trans Y_y7.out hb.size)
              clear T_y7 U_y7 E_y7 R_y7 B_y7 V_y7 C_y7 P_y7 Y_y7
              have X_y8 := Lib.hid hN
              try rw [← hvb]
              clear hHeld hb hN hy8 hvb
              refine hK.out _ _ B_y8.out (fun hHeld => ?_)
              clear hK K
              try simp only [Act.put, List.setIfInBounds_toArray, List.set_cons_zero, List.set_cons_succ]
              refine wpAnyH_ready (rs := [5]) (by kernel_rfl) (by simp) ?_
              refine (AllReadyH.cons (get_ops _ _ _ rfl) (fun K hK => ?_) AllReadyH.nil)
              have HW6 : Hid (y6.heap.size ≤ y8.heap.size) := Lib.hid Y_y8.out
              refine oper_owl (B := B0) (N := N0) (Bp := y6.heap.size) _ _ rfl (.slice A5 ys.length c5) ys (⟨y.x, a6, ac6⟩ : EE) (by go_simp) U_y8.out (by go_simp) X_y8.out P_y8.out.1 P_y8.out.2 HBN.out HZ6.out HW6.out (Nat.le_trans HLN.out (by decide)) ?_
              intro v6 y9 hO hK9 hsz9
              obtain ⟨A6, c6, rfl, hc6, hen6⟩ := LN.of gE_len hO.1
              have T_y9 : Hid (BK 26 y9 g5 (quC s n (.slice A5 ys.length c5))) := Lib.hid (hK9.bk T_y8.out (Or.inl HG5.out))
              have E_y9 : Hid (BK 34 y9 gEn (enX x xa xc)) := Lib.hid (hK9.bk E_y8.out (Or.inl HGEB.out.1))
              have R_y9 : Hid (BK 26 y9 g2 (quC Sp.zero 0 (.slice none 0 0))) := Lib.hid (hK9.bk R_y8.out (Or.inl HG1B.out.2))
              have B_y9 : Hid (Below w.heap.size w y9) := Lib.hid (hK9.below B_y8.out HWB.out)
              have U_y9 : Hid (OwL B0 y9.heap.size y9 (.slice A6 (ys ++ [(⟨y.x, a6, ac6⟩ : EE)]).length c6) (ys ++ [(⟨y.x, a6, ac6⟩ : EE)])) := Lib.hid hO
              have Z_y9 : Hid (N0 ≤ y9.heap.size) := Lib.hid (Nat.le_trans (Nat.le_trans HZ6.out HW6.out) hsz9)
              have HC6 := Lib.hid hc6
              have HSZ9_6 := Lib.hid hsz9
              have S_y9 : Hid (y9.heap.size ≤ y9.heap.size) := Lib.hid (Nat.le_refl _)
              clear hO hK9 hsz9 hc6 hen6 hHeld T_y8 U_y8 E_y8 R_y8 B_y8 V_y8 C_y8 P_y8 Y_y8 X_y8
              refine hK.out _ _ B_y9.out (fun hHeld => ?_)
              clear hK K
              try simp only [Act.put, List.setIfInBounds_toArray, List.set_cons_zero, List.set_cons_succ]
              refine wpAnyH_take (i := 6) (v := (.pointer (some ⟨g5, 6, none⟩))) (get_ops _ _ _ rfl) (by kernel_rfl) (by kernel_rfl) (by kernel_rfl) (fun _ _ _ h => h) (Or.inl ⟨by rfl, fun wS hSw => by (try dsimp only at hSw); go_simp⟩) hHeld ?_
              try simp only [Act.put, List.setIfInBounds_toArray, List.set_cons_zero, List.set_cons_succ]
              refine wpAnyH_ready (rs := [7]) (by kernel_rfl) (by simp) ?_
              refine (AllReadyH.cons (get_ops _ _ _ rfl) (fun K hK => ?_) AllReadyH.nil)
              refine wp_store 24 _ _ rfl rfl ⟨g5, 6, none⟩ (by go_simp) (.slice A6 (ys ++ [(⟨y.x, a6, ac6⟩ : EE)]).length c6) (by first | rfl | go_simp) _ (run_store_part y9 g5 6 1 26 24 (quC s n (.slice A5 ys.length c5)) [(.slice A6 (ys ++ [(⟨y.x, a6, ac6⟩ : EE)]).length c6)] _ rfl rfl (by kernel_rfl) T_y9.out (by show 6 + 1 ≤ 7; decide) (ones rfl)) ?_
              have hM : BK 26 (y9.setRow g5 (putC (quC s n (.slice A5 ys.length c5)) 6 [(.slice A6 (ys ++ [(⟨y.x, a6, ac6⟩ : EE)]).length c6)]).toArray) g5 (quC s n (.slice A6 (ys ++ [(⟨y.x, a6, ac6⟩ : EE)]).length c6)) := MT.put T_y9.out 6 [(.slice A6 (ys ++ [(⟨y.x, a6, ac6⟩ : EE)]).length c6)]
              have hP := S2.put_row y9 g5 (putC (quC s n (.slice A5 ys.length c5)) 6 [(.slice A6 (ys ++ [(⟨y.x, a6, ac6⟩ : EE)]).length c6)]).toArray
              refine name_world (C := fun w9 => K _ w9) _ ?_
              intro y10 hy10
              rw [← hy10] at hM hP
              clear hy10
              have T_y10 : Hid (BK 26 y10 g5 (quC s n (.slice A6 (ys ++ [(⟨y.x, a6, ac6⟩ : EE)]).length c6))) := Lib.hid (hM)
              have U_y10 : Hid (OwL B0 y9.heap.size y10 (.slice A6 (ys ++ [(⟨y.x, a6, ac6⟩ : EE)]).length c6) (ys ++ [(⟨y.x, a6, ac6⟩ : EE)])) := Lib.hid (OwL.put U_y9.out hP HG5.out)
              have E_y10 : Hid (BK 34 y10 gEn (enX x xa xc)) := Lib.hid (hP.other E_y9.out (by have h1 := HGEB.out.2; omega))
              have R_y10 : Hid (BK 26 y10 g2 (quC Sp.zero 0 (.slice none 0 0))) := Lib.hid (hP.other R_y9.out (by have h1 := HRS.out; omega))
              have B_y10 : Hid (Below w.heap.size w y10) := Lib.hid (hP.below B_y9.out HW5.out)
              have Z_y10 : Hid (N0 ≤ y10.heap.size) := Lib.hid (by have h9 := hP.size; have h8 := Z_y9.out; omega)
              have S_y10 : Hid (y9.heap.size ≤ y10.heap.size) := Lib.hid (by have h9 := hP.size; have h8 := S_y9.out; omega)
              clear T_y9 U_y9 E_y9 R_y9 B_y9 Z_y9 S_y9
              clear hM hP hHeld
              refine hK.out _ _ B_y10.out (fun hHeld => ?_)
              clear hK K
              try simp only [Act.put, List.setIfInBounds_toArray, List.set_cons_zero, List.set_cons_succ]
              refine wpAnyH_done (by kernel_rfl) ?_ _
              have w1a : j ≤ 1000000 := by have h1 := HJ.out; have h2 := HL.out; omega
              go_wp2
              go_roundg g
              case measure => omega
              case rel => exact ⟨j + 1, true, A6, c6, (ys ++ [(⟨y.x, a6, ac6⟩ : EE)]), by have := HJ.out; omega, by go_num, rfl, T_y10.out, U_y10.out.more S_y10.out, (by rw [insF_succ x HY1.out, HYS.out, List.map_append]; unfold stepI; rw [if_neg (by simp)]; rfl), E_y10.out, R_y10.out, B_y10.out, Nat.le_trans HBN.out (Nat.le_trans (Nat.le_refl _) Z_y10.out)⟩
            · go_simp
              obtain ⟨vb6, hvb⟩ : ∃ n, n = y7.heap.size := ⟨_, rfl⟩
              refine name_world (C := fun w9 => K _ w9) (y7.alloc (.cells (gE (⟨y.x, a6, ac6⟩ : EE)).toArray 34)) ?_
              intro y8 hy8
              have hb : Below y7.heap.size y7 y8 := by rw [hy8]; exact S2.below_new _ _
              have hN : BK 34 y8 vb6 (gE (⟨y.x, a6, ac6⟩ : EE)) := by rw [hy8, hvb]; exact BK.new _ _ _
              have T_y8 : Hid (BK 26 y8 g5 (quC s n (.slice A5 ys.length c5))) := Lib.hid (T_y7.out.step hb)
              have U_y8 : Hid (OwL B0 N0 y8 (.slice A5 ys.length c5) ys) := Lib.hid (OwL.step U_y7.out hb)
              have E_y8 : Hid (BK 34 y8 gEn (enX x xa xc)) := Lib.hid (E_y7.out.step hb)
              have R_y8 : Hid (BK 26 y8 g2 (quC Sp.zero 0 (.slice none 0 0))) := Lib.hid (R_y7.out.step hb)
              have B_y8 : Hid (Below w.heap.size w y8) := Lib.hid (stepB B_y7.out hb)
              have V_y8 : Hid (BK 34 y8 gx (gE y)) := Lib.hid (V_y7.out.step hb)
              have C_y8 : Hid (Below y5.heap.size y5 y8) := Lib.hid (stepB C_y7.out hb)
              have P_y8 : Hid (PN y8 y6.heap.size a6 y.x.m.props) := Lib.hid (PN.step P_y7.out hb)
              have Y_y8 : Hid (y6.heap.size ≤ y8.heap.size) := Lib.hid (Nat.le_trans Y_y7.out hb.size)
              clear T_y7 U_y7 E_y7 R_y7 B_y7 V_y7 C_y7 P_y7 Y_y7
              have X_y8 := Lib.hid hN
              try rw [← hvb]
              clear hHeld hb hN hy8 hvb
              refine hK.out _ _ B_y8.out (fun hHeld => ?_)
              clear hK K
              try simp only [Act.put, List.setIfInBounds_toArray, List.set_cons_zero, List.set_cons_succ]
              refine wpAnyH_ready (rs := [1]) (by kernel_rfl) (by simp) ?_
              refine (AllReadyH.cons (get_ops _ _ _ rfl) (fun K hK => ?_) AllReadyH.nil)
              refine wp_load2 24 _ rfl ⟨g5, 6, none⟩ (by first | rfl | go_simp) (.slice A5 ys.length c5) (by have cS := T_y8.out.cell 6 rfl; go_simp) ?_
              clear hHeld
              refine hK.out _ _ B_y8.out (fun hHeld => ?_)
              clear hK K
              try simp only [Act.put, List.setIfInBounds_toArray, List.set_cons_zero, List.set_cons_succ]
              refine wpAnyH_ready (rs := [5]) (by kernel_rfl) (by simp) ?_
              refine (AllReadyH.cons (get_ops _ _ _ rfl) (fun K hK => ?_) AllReadyH.nil)
              have HW6 : Hid (y6.heap.size ≤ y8.heap.size) := Lib.hid Y_y8.out
              refine oper_owl (B := B0) (N := N0) (Bp := y6.heap.size) _ _ rfl (.slice A5 ys.length c5) ys (⟨y.x, a6, ac6⟩ : EE) (by go_simp) U_y8.out (by go_simp) X_y8.out P_y8.out.1 P_y8.out.2 HBN.out HZ6.out HW6.out (Nat.le_trans HLN.out (by decide)) ?_
              intro v6 y9 hO hK9 hsz9
              obtain ⟨A6, c6, rfl, hc6, hen6⟩ := LN.of gE_len hO.1
              have T_y9 : Hid (BK 26 y9 g5 (quC s n (.slice A5 ys.length c5))) := Lib.hid (hK9.bk T_y8.out (Or.inl HG5.out))
              have E_y9 : Hid (BK 34 y9 gEn (enX x xa xc)) := Lib.hid (hK9.bk E_y8.out (Or.inl HGEB.out.1))
              have R_y9 : Hid (BK 26 y9 g2 (quC Sp.zero 0 (.slice none 0 0))) := Lib.hid (hK9.bk R_y8.out (Or.inl HG1B.out.2))
              have B_y9 : Hid (Below w.heap.size w y9) := Lib.hid (hK9.below B_y8.out HWB.out)
              have U_y9 : Hid (OwL B0 y9.heap.size y9 (.slice A6 (ys ++ [(⟨y.x, a6, ac6⟩ : EE)]).length c6) (ys ++ [(⟨y.x, a6, ac6⟩ : EE)])) := Lib.hid hO
              have Z_y9 : Hid (N0 ≤ y9.heap.size) := Lib.hid (Nat.le_trans (Nat.le_trans HZ6.out HW6.out) hsz9)
              have HC6 := Lib.hid hc6
              have HSZ9_6 := Lib.hid hsz9
              have S_y9 : Hid (y9.heap.size ≤ y9.heap.size) := Lib.hid (Nat.le_refl _)
              clear hO hK9 hsz9 hc6 hen6 hHeld T_y8 U_y8 E_y8 R_y8 B_y8 V_y8 C_y8 P_y8 Y_y8 X_y8
              refine hK.out _ _ B_y9.out (fun hHeld => ?_)
              clear hK K
              try simp only [Act.put, List.setIfInBounds_toArray, List.set_cons_zero, List.set_cons_succ]
              refine wpAnyH_take (i := 6) (v := (.pointer (some ⟨g5, 6, none⟩))) (get_ops _ _ _ rfl) (by kernel_rfl) (by kernel_rfl) (by kernel_rfl) (fun _ _ _ h => h) (Or.inl ⟨by rfl, fun wS hSw => by (try dsimp only at hSw); go_simp⟩) hHeld ?_
              try simp only [Act.put, List.setIfInBounds_toArray, List.set_cons_zero, List.set_cons_succ]
              refine wpAnyH_ready (rs := [7]) (by kernel_rfl) (by simp) ?_
              refine (AllReadyH.cons (get_ops _ _ _ rfl) (fun K hK => ?_) AllReadyH.nil)
              refine wp_store 24 _ _ rfl rfl ⟨g5, 6, none⟩ (by go_simp) (.slice A6 (ys ++ [(⟨y.x, a6, ac6⟩ : EE)]).length c6) (by first | rfl | go_simp) _ (run_store_part y9 g5 6 1 26 24 (quC s n (.slice A5 ys.length c5)) [(.slice A6 (ys ++ [(⟨y.x, a6, ac6⟩ : EE)]).length c6)] _ rfl rfl (by kernel_rfl) T_y9.out (by show 6 + 1 ≤ 7; decide) (ones rfl)) ?_
              have hM : BK 26 (y9.setRow g5 (putC (quC s n (.slice A5 ys.length c5)) 6 [(.slice A6 (ys ++ [(⟨y.x, a6, ac6⟩ : EE)]).length c6)]).toArray) g5 (quC s n (.slice A6 (ys ++ [(⟨y.x, a6, ac6⟩ : EE)]).length c6)) := MT.put T_y9.out 6 [(.slice A6 (ys ++ [(⟨y.x, a6, ac6⟩ : EE)]).length c6)]
              have hP := S2.put_row y9 g5 (putC (quC s n (.slice A5 ys.length c5)) 6 [(.slice A6 (ys ++ [(⟨y.x, a6, ac6⟩ : EE)]).length c6)]).toArray
              refine name_world (C := fun w9 => K _ w9) _ ?_
              intro y10 hy10
              rw [← hy10] at hM hP
              clear hy10
              have T_y10 : Hid (BK 26 y10 g5 (quC s n (.slice A6 (ys ++ [(⟨y.x, a6, ac6⟩ : EE)]).length c6))) := Lib.hid (hM)
              have U_y10 : Hid (OwL B0 y9.heap.size y10 (.slice A6 (ys ++ [(⟨y.x, a6, ac6⟩ : EE)]).length c6) (ys ++ [(⟨y.x, a6, ac6⟩ : EE)])) := Lib.hid (OwL.put U_y9.out hP HG5.out)
              have E_y10 : Hid (BK 34 y10 gEn (enX x xa xc)) := Lib.hid (hP.other E_y9.out (by have h1 := HGEB.out.2; omega))
              have R_y10 : Hid (BK 26 y10 g2 (quC Sp.zero 0 (.slice none 0 0))) := Lib.hid (hP.other R_y9.out (by have h1 := HRS.out; omega))
              have B_y10 : Hid (Below w.heap.size w y10) := Lib.hid (hP.below B_y9.out HW5.out)
              have Z_y10 : Hid (N0 ≤ y10.heap.size) := Lib.hid (by have h9 := hP.size; have h8 := Z_y9.out; omega)
              have S_y10 : Hid (y9.heap.size ≤ y10.heap.size) := Lib.hid (by have h9 := hP.size; have h8 := S_y9.out; omega)
              clear T_y9 U_y9 E_y9 R_y9 B_y9 Z_y9 S_y9
              clear hM hP hHeld
              refine hK.out _ _ B_y10.out (fun hHeld => ?_)
              clear hK K
              try simp only [Act.put, List.setIfInBounds_toArray, List.set_cons_zero, List.set_cons_succ]
              refine wpAnyH_done (by kernel_rfl) ?_ _
              have w1a : j ≤ 1000000 := by have h1 := HJ.out; have h2 := HL.out; omega
              go_wp2
              go_roundg g
              case measure => omega
              case rel => exact ⟨j + 1, true, A6, c6, (ys ++ [(⟨y.x, a6, ac6⟩ : EE)]), by have := HJ.out; omega, by go_num, rfl, T_y10.out, U_y10.out.more S_y10.out, (by rw [insF_succ x HY1.out, HYS.out, List.map_append]; unfold stepI; rw [if_neg (by simp)]; rfl), E_y10.out, R_y10.out, B_y10.out, Nat.le_trans HBN.out (Nat.le_trans (Nat.le_refl _) Z_y10.out)⟩
      | false =>
        have hpc := HPC.out y
        obtain ⟨pb, hpb⟩ : ∃ p, precR x y.x = p := ⟨_, rfl⟩
        rw [hpb] at hpc
        have HPB := Lib.hid hpb
        have HPY := Lib.hid hpc
        clear hpc hpb
        go_wp2_with first
          | (refine wpList_load_v (by rfl) 34 (.tmp 3) rfl ⟨gEn, 0, none⟩ rfl (.agg (enX x xa xc).toArray) (load_en0 E_y5.out) ?_)
          | (refine wpList_load_v (by rfl) 34 (.tmp 8) rfl ⟨gx, 0, none⟩ rfl (.agg (gE y).toArray) (load_en0 V_y5.out) ?_)
        refine (HPY.out y5).mono ?_
        rintro e y7 ⟨rfl, hb⟩
        have T_y7 : Hid (BK 26 y7 g5 (quC s n (.slice A5 ys.length c5))) := Lib.hid (T_y5.out.step hb)
        have U_y7 : Hid (OwL B0 N0 y7 (.slice A5 ys.length c5) ys) := Lib.hid (OwL.step U_y5.out hb)
        have E_y7 : Hid (BK 34 y7 gEn (enX x xa xc)) := Lib.hid (E_y5.out.step hb)
        have R_y7 : Hid (BK 26 y7 g2 (quC Sp.zero 0 (.slice none 0 0))) := Lib.hid (R_y5.out.step hb)
        have B_y7 : Hid (Below w.heap.size w y7) := Lib.hid (stepB B_y5.out hb)
        have Z_y7 : Hid (N0 ≤ y7.heap.size) := Lib.hid (Nat.le_trans Z_y5.out hb.size)
        have V_y7 : Hid (BK 34 y7 gx (gE y)) := Lib.hid (V_y5.out.step hb)
        clear T_y5 U_y5 E_y5 R_y5 B_y5 Z_y5 V_y5
        clear hb
        cases pb with
        | false =>
          go_upto_region 10 with fail
          have C_y7 : Hid (Below y7.heap.size y7 y7) := Lib.hid (Below.refl _ _)
          have HZW6 : Hid (N0 ≤ y7.heap.size) := Lib.hid Z_y7.out
          clear Z_y7
          obtain ⟨y8, hy8⟩ : ∃ y8, y8 = World.drew y7 := ⟨_, rfl⟩
          have hbD : Below y7.heap.size y7 y8 := by rw [hy8]; exact (Below.refl _ _).drew
          have T_y8 : Hid (BK 26 y8 g5 (quC s n (.slice A5 ys.length c5))) := Lib.hid (T_y7.out.step hbD)
          have U_y8 : Hid (OwL B0 N0 y8 (.slice A5 ys.length c5) ys) := Lib.hid (OwL.step U_y7.out hbD)
          have E_y8 : Hid (BK 34 y8 gEn (enX x xa xc)) := Lib.hid (E_y7.out.step hbD)
          have R_y8 : Hid (BK 26 y8 g2 (quC Sp.zero 0 (.slice none 0 0))) := Lib.hid (R_y7.out.step hbD)
          have B_y8 : Hid (Below w.heap.size w y8) := Lib.hid (stepB B_y7.out hbD)
          have V_y8 : Hid (BK 34 y8 gx (gE y)) := Lib.hid (V_y7.out.step hbD)
          have C_y8 : Hid (Below y7.heap.size y7 y8) := Lib.hid (stepB C_y7.out hbD)
          clear T_y7 U_y7 E_y7 R_y7 B_y7 V_y7 C_y7
          have hbd : (fun w' => Below w.heap.size w w') (World.drew y7) := by rw [← hy8]; exact B_y8.out
          have hSD : (fun w' => Below w.heap.size w w') y8 := B_y8.out
          have HWD := Lib.hid hy8
          clear hy8 hbD
          refine wp_region_held_drew (S := fun w' => Below w.heap.size w w') (by kernel_rfl) hbd (fun hHeld => ?_)
          rw [← HWD.out]
          clear hHeld
          have hHeld := hSD
          clear hSD hbd HWD
          refine wpAnyH_take (i := 0) (v := (.pointer (some ⟨g5, 6, none⟩))) (get_ops _ _ _ rfl) (by kernel_rfl) (by kernel_rfl) (by kernel_rfl) (fun _ _ _ h => h) (Or.inl ⟨by rfl, fun wS hSw => by (try dsimp only at hSw); go_simp⟩) hHeld ?_
          try simp only [Act.put, List.setIfInBounds_toArray, List.set_cons_zero, List.set_cons_succ]
          refine wpAnyH_ready (rs := [1, 2]) (by kernel_rfl) (by simp) ?_
          refine (AllReadyH.cons (get_ops _ _ _ rfl) (fun K hK => ?_) (AllReadyH.cons (get_ops _ _ _ rfl) (fun K hK => ?_) AllReadyH.nil))
          · refine wp_load2 24 _ rfl ⟨g5, 6, none⟩ (by first | rfl | go_simp) (.slice A5 ys.length c5) (by have cS := T_y8.out.cell 6 rfl; go_simp) ?_
            clear hHeld
            refine hK.out _ _ B_y8.out (fun hHeld => ?_)
            clear hK K
            try simp only [Act.put, List.setIfInBounds_toArray, List.set_cons_zero, List.set_cons_succ]
            refine wpAnyH_ready (rs := [2]) (by kernel_rfl) (by simp) ?_
            refine (AllReadyH.cons (get_ops _ _ _ rfl) (fun K hK => ?_) AllReadyH.nil)
            refine wp_load2 34 _ rfl ⟨gx, 0, none⟩ (by first | rfl | go_simp) (.agg (gE y).toArray) (load_en0 V_y8.out) ?_
            clear hHeld
            refine hK.out _ _ B_y8.out (fun hHeld => ?_)
            clear hK K
            try simp only [Act.put, List.setIfInBounds_toArray, List.set_cons_zero, List.set_cons_succ]
            refine wpAnyH_ready (rs := [3]) (by kernel_rfl) (by simp) ?_
            refine (AllReadyH.cons (get_ops _ _ _ rfl) (fun K hK => ?_) AllReadyH.nil)
            have HZ6 : Hid (N0 ≤ y8.heap.size) := Lib.hid (Nat.le_trans HZW6.out C_y8.out.size)
            go_simp
            refine (HCE.out y.x y.a y.c y8 (HYPL.out _ B_y8.out) HYP.out).mono ?_
            rintro e y9 ⟨a6, ac6, rfl, hpl, hnl, hb⟩
            have T_y9 : Hid (BK 26 y9 g5 (quC s n (.slice A5 ys.length c5))) := Lib.hid (T_y8.out.step hb)
            have U_y9 : Hid (OwL B0 N0 y9 (.slice A5 ys.length c5) ys) := Lib.hid (OwL.step U_y8.out hb)
            have E_y9 : Hid (BK 34 y9 gEn (enX x xa xc)) := Lib.hid (E_y8.out.step hb)
            have R_y9 : Hid (BK 26 y9 g2 (quC Sp.zero 0 (.slice none 0 0))) := Lib.hid (R_y8.out.step hb)
            have B_y9 : Hid (Below w.heap.size w y9) := Lib.hid (stepB B_y8.out hb)
            have V_y9 : Hid (BK 34 y9 gx (gE y)) := Lib.hid (V_y8.out.step hb)
            have C_y9 : Hid (Below y7.heap.size y7 y9) := Lib.hid (stepB C_y8.out hb)
            clear T_y8 U_y8 E_y8 R_y8 B_y8 V_y8 C_y8
            have P_y9 : Hid (PN y9 y8.heap.size a6 y.x.m.props) := Lib.hid ⟨hpl, hnl⟩
            have Y_y9 : Hid (y8.heap.size ≤ y9.heap.size) := Lib.hid hb.size
            clear hpl hnl
            clear hHeld hb
            go_wp2_with fail
            refine hK.out _ _ B_y9.out (fun hHeld => ?_)
            clear hK K
            try simp only [Act.put, List.setIfInBounds_toArray, List.set_cons_zero, List.set_cons_succ]
            refine wpAnyH_ready (rs := [4]) (by kernel_rfl) (by simp) ?_
            refine (AllReadyH.cons (get_ops _ _ _ rfl) (fun K hK => ?_) AllReadyH.nil)
            go_simp
            obtain ⟨vb6, hvb⟩ : ∃ n, n = y9.heap.size := ⟨_, rfl⟩
            refine name_world (C := fun w9 => K _ w9) (y9.alloc (.cells (gE (⟨y.x, a6, ac6⟩ : EE)).toArray 34)) ?_
            intro y10 hy10
            have hb : Below y9.heap.size y9 y10 := by rw [hy10]; exact S2.below_new _ _
            have hN : BK 34 y10 vb6 (gE (⟨y.x, a6, ac6⟩ : EE)) := by rw [hy10, hvb]; exact BK.new _ _ _
            have T_y10 : Hid (BK 26 y10 g5 (quC s n (.slice A5 ys.length c5))) := Lib.hid (T_y9.out.step hb)
            have U_y10 : Hid (OwL B0 N0 y10 (.slice A5 ys.length c5) ys) := Lib.hid (OwL.step U_y9.out hb)
            have E_y10 : Hid (BK 34 y10 gEn (enX x xa xc)) := Lib.hid (E_y9.out.step hb)
            have R_y10 : Hid (BK 26 y10 g2 (quC Sp.zero 0 (.slice none 0 0))) := Lib.hid (R_y9.out.step hb)
            have B_y10 : Hid (Below w.heap.size w y10) := Lib.hid (stepB B_y9.out hb)
            have V_y10 : Hid (BK 34 y10 gx (gE y)) := Lib.hid (V_y9.out.step hb)
            have C_y10 : Hid (Below y7.heap.size y7 y10) := Lib.hid (stepB C_y9.out hb)
            have P_y10 : Hid (PN y10 y8.heap.size a6 y.x.m.props) := Lib.hid (PN.step P_y9.out hb)
            have Y_y10 : Hid (y8.heap.size ≤ y10.heap.size) := Lib.hid (Nat.le_trans Y_y9.out hb.size)
            clear T_y9 U_y9 E_y9 R_y9 B_y9 V_y9 C_y9 P_y9 Y_y9
            have X_y10 := Lib.hid hN
            try rw [← hvb]
            clear hHeld hb hN hy10 hvb
            refine hK.out _ _ B_y10.out (fun hHeld => ?_)
            clear hK K
            try simp only [Act.put, List.setIfInBounds_toArray, List.set_cons_zero, List.set_cons_succ]
            refine wpAnyH_ready (rs := [5]) (by kernel_rfl) (by simp) ?_
            refine (AllReadyH.cons (get_ops _ _ _ rfl) (fun K hK => ?_) AllReadyH.nil)
            have HW6 : Hid (y8.heap.size ≤ y10.heap.size) := Lib.hid Y_y10.out
            refine oper_owl (B := B0) (N := N0) (Bp := y8.heap.size) _ _ rfl (.slice A5 ys.length c5) ys (⟨y.x, a6, ac6⟩ : EE) (by go_simp) U_y10.out (by go_simp) X_y10.out P_y10.out.1 P_y10.out.2 HBN.out HZ6.out HW6.out (Nat.le_trans HLN.out (by decide)) ?_
            intro v6 y11 hO hK9 hsz9
            obtain ⟨A6, c6, rfl, hc6, hen6⟩ := LN.of gE_len hO.1
            have T_y11 : Hid (BK 26 y11 g5 (quC s n (.slice A5 ys.length c5))) := Lib.hid (hK9.bk T_y10.out (Or.inl HG5.out))
            have E_y11 : Hid (BK 34 y11 gEn (enX x xa xc)) := Lib.hid (hK9.bk E_y10.out (Or.inl HGEB.out.1))
            have R_y11 : Hid (BK 26 y11 g2 (quC Sp.zero 0 (.slice none 0 0))) := Lib.hid (hK9.bk R_y10.out (Or.inl HG1B.out.2))
            have B_y11 : Hid (Below w.heap.size w y11) := Lib.hid (hK9.below B_y10.out HWB.out)
            have U_y11 : Hid (OwL B0 y11.heap.size y11 (.slice A6 (ys ++ [(⟨y.x, a6, ac6⟩ : EE)]).length c6) (ys ++ [(⟨y.x, a6, ac6⟩ : EE)])) := Lib.hid hO
            have Z_y11 : Hid (N0 ≤ y11.heap.size) := Lib.hid (Nat.le_trans (Nat.le_trans HZ6.out HW6.out) hsz9)
            have HC6 := Lib.hid hc6
            have HSZ9_6 := Lib.hid hsz9
            have S_y11 : Hid (y11.heap.size ≤ y11.heap.size) := Lib.hid (Nat.le_refl _)
            clear hO hK9 hsz9 hc6 hen6 hHeld T_y10 U_y10 E_y10 R_y10 B_y10 V_y10 C_y10 P_y10 Y_y10 X_y10
            refine hK.out _ _ B_y11.out (fun hHeld => ?_)
            clear hK K
            try simp only [Act.put, List.setIfInBounds_toArray, List.set_cons_zero, List.set_cons_succ]
            refine wpAnyH_take (i := 6) (v := (.pointer (some ⟨g5, 6, none⟩))) (get_ops _ _ _ rfl) (by kernel_rfl) (by kernel_rfl) (by kernel_rfl) (fun _ _ _ h => h) (Or.inl ⟨by rfl, fun wS hSw => by (try dsimp only at hSw); go_simp⟩) hHeld ?_
            try simp only [Act.put, List.setIfInBounds_toArray, List.set_cons_zero, List.set_cons_succ]
            refine wpAnyH_ready (rs := [7]) (by kernel_rfl) (by simp) ?_
            refine (AllReadyH.cons (get_ops _ _ _ rfl) (fun K hK => ?_) AllReadyH.nil)
            refine wp_store 24 _ _ rfl rfl ⟨g5, 6, none⟩ (by go_simp) (.slice A6 (ys ++ [(⟨y.x, a6, ac6⟩ : EE)]).length c6) (by first | rfl | go_simp) _ (run_store_part y11 g5 6 1 26 24 (quC s n (.slice A5 ys.length c5)) [(.slice A6 (ys ++ [(⟨y.x, a6, ac6⟩ : EE)]).length c6)] _ rfl rfl (by kernel_rfl) T_y11.out (by show 6 + 1 ≤ 7; decide) (ones rfl)) ?_
            have hM : BK 26 (y11.setRow g5 (putC (quC s n (.slice A5 ys.length c5)) 6 [(.slice A6 (ys ++ [(⟨y.x, a6, ac6⟩ : EE)]).length c6)]).toArray) g5 (quC s n (.slice A6 (ys ++ [(⟨y.x, a6, ac6⟩ : EE)]).length c6)) := MT.put T_y11.out 6 [(.slice A6 (ys ++ [(⟨y.x, a6, ac6⟩ : EE)]).length c6)]
            have hP := S2.put_row y11 g5 (putC (quC s n (.slice A5 ys.length c5)) 6 [(.slice A6 (ys ++ [(⟨y.x, a6, ac6⟩ : EE)]).length c6)]).toArray
            refine name_world (C := fun w9 => K _ w9) _ ?_
            intro y12 hy12
            rw [← hy12] at hM hP
            clear hy12
            have T_y12 : Hid (BK 26 y12 g5 (quC s n (.slice A6 (ys ++ [(⟨y.x, a6, ac6⟩ : EE)]).length c6))) := Lib.hid (hM)
            have U_y12 : Hid (OwL B0 y11.heap.size y12 (.slice A6 (ys ++ [(⟨y.x, a6, ac6⟩ : EE)]).length c6) (ys ++ [(⟨y.x, a6, ac6⟩ : EE)])) := Lib.hid (OwL.put U_y11.out hP HG5.out)
            have E_y12 : Hid (BK 34 y12 gEn (enX x xa xc)) := Lib.hid (hP.other E_y11.out (by have h1 := HGEB.out.2; omega))
            have R_y12 : Hid (BK 26 y12 g2 (quC Sp.zero 0 (.slice none 0 0))) := Lib.hid (hP.other R_y11.out (by have h1 := HRS.out; omega))
            have B_y12 : Hid (Below w.heap.size w y12) := Lib.hid (hP.below B_y11.out HW5.out)
            have Z_y12 : Hid (N0 ≤ y12.heap.size) := Lib.hid (by have h9 := hP.size; have h8 := Z_y11.out; omega)
            have S_y12 : Hid (y11.heap.size ≤ y12.heap.size) := Lib.hid (by have h9 := hP.size; have h8 := S_y11.out; omega)
            clear T_y11 U_y11 E_y11 R_y11 B_y11 Z_y11 S_y11
            clear hM hP hHeld
            refine hK.out _ _ B_y12.out (fun hHeld => ?_)
            clear hK K
            try simp only [Act.put, List.setIfInBounds_toArray, List.set_cons_zero, List.set_cons_succ]
            refine wpAnyH_done (by kernel_rfl) ?_ _
            have w1a : j ≤ 1000000 := by have h1 := HJ.out; have h2 := HL.out; omega
            go_wp2
            go_roundg g
            case measure => omega
            case rel => exact ⟨j + 1, false, A6, c6, (ys ++ [(⟨y.x, a6, ac6⟩ : EE)]), by have := HJ.out; omega, by go_num, rfl, T_y12.out, U_y12.out.more S_y12.out, (by rw [insF_succ x HY1.out, HYS.out, List.map_append]; unfold stepI; rw [if_neg (by rw [HPB.out]; simp)]; rfl), E_y12.out, R_y12.out, B_y12.out, Nat.le_trans HBN.out (Nat.le_trans (Nat.le_refl _) Z_y12.out)⟩
          · refine wp_load2 34 _ rfl ⟨gx, 0, none⟩ (by first | rfl | go_simp) (.agg (gE y).toArray) (load_en0 V_y8.out) ?_
            clear hHeld
            refine hK.out _ _ B_y8.out (fun hHeld => ?_)
            clear hK K
            try simp only [Act.put, List.setIfInBounds_toArray, List.set_cons_zero, List.set_cons_succ]
            refine wpAnyH_ready (rs := [1, 3]) (by kernel_rfl) (by simp) ?_
            refine (AllReadyH.cons (get_ops _ _ _ rfl) (fun K hK => ?_) (AllReadyH.cons (get_ops _ _ _ rfl) (fun K hK => ?_) AllReadyH.nil))
            · refine wp_load2 24 _ rfl ⟨g5, 6, none⟩ (by first | rfl | go_simp) (.slice A5 ys.length c5) (by have cS := T_y8.out.cell 6 rfl; go_simp) ?_
              clear hHeld
              refine hK.out _ _ B_y8.out (fun hHeld => ?_)
              clear hK K
              try simp only [Act.put, List.setIfInBounds_toArray, List.set_cons_zero, List.set_cons_succ]
              refine wpAnyH_ready (rs := [3]) (by kernel_rfl) (by simp) ?_
              refine (AllReadyH.cons (get_ops _ _ _ rfl) (fun K hK => ?_) AllReadyH.nil)
              have HZ6 : Hid (N0 ≤ y8.heap.size) := Lib.hid (Nat.le_trans HZW6.out C_y8.out.size)
              go_simp
              refine (HCE.out y.x y.a y.c y8 (HYPL.out _ B_y8.out) HYP.out).mono ?_
              rintro e y9 ⟨a6, ac6, rfl, hpl, hnl, hb⟩
              have T_y9 : Hid (BK 26 y9 g5 (quC s n (.slice A5 ys.length c5))) := Lib.hid (T_y8.out.step hb)
              have U_y9 : Hid (OwL B0 N0 y9 (.slice A5 ys.length c5) ys) := Lib.hid (OwL.step U_y8.out hb)
              have E_y9 : Hid (BK 34 y9 gEn (enX x xa xc)) := Lib.hid (E_y8.out.step hb)
              have R_y9 : Hid (BK 26 y9 g2 (quC Sp.zero 0 (.slice none 0 0))) := Lib.hid (R_y8.out.step hb)
              have B_y9 : Hid (Below w.heap.size w y9) := Lib.hid (stepB B_y8.out hb)
              have V_y9 : Hid (BK 34 y9 gx (gE y)) := Lib.hid (V_y8.out.step hb)
              have C_y9 : Hid (Below y7.heap.size y7 y9) := Lib.hid (stepB C_y8.out hb)
              clear T_y8 U_y8 E_y8 R_y8 B_y8 V_y8 C_y8
              have P_y9 : Hid (PN y9 y8.heap.size a6 y.x.m.props) := Lib.hid ⟨hpl, hnl⟩
              have Y_y9 : Hid (y8.heap.size ≤ y9.heap.size) := Lib.hid hb.size
              clear hpl hnl
              clear hHeld hb
              go_wp2_with fail
              refine hK.out _ _ B_y9.out (fun hHeld => ?_)
              clear hK K
              try simp only [Act.put, List.setIfInBounds_toArray, List.set_cons_zero, List.set_cons_succ]
              refine wpAnyH_ready (rs := [4]) (by kernel_rfl) (by simp) ?_
              refine (AllReadyH.cons (get_ops _ _ _ rfl) (fun K hK => ?_) AllReadyH.nil)
              go_simp
              obtain ⟨vb6, hvb⟩ : ∃ n, n = y9.heap.size := ⟨_, rfl⟩
              refine name_world (C := fun w9 => K _ w9) (y9.alloc (.cells (gE (⟨y.x, a6, ac6⟩ : EE)).toArray 34)) ?_
              intro y10 hy10
              have hb : Below y9.heap.size y9 y10 := by rw [hy10]; exact S2.below_new _ _
              have hN : BK 34 y10 vb6 (gE (⟨y.x, a6, ac6⟩ : EE)) := by rw [hy10, hvb]; exact BK.new _ _ _
              have T_y10 : Hid (BK 26 y10 g5 (quC s n (.slice A5 ys.length c5))) := Lib.hid (T_y9.out.step hb)
              have U_y10 : Hid (OwL B0 N0 y10 (.slice A5 ys.length c5) ys) := Lib.hid (OwL.step U_y9.out hb)
              have E_y10 : Hid (BK 34 y10 gEn (enX x xa xc)) := Lib.hid (E_y9.out.step hb)
              have R_y10 : Hid (BK 26 y10 g2 (quC Sp.zero 0 (.slice none 0 0))) := Lib.hid (R_y9.out.step hb)
              have B_y10 : Hid (Below w.heap.size w y10) := Lib.hid (stepB B_y9.out hb)
              have V_y10 : Hid (BK 34 y10 gx (gE y)) := Lib.hid (V_y9.out.step hb)
              have C_y10 : Hid (Below y7.heap.size y7 y10) := Lib.hid (stepB C_y9.out hb)
              have P_y10 : Hid (PN y10 y8.heap.size a6 y.x.m.props) := Lib.hid (PN.step P_y9.out hb)
              have Y_y10 : Hid (y8.heap.size ≤ y10.heap.size) := Lib.hid (Nat.le_trans Y_y9.out hb.size)
              clear T_y9 U_y9 E_y9 R_y9 B_y9 V_y9 C_y9 P_y9 Y_y9
              have X_y10 := Lib.hid hN
              try rw [← hvb]
              clear hHeld hb hN hy10 hvb
              refine hK.out _ _ B_y10.out (fun hHeld => ?_)
              clear hK K
              try simp only [Act.put, List.setIfInBounds_toArray, List.set_cons_zero, List.set_cons_succ]
              refine wpAnyH_ready (rs := [5]) (by kernel_rfl) (by simp) ?_
              refine (AllReadyH.cons (get_ops _ _ _ rfl) (fun K hK => ?_) AllReadyH.nil)
              have HW6 : Hid (y8.heap.size ≤ y10.heap.size) := Lib.hid Y_y10.out
              refine oper_owl (B := B0) (N := N0) (Bp := y8.heap.size) _ _ rfl (.slice A5 ys.length c5) ys (⟨y.x, a6, ac6⟩ : EE) (by go_simp) U_y10.out (by go_simp) X_y10.out P_y10.out.1 P_y10.out.2 HBN.out HZ6.out HW6.out (Nat.le_trans HLN.out (by decide)) ?_
              intro v6 y11 hO hK9 hsz9
              obtain ⟨A6, c6, rfl, hc6, hen6⟩ := LN.of gE_len hO.1
              have T_y11 : Hid (BK 26 y11 g5 (quC s n (.slice A5 ys.length c5))) := Lib.hid (hK9.bk T_y10.out (Or.inl HG5.out))
              have E_y11 : Hid (BK 34 y11 gEn (enX x xa xc)) := Lib.hid (hK9.bk E_y10.out (Or.inl HGEB.out.1))
              have R_y11 : Hid (BK 26 y11 g2 (quC Sp.zero 0 (.slice none 0 0))) := Lib.hid (hK9.bk R_y10.out (Or.inl HG1B.out.2))
              have B_y11 : Hid (Below w.heap.size w y11) := Lib.hid (hK9.below B_y10.out HWB.out)
              have U_y11 : Hid (OwL B0 y11.heap.size y11 (.slice A6 (ys ++ [(⟨y.x, a6, ac6⟩ : EE)]).length c6) (ys ++ [(⟨y.x, a6, ac6⟩ : EE)])) := Lib.hid hO
              have Z_y11 : Hid (N0 ≤ y11.heap.size) := Lib.hid (Nat.le_trans (Nat.le_trans HZ6.out HW6.out) hsz9)
              have HC6 := Lib.hid hc6
              have HSZ9_6 := Lib.hid hsz9
              have S_y11 : Hid (y11.heap.size ≤ y11.heap.size) := Lib.hid (Nat.le_refl _)
              clear hO hK9 hsz9 hc6 hen6 hHeld T_y10 U_y10 E_y10 R_y10 B_y10 V_y10 C_y10 P_y10 Y_y10 X_y10
              refine hK.out _ _ B_y11.out (fun hHeld => ?_)
              clear hK K
              try simp only [Act.put, List.setIfInBounds_toArray, List.set_cons_zero, List.set_cons_succ]
              refine wpAnyH_take (i := 6) (v := (.pointer (some ⟨g5, 6, none⟩))) (get_ops _ _ _ rfl) (by kernel_rfl) (by kernel_rfl) (by kernel_rfl) (fun _ _ _ h => h) (Or.inl ⟨by rfl, fun wS hSw => by (try dsimp only at hSw); go_simp⟩) hHeld ?_
              try simp only [Act.put, List.setIfInBounds_toArray, List.set_cons_zero, List.set_cons_succ]
              refine wpAnyH_ready (rs := [7]) (by kernel_rfl) (by simp) ?_
              refine (AllReadyH.cons (get_ops _ _ _ rfl) (fun K hK => ?_) AllReadyH.nil)
              refine wp_store 24 _ _ rfl rfl ⟨g5, 6, none⟩ (by go_simp) (.slice A6 (ys ++ [(⟨y.x, a6, ac6⟩ : EE)]).length c6) (by first | rfl | go_simp) _ (run_store_part y11 g5 6 1 26 24 (quC s n (.slice A5 ys.length c5)) [(.slice A6 (ys ++ [(⟨y.x, a6, ac6⟩ : EE)]).length c6)] _ rfl rfl (by kernel_rfl) T_y11.out (by show 6 + 1 ≤ 7; decide) (ones rfl)) ?_
              have hM : BK 26 (y11.setRow g5 (putC (quC s n (.slice A5 ys.length c5)) 6 [(.slice A6 (ys ++ [(⟨y.x, a6, ac6⟩ : EE)]).length c6)]).toArray) g5 (quC s n (.slice A6 (ys ++ [(⟨y.x, a6, ac6⟩ : EE)]).length c6)) := MT.put T_y11.out 6 [(.slice A6 (ys ++ [(⟨y.x, a6, ac6⟩ : EE)]).length c6)]
              have hP := S2.put_row y11 g5 (putC (quC s n (.slice A5 ys.length c5)) 6 [(.slice A6 (ys ++ [(⟨y.x, a6, ac6⟩ : EE)]).length c6)]).toArray
              refine name_world (C := fun w9 => K _ w9) _ ?_
              intro y12 hy12
              rw [← hy12] at hM hP
              clear hy12
              have T_y12 : Hid (BK 26 y12 g5 (quC s n (.slice A6 (ys ++ [(⟨y.x, a6, ac6⟩ : EE)]).length c6))) := Lib.hid (hM)
              have U_y12 : Hid (OwL B0 y11.heap.size y12 (.slice A6 (ys ++ [(⟨y.x, a6, ac6⟩ : EE)]).length c6) (ys ++ [(⟨y.x, a6, ac6⟩ : EE)])) := Lib.hid (OwL.put U_y11.out hP HG5.out)
              have E_y12 : Hid (BK 34 y12 gEn (enX x xa xc)) := Lib.hid (hP.other E_y11.out (by have h1 := HGEB.out.2; omega))
              have R_y12 : Hid (BK 26 y12 g2 (quC Sp.zero 0 (.slice none 0 0))) := Lib.hid (hP.other R_y11.out (by have h1 := HRS.out; omega))
              have B_y12 : Hid (Below w.heap.size w y12) := Lib.hid (hP.below B_y11.out HW5.out)
              have Z_y12 : Hid (N0 ≤ y12.heap.size) := Lib.hid (by have h9 := hP.size; have h8 := Z_y11.out; omega)
              have S_y12 : Hid (y11.heap.size ≤ y12.heap.size) := Lib.hid (by have h9 := hP.size; have h8 := S_y11.out; omega)
              clear T_y11 U_y11 E_y11 R_y11 B_y11 Z_y11 S_y11
              clear hM hP hHeld
              refine hK.out _ _ B_y12.out (fun hHeld => ?_)
              clear hK K
              try simp only [Act.put, List.setIfInBounds_toArray, List.set_cons_zero, List.set_cons_succ]
              refine wpAnyH_done (by kernel_rfl) ?_ _
              have w1a : j ≤ 1000000 := by have h1 := HJ.out; have h2 := HL.out; omega
              go_wp2
              go_roundg g
              case measure => omega
              case rel => exact ⟨j + 1, false, A6, c6, (ys ++ [(⟨y.x, a6, ac6⟩ : EE)]), by have := HJ.out; omega, by go_num, rfl, T_y12.out, U_y12.out.more S_y12.out, (by rw [insF_succ x HY1.out, HYS.out, List.map_append]; unfold stepI; rw [if_neg (by rw [HPB.out]; simp)]; rfl), E_y12.out, R_y12.out, B_y12.out, Nat.le_trans HBN.out (Nat.le_trans (Nat.le_refl _) Z_y12.out)⟩
            · have HZ6 : Hid (N0 ≤ y8.heap.size) := Lib.hid (Nat.le_trans HZW6.out C_y8.out.size)
              go_simp
              refine (HCE.out y.x y.a y.c y8 (HYPL.out _ B_y8.out) HYP.out).mono ?_
              rintro e y9 ⟨a6, ac6, rfl, hpl, hnl, hb⟩
              have T_y9 : Hid (BK 26 y9 g5 (quC s n (.slice A5 ys.length c5))) := Lib.hid (T_y8.out.step hb)
              have U_y9 : Hid (OwL B0 N0 y9 (.slice A5 ys.length c5) ys) := Lib.hid (OwL.step U_y8.out hb)
              have E_y9 : Hid (BK 34 y9 gEn (enX x xa xc)) := Lib.hid (E_y8.out.step hb)
              have R_y9 : Hid (BK 26 y9 g2 (quC Sp.zero 0 (.slice none 0 0))) := Lib.hid (R_y8.out.step hb)
              have B_y9 : Hid (Below w.heap.size w y9) := Lib.hid (stepB B_y8.out hb)
              have V_y9 : Hid (BK 34 y9 gx (gE y)) := Lib.hid (V_y8.out.step hb)
              have C_y9 : Hid (Below y7.heap.size y7 y9) := Lib.hid (stepB C_y8.out hb)
              clear T_y8 U_y8 E_y8 R_y8 B_y8 V_y8 C_y8
              have P_y9 : Hid (PN y9 y8.heap.size a6 y.x.m.props) := Lib.hid ⟨hpl, hnl⟩
              have Y_y9 : Hid (y8.heap.size ≤ y9.heap.size) := Lib.hid hb.size
              clear hpl hnl
              clear hHeld hb
              go_wp2_with fail
              refine hK.out _ _ B_y9.out (fun hHeld => ?_)
              clear hK K
              try simp only [Act.put, List.setIfInBounds_toArray, List.set_cons_zero, List.set_cons_succ]
              refine wpAnyH_ready (rs := [1, 4]) (by kernel_rfl) (by simp) ?_
              refine (AllReadyH.cons (get_ops _ _ _ rfl) (fun K hK => ?_) (AllReadyH.cons (get_ops _ _ _ rfl) (fun K hK => ?_) AllReadyH.nil))
              · refine wp_load2 24 _ rfl ⟨g5, 6, none⟩ (by first | rfl | go_simp) (.slice A5 ys.length c5) (by have cS := T_y9.out.cell 6 rfl; go_simp) ?_
                clear hHeld
                refine hK.out _ _ B_y9.out (fun hHeld => ?_)
                clear hK K
                try simp only [Act.put, List.setIfInBounds_toArray, List.set_cons_zero, List.set_cons_succ]
                refine wpAnyH_ready (rs := [4]) (by kernel_rfl) (by simp) ?_
                refine (AllReadyH.cons (get_ops _ _ _ rfl) (fun K hK => ?_) AllReadyH.nil)
                go_simp
                obtain ⟨vb6, hvb⟩ : ∃ n, n = y9.heap.size := ⟨_, rfl⟩
                refine name_world (C := fun w9 => K _ w9) (y9.alloc (.cells (gE (⟨y.x, a6, ac6⟩ : EE)).toArray 34)) ?_
                intro y10 hy10
                have hb : Below y9.heap.size y9 y10 := by rw [hy10]; exact S2.below_new _ _
                have hN : BK 34 y10 vb6 (gE (⟨y.x, a6, ac6⟩ : EE)) := by rw [hy10, hvb]; exact BK.new _ _ _
                have T_y10 : Hid (BK 26 y10 g5 (quC s n (.slice A5 ys.length c5))) := Lib.hid (T_y9.out.step hb)
                have U_y10 : Hid (OwL B0 N0 y10 (.slice A5 ys.length c5) ys) := Lib.hid (OwL.step U_y9.out hb)
                have E_y10 : Hid (BK 34 y10 gEn (enX x xa xc)) := Lib.hid (E_y9.out.step hb)
                have R_y10 : Hid (BK 26 y10 g2 (quC Sp.zero 0 (.slice none 0 0))) := Lib.hid (R_y9.out.step hb)
                have B_y10 : Hid (Below w.heap.size w y10) := Lib.hid (stepB B_y9.out hb)
                have V_y10 : Hid (BK 34 y10 gx (gE y)) := Lib.hid (V_y9.out.step hb)
                have C_y10 : Hid (Below y7.heap.size y7 y10) := Lib.hid (stepB C_y9.out hb)
                have P_y10 : Hid (PN y10 y8.heap.size a6 y.x.m.props) := Lib.hid (PN.step P_y9.out hb)
                have Y_y10 : Hid (y8.heap.size ≤ y10.heap.size) := Lib.hid (Nat.le_trans Y_y9.out hb.size)
                clear T_y9 U_y9 E_y9 R_y9 B_y9 V_y9 C_y9 P_y9 Y_y9
                have X_y10 := Lib.hid hN
                try rw [← hvb]
                clear hHeld hb hN hy10 hvb
                refine hK.out _ _ B_y10.out (fun hHeld => ?_)
                clear hK K
                try simp only [Act.put, List.setIfInBounds_toArray, List.set_cons_zero, List.set_cons_succ]
                refine wpAnyH_ready (rs := [5]) (by kernel_rfl) (by simp) ?_
                refine (AllReadyH.cons (get_ops _ _ _ rfl) (fun K hK => ?_) AllReadyH.nil)
                have HW6 : Hid (y8.heap.size ≤ y10.heap.size) := Lib.hid Y_y10.out
                refine oper_owl (B := B0) (N := N0) (Bp := y8.heap.size) _ _ rfl (.slice A5 ys.length c5) ys (⟨y.x, a6, ac6⟩ : EE) (by go_simp) U_y10.out (by go_simp) X_y10.out P_y10.out.1 P_y10.out.2 HBN.out HZ6.out HW6.out (Nat.le_trans HLN.out (by decide)) ?_
                intro v6 y11 hO hK9 hsz9
                obtain ⟨A6, c6, rfl, hc6, hen6⟩ := LN.of gE_len hO.1
                have T_y11 : Hid (BK 26 y11 g5 (quC s n (.slice A5 ys.length c5))) := Lib.hid (hK9.bk T_y10.out (Or.inl HG5.out))
                have E_y11 : Hid (BK 34 y11 gEn (enX x xa xc)) := Lib.hid (hK9.bk E_y10.out (Or.inl HGEB.out.1))
                have R_y11 : Hid (BK 26 y11 g2 (quC Sp.zero 0 (.slice none 0 0))) := Lib.hid (hK9.bk R_y10.out (Or.inl HG1B.out.2))
                have B_y11 : Hid (Below w.heap.size w y11) := Lib.hid (hK9.below B_y10.out HWB.out)
                have U_y11 : Hid (OwL B0 y11.heap.size y11 (.slice A6 (ys ++ [(⟨y.x, a6, ac6⟩ : EE)]).length c6) (ys ++ [(⟨y.x, a6, ac6⟩ : EE)])) := Lib.hid hO
                have Z_y11 : Hid (N0 ≤ y11.heap.size) := Lib.hid (Nat.le_trans (Nat.le_trans HZ6.out HW6.out) hsz9)
                have HC6 := Lib.hid hc6
                have HSZ9_6 := Lib.hid hsz9
                have S_y11 : Hid (y11.heap.size ≤ y11.heap.size) := Lib.hid (Nat.le_refl _)
                clear hO hK9 hsz9 hc6 hen6 hHeld T_y10 U_y10 E_y10 R_y10 B_y10 V_y10 C_y10 P_y10 Y_y10 X_y10
                refine hK.out _ _ B_y11.out (fun hHeld => ?_)
                clear hK K
                try simp only [Act.put, List.setIfInBounds_toArray, List.set_cons_zero, List.set_cons_succ]
                refine wpAnyH_take (i := 6) (v := (.pointer (some ⟨g5, 6, none⟩))) (get_ops _ _ _ rfl) (by kernel_rfl) (by kernel_rfl) (by kernel_rfl) (fun _ _ _ h => h) (Or.inl ⟨by rfl, fun wS hSw => by (try dsimp only at hSw); go_simp⟩) hHeld ?_
                try simp only [Act.put, List.setIfInBounds_toArray, List.set_cons_zero, List.set_cons_succ]
                refine wpAnyH_ready (rs := [7]) (by kernel_rfl) (by simp) ?_
                refine (AllReadyH.cons (get_ops _ _ _ rfl) (fun K hK => ?_) AllReadyH.nil)
                refine wp_store 24 _ _ rfl rfl ⟨g5, 6, none⟩ (by go_simp) (.slice A6 (ys ++ [(⟨y.x, a6, ac6⟩ : EE)]).length c6) (by first | rfl | go_simp) _ (run_store_part y11 g5 6 1 26 24 (quC s n (.slice A5 ys.length c5)) [(.slice A6 (ys ++ [(⟨y.x, a6, ac6⟩ : EE)]).length c6)] _ rfl rfl (by kernel_rfl) T_y11.out (by show 6 + 1 ≤ 7; decide) (ones rfl)) ?_
                have hM : BK 26 (y11.setRow g5 (putC (quC s n (.slice A5 ys.length c5)) 6 [(.slice A6 (ys ++ [(⟨y.x, a6, ac6⟩ : EE)]).length c6)]).toArray) g5 (quC s n (.slice A6 (ys ++ [(⟨y.x, a6, ac6⟩ : EE)]).length c6)) := MT.put T_y11.out 6 [(.slice A6 (ys ++ [(⟨y.x, a6, ac6⟩ : EE)]).length c6)]
                have hP := S2.put_row y11 g5 (putC (quC s n (.slice A5 ys.length c5)) 6 [(.slice A6 (ys ++ [(⟨y.x, a6, ac6⟩ : EE)]).length c6)]).toArray
                refine name_world (C := fun w9 => K _ w9) _ ?_
                intro y12 hy12
                rw [← hy12] at hM hP
                clear hy12
                have T_y12 : Hid (BK 26 y12 g5 (quC s n (.slice A6 (ys ++ [(⟨y.x, a6, ac6⟩ : EE)]).length c6))) := Lib.hid (hM)
                have U_y12 : Hid (OwL B0 y11.heap.size y12 (.slice A6 (ys ++ [(⟨y.x, a6, ac6⟩ : EE)]).length c6) (ys ++ [(⟨y.x, a6, ac6⟩ : EE)])) := Lib.hid (OwL.put U_y11.out hP HG5.out)
                have E_y12 : Hid (BK 34 y12 gEn (enX x xa xc)) := Lib.hid (hP.other E_y11.out (by have h1 := HGEB.out.2; omega))
                have R_y12 : Hid (BK 26 y12 g2 (quC Sp.zero 0 (.slice none 0 0))) := Lib.hid (hP.other R_y11.out (by have h1 := HRS.out; omega))
                have B_y12 : Hid (Below w.heap.size w y12) := Lib.hid (hP.below B_y11.out HW5.out)
                have Z_y12 : Hid (N0 ≤ y12.heap.size) := Lib.hid (by have h9 := hP.size; have h8 := Z_y11.out; omega)
                have S_y12 : Hid (y11.heap.size ≤ y12.heap.size) := Lib.hid (by have h9 := hP.size; have h8 := S_y11.out; omega)
                clear T_y11 U_y11 E_y11 R_y11 B_y11 Z_y11 S_y11
                clear hM hP hHeld
                refine hK.out _ _ B_y12.out (fun hHeld => ?_)
                clear hK K
                try simp only [Act.put, List.setIfInBounds_toArray, List.set_cons_zero, List.set_cons_succ]
                refine wpAnyH_done (by kernel_rfl) ?_ _
                have w1a : j ≤ 1000000 := by have h1 := HJ.out; have h2 := HL.out; omega
                go_wp2
                go_roundg g
                case measure => omega
                case rel => exact ⟨j + 1, false, A6, c6, (ys ++ [(⟨y.x, a6, ac6⟩ : EE)]), by have := HJ.out; omega, by go_num, rfl, T_y12.out, U_y12.out.more S_y12.out, (by rw [insF_succ x HY1.out, HYS.out, List.map_append]; unfold stepI; rw [if_neg (by rw [HPB.out]; simp)]; rfl), E_y12.out, R_y12.out, B_y12.out, Nat.le_trans HBN.out (Nat.le_trans (Nat.le_refl _) Z_y12.out)⟩
              · go_simp
                obtain ⟨vb6, hvb⟩ : ∃ n, n = y9.heap.size := ⟨_, rfl⟩
                refine name_world (C := fun w9 => K _ w9) (y9.alloc (.cells (gE (⟨y.x, a6, ac6⟩ : EE)).toArray 34)) ?_
                intro y10 hy10
                have hb : Below y9.heap.size y9 y10 := by rw [hy10]; exact S2.below_new _ _
                have hN : BK 34 y10 vb6 (gE (⟨y.x, a6, ac6⟩ : EE)) := by rw [hy10, hvb]; exact BK.new _ _ _
                have T_y10 : Hid (BK 26 y10 g5 (quC s n (.slice A5 ys.length c5))) := Lib.hid (T_y9.out.step hb)
                have U_y10 : Hid (OwL B0 N0 y10 (.slice A5 ys.length c5) ys) := Lib.hid (OwL.step U_y9.out hb)
                have E_y10 : Hid (BK 34 y10 gEn (enX x xa xc)) := Lib.hid (E_y9.out.step hb)
                have R_y10 : Hid (BK 26 y10 g2 (quC Sp.zero 0 (.slice none 0 0))) := Lib.hid (R_y9.out.step hb)
                have B_y10 : Hid (Below w.heap.size w y10) := Lib.hid (stepB B_y9.out hb)
                have V_y10 : Hid (BK 34 y10 gx (gE y)) := Lib.hid (V_y9.out.step hb)
                have C_y10 : Hid (Below y7.heap.size y7 y10) := Lib.hid (stepB C_y9.out hb)
                have P_y10 : Hid (PN y10 y8.heap.size a6 y.x.m.props) := Lib.hid (PN.step P_y9.out hb)
                have Y_y10 : Hid (y8.heap.size ≤ y10.heap.size) := Lib.hid (Nat.le_trans Y_y9.out hb.size)
                clear T_y9 U_y9 E_y9 R_y9 B_y9 V_y9 C_y9 P_y9 Y_y9
                have X_y10 := Lib.hid hN
                try rw [← hvb]
                clear hHeld hb hN hy10 hvb
                refine hK.out _ _ B_y10.out (fun hHeld => ?_)
                clear hK K
                try simp only [Act.put, List.setIfInBounds_toArray, List.set_cons_zero, List.set_cons_succ]
                refine wpAnyH_ready (rs := [1]) (by kernel_rfl) (by simp) ?_
                refine (AllReadyH.cons (get_ops _ _ _ rfl) (fun K hK => ?_) AllReadyH.nil)
                refine wp_load2 24 _ rfl ⟨g5, 6, none⟩ (by first | rfl | go_simp) (.slice A5 ys.length c5) (by have cS := T_y10.out.cell 6 rfl; go_simp) ?_
                clear hHeld
                refine hK.out _ _ B_y10.out (fun hHeld => ?_)
                clear hK K
                try simp only [Act.put, List.setIfInBounds_toArray, List.set_cons_zero, List.set_cons_succ]
                refine wpAnyH_ready (rs := [5]) (by kernel_rfl) (by simp) ?_
                refine (AllReadyH.cons (get_ops _ _ _ rfl) (fun K hK => ?_) AllReadyH.nil)
                have HW6 : Hid (y8.heap.size ≤ y10.heap.size) := Lib.hid Y_y10.out
                refine oper_owl (B := B0) (N := N0) (Bp := y8.heap.size) _ _ rfl (.slice A5 ys.length c5) ys (⟨y.x, a6, ac6⟩ : EE) (by go_simp) U_y10.out (by go_simp) X_y10.out P_y10.out.1 P_y10.out.2 HBN.out HZ6.out HW6.out (Nat.le_trans HLN.out (by decide)) ?_
                intro v6 y11 hO hK9 hsz9
                obtain ⟨A6, c6, rfl, hc6, hen6⟩ := LN.of gE_len hO.1
                have T_y11 : Hid (BK 26 y11 g5 (quC s n (.slice A5 ys.length c5))) := Lib.hid (hK9.bk T_y10.out (Or.inl HG5.out))
                have E_y11 : Hid (BK 34 y11 gEn (enX x xa xc)) := Lib.hid (hK9.bk E_y10.out (Or.inl HGEB.out.1))
                have R_y11 : Hid (BK 26 y11 g2 (quC Sp.zero 0 (.slice none 0 0))) := Lib.hid (hK9.bk R_y10.out (Or.inl HG1B.out.2))
                have B_y11 : Hid (Below w.heap.size w y11) := Lib.hid (hK9.below B_y10.out HWB.out)
                have U_y11 : Hid (OwL B0 y11.heap.size y11 (.slice A6 (ys ++ [(⟨y.x, a6, ac6⟩ : EE)]).length c6) (ys ++ [(⟨y.x, a6, ac6⟩ : EE)])) := Lib.hid hO
                have Z_y11 : Hid (N0 ≤ y11.heap.size) := Lib.hid (Nat.le_trans (Nat.le_trans HZ6.out HW6.out) hsz9)
                have HC6 := Lib.hid hc6
                have HSZ9_6 := Lib.hid hsz9
                have S_y11 : Hid (y11.heap.size ≤ y11.heap.size) := Lib.hid (Nat.le_refl _)
                clear hO hK9 hsz9 hc6 hen6 hHeld T_y10 U_y10 E_y10 R_y10 B_y10 V_y10 C_y10 P_y10 Y_y10 X_y10
                refine hK.out _ _ B_y11.out (fun hHeld => ?_)
                clear hK K
                try simp only [Act.put, List.setIfInBounds_toArray, List.set_cons_zero, List.set_cons_succ]
                refine wpAnyH_take (i := 6) (v := (.pointer (some ⟨g5, 6, none⟩))) (get_ops _ _ _ rfl) (by kernel_rfl) (by kernel_rfl) (by kernel_rfl) (fun _ _ _ h => h) (Or.inl ⟨by rfl, fun wS hSw => by (try dsimp only at hSw); go_simp⟩) hHeld ?_
                try simp only [Act.put, List.setIfInBounds_toArray, List.set_cons_zero, List.set_cons_succ]
                refine wpAnyH_ready (rs := [7]) (by kernel_rfl) (by simp) ?_
                refine (AllReadyH.cons (get_ops _ _ _ rfl) (fun K hK => ?_) AllReadyH.nil)
                refine wp_store 24 _ _ rfl rfl ⟨g5, 6, none⟩ (by go_simp) (.slice A6 (ys ++ [(⟨y.x, a6, ac6⟩ : EE)]).length c6) (by first | rfl | go_simp) _ (run_store_part y11 g5 6 1 26 24 (quC s n (.slice A5 ys.length c5)) [(.slice A6 (ys ++ [(⟨y.x, a6, ac6⟩ : EE)]).length c6)] _ rfl rfl (by kernel_rfl) T_y11.out (by show 6 + 1 ≤ 7; decide) (ones rfl)) ?_
                have hM : BK 26 (y11.setRow g5 (putC (quC s n (.slice A5 ys.length c5)) 6 [(.slice A6 (ys ++ [(⟨y.x, a6, ac6⟩ : EE)]).length c6)]).toArray) g5 (quC s n (.slice A6 (ys ++ [(⟨y.x, a6, ac6⟩ : EE)]).length c6)) := MT.put T_y11.out 6 [(.slice A6 (ys ++ [(⟨y.x, a6, ac6⟩ : EE)]).length c6)]
                have hP := S2.put_row y11 g5 (putC (quC s n (.slice A5 ys.length c5)) 6 [(.slice A6 (ys ++ [(⟨y.x, a6, ac6⟩ : EE)]).length c6)]).toArray
                refine name_world (C := fun w9 => K _ w9) _ ?_
                intro y12 hy12
                rw [← hy12] at hM hP
                clear hy12
                have T_y12 : Hid (BK 26 y12 g5 (quC s n (.slice A6 (ys ++ [(⟨y.x, a6, ac6⟩ : EE)]).length c6))) := Lib.hid (hM)
                have U_y12 : Hid (OwL B0 y11.heap.size y12 (.slice A6 (ys ++ [(⟨y.x, a6, ac6⟩ : EE)]).length c6) (ys ++ [(⟨y.x, a6, ac6⟩ : EE)])) := Lib.hid (OwL.put U_y11.out hP HG5.out)
                have E_y12 : Hid (BK 34 y12 gEn (enX x xa xc)) := Lib.hid (hP.other E_y11.out (by have h1 := HGEB.out.2; omega))
                have R_y12 : Hid (BK 26 y12 g2 (quC Sp.zero 0 (.slice none 0 0))) := Lib.hid (hP.other R_y11.out (by have h1 := HRS.out; omega))
                have B_y12 : Hid (Below w.heap.size w y12) := Lib.hid (hP.below B_y11.out HW5.out)
                have Z_y12 : Hid (N0 ≤ y12.heap.size) := Lib.hid (by have h9 := hP.size; have h8 := Z_y11.out; omega)
                have S_y12 : Hid (y11.heap.size ≤ y12.heap.size) := Lib.hid (by have h9 := hP.size; have h8 := S_y11.out; omega)
                clear T_y11 U_y11 E_y11 R_y11 B_y11 Z_y11 S_y11
                clear hM hP hHeld
                refine hK.out _ _ B_y12.out (fun hHeld => ?_)
                clear hK K
                try simp only [Act.put, List.setIfInBounds_toArray, List.set_cons_zero, List.set_cons_succ]
                refine wpAnyH_done (by kernel_rfl) ?_ _
                have w1a : j ≤ 1000000 := by have h1 := HJ.out; have h2 := HL.out; omega
                go_wp2
                go_roundg g
                case measure => omega
                case rel => exact ⟨j + 1, false, A6, c6, (ys ++ [(⟨y.x, a6, ac6⟩ : EE)]), by have := HJ.out; omega, by go_num, rfl, T_y12.out, U_y12.out.more S_y12.out, (by rw [insF_succ x HY1.out, HYS.out, List.map_append]; unfold stepI; rw [if_neg (by rw [HPB.out]; simp)]; rfl), E_y12.out, R_y12.out, B_y12.out, Nat.le_trans HBN.out (Nat.le_trans (Nat.le_refl _) Z_y12.out)⟩
        | true =>
          go_upto_region 8 with fail
          go_cut [15] from 15 to 40 (fun s15 wx => s15 = .int .i64 j ∧ ∃ A6 c6 a6 ac6, BK 26 wx g5 (quC s n (.slice A6 (ys ++ [(⟨x, a6, ac6⟩ : EE)]).length c6)) ∧ OwL B0 wx.heap.size wx (.slice A6 (ys ++ [(⟨x, a6, ac6⟩ : EE)]).length c6) (ys ++ [(⟨x, a6, ac6⟩ : EE)]) ∧ BK 34 wx gEn (enX x xa xc) ∧ BK 26 wx g2 (quC Sp.zero 0 (.slice none 0 0)) ∧ Below w.heap.size w wx ∧ BK 34 wx gx (gE y) ∧ N0 ≤ wx.heap.size)
          case first =>
            have C_y7 : Hid (Below y7.heap.size y7 y7) := Lib.hid (Below.refl _ _)
            have HZW6 : Hid (N0 ≤ y7.heap.size) := Lib.hid Z_y7.out
            clear Z_y7
            obtain ⟨y9, hy9⟩ : ∃ y9, y9 = World.drew y7 := ⟨_, rfl⟩
            have hbD : Below y7.heap.size y7 y9 := by rw [hy9]; exact (Below.refl _ _).drew
            have T_y9 : Hid (BK 26 y9 g5 (quC s n (.slice A5 ys.length c5))) := Lib.hid (T_y7.out.step hbD)
            have U_y9 : Hid (OwL B0 N0 y9 (.slice A5 ys.length c5) ys) := Lib.hid (OwL.step U_y7.out hbD)
            have E_y9 : Hid (BK 34 y9 gEn (enX x xa xc)) := Lib.hid (E_y7.out.step hbD)
            have R_y9 : Hid (BK 26 y9 g2 (quC Sp.zero 0 (.slice none 0 0))) := Lib.hid (R_y7.out.step hbD)
            have B_y9 : Hid (Below w.heap.size w y9) := Lib.hid (stepB B_y7.out hbD)
            have V_y9 : Hid (BK 34 y9 gx (gE y)) := Lib.hid (V_y7.out.step hbD)
            have C_y9 : Hid (Below y7.heap.size y7 y9) := Lib.hid (stepB C_y7.out hbD)
            clear T_y7 U_y7 E_y7 R_y7 B_y7 V_y7 C_y7
            have hbd : (fun w' => BK 34 w' gEn (enX x xa xc)) (World.drew y7) := by rw [← hy9]; exact E_y9.out
            have hSD : (fun w' => BK 34 w' gEn (enX x xa xc)) y9 := E_y9.out
            have HWD := Lib.hid hy9
            clear hy9 hbD
            refine wp_region_held_drew (S := fun w' => BK 34 w' gEn (enX x xa xc)) (by kernel_rfl) hbd (fun hHeld => ?_)
            rw [← HWD.out]
            clear hHeld
            have hHeld := hSD
            clear hSD hbd HWD
            refine wpAnyH_take (i := 0) (v := (.pointer (some ⟨g5, 6, none⟩))) (get_ops _ _ _ rfl) (by kernel_rfl) (by kernel_rfl) (by kernel_rfl) (fun _ _ _ h => h) (Or.inl ⟨by rfl, fun wS hSw => by (try dsimp only at hSw); go_simp⟩) hHeld ?_
            try simp only [Act.put, List.setIfInBounds_toArray, List.set_cons_zero, List.set_cons_succ]
            refine wpAnyH_take (i := 2) (v := (.agg (enX x xa xc).toArray)) (get_ops _ _ _ rfl) (by kernel_rfl) (by kernel_rfl) (by kernel_rfl) (fun _ _ _ h => h) (Or.inl ⟨by rfl, fun wS hSw => by (try dsimp only at hSw); exact exec_load 34 _ rfl ⟨gEn, 0, none⟩ (by go_simp) _ (load_en0 hSw)⟩) hHeld ?_
            try simp only [Act.put, List.setIfInBounds_toArray, List.set_cons_zero, List.set_cons_succ]
            refine wpAnyH_ready (rs := [1, 3]) (by kernel_rfl) (by simp) ?_
            refine (AllReadyH.cons (get_ops _ _ _ rfl) (fun K hK => ?_) (AllReadyH.cons (get_ops _ _ _ rfl) (fun K hK => ?_) AllReadyH.nil))
            · refine wp_load2 24 _ rfl ⟨g5, 6, none⟩ (by first | rfl | go_simp) (.slice A5 ys.length c5) (by have cS := T_y9.out.cell 6 rfl; go_simp) ?_
              clear hHeld
              refine hK.out _ _ E_y9.out (fun hHeld => ?_)
              clear hK K
              try simp only [Act.put, List.setIfInBounds_toArray, List.set_cons_zero, List.set_cons_succ]
              refine wpAnyH_ready (rs := [3]) (by kernel_rfl) (by simp) ?_
              refine (AllReadyH.cons (get_ops _ _ _ rfl) (fun K hK => ?_) AllReadyH.nil)
              have HZ6 : Hid (N0 ≤ y9.heap.size) := Lib.hid (Nat.le_trans HZW6.out C_y9.out.size)
              go_simp
              refine (HCE.out x xa xc y9 (HXL.out _ B_y9.out) HXP.out).mono ?_
              rintro e y10 ⟨a6, ac6, rfl, hpl, hnl, hb⟩
              have T_y10 : Hid (BK 26 y10 g5 (quC s n (.slice A5 ys.length c5))) := Lib.hid (T_y9.out.step hb)
              have U_y10 : Hid (OwL B0 N0 y10 (.slice A5 ys.length c5) ys) := Lib.hid (OwL.step U_y9.out hb)
              have E_y10 : Hid (BK 34 y10 gEn (enX x xa xc)) := Lib.hid (E_y9.out.step hb)
              have R_y10 : Hid (BK 26 y10 g2 (quC Sp.zero 0 (.slice none 0 0))) := Lib.hid (R_y9.out.step hb)
              have B_y10 : Hid (Below w.heap.size w y10) := Lib.hid (stepB B_y9.out hb)
              have V_y10 : Hid (BK 34 y10 gx (gE y)) := Lib.hid (V_y9.out.step hb)
              have C_y10 : Hid (Below y7.heap.size y7 y10) := Lib.hid (stepB C_y9.out hb)
              clear T_y9 U_y9 E_y9 R_y9 B_y9 V_y9 C_y9
              have P_y10 : Hid (PN y10 y9.heap.size a6 x.m.props) := Lib.hid ⟨hpl, hnl⟩
              have Y_y10 : Hid (y9.heap.size ≤ y10.heap.size) := Lib.hid hb.size
              clear hpl hnl
              clear hHeld hb
              go_wp2_with fail
              refine hK.out _ _ E_y10.out (fun hHeld => ?_)
              clear hK K
              try simp only [Act.put, List.setIfInBounds_toArray, List.set_cons_zero, List.set_cons_succ]
              refine wpAnyH_ready (rs := [4]) (by kernel_rfl) (by simp) ?_
              refine (AllReadyH.cons (get_ops _ _ _ rfl) (fun K hK => ?_) AllReadyH.nil)
              go_simp
              obtain ⟨vb6, hvb⟩ : ∃ n, n = y10.heap.size := ⟨_, rfl⟩
              refine name_world (C := fun w9 => K _ w9) (y10.alloc (.cells (gE (⟨x, a6, ac6⟩ : EE)).toArray 34)) ?_
              intro y11 hy11
              have hb : Below y10.heap.size y10 y11 := by rw [hy11]; exact S2.below_new _ _
              have hN : BK 34 y11 vb6 (gE (⟨x, a6, ac6⟩ : EE)) := by rw [hy11, hvb]; exact BK.new _ _ _
              have T_y11 : Hid (BK 26 y11 g5 (quC s n (.slice A5 ys.length c5))) := Lib.hid (T_y10.out.step hb)
              have U_y11 : Hid (OwL B0 N0 y11 (.slice A5 ys.length c5) ys) := Lib.hid (OwL.step U_y10.out hb)
              have E_y11 : Hid (BK 34 y11 gEn (enX x xa xc)) := Lib.hid (E_y10.out.step hb)
              have R_y11 : Hid (BK 26 y11 g2 (quC Sp.zero 0 (.slice none 0 0))) := Lib.hid (R_y10.out.step hb)
              have B_y11 : Hid (Below w.heap.size w y11) := Lib.hid (stepB B_y10.out hb)
              have V_y11 : Hid (BK 34 y11 gx (gE y)) := Lib.hid (V_y10.out.step hb)
              have C_y11 : Hid (Below y7.heap.size y7 y11) := Lib.hid (stepB C_y10.out hb)
              have P_y11 : Hid (PN y11 y9.heap.size a6 x.m.props) := Lib.hid (PN.step P_y10.out hb)
              have Y_y11 : Hid (y9.heap.size ≤ y11.heap.size) := Lib.hid (Nat.le_trans Y_y10.out hb.size)
              clear T_y10 U_y10 E_y10 R_y10 B_y10 V_y10 C_y10 P_y10 Y_y10
              have X_y11 := Lib.hid hN
              try rw [← hvb]
              clear hHeld hb hN hy11 hvb
              refine hK.out _ _ E_y11.out (fun hHeld => ?_)
              clear hK K
              try simp only [Act.put, List.setIfInBounds_toArray, List.set_cons_zero, List.set_cons_succ]
              refine wpAnyH_ready (rs := [5]) (by kernel_rfl) (by simp) ?_
              refine (AllReadyH.cons (get_ops _ _ _ rfl) (fun K hK => ?_) AllReadyH.nil)
              have HW6 : Hid (y9.heap.size ≤ y11.heap.size) := Lib.hid Y_y11.out
              refine oper_owl (B := B0) (N := N0) (Bp := y9.heap.size) _ _ rfl (.slice A5 ys.length c5) ys (⟨x, a6, ac6⟩ : EE) (by go_simp) U_y11.out (by go_simp) X_y11.out P_y11.out.1 P_y11.out.2 HBN.out HZ6.out HW6.out (Nat.le_trans HLN.out (by decide)) ?_
              intro v6 y12 hO hK9 hsz9
              obtain ⟨A6, c6, rfl, hc6, hen6⟩ := LN.of gE_len hO.1
              have T_y12 : Hid (BK 26 y12 g5 (quC s n (.slice A5 ys.length c5))) := Lib.hid (hK9.bk T_y11.out (Or.inl HG5.out))
              have E_y12 : Hid (BK 34 y12 gEn (enX x xa xc)) := Lib.hid (hK9.bk E_y11.out (Or.inl HGEB.out.1))
              have R_y12 : Hid (BK 26 y12 g2 (quC Sp.zero 0 (.slice none 0 0))) := Lib.hid (hK9.bk R_y11.out (Or.inl HG1B.out.2))
              have B_y12 : Hid (Below w.heap.size w y12) := Lib.hid (hK9.below B_y11.out HWB.out)
              have V_y12 : Hid (BK 34 y12 gx (gE y)) := Lib.hid (hK9.bk V_y11.out (Or.inr HGX.out))
              have U_y12 : Hid (OwL B0 y12.heap.size y12 (.slice A6 (ys ++ [(⟨x, a6, ac6⟩ : EE)]).length c6) (ys ++ [(⟨x, a6, ac6⟩ : EE)])) := Lib.hid hO
              have Z_y12 : Hid (N0 ≤ y12.heap.size) := Lib.hid (Nat.le_trans (Nat.le_trans HZ6.out HW6.out) hsz9)
              have HC6 := Lib.hid hc6
              have HSZ9_6 := Lib.hid hsz9
              have S_y12 : Hid (y12.heap.size ≤ y12.heap.size) := Lib.hid (Nat.le_refl _)
              clear hO hK9 hsz9 hc6 hen6 hHeld T_y11 U_y11 E_y11 R_y11 B_y11 V_y11 C_y11 P_y11 Y_y11 X_y11
              refine hK.out _ _ E_y12.out (fun hHeld => ?_)
              clear hK K
              try simp only [Act.put, List.setIfInBounds_toArray, List.set_cons_zero, List.set_cons_succ]
              refine wpAnyH_take (i := 6) (v := (.pointer (some ⟨g5, 6, none⟩))) (get_ops _ _ _ rfl) (by kernel_rfl) (by kernel_rfl) (by kernel_rfl) (fun _ _ _ h => h) (Or.inl ⟨by rfl, fun wS hSw => by (try dsimp only at hSw); go_simp⟩) hHeld ?_
              try simp only [Act.put, List.setIfInBounds_toArray, List.set_cons_zero, List.set_cons_succ]
              refine wpAnyH_ready (rs := [7]) (by kernel_rfl) (by simp) ?_
              refine (AllReadyH.cons (get_ops _ _ _ rfl) (fun K hK => ?_) AllReadyH.nil)
              refine wp_store 24 _ _ rfl rfl ⟨g5, 6, none⟩ (by go_simp) (.slice A6 (ys ++ [(⟨x, a6, ac6⟩ : EE)]).length c6) (by first | rfl | go_simp) _ (run_store_part y12 g5 6 1 26 24 (quC s n (.slice A5 ys.length c5)) [(.slice A6 (ys ++ [(⟨x, a6, ac6⟩ : EE)]).length c6)] _ rfl rfl (by kernel_rfl) T_y12.out (by show 6 + 1 ≤ 7; decide) (ones rfl)) ?_
              have hM : BK 26 (y12.setRow g5 (putC (quC s n (.slice A5 ys.length c5)) 6 [(.slice A6 (ys ++ [(⟨x, a6, ac6⟩ : EE)]).length c6)]).toArray) g5 (quC s n (.slice A6 (ys ++ [(⟨x, a6, ac6⟩ : EE)]).length c6)) := MT.put T_y12.out 6 [(.slice A6 (ys ++ [(⟨x, a6, ac6⟩ : EE)]).length c6)]
              have hP := S2.put_row y12 g5 (putC (quC s n (.slice A5 ys.length c5)) 6 [(.slice A6 (ys ++ [(⟨x, a6, ac6⟩ : EE)]).length c6)]).toArray
              refine name_world (C := fun w9 => K _ w9) _ ?_
              intro y13 hy13
              rw [← hy13] at hM hP
              clear hy13
              have T_y13 : Hid (BK 26 y13 g5 (quC s n (.slice A6 (ys ++ [(⟨x, a6, ac6⟩ : EE)]).length c6))) := Lib.hid (hM)
              have U_y13 : Hid (OwL B0 y12.heap.size y13 (.slice A6 (ys ++ [(⟨x, a6, ac6⟩ : EE)]).length c6) (ys ++ [(⟨x, a6, ac6⟩ : EE)])) := Lib.hid (OwL.put U_y12.out hP HG5.out)
              have E_y13 : Hid (BK 34 y13 gEn (enX x xa xc)) := Lib.hid (hP.other E_y12.out (by have h1 := HGEB.out.2; omega))
              have R_y13 : Hid (BK 26 y13 g2 (quC Sp.zero 0 (.slice none 0 0))) := Lib.hid (hP.other R_y12.out (by have h1 := HRS.out; omega))
              have B_y13 : Hid (Below w.heap.size w y13) := Lib.hid (hP.below B_y12.out HW5.out)
              have V_y13 : Hid (BK 34 y13 gx (gE y)) := Lib.hid (hP.other V_y12.out (by have h1 := HGX.out; have h2 := HG5.out; have h3 := HBN.out; omega))
              have Z_y13 : Hid (N0 ≤ y13.heap.size) := Lib.hid (by have h9 := hP.size; have h8 := Z_y12.out; omega)
              have S_y13 : Hid (y12.heap.size ≤ y13.heap.size) := Lib.hid (by have h9 := hP.size; have h8 := S_y12.out; omega)
              clear T_y12 U_y12 E_y12 R_y12 B_y12 V_y12 Z_y12 S_y12
              clear hM hP hHeld
              refine hK.out _ _ E_y13.out (fun hHeld => ?_)
              clear hK K
              try simp only [Act.put, List.setIfInBounds_toArray, List.set_cons_zero, List.set_cons_succ]
              refine wpAnyH_done (by kernel_rfl) ?_ _
              go_wp2_with fail
              go_meet
              exact ⟨rfl, A6, c6, a6, ac6, T_y13.out, U_y13.out.more S_y13.out, E_y13.out, R_y13.out, B_y13.out, V_y13.out, Z_y13.out⟩
            · have HZ6 : Hid (N0 ≤ y9.heap.size) := Lib.hid (Nat.le_trans HZW6.out C_y9.out.size)
              go_simp
              refine (HCE.out x xa xc y9 (HXL.out _ B_y9.out) HXP.out).mono ?_
              rintro e y10 ⟨a6, ac6, rfl, hpl, hnl, hb⟩
              have T_y10 : Hid (BK 26 y10 g5 (quC s n (.slice A5 ys.length c5))) := Lib.hid (T_y9.out.step hb)
              have U_y10 : Hid (OwL B0 N0 y10 (.slice A5 ys.length c5) ys) := Lib.hid (OwL.step U_y9.out hb)
              have E_y10 : Hid (BK 34 y10 gEn (enX x xa xc)) := Lib.hid (E_y9.out.step hb)
              have R_y10 : Hid (BK 26 y10 g2 (quC Sp.zero 0 (.slice none 0 0))) := Lib.hid (R_y9.out.step hb)
              have B_y10 : Hid (Below w.heap.size w y10) := Lib.hid (stepB B_y9.out hb)
              have V_y10 : Hid (BK 34 y10 gx (gE y)) := Lib.hid (V_y9.out.step hb)
              have C_y10 : Hid (Below y7.heap.size y7 y10) := Lib.hid (stepB C_y9.out hb)
              clear T_y9 U_y9 E_y9 R_y9 B_y9 V_y9 C_y9
              have P_y10 : Hid (PN y10 y9.heap.size a6 x.m.props) := Lib.hid ⟨hpl, hnl⟩
              have Y_y10 : Hid (y9.heap.size ≤ y10.heap.size) := Lib.hid hb.size
              clear hpl hnl
              clear hHeld hb
              go_wp2_with fail
              refine hK.out _ _ E_y10.out (fun hHeld => ?_)
              clear hK K
              try simp only [Act.put, List.setIfInBounds_toArray, List.set_cons_zero, List.set_cons_succ]
              refine wpAnyH_ready (rs := [1, 4]) (by kernel_rfl) (by simp) ?_
              refine (AllReadyH.cons (get_ops _ _ _ rfl) (fun K hK => ?_) (AllReadyH.cons (get_ops _ _ _ rfl) (fun K hK => ?_) AllReadyH.nil))
              · refine wp_load2 24 _ rfl ⟨g5, 6, none⟩ (by first | rfl | go_simp) (.slice A5 ys.length c5) (by have cS := T_y10.out.cell 6 rfl; go_simp) ?_
                clear hHeld
                refine hK.out _ _ E_y10.out (fun hHeld => ?_)
                clear hK K
                try simp only [Act.put, List.setIfInBounds_toArray, List.set_cons_zero, List.set_cons_succ]
                refine wpAnyH_ready (rs := [4]) (by kernel_rfl) (by simp) ?_
                refine (AllReadyH.cons (get_ops _ _ _ rfl) (fun K hK => ?_) AllReadyH.nil)
                go_simp
                obtain ⟨vb6, hvb⟩ : ∃ n, n = y10.heap.size := ⟨_, rfl⟩
                refine name_world (C := fun w9 => K _ w9) (y10.alloc (.cells (gE (⟨x, a6, ac6⟩ : EE)).toArray 34)) ?_
                intro y11 hy11
                have hb : Below y10.heap.size y10 y11 := by rw [hy11]; exact S2.below_new _ _
                have hN : BK 34 y11 vb6 (gE (⟨x, a6, ac6⟩ : EE)) := by rw [hy11, hvb]; exact BK.new _ _ _
                have T_y11 : Hid (BK 26 y11 g5 (quC s n (.slice A5 ys.length c5))) := Lib.hid (T_y10.out.step hb)
                have U_y11 : Hid (OwL B0 N0 y11 (.slice A5 ys.length c5) ys) := Lib.hid (OwL.step U_y10.out hb)
                have E_y11 : Hid (BK 34 y11 gEn (enX x xa xc)) := Lib.hid (E_y10.out.step hb)
                have R_y11 : Hid (BK 26 y11 g2 (quC Sp.zero 0 (.slice none 0 0))) := Lib.hid (R_y10.out.step hb)
                have B_y11 : Hid (Below w.heap.size w y11) := Lib.hid (stepB B_y10.out hb)
                have V_y11 : Hid (BK 34 y11 gx (gE y)) := Lib.hid (V_y10.out.step hb)
                have C_y11 : Hid (Below y7.heap.size y7 y11) := Lib.hid (stepB C_y10.out hb)
                have P_y11 : Hid (PN y11 y9.heap.size a6 x.m.props) := Lib.hid (PN.step P_y10.out hb)
                have Y_y11 : Hid (y9.heap.size ≤ y11.heap.size) := Lib.hid (Nat.le_trans Y_y10.out hb.size)
                clear T_y10 U_y10 E_y10 R_y10 B_y10 V_y10 C_y10 P_y10 Y_y10
                have X_y11 := Lib.hid hN
                try rw [← hvb]
                clear hHeld hb hN hy11 hvb
                refine hK.out _ _ E_y11.out (fun hHeld => ?_)
                clear hK K
                try simp only [Act.put, List.setIfInBounds_toArray, List.set_cons_zero, List.set_cons_succ]
                refine wpAnyH_ready (rs := [5]) (by kernel_rfl) (by simp) ?_
                refine (AllReadyH.cons (get_ops _ _ _ rfl) (fun K hK => ?_) AllReadyH.nil)
                have HW6 : Hid (y9.heap.size ≤ y11.heap.size) := Lib.hid Y_y11.out
                refine oper_owl (B := B0) (N := N0) (Bp := y9.heap.size) _ _ rfl (.slice A5 ys.length c5) ys (⟨x, a6, ac6⟩ : EE) (by go_simp) U_y11.out (by go_simp) X_y11.out P_y11.out.1 P_y11.out.2 HBN.out HZ6.out HW6.out (Nat.le_trans HLN.out (by decide)) ?_
                intro v6 y12 hO hK9 hsz9
                obtain ⟨A6, c6, rfl, hc6, hen6⟩ := LN.of gE_len hO.1
                have T_y12 : Hid (BK 26 y12 g5 (quC s n (.slice A5 ys.length c5))) := Lib.hid (hK9.bk T_y11.out (Or.inl HG5.out))
                have E_y12 : Hid (BK 34 y12 gEn (enX x xa xc)) := Lib.hid (hK9.bk E_y11.out (Or.inl HGEB.out.1))
                have R_y12 : Hid (BK 26 y12 g2 (quC Sp.zero 0 (.slice none 0 0))) := Lib.hid (hK9.bk R_y11.out (Or.inl HG1B.out.2))
                have B_y12 : Hid (Below w.heap.size w y12) := Lib.hid (hK9.below B_y11.out HWB.out)
                have V_y12 : Hid (BK 34 y12 gx (gE y)) := Lib.hid (hK9.bk V_y11.out (Or.inr HGX.out))
                have U_y12 : Hid (OwL B0 y12.heap.size y12 (.slice A6 (ys ++ [(⟨x, a6, ac6⟩ : EE)]).length c6) (ys ++ [(⟨x, a6, ac6⟩ : EE)])) := Lib.hid hO
                have Z_y12 : Hid (N0 ≤ y12.heap.size) := Lib.hid (Nat.le_trans (Nat.le_trans HZ6.out HW6.out) hsz9)
                have HC6 := Lib.hid hc6
                have HSZ9_6 := Lib.hid hsz9
                have S_y12 : Hid (y12.heap.size ≤ y12.heap.size) := Lib.hid (Nat.le_refl _)
                clear hO hK9 hsz9 hc6 hen6 hHeld T_y11 U_y11 E_y11 R_y11 B_y11 V_y11 C_y11 P_y11 Y_y11 X_y11
                refine hK.out _ _ E_y12.out (fun hHeld => ?_)
                clear hK K
                try simp only [Act.put, List.setIfInBounds_toArray, List.set_cons_zero, List.set_cons_succ]
                refine wpAnyH_take (i := 6) (v := (.pointer (some ⟨g5, 6, none⟩))) (get_ops _ _ _ rfl) (by kernel_rfl) (by kernel_rfl) (by kernel_rfl) (fun _ _ _ h => h) (Or.inl ⟨by rfl, fun wS hSw => by (try dsimp only at hSw); go_simp⟩) hHeld ?_
                try simp only [Act.put, List.setIfInBounds_toArray, List.set_cons_zero, List.set_cons_succ]
                refine wpAnyH_ready (rs := [7]) (by kernel_rfl) (by simp) ?_
                refine (AllReadyH.cons (get_ops _ _ _ rfl) (fun K hK => ?_) AllReadyH.nil)
                refine wp_store 24 _ _ rfl rfl ⟨g5, 6, none⟩ (by go_simp) (.slice A6 (ys ++ [(⟨x, a6, ac6⟩ : EE)]).length c6) (by first | rfl | go_simp) _ (run_store_part y12 g5 6 1 26 24 (quC s n (.slice A5 ys.length c5)) [(.slice A6 (ys ++ [(⟨x, a6, ac6⟩ : EE)]).length c6)] _ rfl rfl (by kernel_rfl) T_y12.out (by show 6 + 1 ≤ 7; decide) (ones rfl)) ?_
                have hM : BK 26 (y12.setRow g5 (putC (quC s n (.slice A5 ys.length c5)) 6 [(.slice A6 (ys ++ [(⟨x, a6, ac6⟩ : EE)]).length c6)]).toArray) g5 (quC s n (.slice A6 (ys ++ [(⟨x, a6, ac6⟩ : EE)]).length c6)) := MT.put T_y12.out 6 [(.slice A6 (ys ++ [(⟨x, a6, ac6⟩ : EE)]).length c6)]
                have hP := S2.put_row y12 g5 (putC (quC s n (.slice A5 ys.length c5)) 6 [(.slice A6 (ys ++ [(⟨x, a6, ac6⟩ : EE)]).length c6)]).toArray
                refine name_world (C := fun w9 => K _ w9) _ ?_
                intro y13 hy13
                rw [← hy13] at hM hP
                clear hy13
                have T_y13 : Hid (BK 26 y13 g5 (quC s n (.slice A6 (ys ++ [(⟨x, a6, ac6⟩ : EE)]).length c6))) := Lib.hid (hM)
                have U_y13 : Hid (OwL B0 y12.heap.size y13 (.slice A6 (ys ++ [(⟨x, a6, ac6⟩ : EE)]).length c6) (ys ++ [(⟨x, a6, ac6⟩ : EE)])) := Lib.hid (OwL.put U_y12.out hP HG5.out)
                have E_y13 : Hid (BK 34 y13 gEn (enX x xa xc)) := Lib.hid (hP.other E_y12.out (by have h1 := HGEB.out.2; omega))
                have R_y13 : Hid (BK 26 y13 g2 (quC Sp.zero 0 (.slice none 0 0))) := Lib.hid (hP.other R_y12.out (by have h1 := HRS.out; omega))
                have B_y13 : Hid (Below w.heap.size w y13) := Lib.hid (hP.below B_y12.out HW5.out)
                have V_y13 : Hid (BK 34 y13 gx (gE y)) := Lib.hid (hP.other V_y12.out (by have h1 := HGX.out; have h2 := HG5.out; have h3 := HBN.out; omega))
                have Z_y13 : Hid (N0 ≤ y13.heap.size) := Lib.hid (by have h9 := hP.size; have h8 := Z_y12.out; omega)
                have S_y13 : Hid (y12.heap.size ≤ y13.heap.size) := Lib.hid (by have h9 := hP.size; have h8 := S_y12.out; omega)
                clear T_y12 U_y12 E_y12 R_y12 B_y12 V_y12 Z_y12 S_y12
                clear hM hP hHeld
                refine hK.out _ _ E_y13.out (fun hHeld => ?_)
                clear hK K
                try simp only [Act.put, List.setIfInBounds_toArray, List.set_cons_zero, List.set_cons_succ]
                refine wpAnyH_done (by kernel_rfl) ?_ _
                go_wp2_with fail
                go_meet
                exact ⟨rfl, A6, c6, a6, ac6, T_y13.out, U_y13.out.more S_y13.out, E_y13.out, R_y13.out, B_y13.out, V_y13.out, Z_y13.out⟩
              · go_simp
                obtain ⟨vb6, hvb⟩ : ∃ n, n = y10.heap.size := ⟨_, rfl⟩
                refine name_world (C := fun w9 => K _ w9) (y10.alloc (.cells (gE (⟨x, a6, ac6⟩ : EE)).toArray 34)) ?_
                intro y11 hy11
                have hb : Below y10.heap.size y10 y11 := by rw [hy11]; exact S2.below_new _ _
                have hN : BK 34 y11 vb6 (gE (⟨x, a6, ac6⟩ : EE)) := by rw [hy11, hvb]; exact BK.new _ _ _
                have T_y11 : Hid (BK 26 y11 g5 (quC s n (.slice A5 ys.length c5))) := Lib.hid (T_y10.out.step hb)
                have U_y11 : Hid (OwL B0 N0 y11 (.slice A5 ys.length c5) ys) := Lib.hid (OwL.step U_y10.out hb)
                have E_y11 : Hid (BK 34 y11 gEn (enX x xa xc)) := Lib.hid (E_y10.out.step hb)
                have R_y11 : Hid (BK 26 y11 g2 (quC Sp.zero 0 (.slice none 0 0))) := Lib.hid (R_y10.out.step hb)
                have B_y11 : Hid (Below w.heap.size w y11) := Lib.hid (stepB B_y10.out hb)
                have V_y11 : Hid (BK 34 y11 gx (gE y)) := Lib.hid (V_y10.out.step hb)
                have C_y11 : Hid (Below y7.heap.size y7 y11) := Lib.hid (stepB C_y10.out hb)
                have P_y11 : Hid (PN y11 y9.heap.size a6 x.m.props) := Lib.hid (PN.step P_y10.out hb)
                have Y_y11 : Hid (y9.heap.size ≤ y11.heap.size) := Lib.hid (Nat.le_trans Y_y10.out hb.size)
                clear T_y10 U_y10 E_y10 R_y10 B_y10 V_y10 C_y10 P_y10 Y_y10
                have X_y11 := Lib.hid hN
                try rw [← hvb]
                clear hHeld hb hN hy11 hvb
                refine hK.out _ _ E_y11.out (fun hHeld => ?_)
                clear hK K
                try simp only [Act.put, List.setIfInBounds_toArray, List.set_cons_zero, List.set_cons_succ]
                refine wpAnyH_ready (rs := [1]) (by kernel_rfl) (by simp) ?_
                refine (AllReadyH.cons (get_ops _ _ _ rfl) (fun K hK => ?_) AllReadyH.nil)
                refine wp_load2 24 _ rfl ⟨g5, 6, none⟩ (by first | rfl | go_simp) (.slice A5 ys.length c5) (by have cS := T_y11.out.cell 6 rfl; go_simp) ?_
                clear hHeld
                refine hK.out _ _ E_y11.out (fun hHeld => ?_)
                clear hK K
                try simp only [Act.put, List.setIfInBounds_toArray, List.set_cons_zero, List.set_cons_succ]
                refine wpAnyH_ready (rs := [5]) (by kernel_rfl) (by simp) ?_
                refine (AllReadyH.cons (get_ops _ _ _ rfl) (fun K hK => ?_) AllReadyH.nil)
                have HW6 : Hid (y9.heap.size ≤ y11.heap.size) := Lib.hid Y_y11.out
                refine oper_owl (B := B0) (N := N0) (Bp := y9.heap.size) _ _ rfl (.slice A5 ys.length c5) ys (⟨x, a6, ac6⟩ : EE) (by go_simp) U_y11.out (by go_simp) X_y11.out P_y11.out.1 P_y11.out.2 HBN.out HZ6.out HW6.out (Nat.le_trans HLN.out (by decide)) ?_
                intro v6 y12 hO hK9 hsz9
                obtain ⟨A6, c6, rfl, hc6, hen6⟩ := LN.of gE_len hO.1
                have T_y12 : Hid (BK 26 y12 g5 (quC s n (.slice A5 ys.length c5))) := Lib.hid (hK9.bk T_y11.out (Or.inl HG5.out))
                have E_y12 : Hid (BK 34 y12 gEn (enX x xa xc)) := Lib.hid (hK9.bk E_y11.out (Or.inl HGEB.out.1))
                have R_y12 : Hid (BK 26 y12 g2 (quC Sp.zero 0 (.slice none 0 0))) := Lib.hid (hK9.bk R_y11.out (Or.inl HG1B.out.2))
                have B_y12 : Hid (Below w.heap.size w y12) := Lib.hid (hK9.below B_y11.out HWB.out)
                have V_y12 : Hid (BK 34 y12 gx (gE y)) := Lib.hid (hK9.bk V_y11.out (Or.inr HGX.out))
                have U_y12 : Hid (OwL B0 y12.heap.size y12 (.slice A6 (ys ++ [(⟨x, a6, ac6⟩ : EE)]).length c6) (ys ++ [(⟨x, a6, ac6⟩ : EE)])) := Lib.hid hO
                have Z_y12 : Hid (N0 ≤ y12.heap.size) := Lib.hid (Nat.le_trans (Nat.le_trans HZ6.out HW6.out) hsz9)
                have HC6 := Lib.hid hc6
                have HSZ9_6 := Lib.hid hsz9
                have S_y12 : Hid (y12.heap.size ≤ y12.heap.size) := Lib.hid (Nat.le_refl _)
                clear hO hK9 hsz9 hc6 hen6 hHeld T_y11 U_y11 E_y11 R_y11 B_y11 V_y11 C_y11 P_y11 Y_y11 X_y11
                refine hK.out _ _ E_y12.out (fun hHeld => ?_)
                clear hK K
                try simp only [Act.put, List.setIfInBounds_toArray, List.set_cons_zero, List.set_cons_succ]
                refine wpAnyH_take (i := 6) (v := (.pointer (some ⟨g5, 6, none⟩))) (get_ops _ _ _ rfl) (by kernel_rfl) (by kernel_rfl) (by kernel_rfl) (fun _ _ _ h => h) (Or.inl ⟨by rfl, fun wS hSw => by (try dsimp only at hSw); go_simp⟩) hHeld ?_
                try simp only [Act.put, List.setIfInBounds_toArray, List.set_cons_zero, List.set_cons_succ]
                refine wpAnyH_ready (rs := [7]) (by kernel_rfl) (by simp) ?_
                refine (AllReadyH.cons (get_ops _ _ _ rfl) (fun K hK => ?_) AllReadyH.nil)
                refine wp_store 24 _ _ rfl rfl ⟨g5, 6, none⟩ (by go_simp) (.slice A6 (ys ++ [(⟨x, a6, ac6⟩ : EE)]).length c6) (by first | rfl | go_simp) _ (run_store_part y12 g5 6 1 26 24 (quC s n (.slice A5 ys.length c5)) [(.slice A6 (ys ++ [(⟨x, a6, ac6⟩ : EE)]).length c6)] _ rfl rfl (by kernel_rfl) T_y12.out (by show 6 + 1 ≤ 7; decide) (ones rfl)) ?_
                have hM : BK 26 (y12.setRow g5 (putC (quC s n (.slice A5 ys.length c5)) 6 [(.slice A6 (ys ++ [(⟨x, a6, ac6⟩ : EE)]).length c6)]).toArray) g5 (quC s n (.slice A6 (ys ++ [(⟨x, a6, ac6⟩ : EE)]).length c6)) := MT.put T_y12.out 6 [(.slice A6 (ys ++ [(⟨x, a6, ac6⟩ : EE)]).length c6)]
                have hP := S2.put_row y12 g5 (putC (quC s n (.slice A5 ys.length c5)) 6 [(.slice A6 (ys ++ [(⟨x, a6, ac6⟩ : EE)]).length c6)]).toArray
                refine name_world (C := fun w9 => K _ w9) _ ?_
                intro y13 hy13
                rw [← hy13] at hM hP
                clear hy13
                have T_y13 : Hid (BK 26 y13 g5 (quC s n (.slice A6 (ys ++ [(⟨x, a6, ac6⟩ : EE)]).length c6))) := Lib.hid (hM)
                have U_y13 : Hid (OwL B0 y12.heap.size y13 (.slice A6 (ys ++ [(⟨x, a6, ac6⟩ : EE)]).length c6) (ys ++ [(⟨x, a6, ac6⟩ : EE)])) := Lib.hid (OwL.put U_y12.out hP HG5.out)
                have E_y13 : Hid (BK 34 y13 gEn (enX x xa xc)) := Lib.hid (hP.other E_y12.out (by have h1 := HGEB.out.2; omega))
                have R_y13 : Hid (BK 26 y13 g2 (quC Sp.zero 0 (.slice none 0 0))) := Lib.hid (hP.other R_y12.out (by have h1 := HRS.out; omega))
                have B_y13 : Hid (Below w.heap.size w y13) := Lib.hid (hP.below B_y12.out HW5.out)
                have V_y13 : Hid (BK 34 y13 gx (gE y)) := Lib.hid (hP.other V_y12.out (by have h1 := HGX.out; have h2 := HG5.out; have h3 := HBN.out; omega))
                have Z_y13 : Hid (N0 ≤ y13.heap.size) := Lib.hid (by have h9 := hP.size; have h8 := Z_y12.out; omega)
                have S_y13 : Hid (y12.heap.size ≤ y13.heap.size) := Lib.hid (by have h9 := hP.size; have h8 := S_y12.out; omega)
                clear T_y12 U_y12 E_y12 R_y12 B_y12 V_y12 Z_y12 S_y12
                clear hM hP hHeld
                refine hK.out _ _ E_y13.out (fun hHeld => ?_)
                clear hK K
                try simp only [Act.put, List.setIfInBounds_toArray, List.set_cons_zero, List.set_cons_succ]
                refine wpAnyH_done (by kernel_rfl) ?_ _
                go_wp2_with fail
                go_meet
                exact ⟨rfl, A6, c6, a6, ac6, T_y13.out, U_y13.out.more S_y13.out, E_y13.out, R_y13.out, B_y13.out, V_y13.out, Z_y13.out⟩
          case rest =>
            rename World => wx
            obtain ⟨rfl, A6, c6, a6, ac6, ht, hu, he, hr, hbb, hv, hnn⟩ := hcut
            have T_wx := Lib.hid ht
            have U_wx := Lib.hid hu
            have E_wx := Lib.hid he
            have R_wx := Lib.hid hr
            have B_wx := Lib.hid hbb
            have V_wx := Lib.hid hv
            have HNN := Lib.hid hnn
            clear ht hu he hr hbb hv hnn T_y7 U_y7 E_y7 R_y7 B_y7 Z_y7 V_y7
            obtain ⟨N1, hN1⟩ : ∃ k, k = wx.heap.size := ⟨_, rfl⟩
            have HN01 : Hid (N0 ≤ N1) := Lib.hid (by rw [hN1]; exact HNN.out)
            have HBN2 : Hid (B0 ≤ N1) := Lib.hid (Nat.le_trans HBN.out HN01.out)
            rw [← hN1] at U_wx
            have Z_wx : Hid (N1 ≤ wx.heap.size) := Lib.hid (by rw [hN1]; exact Nat.le_refl _)
            clear hN1
            go_upto_region 10 with fail
            have C_wx : Hid (Below wx.heap.size wx wx) := Lib.hid (Below.refl _ _)
            have HZW7 : Hid (N1 ≤ wx.heap.size) := Lib.hid Z_wx.out
            clear Z_wx
            obtain ⟨y10, hy10⟩ : ∃ y10, y10 = World.drew wx := ⟨_, rfl⟩
            have hbD : Below wx.heap.size wx y10 := by rw [hy10]; exact (Below.refl _ _).drew
            have T_y10 : Hid (BK 26 y10 g5 (quC s n (.slice A6 (ys ++ [(⟨x, a6, ac6⟩ : EE)]).length c6))) := Lib.hid (T_wx.out.step hbD)
            have U_y10 : Hid (OwL B0 N1 y10 (.slice A6 (ys ++ [(⟨x, a6, ac6⟩ : EE)]).length c6) (ys ++ [(⟨x, a6, ac6⟩ : EE)])) := Lib.hid (OwL.step U_wx.out hbD)
            have E_y10 : Hid (BK 34 y10 gEn (enX x xa xc)) := Lib.hid (E_wx.out.step hbD)
            have R_y10 : Hid (BK 26 y10 g2 (quC Sp.zero 0 (.slice none 0 0))) := Lib.hid (R_wx.out.step hbD)
            have B_y10 : Hid (Below w.heap.size w y10) := Lib.hid (stepB B_wx.out hbD)
            have V_y10 : Hid (BK 34 y10 gx (gE y)) := Lib.hid (V_wx.out.step hbD)
            have C_y10 : Hid (Below wx.heap.size wx y10) := Lib.hid (stepB C_wx.out hbD)
            clear T_wx U_wx E_wx R_wx B_wx V_wx C_wx
            have hbd : (fun w' => Below w.heap.size w w') (World.drew wx) := by rw [← hy10]; exact B_y10.out
            have hSD : (fun w' => Below w.heap.size w w') y10 := B_y10.out
            have HWD := Lib.hid hy10
            clear hy10 hbD
            refine wp_region_held_drew (S := fun w' => Below w.heap.size w w') (by kernel_rfl) hbd (fun hHeld => ?_)
            rw [← HWD.out]
            clear hHeld
            have hHeld := hSD
            clear hSD hbd HWD
            refine wpAnyH_take (i := 0) (v := (.pointer (some ⟨g5, 6, none⟩))) (get_ops _ _ _ rfl) (by kernel_rfl) (by kernel_rfl) (by kernel_rfl) (fun _ _ _ h => h) (Or.inl ⟨by rfl, fun wS hSw => by (try dsimp only at hSw); go_simp⟩) hHeld ?_
            try simp only [Act.put, List.setIfInBounds_toArray, List.set_cons_zero, List.set_cons_succ]
            refine wpAnyH_ready (rs := [1, 2]) (by kernel_rfl) (by simp) ?_
            refine (AllReadyH.cons (get_ops _ _ _ rfl) (fun K hK => ?_) (AllReadyH.cons (get_ops _ _ _ rfl) (fun K hK => ?_) AllReadyH.nil))
            · refine wp_load2 24 _ rfl ⟨g5, 6, none⟩ (by first | rfl | go_simp) (.slice A6 (ys ++ [(⟨x, a6, ac6⟩ : EE)]).length c6) (by have cS := T_y10.out.cell 6 rfl; go_simp) ?_
              clear hHeld
              refine hK.out _ _ B_y10.out (fun hHeld => ?_)
              clear hK K
              try simp only [Act.put, List.setIfInBounds_toArray, List.set_cons_zero, List.set_cons_succ]
              refine wpAnyH_ready (rs := [2]) (by kernel_rfl) (by simp) ?_
              refine (AllReadyH.cons (get_ops _ _ _ rfl) (fun K hK => ?_) AllReadyH.nil)
              refine wp_load2 34 _ rfl ⟨gx, 0, none⟩ (by first | rfl | go_simp) (.agg (gE y).toArray) (load_en0 V_y10.out) ?_
              clear hHeld
              refine hK.out _ _ B_y10.out (fun hHeld => ?_)
              clear hK K
              try simp only [Act.put, List.setIfInBounds_toArray, List.set_cons_zero, List.set_cons_succ]
              refine wpAnyH_ready (rs := [3]) (by kernel_rfl) (by simp) ?_
              refine (AllReadyH.cons (get_ops _ _ _ rfl) (fun K hK => ?_) AllReadyH.nil)
              have HZ7 : Hid (N1 ≤ y10.heap.size) := Lib.hid (Nat.le_trans HZW7.out C_y10.out.size)
              go_simp
              refine (HCE.out y.x y.a y.c y10 (HYPL.out _ B_y10.out) HYP.out).mono ?_
              rintro e y11 ⟨a7, ac7, rfl, hpl, hnl, hb⟩
              have T_y11 : Hid (BK 26 y11 g5 (quC s n (.slice A6 (ys ++ [(⟨x, a6, ac6⟩ : EE)]).length c6))) := Lib.hid (T_y10.out.step hb)
              have U_y11 : Hid (OwL B0 N1 y11 (.slice A6 (ys ++ [(⟨x, a6, ac6⟩ : EE)]).length c6) (ys ++ [(⟨x, a6, ac6⟩ : EE)])) := Lib.hid (OwL.step U_y10.out hb)
              have E_y11 : Hid (BK 34 y11 gEn (enX x xa xc)) := Lib.hid (E_y10.out.step hb)
              have R_y11 : Hid (BK 26 y11 g2 (quC Sp.zero 0 (.slice none 0 0))) := Lib.hid (R_y10.out.step hb)
              have B_y11 : Hid (Below w.heap.size w y11) := Lib.hid (stepB B_y10.out hb)
              have V_y11 : Hid (BK 34 y11 gx (gE y)) := Lib.hid (V_y10.out.step hb)
              have C_y11 : Hid (Below wx.heap.size wx y11) := Lib.hid (stepB C_y10.out hb)
              clear T_y10 U_y10 E_y10 R_y10 B_y10 V_y10 C_y10
              have P_y11 : Hid (PN y11 y10.heap.size a7 y.x.m.props) := Lib.hid ⟨hpl, hnl⟩
              have Y_y11 : Hid (y10.heap.size ≤ y11.heap.size) := Lib.hid hb.size
              clear hpl hnl
              clear hHeld hb
              go_wp2_with fail
              refine hK.out _ _ B_y11.out (fun hHeld => ?_)
              clear hK K
              try simp only [Act.put, List.setIfInBounds_toArray, List.set_cons_zero, List.set_cons_succ]
              refine wpAnyH_ready (rs := [4]) (by kernel_rfl) (by simp) ?_
              refine (AllReadyH.cons (get_ops _ _ _ rfl) (fun K hK => ?_) AllReadyH.nil)
              go_simp
              obtain ⟨vb7, hvb⟩ : ∃ n, n = y11.heap.size := ⟨_, rfl⟩
              refine name_world (C := fun w9 => K _ w9) (y11.alloc (.cells (gE (⟨y.x, a7, ac7⟩ : EE)).toArray 34)) ?_
              intro y12 hy12
              have hb : Below y11.heap.size y11 y12 := by rw [hy12]; exact S2.below_new _ _
              have hN : BK 34 y12 vb7 (gE (⟨y.x, a7, ac7⟩ : EE)) := by rw [hy12, hvb]; exact BK.new _ _ _
              have T_y12 : Hid (BK 26 y12 g5 (quC s n (.slice A6 (ys ++ [(⟨x, a6, ac6⟩ : EE)]).length c6))) := Lib.hid (T_y11.out.step hb)
              have U_y12 : Hid (OwL B0 N1 y12 (.slice A6 (ys ++ [(⟨x, a6, ac6⟩ : EE)]).length c6) (ys ++ [(⟨x, a6, ac6⟩ : EE)])) := Lib.hid (OwL.step U_y11.out hb)
              have E_y12 : Hid (BK 34 y12 gEn (enX x xa xc)) := Lib.hid (E_y11.out.step hb)
              have R_y12 : Hid (BK 26 y12 g2 (quC Sp.zero 0 (.slice none 0 0))) := Lib.hid (R_y11.out.step hb)
              have B_y12 : Hid (Below w.heap.size w y12) := Lib.hid (stepB B_y11.out hb)
              have V_y12 : Hid (BK 34 y12 gx (gE y)) := Lib.hid (V_y11.out.step hb)
              have C_y12 : Hid (Below wx.heap.size wx y12) := Lib.hid (stepB C_y11.out hb)
              have P_y12 : Hid (PN y12 y10.heap.size a7 y.x.m.props) := Lib.hid (PN.step P_y11.out hb)
              have Y_y12 : Hid (y10.heap.size ≤ y12.heap.size) := Lib.hid (Nat.le_trans Y_y11.out hb.size)
              clear T_y11 U_y11 E_y11 R_y11 B_y11 V_y11 C_y11 P_y11 Y_y11
              have X_y12 := Lib.hid hN
              try rw [← hvb]
              clear hHeld hb hN hy12 hvb
              refine hK.out _ _ B_y12.out (fun hHeld => ?_)
              clear hK K
              try simp only [Act.put, List.setIfInBounds_toArray, List.set_cons_zero, List.set_cons_succ]
              refine wpAnyH_ready (rs := [5]) (by kernel_rfl) (by simp) ?_
              refine (AllReadyH.cons (get_ops _ _ _ rfl) (fun K hK => ?_) AllReadyH.nil)
              have HW7 : Hid (y10.heap.size ≤ y12.heap.size) := Lib.hid Y_y12.out
              refine oper_owl (B := B0) (N := N1) (Bp := y10.heap.size) _ _ rfl (.slice A6 (ys ++ [(⟨x, a6, ac6⟩ : EE)]).length c6) (ys ++ [(⟨x, a6, ac6⟩ : EE)]) (⟨y.x, a7, ac7⟩ : EE) (by go_simp) U_y12.out (by go_simp) X_y12.out P_y12.out.1 P_y12.out.2 HBN2.out HZ7.out HW7.out (by simp; have := HLN.out; omega) ?_
              intro v7 y13 hO hK9 hsz9
              obtain ⟨A7, c7, rfl, hc7, hen7⟩ := LN.of gE_len hO.1
              have T_y13 : Hid (BK 26 y13 g5 (quC s n (.slice A6 (ys ++ [(⟨x, a6, ac6⟩ : EE)]).length c6))) := Lib.hid (hK9.bk T_y12.out (Or.inl HG5.out))
              have E_y13 : Hid (BK 34 y13 gEn (enX x xa xc)) := Lib.hid (hK9.bk E_y12.out (Or.inl HGEB.out.1))
              have R_y13 : Hid (BK 26 y13 g2 (quC Sp.zero 0 (.slice none 0 0))) := Lib.hid (hK9.bk R_y12.out (Or.inl HG1B.out.2))
              have B_y13 : Hid (Below w.heap.size w y13) := Lib.hid (hK9.below B_y12.out HWB.out)
              have U_y13 : Hid (OwL B0 y13.heap.size y13 (.slice A7 ((ys ++ [(⟨x, a6, ac6⟩ : EE)]) ++ [(⟨y.x, a7, ac7⟩ : EE)]).length c7) ((ys ++ [(⟨x, a6, ac6⟩ : EE)]) ++ [(⟨y.x, a7, ac7⟩ : EE)])) := Lib.hid hO
              have Z_y13 : Hid (N1 ≤ y13.heap.size) := Lib.hid (Nat.le_trans (Nat.le_trans HZ7.out HW7.out) hsz9)
              have HC7 := Lib.hid hc7
              have HSZ9_7 := Lib.hid hsz9
              have S_y13 : Hid (y13.heap.size ≤ y13.heap.size) := Lib.hid (Nat.le_refl _)
              clear hO hK9 hsz9 hc7 hen7 hHeld T_y12 U_y12 E_y12 R_y12 B_y12 V_y12 C_y12 P_y12 Y_y12 X_y12
              refine hK.out _ _ B_y13.out (fun hHeld => ?_)
              clear hK K
              try simp only [Act.put, List.setIfInBounds_toArray, List.set_cons_zero, List.set_cons_succ]
              refine wpAnyH_take (i := 6) (v := (.pointer (some ⟨g5, 6, none⟩))) (get_ops _ _ _ rfl) (by kernel_rfl) (by kernel_rfl) (by kernel_rfl) (fun _ _ _ h => h) (Or.inl ⟨by rfl, fun wS hSw => by (try dsimp only at hSw); go_simp⟩) hHeld ?_
              try simp only [Act.put, List.setIfInBounds_toArray, List.set_cons_zero, List.set_cons_succ]
              refine wpAnyH_ready (rs := [7]) (by kernel_rfl) (by simp) ?_
              refine (AllReadyH.cons (get_ops _ _ _ rfl) (fun K hK => ?_) AllReadyH.nil)
              refine wp_store 24 _ _ rfl rfl ⟨g5, 6, none⟩ (by go_simp) (.slice A7 ((ys ++ [(⟨x, a6, ac6⟩ : EE)]) ++ [(⟨y.x, a7, ac7⟩ : EE)]).length c7) (by first | rfl | go_simp) _ (run_store_part y13 g5 6 1 26 24 (quC s n (.slice A6 (ys ++ [(⟨x, a6, ac6⟩ : EE)]).length c6)) [(.slice A7 ((ys ++ [(⟨x, a6, ac6⟩ : EE)]) ++ [(⟨y.x, a7, ac7⟩ : EE)]).length c7)] _ rfl rfl (by kernel_rfl) T_y13.out (by show 6 + 1 ≤ 7; decide) (ones rfl)) ?_
              have hM : BK 26 (y13.setRow g5 (putC (quC s n (.slice A6 (ys ++ [(⟨x, a6, ac6⟩ : EE)]).length c6)) 6 [(.slice A7 ((ys ++ [(⟨x, a6, ac6⟩ : EE)]) ++ [(⟨y.x, a7, ac7⟩ : EE)]).length c7)]).toArray) g5 (quC s n (.slice A7 ((ys ++ [(⟨x, a6, ac6⟩ : EE)]) ++ [(⟨y.x, a7, ac7⟩ : EE)]).length c7)) := MT.put T_y13.out 6 [(.slice A7 ((ys ++ [(⟨x, a6, ac6⟩ : EE)]) ++ [(⟨y.x, a7, ac7⟩ : EE)]).length c7)]
              have hP := S2.put_row y13 g5 (putC (quC s n (.slice A6 (ys ++ [(⟨x, a6, ac6⟩ : EE)]).length c6)) 6 [(.slice A7 ((ys ++ [(⟨x, a6, ac6⟩ : EE)]) ++ [(⟨y.x, a7, ac7⟩ : EE)]).length c7)]).toArray
              refine name_world (C := fun w9 => K _ w9) _ ?_
              intro y14 hy14
              rw [← hy14] at hM hP
              clear hy14
              have T_y14 : Hid (BK 26 y14 g5 (quC s n (.slice A7 ((ys ++ [(⟨x, a6, ac6⟩ : EE)]) ++ [(⟨y.x, a7, ac7⟩ : EE)]).length c7))) := Lib.hid (hM)
              have U_y14 : Hid (OwL B0 y13.heap.size y14 (.slice A7 ((ys ++ [(⟨x, a6, ac6⟩ : EE)]) ++ [(⟨y.x, a7, ac7⟩ : EE)]).length c7) ((ys ++ [(⟨x, a6, ac6⟩ : EE)]) ++ [(⟨y.x, a7, ac7⟩ : EE)])) := Lib.hid (OwL.put U_y13.out hP HG5.out)
              have E_y14 : Hid (BK 34 y14 gEn (enX x xa xc)) := Lib.hid (hP.other E_y13.out (by have h1 := HGEB.out.2; omega))
              have R_y14 : Hid (BK 26 y14 g2 (quC Sp.zero 0 (.slice none 0 0))) := Lib.hid (hP.other R_y13.out (by have h1 := HRS.out; omega))
              have B_y14 : Hid (Below w.heap.size w y14) := Lib.hid (hP.below B_y13.out HW5.out)
              have Z_y14 : Hid (N1 ≤ y14.heap.size) := Lib.hid (by have h9 := hP.size; have h8 := Z_y13.out; omega)
              have S_y14 : Hid (y13.heap.size ≤ y14.heap.size) := Lib.hid (by have h9 := hP.size; have h8 := S_y13.out; omega)
              clear T_y13 U_y13 E_y13 R_y13 B_y13 Z_y13 S_y13
              clear hM hP hHeld
              refine hK.out _ _ B_y14.out (fun hHeld => ?_)
              clear hK K
              try simp only [Act.put, List.setIfInBounds_toArray, List.set_cons_zero, List.set_cons_succ]
              refine wpAnyH_done (by kernel_rfl) ?_ _
              have w1a : j ≤ 1000000 := by have h1 := HJ.out; have h2 := HL.out; omega
              go_wp2
              go_roundg g
              case measure => omega
              case rel => exact ⟨j + 1, true, A7, c7, ((ys ++ [(⟨x, a6, ac6⟩ : EE)]) ++ [(⟨y.x, a7, ac7⟩ : EE)]), by have := HJ.out; omega, by go_num, rfl, T_y14.out, U_y14.out.more S_y14.out, (by rw [insF_succ x HY1.out, HYS.out, List.map_append, List.map_append]; unfold stepI; rw [if_pos ⟨rfl, HPB.out⟩]; rfl), E_y14.out, R_y14.out, B_y14.out, Nat.le_trans HBN.out (Nat.le_trans HN01.out Z_y14.out)⟩
            · refine wp_load2 34 _ rfl ⟨gx, 0, none⟩ (by first | rfl | go_simp) (.agg (gE y).toArray) (load_en0 V_y10.out) ?_
              clear hHeld
              refine hK.out _ _ B_y10.out (fun hHeld => ?_)
              clear hK K
              try simp only [Act.put, List.setIfInBounds_toArray, List.set_cons_zero, List.set_cons_succ]
              refine wpAnyH_ready (rs := [1, 3]) (by kernel_rfl) (by simp) ?_
              refine (AllReadyH.cons (get_ops _ _ _ rfl) (fun K hK => ?_) (AllReadyH.cons (get_ops _ _ _ rfl) (fun K hK => ?_) AllReadyH.nil))
              · refine wp_load2 24 _ rfl ⟨g5, 6, none⟩ (by first | rfl | go_simp) (.slice A6 (ys ++ [(⟨x, a6, ac6⟩ : EE)]).length c6) (by have cS := T_y10.out.cell 6 rfl; go_simp) ?_
                clear hHeld
                refine hK.out _ _ B_y10.out (fun hHeld => ?_)
                clear hK K
                try simp only [Act.put, List.setIfInBounds_toArray, List.set_cons_zero, List.set_cons_succ]
                refine wpAnyH_ready (rs := [3]) (by kernel_rfl) (by simp) ?_
                refine (AllReadyH.cons (get_ops _ _ _ rfl) (fun K hK => ?_) AllReadyH.nil)
                have HZ7 : Hid (N1 ≤ y10.heap.size) := Lib.hid (Nat.le_trans HZW7.out C_y10.out.size)
                go_simp
                refine (HCE.out y.x y.a y.c y10 (HYPL.out _ B_y10.out) HYP.out).mono ?_
                rintro e y11 ⟨a7, ac7, rfl, hpl, hnl, hb⟩
                have T_y11 : Hid (BK 26 y11 g5 (quC s n (.slice A6 (ys ++ [(⟨x, a6, ac6⟩ : EE)]).length c6))) := Lib.hid (T_y10.out.step hb)
                have U_y11 : Hid (OwL B0 N1 y11 (.slice A6 (ys ++ [(⟨x, a6, ac6⟩ : EE)]).length c6) (ys ++ [(⟨x, a6, ac6⟩ : EE)])) := Lib.hid (OwL.step U_y10.out hb)
                have E_y11 : Hid (BK 34 y11 gEn (enX x xa xc)) := Lib.hid (E_y10.out.step hb)
                have R_y11 : Hid (BK 26 y11 g2 (quC Sp.zero 0 (.slice none 0 0))) := Lib.hid (R_y10.out.step hb)
                have B_y11 : Hid (Below w.heap.size w y11) := Lib.hid (stepB B_y10.out hb)
                have V_y11 : Hid (BK 34 y11 gx (gE y)) := Lib.hid (V_y10.out.step hb)
                have C_y11 : Hid (Below wx.heap.size wx y11) := Lib.hid (stepB C_y10.out hb)
                clear T_y10 U_y10 E_y10 R_y10 B_y10 V_y10 C_y10
                have P_y11 : Hid (PN y11 y10.heap.size a7 y.x.m.props) := Lib.hid ⟨hpl, hnl⟩
                have Y_y11 : Hid (y10.heap.size ≤ y11.heap.size) := Lib.hid hb.size
                clear hpl hnl
                clear hHeld hb
                go_wp2_with fail
                refine hK.out _ _ B_y11.out (fun hHeld => ?_)
                clear hK K
                try simp only [Act.put, List.setIfInBounds_toArray, List.set_cons_zero, List.set_cons_succ]
                refine wpAnyH_ready (rs := [4]) (by kernel_rfl) (by simp) ?_
                refine (AllReadyH.cons (get_ops _ _ _ rfl) (fun K hK => ?_) AllReadyH.nil)
                go_simp
                obtain ⟨vb7, hvb⟩ : ∃ n, n = y11.heap.size := ⟨_, rfl⟩
                refine name_world (C := fun w9 => K _ w9) (y11.alloc (.cells (gE (⟨y.x, a7, ac7⟩ : EE)).toArray 34)) ?_
                intro y12 hy12
                have hb : Below y11.heap.size y11 y12 := by rw [hy12]; exact S2.below_new _ _
                have hN : BK 34 y12 vb7 (gE (⟨y.x, a7, ac7⟩ : EE)) := by rw [hy12, hvb]; exact BK.new _ _ _
                have T_y12 : Hid (BK 26 y12 g5 (quC s n (.slice A6 (ys ++ [(⟨x, a6, ac6⟩ : EE)]).length c6))) := Lib.hid (T_y11.out.step hb)
                have U_y12 : Hid (OwL B0 N1 y12 (.slice A6 (ys ++ [(⟨x, a6, ac6⟩ : EE)]).length c6) (ys ++ [(⟨x, a6, ac6⟩ : EE)])) := Lib.hid (OwL.step U_y11.out hb)
                have E_y12 : Hid (BK 34 y12 gEn (enX x xa xc)) := Lib.hid (E_y11.out.step hb)
                have R_y12 : Hid (BK 26 y12 g2 (quC Sp.zero 0 (.slice none 0 0))) := Lib.hid (R_y11.out.step hb)
                have B_y12 : Hid (Below w.heap.size w y12) := Lib.hid (stepB B_y11.out hb)
                have V_y12 : Hid (BK 34 y12 gx (gE y)) := Lib.hid (V_y11.out.step hb)
                have C_y12 : Hid (Below wx.heap.size wx y12) := Lib.hid (stepB C_y11.out hb)
                have P_y12 : Hid (PN y12 y10.heap.size a7 y.x.m.props) := Lib.hid (PN.step P_y11.out hb)
                have Y_y12 : Hid (y10.heap.size ≤ y12.heap.size) := Lib.hid (Nat.le_trans Y_y11.out hb.size)
                clear T_y11 U_y11 E_y11 R_y11 B_y11 V_y11 C_y11 P_y11 Y_y11
                have X_y12 := Lib.hid hN
                try rw [← hvb]
                clear hHeld hb hN hy12 hvb
                refine hK.out _ _ B_y12.out (fun hHeld => ?_)
                clear hK K
                try simp only [Act.put, List.setIfInBounds_toArray, List.set_cons_zero, List.set_cons_succ]
                refine wpAnyH_ready (rs := [5]) (by kernel_rfl) (by simp) ?_
                refine (AllReadyH.cons (get_ops _ _ _ rfl) (fun K hK => ?_) AllReadyH.nil)
                have HW7 : Hid (y10.heap.size ≤ y12.heap.size) := Lib.hid Y_y12.out
                refine oper_owl (B := B0) (N := N1) (Bp := y10.heap.size) _ _ rfl (.slice A6 (ys ++ [(⟨x, a6, ac6⟩ : EE)]).length c6) (ys ++ [(⟨x, a6, ac6⟩ : EE)]) (⟨y.x, a7, ac7⟩ : EE) (by go_simp) U_y12.out (by go_simp) X_y12.out P_y12.out.1 P_y12.out.2 HBN2.out HZ7.out HW7.out (by simp; have := HLN.out; omega) ?_
                intro v7 y13 hO hK9 hsz9
                obtain ⟨A7, c7, rfl, hc7, hen7⟩ := LN.of gE_len hO.1
                have T_y13 : Hid (BK 26 y13 g5 (quC s n (.slice A6 (ys ++ [(⟨x, a6, ac6⟩ : EE)]).length c6))) := Lib.hid (hK9.bk T_y12.out (Or.inl HG5.out))
                have E_y13 : Hid (BK 34 y13 gEn (enX x xa xc)) := Lib.hid (hK9.bk E_y12.out (Or.inl HGEB.out.1))
                have R_y13 : Hid (BK 26 y13 g2 (quC Sp.zero 0 (.slice none 0 0))) := Lib.hid (hK9.bk R_y12.out (Or.inl HG1B.out.2))
                have B_y13 : Hid (Below w.heap.size w y13) := Lib.hid (hK9.below B_y12.out HWB.out)
                have U_y13 : Hid (OwL B0 y13.heap.size y13 (.slice A7 ((ys ++ [(⟨x, a6, ac6⟩ : EE)]) ++ [(⟨y.x, a7, ac7⟩ : EE)]).length c7) ((ys ++ [(⟨x, a6, ac6⟩ : EE)]) ++ [(⟨y.x, a7, ac7⟩ : EE)])) := Lib.hid hO
                have Z_y13 : Hid (N1 ≤ y13.heap.size) := Lib.hid (Nat.le_trans (Nat.le_trans HZ7.out HW7.out) hsz9)
                have HC7 := Lib.hid hc7
                have HSZ9_7 := Lib.hid hsz9
                have S_y13 : Hid (y13.heap.size ≤ y13.heap.size) := Lib.hid (Nat.le_refl _)
                clear hO hK9 hsz9 hc7 hen7 hHeld T_y12 U_y12 E_y12 R_y12 B_y12 V_y12 C_y12 P_y12 Y_y12 X_y12
                refine hK.out _ _ B_y13.out (fun hHeld => ?_)
                clear hK K
                try simp only [Act.put, List.setIfInBounds_toArray, List.set_cons_zero, List.set_cons_succ]
                refine wpAnyH_take (i := 6) (v := (.pointer (some ⟨g5, 6, none⟩))) (get_ops _ _ _ rfl) (by kernel_rfl) (by kernel_rfl) (by kernel_rfl) (fun _ _ _ h => h) (Or.inl ⟨by rfl, fun wS hSw => by (try dsimp only at hSw); go_simp⟩) hHeld ?_
                try simp only [Act.put, List.setIfInBounds_toArray, List.set_cons_zero, List.set_cons_succ]
                refine wpAnyH_ready (rs := [7]) (by kernel_rfl) (by simp) ?_
                refine (AllReadyH.cons (get_ops _ _ _ rfl) (fun K hK => ?_) AllReadyH.nil)
                refine wp_store 24 _ _ rfl rfl ⟨g5, 6, none⟩ (by go_simp) (.slice A7 ((ys ++ [(⟨x, a6, ac6⟩ : EE)]) ++ [(⟨y.x, a7, ac7⟩ : EE)]).length c7) (by first | rfl | go_simp) _ (run_store_part y13 g5 6 1 26 24 (quC s n (.slice A6 (ys ++ [(⟨x, a6, ac6⟩ : EE)]).length c6)) [(.slice A7 ((ys ++ [(⟨x, a6, ac6⟩ : EE)]) ++ [(⟨y.x, a7, ac7⟩ : EE)]).length c7)] _ rfl rfl (by kernel_rfl) T_y13.out (by show 6 + 1 ≤ 7; decide) (ones rfl)) ?_
                have hM : BK 26 (y13.setRow g5 (putC (quC s n (.slice A6 (ys ++ [(⟨x, a6, ac6⟩ : EE)]).length c6)) 6 [(.slice A7 ((ys ++ [(⟨x, a6, ac6⟩ : EE)]) ++ [(⟨y.x, a7, ac7⟩ : EE)]).length c7)]).toArray) g5 (quC s n (.slice A7 ((ys ++ [(⟨x, a6, ac6⟩ : EE)]) ++ [(⟨y.x, a7, ac7⟩ : EE)]).length c7)) := MT.put T_y13.out 6 [(.slice A7 ((ys ++ [(⟨x, a6, ac6⟩ : EE)]) ++ [(⟨y.x, a7, ac7⟩ : EE)]).length c7)]
                have hP := S2.put_row y13 g5 (putC (quC s n (.slice A6 (ys ++ [(⟨x, a6, ac6⟩ : EE)]).length c6)) 6 [(.slice A7 ((ys ++ [(⟨x, a6, ac6⟩ : EE)]) ++ [(⟨y.x, a7, ac7⟩ : EE)]).length c7)]).toArray
                refine name_world (C := fun w9 => K _ w9) _ ?_
                intro y14 hy14
                rw [← hy14] at hM hP
                clear hy14
                have T_y14 : Hid (BK 26 y14 g5 (quC s n (.slice A7 ((ys ++ [(⟨x, a6, ac6⟩ : EE)]) ++ [(⟨y.x, a7, ac7⟩ : EE)]).length c7))) := Lib.hid (hM)
                have U_y14 : Hid (OwL B0 y13.heap.size y14 (.slice A7 ((ys ++ [(⟨x, a6, ac6⟩ : EE)]) ++ [(⟨y.x, a7, ac7⟩ : EE)]).length c7) ((ys ++ [(⟨x, a6, ac6⟩ : EE)]) ++ [(⟨y.x, a7, ac7⟩ : EE)])) := Lib.hid (OwL.put U_y13.out hP HG5.out)
                have E_y14 : Hid (BK 34 y14 gEn (enX x xa xc)) := Lib.hid (hP.other E_y13.out (by have h1 := HGEB.out.2; omega))
                have R_y14 : Hid (BK 26 y14 g2 (quC Sp.zero 0 (.slice none 0 0))) := Lib.hid (hP.other R_y13.out (by have h1 := HRS.out; omega))
                have B_y14 : Hid (Below w.heap.size w y14) := Lib.hid (hP.below B_y13.out HW5.out)
                have Z_y14 : Hid (N1 ≤ y14.heap.size) := Lib.hid (by have h9 := hP.size; have h8 := Z_y13.out; omega)
                have S_y14 : Hid (y13.heap.size ≤ y14.heap.size) := Lib.hid (by have h9 := hP.size; have h8 := S_y13.out; omega)
                clear T_y13 U_y13 E_y13 R_y13 B_y13 Z_y13 S_y13
                clear hM hP hHeld
                refine hK.out _ _ B_y14.out (fun hHeld => ?_)
                clear hK K
                try simp only [Act.put, List.setIfInBounds_toArray, List.set_cons_zero, List.set_cons_succ]
                refine wpAnyH_done (by kernel_rfl) ?_ _
                have w1a : j ≤ 1000000 := by have h1 := HJ.out; have h2 := HL.out; omega
                go_wp2
                go_roundg g
                case measure => omega
                case rel => exact ⟨j + 1, true, A7, c7, ((ys ++ [(⟨x, a6, ac6⟩ : EE)]) ++ [(⟨y.x, a7, ac7⟩ : EE)]), by have := HJ.out; omega, by go_num, rfl, T_y14.out, U_y14.out.more S_y14.out, (by rw [insF_succ x HY1.out, HYS.out, List.map_append, List.map_append]; unfold stepI; rw [if_pos ⟨rfl, HPB.out⟩]; rfl), E_y14.out, R_y14.out, B_y14.out, Nat.le_trans HBN.out (Nat.le_trans HN01.out Z_y14.out)⟩
              · have HZ7 : Hid (N1 ≤ y10.heap.size) := Lib.hid (Nat.le_trans HZW7.out C_y10.out.size)
                go_simp
                refine (HCE.out y.x y.a y.c y10 (HYPL.out _ B_y10.out) HYP.out).mono ?_
                rintro e y11 ⟨a7, ac7, rfl, hpl, hnl, hb⟩
                have T_y11 : Hid (BK 26 y11 g5 (quC s n (.slice A6 (ys ++ [(⟨x, a6, ac6⟩ : EE)]).length c6))) := Lib.hid (T_y10.out.step hb)
                have U_y11 : Hid (OwL B0 N1 y11 (.slice A6 (ys ++ [(⟨x, a6, ac6⟩ : EE)]).length c6) (ys ++ [(⟨x, a6, ac6⟩ : EE)])) := Lib.hid (OwL.step U_y10.out hb)
                have E_y11 : Hid (BK 34 y11 gEn (enX x xa xc)) := Lib.hid (E_y10.out.step hb)
                have R_y11 : Hid (BK 26 y11 g2 (quC Sp.zero 0 (.slice none 0 0))) := Lib.hid (R_y10.out.step hb)
                have B_y11 : Hid (Below w.heap.size w y11) := Lib.hid (stepB B_y10.out hb)
                have V_y11 : Hid (BK 34 y11 gx (gE y)) := Lib.hid (V_y10.out.step hb)
                have C_y11 : Hid (Below wx.heap.size wx y11) := Lib.hid (stepB C_y10.out hb)
                clear T_y10 U_y10 E_y10 R_y10 B_y10 V_y10 C_y10
                have P_y11 : Hid (PN y11 y10.heap.size a7 y.x.m.props) := Lib.hid ⟨hpl, hnl⟩
                have Y_y11 : Hid (y10.heap.size ≤ y11.heap.size) := Lib.hid hb.size
                clear hpl hnl
                clear hHeld hb
                go_wp2_with fail
                refine hK.out _ _ B_y11.out (fun hHeld => ?_)
                clear hK K
                try simp only [Act.put, List.setIfInBounds_toArray, List.set_cons_zero, List.set_cons_succ]
                refine wpAnyH_ready (rs := [1, 4]) (by kernel_rfl) (by simp) ?_
                refine (AllReadyH.cons (get_ops _ _ _ rfl) (fun K hK => ?_) (AllReadyH.cons (get_ops _ _ _ rfl) (fun K hK => ?_) AllReadyH.nil))
                · refine wp_load2 24 _ rfl ⟨g5, 6, none⟩ (by first | rfl | go_simp) (.slice A6 (ys ++ [(⟨x, a6, ac6⟩ : EE)]).length c6) (by have cS := T_y11.out.cell 6 rfl; go_simp) ?_
                  clear hHeld
                  refine hK.out _ _ B_y11.out (fun hHeld => ?_)
                  clear hK K
                  try simp only [Act.put, List.setIfInBounds_toArray, List.set_cons_zero, List.set_cons_succ]
                  refine wpAnyH_ready (rs := [4]) (by kernel_rfl) (by simp) ?_
                  refine (AllReadyH.cons (get_ops _ _ _ rfl) (fun K hK => ?_) AllReadyH.nil)
                  go_simp
                  obtain ⟨vb7, hvb⟩ : ∃ n, n = y11.heap.size := ⟨_, rfl⟩
                  refine name_world (C := fun w9 => K _ w9) (y11.alloc (.cells (gE (⟨y.x, a7, ac7⟩ : EE)).toArray 34)) ?_
                  intro y12 hy12
                  have hb : Below y11.heap.size y11 y12 := by rw [hy12]; exact S2.below_new _ _
                  have hN : BK 34 y12 vb7 (gE (⟨y.x, a7, ac7⟩ : EE)) := by rw [hy12, hvb]; exact BK.new _ _ _
                  have T_y12 : Hid (BK 26 y12 g5 (quC s n (.slice A6 (ys ++ [(⟨x, a6, ac6⟩ : EE)]).length c6))) := Lib.hid (T_y11.out.step hb)
                  have U_y12 : Hid (OwL B0 N1 y12 (.slice A6 (ys ++ [(⟨x, a6, ac6⟩ : EE)]).length c6) (ys ++ [(⟨x, a6, ac6⟩ : EE)])) := Lib.hid (OwL.step U_y11.out hb)
                  have E_y12 : Hid (BK 34 y12 gEn (enX x xa xc)) := Lib.hid (E_y11.out.step hb)
                  have R_y12 : Hid (BK 26 y12 g2 (quC Sp.zero 0 (.slice none 0 0))) := Lib.hid (R_y11.out.step hb)
                  have B_y12 : Hid (Below w.heap.size w y12) := Lib.hid (stepB B_y11.out hb)
                  have V_y12 : Hid (BK 34 y12 gx (gE y)) := Lib.hid (V_y11.out.step hb)
                  have C_y12 : Hid (Below wx.heap.size wx y12) := Lib.hid (stepB C_y11.out hb)
                  have P_y12 : Hid (PN y12 y10.heap.size a7 y.x.m.props) := Lib.hid (PN.step P_y11.out hb)
                  have Y_y12 : Hid (y10.heap.size ≤ y12.heap.size) := Lib.hid (Nat.le_trans Y_y11.out hb.size)
                  clear T_y11 U_y11 E_y11 R_y11 B_y11 V_y11 C_y11 P_y11 Y_y11
                  have X_y12 := Lib.hid hN
                  try rw [← hvb]
                  clear hHeld hb hN hy12 hvb
                  refine hK.out _ _ B_y12.out (fun hHeld => ?_)
                  clear hK K
                  try simp only [Act.put, List.setIfInBounds_toArray, List.set_cons_zero, List.set_cons_succ]
                  refine wpAnyH_ready (rs := [5]) (by kernel_rfl) (by simp) ?_
                  refine (AllReadyH.cons (get_ops _ _ _ rfl) (fun K hK => ?_) AllReadyH.nil)
                  have HW7 : Hid (y10.heap.size ≤ y12.heap.size) := Lib.hid Y_y12.out
                  refine oper_owl (B := B0) (N := N1) (Bp := y10.heap.size) _ _ rfl (.slice A6 (ys ++ [(⟨x, a6, ac6⟩ : EE)]).length c6) (ys ++ [(⟨x, a6, ac6⟩ : EE)]) (⟨y.x, a7, ac7⟩ : EE) (by go_simp) U_y12.out (by go_simp) X_y12.out P_y12.out.1 P_y12.out.2 HBN2.out HZ7.out HW7.out (by simp; have := HLN.out; omega) ?_
                  intro v7 y13 hO hK9 hsz9
                  obtain ⟨A7, c7, rfl, hc7, hen7⟩ := LN.of gE_len hO.1
                  have T_y13 : Hid (BK 26 y13 g5 (quC s n (.slice A6 (ys ++ [(⟨x, a6, ac6⟩ : EE)]).length c6))) := Lib.hid (hK9.bk T_y12.out (Or.inl HG5.out))
                  have E_y13 : Hid (BK 34 y13 gEn (enX x xa xc)) := Lib.hid (hK9.bk E_y12.out (Or.inl HGEB.out.1))
                  have R_y13 : Hid (BK 26 y13 g2 (quC Sp.zero 0 (.slice none 0 0))) := Lib.hid (hK9.bk R_y12.out (Or.inl HG1B.out.2))
                  have B_y13 : Hid (Below w.heap.size w y13) := Lib.hid (hK9.below B_y12.out HWB.out)
                  have U_y13 : Hid (OwL B0 y13.heap.size y13 (.slice A7 ((ys ++ [(⟨x, a6, ac6⟩ : EE)]) ++ [(⟨y.x, a7, ac7⟩ : EE)]).length c7) ((ys ++ [(⟨x, a6, ac6⟩ : EE)]) ++ [(⟨y.x, a7, ac7⟩ : EE)])) := Lib.hid hO
                  have Z_y13 : Hid (N1 ≤ y13.heap.size) := Lib.hid (Nat.le_trans (Nat.le_trans HZ7.out HW7.out) hsz9)
                  have HC7 := Lib.hid hc7
                  have HSZ9_7 := Lib.hid hsz9
                  have S_y13 : Hid (y13.heap.size ≤ y13.heap.size) := Lib.hid (Nat.le_refl _)
                  clear hO hK9 hsz9 hc7 hen7 hHeld T_y12 U_y12 E_y12 R_y12 B_y12 V_y12 C_y12 P_y12 Y_y12 X_y12
                  refine hK.out _ _ B_y13.out (fun hHeld => ?_)
                  clear hK K
                  try simp only [Act.put, List.setIfInBounds_toArray, List.set_cons_zero, List.set_cons_succ]
                  refine wpAnyH_take (i := 6) (v := (.pointer (some ⟨g5, 6, none⟩))) (get_ops _ _ _ rfl) (by kernel_rfl) (by kernel_rfl) (by kernel_rfl) (fun _ _ _ h => h) (Or.inl ⟨by rfl, fun wS hSw => by (try dsimp only at hSw); go_simp⟩) hHeld ?_
                  try simp only [Act.put, List.setIfInBounds_toArray, List.set_cons_zero, List.set_cons_succ]
                  refine wpAnyH_ready (rs := [7]) (by kernel_rfl) (by simp) ?_
                  refine (AllReadyH.cons (get_ops _ _ _ rfl) (fun K hK => ?_) AllReadyH.nil)
                  refine wp_store 24 _ _ rfl rfl ⟨g5, 6, none⟩ (by go_simp) (.slice A7 ((ys ++ [(⟨x, a6, ac6⟩ : EE)]) ++ [(⟨y.x, a7, ac7⟩ : EE)]).length c7) (by first | rfl | go_simp) _ (run_store_part y13 g5 6 1 26 24 (quC s n (.slice A6 (ys ++ [(⟨x, a6, ac6⟩ : EE)]).length c6)) [(.slice A7 ((ys ++ [(⟨x, a6, ac6⟩ : EE)]) ++ [(⟨y.x, a7, ac7⟩ : EE)]).length c7)] _ rfl rfl (by kernel_rfl) T_y13.out (by show 6 + 1 ≤ 7; decide) (ones rfl)) ?_
                  have hM : BK 26 (y13.setRow g5 (putC (quC s n (.slice A6 (ys ++ [(⟨x, a6, ac6⟩ : EE)]).length c6)) 6 [(.slice A7 ((ys ++ [(⟨x, a6, ac6⟩ : EE)]) ++ [(⟨y.x, a7, ac7⟩ : EE)]).length c7)]).toArray) g5 (quC s n (.slice A7 ((ys ++ [(⟨x, a6, ac6⟩ : EE)]) ++ [(⟨y.x, a7, ac7⟩ : EE)]).length c7)) := MT.put T_y13.out 6 [(.slice A7 ((ys ++ [(⟨x, a6, ac6⟩ : EE)]) ++ [(⟨y.x, a7, ac7⟩ : EE)]).length c7)]
                  have hP := S2.put_row y13 g5 (putC (quC s n (.slice A6 (ys ++ [(⟨x, a6, ac6⟩ : EE)]).length c6)) 6 [(.slice A7 ((ys ++ [(⟨x, a6, ac6⟩ : EE)]) ++ [(⟨y.x, a7, ac7⟩ : EE)]).length c7)]).toArray
                  refine name_world (C := fun w9 => K _ w9) _ ?_
                  intro y14 hy14
                  rw [← hy14] at hM hP
                  clear hy14
                  have T_y14 : Hid (BK 26 y14 g5 (quC s n (.slice A7 ((ys ++ [(⟨x, a6, ac6⟩ : EE)]) ++ [(⟨y.x, a7, ac7⟩ : EE)]).length c7))) := Lib.hid (hM)
                  have U_y14 : Hid (OwL B0 y13.heap.size y14 (.slice A7 ((ys ++ [(⟨x, a6, ac6⟩ : EE)]) ++ [(⟨y.x, a7, ac7⟩ : EE)]).length c7) ((ys ++ [(⟨x, a6, ac6⟩ : EE)]) ++ [(⟨y.x, a7, ac7⟩ : EE)])) := Lib.hid (OwL.put U_y13.out hP HG5.out)
                  have E_y14 : Hid (BK 34 y14 gEn (enX x xa xc)) := Lib.hid (hP.other E_y13.out (by have h1 := HGEB.out.2; omega))
                  have R_y14 : Hid (BK 26 y14 g2 (quC Sp.zero 0 (.slice none 0 0))) := Lib.hid (hP.other R_y13.out (by have h1 := HRS.out; omega))
                  have B_y14 : Hid (Below w.heap.size w y14) := Lib.hid (hP.below B_y13.out HW5.out)
                  have Z_y14 : Hid (N1 ≤ y14.heap.size) := Lib.hid (by have h9 := hP.size; have h8 := Z_y13.out; omega)
                  have S_y14 : Hid (y13.heap.size ≤ y14.heap.size) := Lib.hid (by have h9 := hP.size; have h8 := S_y13.out; omega)
                  clear T_y13 U_y13 E_y13 R_y13 B_y13 Z_y13 S_y13
                  clear hM hP hHeld
                  refine hK.out _ _ B_y14.out (fun hHeld => ?_)
                  clear hK K
                  try simp only [Act.put, List.setIfInBounds_toArray, List.set_cons_zero, List.set_cons_succ]
                  refine wpAnyH_done (by kernel_rfl) ?_ _
                  have w1a : j ≤ 1000000 := by have h1 := HJ.out; have h2 := HL.out; omega
                  go_wp2
                  go_roundg g
                  case measure => omega
                  case rel => exact ⟨j + 1, true, A7, c7, ((ys ++ [(⟨x, a6, ac6⟩ : EE)]) ++ [(⟨y.x, a7, ac7⟩ : EE)]), by have := HJ.out; omega, by go_num, rfl, T_y14.out, U_y14.out.more S_y14.out, (by rw [insF_succ x HY1.out, HYS.out, List.map_append, List.map_append]; unfold stepI; rw [if_pos ⟨rfl, HPB.out⟩]; rfl), E_y14.out, R_y14.out, B_y14.out, Nat.le_trans HBN.out (Nat.le_trans HN01.out Z_y14.out)⟩
                · go_simp
                  obtain ⟨vb7, hvb⟩ : ∃ n, n = y11.heap.size := ⟨_, rfl⟩
                  refine name_world (C := fun w9 => K _ w9) (y11.alloc (.cells (gE (⟨y.x, a7, ac7⟩ : EE)).toArray 34)) ?_
                  intro y12 hy12
                  have hb : Below y11.heap.size y11 y12 := by rw [hy12]; exact S2.below_new _ _
                  have hN : BK 34 y12 vb7 (gE (⟨y.x, a7, ac7⟩ : EE)) := by rw [hy12, hvb]; exact BK.new _ _ _
                  have T_y12 : Hid (BK 26 y12 g5 (quC s n (.slice A6 (ys ++ [(⟨x, a6, ac6⟩ : EE)]).length c6))) := Lib.hid (T_y11.out.step hb)
                  have U_y12 : Hid (OwL B0 N1 y12 (.slice A6 (ys ++ [(⟨x, a6, ac6⟩ : EE)]).length c6) (ys ++ [(⟨x, a6, ac6⟩ : EE)])) := Lib.hid (OwL.step U_y11.out hb)
                  have E_y12 : Hid (BK 34 y12 gEn (enX x xa xc)) := Lib.hid (E_y11.out.step hb)
                  have R_y12 : Hid (BK 26 y12 g2 (quC Sp.zero 0 (.slice none 0 0))) := Lib.hid (R_y11.out.step hb)
                  have B_y12 : Hid (Below w.heap.size w y12) := Lib.hid (stepB B_y11.out hb)
                  have V_y12 : Hid (BK 34 y12 gx (gE y)) := Lib.hid (V_y11.out.step hb)
                  have C_y12 : Hid (Below wx.heap.size wx y12) := Lib.hid (stepB C_y11.out hb)
                  have P_y12 : Hid (PN y12 y10.heap.size a7 y.x.m.props) := Lib.hid (PN.step P_y11.out hb)
                  have Y_y12 : Hid (y10.heap.size ≤ y12.heap.size) := Lib.hid (Nat.le_trans Y_y11.out hb.size)
                  clear T_y11 U_y11 E_y11 R_y11 B_y11 V_y11 C_y11 P_y11 Y_y11
                  have X_y12 := Lib.hid hN
                  try rw [← hvb]
                  clear hHeld hb hN hy12 hvb
                  refine hK.out _ _ B_y12.out (fun hHeld => ?_)
                  clear hK K
                  try simp only [Act.put, List.setIfInBounds_toArray, List.set_cons_zero, List.set_cons_succ]
                  refine wpAnyH_ready (rs := [1]) (by kernel_rfl) (by simp) ?_
                  refine (AllReadyH.cons (get_ops _ _ _ rfl) (fun K hK => ?_) AllReadyH.nil)
                  refine wp_load2 24 _ rfl ⟨g5, 6, none⟩ (by first | rfl | go_simp) (.slice A6 (ys ++ [(⟨x, a6, ac6⟩ : EE)]).length c6) (by have cS := T_y12.out.cell 6 rfl; go_simp) ?_
                  clear hHeld
                  refine hK.out _ _ B_y12.out (fun hHeld => ?_)
                  clear hK K
                  try simp only [Act.put, List.setIfInBounds_toArray, List.set_cons_zero, List.set_cons_succ]
                  refine wpAnyH_ready (rs := [5]) (by kernel_rfl) (by simp) ?_
                  refine (AllReadyH.cons (get_ops _ _ _ rfl) (fun K hK => ?_) AllReadyH.nil)
                  have HW7 : Hid (y10.heap.size ≤ y12.heap.size) := Lib.hid Y_y12.out
                  refine oper_owl (B := B0) (N := N1) (Bp := y10.heap.size) _ _ rfl (.slice A6 (ys ++ [(⟨x, a6, ac6⟩ : EE)]).length c6) (ys ++ [(⟨x, a6, ac6⟩ : EE)]) (⟨y.x, a7, ac7⟩ : EE) (by go_simp) U_y12.out (by go_simp) X_y12.out P_y12.out.1 P_y12.out.2 HBN2.out HZ7.out HW7.out (by simp; have := HLN.out; omega) ?_
                  intro v7 y13 hO hK9 hsz9
                  obtain ⟨A7, c7, rfl, hc7, hen7⟩ := LN.of gE_len hO.1
                  have T_y13 : Hid (BK 26 y13 g5 (quC s n (.slice A6 (ys ++ [(⟨x, a6, ac6⟩ : EE)]).length c6))) := Lib.hid (hK9.bk T_y12.out (Or.inl HG5.out))
                  have E_y13 : Hid (BK 34 y13 gEn (enX x xa xc)) := Lib.hid (hK9.bk E_y12.out (Or.inl HGEB.out.1))
                  have R_y13 : Hid (BK 26 y13 g2 (quC Sp.zero 0 (.slice none 0 0))) := Lib.hid (hK9.bk R_y12.out (Or.inl HG1B.out.2))
                  have B_y13 : Hid (Below w.heap.size w y13) := Lib.hid (hK9.below B_y12.out HWB.out)
                  have U_y13 : Hid (OwL B0 y13.heap.size y13 (.slice A7 ((ys ++ [(⟨x, a6, ac6⟩ : EE)]) ++ [(⟨y.x, a7, ac7⟩ : EE)]).length c7) ((ys ++ [(⟨x, a6, ac6⟩ : EE)]) ++ [(⟨y.x, a7, ac7⟩ : EE)])) := Lib.hid hO
                  have Z_y13 : Hid (N1 ≤ y13.heap.size) := Lib.hid (Nat.le_trans (Nat.le_trans HZ7.out HW7.out) hsz9)
                  have HC7 := Lib.hid hc7
                  have HSZ9_7 := Lib.hid hsz9
                  have S_y13 : Hid (y13.heap.size ≤ y13.heap.size) := Lib.hid (Nat.le_refl _)
                  clear hO hK9 hsz9 hc7 hen7 hHeld T_y12 U_y12 E_y12 R_y12 B_y12 V_y12 C_y12 P_y12 Y_y12 X_y12
                  refine hK.out _ _ B_y13.out (fun hHeld => ?_)
                  clear hK K
                  try simp only [Act.put, List.setIfInBounds_toArray, List.set_cons_zero, List.set_cons_succ]
                  refine wpAnyH_take (i := 6) (v := (.pointer (some ⟨g5, 6, none⟩))) (get_ops _ _ _ rfl) (by kernel_rfl) (by kernel_rfl) (by kernel_rfl) (fun _ _ _ h => h) (Or.inl ⟨by rfl, fun wS hSw => by (try dsimp only at hSw); go_simp⟩) hHeld ?_
                  try simp only [Act.put, List.setIfInBounds_toArray, List.set_cons_zero, List.set_cons_succ]
                  refine wpAnyH_ready (rs := [7]) (by kernel_rfl) (by simp) ?_
                  refine (AllReadyH.cons (get_ops _ _ _ rfl) (fun K hK => ?_) AllReadyH.nil)
                  refine wp_store 24 _ _ rfl rfl ⟨g5, 6, none⟩ (by go_simp) (.slice A7 ((ys ++ [(⟨x, a6, ac6⟩ : EE)]) ++ [(⟨y.x, a7, ac7⟩ : EE)]).length c7) (by first | rfl | go_simp) _ (run_store_part y13 g5 6 1 26 24 (quC s n (.slice A6 (ys ++ [(⟨x, a6, ac6⟩ : EE)]).length c6)) [(.slice A7 ((ys ++ [(⟨x, a6, ac6⟩ : EE)]) ++ [(⟨y.x, a7, ac7⟩ : EE)]).length c7)] _ rfl rfl (by kernel_rfl) T_y13.out (by show 6 + 1 ≤ 7; decide) (ones rfl)) ?_
                  have hM : BK 26 (y13.setRow g5 (putC (quC s n (.slice A6 (ys ++ [(⟨x, a6, ac6⟩ : EE)]).length c6)) 6 [(.slice A7 ((ys ++ [(⟨x, a6, ac6⟩ : EE)]) ++ [(⟨y.x, a7, ac7⟩ : EE)]).length c7)]).toArray) g5 (quC s n (.slice A7 ((ys ++ [(⟨x, a6, ac6⟩ : EE)]) ++ [(⟨y.x, a7, ac7⟩ : EE)]).length c7)) := MT.put T_y13.out 6 [(.slice A7 ((ys ++ [(⟨x, a6, ac6⟩ : EE)]) ++ [(⟨y.x, a7, ac7⟩ : EE)]).length c7)]
                  have hP := S2.put_row y13 g5 (putC (quC s n (.slice A6 (ys ++ [(⟨x, a6, ac6⟩ : EE)]).length c6)) 6 [(.slice A7 ((ys ++ [(⟨x, a6, ac6⟩ : EE)]) ++ [(⟨y.x, a7, ac7⟩ : EE)]).length c7)]).toArray
                  refine name_world (C := fun w9 => K _ w9) _ ?_
                  intro y14 hy14
                  rw [← hy14] at hM hP
                  clear hy14
                  have T_y14 : Hid (BK 26 y14 g5 (quC s n (.slice A7 ((ys ++ [(⟨x, a6, ac6⟩ : EE)]) ++ [(⟨y.x, a7, ac7⟩ : EE)]).length c7))) := Lib.hid (hM)
                  have U_y14 : Hid (OwL B0 y13.heap.size y14 (.slice A7 ((ys ++ [(⟨x, a6, ac6⟩ : EE)]) ++ [(⟨y.x, a7, ac7⟩ : EE)]).length c7) ((ys ++ [(⟨x, a6, ac6⟩ : EE)]) ++ [(⟨y.x, a7, ac7⟩ : EE)])) := Lib.hid (OwL.put U_y13.out hP HG5.out)
                  have E_y14 : Hid (BK 34 y14 gEn (enX x xa xc)) := Lib.hid (hP.other E_y13.out (by have h1 := HGEB.out.2; omega))
                  have R_y14 : Hid (BK 26 y14 g2 (quC Sp.zero 0 (.slice none 0 0))) := Lib.hid (hP.other R_y13.out (by have h1 := HRS.out; omega))
                  have B_y14 : Hid (Below w.heap.size w y14) := Lib.hid (hP.below B_y13.out HW5.out)
                  have Z_y14 : Hid (N1 ≤ y14.heap.size) := Lib.hid (by have h9 := hP.size; have h8 := Z_y13.out; omega)
                  have S_y14 : Hid (y13.heap.size ≤ y14.heap.size) := Lib.hid (by have h9 := hP.size; have h8 := S_y13.out; omega)
                  clear T_y13 U_y13 E_y13 R_y13 B_y13 Z_y13 S_y13
                  clear hM hP hHeld
                  refine hK.out _ _ B_y14.out (fun hHeld => ?_)
                  clear hK K
                  try simp only [Act.put, List.setIfInBounds_toArray, List.set_cons_zero, List.set_cons_succ]
                  refine wpAnyH_done (by kernel_rfl) ?_ _
                  have w1a : j ≤ 1000000 := by have h1 := HJ.out; have h2 := HL.out; omega
                  go_wp2
                  go_roundg g
                  case measure => omega
                  case rel => exact ⟨j + 1, true, A7, c7, ((ys ++ [(⟨x, a6, ac6⟩ : EE)]) ++ [(⟨y.x, a7, ac7⟩ : EE)]), by have := HJ.out; omega, by go_num, rfl, T_y14.out, U_y14.out.more S_y14.out, (by rw [insF_succ x HY1.out, HYS.out, List.map_append, List.map_append]; unfold stepI; rw [if_pos ⟨rfl, HPB.out⟩]; rfl), E_y14.out, R_y14.out, B_y14.out, Nat.le_trans HBN.out (Nat.le_trans HN01.out Z_y14.out)⟩

end Go.Proofs.YtjhojpghllnoiaaDoor
