/-
  What Bind of exchange answers: the routes with a binding more, or the error. Conditions: the lists read as data, the names ascend; few elements; lengths fit an int.
-/
import Derived.Test.YtjkhfifnfgchgabGreatDoorEpJ
namespace Go.Proofs.YtjkhfifnfgchgabGreatDoor
open Go.RowKit
open S2 (BK Put get_ops)

theorem bindR_err {l : List Ex} {bs : List Bd} {b : Bd} (h : bdR l b ≠ 0) : bindR l bs b = ([], bdR l b) := by unfold bindR; rw [if_pos h]
theorem bindR_same {l : List Ex} {bs : List Bd} {b : Bd} (h0 : bdR l b = 0) (hf : 0 ≤ fB b bs 0) : bindR l bs b = (bs, 0) := by unfold bindR; rw [if_neg (by simp [h0]), if_pos hf]
theorem bindR_full {l : List Ex} {bs : List Bd} {b : Bd} (h0 : bdR l b = 0) (hf : fB b bs 0 < 0) (h : 256 ≤ bs.length) : bindR l bs b = ([], 6) := by unfold bindR; rw [if_neg (by simp [h0]), if_neg (by omega), if_pos h]
theorem bindR_new {l : List Ex} {bs : List Bd} {b : Bd} (h0 : bdR l b = 0) (hf : fB b bs 0 < 0) (h : bs.length < 256) : bindR l bs b = (bs ++ [b], 0) := by unfold bindR; rw [if_neg (by simp [h0]), if_neg (by omega), if_neg (by omega)]
/-- what Bind answers -/
def RetBi (l : List Ex) (bs : List Bd) (b : Bd) (W : World) (e : Ending) (w' : World) : Prop := ∃ v1 v2 ys, e = .returned (.tuple #[.agg #[v1, v2], .int .i64 (bindR l bs b).2]) ∧ ys.map BE.d = (bindR l bs b).1 ∧ RtN W.heap.size w' v1 (if (bindR l bs b).2 = 0 then l else []) v2 ys ∧ Below W.heap.size W w'
theorem map_app1 {ys : List BE} {bs : List Bd} {d : Bd} {a : Option Addr} {c : Nat} (h : ys.map BE.d = bs) : (ys ++ [(⟨d, a, c⟩ : BE)]).map BE.d = bs ++ [d] := by rw [List.map_append, h]; rfl

set_option maxRecDepth 20000 in
set_option maxHeartbeats 8000000 in
theorem xBind_any (A1 : Option Addr) (c1 : Nat) (l : List Ex) (A2 : Option Addr) (c2 : Nat) (xs : List BE) (y : BE) (w : World) (h1 : EL w w.heap.size A1 l) (h2 : BI w w.heap.size A2 xs) (hf : Few xs) (hn1 : l.length ≤ 100000) (hn2 : xs.length ≤ 100000) (ha : AscE l) (hy : BIn w y) :
    Calls Tryz.prog 12 #[rtV A1 l.length c1 A2 xs.length c2, bdV y] w (RetBi l (xs.map BE.d) y.d w) := by
  have HCB := Lib.hid (fun w1 h1 h2 => checkBinding_any A1 c1 l y w1 h1 ha (by omega) h2)
  have HIX := Lib.hid (fun w1 h1 h2 => indexOf_any A2 c2 xs y w1 h1 hf (by omega) h2)
  have HCR := Lib.hid (fun w1 h1 h2 => copyRoutes_any A1 c1 l A2 c2 xs w1 h1 h2 hf hn1 hn2)
  have HL := Lib.hid h1
  have HX := Lib.hid h2
  have HY := Lib.hid hy
  have HN2 := Lib.hid hn2
  have HLM : Hid ((xs.map BE.d).length = xs.length) := Lib.hid (List.length_map _)
  clear h1 h2 hf hn1 hn2 hy ha
  unfold rtV at *
  have HV : Hid (bdV y = .agg (gB y).toArray) := Lib.hid rfl
  rw [HV.out]
  have CX : gB y = [.string y.d.ex, .string y.d.qu, .string y.d.ky, .bool y.d.all, .slice y.a y.d.ml.length y.c] := rfl
  rw [CX]
  clear CX
  go_enter Tryz.func12, Tryz.ntmps12
  go_upto_region 1 with fail
  refine name_world (C := fun w1 => Code.wp _ _ _ _ w1) (((w.alloc (.cells [.slice A1 l.length c1, .slice A2 xs.length c2].toArray 25)).alloc (.cells [.string y.d.ex, .string y.d.qu, .string y.d.ky, .bool y.d.all, .slice y.a y.d.ml.length y.c].toArray 35)).alloc (.cells [.slice none 0 0, .slice none 0 0].toArray 25)) ?_
  intro w1 hw1
  obtain ⟨u1, u2, u3, hB0, hs0⟩ := three_laid hw1
  have T_w1 := Lib.hid u1
  have X_w1 : Hid (BK 35 w1 (w.heap.size + 1) (gB y)) := Lib.hid u2
  have Z_w1 := Lib.hid u3
  have B_w1 := Lib.hid hB0
  have L_w1 := Lib.hid (GL.step HL.out hB0)
  have S_w1 := Lib.hid (LI.step HX.out hB0)
  have Y_w1 := Lib.hid (HY.out.step hB0)
  clear hw1 u1 u2 u3 hB0 hs0 HL HX HV HY
  have HLY := Lib.hid (load_bd0 X_w1.out)
  have t0 := T_w1.out.cell 0 rfl
  go_wp2_with first
    | (refine wpList_load_v (by rfl) 35 (.tmp 3) rfl ⟨w.heap.size + 1, 0, none⟩ rfl _ HLY.out ?_)
  obtain ⟨er, her0⟩ : ∃ er, bdR l y.d = er := ⟨_, rfl⟩
  rw [her0] at HCB
  have HER := Lib.hid her0
  clear her0
  refine (HCB.out _ L_w1.out Y_w1.out).mono ?_
  rintro e w2 ⟨rfl, hb⟩
  clear HLY t0 HCB
  have T_w2 := Lib.hid (T_w1.out.step hb)
  have X_w2 := Lib.hid (X_w1.out.step hb)
  have Z_w2 := Lib.hid (Z_w1.out.step hb)
  have B_w2 := Lib.hid (stepB B_w1.out hb)
  have L_w2 := Lib.hid (GL.step L_w1.out hb)
  have S_w2 := Lib.hid (LI.step S_w1.out hb)
  have Y_w2 := Lib.hid (Y_w1.out.step hb)
  clear hb T_w1 X_w1 Z_w1 B_w1 L_w1 S_w1 Y_w1
  by_cases her : er = 0
  · subst her
    obtain ⟨fi, hfi⟩ : ∃ fi, fB y.d (xs.map BE.d) 0 = fi := ⟨_, rfl⟩
    rw [hfi] at HIX
    have HFI := Lib.hid hfi
    clear hfi
    have t1 := T_w2.out.cell 1 rfl
    have HLY := Lib.hid (load_bd0 X_w2.out)
    go_wp2_with first
      | (refine wpList_load_v (by rfl) 35 (.tmp 3) rfl ⟨w.heap.size + 1, 0, none⟩ rfl _ HLY.out ?_)
    refine (HIX.out _ S_w2.out Y_w2.out).mono ?_
    rintro e w3 ⟨rfl, hb⟩
    clear HLY t1 HIX
    have T_w3 := Lib.hid (T_w2.out.step hb)
    have X_w3 := Lib.hid (X_w2.out.step hb)
    have Z_w3 := Lib.hid (Z_w2.out.step hb)
    have B_w3 := Lib.hid (stepB B_w2.out hb)
    have L_w3 := Lib.hid (GL.step L_w2.out hb)
    have S_w3 := Lib.hid (LI.step S_w2.out hb)
    have Y_w3 := Lib.hid (Y_w2.out.step hb)
    clear hb T_w2 X_w2 Z_w2 B_w2 L_w2 S_w2 Y_w2
    by_cases hfp : 0 ≤ fi
    · have HFP : Hid (0 ≤ fB y.d (xs.map BE.d) 0) := Lib.hid (by rw [HFI.out]; exact hfp)
      have q1 : decide (0 ≤ fi) = true := decide_eq_true hfp
      clear hfp
      have HLT : Hid ((loadVar 25 ⟨w.heap.size, 0, none⟩).run Tryz.prog w3 = .ok (.agg #[.slice A1 l.length c1, .slice A2 xs.length c2]) w3) := Lib.hid (S2.run_load_all T_w3.out Tryz.underlying25 rfl rtSize)
      go_wp2_with first
        | (refine wpList_load_v (by rfl) 25 (.tmp 2) rfl ⟨w.heap.size, 0, none⟩ rfl _ HLT.out ?_)
      refine (HCR.out _ L_w3.out S_w3.out).mono ?_
      rintro e w5 ⟨v1, v2, ys, rfl, hys, hrt, hb⟩
      have HYS := Lib.hid hys
      obtain ⟨Ae, ce, Av, cv, hv1, hv2, _⟩ := hrt.ret
      subst hv1
      subst hv2
      have HOFF : Hid (RtOff (w.heap.size + 2) (.slice Ae l.length ce) (.slice Av ys.length cv) ys) := Lib.hid (hrt.low Z_w3.out.lt)
      have R_w5 := Lib.hid (RtN.weak hrt B_w3.out.size)
      clear hys hrt HLT
      have Z_w5 := Lib.hid (Z_w3.out.step hb)
      have B_w5 := Lib.hid (stepB B_w3.out hb)
      clear hb Z_w3 B_w3
      have HZL := Lib.hid Z_w5.out
      go_wp2_with first
        | (refine S2.wpList_store_all (by rfl) 25 (.tmp 4) (.tmp 23) rfl rfl (w.heap.size + 2) rfl [.slice Ae l.length ce, .slice Av ys.length cv] rfl 25 [.slice none 0 0, .slice none 0 0] HZL.out rtSize rfl (ones rfl) ?_; intro wz hM hP; have M9 := Lib.hid hM; have P9 := Lib.hid hP; clear hM hP)
      refine bodyPost_ret (v := .tuple #[.agg #[.slice Ae l.length ce, .slice Av ys.length cv], .int .i64 0]) (S2.res_cell_tmp rfl _ _ (w.heap.size + 2) 25 [.slice Ae l.length ce, .slice Av ys.length cv] _ _ rfl rfl M9.out Tryz.underlying25 rfl rtSize) rfl ?_
      unfold RetBi
      rw [bindR_same HER.out HFP.out]
      exact ⟨_, _, ys, rfl, HYS.out, by rw [if_pos rfl]; exact RtN.weak (RtN.put R_w5.out HOFF.out P9.out) (by omega), P9.out.below B_w5.out (by omega)⟩
    · have HFN : Hid (fB y.d (xs.map BE.d) 0 < 0) := Lib.hid (by rw [HFI.out]; omega)
      have q1 : decide (0 ≤ fi) = false := decide_eq_false hfp
      clear hfp
      have t1 := T_w3.out.cell 1 rfl
      by_cases h256 : 256 ≤ xs.length
      · have q2 : decide ((256 : Int) ≤ (xs.length : Int)) = true := decide_eq_true (by omega)
        have H256 : Hid (256 ≤ (xs.map BE.d).length) := Lib.hid (by rw [HLM.out]; exact h256)
        clear h256
        have HZL := Lib.hid Z_w3.out
        go_wp2_with first
          | (refine S2.wpList_store_all (by rfl) 25 (.tmp 4) (.tmp 29) rfl rfl (w.heap.size + 2) rfl [.slice none 0 0, .slice none 0 0] rfl 25 [.slice none 0 0, .slice none 0 0] HZL.out rtSize rfl (ones rfl) ?_; intro wz hM hP; have M9 := Lib.hid hM; have P9 := Lib.hid hP; clear hM hP)
        refine bodyPost_ret (v := .tuple #[.agg #[.slice none 0 0, .slice none 0 0], .int .i64 6]) (S2.res_cell_tmp rfl _ _ (w.heap.size + 2) 25 [.slice none 0 0, .slice none 0 0] _ _ rfl rfl M9.out Tryz.underlying25 rfl rtSize) rfl ?_
        unfold RetBi
        rw [bindR_full HER.out HFN.out H256.out]
        exact ⟨_, _, [], rfl, rfl, by (first | rw [if_neg (by first | decide | exact HNE.out)]); exact RtN.nil, P9.out.below B_w3.out (by omega)⟩
      · have q2 : decide ((256 : Int) ≤ (xs.length : Int)) = false := decide_eq_false (by omega)
        have H256 : Hid ((xs.map BE.d).length < 256) := Lib.hid (by rw [HLM.out]; omega)
        clear h256
        have HLT : Hid ((loadVar 25 ⟨w.heap.size, 0, none⟩).run Tryz.prog w3 = .ok (.agg #[.slice A1 l.length c1, .slice A2 xs.length c2]) w3) := Lib.hid (S2.run_load_all T_w3.out Tryz.underlying25 rfl rtSize)
        go_wp2_with first
          | (refine wpList_load_v (by rfl) 25 (.tmp 2) rfl ⟨w.heap.size, 0, none⟩ rfl _ HLT.out ?_)
        refine (HCR.out _ L_w3.out S_w3.out).mono ?_
        rintro e w5 ⟨v1, v2, ys, rfl, hys, hrt, hb⟩
        have HYS := Lib.hid hys
        obtain ⟨Ae, ce, Av, cv, hv1, hv2, _⟩ := hrt.ret
        subst hv1
        subst hv2
        have HOFZ : Hid (RtOff (w.heap.size + 2) (.slice Ae l.length ce) (.slice Av ys.length cv) ys) := Lib.hid (hrt.low Z_w3.out.lt)
        have HOFX : Hid ((Value.slice Av ys.length cv).ownBlock ≠ some (w.heap.size + 1)) := Lib.hid (hrt.low X_w3.out.lt).b
        have R_w5 := Lib.hid (RtN.weak hrt B_w3.out.size)
        have HYL : Hid (ys.length ≤ 100000) := Lib.hid (by have := congrArg List.length hys; rw [List.length_map, List.length_map] at this; have := HN2.out; omega)
        clear hys hrt HLT t1
        have Z_w5 := Lib.hid (Z_w3.out.step hb)
        have B_w5 := Lib.hid (stepB B_w3.out hb)
        have X_w5 := Lib.hid (X_w3.out.step hb)
        have Y_w5 := Lib.hid (Y_w3.out.step hb)
        clear hb Z_w3 B_w3 X_w3 Y_w3
        go_upto_region 9 with first
          | (refine S2.wpList_store_all (by rfl) 25 (.tmp 7) (.tmp 31) rfl rfl w5.heap.size rfl [.slice Ae l.length ce, .slice Av ys.length cv] rfl 25 _ (BK.new w5 _ _) rtSize rfl (ones rfl) ?_; intro w6 hM hP; have hb := hP.below (S2.below_new w5 _) (Nat.le_refl _); have B_w6 := Lib.hid (stepB B_w5.out hb); have Z_w6 := Lib.hid (Z_w5.out.step hb); have X_w6 := Lib.hid (X_w5.out.step hb); have Y_w6 := Lib.hid (Y_w5.out.step hb); have G_w6 := Lib.hid hM; have R_w6 := Lib.hid (RtN.step R_w5.out hb); have HOFG := Lib.hid (R_w5.out.high (Nat.le_refl _)); have HGZ : Hid (w.heap.size + 2 < w5.heap.size) := Lib.hid Z_w5.out.lt; clear hM hP hb)
        obtain ⟨g9, hg9⟩ : ∃ g, g = w5.heap.size := ⟨_, rfl⟩
        rw [← hg9] at G_w6 HOFG HGZ ⊢
        clear hg9 B_w5 Z_w5 X_w5 Y_w5 R_w5
        obtain ⟨x1, hx1⟩ : ∃ x1, x1 = World.drew w6 := ⟨_, rfl⟩
        have hbD : Below w6.heap.size w6 x1 := by rw [hx1]; exact (Below.refl _ _).drew
        have B_x1 : Hid (Below w.heap.size w x1) := Lib.hid (stepB B_w6.out hbD)
        have R_x1 : Hid (RtN w.heap.size x1 (.slice Ae l.length ce) l (.slice Av ys.length cv) ys) := Lib.hid (RtN.step R_w6.out hbD)
        have G_x1 : Hid (BK 25 x1 g9 [.slice Ae l.length ce, .slice Av ys.length cv]) := Lib.hid (G_w6.out.step hbD)
        have Z_x1 : Hid (BK 25 x1 (w.heap.size + 2) [.slice none 0 0, .slice none 0 0]) := Lib.hid (Z_w6.out.step hbD)
        have X_x1 : Hid (BK 35 x1 (w.heap.size + 1) (gB y)) := Lib.hid (X_w6.out.step hbD)
        have Y_x1 : Hid (BIn x1 y) := Lib.hid (Y_w6.out.step hbD)
        clear B_w6 R_w6 G_w6 Z_w6 X_w6 Y_w6
        have hbd : (fun w' => BK 35 w' (w.heap.size + 1) (gB y)) (World.drew w6) := by rw [← hx1]; exact X_x1.out
        have hSD : (fun w' => BK 35 w' (w.heap.size + 1) (gB y)) x1 := X_x1.out
        have HWD := Lib.hid hx1
        clear hx1 hbD
        refine wp_region_held_drew (S := fun w' => BK 35 w' (w.heap.size + 1) (gB y)) (by kernel_rfl) hbd (fun hHeld => ?_)
        rw [← HWD.out]
        clear hHeld
        have hHeld := hSD
        clear hSD hbd HWD
        refine wpAnyH_take (i := 0) (v := .pointer (some ⟨g9, 1, none⟩)) (get_ops _ _ _ rfl) (by kernel_rfl) (by kernel_rfl) (by kernel_rfl) (fun _ _ _ h => h) (Or.inl ⟨by rfl, fun wS hSw => by (try dsimp only at hSw); go_simp⟩) hHeld ?_
        try simp only [Act.put, List.setIfInBounds_toArray, List.set_cons_zero, List.set_cons_succ]
        refine wpAnyH_take (i := 2) (v := bdV y) (get_ops _ _ _ rfl) (by kernel_rfl) (by kernel_rfl) (by kernel_rfl) (fun _ _ _ h => h) (Or.inl ⟨by rfl, fun wS hSw => by (try dsimp only at hSw); exact exec_load 35 _ rfl ⟨w.heap.size + 1, 0, none⟩ (by go_simp) _ (load_bd0 hSw)⟩) hHeld ?_
        try simp only [Act.put, List.setIfInBounds_toArray, List.set_cons_zero, List.set_cons_succ]
        refine wpAnyH_ready (rs := [1, 3]) (by kernel_rfl) (by simp) ?_
        refine (AllReadyH.cons (get_ops _ _ _ rfl) (fun K hK => ?_) (AllReadyH.cons (get_ops _ _ _ rfl) (fun K hK => ?_) AllReadyH.nil))
        · have g1 := G_x1.out.cell 1 rfl
          go_simp
          clear g1 hHeld
          refine hK.out _ _ X_x1.out (fun hHeld => ?_)
          clear hK K
          try simp only [Act.put, List.setIfInBounds_toArray, List.set_cons_zero, List.set_cons_succ]
          refine wpAnyH_ready (rs := [3]) (by kernel_rfl) (by simp) ?_
          refine (AllReadyH.cons (get_ops _ _ _ rfl) (fun K hK => ?_) AllReadyH.nil)
          have HLOW : Hid (∀ k, x1.heap.size ≤ k → (Value.slice Ae l.length ce).ownBlock ≠ some k ∧ (Value.slice Av ys.length cv).ownBlock ≠ some k) := Lib.hid (fun k hk => ⟨R_x1.out.e.high hk, R_x1.out.b.1.high hk⟩)
          have HGO : Hid (w.heap.size ≤ x1.heap.size ∧ g9 < x1.heap.size ∧ w.heap.size + 2 < x1.heap.size) := Lib.hid ⟨B_x1.out.size, G_x1.out.lt, Z_x1.out.lt⟩
          go_simp
          refine (copyBinding_any y x1 Y_x1.out).mono ?_
          rintro e x2 ⟨a, c, rfl, hp, hn, hb⟩
          have B_x2 : Hid (Below w.heap.size w x2) := Lib.hid (stepB B_x1.out hb)
          have R_x2 : Hid (RtN w.heap.size x2 (.slice Ae l.length ce) l (.slice Av ys.length cv) ys) := Lib.hid (RtN.step R_x1.out hb)
          have G_x2 : Hid (BK 25 x2 g9 [.slice Ae l.length ce, .slice Av ys.length cv]) := Lib.hid (G_x1.out.step hb)
          have Z_x2 : Hid (BK 25 x2 (w.heap.size + 2) [.slice none 0 0, .slice none 0 0]) := Lib.hid (Z_x1.out.step hb)
          have X_x2 : Hid (BK 35 x2 (w.heap.size + 1) (gB y)) := Lib.hid (X_x1.out.step hb)
          have Y_x2 : Hid (BIn x2 y) := Lib.hid (Y_x1.out.step hb)
          clear B_x1 R_x1 G_x1 Z_x1 X_x1 Y_x1
          have P_x2 : Hid (PL x2 x2.heap.size a y.d.ml) := Lib.hid hp
          have HNA : Hid (NewL x1.heap.size a) := Lib.hid hn
          clear hHeld hb hp hn
          simp only [bdV_lit]
          go_wp2_with fail
          refine hK.out _ _ X_x2.out (fun hHeld => ?_)
          clear hK K
          try simp only [Act.put, List.setIfInBounds_toArray, List.set_cons_zero, List.set_cons_succ]
          refine wpAnyH_ready (rs := [4]) (by kernel_rfl) (by simp) ?_
          refine (AllReadyH.cons (get_ops _ _ _ rfl) (fun K hK => ?_) AllReadyH.nil)
          go_simp
          obtain ⟨bq, hbq⟩ : ∃ n, n = x2.heap.size := ⟨_, rfl⟩
          refine name_world (C := fun w9 => K _ w9) (x2.alloc (.cells (gB ⟨y.d, a, c⟩).toArray 35)) ?_
          intro x3 hx3
          have hb : Below x2.heap.size x2 x3 := by rw [hx3]; exact S2.below_new _ _
          have hN : BK 35 x3 bq (gB ⟨y.d, a, c⟩) := by rw [hx3, hbq]; exact BK.new _ _ _
          have B_x3 : Hid (Below w.heap.size w x3) := Lib.hid (stepB B_x2.out hb)
          have R_x3 : Hid (RtN w.heap.size x3 (.slice Ae l.length ce) l (.slice Av ys.length cv) ys) := Lib.hid (RtN.step R_x2.out hb)
          have G_x3 : Hid (BK 25 x3 g9 [.slice Ae l.length ce, .slice Av ys.length cv]) := Lib.hid (G_x2.out.step hb)
          have Z_x3 : Hid (BK 25 x3 (w.heap.size + 2) [.slice none 0 0, .slice none 0 0]) := Lib.hid (Z_x2.out.step hb)
          have X_x3 : Hid (BK 35 x3 (w.heap.size + 1) (gB y)) := Lib.hid (X_x2.out.step hb)
          have Y_x3 : Hid (BIn x3 y) := Lib.hid (Y_x2.out.step hb)
          have P_x3 : Hid (PL x3 x3.heap.size a y.d.ml) := Lib.hid (GL.step P_x2.out hb)
          clear B_x2 R_x2 G_x2 Z_x2 X_x2 Y_x2 P_x2
          have Q_x3 := Lib.hid hN
          try rw [← hbq]
          clear hHeld hb hN hx3 hbq
          refine hK.out _ _ X_x3.out (fun hHeld => ?_)
          clear hK K
          try simp only [Act.put, List.setIfInBounds_toArray, List.set_cons_zero, List.set_cons_succ]
          refine wpAnyH_ready (rs := [5]) (by kernel_rfl) (by simp) ?_
          refine (AllReadyH.cons (get_ops _ _ _ rfl) (fun K hK => ?_) AllReadyH.nil)
          refine oper_lst (ad := BE.a) (ps := bps) gB_len gB_one (by decide) (.tmp 33) (.tmp 36) 23 rfl (.agg #[.string ByteArray.empty, .string ByteArray.empty, .string ByteArray.empty, .bool false, .slice none 0 0]) 80 Tryz.underlying23 bdInfo rfl (by decide) w.heap.size (.slice Av ys.length cv) ys ⟨y.d, a, c⟩ (by go_simp) R_x3.out.b bq (by go_simp) Q_x3.out P_x3.out (fun b o e => by have := HNA.out b o e; have := HGO.out; omega) (fun b o e _ => (HLOW.out b (HNA.out b o e)).2) B_x3.out.size (by have := HYL.out; omega) ?_
          intro v9 x4 hl hkp hbel
          have hrt := RtN.app R_x3.out hl hkp (fun k e b o e2 e3 => by have h1 := HNA.out b o e2; have h2 := (HLOW.out b h1).1; exact h2 (by rw [e3]; exact e))
          have hofg := RtOff.app HOFG.out hkp G_x3.out.lt (y := ⟨y.d, a, c⟩) (fun b o e e2 => by have h1 := HNA.out b o e; have := HGO.out; omega)
          have hofz := RtOff.app HOFZ.out hkp Z_x3.out.lt (y := ⟨y.d, a, c⟩) (fun b o e e2 => by have h1 := HNA.out b o e; have := HGO.out; omega)
          have hG : BK 25 x4 g9 [.slice Ae l.length ce, .slice Av ys.length cv] := (hkp.keep _ G_x3.out.lt HOFG.out.b).trans G_x3.out
          have hZ : BK 25 x4 (w.heap.size + 2) [.slice none 0 0, .slice none 0 0] := (hkp.keep _ Z_x3.out.lt HOFZ.out.b).trans Z_x3.out
          have hX : BK 35 x4 (w.heap.size + 1) (gB y) := (hkp.keep _ X_x3.out.lt HOFX.out).trans X_x3.out
          have hB : Below w.heap.size w x4 := hbel _ _ B_x3.out (Nat.le_refl _)
          obtain ⟨A9, c9, hv9, _⟩ := OwnG.ret gB_len hl.1
          obtain ⟨n9, hn9⟩ : ∃ n, (ys ++ [(⟨y.d, a, c⟩ : BE)]).length = n := ⟨_, rfl⟩
          rw [hn9] at hv9
          subst hv9
          have R_x4 := Lib.hid hrt
          have G_x4 := Lib.hid hG
          have Z_x4 := Lib.hid hZ
          have X_x4 := Lib.hid hX
          have B_x4 := Lib.hid hB
          have HOFG9 := Lib.hid hofg
          have HOFZ9 := Lib.hid hofz
          clear hl hkp hbel hHeld hn9 hrt hofg hofz hG hZ hX hB B_x3 R_x3 G_x3 Z_x3 X_x3 Y_x3 P_x3 Q_x3
          refine hK.out _ _ X_x4.out (fun hHeld => ?_)
          clear hK K
          try simp only [Act.put, List.setIfInBounds_toArray, List.set_cons_zero, List.set_cons_succ]
          refine wpAnyH_take (i := 6) (v := .pointer (some ⟨g9, 1, none⟩)) (get_ops _ _ _ rfl) (by kernel_rfl) (by kernel_rfl) (by kernel_rfl) (fun _ _ _ h => h) (Or.inl ⟨by rfl, fun wS hSw => by (try dsimp only at hSw); go_simp⟩) hHeld ?_
          try simp only [Act.put, List.setIfInBounds_toArray, List.set_cons_zero, List.set_cons_succ]
          refine wpAnyH_ready (rs := [7]) (by kernel_rfl) (by simp) ?_
          refine (AllReadyH.cons (get_ops _ _ _ rfl) (fun K hK => ?_) AllReadyH.nil)
          have g1 := G_x4.out.cell 1 rfl
          have f1 := G_x4.out.free 1
          go_simp
          refine name_world (C := fun w9 => K _ w9) (x4.setCell ⟨g9, 1, none⟩ (.slice A9 n9 c9)) ?_
          intro x5 hx5
          have R_x5 : Hid (RtN w.heap.size x5 (.slice Ae l.length ce) l (.slice A9 n9 c9) (ys ++ [(⟨y.d, a, c⟩ : BE)])) := Lib.hid (by rw [hx5]; exact RtN.set R_x4.out HOFG9.out 1 _)
          have G_x5 : Hid (BK 25 x5 g9 [.slice Ae l.length ce, .slice A9 n9 c9]) := Lib.hid (by rw [hx5]; exact G_x4.out.set 1 _)
          have Z_x5 : Hid (BK 25 x5 (w.heap.size + 2) [.slice none 0 0, .slice none 0 0]) := Lib.hid (by rw [hx5]; exact Z_x4.out.other (by show w.heap.size + 2 ≠ g9; have := HGZ.out; omega) _)
          have X_x5 : Hid (BK 35 x5 (w.heap.size + 1) (gB y)) := Lib.hid (by rw [hx5]; exact X_x4.out.other (by show w.heap.size + 1 ≠ g9; have := HGZ.out; omega) _)
          have B_x5 : Hid (Below w.heap.size w x5) := Lib.hid (by rw [hx5]; exact B_x4.out.setCell (p := ⟨g9, 1, none⟩) (by show w.heap.size ≤ g9; have := HGZ.out; omega) _)
          clear g1 f1 hHeld hx5 B_x4 R_x4 G_x4 Z_x4 X_x4
          refine hK.out _ _ X_x5.out (fun hHeld => ?_)
          clear hK K
          try simp only [Act.put, List.setIfInBounds_toArray, List.set_cons_zero, List.set_cons_succ]
          refine wpAnyH_done (by kernel_rfl) ?_ _
          have HLG := Lib.hid (S2.run_load_all G_x5.out Tryz.underlying25 rfl rtSize)
          have HZL := Lib.hid Z_x5.out
          go_wp2_with first
            | (refine wpList_load_v (by rfl) 25 (.tmp 7) rfl ⟨g9, 0, none⟩ rfl (.agg #[.slice Ae l.length ce, .slice A9 n9 c9]) HLG.out ?_)
            | (refine S2.wpList_store_all (by rfl) 25 (.tmp 4) (.tmp 39) rfl rfl (w.heap.size + 2) rfl [.slice Ae l.length ce, .slice A9 n9 c9] rfl 25 [.slice none 0 0, .slice none 0 0] HZL.out rtSize rfl (ones rfl) ?_; intro wz hM hP; have M9 := Lib.hid hM; have P9 := Lib.hid hP; clear hM hP)
          refine bodyPost_ret (v := .tuple #[.agg #[.slice Ae l.length ce, .slice A9 n9 c9], .int .i64 0]) (S2.res_cell_tmp rfl _ _ (w.heap.size + 2) 25 [.slice Ae l.length ce, .slice A9 n9 c9] _ _ rfl rfl M9.out Tryz.underlying25 rfl rtSize) rfl ?_
          unfold RetBi
          rw [bindR_new HER.out HFN.out H256.out]
          exact ⟨_, _, ys ++ [(⟨y.d, a, c⟩ : BE)], rfl, map_app1 HYS.out, by rw [if_pos rfl]; exact RtN.weak (RtN.put R_x5.out HOFZ9.out P9.out) (by omega), P9.out.below B_x5.out (by omega)⟩
        · have HLOW : Hid (∀ k, x1.heap.size ≤ k → (Value.slice Ae l.length ce).ownBlock ≠ some k ∧ (Value.slice Av ys.length cv).ownBlock ≠ some k) := Lib.hid (fun k hk => ⟨R_x1.out.e.high hk, R_x1.out.b.1.high hk⟩)
          have HGO : Hid (w.heap.size ≤ x1.heap.size ∧ g9 < x1.heap.size ∧ w.heap.size + 2 < x1.heap.size) := Lib.hid ⟨B_x1.out.size, G_x1.out.lt, Z_x1.out.lt⟩
          go_simp
          refine (copyBinding_any y x1 Y_x1.out).mono ?_
          rintro e x2 ⟨a, c, rfl, hp, hn, hb⟩
          have B_x2 : Hid (Below w.heap.size w x2) := Lib.hid (stepB B_x1.out hb)
          have R_x2 : Hid (RtN w.heap.size x2 (.slice Ae l.length ce) l (.slice Av ys.length cv) ys) := Lib.hid (RtN.step R_x1.out hb)
          have G_x2 : Hid (BK 25 x2 g9 [.slice Ae l.length ce, .slice Av ys.length cv]) := Lib.hid (G_x1.out.step hb)
          have Z_x2 : Hid (BK 25 x2 (w.heap.size + 2) [.slice none 0 0, .slice none 0 0]) := Lib.hid (Z_x1.out.step hb)
          have X_x2 : Hid (BK 35 x2 (w.heap.size + 1) (gB y)) := Lib.hid (X_x1.out.step hb)
          have Y_x2 : Hid (BIn x2 y) := Lib.hid (Y_x1.out.step hb)
          clear B_x1 R_x1 G_x1 Z_x1 X_x1 Y_x1
          have P_x2 : Hid (PL x2 x2.heap.size a y.d.ml) := Lib.hid hp
          have HNA : Hid (NewL x1.heap.size a) := Lib.hid hn
          clear hHeld hb hp hn
          simp only [bdV_lit]
          go_wp2_with fail
          refine hK.out _ _ X_x2.out (fun hHeld => ?_)
          clear hK K
          try simp only [Act.put, List.setIfInBounds_toArray, List.set_cons_zero, List.set_cons_succ]
          refine wpAnyH_ready (rs := [1, 4]) (by kernel_rfl) (by simp) ?_
          refine (AllReadyH.cons (get_ops _ _ _ rfl) (fun K hK => ?_) (AllReadyH.cons (get_ops _ _ _ rfl) (fun K hK => ?_) AllReadyH.nil))
          · have g1 := G_x2.out.cell 1 rfl
            go_simp
            clear g1 hHeld
            refine hK.out _ _ X_x2.out (fun hHeld => ?_)
            clear hK K
            try simp only [Act.put, List.setIfInBounds_toArray, List.set_cons_zero, List.set_cons_succ]
            refine wpAnyH_ready (rs := [4]) (by kernel_rfl) (by simp) ?_
            refine (AllReadyH.cons (get_ops _ _ _ rfl) (fun K hK => ?_) AllReadyH.nil)
            go_simp
            obtain ⟨bq, hbq⟩ : ∃ n, n = x2.heap.size := ⟨_, rfl⟩
            refine name_world (C := fun w9 => K _ w9) (x2.alloc (.cells (gB ⟨y.d, a, c⟩).toArray 35)) ?_
            intro x3 hx3
            have hb : Below x2.heap.size x2 x3 := by rw [hx3]; exact S2.below_new _ _
            have hN : BK 35 x3 bq (gB ⟨y.d, a, c⟩) := by rw [hx3, hbq]; exact BK.new _ _ _
            have B_x3 : Hid (Below w.heap.size w x3) := Lib.hid (stepB B_x2.out hb)
            have R_x3 : Hid (RtN w.heap.size x3 (.slice Ae l.length ce) l (.slice Av ys.length cv) ys) := Lib.hid (RtN.step R_x2.out hb)
            have G_x3 : Hid (BK 25 x3 g9 [.slice Ae l.length ce, .slice Av ys.length cv]) := Lib.hid (G_x2.out.step hb)
            have Z_x3 : Hid (BK 25 x3 (w.heap.size + 2) [.slice none 0 0, .slice none 0 0]) := Lib.hid (Z_x2.out.step hb)
            have X_x3 : Hid (BK 35 x3 (w.heap.size + 1) (gB y)) := Lib.hid (X_x2.out.step hb)
            have Y_x3 : Hid (BIn x3 y) := Lib.hid (Y_x2.out.step hb)
            have P_x3 : Hid (PL x3 x3.heap.size a y.d.ml) := Lib.hid (GL.step P_x2.out hb)
            clear B_x2 R_x2 G_x2 Z_x2 X_x2 Y_x2 P_x2
            have Q_x3 := Lib.hid hN
            try rw [← hbq]
            clear hHeld hb hN hx3 hbq
            refine hK.out _ _ X_x3.out (fun hHeld => ?_)
            clear hK K
            try simp only [Act.put, List.setIfInBounds_toArray, List.set_cons_zero, List.set_cons_succ]
            refine wpAnyH_ready (rs := [5]) (by kernel_rfl) (by simp) ?_
            refine (AllReadyH.cons (get_ops _ _ _ rfl) (fun K hK => ?_) AllReadyH.nil)
            refine oper_lst (ad := BE.a) (ps := bps) gB_len gB_one (by decide) (.tmp 33) (.tmp 36) 23 rfl (.agg #[.string ByteArray.empty, .string ByteArray.empty, .string ByteArray.empty, .bool false, .slice none 0 0]) 80 Tryz.underlying23 bdInfo rfl (by decide) w.heap.size (.slice Av ys.length cv) ys ⟨y.d, a, c⟩ (by go_simp) R_x3.out.b bq (by go_simp) Q_x3.out P_x3.out (fun b o e => by have := HNA.out b o e; have := HGO.out; omega) (fun b o e _ => (HLOW.out b (HNA.out b o e)).2) B_x3.out.size (by have := HYL.out; omega) ?_
            intro v9 x4 hl hkp hbel
            have hrt := RtN.app R_x3.out hl hkp (fun k e b o e2 e3 => by have h1 := HNA.out b o e2; have h2 := (HLOW.out b h1).1; exact h2 (by rw [e3]; exact e))
            have hofg := RtOff.app HOFG.out hkp G_x3.out.lt (y := ⟨y.d, a, c⟩) (fun b o e e2 => by have h1 := HNA.out b o e; have := HGO.out; omega)
            have hofz := RtOff.app HOFZ.out hkp Z_x3.out.lt (y := ⟨y.d, a, c⟩) (fun b o e e2 => by have h1 := HNA.out b o e; have := HGO.out; omega)
            have hG : BK 25 x4 g9 [.slice Ae l.length ce, .slice Av ys.length cv] := (hkp.keep _ G_x3.out.lt HOFG.out.b).trans G_x3.out
            have hZ : BK 25 x4 (w.heap.size + 2) [.slice none 0 0, .slice none 0 0] := (hkp.keep _ Z_x3.out.lt HOFZ.out.b).trans Z_x3.out
            have hX : BK 35 x4 (w.heap.size + 1) (gB y) := (hkp.keep _ X_x3.out.lt HOFX.out).trans X_x3.out
            have hB : Below w.heap.size w x4 := hbel _ _ B_x3.out (Nat.le_refl _)
            obtain ⟨A9, c9, hv9, _⟩ := OwnG.ret gB_len hl.1
            obtain ⟨n9, hn9⟩ : ∃ n, (ys ++ [(⟨y.d, a, c⟩ : BE)]).length = n := ⟨_, rfl⟩
            rw [hn9] at hv9
            subst hv9
            have R_x4 := Lib.hid hrt
            have G_x4 := Lib.hid hG
            have Z_x4 := Lib.hid hZ
            have X_x4 := Lib.hid hX
            have B_x4 := Lib.hid hB
            have HOFG9 := Lib.hid hofg
            have HOFZ9 := Lib.hid hofz
            clear hl hkp hbel hHeld hn9 hrt hofg hofz hG hZ hX hB B_x3 R_x3 G_x3 Z_x3 X_x3 Y_x3 P_x3 Q_x3
            refine hK.out _ _ X_x4.out (fun hHeld => ?_)
            clear hK K
            try simp only [Act.put, List.setIfInBounds_toArray, List.set_cons_zero, List.set_cons_succ]
            refine wpAnyH_take (i := 6) (v := .pointer (some ⟨g9, 1, none⟩)) (get_ops _ _ _ rfl) (by kernel_rfl) (by kernel_rfl) (by kernel_rfl) (fun _ _ _ h => h) (Or.inl ⟨by rfl, fun wS hSw => by (try dsimp only at hSw); go_simp⟩) hHeld ?_
            try simp only [Act.put, List.setIfInBounds_toArray, List.set_cons_zero, List.set_cons_succ]
            refine wpAnyH_ready (rs := [7]) (by kernel_rfl) (by simp) ?_
            refine (AllReadyH.cons (get_ops _ _ _ rfl) (fun K hK => ?_) AllReadyH.nil)
            have g1 := G_x4.out.cell 1 rfl
            have f1 := G_x4.out.free 1
            go_simp
            refine name_world (C := fun w9 => K _ w9) (x4.setCell ⟨g9, 1, none⟩ (.slice A9 n9 c9)) ?_
            intro x5 hx5
            have R_x5 : Hid (RtN w.heap.size x5 (.slice Ae l.length ce) l (.slice A9 n9 c9) (ys ++ [(⟨y.d, a, c⟩ : BE)])) := Lib.hid (by rw [hx5]; exact RtN.set R_x4.out HOFG9.out 1 _)
            have G_x5 : Hid (BK 25 x5 g9 [.slice Ae l.length ce, .slice A9 n9 c9]) := Lib.hid (by rw [hx5]; exact G_x4.out.set 1 _)
            have Z_x5 : Hid (BK 25 x5 (w.heap.size + 2) [.slice none 0 0, .slice none 0 0]) := Lib.hid (by rw [hx5]; exact Z_x4.out.other (by show w.heap.size + 2 ≠ g9; have := HGZ.out; omega) _)
            have X_x5 : Hid (BK 35 x5 (w.heap.size + 1) (gB y)) := Lib.hid (by rw [hx5]; exact X_x4.out.other (by show w.heap.size + 1 ≠ g9; have := HGZ.out; omega) _)
            have B_x5 : Hid (Below w.heap.size w x5) := Lib.hid (by rw [hx5]; exact B_x4.out.setCell (p := ⟨g9, 1, none⟩) (by show w.heap.size ≤ g9; have := HGZ.out; omega) _)
            clear g1 f1 hHeld hx5 B_x4 R_x4 G_x4 Z_x4 X_x4
            refine hK.out _ _ X_x5.out (fun hHeld => ?_)
            clear hK K
            try simp only [Act.put, List.setIfInBounds_toArray, List.set_cons_zero, List.set_cons_succ]
            refine wpAnyH_done (by kernel_rfl) ?_ _
            have HLG := Lib.hid (S2.run_load_all G_x5.out Tryz.underlying25 rfl rtSize)
            have HZL := Lib.hid Z_x5.out
            go_wp2_with first
              | (refine wpList_load_v (by rfl) 25 (.tmp 7) rfl ⟨g9, 0, none⟩ rfl (.agg #[.slice Ae l.length ce, .slice A9 n9 c9]) HLG.out ?_)
              | (refine S2.wpList_store_all (by rfl) 25 (.tmp 4) (.tmp 39) rfl rfl (w.heap.size + 2) rfl [.slice Ae l.length ce, .slice A9 n9 c9] rfl 25 [.slice none 0 0, .slice none 0 0] HZL.out rtSize rfl (ones rfl) ?_; intro wz hM hP; have M9 := Lib.hid hM; have P9 := Lib.hid hP; clear hM hP)
            refine bodyPost_ret (v := .tuple #[.agg #[.slice Ae l.length ce, .slice A9 n9 c9], .int .i64 0]) (S2.res_cell_tmp rfl _ _ (w.heap.size + 2) 25 [.slice Ae l.length ce, .slice A9 n9 c9] _ _ rfl rfl M9.out Tryz.underlying25 rfl rtSize) rfl ?_
            unfold RetBi
            rw [bindR_new HER.out HFN.out H256.out]
            exact ⟨_, _, ys ++ [(⟨y.d, a, c⟩ : BE)], rfl, map_app1 HYS.out, by rw [if_pos rfl]; exact RtN.weak (RtN.put R_x5.out HOFZ9.out P9.out) (by omega), P9.out.below B_x5.out (by omega)⟩
          · go_simp
            obtain ⟨bq, hbq⟩ : ∃ n, n = x2.heap.size := ⟨_, rfl⟩
            refine name_world (C := fun w9 => K _ w9) (x2.alloc (.cells (gB ⟨y.d, a, c⟩).toArray 35)) ?_
            intro x3 hx3
            have hb : Below x2.heap.size x2 x3 := by rw [hx3]; exact S2.below_new _ _
            have hN : BK 35 x3 bq (gB ⟨y.d, a, c⟩) := by rw [hx3, hbq]; exact BK.new _ _ _
            have B_x3 : Hid (Below w.heap.size w x3) := Lib.hid (stepB B_x2.out hb)
            have R_x3 : Hid (RtN w.heap.size x3 (.slice Ae l.length ce) l (.slice Av ys.length cv) ys) := Lib.hid (RtN.step R_x2.out hb)
            have G_x3 : Hid (BK 25 x3 g9 [.slice Ae l.length ce, .slice Av ys.length cv]) := Lib.hid (G_x2.out.step hb)
            have Z_x3 : Hid (BK 25 x3 (w.heap.size + 2) [.slice none 0 0, .slice none 0 0]) := Lib.hid (Z_x2.out.step hb)
            have X_x3 : Hid (BK 35 x3 (w.heap.size + 1) (gB y)) := Lib.hid (X_x2.out.step hb)
            have Y_x3 : Hid (BIn x3 y) := Lib.hid (Y_x2.out.step hb)
            have P_x3 : Hid (PL x3 x3.heap.size a y.d.ml) := Lib.hid (GL.step P_x2.out hb)
            clear B_x2 R_x2 G_x2 Z_x2 X_x2 Y_x2 P_x2
            have Q_x3 := Lib.hid hN
            try rw [← hbq]
            clear hHeld hb hN hx3 hbq
            refine hK.out _ _ X_x3.out (fun hHeld => ?_)
            clear hK K
            try simp only [Act.put, List.setIfInBounds_toArray, List.set_cons_zero, List.set_cons_succ]
            refine wpAnyH_ready (rs := [1]) (by kernel_rfl) (by simp) ?_
            refine (AllReadyH.cons (get_ops _ _ _ rfl) (fun K hK => ?_) AllReadyH.nil)
            have g1 := G_x3.out.cell 1 rfl
            go_simp
            clear g1 hHeld
            refine hK.out _ _ X_x3.out (fun hHeld => ?_)
            clear hK K
            try simp only [Act.put, List.setIfInBounds_toArray, List.set_cons_zero, List.set_cons_succ]
            refine wpAnyH_ready (rs := [5]) (by kernel_rfl) (by simp) ?_
            refine (AllReadyH.cons (get_ops _ _ _ rfl) (fun K hK => ?_) AllReadyH.nil)
            refine oper_lst (ad := BE.a) (ps := bps) gB_len gB_one (by decide) (.tmp 33) (.tmp 36) 23 rfl (.agg #[.string ByteArray.empty, .string ByteArray.empty, .string ByteArray.empty, .bool false, .slice none 0 0]) 80 Tryz.underlying23 bdInfo rfl (by decide) w.heap.size (.slice Av ys.length cv) ys ⟨y.d, a, c⟩ (by go_simp) R_x3.out.b bq (by go_simp) Q_x3.out P_x3.out (fun b o e => by have := HNA.out b o e; have := HGO.out; omega) (fun b o e _ => (HLOW.out b (HNA.out b o e)).2) B_x3.out.size (by have := HYL.out; omega) ?_
            intro v9 x4 hl hkp hbel
            have hrt := RtN.app R_x3.out hl hkp (fun k e b o e2 e3 => by have h1 := HNA.out b o e2; have h2 := (HLOW.out b h1).1; exact h2 (by rw [e3]; exact e))
            have hofg := RtOff.app HOFG.out hkp G_x3.out.lt (y := ⟨y.d, a, c⟩) (fun b o e e2 => by have h1 := HNA.out b o e; have := HGO.out; omega)
            have hofz := RtOff.app HOFZ.out hkp Z_x3.out.lt (y := ⟨y.d, a, c⟩) (fun b o e e2 => by have h1 := HNA.out b o e; have := HGO.out; omega)
            have hG : BK 25 x4 g9 [.slice Ae l.length ce, .slice Av ys.length cv] := (hkp.keep _ G_x3.out.lt HOFG.out.b).trans G_x3.out
            have hZ : BK 25 x4 (w.heap.size + 2) [.slice none 0 0, .slice none 0 0] := (hkp.keep _ Z_x3.out.lt HOFZ.out.b).trans Z_x3.out
            have hX : BK 35 x4 (w.heap.size + 1) (gB y) := (hkp.keep _ X_x3.out.lt HOFX.out).trans X_x3.out
            have hB : Below w.heap.size w x4 := hbel _ _ B_x3.out (Nat.le_refl _)
            obtain ⟨A9, c9, hv9, _⟩ := OwnG.ret gB_len hl.1
            obtain ⟨n9, hn9⟩ : ∃ n, (ys ++ [(⟨y.d, a, c⟩ : BE)]).length = n := ⟨_, rfl⟩
            rw [hn9] at hv9
            subst hv9
            have R_x4 := Lib.hid hrt
            have G_x4 := Lib.hid hG
            have Z_x4 := Lib.hid hZ
            have X_x4 := Lib.hid hX
            have B_x4 := Lib.hid hB
            have HOFG9 := Lib.hid hofg
            have HOFZ9 := Lib.hid hofz
            clear hl hkp hbel hHeld hn9 hrt hofg hofz hG hZ hX hB B_x3 R_x3 G_x3 Z_x3 X_x3 Y_x3 P_x3 Q_x3
            refine hK.out _ _ X_x4.out (fun hHeld => ?_)
            clear hK K
            try simp only [Act.put, List.setIfInBounds_toArray, List.set_cons_zero, List.set_cons_succ]
            refine wpAnyH_take (i := 6) (v := .pointer (some ⟨g9, 1, none⟩)) (get_ops _ _ _ rfl) (by kernel_rfl) (by kernel_rfl) (by kernel_rfl) (fun _ _ _ h => h) (Or.inl ⟨by rfl, fun wS hSw => by (try dsimp only at hSw); go_simp⟩) hHeld ?_
            try simp only [Act.put, List.setIfInBounds_toArray, List.set_cons_zero, List.set_cons_succ]
            refine wpAnyH_ready (rs := [7]) (by kernel_rfl) (by simp) ?_
            refine (AllReadyH.cons (get_ops _ _ _ rfl) (fun K hK => ?_) AllReadyH.nil)
            have g1 := G_x4.out.cell 1 rfl
            have f1 := G_x4.out.free 1
            go_simp
            refine name_world (C := fun w9 => K _ w9) (x4.setCell ⟨g9, 1, none⟩ (.slice A9 n9 c9)) ?_
            intro x5 hx5
            have R_x5 : Hid (RtN w.heap.size x5 (.slice Ae l.length ce) l (.slice A9 n9 c9) (ys ++ [(⟨y.d, a, c⟩ : BE)])) := Lib.hid (by rw [hx5]; exact RtN.set R_x4.out HOFG9.out 1 _)
            have G_x5 : Hid (BK 25 x5 g9 [.slice Ae l.length ce, .slice A9 n9 c9]) := Lib.hid (by rw [hx5]; exact G_x4.out.set 1 _)
            have Z_x5 : Hid (BK 25 x5 (w.heap.size + 2) [.slice none 0 0, .slice none 0 0]) := Lib.hid (by rw [hx5]; exact Z_x4.out.other (by show w.heap.size + 2 ≠ g9; have := HGZ.out; omega) _)
            have X_x5 : Hid (BK 35 x5 (w.heap.size + 1) (gB y)) := Lib.hid (by rw [hx5]; exact X_x4.out.other (by show w.heap.size + 1 ≠ g9; have := HGZ.out; omega) _)
            have B_x5 : Hid (Below w.heap.size w x5) := Lib.hid (by rw [hx5]; exact B_x4.out.setCell (p := ⟨g9, 1, none⟩) (by show w.heap.size ≤ g9; have := HGZ.out; omega) _)
            clear g1 f1 hHeld hx5 B_x4 R_x4 G_x4 Z_x4 X_x4
            refine hK.out _ _ X_x5.out (fun hHeld => ?_)
            clear hK K
            try simp only [Act.put, List.setIfInBounds_toArray, List.set_cons_zero, List.set_cons_succ]
            refine wpAnyH_done (by kernel_rfl) ?_ _
            have HLG := Lib.hid (S2.run_load_all G_x5.out Tryz.underlying25 rfl rtSize)
            have HZL := Lib.hid Z_x5.out
            go_wp2_with first
              | (refine wpList_load_v (by rfl) 25 (.tmp 7) rfl ⟨g9, 0, none⟩ rfl (.agg #[.slice Ae l.length ce, .slice A9 n9 c9]) HLG.out ?_)
              | (refine S2.wpList_store_all (by rfl) 25 (.tmp 4) (.tmp 39) rfl rfl (w.heap.size + 2) rfl [.slice Ae l.length ce, .slice A9 n9 c9] rfl 25 [.slice none 0 0, .slice none 0 0] HZL.out rtSize rfl (ones rfl) ?_; intro wz hM hP; have M9 := Lib.hid hM; have P9 := Lib.hid hP; clear hM hP)
            refine bodyPost_ret (v := .tuple #[.agg #[.slice Ae l.length ce, .slice A9 n9 c9], .int .i64 0]) (S2.res_cell_tmp rfl _ _ (w.heap.size + 2) 25 [.slice Ae l.length ce, .slice A9 n9 c9] _ _ rfl rfl M9.out Tryz.underlying25 rfl rtSize) rfl ?_
            unfold RetBi
            rw [bindR_new HER.out HFN.out H256.out]
            exact ⟨_, _, ys ++ [(⟨y.d, a, c⟩ : BE)], rfl, map_app1 HYS.out, by rw [if_pos rfl]; exact RtN.weak (RtN.put R_x5.out HOFZ9.out P9.out) (by omega), P9.out.below B_x5.out (by omega)⟩
  · have q1 : (er != 0) = true := bne_iff_ne.2 her
    have HNE := Lib.hid her
    clear her
    have HZL := Lib.hid Z_w2.out
    go_wp2_with first
      | (refine S2.wpList_store_all (by rfl) 25 (.tmp 4) (.tmp 14) rfl rfl (w.heap.size + 2) rfl [.slice none 0 0, .slice none 0 0] rfl 25 [.slice none 0 0, .slice none 0 0] HZL.out rtSize rfl (ones rfl) ?_; intro wz hM hP; have M9 := Lib.hid hM; have P9 := Lib.hid hP; clear hM hP)
    refine bodyPost_ret (v := .tuple #[.agg #[.slice none 0 0, .slice none 0 0], .int .i64 er]) (S2.res_cell_tmp rfl _ _ (w.heap.size + 2) 25 [.slice none 0 0, .slice none 0 0] _ _ rfl rfl M9.out Tryz.underlying25 rfl rtSize) rfl ?_
    unfold RetBi
    rw [bindR_err (by rw [HER.out]; exact HNE.out), HER.out]
    exact ⟨_, _, [], rfl, rfl, by (first | rw [if_neg (by first | decide | exact HNE.out)]); exact RtN.nil, P9.out.below B_w2.out (by omega)⟩
end Go.Proofs.YtjkhfifnfgchgabGreatDoor
