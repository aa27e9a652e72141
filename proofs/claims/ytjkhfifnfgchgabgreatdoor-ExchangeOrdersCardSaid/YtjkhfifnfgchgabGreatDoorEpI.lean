/-
  What copyRoutes of exchange and clone of brokerref24 answer: routes in memory of their own. Conditions: the lists read as data; few elements.
-/
import Derived.Test.YtjkhfifnfgchgabGreatDoorEpH
namespace Go.Proofs.YtjkhfifnfgchgabGreatDoor
open Go.RowKit
open S2 (BK Put get_ops)

theorem bdV_lit (d : Bd) (a : Option Addr) (c : Nat) : bdV ⟨d, a, c⟩ = .agg #[.string d.ex, .string d.qu, .string d.ky, .bool d.all, .slice a d.ml.length c] := rfl
theorem map_snoc {ys xs : List BE} {k : Nat} {x : BE} {a : Option Addr} {c : Nat} (h : ys.map BE.d = (xs.take k).map BE.d) (hx : xs[k]? = some x) : (ys ++ [(⟨x.d, a, c⟩ : BE)]).map BE.d = (xs.take (k + 1)).map BE.d := by
  rw [List.map_append, h, List.take_add_one, hx]
  simp

set_option maxRecDepth 20000 in
set_option maxHeartbeats 8000000 in
theorem copyRoutes_any (A1 : Option Addr) (c1 : Nat) (l : List Ex) (A2 : Option Addr) (c2 : Nat) (xs : List BE) (w : World) (h1 : EL w w.heap.size A1 l) (h2 : BI w w.heap.size A2 xs) (hf : Few xs) (hn1 : l.length ≤ 100000) (hn2 : xs.length ≤ 100000) :
    Calls Tryz.prog 36 #[rtV A1 l.length c1 A2 xs.length c2] w (RetRt l (xs.map BE.d) w) := by
  have HCE := Lib.hid (fun w1 h => cloneE_any A1 c1 l w1 h (by omega))
  have HCBX := Lib.hid (fun x w1 h => copyBinding_any x w1 h)
  have HL := Lib.hid h1
  have HX := Lib.hid h2
  have HF := Lib.hid hf
  have HN1 := Lib.hid hn1
  have HNX := Lib.hid hn2
  clear h1 h2 hf hn1 hn2
  unfold rtV
  go_enter Tryz.func36, Tryz.ntmps36
  go_upto_region 1 with fail
  refine name_world (C := fun w1 => Code.wp _ _ _ _ w1) ((w.alloc (.cells [.slice A1 l.length c1, .slice A2 xs.length c2].toArray 25)).alloc (.cells [.slice none 0 0, .slice none 0 0].toArray 25)) ?_
  intro w1 hw1
  obtain ⟨u1, u2, hs0, hB0⟩ := S2.two_laid hw1
  have T_w1 := Lib.hid u1
  have Z_w1 := Lib.hid u2
  have B_w1 := Lib.hid hB0
  have HZ1 := Lib.hid hs0
  clear hw1 u1 u2 hs0 hB0
  have t0 := T_w1.out.cell 0 rfl
  go_wp2_with fail
  refine (HCE.out _ (GL.step HL.out B_w1.out)).mono ?_
  rintro e w2 ⟨v1, rfl, hown, hb⟩
  have T_w2 := Lib.hid (T_w1.out.step hb)
  have Z_w2 := Lib.hid (Z_w1.out.step hb)
  have B_w2 := Lib.hid (stepB B_w1.out hb)
  have hown2 : OwnE w2 w.heap.size v1 l := OwnG.weak hown B_w1.out.size
  have HOWN := Lib.hid hown
  have HZZ := Lib.hid hb.size
  obtain ⟨Ae, ce, hv1, _⟩ := OwnG.ret gE_len hown2
  subst hv1
  have E_w2 := Lib.hid hown2
  clear hb hown hown2 t0 T_w1 Z_w1 HCE
  have HG3 : Hid (w.heap.size + 1 < w2.heap.size) := Lib.hid (by have := HZ1.out; have := HZZ.out; omega)
  have HEZ : Hid ((Value.slice Ae l.length ce).ownBlock ≠ some (w.heap.size + 1)) := Lib.hid (OwnG.off HOWN.out (by have := HZ1.out; omega))
  go_upto_region 2 with first
    | (refine S2.wpList_store_all (by rfl) 25 (.tmp 3) (.tmp 9) rfl rfl w2.heap.size rfl [.slice Ae l.length ce, .slice none 0 0] rfl 25 _ (BK.new w2 _ _) rtSize rfl (ones rfl) ?_; intro w3 hM hP; have hb := hP.below (S2.below_new w2 _) (Nat.le_refl _); have B_w3 := Lib.hid (stepB B_w2.out hb); have T_w3 := Lib.hid (T_w2.out.step hb); have Z_w3 := Lib.hid (Z_w2.out.step hb); have E_w3 := Lib.hid (OwnG.step E_w2.out hb); have G_w3 := Lib.hid hM; have HEG := Lib.hid (OwnG.high E_w2.out (Nat.le_refl _)); clear hM hP hb)
  obtain ⟨g3, hg3⟩ : ∃ g, g = w2.heap.size := ⟨_, rfl⟩
  rw [← hg3] at G_w3 HG3 HEG ⊢
  clear hg3 T_w2 Z_w2 B_w2 E_w2 HZZ HOWN
  obtain ⟨v1, hv1⟩ : ∃ v, v = Value.slice Ae l.length ce := ⟨_, rfl⟩
  rw [← hv1] at G_w3 HEG E_w3 HEZ ⊢
  have HV1 := Lib.hid hv1
  clear hv1
  have t1 := T_w3.out.cell 1 rfl
  obtain ⟨B2, hB2⟩ : ∃ B, B = w3.heap.size := ⟨_, rfl⟩
  have HB2G : Hid (g3 < B2) := Lib.hid (by rw [hB2]; exact G_w3.out.lt)
  have HEL : Hid (∀ k, v1.ownBlock = some k → k < B2) := Lib.hid (fun k e => by rw [hB2]; exact (own_lt E_w3.out k e).2)
  have W_w3 : Hid (B2 ≤ w3.heap.size) := Lib.hid (by rw [hB2]; exact Nat.le_refl _)
  clear hB2
  go_wp2_with fail
  go_loopg [13] xs.length (fun g v wr => ∃ (k : Nat) (ys : List BE) (Av : Option Addr) (nv cv : Nat), k + g = xs.length ∧ v = .int .i64 k ∧ ys.map BE.d = (xs.take k).map BE.d ∧ (∀ b, v1.ownBlock = some b → (Value.slice Av nv cv).ownBlock ≠ some b) ∧ OwnE wr w.heap.size v1 l ∧ LstB B2 wr (.slice Av nv cv) ys ∧ BK 25 wr g3 [v1, .slice Av nv cv] ∧ BK 25 wr (w.heap.size + 1) [.slice none 0 0, .slice none 0 0] ∧ BK 25 wr w.heap.size [.slice A1 l.length c1, .slice A2 xs.length c2] ∧ B2 ≤ wr.heap.size ∧ Below w.heap.size w wr)
  case atStart => exact ⟨0, [], none, 0, 0, by omega, rfl, rfl, fun b _ e => by simp [Value.ownBlock] at e, E_w3.out, Lst.nil, G_w3.out, Z_w3.out, T_w3.out, W_w3.out, B_w3.out⟩
  case round =>
    obtain ⟨k, ys, Av, nv, cv, hkg, rfl, hmp, hsep, he, hl, hg, hz, ht, hw0, hb0⟩ := hrel
    have HMP0 := Lib.hid hmp
    have HSEP := Lib.hid hsep
    have E_wr := Lib.hid he
    have L_wr := Lib.hid hl
    have G_wr := Lib.hid hg
    have Z_wr := Lib.hid hz
    have T_wr := Lib.hid ht
    have W_wr := Lib.hid hw0
    have B_wr := Lib.hid hb0
    have HG := Lib.hid hkg
    clear hmp hsep he hl hg hz ht hb0 hw0 W_w3 t1 E_w3 G_w3 Z_w3 T_w3 B_w3
    cases gk with
    | zero =>
      obtain rfl : k = xs.length := by omega
      clear hkg
      have HLG := Lib.hid (S2.run_load_all G_wr.out Tryz.underlying25 rfl rtSize)
      have HZL := Lib.hid Z_wr.out
      obtain ⟨Ax, cx, hvx, _⟩ := OwnG.ret gE_len E_wr.out
      have HVX := Lib.hid hvx
      clear hvx
      go_wp2_with first
        | (refine wpList_load_v (by rfl) 25 (.tmp 3) rfl ⟨g3, 0, none⟩ rfl (.agg #[v1, .slice Av nv cv]) HLG.out ?_)
        | (refine S2.wpList_store_all (by rfl) 25 (.tmp 2) (.tmp 25) rfl rfl (w.heap.size + 1) rfl [v1, .slice Av nv cv] rfl 25 [.slice none 0 0, .slice none 0 0] HZL.out rtSize rfl (by rw [HVX.out]; exact ones rfl) ?_; intro w4 hM hP; have M4 := Lib.hid hM; have P4 := Lib.hid hP; clear hM hP)
      refine bodyPost_ret (v := .agg #[v1, .slice Av nv cv]) (S2.res_cell rfl _ _ (w.heap.size + 1) 25 [v1, .slice Av nv cv] _ rfl M4.out Tryz.underlying25 rfl rtSize) rfl ⟨v1, .slice Av nv cv, ys, rfl, by rw [HMP0.out, List.take_length], ?_, P4.out.below B_wr.out (by omega)⟩
      have hoff : RtOff (w.heap.size + 1) v1 (.slice Av nv cv) ys := ⟨HEZ.out, L_wr.out.1.off (by have := HG3.out; have := HB2G.out; omega), fun y hy b o e hn => by have := (L_wr.out.2 y hy).2.2 b o e; have := HG3.out; have := HB2G.out; omega⟩
      exact RtN.put ⟨E_wr.out, LstB.weak L_wr.out (by have := HG3.out; have := HB2G.out; omega), fun k e => ⟨HSEP.out k e, fun y hy b o e2 hn e3 => by have h1 := (L_wr.out.2 y hy).2.2 b o e2; have h2 := HEL.out k e; omega⟩⟩ hoff P4.out
    | succ n =>
      have hlt : k < xs.length := by omega
      have e3 : decide ((k : Int) < (xs.length : Int)) = true := decide_eq_true (by omega)
      obtain ⟨x, hx⟩ : ∃ x, xs[k]? = some x := ⟨_, List.getElem?_eq_getElem hlt⟩
      have hsr := HX.out.step B_wr.out
      obtain ⟨b, o, hA, hbB, hcl, hpl⟩ := hsr.at_ hx
      have HLD := Lib.hid (load_bd hcl)
      have Y_wr := Lib.hid (BI.inn hsr HF.out (List.mem_of_getElem? hx))
      have HMP : Hid (∀ a c, (ys ++ [(⟨x.d, a, c⟩ : BE)]).map BE.d = (xs.take (k + 1)).map BE.d) := Lib.hid (fun a c => map_snoc HMP0.out hx)
      have HCB := Lib.hid (fun w1 h => HCBX.out x w1 h)
      have HYL : Hid (ys.length ≤ 100000) := Lib.hid (by have := congrArg List.length HMP0.out; rw [List.length_map, List.length_map, List.length_take] at this; have := HNX.out; omega)
      have HGWR : Hid (g3 < wr.heap.size) := Lib.hid G_wr.out.lt
      have HVO : Hid ((Value.slice Av nv cv).ownBlock ≠ some wr.heap.size) := Lib.hid (L_wr.out.1.high (Nat.le_refl _))
      subst hA
      have j1 : (0 : Int) ≤ (k : Int) := by omega
      have j2 : (k : Int) < (xs.length : Int) := by omega
      clear hx hkg hlt hbB hcl hpl hsr
      go_upto_region 5 with first
        | (refine wpList_load_v (by rfl) 35 (.tmp 15) rfl ⟨b, o + k * 5, none⟩ (by go_simp) _ HLD.out ?_)
        | (refine S2.wpList_store_all (by rfl) 35 (.tmp 5) (.tmp 16) rfl rfl wr.heap.size rfl (gB x) rfl 35 _ (BK.new wr _ _) bdSize rfl (gB_one _) ?_; intro w4 hM hP; have hb := hP.below (S2.below_new wr _) (Nat.le_refl _); have B_w4 := Lib.hid (stepB B_wr.out hb); have V_w4 := Lib.hid hM; have T_w4 := Lib.hid (T_wr.out.step hb); have Z_w4 := Lib.hid (Z_wr.out.step hb); have G_w4 := Lib.hid (G_wr.out.step hb); have E_w4 := Lib.hid (OwnG.step E_wr.out hb); have L_w4 := Lib.hid (Lst.step L_wr.out hb); have Y_w4 := Lib.hid (Y_wr.out.step hb); have W_w4 := Lib.hid (Nat.le_trans W_wr.out hb.size); clear hM hP hb)
      clear HLD W_wr B_wr T_wr Z_wr G_wr E_wr L_wr Y_wr HCBX
      obtain ⟨x1, hx1⟩ : ∃ x1, x1 = World.drew w4 := ⟨_, rfl⟩
      have hbD : Below w4.heap.size w4 x1 := by rw [hx1]; exact (Below.refl _ _).drew
      have B_x1 : Hid (Below w.heap.size w x1) := Lib.hid (stepB B_w4.out hbD)
      have E_x1 : Hid (OwnE x1 w.heap.size v1 l) := Lib.hid (OwnG.step E_w4.out hbD)
      have L_x1 : Hid (LstB B2 x1 (.slice Av nv cv) ys) := Lib.hid (Lst.step L_w4.out hbD)
      have G_x1 : Hid (BK 25 x1 g3 [v1, .slice Av nv cv]) := Lib.hid (G_w4.out.step hbD)
      have Z_x1 : Hid (BK 25 x1 (w.heap.size + 1) [.slice none 0 0, .slice none 0 0]) := Lib.hid (Z_w4.out.step hbD)
      have W_x1 : Hid (B2 ≤ x1.heap.size) := Lib.hid (Nat.le_trans W_w4.out hbD.size)
      have T_x1 : Hid (BK 25 x1 w.heap.size [.slice A1 l.length c1, .slice (some ⟨b, o, none⟩) xs.length c2]) := Lib.hid (T_w4.out.step hbD)
      have V_x1 : Hid (BK 35 x1 wr.heap.size (gB x)) := Lib.hid (V_w4.out.step hbD)
      have Y_x1 : Hid (BIn x1 x) := Lib.hid (Y_w4.out.step hbD)
      clear B_w4 E_w4 L_w4 G_w4 Z_w4 W_w4 T_w4 V_w4 Y_w4
      have hbd : (fun w' => BK 35 w' wr.heap.size (gB x)) (World.drew w4) := by rw [← hx1]; exact V_x1.out
      have hSD : (fun w' => BK 35 w' wr.heap.size (gB x)) x1 := V_x1.out
      have HWD := Lib.hid hx1
      clear hx1 hbD
      refine wp_region_held_drew (S := fun w' => BK 35 w' wr.heap.size (gB x)) (by kernel_rfl) hbd (fun hHeld => ?_)
      rw [← HWD.out]
      clear hHeld
      have hHeld := hSD
      clear hSD hbd HWD
      refine wpAnyH_take (i := 0) (v := .pointer (some ⟨g3, 1, none⟩)) (get_ops _ _ _ rfl) (by kernel_rfl) (by kernel_rfl) (by kernel_rfl) (fun _ _ _ h => h) (Or.inl ⟨by rfl, fun wS hSw => by (try dsimp only at hSw); go_simp⟩) hHeld ?_
      try simp only [Act.put, List.setIfInBounds_toArray, List.set_cons_zero, List.set_cons_succ]
      refine wpAnyH_take (i := 2) (v := bdV x) (get_ops _ _ _ rfl) (by kernel_rfl) (by kernel_rfl) (by kernel_rfl) (fun _ _ _ h => h) (Or.inl ⟨by rfl, fun wS hSw => by (try dsimp only at hSw); exact exec_load 35 _ rfl ⟨wr.heap.size, 0, none⟩ (by go_simp) _ (load_bd0 hSw)⟩) hHeld ?_
      try simp only [Act.put, List.setIfInBounds_toArray, List.set_cons_zero, List.set_cons_succ]
      refine wpAnyH_ready (rs := [1, 3]) (by kernel_rfl) (by simp) ?_
      refine (AllReadyH.cons (get_ops _ _ _ rfl) (fun K hK => ?_) (AllReadyH.cons (get_ops _ _ _ rfl) (fun K hK => ?_) AllReadyH.nil))
      · have g1 := G_x1.out.cell 1 rfl
        go_simp
        clear g1 hHeld
        refine hK.out _ _ V_x1.out (fun hHeld => ?_)
        clear hK K
        try simp only [Act.put, List.setIfInBounds_toArray, List.set_cons_zero, List.set_cons_succ]
        refine wpAnyH_ready (rs := [3]) (by kernel_rfl) (by simp) ?_
        refine (AllReadyH.cons (get_ops _ _ _ rfl) (fun K hK => ?_) AllReadyH.nil)
        have hlo : ∀ b, x1.heap.size ≤ b → (Value.slice Av nv cv).ownBlock ≠ some b := fun b hb => L_x1.out.1.high hb
        have HGW : Hid (B2 ≤ x1.heap.size) := Lib.hid W_x1.out
        go_simp
        refine (HCB.out x1 Y_x1.out).mono ?_
        rintro e x2 ⟨a, c, rfl, hp, hn, hb⟩
        have B_x2 : Hid (Below w.heap.size w x2) := Lib.hid (stepB B_x1.out hb)
        have E_x2 : Hid (OwnE x2 w.heap.size v1 l) := Lib.hid (OwnG.step E_x1.out hb)
        have L_x2 : Hid (LstB B2 x2 (.slice Av nv cv) ys) := Lib.hid (Lst.step L_x1.out hb)
        have G_x2 : Hid (BK 25 x2 g3 [v1, .slice Av nv cv]) := Lib.hid (G_x1.out.step hb)
        have Z_x2 : Hid (BK 25 x2 (w.heap.size + 1) [.slice none 0 0, .slice none 0 0]) := Lib.hid (Z_x1.out.step hb)
        have W_x2 : Hid (B2 ≤ x2.heap.size) := Lib.hid (Nat.le_trans W_x1.out hb.size)
        have T_x2 : Hid (BK 25 x2 w.heap.size [.slice A1 l.length c1, .slice (some ⟨b, o, none⟩) xs.length c2]) := Lib.hid (T_x1.out.step hb)
        have V_x2 : Hid (BK 35 x2 wr.heap.size (gB x)) := Lib.hid (V_x1.out.step hb)
        have Y_x2 : Hid (BIn x2 x) := Lib.hid (Y_x1.out.step hb)
        clear B_x1 E_x1 L_x1 G_x1 Z_x1 W_x1 T_x1 V_x1 Y_x1
        have P_x2 : Hid (PL x2 x2.heap.size a x.d.ml) := Lib.hid hp
        have HNA : Hid (NewL x1.heap.size a) := Lib.hid hn
        have HPO : Hid ((Value.slice Av nv cv).ownBlock ≠ some x2.heap.size ∧ ∀ b o, a = some ⟨b, o, none⟩ → (Value.slice Av nv cv).ownBlock ≠ some b) := Lib.hid ⟨L_x2.out.1.high (Nat.le_refl _), fun b o e => hlo b (hn b o e)⟩
        clear hHeld hb hp hn hlo
        simp only [bdV_lit]
        go_wp2_with fail
        refine hK.out _ _ V_x2.out (fun hHeld => ?_)
        clear hK K
        try simp only [Act.put, List.setIfInBounds_toArray, List.set_cons_zero, List.set_cons_succ]
        refine wpAnyH_ready (rs := [4]) (by kernel_rfl) (by simp) ?_
        refine (AllReadyH.cons (get_ops _ _ _ rfl) (fun K hK => ?_) AllReadyH.nil)
        go_simp
        obtain ⟨bq, hbq⟩ : ∃ n, n = x2.heap.size := ⟨_, rfl⟩
        refine name_world (C := fun w9 => K _ w9) (x2.alloc (.cells (gB ⟨x.d, a, c⟩).toArray 35)) ?_
        intro x3 hx3
        have hb : Below x2.heap.size x2 x3 := by rw [hx3]; exact S2.below_new _ _
        have hN : BK 35 x3 bq (gB ⟨x.d, a, c⟩) := by rw [hx3, hbq]; exact BK.new _ _ _
        have B_x3 : Hid (Below w.heap.size w x3) := Lib.hid (stepB B_x2.out hb)
        have E_x3 : Hid (OwnE x3 w.heap.size v1 l) := Lib.hid (OwnG.step E_x2.out hb)
        have L_x3 : Hid (LstB B2 x3 (.slice Av nv cv) ys) := Lib.hid (Lst.step L_x2.out hb)
        have G_x3 : Hid (BK 25 x3 g3 [v1, .slice Av nv cv]) := Lib.hid (G_x2.out.step hb)
        have Z_x3 : Hid (BK 25 x3 (w.heap.size + 1) [.slice none 0 0, .slice none 0 0]) := Lib.hid (Z_x2.out.step hb)
        have W_x3 : Hid (B2 ≤ x3.heap.size) := Lib.hid (Nat.le_trans W_x2.out hb.size)
        have T_x3 : Hid (BK 25 x3 w.heap.size [.slice A1 l.length c1, .slice (some ⟨b, o, none⟩) xs.length c2]) := Lib.hid (T_x2.out.step hb)
        have V_x3 : Hid (BK 35 x3 wr.heap.size (gB x)) := Lib.hid (V_x2.out.step hb)
        have Y_x3 : Hid (BIn x3 x) := Lib.hid (Y_x2.out.step hb)
        have P_x3 : Hid (PL x3 x3.heap.size a x.d.ml) := Lib.hid (GL.step P_x2.out hb)
        clear B_x2 E_x2 L_x2 G_x2 Z_x2 W_x2 T_x2 V_x2 Y_x2 P_x2
        have X_x3 := Lib.hid hN
        try rw [← hbq]
        clear hHeld hb hN hx3 hbq
        refine hK.out _ _ V_x3.out (fun hHeld => ?_)
        clear hK K
        try simp only [Act.put, List.setIfInBounds_toArray, List.set_cons_zero, List.set_cons_succ]
        refine wpAnyH_ready (rs := [5]) (by kernel_rfl) (by simp) ?_
        refine (AllReadyH.cons (get_ops _ _ _ rfl) (fun K hK => ?_) AllReadyH.nil)
        refine oper_lst (ad := BE.a) (ps := bps) gB_len gB_one (by decide) (.tmp 18) (.tmp 21) 23 rfl (.agg #[.string ByteArray.empty, .string ByteArray.empty, .string ByteArray.empty, .bool false, .slice none 0 0]) 80 Tryz.underlying23 bdInfo rfl (by decide) B2 (.slice Av nv cv) ys ⟨x.d, a, c⟩ (by go_simp) L_x3.out bq (by go_simp) X_x3.out P_x3.out (fun b o e => by have := HNA.out b o e; have := HGW.out; omega) (fun b o e _ => HPO.out.2 b o e) W_x3.out (by have := HYL.out; omega) ?_
        intro v9 x4 hl hkp hbel
        obtain ⟨A9, c9, hv9, _⟩ := OwnG.ret gB_len hl.1
        obtain ⟨n9, hn9⟩ : ∃ n, (ys ++ [(⟨x.d, a, c⟩ : BE)]).length = n := ⟨_, rfl⟩
        rw [hn9] at hv9
        subst hv9
        have L_x4 : Hid (LstB B2 x4 (.slice A9 n9 c9) (ys ++ [(⟨x.d, a, c⟩ : BE)])) := Lib.hid hl
        have B_x4 : Hid (Below w.heap.size w x4) := Lib.hid (hbel _ _ B_x3.out (by have := HG3.out; have := HB2G.out; omega))
        have E_x4 : Hid (OwnE x4 w.heap.size v1 l) := Lib.hid (E_x3.out.keepb (fun b e => hkp.keep b (own_lt E_x3.out b e).2 (HSEP.out b e)))
        have G_x4 : Hid (BK 25 x4 g3 [v1, .slice Av nv cv]) := Lib.hid ((hkp.keep g3 G_x3.out.lt (L_x3.out.1.off HB2G.out)).trans G_x3.out)
        have Z_x4 : Hid (BK 25 x4 (w.heap.size + 1) [.slice none 0 0, .slice none 0 0]) := Lib.hid ((hkp.keep _ Z_x3.out.lt (L_x3.out.1.off (by have := HG3.out; have := HB2G.out; omega))).trans Z_x3.out)
        have T_x4 : Hid (BK 25 x4 w.heap.size [.slice A1 l.length c1, .slice (some ⟨b, o, none⟩) xs.length c2]) := Lib.hid ((hkp.keep _ T_x3.out.lt (L_x3.out.1.off (by have := HG3.out; have := HB2G.out; omega))).trans T_x3.out)
        have V_x4 : Hid (BK 35 x4 wr.heap.size (gB x)) := Lib.hid ((hkp.keep _ V_x3.out.lt HVO.out).trans V_x3.out)
        have hsz := hkp.size
        have W_x4 : Hid (B2 ≤ x4.heap.size) := Lib.hid (Nat.le_trans W_x3.out hsz)
        have HS9 : Hid (∀ b, v1.ownBlock = some b → (Value.slice A9 n9 c9).ownBlock ≠ some b) := Lib.hid (fun b e e2 => by rcases hkp.own b e2 with h | h; exact HSEP.out b e h; have := (own_lt E_x3.out b e).2; omega)
        clear hl hkp hbel hsz hHeld hn9 B_x3 E_x3 L_x3 G_x3 Z_x3 W_x3 T_x3 V_x3 Y_x3 P_x3 X_x3
        refine hK.out _ _ V_x4.out (fun hHeld => ?_)
        clear hK K
        try simp only [Act.put, List.setIfInBounds_toArray, List.set_cons_zero, List.set_cons_succ]
        refine wpAnyH_take (i := 6) (v := .pointer (some ⟨g3, 1, none⟩)) (get_ops _ _ _ rfl) (by kernel_rfl) (by kernel_rfl) (by kernel_rfl) (fun _ _ _ h => h) (Or.inl ⟨by rfl, fun wS hSw => by (try dsimp only at hSw); go_simp⟩) hHeld ?_
        try simp only [Act.put, List.setIfInBounds_toArray, List.set_cons_zero, List.set_cons_succ]
        refine wpAnyH_ready (rs := [7]) (by kernel_rfl) (by simp) ?_
        refine (AllReadyH.cons (get_ops _ _ _ rfl) (fun K hK => ?_) AllReadyH.nil)
        have g1 := G_x4.out.cell 1 rfl
        have f1 := G_x4.out.free 1
        go_simp
        refine name_world (C := fun w9 => K _ w9) (x4.setCell ⟨g3, 1, none⟩ (.slice A9 n9 c9)) ?_
        intro x5 hx5
        have L_x5 : Hid (LstB B2 x5 (.slice A9 n9 c9) (ys ++ [(⟨x.d, a, c⟩ : BE)])) := Lib.hid (by rw [hx5]; exact Lst.set L_x4.out HB2G.out 1 _)
        have E_x5 : Hid (OwnE x5 w.heap.size v1 l) := Lib.hid (by rw [hx5]; exact OwnG.set E_x4.out HEG.out 1 _)
        have G_x5 : Hid (BK 25 x5 g3 [v1, .slice A9 n9 c9]) := Lib.hid (by rw [hx5]; exact G_x4.out.set 1 _)
        have Z_x5 : Hid (BK 25 x5 (w.heap.size + 1) [.slice none 0 0, .slice none 0 0]) := Lib.hid (by rw [hx5]; exact Z_x4.out.other (by show w.heap.size + 1 ≠ g3; have := HG3.out; omega) _)
        have T_x5 : Hid (BK 25 x5 w.heap.size [.slice A1 l.length c1, .slice (some ⟨b, o, none⟩) xs.length c2]) := Lib.hid (by rw [hx5]; exact T_x4.out.other (by show w.heap.size ≠ g3; have := HG3.out; omega) _)
        have V_x5 : Hid (BK 35 x5 wr.heap.size (gB x)) := Lib.hid (by rw [hx5]; exact V_x4.out.other (by show wr.heap.size ≠ g3; have := HGWR.out; omega) _)
        have W_x5 : Hid (B2 ≤ x5.heap.size) := Lib.hid (by rw [hx5]; simpa using W_x4.out)
        have B_x5 : Hid (Below w.heap.size w x5) := Lib.hid (by rw [hx5]; exact B_x4.out.setCell (p := ⟨g3, 1, none⟩) (by show w.heap.size ≤ g3; have := HG3.out; omega) _)
        clear g1 f1 hHeld hx5 B_x4 E_x4 L_x4 G_x4 Z_x4 W_x4 T_x4 V_x4
        refine hK.out _ _ V_x5.out (fun hHeld => ?_)
        clear hK K
        try simp only [Act.put, List.setIfInBounds_toArray, List.set_cons_zero, List.set_cons_succ]
        refine wpAnyH_done (by kernel_rfl) ?_ _
        go_wp2_with fail
        go_roundg n
        case measure => omega
        case rel => exact ⟨k + 1, ys ++ [(⟨x.d, a, c⟩ : BE)], A9, n9, c9, by have := HG.out; omega, nxt k (by have := HNX.out; have := HG.out; omega), HMP.out a c, HS9.out, E_x5.out, L_x5.out, G_x5.out, Z_x5.out, T_x5.out, W_x5.out, B_x5.out⟩
      · have hlo : ∀ b, x1.heap.size ≤ b → (Value.slice Av nv cv).ownBlock ≠ some b := fun b hb => L_x1.out.1.high hb
        have HGW : Hid (B2 ≤ x1.heap.size) := Lib.hid W_x1.out
        go_simp
        refine (HCB.out x1 Y_x1.out).mono ?_
        rintro e x2 ⟨a, c, rfl, hp, hn, hb⟩
        have B_x2 : Hid (Below w.heap.size w x2) := Lib.hid (stepB B_x1.out hb)
        have E_x2 : Hid (OwnE x2 w.heap.size v1 l) := Lib.hid (OwnG.step E_x1.out hb)
        have L_x2 : Hid (LstB B2 x2 (.slice Av nv cv) ys) := Lib.hid (Lst.step L_x1.out hb)
        have G_x2 : Hid (BK 25 x2 g3 [v1, .slice Av nv cv]) := Lib.hid (G_x1.out.step hb)
        have Z_x2 : Hid (BK 25 x2 (w.heap.size + 1) [.slice none 0 0, .slice none 0 0]) := Lib.hid (Z_x1.out.step hb)
        have W_x2 : Hid (B2 ≤ x2.heap.size) := Lib.hid (Nat.le_trans W_x1.out hb.size)
        have T_x2 : Hid (BK 25 x2 w.heap.size [.slice A1 l.length c1, .slice (some ⟨b, o, none⟩) xs.length c2]) := Lib.hid (T_x1.out.step hb)
        have V_x2 : Hid (BK 35 x2 wr.heap.size (gB x)) := Lib.hid (V_x1.out.step hb)
        have Y_x2 : Hid (BIn x2 x) := Lib.hid (Y_x1.out.step hb)
        clear B_x1 E_x1 L_x1 G_x1 Z_x1 W_x1 T_x1 V_x1 Y_x1
        have P_x2 : Hid (PL x2 x2.heap.size a x.d.ml) := Lib.hid hp
        have HNA : Hid (NewL x1.heap.size a) := Lib.hid hn
        have HPO : Hid ((Value.slice Av nv cv).ownBlock ≠ some x2.heap.size ∧ ∀ b o, a = some ⟨b, o, none⟩ → (Value.slice Av nv cv).ownBlock ≠ some b) := Lib.hid ⟨L_x2.out.1.high (Nat.le_refl _), fun b o e => hlo b (hn b o e)⟩
        clear hHeld hb hp hn hlo
        simp only [bdV_lit]
        go_wp2_with fail
        refine hK.out _ _ V_x2.out (fun hHeld => ?_)
        clear hK K
        try simp only [Act.put, List.setIfInBounds_toArray, List.set_cons_zero, List.set_cons_succ]
        refine wpAnyH_ready (rs := [1, 4]) (by kernel_rfl) (by simp) ?_
        refine (AllReadyH.cons (get_ops _ _ _ rfl) (fun K hK => ?_) (AllReadyH.cons (get_ops _ _ _ rfl) (fun K hK => ?_) AllReadyH.nil))
        · have g1 := G_x2.out.cell 1 rfl
          go_simp
          clear g1 hHeld
          refine hK.out _ _ V_x2.out (fun hHeld => ?_)
          clear hK K
          try simp only [Act.put, List.setIfInBounds_toArray, List.set_cons_zero, List.set_cons_succ]
          refine wpAnyH_ready (rs := [4]) (by kernel_rfl) (by simp) ?_
          refine (AllReadyH.cons (get_ops _ _ _ rfl) (fun K hK => ?_) AllReadyH.nil)
          go_simp
          obtain ⟨bq, hbq⟩ : ∃ n, n = x2.heap.size := ⟨_, rfl⟩
          refine name_world (C := fun w9 => K _ w9) (x2.alloc (.cells (gB ⟨x.d, a, c⟩).toArray 35)) ?_
          intro x3 hx3
          have hb : Below x2.heap.size x2 x3 := by rw [hx3]; exact S2.below_new _ _
          have hN : BK 35 x3 bq (gB ⟨x.d, a, c⟩) := by rw [hx3, hbq]; exact BK.new _ _ _
          have B_x3 : Hid (Below w.heap.size w x3) := Lib.hid (stepB B_x2.out hb)
          have E_x3 : Hid (OwnE x3 w.heap.size v1 l) := Lib.hid (OwnG.step E_x2.out hb)
          have L_x3 : Hid (LstB B2 x3 (.slice Av nv cv) ys) := Lib.hid (Lst.step L_x2.out hb)
          have G_x3 : Hid (BK 25 x3 g3 [v1, .slice Av nv cv]) := Lib.hid (G_x2.out.step hb)
          have Z_x3 : Hid (BK 25 x3 (w.heap.size + 1) [.slice none 0 0, .slice none 0 0]) := Lib.hid (Z_x2.out.step hb)
          have W_x3 : Hid (B2 ≤ x3.heap.size) := Lib.hid (Nat.le_trans W_x2.out hb.size)
          have T_x3 : Hid (BK 25 x3 w.heap.size [.slice A1 l.length c1, .slice (some ⟨b, o, none⟩) xs.length c2]) := Lib.hid (T_x2.out.step hb)
          have V_x3 : Hid (BK 35 x3 wr.heap.size (gB x)) := Lib.hid (V_x2.out.step hb)
          have Y_x3 : Hid (BIn x3 x) := Lib.hid (Y_x2.out.step hb)
          have P_x3 : Hid (PL x3 x3.heap.size a x.d.ml) := Lib.hid (GL.step P_x2.out hb)
          clear B_x2 E_x2 L_x2 G_x2 Z_x2 W_x2 T_x2 V_x2 Y_x2 P_x2
          have X_x3 := Lib.hid hN
          try rw [← hbq]
          clear hHeld hb hN hx3 hbq
          refine hK.out _ _ V_x3.out (fun hHeld => ?_)
          clear hK K
          try simp only [Act.put, List.setIfInBounds_toArray, List.set_cons_zero, List.set_cons_succ]
          refine wpAnyH_ready (rs := [5]) (by kernel_rfl) (by simp) ?_
          refine (AllReadyH.cons (get_ops _ _ _ rfl) (fun K hK => ?_) AllReadyH.nil)
          refine oper_lst (ad := BE.a) (ps := bps) gB_len gB_one (by decide) (.tmp 18) (.tmp 21) 23 rfl (.agg #[.string ByteArray.empty, .string ByteArray.empty, .string ByteArray.empty, .bool false, .slice none 0 0]) 80 Tryz.underlying23 bdInfo rfl (by decide) B2 (.slice Av nv cv) ys ⟨x.d, a, c⟩ (by go_simp) L_x3.out bq (by go_simp) X_x3.out P_x3.out (fun b o e => by have := HNA.out b o e; have := HGW.out; omega) (fun b o e _ => HPO.out.2 b o e) W_x3.out (by have := HYL.out; omega) ?_
          intro v9 x4 hl hkp hbel
          obtain ⟨A9, c9, hv9, _⟩ := OwnG.ret gB_len hl.1
          obtain ⟨n9, hn9⟩ : ∃ n, (ys ++ [(⟨x.d, a, c⟩ : BE)]).length = n := ⟨_, rfl⟩
          rw [hn9] at hv9
          subst hv9
          have L_x4 : Hid (LstB B2 x4 (.slice A9 n9 c9) (ys ++ [(⟨x.d, a, c⟩ : BE)])) := Lib.hid hl
          have B_x4 : Hid (Below w.heap.size w x4) := Lib.hid (hbel _ _ B_x3.out (by have := HG3.out; have := HB2G.out; omega))
          have E_x4 : Hid (OwnE x4 w.heap.size v1 l) := Lib.hid (E_x3.out.keepb (fun b e => hkp.keep b (own_lt E_x3.out b e).2 (HSEP.out b e)))
          have G_x4 : Hid (BK 25 x4 g3 [v1, .slice Av nv cv]) := Lib.hid ((hkp.keep g3 G_x3.out.lt (L_x3.out.1.off HB2G.out)).trans G_x3.out)
          have Z_x4 : Hid (BK 25 x4 (w.heap.size + 1) [.slice none 0 0, .slice none 0 0]) := Lib.hid ((hkp.keep _ Z_x3.out.lt (L_x3.out.1.off (by have := HG3.out; have := HB2G.out; omega))).trans Z_x3.out)
          have T_x4 : Hid (BK 25 x4 w.heap.size [.slice A1 l.length c1, .slice (some ⟨b, o, none⟩) xs.length c2]) := Lib.hid ((hkp.keep _ T_x3.out.lt (L_x3.out.1.off (by have := HG3.out; have := HB2G.out; omega))).trans T_x3.out)
          have V_x4 : Hid (BK 35 x4 wr.heap.size (gB x)) := Lib.hid ((hkp.keep _ V_x3.out.lt HVO.out).trans V_x3.out)
          have hsz := hkp.size
          have W_x4 : Hid (B2 ≤ x4.heap.size) := Lib.hid (Nat.le_trans W_x3.out hsz)
          have HS9 : Hid (∀ b, v1.ownBlock = some b → (Value.slice A9 n9 c9).ownBlock ≠ some b) := Lib.hid (fun b e e2 => by rcases hkp.own b e2 with h | h; exact HSEP.out b e h; have := (own_lt E_x3.out b e).2; omega)
          clear hl hkp hbel hsz hHeld hn9 B_x3 E_x3 L_x3 G_x3 Z_x3 W_x3 T_x3 V_x3 Y_x3 P_x3 X_x3
          refine hK.out _ _ V_x4.out (fun hHeld => ?_)
          clear hK K
          try simp only [Act.put, List.setIfInBounds_toArray, List.set_cons_zero, List.set_cons_succ]
          refine wpAnyH_take (i := 6) (v := .pointer (some ⟨g3, 1, none⟩)) (get_ops _ _ _ rfl) (by kernel_rfl) (by kernel_rfl) (by kernel_rfl) (fun _ _ _ h => h) (Or.inl ⟨by rfl, fun wS hSw => by (try dsimp only at hSw); go_simp⟩) hHeld ?_
          try simp only [Act.put, List.setIfInBounds_toArray, List.set_cons_zero, List.set_cons_succ]
          refine wpAnyH_ready (rs := [7]) (by kernel_rfl) (by simp) ?_
          refine (AllReadyH.cons (get_ops _ _ _ rfl) (fun K hK => ?_) AllReadyH.nil)
          have g1 := G_x4.out.cell 1 rfl
          have f1 := G_x4.out.free 1
          go_simp
          refine name_world (C := fun w9 => K _ w9) (x4.setCell ⟨g3, 1, none⟩ (.slice A9 n9 c9)) ?_
          intro x5 hx5
          have L_x5 : Hid (LstB B2 x5 (.slice A9 n9 c9) (ys ++ [(⟨x.d, a, c⟩ : BE)])) := Lib.hid (by rw [hx5]; exact Lst.set L_x4.out HB2G.out 1 _)
          have E_x5 : Hid (OwnE x5 w.heap.size v1 l) := Lib.hid (by rw [hx5]; exact OwnG.set E_x4.out HEG.out 1 _)
          have G_x5 : Hid (BK 25 x5 g3 [v1, .slice A9 n9 c9]) := Lib.hid (by rw [hx5]; exact G_x4.out.set 1 _)
          have Z_x5 : Hid (BK 25 x5 (w.heap.size + 1) [.slice none 0 0, .slice none 0 0]) := Lib.hid (by rw [hx5]; exact Z_x4.out.other (by show w.heap.size + 1 ≠ g3; have := HG3.out; omega) _)
          have T_x5 : Hid (BK 25 x5 w.heap.size [.slice A1 l.length c1, .slice (some ⟨b, o, none⟩) xs.length c2]) := Lib.hid (by rw [hx5]; exact T_x4.out.other (by show w.heap.size ≠ g3; have := HG3.out; omega) _)
          have V_x5 : Hid (BK 35 x5 wr.heap.size (gB x)) := Lib.hid (by rw [hx5]; exact V_x4.out.other (by show wr.heap.size ≠ g3; have := HGWR.out; omega) _)
          have W_x5 : Hid (B2 ≤ x5.heap.size) := Lib.hid (by rw [hx5]; simpa using W_x4.out)
          have B_x5 : Hid (Below w.heap.size w x5) := Lib.hid (by rw [hx5]; exact B_x4.out.setCell (p := ⟨g3, 1, none⟩) (by show w.heap.size ≤ g3; have := HG3.out; omega) _)
          clear g1 f1 hHeld hx5 B_x4 E_x4 L_x4 G_x4 Z_x4 W_x4 T_x4 V_x4
          refine hK.out _ _ V_x5.out (fun hHeld => ?_)
          clear hK K
          try simp only [Act.put, List.setIfInBounds_toArray, List.set_cons_zero, List.set_cons_succ]
          refine wpAnyH_done (by kernel_rfl) ?_ _
          go_wp2_with fail
          go_roundg n
          case measure => omega
          case rel => exact ⟨k + 1, ys ++ [(⟨x.d, a, c⟩ : BE)], A9, n9, c9, by have := HG.out; omega, nxt k (by have := HNX.out; have := HG.out; omega), HMP.out a c, HS9.out, E_x5.out, L_x5.out, G_x5.out, Z_x5.out, T_x5.out, W_x5.out, B_x5.out⟩
        · go_simp
          obtain ⟨bq, hbq⟩ : ∃ n, n = x2.heap.size := ⟨_, rfl⟩
          refine name_world (C := fun w9 => K _ w9) (x2.alloc (.cells (gB ⟨x.d, a, c⟩).toArray 35)) ?_
          intro x3 hx3
          have hb : Below x2.heap.size x2 x3 := by rw [hx3]; exact S2.below_new _ _
          have hN : BK 35 x3 bq (gB ⟨x.d, a, c⟩) := by rw [hx3, hbq]; exact BK.new _ _ _
          have B_x3 : Hid (Below w.heap.size w x3) := Lib.hid (stepB B_x2.out hb)
          have E_x3 : Hid (OwnE x3 w.heap.size v1 l) := Lib.hid (OwnG.step E_x2.out hb)
          have L_x3 : Hid (LstB B2 x3 (.slice Av nv cv) ys) := Lib.hid (Lst.step L_x2.out hb)
          have G_x3 : Hid (BK 25 x3 g3 [v1, .slice Av nv cv]) := Lib.hid (G_x2.out.step hb)
          have Z_x3 : Hid (BK 25 x3 (w.heap.size + 1) [.slice none 0 0, .slice none 0 0]) := Lib.hid (Z_x2.out.step hb)
          have W_x3 : Hid (B2 ≤ x3.heap.size) := Lib.hid (Nat.le_trans W_x2.out hb.size)
          have T_x3 : Hid (BK 25 x3 w.heap.size [.slice A1 l.length c1, .slice (some ⟨b, o, none⟩) xs.length c2]) := Lib.hid (T_x2.out.step hb)
          have V_x3 : Hid (BK 35 x3 wr.heap.size (gB x)) := Lib.hid (V_x2.out.step hb)
          have Y_x3 : Hid (BIn x3 x) := Lib.hid (Y_x2.out.step hb)
          have P_x3 : Hid (PL x3 x3.heap.size a x.d.ml) := Lib.hid (GL.step P_x2.out hb)
          clear B_x2 E_x2 L_x2 G_x2 Z_x2 W_x2 T_x2 V_x2 Y_x2 P_x2
          have X_x3 := Lib.hid hN
          try rw [← hbq]
          clear hHeld hb hN hx3 hbq
          refine hK.out _ _ V_x3.out (fun hHeld => ?_)
          clear hK K
          try simp only [Act.put, List.setIfInBounds_toArray, List.set_cons_zero, List.set_cons_succ]
          refine wpAnyH_ready (rs := [1]) (by kernel_rfl) (by simp) ?_
          refine (AllReadyH.cons (get_ops _ _ _ rfl) (fun K hK => ?_) AllReadyH.nil)
          have g1 := G_x3.out.cell 1 rfl
          go_simp
          clear g1 hHeld
          refine hK.out _ _ V_x3.out (fun hHeld => ?_)
          clear hK K
          try simp only [Act.put, List.setIfInBounds_toArray, List.set_cons_zero, List.set_cons_succ]
          refine wpAnyH_ready (rs := [5]) (by kernel_rfl) (by simp) ?_
          refine (AllReadyH.cons (get_ops _ _ _ rfl) (fun K hK => ?_) AllReadyH.nil)
          refine oper_lst (ad := BE.a) (ps := bps) gB_len gB_one (by decide) (.tmp 18) (.tmp 21) 23 rfl (.agg #[.string ByteArray.empty, .string ByteArray.empty, .string ByteArray.empty, .bool false, .slice none 0 0]) 80 Tryz.underlying23 bdInfo rfl (by decide) B2 (.slice Av nv cv) ys ⟨x.d, a, c⟩ (by go_simp) L_x3.out bq (by go_simp) X_x3.out P_x3.out (fun b o e => by have := HNA.out b o e; have := HGW.out; omega) (fun b o e _ => HPO.out.2 b o e) W_x3.out (by have := HYL.out; omega) ?_
          intro v9 x4 hl hkp hbel
          obtain ⟨A9, c9, hv9, _⟩ := OwnG.ret gB_len hl.1
          obtain ⟨n9, hn9⟩ : ∃ n, (ys ++ [(⟨x.d, a, c⟩ : BE)]).length = n := ⟨_, rfl⟩
          rw [hn9] at hv9
          subst hv9
          have L_x4 : Hid (LstB B2 x4 (.slice A9 n9 c9) (ys ++ [(⟨x.d, a, c⟩ : BE)])) := Lib.hid hl
          have B_x4 : Hid (Below w.heap.size w x4) := Lib.hid (hbel _ _ B_x3.out (by have := HG3.out; have := HB2G.out; omega))
          have E_x4 : Hid (OwnE x4 w.heap.size v1 l) := Lib.hid (E_x3.out.keepb (fun b e => hkp.keep b (own_lt E_x3.out b e).2 (HSEP.out b e)))
          have G_x4 : Hid (BK 25 x4 g3 [v1, .slice Av nv cv]) := Lib.hid ((hkp.keep g3 G_x3.out.lt (L_x3.out.1.off HB2G.out)).trans G_x3.out)
          have Z_x4 : Hid (BK 25 x4 (w.heap.size + 1) [.slice none 0 0, .slice none 0 0]) := Lib.hid ((hkp.keep _ Z_x3.out.lt (L_x3.out.1.off (by have := HG3.out; have := HB2G.out; omega))).trans Z_x3.out)
          have T_x4 : Hid (BK 25 x4 w.heap.size [.slice A1 l.length c1, .slice (some ⟨b, o, none⟩) xs.length c2]) := Lib.hid ((hkp.keep _ T_x3.out.lt (L_x3.out.1.off (by have := HG3.out; have := HB2G.out; omega))).trans T_x3.out)
          have V_x4 : Hid (BK 35 x4 wr.heap.size (gB x)) := Lib.hid ((hkp.keep _ V_x3.out.lt HVO.out).trans V_x3.out)
          have hsz := hkp.size
          have W_x4 : Hid (B2 ≤ x4.heap.size) := Lib.hid (Nat.le_trans W_x3.out hsz)
          have HS9 : Hid (∀ b, v1.ownBlock = some b → (Value.slice A9 n9 c9).ownBlock ≠ some b) := Lib.hid (fun b e e2 => by rcases hkp.own b e2 with h | h; exact HSEP.out b e h; have := (own_lt E_x3.out b e).2; omega)
          clear hl hkp hbel hsz hHeld hn9 B_x3 E_x3 L_x3 G_x3 Z_x3 W_x3 T_x3 V_x3 Y_x3 P_x3 X_x3
          refine hK.out _ _ V_x4.out (fun hHeld => ?_)
          clear hK K
          try simp only [Act.put, List.setIfInBounds_toArray, List.set_cons_zero, List.set_cons_succ]
          refine wpAnyH_take (i := 6) (v := .pointer (some ⟨g3, 1, none⟩)) (get_ops _ _ _ rfl) (by kernel_rfl) (by kernel_rfl) (by kernel_rfl) (fun _ _ _ h => h) (Or.inl ⟨by rfl, fun wS hSw => by (try dsimp only at hSw); go_simp⟩) hHeld ?_
          try simp only [Act.put, List.setIfInBounds_toArray, List.set_cons_zero, List.set_cons_succ]
          refine wpAnyH_ready (rs := [7]) (by kernel_rfl) (by simp) ?_
          refine (AllReadyH.cons (get_ops _ _ _ rfl) (fun K hK => ?_) AllReadyH.nil)
          have g1 := G_x4.out.cell 1 rfl
          have f1 := G_x4.out.free 1
          go_simp
          refine name_world (C := fun w9 => K _ w9) (x4.setCell ⟨g3, 1, none⟩ (.slice A9 n9 c9)) ?_
          intro x5 hx5
          have L_x5 : Hid (LstB B2 x5 (.slice A9 n9 c9) (ys ++ [(⟨x.d, a, c⟩ : BE)])) := Lib.hid (by rw [hx5]; exact Lst.set L_x4.out HB2G.out 1 _)
          have E_x5 : Hid (OwnE x5 w.heap.size v1 l) := Lib.hid (by rw [hx5]; exact OwnG.set E_x4.out HEG.out 1 _)
          have G_x5 : Hid (BK 25 x5 g3 [v1, .slice A9 n9 c9]) := Lib.hid (by rw [hx5]; exact G_x4.out.set 1 _)
          have Z_x5 : Hid (BK 25 x5 (w.heap.size + 1) [.slice none 0 0, .slice none 0 0]) := Lib.hid (by rw [hx5]; exact Z_x4.out.other (by show w.heap.size + 1 ≠ g3; have := HG3.out; omega) _)
          have T_x5 : Hid (BK 25 x5 w.heap.size [.slice A1 l.length c1, .slice (some ⟨b, o, none⟩) xs.length c2]) := Lib.hid (by rw [hx5]; exact T_x4.out.other (by show w.heap.size ≠ g3; have := HG3.out; omega) _)
          have V_x5 : Hid (BK 35 x5 wr.heap.size (gB x)) := Lib.hid (by rw [hx5]; exact V_x4.out.other (by show wr.heap.size ≠ g3; have := HGWR.out; omega) _)
          have W_x5 : Hid (B2 ≤ x5.heap.size) := Lib.hid (by rw [hx5]; simpa using W_x4.out)
          have B_x5 : Hid (Below w.heap.size w x5) := Lib.hid (by rw [hx5]; exact B_x4.out.setCell (p := ⟨g3, 1, none⟩) (by show w.heap.size ≤ g3; have := HG3.out; omega) _)
          clear g1 f1 hHeld hx5 B_x4 E_x4 L_x4 G_x4 Z_x4 W_x4 T_x4 V_x4
          refine hK.out _ _ V_x5.out (fun hHeld => ?_)
          clear hK K
          try simp only [Act.put, List.setIfInBounds_toArray, List.set_cons_zero, List.set_cons_succ]
          refine wpAnyH_done (by kernel_rfl) ?_ _
          go_wp2_with fail
          go_roundg n
          case measure => omega
          case rel => exact ⟨k + 1, ys ++ [(⟨x.d, a, c⟩ : BE)], A9, n9, c9, by have := HG.out; omega, nxt k (by have := HNX.out; have := HG.out; omega), HMP.out a c, HS9.out, E_x5.out, L_x5.out, G_x5.out, Z_x5.out, T_x5.out, W_x5.out, B_x5.out⟩

set_option maxRecDepth 20000 in
set_option maxHeartbeats 8000000 in
theorem rclone24_any (A1 : Option Addr) (c1 : Nat) (l : List Ex) (A2 : Option Addr) (c2 : Nat) (xs : List BE) (w : World) (h1 : EL w w.heap.size A1 l) (h2 : BI w w.heap.size A2 xs) (hf : Few xs) (hn1 : l.length ≤ 100000) (hn2 : xs.length ≤ 100000) :
    Calls Tryz.prog 38 #[rtV A1 l.length c1 A2 xs.length c2] w (RetRt l (xs.map BE.d) w) := by
  have HCE := Lib.hid (fun w1 h => cloneE_any A1 c1 l w1 h (by omega))
  have HCBX := Lib.hid (fun x w1 h => rClone_any x w1 h)
  have HL := Lib.hid h1
  have HX := Lib.hid h2
  have HF := Lib.hid hf
  have HN1 := Lib.hid hn1
  have HNX := Lib.hid hn2
  clear h1 h2 hf hn1 hn2
  unfold rtV
  go_enter Tryz.func38, Tryz.ntmps38
  go_upto_region 1 with fail
  refine name_world (C := fun w1 => Code.wp _ _ _ _ w1) ((w.alloc (.cells [.slice A1 l.length c1, .slice A2 xs.length c2].toArray 25)).alloc (.cells [.slice none 0 0, .slice none 0 0].toArray 25)) ?_
  intro w1 hw1
  obtain ⟨u1, u2, hs0, hB0⟩ := S2.two_laid hw1
  have T_w1 := Lib.hid u1
  have Z_w1 := Lib.hid u2
  have B_w1 := Lib.hid hB0
  have HZ1 := Lib.hid hs0
  clear hw1 u1 u2 hs0 hB0
  go_upto_region 2 with fail
  refine name_world (C := fun w1 => Code.wp _ _ _ _ w1) (w1.alloc (.cells [.slice none 0 0, .slice none 0 0].toArray 25)) ?_
  intro w2 hw2
  have hb : Below w1.heap.size w1 w2 := by rw [hw2]; exact S2.below_new w1 _
  have T_w2 := Lib.hid (T_w1.out.step hb)
  have Z_w2 := Lib.hid (Z_w1.out.step hb)
  have B_w2 := Lib.hid (stepB B_w1.out hb)
  have G_w2 : Hid (BK 25 w2 w1.heap.size [.slice none 0 0, .slice none 0 0]) := Lib.hid (by rw [hw2]; exact BK.new w1 _ _)
  have L_w2 := Lib.hid (GL.step HL.out B_w2.out)
  have HG3 : Hid (w.heap.size + 1 < w1.heap.size) := Lib.hid (by have := HZ1.out; omega)
  have HSZ2 : Hid (w2.heap.size = w1.heap.size + 1) := Lib.hid (by rw [hw2]; simp)
  obtain ⟨g3, hg3⟩ : ∃ g, g = w1.heap.size := ⟨_, rfl⟩
  rw [← hg3] at G_w2 HG3 HSZ2
  try rw [← hg3]
  clear hw2 hb T_w1 Z_w1 hg3
  have t0 := T_w2.out.cell 0 rfl
  have g0 := G_w2.out.cell 0 rfl
  have f0 := G_w2.out.free 0
  have hlt := G_w2.out.lt
  go_upto_region 3 with first
    | (at_builtin; go_must (refine wpList_plain rfl (fun K hK => ?_)); refine oper_appG (g := gE) (k := 3) (e := 32) (by decide) _ _ 22 22 rfl (.agg #[.string ByteArray.empty, .int .i64 0, .string ByteArray.empty]) 40 Tryz.underlying22 exInfo rfl (by decide) w2.heap.size (.slice none 0 0) [] l _ rfl (OwnG.nil _ _) rfl (GL.src gE_len gE_one L_w2.out Tryz.underlying22 c1) (Nat.le_refl _) (by have := HN1.out; simp; omega) ?_; intro v9 wa hown' hgr hof; refine hK _ _ ?_; clear hK K; rw [List.nil_append] at hown'; have hk0 : ∀ k, k < w2.heap.size → wa.heap[k]? = w2.heap[k]? := (fun k hk => hgr.block k hk (by simp [Value.ownBlock])); have B_wa : Hid (Below w.heap.size w wa) := Lib.hid (Below.grow (B := w2.heap.size) B_w2.out (OwnG.nil (e := 32) (g := gE) (k := 3) _ _) hgr B_w2.out.size B_w2.out.size); have T_wa : Hid (BK 25 wa w.heap.size [.slice A1 l.length c1, .slice A2 xs.length c2]) := Lib.hid ((hk0 _ T_w2.out.lt).trans T_w2.out); have Z_wa : Hid (BK 25 wa (w.heap.size + 1) [.slice none 0 0, .slice none 0 0]) := Lib.hid ((hk0 _ Z_w2.out.lt).trans Z_w2.out); have G_wa : Hid (BK 25 wa g3 [.slice none 0 0, .slice none 0 0]) := Lib.hid ((hk0 _ G_w2.out.lt).trans G_w2.out); obtain ⟨Ae, ce, hv1, _⟩ := OwnG.ret gE_len hown'; subst hv1; have E_wa : Hid (OwnE wa w2.heap.size (.slice Ae l.length ce) l) := Lib.hid hown'; have k0 := G_wa.out.cell 0 rfl; have kf := G_wa.out.free 0; have kl := G_wa.out.lt; clear hown' hgr hof hk0 t0 g0 f0 hlt)
  refine name_world (C := fun w9 => Code.wp _ _ _ _ w9) (wa.setCell ⟨g3, 0, none⟩ (.slice Ae l.length ce)) ?_
  intro w3 hw3
  obtain ⟨v1, hv1⟩ : ∃ v, v = Value.slice Ae l.length ce := ⟨_, rfl⟩
  have HEG : Hid (v1.ownBlock ≠ some g3) := Lib.hid (by rw [hv1]; exact OwnG.off E_wa.out (by have := HSZ2.out; omega))
  have HEZ : Hid (v1.ownBlock ≠ some (w.heap.size + 1)) := Lib.hid (by rw [hv1]; exact OwnG.off E_wa.out (by have := HSZ2.out; have := HG3.out; omega))
  have E_w3 : Hid (OwnE w3 w.heap.size v1 l) := Lib.hid (by rw [hw3]; refine OwnG.set ?_ HEG.out 0 _; rw [hv1]; exact OwnG.weak E_wa.out B_w2.out.size)
  have G_w3 : Hid (BK 25 w3 g3 [v1, .slice none 0 0]) := Lib.hid (by rw [hw3, hv1]; exact G_wa.out.set 0 _)
  have Z_w3 : Hid (BK 25 w3 (w.heap.size + 1) [.slice none 0 0, .slice none 0 0]) := Lib.hid (by rw [hw3]; exact Z_wa.out.other (by show w.heap.size + 1 ≠ g3; have := HG3.out; omega) _)
  have T_w3 : Hid (BK 25 w3 w.heap.size [.slice A1 l.length c1, .slice A2 xs.length c2]) := Lib.hid (by rw [hw3]; exact T_wa.out.other (by show w.heap.size ≠ g3; have := HG3.out; omega) _)
  have B_w3 : Hid (Below w.heap.size w w3) := Lib.hid (by rw [hw3]; exact B_wa.out.setCell (p := ⟨g3, 0, none⟩) (by show w.heap.size ≤ g3; have := HG3.out; omega) _)
  try rw [← hv1]
  have HV1 := Lib.hid hv1
  clear hw3 hv1 k0 kf kl E_wa G_wa Z_wa T_wa B_wa T_w2 Z_w2 B_w2 G_w2 L_w2
  have t1 := T_w3.out.cell 1 rfl
  obtain ⟨B2, hB2⟩ : ∃ B, B = w3.heap.size := ⟨_, rfl⟩
  have HB2G : Hid (g3 < B2) := Lib.hid (by rw [hB2]; exact G_w3.out.lt)
  have HEL : Hid (∀ k, v1.ownBlock = some k → k < B2) := Lib.hid (fun k e => by rw [hB2]; exact (own_lt E_w3.out k e).2)
  have W_w3 : Hid (B2 ≤ w3.heap.size) := Lib.hid (by rw [hB2]; exact Nat.le_refl _)
  clear hB2
  go_wp2_with fail
  go_loopg [15] xs.length (fun g v wr => ∃ (k : Nat) (ys : List BE) (Av : Option Addr) (nv cv : Nat), k + g = xs.length ∧ v = .int .i64 k ∧ ys.map BE.d = (xs.take k).map BE.d ∧ (∀ b, v1.ownBlock = some b → (Value.slice Av nv cv).ownBlock ≠ some b) ∧ OwnE wr w.heap.size v1 l ∧ LstB B2 wr (.slice Av nv cv) ys ∧ BK 25 wr g3 [v1, .slice Av nv cv] ∧ BK 25 wr (w.heap.size + 1) [.slice none 0 0, .slice none 0 0] ∧ BK 25 wr w.heap.size [.slice A1 l.length c1, .slice A2 xs.length c2] ∧ B2 ≤ wr.heap.size ∧ Below w.heap.size w wr)
  case atStart => exact ⟨0, [], none, 0, 0, by omega, rfl, rfl, fun b _ e => by simp [Value.ownBlock] at e, E_w3.out, Lst.nil, G_w3.out, Z_w3.out, T_w3.out, W_w3.out, B_w3.out⟩
  case round =>
    obtain ⟨k, ys, Av, nv, cv, hkg, rfl, hmp, hsep, he, hl, hg, hz, ht, hw0, hb0⟩ := hrel
    have HMP0 := Lib.hid hmp
    have HSEP := Lib.hid hsep
    have E_wr := Lib.hid he
    have L_wr := Lib.hid hl
    have G_wr := Lib.hid hg
    have Z_wr := Lib.hid hz
    have T_wr := Lib.hid ht
    have W_wr := Lib.hid hw0
    have B_wr := Lib.hid hb0
    have HG := Lib.hid hkg
    clear hmp hsep he hl hg hz ht hb0 hw0 W_w3 t1 E_w3 G_w3 Z_w3 T_w3 B_w3
    cases gk with
    | zero =>
      obtain rfl : k = xs.length := by omega
      clear hkg
      have HLG := Lib.hid (S2.run_load_all G_wr.out Tryz.underlying25 rfl rtSize)
      have HZL := Lib.hid Z_wr.out
      obtain ⟨Ax, cx, hvx, _⟩ := OwnG.ret gE_len E_wr.out
      have HVX := Lib.hid hvx
      clear hvx
      go_wp2_with first
        | (refine wpList_load_v (by rfl) 25 (.tmp 3) rfl ⟨g3, 0, none⟩ rfl (.agg #[v1, .slice Av nv cv]) HLG.out ?_)
        | (refine S2.wpList_store_all (by rfl) 25 (.tmp 2) (.tmp 27) rfl rfl (w.heap.size + 1) rfl [v1, .slice Av nv cv] rfl 25 [.slice none 0 0, .slice none 0 0] HZL.out rtSize rfl (by rw [HVX.out]; exact ones rfl) ?_; intro w4 hM hP; have M4 := Lib.hid hM; have P4 := Lib.hid hP; clear hM hP)
      refine bodyPost_ret (v := .agg #[v1, .slice Av nv cv]) (S2.res_cell rfl _ _ (w.heap.size + 1) 25 [v1, .slice Av nv cv] _ rfl M4.out Tryz.underlying25 rfl rtSize) rfl ⟨v1, .slice Av nv cv, ys, rfl, by rw [HMP0.out, List.take_length], ?_, P4.out.below B_wr.out (by omega)⟩
      have hoff : RtOff (w.heap.size + 1) v1 (.slice Av nv cv) ys := ⟨HEZ.out, L_wr.out.1.off (by have := HG3.out; have := HB2G.out; omega), fun y hy b o e hn => by have := (L_wr.out.2 y hy).2.2 b o e; have := HG3.out; have := HB2G.out; omega⟩
      exact RtN.put ⟨E_wr.out, LstB.weak L_wr.out (by have := HG3.out; have := HB2G.out; omega), fun k e => ⟨HSEP.out k e, fun y hy b o e2 hn e3 => by have h1 := (L_wr.out.2 y hy).2.2 b o e2; have h2 := HEL.out k e; omega⟩⟩ hoff P4.out
    | succ n =>
      have hlt : k < xs.length := by omega
      have e3 : decide ((k : Int) < (xs.length : Int)) = true := decide_eq_true (by omega)
      obtain ⟨x, hx⟩ : ∃ x, xs[k]? = some x := ⟨_, List.getElem?_eq_getElem hlt⟩
      have hsr := HX.out.step B_wr.out
      obtain ⟨b, o, hA, hbB, hcl, hpl⟩ := hsr.at_ hx
      have HLD := Lib.hid (load_bd hcl)
      have Y_wr := Lib.hid (BI.inn hsr HF.out (List.mem_of_getElem? hx))
      have HMP : Hid (∀ a c, (ys ++ [(⟨x.d, a, c⟩ : BE)]).map BE.d = (xs.take (k + 1)).map BE.d) := Lib.hid (fun a c => map_snoc HMP0.out hx)
      have HCB := Lib.hid (fun w1 h => HCBX.out x w1 h)
      have HYL : Hid (ys.length ≤ 100000) := Lib.hid (by have := congrArg List.length HMP0.out; rw [List.length_map, List.length_map, List.length_take] at this; have := HNX.out; omega)
      have HGWR : Hid (g3 < wr.heap.size) := Lib.hid G_wr.out.lt
      have HVO : Hid ((Value.slice Av nv cv).ownBlock ≠ some wr.heap.size) := Lib.hid (L_wr.out.1.high (Nat.le_refl _))
      subst hA
      have j1 : (0 : Int) ≤ (k : Int) := by omega
      have j2 : (k : Int) < (xs.length : Int) := by omega
      clear hx hkg hlt hbB hcl hpl hsr
      go_upto_region 6 with first
        | (refine wpList_load_v (by rfl) 35 (.tmp 17) rfl ⟨b, o + k * 5, none⟩ (by go_simp) _ HLD.out ?_)
        | (refine S2.wpList_store_all (by rfl) 35 (.tmp 5) (.tmp 18) rfl rfl wr.heap.size rfl (gB x) rfl 35 _ (BK.new wr _ _) bdSize rfl (gB_one _) ?_; intro w4 hM hP; have hb := hP.below (S2.below_new wr _) (Nat.le_refl _); have B_w4 := Lib.hid (stepB B_wr.out hb); have V_w4 := Lib.hid hM; have T_w4 := Lib.hid (T_wr.out.step hb); have Z_w4 := Lib.hid (Z_wr.out.step hb); have G_w4 := Lib.hid (G_wr.out.step hb); have E_w4 := Lib.hid (OwnG.step E_wr.out hb); have L_w4 := Lib.hid (Lst.step L_wr.out hb); have Y_w4 := Lib.hid (Y_wr.out.step hb); have W_w4 := Lib.hid (Nat.le_trans W_wr.out hb.size); clear hM hP hb)
      clear HLD W_wr B_wr T_wr Z_wr G_wr E_wr L_wr Y_wr HCBX
      obtain ⟨x1, hx1⟩ : ∃ x1, x1 = World.drew w4 := ⟨_, rfl⟩
      have hbD : Below w4.heap.size w4 x1 := by rw [hx1]; exact (Below.refl _ _).drew
      have B_x1 : Hid (Below w.heap.size w x1) := Lib.hid (stepB B_w4.out hbD)
      have E_x1 : Hid (OwnE x1 w.heap.size v1 l) := Lib.hid (OwnG.step E_w4.out hbD)
      have L_x1 : Hid (LstB B2 x1 (.slice Av nv cv) ys) := Lib.hid (Lst.step L_w4.out hbD)
      have G_x1 : Hid (BK 25 x1 g3 [v1, .slice Av nv cv]) := Lib.hid (G_w4.out.step hbD)
      have Z_x1 : Hid (BK 25 x1 (w.heap.size + 1) [.slice none 0 0, .slice none 0 0]) := Lib.hid (Z_w4.out.step hbD)
      have W_x1 : Hid (B2 ≤ x1.heap.size) := Lib.hid (Nat.le_trans W_w4.out hbD.size)
      have T_x1 : Hid (BK 25 x1 w.heap.size [.slice A1 l.length c1, .slice (some ⟨b, o, none⟩) xs.length c2]) := Lib.hid (T_w4.out.step hbD)
      have V_x1 : Hid (BK 35 x1 wr.heap.size (gB x)) := Lib.hid (V_w4.out.step hbD)
      have Y_x1 : Hid (BIn x1 x) := Lib.hid (Y_w4.out.step hbD)
      clear B_w4 E_w4 L_w4 G_w4 Z_w4 W_w4 T_w4 V_w4 Y_w4
      have hbd : (fun w' => BK 35 w' wr.heap.size (gB x)) (World.drew w4) := by rw [← hx1]; exact V_x1.out
      have hSD : (fun w' => BK 35 w' wr.heap.size (gB x)) x1 := V_x1.out
      have HWD := Lib.hid hx1
      clear hx1 hbD
      refine wp_region_held_drew (S := fun w' => BK 35 w' wr.heap.size (gB x)) (by kernel_rfl) hbd (fun hHeld => ?_)
      rw [← HWD.out]
      clear hHeld
      have hHeld := hSD
      clear hSD hbd HWD
      refine wpAnyH_take (i := 0) (v := .pointer (some ⟨g3, 1, none⟩)) (get_ops _ _ _ rfl) (by kernel_rfl) (by kernel_rfl) (by kernel_rfl) (fun _ _ _ h => h) (Or.inl ⟨by rfl, fun wS hSw => by (try dsimp only at hSw); go_simp⟩) hHeld ?_
      try simp only [Act.put, List.setIfInBounds_toArray, List.set_cons_zero, List.set_cons_succ]
      refine wpAnyH_take (i := 2) (v := bdV x) (get_ops _ _ _ rfl) (by kernel_rfl) (by kernel_rfl) (by kernel_rfl) (fun _ _ _ h => h) (Or.inl ⟨by rfl, fun wS hSw => by (try dsimp only at hSw); exact exec_load 35 _ rfl ⟨wr.heap.size, 0, none⟩ (by go_simp) _ (load_bd0 hSw)⟩) hHeld ?_
      try simp only [Act.put, List.setIfInBounds_toArray, List.set_cons_zero, List.set_cons_succ]
      refine wpAnyH_ready (rs := [1, 3]) (by kernel_rfl) (by simp) ?_
      refine (AllReadyH.cons (get_ops _ _ _ rfl) (fun K hK => ?_) (AllReadyH.cons (get_ops _ _ _ rfl) (fun K hK => ?_) AllReadyH.nil))
      · have g1 := G_x1.out.cell 1 rfl
        go_simp
        clear g1 hHeld
        refine hK.out _ _ V_x1.out (fun hHeld => ?_)
        clear hK K
        try simp only [Act.put, List.setIfInBounds_toArray, List.set_cons_zero, List.set_cons_succ]
        refine wpAnyH_ready (rs := [3]) (by kernel_rfl) (by simp) ?_
        refine (AllReadyH.cons (get_ops _ _ _ rfl) (fun K hK => ?_) AllReadyH.nil)
        have hlo : ∀ b, x1.heap.size ≤ b → (Value.slice Av nv cv).ownBlock ≠ some b := fun b hb => L_x1.out.1.high hb
        have HGW : Hid (B2 ≤ x1.heap.size) := Lib.hid W_x1.out
        go_simp
        refine (HCB.out x1 Y_x1.out).mono ?_
        rintro e x2 ⟨a, c, rfl, hp, hn, hb⟩
        have B_x2 : Hid (Below w.heap.size w x2) := Lib.hid (stepB B_x1.out hb)
        have E_x2 : Hid (OwnE x2 w.heap.size v1 l) := Lib.hid (OwnG.step E_x1.out hb)
        have L_x2 : Hid (LstB B2 x2 (.slice Av nv cv) ys) := Lib.hid (Lst.step L_x1.out hb)
        have G_x2 : Hid (BK 25 x2 g3 [v1, .slice Av nv cv]) := Lib.hid (G_x1.out.step hb)
        have Z_x2 : Hid (BK 25 x2 (w.heap.size + 1) [.slice none 0 0, .slice none 0 0]) := Lib.hid (Z_x1.out.step hb)
        have W_x2 : Hid (B2 ≤ x2.heap.size) := Lib.hid (Nat.le_trans W_x1.out hb.size)
        have T_x2 : Hid (BK 25 x2 w.heap.size [.slice A1 l.length c1, .slice (some ⟨b, o, none⟩) xs.length c2]) := Lib.hid (T_x1.out.step hb)
        have V_x2 : Hid (BK 35 x2 wr.heap.size (gB x)) := Lib.hid (V_x1.out.step hb)
        have Y_x2 : Hid (BIn x2 x) := Lib.hid (Y_x1.out.step hb)
        clear B_x1 E_x1 L_x1 G_x1 Z_x1 W_x1 T_x1 V_x1 Y_x1
        have P_x2 : Hid (PL x2 x2.heap.size a x.d.ml) := Lib.hid hp
        have HNA : Hid (NewL x1.heap.size a) := Lib.hid hn
        have HPO : Hid ((Value.slice Av nv cv).ownBlock ≠ some x2.heap.size ∧ ∀ b o, a = some ⟨b, o, none⟩ → (Value.slice Av nv cv).ownBlock ≠ some b) := Lib.hid ⟨L_x2.out.1.high (Nat.le_refl _), fun b o e => hlo b (hn b o e)⟩
        clear hHeld hb hp hn hlo
        simp only [bdV_lit]
        go_wp2_with fail
        refine hK.out _ _ V_x2.out (fun hHeld => ?_)
        clear hK K
        try simp only [Act.put, List.setIfInBounds_toArray, List.set_cons_zero, List.set_cons_succ]
        refine wpAnyH_ready (rs := [4]) (by kernel_rfl) (by simp) ?_
        refine (AllReadyH.cons (get_ops _ _ _ rfl) (fun K hK => ?_) AllReadyH.nil)
        go_simp
        obtain ⟨bq, hbq⟩ : ∃ n, n = x2.heap.size := ⟨_, rfl⟩
        refine name_world (C := fun w9 => K _ w9) (x2.alloc (.cells (gB ⟨x.d, a, c⟩).toArray 35)) ?_
        intro x3 hx3
        have hb : Below x2.heap.size x2 x3 := by rw [hx3]; exact S2.below_new _ _
        have hN : BK 35 x3 bq (gB ⟨x.d, a, c⟩) := by rw [hx3, hbq]; exact BK.new _ _ _
        have B_x3 : Hid (Below w.heap.size w x3) := Lib.hid (stepB B_x2.out hb)
        have E_x3 : Hid (OwnE x3 w.heap.size v1 l) := Lib.hid (OwnG.step E_x2.out hb)
        have L_x3 : Hid (LstB B2 x3 (.slice Av nv cv) ys) := Lib.hid (Lst.step L_x2.out hb)
        have G_x3 : Hid (BK 25 x3 g3 [v1, .slice Av nv cv]) := Lib.hid (G_x2.out.step hb)
        have Z_x3 : Hid (BK 25 x3 (w.heap.size + 1) [.slice none 0 0, .slice none 0 0]) := Lib.hid (Z_x2.out.step hb)
        have W_x3 : Hid (B2 ≤ x3.heap.size) := Lib.hid (Nat.le_trans W_x2.out hb.size)
        have T_x3 : Hid (BK 25 x3 w.heap.size [.slice A1 l.length c1, .slice (some ⟨b, o, none⟩) xs.length c2]) := Lib.hid (T_x2.out.step hb)
        have V_x3 : Hid (BK 35 x3 wr.heap.size (gB x)) := Lib.hid (V_x2.out.step hb)
        have Y_x3 : Hid (BIn x3 x) := Lib.hid (Y_x2.out.step hb)
        have P_x3 : Hid (PL x3 x3.heap.size a x.d.ml) := Lib.hid (GL.step P_x2.out hb)
        clear B_x2 E_x2 L_x2 G_x2 Z_x2 W_x2 T_x2 V_x2 Y_x2 P_x2
        have X_x3 := Lib.hid hN
        try rw [← hbq]
        clear hHeld hb hN hx3 hbq
        refine hK.out _ _ V_x3.out (fun hHeld => ?_)
        clear hK K
        try simp only [Act.put, List.setIfInBounds_toArray, List.set_cons_zero, List.set_cons_succ]
        refine wpAnyH_ready (rs := [5]) (by kernel_rfl) (by simp) ?_
        refine (AllReadyH.cons (get_ops _ _ _ rfl) (fun K hK => ?_) AllReadyH.nil)
        refine oper_lst (ad := BE.a) (ps := bps) gB_len gB_one (by decide) (.tmp 20) (.tmp 23) 23 rfl (.agg #[.string ByteArray.empty, .string ByteArray.empty, .string ByteArray.empty, .bool false, .slice none 0 0]) 80 Tryz.underlying23 bdInfo rfl (by decide) B2 (.slice Av nv cv) ys ⟨x.d, a, c⟩ (by go_simp) L_x3.out bq (by go_simp) X_x3.out P_x3.out (fun b o e => by have := HNA.out b o e; have := HGW.out; omega) (fun b o e _ => HPO.out.2 b o e) W_x3.out (by have := HYL.out; omega) ?_
        intro v9 x4 hl hkp hbel
        obtain ⟨A9, c9, hv9, _⟩ := OwnG.ret gB_len hl.1
        obtain ⟨n9, hn9⟩ : ∃ n, (ys ++ [(⟨x.d, a, c⟩ : BE)]).length = n := ⟨_, rfl⟩
        rw [hn9] at hv9
        subst hv9
        have L_x4 : Hid (LstB B2 x4 (.slice A9 n9 c9) (ys ++ [(⟨x.d, a, c⟩ : BE)])) := Lib.hid hl
        have B_x4 : Hid (Below w.heap.size w x4) := Lib.hid (hbel _ _ B_x3.out (by have := HG3.out; have := HB2G.out; omega))
        have E_x4 : Hid (OwnE x4 w.heap.size v1 l) := Lib.hid (E_x3.out.keepb (fun b e => hkp.keep b (own_lt E_x3.out b e).2 (HSEP.out b e)))
        have G_x4 : Hid (BK 25 x4 g3 [v1, .slice Av nv cv]) := Lib.hid ((hkp.keep g3 G_x3.out.lt (L_x3.out.1.off HB2G.out)).trans G_x3.out)
        have Z_x4 : Hid (BK 25 x4 (w.heap.size + 1) [.slice none 0 0, .slice none 0 0]) := Lib.hid ((hkp.keep _ Z_x3.out.lt (L_x3.out.1.off (by have := HG3.out; have := HB2G.out; omega))).trans Z_x3.out)
        have T_x4 : Hid (BK 25 x4 w.heap.size [.slice A1 l.length c1, .slice (some ⟨b, o, none⟩) xs.length c2]) := Lib.hid ((hkp.keep _ T_x3.out.lt (L_x3.out.1.off (by have := HG3.out; have := HB2G.out; omega))).trans T_x3.out)
        have V_x4 : Hid (BK 35 x4 wr.heap.size (gB x)) := Lib.hid ((hkp.keep _ V_x3.out.lt HVO.out).trans V_x3.out)
        have hsz := hkp.size
        have W_x4 : Hid (B2 ≤ x4.heap.size) := Lib.hid (Nat.le_trans W_x3.out hsz)
        have HS9 : Hid (∀ b, v1.ownBlock = some b → (Value.slice A9 n9 c9).ownBlock ≠ some b) := Lib.hid (fun b e e2 => by rcases hkp.own b e2 with h | h; exact HSEP.out b e h; have := (own_lt E_x3.out b e).2; omega)
        clear hl hkp hbel hsz hHeld hn9 B_x3 E_x3 L_x3 G_x3 Z_x3 W_x3 T_x3 V_x3 Y_x3 P_x3 X_x3
        refine hK.out _ _ V_x4.out (fun hHeld => ?_)
        clear hK K
        try simp only [Act.put, List.setIfInBounds_toArray, List.set_cons_zero, List.set_cons_succ]
        refine wpAnyH_take (i := 6) (v := .pointer (some ⟨g3, 1, none⟩)) (get_ops _ _ _ rfl) (by kernel_rfl) (by kernel_rfl) (by kernel_rfl) (fun _ _ _ h => h) (Or.inl ⟨by rfl, fun wS hSw => by (try dsimp only at hSw); go_simp⟩) hHeld ?_
        try simp only [Act.put, List.setIfInBounds_toArray, List.set_cons_zero, List.set_cons_succ]
        refine wpAnyH_ready (rs := [7]) (by kernel_rfl) (by simp) ?_
        refine (AllReadyH.cons (get_ops _ _ _ rfl) (fun K hK => ?_) AllReadyH.nil)
        have g1 := G_x4.out.cell 1 rfl
        have f1 := G_x4.out.free 1
        go_simp
        refine name_world (C := fun w9 => K _ w9) (x4.setCell ⟨g3, 1, none⟩ (.slice A9 n9 c9)) ?_
        intro x5 hx5
        have L_x5 : Hid (LstB B2 x5 (.slice A9 n9 c9) (ys ++ [(⟨x.d, a, c⟩ : BE)])) := Lib.hid (by rw [hx5]; exact Lst.set L_x4.out HB2G.out 1 _)
        have E_x5 : Hid (OwnE x5 w.heap.size v1 l) := Lib.hid (by rw [hx5]; exact OwnG.set E_x4.out HEG.out 1 _)
        have G_x5 : Hid (BK 25 x5 g3 [v1, .slice A9 n9 c9]) := Lib.hid (by rw [hx5]; exact G_x4.out.set 1 _)
        have Z_x5 : Hid (BK 25 x5 (w.heap.size + 1) [.slice none 0 0, .slice none 0 0]) := Lib.hid (by rw [hx5]; exact Z_x4.out.other (by show w.heap.size + 1 ≠ g3; have := HG3.out; omega) _)
        have T_x5 : Hid (BK 25 x5 w.heap.size [.slice A1 l.length c1, .slice (some ⟨b, o, none⟩) xs.length c2]) := Lib.hid (by rw [hx5]; exact T_x4.out.other (by show w.heap.size ≠ g3; have := HG3.out; omega) _)
        have V_x5 : Hid (BK 35 x5 wr.heap.size (gB x)) := Lib.hid (by rw [hx5]; exact V_x4.out.other (by show wr.heap.size ≠ g3; have := HGWR.out; omega) _)
        have W_x5 : Hid (B2 ≤ x5.heap.size) := Lib.hid (by rw [hx5]; simpa using W_x4.out)
        have B_x5 : Hid (Below w.heap.size w x5) := Lib.hid (by rw [hx5]; exact B_x4.out.setCell (p := ⟨g3, 1, none⟩) (by show w.heap.size ≤ g3; have := HG3.out; omega) _)
        clear g1 f1 hHeld hx5 B_x4 E_x4 L_x4 G_x4 Z_x4 W_x4 T_x4 V_x4
        refine hK.out _ _ V_x5.out (fun hHeld => ?_)
        clear hK K
        try simp only [Act.put, List.setIfInBounds_toArray, List.set_cons_zero, List.set_cons_succ]
        refine wpAnyH_done (by kernel_rfl) ?_ _
        go_wp2_with fail
        go_roundg n
        case measure => omega
        case rel => exact ⟨k + 1, ys ++ [(⟨x.d, a, c⟩ : BE)], A9, n9, c9, by have := HG.out; omega, nxt k (by have := HNX.out; have := HG.out; omega), HMP.out a c, HS9.out, E_x5.out, L_x5.out, G_x5.out, Z_x5.out, T_x5.out, W_x5.out, B_x5.out⟩
      · have hlo : ∀ b, x1.heap.size ≤ b → (Value.slice Av nv cv).ownBlock ≠ some b := fun b hb => L_x1.out.1.high hb
        have HGW : Hid (B2 ≤ x1.heap.size) := Lib.hid W_x1.out
        go_simp
        refine (HCB.out x1 Y_x1.out).mono ?_
        rintro e x2 ⟨a, c, rfl, hp, hn, hb⟩
        have B_x2 : Hid (Below w.heap.size w x2) := Lib.hid (stepB B_x1.out hb)
        have E_x2 : Hid (OwnE x2 w.heap.size v1 l) := Lib.hid (OwnG.step E_x1.out hb)
        have L_x2 : Hid (LstB B2 x2 (.slice Av nv cv) ys) := Lib.hid (Lst.step L_x1.out hb)
        have G_x2 : Hid (BK 25 x2 g3 [v1, .slice Av nv cv]) := Lib.hid (G_x1.out.step hb)
        have Z_x2 : Hid (BK 25 x2 (w.heap.size + 1) [.slice none 0 0, .slice none 0 0]) := Lib.hid (Z_x1.out.step hb)
        have W_x2 : Hid (B2 ≤ x2.heap.size) := Lib.hid (Nat.le_trans W_x1.out hb.size)
        have T_x2 : Hid (BK 25 x2 w.heap.size [.slice A1 l.length c1, .slice (some ⟨b, o, none⟩) xs.length c2]) := Lib.hid (T_x1.out.step hb)
        have V_x2 : Hid (BK 35 x2 wr.heap.size (gB x)) := Lib.hid (V_x1.out.step hb)
        have Y_x2 : Hid (BIn x2 x) := Lib.hid (Y_x1.out.step hb)
        clear B_x1 E_x1 L_x1 G_x1 Z_x1 W_x1 T_x1 V_x1 Y_x1
        have P_x2 : Hid (PL x2 x2.heap.size a x.d.ml) := Lib.hid hp
        have HNA : Hid (NewL x1.heap.size a) := Lib.hid hn
        have HPO : Hid ((Value.slice Av nv cv).ownBlock ≠ some x2.heap.size ∧ ∀ b o, a = some ⟨b, o, none⟩ → (Value.slice Av nv cv).ownBlock ≠ some b) := Lib.hid ⟨L_x2.out.1.high (Nat.le_refl _), fun b o e => hlo b (hn b o e)⟩
        clear hHeld hb hp hn hlo
        simp only [bdV_lit]
        go_wp2_with fail
        refine hK.out _ _ V_x2.out (fun hHeld => ?_)
        clear hK K
        try simp only [Act.put, List.setIfInBounds_toArray, List.set_cons_zero, List.set_cons_succ]
        refine wpAnyH_ready (rs := [1, 4]) (by kernel_rfl) (by simp) ?_
        refine (AllReadyH.cons (get_ops _ _ _ rfl) (fun K hK => ?_) (AllReadyH.cons (get_ops _ _ _ rfl) (fun K hK => ?_) AllReadyH.nil))
        · have g1 := G_x2.out.cell 1 rfl
          go_simp
          clear g1 hHeld
          refine hK.out _ _ V_x2.out (fun hHeld => ?_)
          clear hK K
          try simp only [Act.put, List.setIfInBounds_toArray, List.set_cons_zero, List.set_cons_succ]
          refine wpAnyH_ready (rs := [4]) (by kernel_rfl) (by simp) ?_
          refine (AllReadyH.cons (get_ops _ _ _ rfl) (fun K hK => ?_) AllReadyH.nil)
          go_simp
          obtain ⟨bq, hbq⟩ : ∃ n, n = x2.heap.size := ⟨_, rfl⟩
          refine name_world (C := fun w9 => K _ w9) (x2.alloc (.cells (gB ⟨x.d, a, c⟩).toArray 35)) ?_
          intro x3 hx3
          have hb : Below x2.heap.size x2 x3 := by rw [hx3]; exact S2.below_new _ _
          have hN : BK 35 x3 bq (gB ⟨x.d, a, c⟩) := by rw [hx3, hbq]; exact BK.new _ _ _
          have B_x3 : Hid (Below w.heap.size w x3) := Lib.hid (stepB B_x2.out hb)
          have E_x3 : Hid (OwnE x3 w.heap.size v1 l) := Lib.hid (OwnG.step E_x2.out hb)
          have L_x3 : Hid (LstB B2 x3 (.slice Av nv cv) ys) := Lib.hid (Lst.step L_x2.out hb)
          have G_x3 : Hid (BK 25 x3 g3 [v1, .slice Av nv cv]) := Lib.hid (G_x2.out.step hb)
          have Z_x3 : Hid (BK 25 x3 (w.heap.size + 1) [.slice none 0 0, .slice none 0 0]) := Lib.hid (Z_x2.out.step hb)
          have W_x3 : Hid (B2 ≤ x3.heap.size) := Lib.hid (Nat.le_trans W_x2.out hb.size)
          have T_x3 : Hid (BK 25 x3 w.heap.size [.slice A1 l.length c1, .slice (some ⟨b, o, none⟩) xs.length c2]) := Lib.hid (T_x2.out.step hb)
          have V_x3 : Hid (BK 35 x3 wr.heap.size (gB x)) := Lib.hid (V_x2.out.step hb)
          have Y_x3 : Hid (BIn x3 x) := Lib.hid (Y_x2.out.step hb)
          have P_x3 : Hid (PL x3 x3.heap.size a x.d.ml) := Lib.hid (GL.step P_x2.out hb)
          clear B_x2 E_x2 L_x2 G_x2 Z_x2 W_x2 T_x2 V_x2 Y_x2 P_x2
          have X_x3 := Lib.hid hN
          try rw [← hbq]
          clear hHeld hb hN hx3 hbq
          refine hK.out _ _ V_x3.out (fun hHeld => ?_)
          clear hK K
          try simp only [Act.put, List.setIfInBounds_toArray, List.set_cons_zero, List.set_cons_succ]
          refine wpAnyH_ready (rs := [5]) (by kernel_rfl) (by simp) ?_
          refine (AllReadyH.cons (get_ops _ _ _ rfl) (fun K hK => ?_) AllReadyH.nil)
          refine oper_lst (ad := BE.a) (ps := bps) gB_len gB_one (by decide) (.tmp 20) (.tmp 23) 23 rfl (.agg #[.string ByteArray.empty, .string ByteArray.empty, .string ByteArray.empty, .bool false, .slice none 0 0]) 80 Tryz.underlying23 bdInfo rfl (by decide) B2 (.slice Av nv cv) ys ⟨x.d, a, c⟩ (by go_simp) L_x3.out bq (by go_simp) X_x3.out P_x3.out (fun b o e => by have := HNA.out b o e; have := HGW.out; omega) (fun b o e _ => HPO.out.2 b o e) W_x3.out (by have := HYL.out; omega) ?_
          intro v9 x4 hl hkp hbel
          obtain ⟨A9, c9, hv9, _⟩ := OwnG.ret gB_len hl.1
          obtain ⟨n9, hn9⟩ : ∃ n, (ys ++ [(⟨x.d, a, c⟩ : BE)]).length = n := ⟨_, rfl⟩
          rw [hn9] at hv9
          subst hv9
          have L_x4 : Hid (LstB B2 x4 (.slice A9 n9 c9) (ys ++ [(⟨x.d, a, c⟩ : BE)])) := Lib.hid hl
          have B_x4 : Hid (Below w.heap.size w x4) := Lib.hid (hbel _ _ B_x3.out (by have := HG3.out; have := HB2G.out; omega))
          have E_x4 : Hid (OwnE x4 w.heap.size v1 l) := Lib.hid (E_x3.out.keepb (fun b e => hkp.keep b (own_lt E_x3.out b e).2 (HSEP.out b e)))
          have G_x4 : Hid (BK 25 x4 g3 [v1, .slice Av nv cv]) := Lib.hid ((hkp.keep g3 G_x3.out.lt (L_x3.out.1.off HB2G.out)).trans G_x3.out)
          have Z_x4 : Hid (BK 25 x4 (w.heap.size + 1) [.slice none 0 0, .slice none 0 0]) := Lib.hid ((hkp.keep _ Z_x3.out.lt (L_x3.out.1.off (by have := HG3.out; have := HB2G.out; omega))).trans Z_x3.out)
          have T_x4 : Hid (BK 25 x4 w.heap.size [.slice A1 l.length c1, .slice (some ⟨b, o, none⟩) xs.length c2]) := Lib.hid ((hkp.keep _ T_x3.out.lt (L_x3.out.1.off (by have := HG3.out; have := HB2G.out; omega))).trans T_x3.out)
          have V_x4 : Hid (BK 35 x4 wr.heap.size (gB x)) := Lib.hid ((hkp.keep _ V_x3.out.lt HVO.out).trans V_x3.out)
          have hsz := hkp.size
          have W_x4 : Hid (B2 ≤ x4.heap.size) := Lib.hid (Nat.le_trans W_x3.out hsz)
          have HS9 : Hid (∀ b, v1.ownBlock = some b → (Value.slice A9 n9 c9).ownBlock ≠ some b) := Lib.hid (fun b e e2 => by rcases hkp.own b e2 with h | h; exact HSEP.out b e h; have := (own_lt E_x3.out b e).2; omega)
          clear hl hkp hbel hsz hHeld hn9 B_x3 E_x3 L_x3 G_x3 Z_x3 W_x3 T_x3 V_x3 Y_x3 P_x3 X_x3
          refine hK.out _ _ V_x4.out (fun hHeld => ?_)
          clear hK K
          try simp only [Act.put, List.setIfInBounds_toArray, List.set_cons_zero, List.set_cons_succ]
          refine wpAnyH_take (i := 6) (v := .pointer (some ⟨g3, 1, none⟩)) (get_ops _ _ _ rfl) (by kernel_rfl) (by kernel_rfl) (by kernel_rfl) (fun _ _ _ h => h) (Or.inl ⟨by rfl, fun wS hSw => by (try dsimp only at hSw); go_simp⟩) hHeld ?_
          try simp only [Act.put, List.setIfInBounds_toArray, List.set_cons_zero, List.set_cons_succ]
          refine wpAnyH_ready (rs := [7]) (by kernel_rfl) (by simp) ?_
          refine (AllReadyH.cons (get_ops _ _ _ rfl) (fun K hK => ?_) AllReadyH.nil)
          have g1 := G_x4.out.cell 1 rfl
          have f1 := G_x4.out.free 1
          go_simp
          refine name_world (C := fun w9 => K _ w9) (x4.setCell ⟨g3, 1, none⟩ (.slice A9 n9 c9)) ?_
          intro x5 hx5
          have L_x5 : Hid (LstB B2 x5 (.slice A9 n9 c9) (ys ++ [(⟨x.d, a, c⟩ : BE)])) := Lib.hid (by rw [hx5]; exact Lst.set L_x4.out HB2G.out 1 _)
          have E_x5 : Hid (OwnE x5 w.heap.size v1 l) := Lib.hid (by rw [hx5]; exact OwnG.set E_x4.out HEG.out 1 _)
          have G_x5 : Hid (BK 25 x5 g3 [v1, .slice A9 n9 c9]) := Lib.hid (by rw [hx5]; exact G_x4.out.set 1 _)
          have Z_x5 : Hid (BK 25 x5 (w.heap.size + 1) [.slice none 0 0, .slice none 0 0]) := Lib.hid (by rw [hx5]; exact Z_x4.out.other (by show w.heap.size + 1 ≠ g3; have := HG3.out; omega) _)
          have T_x5 : Hid (BK 25 x5 w.heap.size [.slice A1 l.length c1, .slice (some ⟨b, o, none⟩) xs.length c2]) := Lib.hid (by rw [hx5]; exact T_x4.out.other (by show w.heap.size ≠ g3; have := HG3.out; omega) _)
          have V_x5 : Hid (BK 35 x5 wr.heap.size (gB x)) := Lib.hid (by rw [hx5]; exact V_x4.out.other (by show wr.heap.size ≠ g3; have := HGWR.out; omega) _)
          have W_x5 : Hid (B2 ≤ x5.heap.size) := Lib.hid (by rw [hx5]; simpa using W_x4.out)
          have B_x5 : Hid (Below w.heap.size w x5) := Lib.hid (by rw [hx5]; exact B_x4.out.setCell (p := ⟨g3, 1, none⟩) (by show w.heap.size ≤ g3; have := HG3.out; omega) _)
          clear g1 f1 hHeld hx5 B_x4 E_x4 L_x4 G_x4 Z_x4 W_x4 T_x4 V_x4
          refine hK.out _ _ V_x5.out (fun hHeld => ?_)
          clear hK K
          try simp only [Act.put, List.setIfInBounds_toArray, List.set_cons_zero, List.set_cons_succ]
          refine wpAnyH_done (by kernel_rfl) ?_ _
          go_wp2_with fail
          go_roundg n
          case measure => omega
          case rel => exact ⟨k + 1, ys ++ [(⟨x.d, a, c⟩ : BE)], A9, n9, c9, by have := HG.out; omega, nxt k (by have := HNX.out; have := HG.out; omega), HMP.out a c, HS9.out, E_x5.out, L_x5.out, G_x5.out, Z_x5.out, T_x5.out, W_x5.out, B_x5.out⟩
        · go_simp
          obtain ⟨bq, hbq⟩ : ∃ n, n = x2.heap.size := ⟨_, rfl⟩
          refine name_world (C := fun w9 => K _ w9) (x2.alloc (.cells (gB ⟨x.d, a, c⟩).toArray 35)) ?_
          intro x3 hx3
          have hb : Below x2.heap.size x2 x3 := by rw [hx3]; exact S2.below_new _ _
          have hN : BK 35 x3 bq (gB ⟨x.d, a, c⟩) := by rw [hx3, hbq]; exact BK.new _ _ _
          have B_x3 : Hid (Below w.heap.size w x3) := Lib.hid (stepB B_x2.out hb)
          have E_x3 : Hid (OwnE x3 w.heap.size v1 l) := Lib.hid (OwnG.step E_x2.out hb)
          have L_x3 : Hid (LstB B2 x3 (.slice Av nv cv) ys) := Lib.hid (Lst.step L_x2.out hb)
          have G_x3 : Hid (BK 25 x3 g3 [v1, .slice Av nv cv]) := Lib.hid (G_x2.out.step hb)
          have Z_x3 : Hid (BK 25 x3 (w.heap.size + 1) [.slice none 0 0, .slice none 0 0]) := Lib.hid (Z_x2.out.step hb)
          have W_x3 : Hid (B2 ≤ x3.heap.size) := Lib.hid (Nat.le_trans W_x2.out hb.size)
          have T_x3 : Hid (BK 25 x3 w.heap.size [.slice A1 l.length c1, .slice (some ⟨b, o, none⟩) xs.length c2]) := Lib.hid (T_x2.out.step hb)
          have V_x3 : Hid (BK 35 x3 wr.heap.size (gB x)) := Lib.hid (V_x2.out.step hb)
          have Y_x3 : Hid (BIn x3 x) := Lib.hid (Y_x2.out.step hb)
          have P_x3 : Hid (PL x3 x3.heap.size a x.d.ml) := Lib.hid (GL.step P_x2.out hb)
          clear B_x2 E_x2 L_x2 G_x2 Z_x2 W_x2 T_x2 V_x2 Y_x2 P_x2
          have X_x3 := Lib.hid hN
          try rw [← hbq]
          clear hHeld hb hN hx3 hbq
          refine hK.out _ _ V_x3.out (fun hHeld => ?_)
          clear hK K
          try simp only [Act.put, List.setIfInBounds_toArray, List.set_cons_zero, List.set_cons_succ]
          refine wpAnyH_ready (rs := [1]) (by kernel_rfl) (by simp) ?_
          refine (AllReadyH.cons (get_ops _ _ _ rfl) (fun K hK => ?_) AllReadyH.nil)
          have g1 := G_x3.out.cell 1 rfl
          go_simp
          clear g1 hHeld
          refine hK.out _ _ V_x3.out (fun hHeld => ?_)
          clear hK K
          try simp only [Act.put, List.setIfInBounds_toArray, List.set_cons_zero, List.set_cons_succ]
          refine wpAnyH_ready (rs := [5]) (by kernel_rfl) (by simp) ?_
          refine (AllReadyH.cons (get_ops _ _ _ rfl) (fun K hK => ?_) AllReadyH.nil)
          refine oper_lst (ad := BE.a) (ps := bps) gB_len gB_one (by decide) (.tmp 20) (.tmp 23) 23 rfl (.agg #[.string ByteArray.empty, .string ByteArray.empty, .string ByteArray.empty, .bool false, .slice none 0 0]) 80 Tryz.underlying23 bdInfo rfl (by decide) B2 (.slice Av nv cv) ys ⟨x.d, a, c⟩ (by go_simp) L_x3.out bq (by go_simp) X_x3.out P_x3.out (fun b o e => by have := HNA.out b o e; have := HGW.out; omega) (fun b o e _ => HPO.out.2 b o e) W_x3.out (by have := HYL.out; omega) ?_
          intro v9 x4 hl hkp hbel
          obtain ⟨A9, c9, hv9, _⟩ := OwnG.ret gB_len hl.1
          obtain ⟨n9, hn9⟩ : ∃ n, (ys ++ [(⟨x.d, a, c⟩ : BE)]).length = n := ⟨_, rfl⟩
          rw [hn9] at hv9
          subst hv9
          have L_x4 : Hid (LstB B2 x4 (.slice A9 n9 c9) (ys ++ [(⟨x.d, a, c⟩ : BE)])) := Lib.hid hl
          have B_x4 : Hid (Below w.heap.size w x4) := Lib.hid (hbel _ _ B_x3.out (by have := HG3.out; have := HB2G.out; omega))
          have E_x4 : Hid (OwnE x4 w.heap.size v1 l) := Lib.hid (E_x3.out.keepb (fun b e => hkp.keep b (own_lt E_x3.out b e).2 (HSEP.out b e)))
          have G_x4 : Hid (BK 25 x4 g3 [v1, .slice Av nv cv]) := Lib.hid ((hkp.keep g3 G_x3.out.lt (L_x3.out.1.off HB2G.out)).trans G_x3.out)
          have Z_x4 : Hid (BK 25 x4 (w.heap.size + 1) [.slice none 0 0, .slice none 0 0]) := Lib.hid ((hkp.keep _ Z_x3.out.lt (L_x3.out.1.off (by have := HG3.out; have := HB2G.out; omega))).trans Z_x3.out)
          have T_x4 : Hid (BK 25 x4 w.heap.size [.slice A1 l.length c1, .slice (some ⟨b, o, none⟩) xs.length c2]) := Lib.hid ((hkp.keep _ T_x3.out.lt (L_x3.out.1.off (by have := HG3.out; have := HB2G.out; omega))).trans T_x3.out)
          have V_x4 : Hid (BK 35 x4 wr.heap.size (gB x)) := Lib.hid ((hkp.keep _ V_x3.out.lt HVO.out).trans V_x3.out)
          have hsz := hkp.size
          have W_x4 : Hid (B2 ≤ x4.heap.size) := Lib.hid (Nat.le_trans W_x3.out hsz)
          have HS9 : Hid (∀ b, v1.ownBlock = some b → (Value.slice A9 n9 c9).ownBlock ≠ some b) := Lib.hid (fun b e e2 => by rcases hkp.own b e2 with h | h; exact HSEP.out b e h; have := (own_lt E_x3.out b e).2; omega)
          clear hl hkp hbel hsz hHeld hn9 B_x3 E_x3 L_x3 G_x3 Z_x3 W_x3 T_x3 V_x3 Y_x3 P_x3 X_x3
          refine hK.out _ _ V_x4.out (fun hHeld => ?_)
          clear hK K
          try simp only [Act.put, List.setIfInBounds_toArray, List.set_cons_zero, List.set_cons_succ]
          refine wpAnyH_take (i := 6) (v := .pointer (some ⟨g3, 1, none⟩)) (get_ops _ _ _ rfl) (by kernel_rfl) (by kernel_rfl) (by kernel_rfl) (fun _ _ _ h => h) (Or.inl ⟨by rfl, fun wS hSw => by (try dsimp only at hSw); go_simp⟩) hHeld ?_
          try simp only [Act.put, List.setIfInBounds_toArray, List.set_cons_zero, List.set_cons_succ]
          refine wpAnyH_ready (rs := [7]) (by kernel_rfl) (by simp) ?_
          refine (AllReadyH.cons (get_ops _ _ _ rfl) (fun K hK => ?_) AllReadyH.nil)
          have g1 := G_x4.out.cell 1 rfl
          have f1 := G_x4.out.free 1
          go_simp
          refine name_world (C := fun w9 => K _ w9) (x4.setCell ⟨g3, 1, none⟩ (.slice A9 n9 c9)) ?_
          intro x5 hx5
          have L_x5 : Hid (LstB B2 x5 (.slice A9 n9 c9) (ys ++ [(⟨x.d, a, c⟩ : BE)])) := Lib.hid (by rw [hx5]; exact Lst.set L_x4.out HB2G.out 1 _)
          have E_x5 : Hid (OwnE x5 w.heap.size v1 l) := Lib.hid (by rw [hx5]; exact OwnG.set E_x4.out HEG.out 1 _)
          have G_x5 : Hid (BK 25 x5 g3 [v1, .slice A9 n9 c9]) := Lib.hid (by rw [hx5]; exact G_x4.out.set 1 _)
          have Z_x5 : Hid (BK 25 x5 (w.heap.size + 1) [.slice none 0 0, .slice none 0 0]) := Lib.hid (by rw [hx5]; exact Z_x4.out.other (by show w.heap.size + 1 ≠ g3; have := HG3.out; omega) _)
          have T_x5 : Hid (BK 25 x5 w.heap.size [.slice A1 l.length c1, .slice (some ⟨b, o, none⟩) xs.length c2]) := Lib.hid (by rw [hx5]; exact T_x4.out.other (by show w.heap.size ≠ g3; have := HG3.out; omega) _)
          have V_x5 : Hid (BK 35 x5 wr.heap.size (gB x)) := Lib.hid (by rw [hx5]; exact V_x4.out.other (by show wr.heap.size ≠ g3; have := HGWR.out; omega) _)
          have W_x5 : Hid (B2 ≤ x5.heap.size) := Lib.hid (by rw [hx5]; simpa using W_x4.out)
          have B_x5 : Hid (Below w.heap.size w x5) := Lib.hid (by rw [hx5]; exact B_x4.out.setCell (p := ⟨g3, 1, none⟩) (by show w.heap.size ≤ g3; have := HG3.out; omega) _)
          clear g1 f1 hHeld hx5 B_x4 E_x4 L_x4 G_x4 Z_x4 W_x4 T_x4 V_x4
          refine hK.out _ _ V_x5.out (fun hHeld => ?_)
          clear hK K
          try simp only [Act.put, List.setIfInBounds_toArray, List.set_cons_zero, List.set_cons_succ]
          refine wpAnyH_done (by kernel_rfl) ?_ _
          go_wp2_with fail
          go_roundg n
          case measure => omega
          case rel => exact ⟨k + 1, ys ++ [(⟨x.d, a, c⟩ : BE)], A9, n9, c9, by have := HG.out; omega, nxt k (by have := HNX.out; have := HG.out; omega), HMP.out a c, HS9.out, E_x5.out, L_x5.out, G_x5.out, Z_x5.out, T_x5.out, W_x5.out, B_x5.out⟩
end Go.Proofs.YtjkhfifnfgchgabGreatDoor
