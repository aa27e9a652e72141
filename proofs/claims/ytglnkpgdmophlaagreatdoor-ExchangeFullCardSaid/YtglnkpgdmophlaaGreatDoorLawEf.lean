/-
  The law ExchangeFull: it answers true. Conditions: the library's bound on short texts holds a number.
-/
import Derived.Test.YtglnkpgdmophlaaGreatDoorEfP
namespace Go.Proofs.YtglnkpgdmophlaaGreatDoor
open Go.RowKit
open S2 (BK Put get_ops exec_load)

theorem encFt : (List.range 26).all (fun q => decide (Utf8.encode (97 + (q : Int)) = ⟨#[UInt8.ofNat (97 + q)]⟩)) = true := by kernel_rfl
theorem encFq {q : Nat} (h : q < 26) : Utf8.encode (97 + (q : Int)) = ⟨#[UInt8.ofNat (97 + q)]⟩ := of_decide_eq_true (all_range encFt h)
theorem app3 (a b : UInt8) : (⟨#[101]⟩ : ByteArray) ++ ⟨#[a]⟩ ++ ⟨#[b]⟩ = ⟨#[101, a, b]⟩ := by
  rw [← bs_dl ((⟨#[101]⟩ : ByteArray) ++ ⟨#[a]⟩ ++ ⟨#[b]⟩)]
  unfold dl
  simp
  rfl
theorem okw_below {w w' : World} {B : Nat} (h : S1.Okw w) (hb : Below B w w') (hlt : 0 < B) : S1.Okw w' := by
  obtain ⟨m, hm⟩ := h
  exact ⟨m, (World.cell?_of_block (a := ⟨0, 0, none⟩) (hb.block _ hlt)).trans hm⟩
theorem BI_load {w : World} {B b o : Nat} {ys : List BE} {n : Nat} {y : BE} (h : BI w B (some ⟨b, o, none⟩) ys) (hy : ys[n]? = some y) : (loadVar 35 ⟨b, o + n * 5, none⟩).run Tryz.prog w = .ok (bdV y) w := by
  obtain ⟨b', o', e, _, hc, _⟩ := LI.at_ h hy
  simp only [Option.some.injEq, Addr.mk.injEq, and_true] at e
  obtain ⟨rfl, rfl⟩ := e
  exact load_bd hc
theorem RtN_load {w : World} {B b o m c : Nat} {v1 v3 : Value} {l : List Ex} {ys : List BE} {n : Nat} {y : BE} (h : RtN B w v1 l v3 ys) (hv : v3 = .slice (some ⟨b, o, none⟩) m c) (hy : ys[n]? = some y) : (loadVar 35 ⟨b, o + n * 5, none⟩).run Tryz.prog w = .ok (bdV y) w := by
  obtain ⟨_, _, A2, c2, _, e, _, _, _, hbi, _⟩ := h.ret
  rw [hv] at e
  simp only [Value.slice.injEq] at e
  obtain ⟨rfl, _, _⟩ := e
  exact BI_load hbi hy
theorem put_of_set {w : World} {g o : Nat} {u : Value} {T : TypeId} {vs : List Value} (_h : BK T w g vs) : Put g w (w.setCell ⟨g, o, none⟩ u) :=
  ⟨fun hM hne => hM.other hne _, fun hb hg => hb.setCell (p := ⟨g, o, none⟩) hg _, by simp, fun {p} hp => S2.set_other _ _ _ _ _ hp⟩
theorem wrap32_small {x : Int} (h1 : 0 ≤ x) (h2 : x ≤ 1000) : wrap32 x = x := by
  unfold wrap32
  omega
/-- a store into a block that is not the bound's -/
theorem okw_put {w w' : World} {g : Nat} {T : TypeId} {vs : List Value} (h : S1.Okw w) (_ : BK T w g vs) (hP : Put g w w') (hlt : 0 < g) : S1.Okw w' := by
  obtain ⟨m, hm⟩ := h
  exact ⟨m, (hP.cell (p := ⟨0, 0, none⟩) (Nat.ne_of_lt hlt)).trans hm⟩
set_option maxRecDepth 20000 in
set_option maxHeartbeats 16000000 in
theorem exchangeFull_walk (n : Nat) (w : World) (ho : S1.Okw w) (hn : n ≤ 255) :
    Calls Tryz.prog 5 #[.int .u8 (n : Int)] w fun e w' => e = .returned (.bool true) ∧ Below w.heap.size w w' := by
  have HX := Lib.hid (fun w1 h => exHolds_any w1 h)
  have HO := Lib.hid ho
  have HN := Lib.hid hn
  clear ho hn
  go_enter Tryz.func5, Tryz.ntmps5
  go_upto_region 2 with fail
  refine name_world (C := fun w1 => Code.wp _ _ _ _ w1) (w.alloc (.cells [.slice none 0 0, .slice none 0 0].toArray 25)) ?_
  intro w1 hw1
  have hb : Below w.heap.size w w1 := by rw [hw1]; exact S2.below_new w _
  have T_w1 : Hid (BK 25 w1 w.heap.size [.slice none 0 0, .slice none 0 0]) := Lib.hid (by rw [hw1]; exact BK.new w _ _)
  have B_w1 := Lib.hid hb
  have O_w1 := Lib.hid (HO.out.step hb)
  have HGO0 := HO.out.size
  clear hw1 hb HO
  obtain ⟨g, hg⟩ : ∃ g, g = w.heap.size := ⟨_, rfl⟩
  rw [← hg] at T_w1
  try rw [← hg]
  have HGW : Hid (g = w.heap.size) := Lib.hid hg
  have HGO : Hid (0 < g) := Lib.hid (by rw [hg]; exact HGO0)
  clear hg HGO0
  go_wp2_with fail
  go_loopg [19] 32 (fun gg v wr => ∃ (k : Nat) (v1 v2 : Value), k + gg = 32 ∧ v = .int .i64 k ∧ RtN (g + 1) wr v1 (lF k) v2 [] ∧ BK 25 wr g [v1, v2] ∧ S1.Okw wr ∧ Below w.heap.size w wr)
  case atStart => exact ⟨0, _, _, by omega, rfl, RtN.nil, T_w1.out, O_w1.out, B_w1.out⟩
  case round =>
    obtain ⟨k, v1, v2, hkg, rfl, hr, ht, hok, hb0⟩ := hrel
    have R_wr := Lib.hid hr
    have T_wr := Lib.hid ht
    have O_wr := Lib.hid hok
    have B_wr := Lib.hid hb0
    have HG := Lib.hid hkg
    clear hr ht hok hb0 T_w1 O_w1 B_w1
    cases gk with
    | zero =>
      obtain rfl : k = 32 := by omega
      clear hkg
      obtain ⟨A1, c1, A2, c2, hv1, hv2, hc1, _, hel, _⟩ := R_wr.out.ret
      rw [lF_len] at hv1
      have E_wr := Lib.hid hel
      clear hv2 hc1 hel
      subst hv1
      have t0 := T_wr.out.cell 0 rfl
      have HL := Lib.hid (S2.run_load_all T_wr.out Tryz.underlying25 rfl rtSize)
      have HD := Lib.hid (stepDk f3 (f2 (Nat.le_refl _)) (by rw [lF_len]; omega) (by simp) (fun b h => by cases h) rfl R_wr.out)
      have HVX : Hid (exV xFf = .agg #[.string ⟨#[102]⟩, .int .i64 1, .string ByteArray.empty]) := Lib.hid rfl
      rw [HVX.out] at HD
      go_wp2_with (refine wpList_load_v (by rfl) 25 (.tmp 3) rfl ⟨g, 0, none⟩ (by go_simp) (.agg #[.slice A1 32 c1, v2]) HL.out ?_)
      refine HD.out.mono ?_
      rintro e w2 ⟨u1, u2, zs, rfl, hz, hr2, hb⟩
      have HOC := Lib.hid (rtn_ones hr2)
      have T_w2 := Lib.hid (T_wr.out.step hb)
      have R_w2 := Lib.hid (RtN.step R_wr.out hb)
      have E_w2 := Lib.hid (GL.step E_wr.out hb)
      have O_w2 := Lib.hid (O_wr.out.step hb)
      have B_w2 := Lib.hid (stepB B_wr.out hb)
      clear hz hr2 hb t0 HL HD HVX T_wr R_wr E_wr O_wr B_wr
      go_upto_region 14 with (refine S2.wpList_store_all (by rfl) 25 (.tmp 8) (.tmp 53) rfl rfl w2.heap.size rfl [u1, u2] rfl 25 [.slice none 0 0, .slice none 0 0] (BK.new w2 _ _) rtSize rfl HOC.out ?_; intro w3 hM hP; have hb := hP.below (S2.below_new w2 _) (Nat.le_refl _); have T_w3 := Lib.hid (T_w2.out.step hb); have R_w3 := Lib.hid (RtN.step R_w2.out hb); have E_w3 := Lib.hid (GL.step E_w2.out hb); have O_w3 := Lib.hid (O_w2.out.step hb); have B_w3 := Lib.hid (stepB B_w2.out hb); clear hM hP hb)
      clear T_w2 R_w2 E_w2 O_w2 B_w2 HOC
      have hd : Int.tmod (n : Int) 32 = ((n % 32 : Nat) : Int) := by rw [Int.tmod_eq_emod_of_nonneg (by omega)]; omega
      obtain ⟨j, hj⟩ : ∃ j, n % 32 = j := ⟨_, rfl⟩
      rw [hj] at hd
      have hj32 : j < 32 := by omega
      have g1 : (-9223372036854775808 : Int) ≤ (n : Int) ∧ (n : Int) ≤ 9223372036854775807 := by have := HN.out; omega
      have a1 : wrap64 (n : Int) = n := wrap64_id _ g1.1 g1.2
      have j1 : (0 : Int) ≤ (j : Int) := by omega
      have j2 : (j : Int) < 32 := by omega
      have HF4 := Lib.hid (f4 hj32)
      obtain ⟨b, o, hA, hbl, hcl⟩ := EL.at_ E_w3.out (lF_get hj32)
      have HLD := Lib.hid (load_ex hcl)
      clear hj hj32 hbl hcl g1
      subst hA
      have t0 := T_w3.out.cell 0 rfl
      go_upto_region 15 with first
        | (refine wpList_load_v (by rfl) 32 (.tmp 60) rfl ⟨b, o + j * 3, none⟩ (by go_simp) _ HLD.out ?_)
        | (refine S2.wpList_store_all (by rfl) 32 (.tmp 10) (.tmp 61) rfl rfl w3.heap.size rfl (gE (xF j)) rfl 32 _ (BK.new w3 _ _) exSize rfl (gE_one _) ?_; intro w4 hM hP; have hb := hP.below (S2.below_new w3 _) (Nat.le_refl _); have X_w4 := Lib.hid hM; have T_w4 := Lib.hid (T_w3.out.step hb); have R_w4 := Lib.hid (RtN.step R_w3.out hb); have O_w4 := Lib.hid (O_w3.out.step hb); have B_w4 := Lib.hid (stepB B_w3.out hb); clear hM hP hb)
      clear t0 HLD T_w3 R_w3 E_w3 O_w3 B_w3 hd a1 j1 j2
      have HL := Lib.hid (S2.run_load_all T_w4.out Tryz.underlying25 rfl rtSize)
      have HLX := Lib.hid (load_ex0 X_w4.out)
      have HD := Lib.hid (stepDk HF4.out (f2 (Nat.le_refl _)) (by rw [lF_len]; omega) (by simp) (fun b h => by cases h) rfl R_w4.out)
      go_wp2_with first
        | (refine wpList_load_v (by rfl) 25 (.tmp 3) rfl ⟨g, 0, none⟩ (by go_simp) (.agg #[.slice (some ⟨b, o, none⟩) 32 c1, v2]) HL.out ?_)
        | (refine wpList_load_v (by rfl) 32 (.tmp 10) rfl ⟨w3.heap.size, 0, none⟩ (by go_simp) _ HLX.out ?_)
      refine HD.out.mono ?_
      rintro e w5 ⟨u3, u4, zs3, rfl, hz, hr2, hb⟩
      have HOC := Lib.hid (rtn_ones hr2)
      have T_w5 := Lib.hid (T_w4.out.step hb)
      have R_w5 := Lib.hid (RtN.step R_w4.out hb)
      have O_w5 := Lib.hid (O_w4.out.step hb)
      have B_w5 := Lib.hid (stepB B_w4.out hb)
      clear hz hr2 hb HL HLX HD HF4 T_w4 R_w4 O_w4 B_w4 X_w4
      go_upto_region 16 with (refine S2.wpList_store_all (by rfl) 25 (.tmp 11) (.tmp 66) rfl rfl w5.heap.size rfl [u3, u4] rfl 25 [.slice none 0 0, .slice none 0 0] (BK.new w5 _ _) rtSize rfl HOC.out ?_; intro w6 hM hP; have hb := hP.below (S2.below_new w5 _) (Nat.le_refl _); have T_w6 := Lib.hid (T_w5.out.step hb); have R_w6 := Lib.hid (RtN.step R_w5.out hb); have O_w6 := Lib.hid (O_w5.out.step hb); have B_w6 := Lib.hid (stepB B_w5.out hb); clear hM hP hb)
      clear T_w5 R_w5 O_w5 B_w5 HOC
      obtain ⟨V1, hV1⟩ : ∃ V1 : Value, V1 = .slice (some ⟨b, o, none⟩) 32 c1 := ⟨_, rfl⟩
      rw [← hV1] at T_w6 R_w6
      clear hV1
      go_wp2_with fail
      go_loopg [68] 256 (fun gg v wq => ∃ (i : Nat) (v3 : Value) (ys : List BE), i + gg = 256 ∧ v = .int .i64 i ∧ ys.map BE.d = bsF i ∧ RtN (g + 1) wq V1 (lF 32) v3 ys ∧ BK 25 wq g [V1, v3] ∧ S1.Okw wq ∧ Below w.heap.size w wq)
      case atStart => exact ⟨0, _, _, by omega, rfl, rfl, R_w6.out, T_w6.out, O_w6.out, B_w6.out⟩
      case round =>
        obtain ⟨i, v3, ys, hkg, rfl, hys, hr, ht, hok, hb0⟩ := hrel
        have R_wq := Lib.hid hr
        have T_wq := Lib.hid ht
        have O_wq := Lib.hid hok
        have B_wq := Lib.hid hb0
        have HG2 := Lib.hid hkg
        have HYS := Lib.hid hys
        clear hr ht hok hb0 hys T_w6 R_w6 O_w6 B_w6
        cases gk with
        | zero =>
          obtain rfl : i = 256 := by omega
          clear hkg
          have HB := Lib.hid (stepBi f5 (f2 (Nat.le_refl _)) (by have := lF_len 32; omega) (by have := bsF_len 256; omega) (bsF_ml 256) rfl HYS.out R_wq.out)
          have HVB : Hid (bdV ⟨bR, none, 0⟩ = .agg #[.string ⟨#[101, 97, 97]⟩, .string ⟨#[114]⟩, .string ByteArray.empty, .bool false, .slice none 0 0]) := Lib.hid rfl
          rw [HVB.out] at HB
          have HL := Lib.hid (S2.run_load_all T_wq.out Tryz.underlying25 rfl rtSize)
          go_wp2_with (refine wpList_load_v (by rfl) 25 (.tmp 3) rfl ⟨g, 0, none⟩ (by go_simp) (.agg #[V1, v3]) HL.out ?_)
          refine HB.out.mono ?_
          rintro e w7 ⟨u5, u6, zs5, rfl, hz, hr2, hb⟩
          have HOC := Lib.hid (rtn_ones hr2)
          have T_w7 := Lib.hid (T_wq.out.step hb)
          have R_w7 := Lib.hid (RtN.step R_wq.out hb)
          have O_w7 := Lib.hid (O_wq.out.step hb)
          have B_w7 := Lib.hid (stepB B_wq.out hb)
          clear hz hr2 hb HL HB HVB T_wq R_wq O_wq B_wq
          go_upto_region 23 with (refine S2.wpList_store_all (by rfl) 25 (.tmp 15) (.tmp 91) rfl rfl w7.heap.size rfl [u5, u6] rfl 25 [.slice none 0 0, .slice none 0 0] (BK.new w7 _ _) rtSize rfl HOC.out ?_; intro w8 hM hP; have hb := hP.below (S2.below_new w7 _) (Nat.le_refl _); have T_w8 := Lib.hid (T_w7.out.step hb); have R_w8 := Lib.hid (RtN.step R_w7.out hb); have O_w8 := Lib.hid (O_w7.out.step hb); have B_w8 := Lib.hid (stepB B_w7.out hb); clear hM hP hb)
          clear T_w7 R_w7 O_w7 B_w7 HOC
          have hyl : ys.length = 256 := by rw [len_of HYS.out, bsF_len]
          have hn8 : n < 256 := by have := HN.out; omega
          obtain ⟨y, hy⟩ : ∃ y, ys[n]? = some y := ⟨_, List.getElem?_eq_getElem (by omega)⟩
          have hyd : y.d = bF n := by
            have h1 : (ys.map BE.d)[n]? = some y.d := by rw [List.getElem?_map, hy]; rfl
            rw [HYS.out] at h1
            unfold bsF at h1
            rw [List.getElem?_map, List.getElem?_range hn8] at h1
            exact (Option.some.inj h1).symm
          obtain ⟨A8, c8, A2, c2, hv8, hv2, _, _, _, hbi, _⟩ := R_w8.out.ret
          clear hv8
          obtain ⟨b2, o2, hA2, _⟩ := LI.at_ hbi hy
          subst hA2
          have HV3 : Hid (v3 = .slice (some ⟨b2, o2, none⟩) 256 c2) := Lib.hid (by rw [hv2, hyl])
          have HYN := Lib.hid hy
          have j1 : (0 : Int) ≤ (n : Int) := by omega
          have j2 : (n : Int) < 256 := by omega
          have hf6 : bindR (lF 32) (bsF 256) y.d = (bsF 256, 0) := by rw [hyd]; exact f6 hn8
          have hym : y.d.ml = [] := by rw [hyd]; rfl
          have HB6 : Hid (∀ w1, RtN (g + 1) w1 V1 (lF 32) v3 ys → Calls Tryz.prog 16 #[.agg #[V1, v3], bdV y] w1 fun e w9 => ∃ u1 u2, e = .returned (.tuple #[.agg #[u1, u2], .int .i64 0]) ∧ (∀ u ∈ [u1, u2], u.oneCell' = true) ∧ Below w1.heap.size w1 w9) := Lib.hid (fun w1 h => (stepBy hf6 (f2 (Nat.le_refl _)) (by have := lF_len 32; omega) (by have := bsF_len 256; omega) (bsF_ml 256) hym HYS.out h).mono (fun e w9 hh => by
            obtain ⟨u1, u2, zs, he, _, hr6, hb⟩ := hh
            exact ⟨u1, u2, he, rtn_ones hr6, hb⟩))
          obtain ⟨bY, hbY⟩ : ∃ v, v = bdV y := ⟨_, rfl⟩
          rw [← hbY] at HB6
          have HBY := Lib.hid hbY
          clear hf6 hym hbY
          clear hyl hn8 hy hyd hv2 hbi
          obtain ⟨x1, hx1⟩ : ∃ x1, x1 = World.drew w8 := ⟨_, rfl⟩
          have hbD : Below w8.heap.size w8 x1 := by rw [hx1]; exact (Below.refl _ _).drew
          have B_x1 : Hid (Below w.heap.size w x1) := Lib.hid (stepB B_w8.out hbD)
          have T_x1 : Hid (BK 25 x1 g [V1, v3]) := Lib.hid (T_w8.out.step hbD)
          have R_x1 : Hid (RtN (g + 1) x1 V1 (lF 32) v3 ys) := Lib.hid (RtN.step R_w8.out hbD)
          have O_x1 : Hid (S1.Okw x1) := Lib.hid (O_w8.out.step hbD)
          clear B_w8 T_w8 R_w8 O_w8
          have hbd : (fun w' => BK 25 w' g [V1, v3] ∧ RtN (g + 1) w' V1 (lF 32) v3 ys) (World.drew w8) := by rw [← hx1]; exact ⟨T_x1.out, R_x1.out⟩
          have hSD : (fun w' => BK 25 w' g [V1, v3] ∧ RtN (g + 1) w' V1 (lF 32) v3 ys) x1 := ⟨T_x1.out, R_x1.out⟩
          have HWD := Lib.hid hx1
          clear hx1 hbD
          refine wp_region_held_drew (S := fun w' => BK 25 w' g [V1, v3] ∧ RtN (g + 1) w' V1 (lF 32) v3 ys) (by kernel_rfl) hbd (fun hHeld => ?_)
          rw [← HWD.out]
          clear hHeld
          have hHeld := hSD
          clear hSD hbd HWD
          refine wpAnyH_take (i := 0) (v := .agg #[V1, v3]) (get_ops _ _ _ rfl) (by kernel_rfl) (by kernel_rfl) (by kernel_rfl) (fun _ _ _ h => h) (Or.inl ⟨by rfl, fun wS hSw => by (try dsimp only at hSw); exact exec_load 25 _ rfl ⟨g, 0, none⟩ (by go_simp) _ (S2.run_load_all hSw.1 Tryz.underlying25 rfl rtSize)⟩) hHeld ?_
          try simp only [Act.put, List.setIfInBounds_toArray, List.set_cons_zero, List.set_cons_succ]
          refine wpAnyH_take (i := 1) (v := .pointer (some ⟨g, 1, none⟩)) (get_ops _ _ _ rfl) (by kernel_rfl) (by kernel_rfl) (by kernel_rfl) (fun _ _ _ h => h) (Or.inl ⟨by rfl, fun wS hSw => by (try dsimp only at hSw); go_simp⟩) hHeld ?_
          try simp only [Act.put, List.setIfInBounds_toArray, List.set_cons_zero, List.set_cons_succ]
          refine wpAnyH_take (i := 2) (v := .slice (some ⟨b2, o2, none⟩) 256 c2) (get_ops _ _ _ rfl) (by kernel_rfl) (by kernel_rfl) (by kernel_rfl) (fun _ _ _ h => h) (Or.inl ⟨by rfl, fun wS hSw => by (try dsimp only at hSw); have cS := hSw.1.cell 1 rfl; rw [HV3.out] at cS; clear hSw; go_simp⟩) hHeld ?_
          try simp only [Act.put, List.setIfInBounds_toArray, List.set_cons_zero, List.set_cons_succ]
          refine wpAnyH_take (i := 3) (v := .int .u8 (n : Int)) (get_ops _ _ _ rfl) (by kernel_rfl) (by kernel_rfl) (by kernel_rfl) (fun _ _ _ h => h) (Or.inl ⟨by rfl, fun wS hSw => by (try dsimp only at hSw); go_simp⟩) hHeld ?_
          try simp only [Act.put, List.setIfInBounds_toArray, List.set_cons_zero, List.set_cons_succ]
          refine wpAnyH_take (i := 4) (v := .pointer (some ⟨b2, o2 + n * 5, none⟩)) (get_ops _ _ _ rfl) (by kernel_rfl) (by kernel_rfl) (by kernel_rfl) (fun _ _ _ h => h) (Or.inl ⟨by rfl, fun wS hSw => by (try dsimp only at hSw); go_simp⟩) hHeld ?_
          try simp only [Act.put, List.setIfInBounds_toArray, List.set_cons_zero, List.set_cons_succ]
          refine wpAnyH_take (i := 5) (v := bY) (get_ops _ _ _ rfl) (by kernel_rfl) (by kernel_rfl) (by kernel_rfl) (fun _ _ _ h => h) (Or.inl ⟨by rfl, fun wS hSw => by (try dsimp only at hSw); exact exec_load 35 _ rfl ⟨b2, o2 + n * 5, none⟩ (by go_simp) _ (by rw [HBY.out]; exact RtN_load hSw.2 HV3.out HYN.out)⟩) hHeld ?_
          try simp only [Act.put, List.setIfInBounds_toArray, List.set_cons_zero, List.set_cons_succ]
          refine wpAnyH_ready (rs := [6, 10]) (by kernel_rfl) (by simp) ?_
          refine (AllReadyH.cons (get_ops _ _ _ rfl) (fun K hK => ?_) (AllReadyH.cons (get_ops _ _ _ rfl) (fun K hK => ?_) AllReadyH.nil))
          · go_simp
            refine (HB6.out _ R_x1.out).mono ?_
            rintro e x2 ⟨u7, u8, rfl, ho6, hb⟩
            have B_x2 : Hid (Below w.heap.size w x2) := Lib.hid (stepB B_x1.out hb)
            have T_x2 : Hid (BK 25 x2 g [V1, v3]) := Lib.hid (T_x1.out.step hb)
            have R_x2 : Hid (RtN (g + 1) x2 V1 (lF 32) v3 ys) := Lib.hid (RtN.step R_x1.out hb)
            have O_x2 : Hid (S1.Okw x2) := Lib.hid (O_x1.out.step hb)
            clear B_x1 T_x1 R_x1 O_x1
            have HOC6 := Lib.hid ho6
            clear ho6
            clear hHeld hb
            go_wp2_with fail
            refine hK.out _ _ ⟨T_x2.out, R_x2.out⟩ (fun hHeld => ?_)
            clear hK K
            try simp only [Act.put, List.setIfInBounds_toArray, List.set_cons_zero, List.set_cons_succ]
            refine wpAnyH_take (i := 7) (v := .tuple #[.agg #[u7, u8], .int .i64 0]) (get_ops _ _ _ rfl) (by kernel_rfl) (by kernel_rfl) (by kernel_rfl) (fun _ _ _ h => h) (Or.inl ⟨by rfl, fun wS hSw => by (try dsimp only at hSw); go_simp⟩) hHeld ?_
            try simp only [Act.put, List.setIfInBounds_toArray, List.set_cons_zero, List.set_cons_succ]
            refine wpAnyH_take (i := 8) (v := .agg #[u7, u8]) (get_ops _ _ _ rfl) (by kernel_rfl) (by kernel_rfl) (by kernel_rfl) (fun _ _ _ h => h) (Or.inl ⟨by rfl, fun wS hSw => by (try dsimp only at hSw); go_simp⟩) hHeld ?_
            try simp only [Act.put, List.setIfInBounds_toArray, List.set_cons_zero, List.set_cons_succ]
            refine wpAnyH_take (i := 9) (v := .int .i64 0) (get_ops _ _ _ rfl) (by kernel_rfl) (by kernel_rfl) (by kernel_rfl) (fun _ _ _ h => h) (Or.inl ⟨by rfl, fun wS hSw => by (try dsimp only at hSw); go_simp⟩) hHeld ?_
            try simp only [Act.put, List.setIfInBounds_toArray, List.set_cons_zero, List.set_cons_succ]
            refine wpAnyH_ready (rs := [10]) (by kernel_rfl) (by simp) ?_
            refine (AllReadyH.cons (get_ops _ _ _ rfl) (fun K hK => ?_) AllReadyH.nil)
            go_simp
            obtain ⟨bq, hbq⟩ : ∃ n, n = x2.heap.size := ⟨_, rfl⟩
            have HBQ : Hid (g < bq) := Lib.hid (by rw [hbq]; exact T_x2.out.lt)
            have HOFQ : Hid (RtOff bq V1 v3 ys) := Lib.hid (RtN.high R_x2.out (by rw [hbq]; exact Nat.le_refl _))
            refine name_world (C := fun w9 => K _ w9) (x2.alloc (.cells [.slice none 0 0, .slice none 0 0].toArray 25)) ?_
            intro x3 hx3
            have hb : Below x2.heap.size x2 x3 := by rw [hx3]; exact S2.below_new _ _
            have hN : BK 25 x3 bq [.slice none 0 0, .slice none 0 0] := by rw [hx3, hbq]; exact BK.new _ _ _
            have B_x3 : Hid (Below w.heap.size w x3) := Lib.hid (stepB B_x2.out hb)
            have T_x3 : Hid (BK 25 x3 g [V1, v3]) := Lib.hid (T_x2.out.step hb)
            have R_x3 : Hid (RtN (g + 1) x3 V1 (lF 32) v3 ys) := Lib.hid (RtN.step R_x2.out hb)
            have O_x3 : Hid (S1.Okw x3) := Lib.hid (O_x2.out.step hb)
            clear B_x2 T_x2 R_x2 O_x2
            have X_x3 := Lib.hid hN
            try rw [← hbq]
            clear hHeld hb hN hx3 hbq
            refine hK.out _ _ ⟨T_x3.out, R_x3.out⟩ (fun hHeld => ?_)
            clear hK K
            try simp only [Act.put, List.setIfInBounds_toArray, List.set_cons_zero, List.set_cons_succ]
            refine wpAnyH_ready (rs := [11]) (by kernel_rfl) (by simp) ?_
            refine (AllReadyH.cons (get_ops _ _ _ rfl) (fun K hK => ?_) AllReadyH.nil)
            refine S2.wp_store_all 25 _ _ rfl rfl bq (by go_simp) [u7, u8] (by first | rfl | go_simp) 25 [.slice none 0 0, .slice none 0 0] X_x3.out rtSize rfl HOC6.out ?_
            intro x4 hM hP
            have B_x4 := Lib.hid (hP.below B_x3.out (by have := HGW.out; have := HBQ.out; omega))
            have T_x4 := Lib.hid (hP.other T_x3.out (by have := HBQ.out; omega))
            have R_x4 := Lib.hid (RtN.put R_x3.out HOFQ.out hP)
            have O_x4 := Lib.hid (okw_put O_x3.out X_x3.out hP (by have := HGO.out; have := HBQ.out; omega))
            clear hM hP hHeld B_x3 T_x3 R_x3 O_x3 X_x3
            refine hK.out _ _ ⟨T_x4.out, R_x4.out⟩ (fun hHeld => ?_)
            clear hK K
            try simp only [Act.put, List.setIfInBounds_toArray, List.set_cons_zero, List.set_cons_succ]
            refine wpAnyH_take (i := 12) (v := .int .i64 0) (get_ops _ _ _ rfl) (by kernel_rfl) (by kernel_rfl) (by kernel_rfl) (fun _ _ _ h => h) (Or.inl ⟨by rfl, fun wS hSw => by (try dsimp only at hSw); go_simp⟩) hHeld ?_
            try simp only [Act.put, List.setIfInBounds_toArray, List.set_cons_zero, List.set_cons_succ]
            refine wpAnyH_done (by kernel_rfl) ?_ _
            have HL := Lib.hid (S2.run_load_all T_x4.out Tryz.underlying25 rfl rtSize)
            go_wp2_with (refine wpList_load_v (by rfl) 25 (.tmp 3) rfl ⟨g, 0, none⟩ (by go_simp) (.agg #[V1, v3]) HL.out ?_)
            refine (stepCk2 f7 (bsF_ml 256) HYS.out R_x4.out).mono ?_
            rintro e wy ⟨rfl, hb⟩
            have O_wy := Lib.hid (O_x4.out.step hb)
            have B_wy := Lib.hid (stepB B_x4.out hb)
            clear hb
            go_wp2_with fail
            refine (HX.out _ O_wy.out).mono ?_
            rintro e wz ⟨rfl, hb⟩
            have B_wz := Lib.hid (stepB B_wy.out hb)
            clear hb
            go_wp2_with fail
            go_ret
            exact ⟨rfl, B_wz.out⟩
          · go_simp
            obtain ⟨bq, hbq⟩ : ∃ n, n = x1.heap.size := ⟨_, rfl⟩
            have HBQ : Hid (g < bq) := Lib.hid (by rw [hbq]; exact T_x1.out.lt)
            have HOFQ : Hid (RtOff bq V1 v3 ys) := Lib.hid (RtN.high R_x1.out (by rw [hbq]; exact Nat.le_refl _))
            refine name_world (C := fun w9 => K _ w9) (x1.alloc (.cells [.slice none 0 0, .slice none 0 0].toArray 25)) ?_
            intro x2 hx2
            have hb : Below x1.heap.size x1 x2 := by rw [hx2]; exact S2.below_new _ _
            have hN : BK 25 x2 bq [.slice none 0 0, .slice none 0 0] := by rw [hx2, hbq]; exact BK.new _ _ _
            have B_x2 : Hid (Below w.heap.size w x2) := Lib.hid (stepB B_x1.out hb)
            have T_x2 : Hid (BK 25 x2 g [V1, v3]) := Lib.hid (T_x1.out.step hb)
            have R_x2 : Hid (RtN (g + 1) x2 V1 (lF 32) v3 ys) := Lib.hid (RtN.step R_x1.out hb)
            have O_x2 : Hid (S1.Okw x2) := Lib.hid (O_x1.out.step hb)
            clear B_x1 T_x1 R_x1 O_x1
            have X_x2 := Lib.hid hN
            try rw [← hbq]
            clear hHeld hb hN hx2 hbq
            refine hK.out _ _ ⟨T_x2.out, R_x2.out⟩ (fun hHeld => ?_)
            clear hK K
            try simp only [Act.put, List.setIfInBounds_toArray, List.set_cons_zero, List.set_cons_succ]
            refine wpAnyH_ready (rs := [6]) (by kernel_rfl) (by simp) ?_
            refine (AllReadyH.cons (get_ops _ _ _ rfl) (fun K hK => ?_) AllReadyH.nil)
            go_simp
            refine (HB6.out _ R_x2.out).mono ?_
            rintro e x3 ⟨u7, u8, rfl, ho6, hb⟩
            have B_x3 : Hid (Below w.heap.size w x3) := Lib.hid (stepB B_x2.out hb)
            have T_x3 : Hid (BK 25 x3 g [V1, v3]) := Lib.hid (T_x2.out.step hb)
            have R_x3 : Hid (RtN (g + 1) x3 V1 (lF 32) v3 ys) := Lib.hid (RtN.step R_x2.out hb)
            have O_x3 : Hid (S1.Okw x3) := Lib.hid (O_x2.out.step hb)
            have X_x3 : Hid (BK 25 x3 bq [.slice none 0 0, .slice none 0 0]) := Lib.hid (X_x2.out.step hb)
            clear B_x2 T_x2 R_x2 O_x2 X_x2
            have HOC6 := Lib.hid ho6
            clear ho6
            clear hHeld hb
            go_wp2_with fail
            refine hK.out _ _ ⟨T_x3.out, R_x3.out⟩ (fun hHeld => ?_)
            clear hK K
            try simp only [Act.put, List.setIfInBounds_toArray, List.set_cons_zero, List.set_cons_succ]
            refine wpAnyH_take (i := 7) (v := .tuple #[.agg #[u7, u8], .int .i64 0]) (get_ops _ _ _ rfl) (by kernel_rfl) (by kernel_rfl) (by kernel_rfl) (fun _ _ _ h => h) (Or.inl ⟨by rfl, fun wS hSw => by (try dsimp only at hSw); go_simp⟩) hHeld ?_
            try simp only [Act.put, List.setIfInBounds_toArray, List.set_cons_zero, List.set_cons_succ]
            refine wpAnyH_take (i := 8) (v := .agg #[u7, u8]) (get_ops _ _ _ rfl) (by kernel_rfl) (by kernel_rfl) (by kernel_rfl) (fun _ _ _ h => h) (Or.inl ⟨by rfl, fun wS hSw => by (try dsimp only at hSw); go_simp⟩) hHeld ?_
            try simp only [Act.put, List.setIfInBounds_toArray, List.set_cons_zero, List.set_cons_succ]
            refine wpAnyH_take (i := 9) (v := .int .i64 0) (get_ops _ _ _ rfl) (by kernel_rfl) (by kernel_rfl) (by kernel_rfl) (fun _ _ _ h => h) (Or.inl ⟨by rfl, fun wS hSw => by (try dsimp only at hSw); go_simp⟩) hHeld ?_
            try simp only [Act.put, List.setIfInBounds_toArray, List.set_cons_zero, List.set_cons_succ]
            refine wpAnyH_ready (rs := [11]) (by kernel_rfl) (by simp) ?_
            refine (AllReadyH.cons (get_ops _ _ _ rfl) (fun K hK => ?_) AllReadyH.nil)
            refine S2.wp_store_all 25 _ _ rfl rfl bq (by go_simp) [u7, u8] (by first | rfl | go_simp) 25 [.slice none 0 0, .slice none 0 0] X_x3.out rtSize rfl HOC6.out ?_
            intro x4 hM hP
            have B_x4 := Lib.hid (hP.below B_x3.out (by have := HGW.out; have := HBQ.out; omega))
            have T_x4 := Lib.hid (hP.other T_x3.out (by have := HBQ.out; omega))
            have R_x4 := Lib.hid (RtN.put R_x3.out HOFQ.out hP)
            have O_x4 := Lib.hid (okw_put O_x3.out X_x3.out hP (by have := HGO.out; have := HBQ.out; omega))
            clear hM hP hHeld B_x3 T_x3 R_x3 O_x3 X_x3
            refine hK.out _ _ ⟨T_x4.out, R_x4.out⟩ (fun hHeld => ?_)
            clear hK K
            try simp only [Act.put, List.setIfInBounds_toArray, List.set_cons_zero, List.set_cons_succ]
            refine wpAnyH_take (i := 12) (v := .int .i64 0) (get_ops _ _ _ rfl) (by kernel_rfl) (by kernel_rfl) (by kernel_rfl) (fun _ _ _ h => h) (Or.inl ⟨by rfl, fun wS hSw => by (try dsimp only at hSw); go_simp⟩) hHeld ?_
            try simp only [Act.put, List.setIfInBounds_toArray, List.set_cons_zero, List.set_cons_succ]
            refine wpAnyH_done (by kernel_rfl) ?_ _
            have HL := Lib.hid (S2.run_load_all T_x4.out Tryz.underlying25 rfl rtSize)
            go_wp2_with (refine wpList_load_v (by rfl) 25 (.tmp 3) rfl ⟨g, 0, none⟩ (by go_simp) (.agg #[V1, v3]) HL.out ?_)
            refine (stepCk2 f7 (bsF_ml 256) HYS.out R_x4.out).mono ?_
            rintro e wy ⟨rfl, hb⟩
            have O_wy := Lib.hid (O_x4.out.step hb)
            have B_wy := Lib.hid (stepB B_x4.out hb)
            clear hb
            go_wp2_with fail
            refine (HX.out _ O_wy.out).mono ?_
            rintro e wz ⟨rfl, hb⟩
            have B_wz := Lib.hid (stepB B_wy.out hb)
            clear hb
            go_wp2_with fail
            go_ret
            exact ⟨rfl, B_wz.out⟩
        | succ gm =>
          have hlt : i < 256 := by omega
          have HLT := Lib.hid hlt
          have e3 : decide ((i : Int) < 256) = true := decide_eq_true (by omega)
          obtain ⟨hd1, hd2⟩ : Int.tdiv (i : Int) 16 = ((i / 16 : Nat) : Int) ∧ Int.tmod (i : Int) 16 = ((i % 16 : Nat) : Int) := ⟨by rw [Int.tdiv_eq_ediv_of_nonneg (by omega)]; omega, by rw [Int.tmod_eq_emod_of_nonneg (by omega)]; omega⟩
          obtain ⟨q, hq⟩ : ∃ q, i / 16 = q := ⟨_, rfl⟩
          obtain ⟨r, hr⟩ : ∃ r, i % 16 = r := ⟨_, rfl⟩
          rw [hq] at hd1
          rw [hr] at hd2
          have hq16 : q < 16 := by omega
          have hr16 : r < 16 := by omega
          have g1 : (-9223372036854775808 : Int) ≤ (q : Int) ∧ (q : Int) ≤ 9223372036854775807 := by omega
          have hq63 : q ≤ 9223372036854775807 := by omega
          have hr63 : r ≤ 9223372036854775807 := by omega
          have hq47 : 1 * q ≤ 140737488355328 := by omega
          have hr47 : 1 * r ≤ 140737488355328 := by omega
          have hq100 : q ≤ 100 := by omega
          have hr100 : r ≤ 100 := by omega
          obtain ⟨P1, hS1⟩ : ∃ S : ByteArray, S = ⟨(Lib.repeatL [107] q).toArray⟩ := ⟨_, rfl⟩
          obtain ⟨P2, hS2⟩ : ∃ S : ByteArray, S = ⟨(Lib.repeatL [106] r).toArray⟩ := ⟨_, rfl⟩
          have HR1 : Hid (∀ w1, Calls Tryz.prog 23 #[.string ⟨#[107]⟩, .int .i64 (q : Int)] w1 fun e w' => e = .returned (.string P1) ∧ Below w1.heap.size w1 w') := Lib.hid (fun w1 => by rw [hS1]; exact Tryz.strings_Repeat ⟨#[107]⟩ q w1 hq63 hq47)
          have HR2 : Hid (∀ w1, Calls Tryz.prog 23 #[.string ⟨#[106]⟩, .int .i64 (r : Int)] w1 fun e w' => e = .returned (.string P2) ∧ Below w1.heap.size w1 w') := Lib.hid (fun w1 => by rw [hS2]; exact Tryz.strings_Repeat ⟨#[106]⟩ r w1 hr63 hr47)
          have z1 : P1.size ≤ 100 := by
            have : P1.size = q := by
              rw [hS1]
              show (Lib.repeatL [107] q).toArray.size = q
              simp [Lib.repeatL_length]
            rw [this]; exact hq100
          have z2 : P2.size ≤ 100 := by
            have : P2.size = r := by
              rw [hS2]
              show (Lib.repeatL [106] r).toArray.size = r
              simp [Lib.repeatL_length]
            rw [this]; exact hr100
          have HKY : Hid (P1 ++ ⟨#[46]⟩ ++ P2 = kyF i) := Lib.hid (by rw [hS1, hS2, ← hq, ← hr]; rfl)
          have HMP : Hid ((ys ++ [(⟨⟨⟨#[101, 97, 97]⟩, ⟨#[113]⟩, P1 ++ ⟨#[46]⟩ ++ P2, false, []⟩, none, 0⟩ : BE)]).map BE.d = bsF (i + 1)) := Lib.hid (by
            rw [map_app1 HYS.out]
            unfold bsF
            rw [List.range_succ, List.map_append]
            show _ = _ ++ [bF i]
            unfold bF
            rw [← HKY.out])
          have HYL : Hid (ys.length ≤ 1000) := Lib.hid (by have := len_of HYS.out; rw [bsF_len] at this; omega)
          have a1 : wrap64 (q : Int) = q := wrap64_id _ g1.1 g1.2
          clear hkg hlt hq hr hq16 hr16 g1 hq63 hr63 hq47 hr47 hq100 hr100 hS1 hS2 HKY
          go_wp2_with fail
          refine (HR1.out _).mono ?_
          rintro e w7 ⟨rfl, hb⟩
          have T_w7 := Lib.hid (T_wq.out.step hb)
          have R_w7 := Lib.hid (RtN.step R_wq.out hb)
          have O_w7 := Lib.hid (O_wq.out.step hb)
          have B_w7 := Lib.hid (stepB B_wq.out hb)
          clear hb T_wq R_wq O_wq B_wq HR1
          go_wp2_with fail
          refine (HR2.out _).mono ?_
          rintro e w8 ⟨rfl, hb⟩
          have T_w8 := Lib.hid (T_w7.out.step hb)
          have R_w8 := Lib.hid (RtN.step R_w7.out hb)
          have O_w8 := Lib.hid (O_w7.out.step hb)
          have B_w8 := Lib.hid (stepB B_w7.out hb)
          clear hb T_w7 R_w7 O_w7 B_w7 HR2
          have k1 := T_w8.out.cell 1 rfl
          go_upto_region 21 with (at_builtin; go_must (refine wpList_plain rfl (fun K hK => ?_)); refine oper_lst (ad := BE.a) (ps := bps) gB_len gB_one (by decide) _ _ 23 rfl (.agg #[.string ByteArray.empty, .string ByteArray.empty, .string ByteArray.empty, .bool false, .slice none 0 0]) 80 Tryz.underlying23 bdInfo rfl (by decide) (g + 1) v3 ys ⟨⟨⟨#[101, 97, 97]⟩, ⟨#[113]⟩, P1 ++ ⟨#[46]⟩ ++ P2, false, []⟩, none, 0⟩ rfl (Lst.step R_w8.out.b (S2.below_new w8 _)) w8.heap.size rfl (BK.new w8 _ _) (GL.nil _ _ _) (fun b o e => by cases e) (fun b o e _ => by cases e) (Nat.le_trans T_w8.out.lt (S2.below_new w8 _).size) (by have := HYL.out; omega) ?_; intro v9 w9 hl hkp hbel; refine hK _ _ ?_; clear hK K; have R_w9 := Lib.hid (RtN.app (RtN.step R_w8.out (S2.below_new w8 _)) hl hkp (fun k e b o e2 => by cases e2)); have T_w9 : Hid (BK 25 w9 g [V1, v3]) := Lib.hid ((hkp.keep g (Nat.lt_of_lt_of_le T_w8.out.lt (S2.below_new w8 _).size) (R_w8.out.b.1.off (Nat.lt_succ_self g))).trans (T_w8.out.step (S2.below_new w8 _))); have hb9 : Below (g + 1) w8 w9 := hbel (g + 1) w8 ((S2.below_new w8 _).mono T_w8.out.lt) (Nat.le_refl _); have B_w9 : Hid (Below w.heap.size w w9) := Lib.hid (hbel _ _ (stepB B_w8.out (S2.below_new w8 _)) (by have := HGW.out; omega)); have O_w9 := Lib.hid (okw_below O_w8.out hb9 (Nat.lt_succ_of_lt HGO.out)); obtain ⟨A9, c9, hv9, _⟩ := OwnG.ret gB_len hl.1; obtain ⟨n9, hn9⟩ : ∃ n, (ys ++ [(⟨⟨⟨#[101, 97, 97]⟩, ⟨#[113]⟩, P1 ++ ⟨#[46]⟩ ++ P2, false, []⟩, none, 0⟩ : BE)]).length = n := ⟨_, rfl⟩; rw [hn9] at hv9; subst hv9; clear hl hkp hbel hb9 k1; have x1 := T_w9.out.cell 1 rfl; have xf := T_w9.out.free 1; have xl := T_w9.out.lt)
          refine name_world (C := fun w9 => Code.wp _ _ _ _ w9) (w9.setCell ⟨g, 1, none⟩ (.slice A9 n9 c9)) ?_
          intro w10 hw10
          have hP : Put g w9 w10 := by rw [hw10]; exact put_of_set T_w9.out
          have R_w10 := Lib.hid (RtN.put R_w9.out (RtN.low R_w9.out (Nat.lt_succ_self g)) hP)
          have T_w10 : Hid (BK 25 w10 g [V1, .slice A9 n9 c9]) := Lib.hid (by rw [hw10]; exact T_w9.out.set 1 _)
          have O_w10 := Lib.hid (okw_put O_w9.out T_w9.out hP HGO.out)
          have B_w10 := Lib.hid (hP.below B_w9.out (by have := HGW.out; omega))
          clear hP hw10 x1 xf xl hn9 R_w9 T_w9 O_w9 B_w9 T_w8 R_w8 O_w8 B_w8
          go_wp2_with fail
          go_roundg gm
          case measure => omega
          case rel => exact ⟨i + 1, _, _, by have := HG2.out; omega, nxt i (by have := HLT.out; omega), HMP.out, R_w10.out, T_w10.out, O_w10.out, B_w10.out⟩
    | succ gn =>
      have hlt : k < 32 := by omega
      have HLT := Lib.hid hlt
      have e3 : decide ((k : Int) < 32) = true := decide_eq_true (by omega)
      have HD := Lib.hid (stepDk (f1 hlt) (f2 (Nat.le_of_lt hlt)) (by rw [lF_len]; omega) (by simp) (fun b h => by cases h) rfl R_wr.out)
      have HL := Lib.hid (S2.run_load_all T_wr.out Tryz.underlying25 rfl rtSize)
      obtain ⟨hd1, hd2⟩ : Int.tdiv (k : Int) 26 = ((k / 26 : Nat) : Int) ∧ Int.tmod (k : Int) 26 = ((k % 26 : Nat) : Int) := ⟨by rw [Int.tdiv_eq_ediv_of_nonneg (by omega)]; omega, by rw [Int.tmod_eq_emod_of_nonneg (by omega)]; omega⟩
      obtain ⟨q, hq⟩ : ∃ q, k / 26 = q := ⟨_, rfl⟩
      obtain ⟨r, hr⟩ : ∃ r, k % 26 = r := ⟨_, rfl⟩
      rw [hq] at hd1
      rw [hr] at hd2
      have hq26 : q < 26 := by omega
      have hr26 : r < 26 := by omega
      have g1 : (-9223372036854775808 : Int) ≤ (q : Int) ∧ (q : Int) ≤ 9223372036854775807 := by omega
      have g2 : (-9223372036854775808 : Int) ≤ 97 + (q : Int) ∧ 97 + (q : Int) ≤ 9223372036854775807 := by omega
      have g3 : (0 : Int) ≤ 97 + (q : Int) ∧ 97 + (q : Int) ≤ 1000 := by omega
      have g4 : (-9223372036854775808 : Int) ≤ 97 + (r : Int) ∧ 97 + (r : Int) ≤ 9223372036854775807 := by omega
      have g5 : (0 : Int) ≤ 97 + (r : Int) ∧ 97 + (r : Int) ≤ 1000 := by omega
      have a1 : wrap64 (q : Int) = q := wrap64_id _ g1.1 g1.2
      have a2 : wrap64 (97 + (q : Int)) = 97 + q := wrap64_id _ g2.1 g2.2
      have a3 : wrap32 (97 + (q : Int)) = 97 + q := wrap32_small g3.1 g3.2
      have a4 : wrap64 (97 + (r : Int)) = 97 + r := wrap64_id _ g4.1 g4.2
      have a5 : wrap32 (97 + (r : Int)) = 97 + r := wrap32_small g5.1 g5.2
      clear g1 g2 g3 g4 g5
      have a6 := encFq hq26
      have a7 := encFq hr26
      obtain ⟨A, hA⟩ : ∃ A : ByteArray, A = ⟨#[UInt8.ofNat (97 + q)]⟩ := ⟨_, rfl⟩
      obtain ⟨C, hC⟩ : ∃ C : ByteArray, C = ⟨#[UInt8.ofNat (97 + r)]⟩ := ⟨_, rfl⟩
      rw [← hA] at a6
      rw [← hC] at a7
      have sA : A.size = 1 := by rw [hA]; rfl
      have sC : C.size = 1 := by rw [hC]; rfl
      have HNM : Hid ((⟨#[101]⟩ : ByteArray) ++ A ++ C = nmF k) := Lib.hid (by rw [hA, hC, ← hq, ← hr]; exact app3 _ _)
      have HVX : Hid (exV (xF k) = .agg #[.string ((⟨#[101]⟩ : ByteArray) ++ A ++ C), .int .i64 2, .string ByteArray.empty]) := Lib.hid (by rw [HNM.out]; rfl)
      rw [HVX.out] at HD
      clear hkg hlt hq hr hq26 hr26 hA hC HNM HVX
      go_upto_region 6 with fail
      clear a1 a2 a3 a4 a5 a6 a7 hd1 hd2
      go_wp2_with (refine wpList_load_v (by rfl) 25 (.tmp 3) rfl ⟨g, 0, none⟩ (by go_simp) (.agg #[v1, v2]) HL.out ?_)
      refine HD.out.mono ?_
      rintro e w2 ⟨u1, u2, zs, rfl, hz, hr2, hb⟩
      have HOF := Lib.hid (RtN.low hr2 T_wr.out.lt)
      have HOC := Lib.hid (rtn_ones hr2)
      have hz0 : zs = [] := by simpa using hz
      subst hz0
      have R_w2 : Hid (RtN (g + 1) w2 u1 (lF (k + 1)) u2 []) := Lib.hid (RtN.weak hr2 T_wr.out.lt)
      have T_w2 := Lib.hid (T_wr.out.step hb)
      have O_w2 := Lib.hid (O_wr.out.step hb)
      have B_w2 := Lib.hid (stepB B_wr.out hb)
      clear hz hr2 hb R_wr T_wr O_wr B_wr HL HD sA sC
      go_upto_region 7 with (refine S2.wpList_store_all (by rfl) 25 (.tmp 6) (.tmp 39) rfl rfl w2.heap.size rfl [u1, u2] rfl 25 [.slice none 0 0, .slice none 0 0] (BK.new w2 _ _) rtSize rfl HOC.out ?_; intro w3 hM hP; have hb := hP.below (S2.below_new w2 _) (Nat.le_refl _); have X_w3 := Lib.hid hM; have T_w3 := Lib.hid (T_w2.out.step hb); have R_w3 := Lib.hid (RtN.step R_w2.out hb); have O_w3 := Lib.hid (O_w2.out.step hb); have B_w3 := Lib.hid (stepB B_w2.out hb); clear hM hP hb)
      have HL := Lib.hid (S2.run_load_all X_w3.out Tryz.underlying25 rfl rtSize)
      clear R_w2 T_w2 O_w2 B_w2
      go_wp2_with first
        | (refine wpList_load_v (by rfl) 25 (.tmp 6) rfl ⟨w2.heap.size, 0, none⟩ (by go_simp) (.agg #[u1, u2]) HL.out ?_)
        | (refine S2.wpList_store_all (by rfl) 25 (.tmp 3) (.tmp 43) rfl rfl g (by go_simp) [u1, u2] rfl 25 [v1, v2] T_w3.out rtSize rfl HOC.out ?_; intro w4 hM hP; have T_w4 := Lib.hid hM; have R_w4 := Lib.hid (RtN.put R_w3.out (RtN.low R_w3.out (Nat.lt_succ_self _)) hP); have O_w4 := Lib.hid (okw_put O_w3.out T_w3.out hP HGO.out); have B_w4 := Lib.hid (hP.below B_w3.out (by rw [HGW.out]; exact Nat.le_refl _)); clear hM hP)
      go_roundg gn
      case measure => omega
      case rel => exact ⟨k + 1, u1, u2, by have := HG.out; omega, nxt k (by have := HLT.out; omega), R_w4.out, T_w4.out, O_w4.out, B_w4.out⟩
end Go.Proofs.YtglnkpgdmophlaaGreatDoor
