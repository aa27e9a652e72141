/-
  The law ExchangePlays: it answers true. Conditions: the library's bound on short texts holds a number; the lists read as data; lengths fit an int.
-/
import Derived.Test.YtjkhfifnfgchgabGreatDoorEaN
import Derived.Test.YtjkhfifnfgchgabGreatDoorEaM
namespace Go.Proofs.YtjkhfifnfgchgabGreatDoor
open Go.RowKit
open S2 (BK Put get_ops exec_load)

set_option maxRecDepth 20000 in
set_option maxHeartbeats 32000000 in
theorem exchangePlays_walk (A0 : Option Addr) (c0 : Nat) (l0 : List Ex) (B0 : Option Addr) (e0 : Nat) (xs0 : List BE) (Ao : Option Addr) (co : Nat) (os : List EO) (w : World) (ho : S1.Okw w) (h1 : EL w w.heap.size A0 l0) (h2 : BI w w.heap.size B0 xs0) (hc2 : xs0.length ≤ e0) (hz1 : ∀ X ∈ l0, SzX X) (hz2 : ∀ X ∈ xs0, X.d.ml.length ≤ 4398046511104 ∧ SzB X.d)
    (h3 : OI w w.heap.size Ao os) (hz3 : ∀ o ∈ os, SzX o.x ∧ OkB o.b.d) :
    Calls Tryz.prog 3 #[rtV A0 l0.length c0 B0 xs0.length e0, .slice Ao os.length co] w fun e w' => e = .returned (.bool true) ∧ Below w.heap.size w w' := by
  have HX := Lib.hid (fun w1 h => exHolds_any w1 h)
  have HFW := Lib.hid (fun w1 => few_any A0 l0.length c0 B0 xs0.length e0 w1)
  have HC0 := Lib.hid (fun w1 h1 h2 => rCheck24_any A0 c0 l0 B0 e0 xs0 w1 h1 h2 hc2 (fun X h => (hz2 X h).1) ⟨hz1, fun X h => (hz2 X h).2⟩)
  have HO := Lib.hid ho
  have HE := Lib.hid h1
  have HI := Lib.hid h2
  have HOS := Lib.hid h3
  have HZ1 := Lib.hid hz1
  have HZ2 : Hid (∀ b ∈ xs0.map BE.d, OkB b) := Lib.hid (fun b hb => by obtain ⟨X, hX, rfl⟩ := List.mem_map.1 hb; exact hz2 X hX)
  have HZ3 := Lib.hid hz3
  have HCC0 := Lib.hid hc2
  have HVV := Lib.hid (@vr_iff l0 (xs0.map BE.d))
  generalize ckR l0 (xs0.map BE.d) = R at HC0 HVV
  generalize fewR l0.length xs0.length = F at HFW
  unfold rtV at HFW HC0 ⊢
  clear ho h1 h2 h3 hz1 hz2 hz3 hc2
  go_enter Tryz.func3, Tryz.ntmps3
  go_upto_region 1 with fail
  refine name_world (C := fun w1 => Code.wp _ _ _ _ w1) (w.alloc (.cells [.slice A0 l0.length c0, .slice B0 xs0.length e0].toArray 25)) ?_
  intro w1 hw1
  have hb : Below w.heap.size w w1 := by rw [hw1]; exact S2.below_new w _
  have T_w1 : Hid (BK 25 w1 w.heap.size [.slice A0 l0.length c0, .slice B0 xs0.length e0]) := Lib.hid (by rw [hw1]; exact BK.new w _ _)
  have B_w1 := Lib.hid hb
  clear hw1 hb
  have HLT := Lib.hid (S2.run_load_all T_w1.out Tryz.underlying25 rfl rtSize)
  go_wp2_with first
    | (refine wpList_load_v (by rfl) 25 (.tmp 2) rfl ⟨w.heap.size, 0, none⟩ rfl _ HLT.out ?_)
  refine (HFW.out w1).mono ?_
  rintro e w2 ⟨rfl, hb⟩
  have T_w2 := Lib.hid (T_w1.out.step hb)
  have B_w2 := Lib.hid (stepB B_w1.out hb)
  clear hb HLT T_w1 B_w1 HFW
  cases F with
  | false =>
    go_wp2_with fail
    refine (HX.out w2 (HO.out.step B_w2.out)).mono ?_
    rintro e w3 ⟨rfl, hb⟩
    have B_w3 := Lib.hid (stepB B_w2.out hb)
    clear hb
    go_wp2_with fail
    go_ret
    exact ⟨rfl, B_w3.out⟩
  | true =>
  by_cases h60 : 60 < os.length
  · have e1 : decide ((60 : Int) < (os.length : Int)) = true := decide_eq_true (by omega)
    have e1' : decide (60 < os.length) = true := decide_eq_true h60
    clear h60
    go_wp2_with fail
    refine (HX.out w2 (HO.out.step B_w2.out)).mono ?_
    rintro e w3 ⟨rfl, hb⟩
    have B_w3 := Lib.hid (stepB B_w2.out hb)
    clear hb
    go_wp2_with fail
    go_ret
    exact ⟨rfl, B_w3.out⟩
  have e1 : decide ((60 : Int) < (os.length : Int)) = false := decide_eq_false (by omega)
  have e1' : decide (60 < os.length) = false := decide_eq_false h60
  have HNO : Hid (os.length ≤ 60) := Lib.hid (by omega)
  clear h60
  have HLT := Lib.hid (S2.run_load_all T_w2.out Tryz.underlying25 rfl rtSize)
  go_wp2_with first
    | (refine wpList_load_v (by rfl) 25 (.tmp 2) rfl ⟨w.heap.size, 0, none⟩ rfl _ HLT.out ?_)
  refine (HC0.out w2 (GL.step HE.out B_w2.out) (LI.step HI.out B_w2.out)).mono ?_
  rintro e w3 ⟨rfl, hb⟩
  have T_w3 := Lib.hid (T_w2.out.step hb)
  have B_w3 := Lib.hid (stepB B_w2.out hb)
  clear hb HLT T_w2 B_w2 HC0
  by_cases hR : R = 0
  case neg =>
    have q1 : (R != 0) = true := bne_iff_ne.2 hR
    clear hR
    go_wp2_with fail
    refine (HX.out w3 (HO.out.step B_w3.out)).mono ?_
    rintro e w4 ⟨rfl, hb⟩
    have B_w4 := Lib.hid (stepB B_w3.out hb)
    clear hb
    go_wp2_with fail
    go_ret
    exact ⟨rfl, B_w4.out⟩
  have q1 : (R != 0) = false := by rw [hR]; rfl
  have HV0 := Lib.hid (HVV.out.1 hR)
  clear hR HVV
  go_wp2_with fail
  go_loopg [27] os.length (fun g v wr => ∃ (k : Nat) (l : List Ex) (xs : List BE) (A1 : Option Addr) (c1 : Nat) (A2 : Option Addr) (c2 : Nat), k + g = os.length ∧ v = .int .i64 k ∧ BK 25 wr w.heap.size [.slice A1 l.length c1, .slice A2 xs.length c2] ∧ xs.length ≤ c2 ∧ EL wr wr.heap.size A1 l ∧ BI wr wr.heap.size A2 xs ∧ VR l (xs.map BE.d) ∧ (∀ x ∈ l, SzX x) ∧ (∀ b ∈ xs.map BE.d, OkB b) ∧ Below w.heap.size w wr)
  case atStart => exact ⟨0, l0, xs0, A0, c0, B0, e0, by omega, rfl, T_w3.out, HCC0.out, GL.step HE.out B_w3.out, LI.step HI.out B_w3.out, HV0.out, HZ1.out, HZ2.out, B_w3.out⟩
  case round =>
    obtain ⟨k, l, xs, A1, c1, A2, c2, hkg, rfl, ht, hcx, hl, hs, hv, hsx, hob, hb0⟩ := hrel
    have HG := Lib.hid hkg
    have T_wr := Lib.hid ht
    have HCX := Lib.hid hcx
    have L_wr := Lib.hid hl
    have S_wr := Lib.hid hs
    have HV := Lib.hid hv
    have HSX := Lib.hid hsx
    have HOB := Lib.hid hob
    have B_wr := Lib.hid hb0
    clear ht hcx hl hs hv hsx hob hb0 T_w3 B_w3 HV0 HZ1 HZ2 HE HI HCC0
    cases gk with
    | zero =>
      obtain rfl : k = os.length := by omega
      have e3 : decide ((os.length : Int) < (os.length : Int)) = false := decide_eq_false (by omega)
      clear hkg
      go_wp2_with fail
      refine (HX.out wr (HO.out.step B_wr.out)).mono ?_
      rintro e w4 ⟨rfl, hb⟩
      have B_w4 := Lib.hid (stepB B_wr.out hb)
      clear hb
      go_wp2_with fail
      go_ret
      exact ⟨rfl, B_w4.out⟩
    | succ gk =>
      have hlt : k < os.length := by omega
      have e3 : decide ((k : Int) < (os.length : Int)) = true := decide_eq_true (by omega)
      obtain ⟨o, hx⟩ : ∃ o, os[k]? = some o := ⟨_, List.getElem?_eq_getElem hlt⟩
      have hso := LI.more (LI.below HOS.out B_wr.out) B_wr.out.size
      obtain ⟨b, off, hA, hbB, hcl, hpl⟩ := hso.at_ hx
      have HLD := Lib.hid (load_eo hcl)
      have HOZ := Lib.hid (HZ3.out o (List.mem_of_getElem? hx))
      have Y_wr : Hid (BIn wr o.b) := Lib.hid ⟨hpl, HOZ.out.2.1⟩
      subst hA
      have j1 : (0 : Int) ≤ (k : Int) := by omega
      have j2 : (k : Int) < (os.length : Int) := by omega
      clear hx hkg hlt hbB hcl hpl hso
      go_upto_region 7 with first
        | (refine wpList_load_v (by rfl) 37 (.tmp 29) rfl ⟨b, off + k * 9, none⟩ (by go_simp) _ HLD.out ?_)
        | (refine S2.wpList_store_all (by rfl) 37 (.tmp 6) (.tmp 30) rfl rfl wr.heap.size rfl (gO o) rfl 37 (gO EO.zero) (BK.new wr _ _) opSize24 rfl (gO_one _) ?_; intro w2 hM hP; have hb := hP.below (S2.below_new wr _) (Nat.le_refl _); have O_w2 := Lib.hid hM; have BB_w2 := Lib.hid hb; clear hM hP hb)
      refine name_world (C := fun w9 => Code.wp _ _ _ _ w9) ((w2.alloc (.cells [.slice none 0 0, .slice none 0 0].toArray 25)).alloc (.cells [.slice none 0 0, .slice none 0 0].toArray 25)) ?_
      intro w4 hw4
      obtain ⟨u1, u2, hs0, hB0⟩ := S2.two_laid hw4
      have O_w4 := Lib.hid (O_w2.out.step hB0)
      have BB_w4 := Lib.hid (stepB BB_w2.out hB0)
      obtain ⟨g7, hg7⟩ : ∃ g, g = w2.heap.size := ⟨_, rfl⟩
      obtain ⟨g8, hg8⟩ : ∃ g, g = w2.heap.size + 1 := ⟨_, rfl⟩
      obtain ⟨vb, hvb⟩ : ∃ g, g = wr.heap.size := ⟨_, rfl⟩
      have G7_w4 : Hid (BK 25 w4 g7 [.slice none 0 0, .slice none 0 0]) := Lib.hid (by rw [hg7]; exact u1)
      have G8_w4 : Hid (BK 25 w4 g8 [.slice none 0 0, .slice none 0 0]) := Lib.hid (by rw [hg8]; exact u2)
      have HGN : Hid (wr.heap.size ≤ vb ∧ vb < g7 ∧ g7 < g8) := Lib.hid (by have := O_w2.out.lt; omega)
      rw [← hvb] at O_w4
      try rw [← hg8]
      try rw [← hg7]
      try rw [← hvb]
      clear hw4 u1 u2 hs0 hB0 hg7 hg8 hvb HLD O_w2 BB_w2
      have z0 : w4.cell? ⟨vb, 0, none⟩ = some (.int .i64 o.kd) := O_w4.out.cell 0 rfl
      by_cases h0 : o.kd = 0
      · have k0 : (o.kd == 0) = true := by rw [h0]; rfl
        clear h0
        go_upto_region 11 with fail
        clear z0 k0
        obtain ⟨L1, hL⟩ : ∃ L, (declR l o.x).1 = L := ⟨_, rfl⟩
        obtain ⟨S1', hS⟩ : ∃ S, (if (declR l o.x).2 = 0 then xs.map BE.d else []) = S := ⟨_, rfl⟩
        obtain ⟨E1, hE1⟩ : ∃ E, (declR l o.x).2 = E := ⟨_, rfl⟩
        have HF : Hid (∀ w1 (h1 : EL w1 w1.heap.size A1 l) (h2 : BI w1 w1.heap.size A2 xs), Calls Tryz.prog 10 #[rtV A1 l.length c1 A2 xs.length c2, exV o.x] w1 (RetOp L1 S1' E1 w1)) := Lib.hid (fun w1 h1 h2 => by rw [← hL, ← hS, ← hE1]; exact xDeclare_any A1 c1 l A2 c2 xs o.x w1 h1 h2 (few_okB rfl HOB.out) (by have := HV.out.nl; omega) (by have := HV.out.nb; rw [List.length_map] at this; omega) HV.out.asc)
        have HR : Hid (∀ w1 (h1 : EL w1 w1.heap.size A1 l) (h2 : BI w1 w1.heap.size A2 xs), Calls Tryz.prog 11 #[rtV A1 l.length c1 A2 xs.length c2, exV o.x] w1 (RetOp L1 S1' E1 w1)) := Lib.hid (fun w1 h1 h2 => by rw [← hL, ← hS, ← hE1]; exact rDeclare_any A1 c1 l A2 c2 xs o.x w1 h1 h2 (few_okB rfl HOB.out) (by have := HV.out.nl; omega) (by have := HV.out.nb; rw [List.length_map] at this; omega) HV.out.asc HOZ.out.1)
        have hck : ckR L1 S1' = 0 ∧ (∀ x ∈ L1, SzX x) ∧ ∀ b ∈ S1', OkB b := by
          rw [← hL, ← hS]
          refine ⟨?_, fun x hx => ?_, fun b hb => ?_⟩
          · by_cases h0 : (declR l o.x).2 = 0
            · rw [if_pos h0]; exact vr_iff.2 (vr_decl HV.out h0)
            · rw [if_neg h0]
              have : (declR l o.x).1 = [] := declR_bad h0
              rw [this]; exact vr_nil
          · rcases decl_mem hx with rfl | hx
            · exact HOZ.out.1
            · exact HSX.out x hx
          · split at hb
            · exact HOB.out b hb
            · cases hb
        have HCK := Lib.hid hck
        have HV2 : Hid (E1 = 0 → VR L1 S1') := Lib.hid (fun _ => vr_iff.1 hck.1)
        clear hL hS hE1 hck
        unfold rtV at HF HR
        have HLT : Hid ((loadVar 25 ⟨w.heap.size, 0, none⟩).run Tryz.prog w4 = .ok (.agg #[.slice A1 l.length c1, .slice A2 xs.length c2]) w4) := Lib.hid (S2.run_load_all (T_wr.out.keep T_wr.out.lt BB_w4.out) Tryz.underlying25 rfl rtSize)
        have HLX := Lib.hid (load_eox O_w4.out)
        go_wp2_with first
          | (refine wpList_load_v (by rfl) 25 (.tmp 2) rfl ⟨w.heap.size, 0, none⟩ rfl _ HLT.out ?_)
          | (refine wpList_load_v (by rfl) 32 (.tmp 47) rfl ⟨vb, 1, none⟩ rfl _ HLX.out ?_)
        refine (HF.out w4 (GL.more (GL.below L_wr.out BB_w4.out) BB_w4.out.size) (LI.more (LI.below S_wr.out BB_w4.out) BB_w4.out.size)).mono ?_
        rintro e w5 ⟨v1, v2, ys1, rfl, hys, hrt, hb⟩
        have HY1 := Lib.hid hys
        obtain ⟨Aa, ca, Ab, cb, hv1, hv2, hca, hcb, _⟩ := hrt.ret
        subst hv1
        subst hv2
        have HOF1 : Hid (RtOff g7 (.slice Aa L1.length ca) (.slice Ab ys1.length cb) ys1 ∧ RtOff g8 (.slice Aa L1.length ca) (.slice Ab ys1.length cb) ys1) := Lib.hid ⟨hrt.low G7_w4.out.lt, hrt.low G8_w4.out.lt⟩
        have R1_w5 := Lib.hid hrt
        have O_w5 := Lib.hid (O_w4.out.step hb)
        have G7_w5 := Lib.hid (G7_w4.out.step hb)
        have G8_w5 := Lib.hid (G8_w4.out.step hb)
        have BB_w5 := Lib.hid (stepB BB_w4.out hb)
        clear hys hrt hb HLT HLX hca hcb
        go_upto_region 12 with first
          | (refine S2.wpList_store_all (by rfl) 25 (.tmp 7) (.tmp 50) rfl rfl g7 rfl [.slice Aa L1.length ca, .slice Ab ys1.length cb] rfl 25 [.slice none 0 0, .slice none 0 0] G7_w5.out rtSize rfl (ones rfl) ?_; intro w6 hM hP; have G7_w6 := Lib.hid hM; have O_w6 := Lib.hid (hP.other O_w5.out (by have := HGN.out; omega)); have G8_w6 := Lib.hid (hP.other G8_w5.out (by have := HGN.out; omega)); have BB_w6 := Lib.hid (hP.below BB_w5.out (by have := HGN.out; omega)); have R1_w6 := Lib.hid (RtN.put R1_w5.out HOF1.out.1 hP); clear hM hP)
        clear O_w5 G7_w5 G8_w5 BB_w5 R1_w5 O_w4 G7_w4 G8_w4 BB_w4
        have HLT : Hid ((loadVar 25 ⟨w.heap.size, 0, none⟩).run Tryz.prog w6 = .ok (.agg #[.slice A1 l.length c1, .slice A2 xs.length c2]) w6) := Lib.hid (S2.run_load_all (T_wr.out.keep T_wr.out.lt BB_w6.out) Tryz.underlying25 rfl rtSize)
        have HLX := Lib.hid (load_eox O_w6.out)
        go_wp2_with first
          | (refine wpList_load_v (by rfl) 25 (.tmp 2) rfl ⟨w.heap.size, 0, none⟩ rfl _ HLT.out ?_)
          | (refine wpList_load_v (by rfl) 32 (.tmp 54) rfl ⟨vb, 1, none⟩ rfl _ HLX.out ?_)
        refine (HR.out w6 (GL.more (GL.below L_wr.out BB_w6.out) BB_w6.out.size) (LI.more (LI.below S_wr.out BB_w6.out) BB_w6.out.size)).mono ?_
        rintro e w7 ⟨v1, v2, ys2, rfl, hys, hrt, hb⟩
        have HY2 := Lib.hid hys
        obtain ⟨Ba, da, Bb, db, hv1, hv2, hda, hdb, _⟩ := hrt.ret
        subst hv1
        subst hv2
        have HDB := Lib.hid hdb
        have HOF2 : Hid (RtOff g8 (.slice Ba L1.length da) (.slice Bb ys2.length db) ys2) := Lib.hid (hrt.low G8_w6.out.lt)
        have R2_w7 := Lib.hid hrt
        have R1_w7 := Lib.hid (R1_w6.out.step hb)
        have G7_w7 := Lib.hid (G7_w6.out.step hb)
        have G8_w7 := Lib.hid (G8_w6.out.step hb)
        have BB_w7 := Lib.hid (stepB BB_w6.out hb)
        have HW6 : Hid (w.heap.size < w6.heap.size) := Lib.hid (Nat.lt_of_lt_of_le T_wr.out.lt BB_w6.out.size)
        clear hys hrt hb HLT HLX hda hdb O_w6 G7_w6 G8_w6 BB_w6 R1_w6
        go_upto_region 19 with first
          | (refine S2.wpList_store_all (by rfl) 25 (.tmp 8) (.tmp 57) rfl rfl g8 rfl [.slice Ba L1.length da, .slice Bb ys2.length db] rfl 25 [.slice none 0 0, .slice none 0 0] G8_w7.out rtSize rfl (ones rfl) ?_; intro w8 hM hP; have G8_w8 := Lib.hid hM; have G7_w8 := Lib.hid (hP.other G7_w7.out (by have := HGN.out; omega)); have BB_w8 := Lib.hid (hP.below BB_w7.out (by have := HGN.out; omega)); have R1_w8 := Lib.hid (RtN.put R1_w7.out HOF1.out.2 hP); have R2_w8 := Lib.hid (RtN.put R2_w7.out HOF2.out hP); clear hM hP)
        clear G7_w7 G8_w7 BB_w7 R1_w7 R2_w7
        have e5 : (E1 != E1) = false := by simp
        have HL7 := Lib.hid (S2.run_load_all G7_w8.out Tryz.underlying25 rfl rtSize)
        have HL8 := Lib.hid (S2.run_load_all G8_w8.out Tryz.underlying25 rfl rtSize)
        obtain ⟨_, _, _, _, k1, k2, _, _, l1, l2, _⟩ := R1_w8.out.ret
        obtain ⟨_, _, _, _, k3, k4, _, _, l3, l4, _⟩ := R2_w8.out.ret
        simp only [Value.slice.injEq, true_and] at k1 k2 k3 k4
        obtain ⟨rfl, rfl⟩ := k1
        obtain ⟨rfl, rfl⟩ := k2
        obtain ⟨rfl, rfl⟩ := k3
        obtain ⟨rfl, rfl⟩ := k4
        have hvl := (vr_iff.1 HCK.out.1).nl
        have hvb := (vr_iff.1 HCK.out.1).nb
        have hyl : ys1.length ≤ 256 := by rw [← HY1.out, List.length_map] at hvb; exact hvb
        have HSM := Lib.hid (sameR_any Aa ca L1 Ab cb ys1 Ba da Bb db ys2 w8 l1 l2 l3 l4 (few_okB HY1.out HCK.out.2.2) (few_okB HY2.out HCK.out.2.2) (by rw [HY1.out, HY2.out]) (by omega) (by omega))
        have HCQ := Lib.hid (fun w1 h1 h2 => rCheck24_any Ba da L1 Bb db ys2 w1 h1 h2 HDB.out (few_okB HY2.out HCK.out.2.2) ⟨HCK.out.2.1, sz_okB HY2.out HCK.out.2.2⟩)
        rw [HY2.out, HCK.out.1] at HCQ
        unfold rtV at HSM HCQ
        clear l1 l2 l3 l4 hvl hvb hyl
        go_wp2_with first
          | (refine wpList_load_v (by rfl) 25 (.tmp 7) rfl ⟨g7, 0, none⟩ rfl _ HL7.out ?_)
          | (refine wpList_load_v (by rfl) 25 (.tmp 8) rfl ⟨g8, 0, none⟩ rfl _ HL8.out ?_)
        refine HSM.out.mono ?_
        rintro e w9 ⟨rfl, hb⟩
        have R2_w9 := Lib.hid (R2_w8.out.step hb)
        have G8_w9 := Lib.hid (G8_w8.out.step hb)
        have BB_w9 := Lib.hid (stepB BB_w8.out hb)
        clear hb HL7 HL8 HSM R1_w8 R2_w8 G7_w8 G8_w8 BB_w8
        have HL8 := Lib.hid (S2.run_load_all G8_w9.out Tryz.underlying25 rfl rtSize)
        obtain ⟨_, _, _, _, k3, k4, _, _, l3, l4, _⟩ := R2_w9.out.ret
        simp only [Value.slice.injEq, true_and] at k3 k4
        obtain ⟨rfl, rfl⟩ := k3
        obtain ⟨rfl, rfl⟩ := k4
        have HCQ2 := Lib.hid (HCQ.out w9 l3 l4)
        clear l3 l4 HCQ
        go_wp2_with first
          | (refine wpList_load_v (by rfl) 25 (.tmp 8) rfl ⟨g8, 0, none⟩ rfl _ HL8.out ?_)
        refine HCQ2.out.mono ?_
        rintro e wa ⟨rfl, hb⟩
        have R2_wa := Lib.hid (R2_w9.out.step hb)
        have G8_wa := Lib.hid (G8_w9.out.step hb)
        have BB_wa := Lib.hid (stepB BB_w9.out hb)
        clear hb HL8 HCQ2 R2_w9 G8_w9 BB_w9
        have B_wa := Lib.hid (stepB B_wr.out BB_wa.out)
        have T_wa := Lib.hid (T_wr.out.keep T_wr.out.lt BB_wa.out)
        have HL8 := Lib.hid (S2.run_load_all G8_wa.out Tryz.underlying25 rfl rtSize)
        by_cases hE : E1 = 0
        · have e6 : (E1 == 0) = true := by rw [hE]; rfl
          have HVN := Lib.hid (HV2.out hE)
          clear hE
          go_wp2_with first
            | (refine wpList_load_v (by rfl) 25 (.tmp 8) rfl ⟨g8, 0, none⟩ rfl _ HL8.out ?_)
            | (refine S2.wpList_store_all (by rfl) 25 (.tmp 2) (.tmp 107) rfl rfl w.heap.size rfl [.slice Ba L1.length da, .slice Bb ys2.length db] rfl 25 _ T_wa.out rtSize rfl (ones rfl) ?_; intro wb hM hP; have T_wb := Lib.hid hM; have B_wb := Lib.hid (hP.below B_wa.out (Nat.le_refl _)); have R2_wb := Lib.hid (RtN.put R2_wa.out (R2_wa.out.low HW6.out) hP); clear hM hP)
          obtain ⟨_, _, _, _, k3, k4, _, _, l3, l4, _⟩ := R2_wb.out.ret
          simp only [Value.slice.injEq, true_and] at k3 k4
          obtain ⟨rfl, rfl⟩ := k3
          obtain ⟨rfl, rfl⟩ := k4
          have HL3 := Lib.hid l3
          have HL4 := Lib.hid l4
          clear l3 l4
          go_roundg gk
          case measure => omega
          case rel => exact ⟨k + 1, L1, ys2, Ba, da, Bb, db, by have := HG.out; omega, nxt k (by have := HG.out; have := HNO.out; omega), T_wb.out, HDB.out, HL3.out, HL4.out, by rw [HY2.out]; exact HVN.out, HCK.out.2.1, by rw [HY2.out]; exact HCK.out.2.2, B_wb.out⟩
        · have e6 : (E1 == 0) = false := beq_eq_false_iff_ne.2 hE
          clear hE
          go_wp2_with fail
          go_roundg gk
          case measure => omega
          case rel => exact ⟨k + 1, l, xs, A1, c1, A2, c2, by have := HG.out; omega, nxt k (by have := HG.out; have := HNO.out; omega), T_wa.out, HCX.out, GL.more (GL.below L_wr.out BB_wa.out) BB_wa.out.size, LI.more (LI.below S_wr.out BB_wa.out) BB_wa.out.size, HV.out, HSX.out, HOB.out, B_wa.out⟩
      have k0 : (o.kd == 0) = false := beq_eq_false_iff_ne.2 h0
      by_cases h1 : o.kd = 1
      · have k1 : (o.kd == 1) = true := by rw [h1]; rfl
        clear h0 h1
        go_upto_region 14 with fail
        clear z0 k0 k1
        obtain ⟨L1, hL⟩ : ∃ L, (if (bindR l (xs.map BE.d) o.b.d).2 = 0 then l else []) = L := ⟨_, rfl⟩
        obtain ⟨S1', hS⟩ : ∃ S, (bindR l (xs.map BE.d) o.b.d).1 = S := ⟨_, rfl⟩
        obtain ⟨E1, hE1⟩ : ∃ E, (bindR l (xs.map BE.d) o.b.d).2 = E := ⟨_, rfl⟩
        have HF : Hid (∀ w1 (h1 : EL w1 w1.heap.size A1 l) (h2 : BI w1 w1.heap.size A2 xs) (h3 : BIn w1 o.b), Calls Tryz.prog 12 #[rtV A1 l.length c1 A2 xs.length c2, bdV o.b] w1 (RetOp L1 S1' E1 w1)) := Lib.hid (fun w1 h1 h2 h3 => by rw [← hL, ← hS, ← hE1]; exact xBind_any A1 c1 l A2 c2 xs o.b w1 h1 h2 (few_okB rfl HOB.out) (by have := HV.out.nl; omega) (by have := HV.out.nb; rw [List.length_map] at this; omega) HV.out.asc h3)
        have HR : Hid (∀ w1 (h1 : EL w1 w1.heap.size A1 l) (h2 : BI w1 w1.heap.size A2 xs) (h3 : BIn w1 o.b), Calls Tryz.prog 13 #[rtV A1 l.length c1 A2 xs.length c2, bdV o.b] w1 (RetOp L1 S1' E1 w1)) := Lib.hid (fun w1 h1 h2 h3 => by rw [← hL, ← hS, ← hE1]; exact rBind_any A1 c1 l A2 c2 xs o.b w1 h1 h2 (few_okB rfl HOB.out) (by have := HV.out.nl; omega) (by have := HV.out.nb; rw [List.length_map] at this; omega) HOZ.out.2.2 h3)
        have hck : ckR L1 S1' = 0 ∧ (∀ x ∈ L1, SzX x) ∧ ∀ b ∈ S1', OkB b := by
          rw [← hL, ← hS]
          refine ⟨?_, fun x hx => ?_, fun b hb => ?_⟩
          · by_cases h0 : (bindR l (xs.map BE.d) o.b.d).2 = 0
            · rw [if_pos h0]; exact vr_iff.2 (vr_bind HV.out h0)
            · rw [if_neg h0]
              have : (bindR l (xs.map BE.d) o.b.d).1 = [] := bindR_bad h0
              rw [this]; exact vr_nil
          · split at hx
            · exact HSX.out x hx
            · cases hx
          · rcases bind_mem hb with rfl | hb
            · exact HOZ.out.2
            · exact HOB.out b hb
        have HCK := Lib.hid hck
        have HV2 : Hid (E1 = 0 → VR L1 S1') := Lib.hid (fun _ => vr_iff.1 hck.1)
        clear hL hS hE1 hck
        unfold rtV at HF HR
        have HLT : Hid ((loadVar 25 ⟨w.heap.size, 0, none⟩).run Tryz.prog w4 = .ok (.agg #[.slice A1 l.length c1, .slice A2 xs.length c2]) w4) := Lib.hid (S2.run_load_all (T_wr.out.keep T_wr.out.lt BB_w4.out) Tryz.underlying25 rfl rtSize)
        have HLB := Lib.hid (load_eob O_w4.out)
        go_wp2_with first
          | (refine wpList_load_v (by rfl) 25 (.tmp 2) rfl ⟨w.heap.size, 0, none⟩ rfl _ HLT.out ?_)
          | (refine wpList_load_v (by rfl) 35 (.tmp 63) rfl ⟨vb, 4, none⟩ rfl _ HLB.out ?_)
        refine (HF.out w4 (GL.more (GL.below L_wr.out BB_w4.out) BB_w4.out.size) (LI.more (LI.below S_wr.out BB_w4.out) BB_w4.out.size) (BIn.step Y_wr.out BB_w4.out)).mono ?_
        rintro e w5 ⟨v1, v2, ys1, rfl, hys, hrt, hb⟩
        have HY1 := Lib.hid hys
        obtain ⟨Aa, ca, Ab, cb, hv1, hv2, hca, hcb, _⟩ := hrt.ret
        subst hv1
        subst hv2
        have HOF1 : Hid (RtOff g7 (.slice Aa L1.length ca) (.slice Ab ys1.length cb) ys1 ∧ RtOff g8 (.slice Aa L1.length ca) (.slice Ab ys1.length cb) ys1) := Lib.hid ⟨hrt.low G7_w4.out.lt, hrt.low G8_w4.out.lt⟩
        have R1_w5 := Lib.hid hrt
        have O_w5 := Lib.hid (O_w4.out.step hb)
        have G7_w5 := Lib.hid (G7_w4.out.step hb)
        have G8_w5 := Lib.hid (G8_w4.out.step hb)
        have BB_w5 := Lib.hid (stepB BB_w4.out hb)
        clear hys hrt hb HLT HLB hca hcb
        go_upto_region 15 with first
          | (refine S2.wpList_store_all (by rfl) 25 (.tmp 7) (.tmp 66) rfl rfl g7 rfl [.slice Aa L1.length ca, .slice Ab ys1.length cb] rfl 25 [.slice none 0 0, .slice none 0 0] G7_w5.out rtSize rfl (ones rfl) ?_; intro w6 hM hP; have G7_w6 := Lib.hid hM; have O_w6 := Lib.hid (hP.other O_w5.out (by have := HGN.out; omega)); have G8_w6 := Lib.hid (hP.other G8_w5.out (by have := HGN.out; omega)); have BB_w6 := Lib.hid (hP.below BB_w5.out (by have := HGN.out; omega)); have R1_w6 := Lib.hid (RtN.put R1_w5.out HOF1.out.1 hP); clear hM hP)
        clear O_w5 G7_w5 G8_w5 BB_w5 R1_w5 O_w4 G7_w4 G8_w4 BB_w4
        have HLT : Hid ((loadVar 25 ⟨w.heap.size, 0, none⟩).run Tryz.prog w6 = .ok (.agg #[.slice A1 l.length c1, .slice A2 xs.length c2]) w6) := Lib.hid (S2.run_load_all (T_wr.out.keep T_wr.out.lt BB_w6.out) Tryz.underlying25 rfl rtSize)
        have HLB := Lib.hid (load_eob O_w6.out)
        go_wp2_with first
          | (refine wpList_load_v (by rfl) 25 (.tmp 2) rfl ⟨w.heap.size, 0, none⟩ rfl _ HLT.out ?_)
          | (refine wpList_load_v (by rfl) 35 (.tmp 70) rfl ⟨vb, 4, none⟩ rfl _ HLB.out ?_)
        refine (HR.out w6 (GL.more (GL.below L_wr.out BB_w6.out) BB_w6.out.size) (LI.more (LI.below S_wr.out BB_w6.out) BB_w6.out.size) (BIn.step Y_wr.out BB_w6.out)).mono ?_
        rintro e w7 ⟨v1, v2, ys2, rfl, hys, hrt, hb⟩
        have HY2 := Lib.hid hys
        obtain ⟨Ba, da, Bb, db, hv1, hv2, hda, hdb, _⟩ := hrt.ret
        subst hv1
        subst hv2
        have HDB := Lib.hid hdb
        have HOF2 : Hid (RtOff g8 (.slice Ba L1.length da) (.slice Bb ys2.length db) ys2) := Lib.hid (hrt.low G8_w6.out.lt)
        have R2_w7 := Lib.hid hrt
        have R1_w7 := Lib.hid (R1_w6.out.step hb)
        have G7_w7 := Lib.hid (G7_w6.out.step hb)
        have G8_w7 := Lib.hid (G8_w6.out.step hb)
        have BB_w7 := Lib.hid (stepB BB_w6.out hb)
        have HW6 : Hid (w.heap.size < w6.heap.size) := Lib.hid (Nat.lt_of_lt_of_le T_wr.out.lt BB_w6.out.size)
        clear hys hrt hb HLT HLB hda hdb O_w6 G7_w6 G8_w6 BB_w6 R1_w6
        go_upto_region 19 with first
          | (refine S2.wpList_store_all (by rfl) 25 (.tmp 8) (.tmp 73) rfl rfl g8 rfl [.slice Ba L1.length da, .slice Bb ys2.length db] rfl 25 [.slice none 0 0, .slice none 0 0] G8_w7.out rtSize rfl (ones rfl) ?_; intro w8 hM hP; have G8_w8 := Lib.hid hM; have G7_w8 := Lib.hid (hP.other G7_w7.out (by have := HGN.out; omega)); have BB_w8 := Lib.hid (hP.below BB_w7.out (by have := HGN.out; omega)); have R1_w8 := Lib.hid (RtN.put R1_w7.out HOF1.out.2 hP); have R2_w8 := Lib.hid (RtN.put R2_w7.out HOF2.out hP); clear hM hP)
        clear G7_w7 G8_w7 BB_w7 R1_w7 R2_w7
        have e5 : (E1 != E1) = false := by simp
        have HL7 := Lib.hid (S2.run_load_all G7_w8.out Tryz.underlying25 rfl rtSize)
        have HL8 := Lib.hid (S2.run_load_all G8_w8.out Tryz.underlying25 rfl rtSize)
        obtain ⟨_, _, _, _, k1, k2, _, _, l1, l2, _⟩ := R1_w8.out.ret
        obtain ⟨_, _, _, _, k3, k4, _, _, l3, l4, _⟩ := R2_w8.out.ret
        simp only [Value.slice.injEq, true_and] at k1 k2 k3 k4
        obtain ⟨rfl, rfl⟩ := k1
        obtain ⟨rfl, rfl⟩ := k2
        obtain ⟨rfl, rfl⟩ := k3
        obtain ⟨rfl, rfl⟩ := k4
        have hvl := (vr_iff.1 HCK.out.1).nl
        have hvb := (vr_iff.1 HCK.out.1).nb
        have hyl : ys1.length ≤ 256 := by rw [← HY1.out, List.length_map] at hvb; exact hvb
        have HSM := Lib.hid (sameR_any Aa ca L1 Ab cb ys1 Ba da Bb db ys2 w8 l1 l2 l3 l4 (few_okB HY1.out HCK.out.2.2) (few_okB HY2.out HCK.out.2.2) (by rw [HY1.out, HY2.out]) (by omega) (by omega))
        have HCQ := Lib.hid (fun w1 h1 h2 => rCheck24_any Ba da L1 Bb db ys2 w1 h1 h2 HDB.out (few_okB HY2.out HCK.out.2.2) ⟨HCK.out.2.1, sz_okB HY2.out HCK.out.2.2⟩)
        rw [HY2.out, HCK.out.1] at HCQ
        unfold rtV at HSM HCQ
        clear l1 l2 l3 l4 hvl hvb hyl
        go_wp2_with first
          | (refine wpList_load_v (by rfl) 25 (.tmp 7) rfl ⟨g7, 0, none⟩ rfl _ HL7.out ?_)
          | (refine wpList_load_v (by rfl) 25 (.tmp 8) rfl ⟨g8, 0, none⟩ rfl _ HL8.out ?_)
        refine HSM.out.mono ?_
        rintro e w9 ⟨rfl, hb⟩
        have R2_w9 := Lib.hid (R2_w8.out.step hb)
        have G8_w9 := Lib.hid (G8_w8.out.step hb)
        have BB_w9 := Lib.hid (stepB BB_w8.out hb)
        clear hb HL7 HL8 HSM R1_w8 R2_w8 G7_w8 G8_w8 BB_w8
        have HL8 := Lib.hid (S2.run_load_all G8_w9.out Tryz.underlying25 rfl rtSize)
        obtain ⟨_, _, _, _, k3, k4, _, _, l3, l4, _⟩ := R2_w9.out.ret
        simp only [Value.slice.injEq, true_and] at k3 k4
        obtain ⟨rfl, rfl⟩ := k3
        obtain ⟨rfl, rfl⟩ := k4
        have HCQ2 := Lib.hid (HCQ.out w9 l3 l4)
        clear l3 l4 HCQ
        go_wp2_with first
          | (refine wpList_load_v (by rfl) 25 (.tmp 8) rfl ⟨g8, 0, none⟩ rfl _ HL8.out ?_)
        refine HCQ2.out.mono ?_
        rintro e wa ⟨rfl, hb⟩
        have R2_wa := Lib.hid (R2_w9.out.step hb)
        have G8_wa := Lib.hid (G8_w9.out.step hb)
        have BB_wa := Lib.hid (stepB BB_w9.out hb)
        clear hb HL8 HCQ2 R2_w9 G8_w9 BB_w9
        have B_wa := Lib.hid (stepB B_wr.out BB_wa.out)
        have T_wa := Lib.hid (T_wr.out.keep T_wr.out.lt BB_wa.out)
        have HL8 := Lib.hid (S2.run_load_all G8_wa.out Tryz.underlying25 rfl rtSize)
        by_cases hE : E1 = 0
        · have e6 : (E1 == 0) = true := by rw [hE]; rfl
          have HVN := Lib.hid (HV2.out hE)
          clear hE
          go_wp2_with first
            | (refine wpList_load_v (by rfl) 25 (.tmp 8) rfl ⟨g8, 0, none⟩ rfl _ HL8.out ?_)
            | (refine S2.wpList_store_all (by rfl) 25 (.tmp 2) (.tmp 107) rfl rfl w.heap.size rfl [.slice Ba L1.length da, .slice Bb ys2.length db] rfl 25 _ T_wa.out rtSize rfl (ones rfl) ?_; intro wb hM hP; have T_wb := Lib.hid hM; have B_wb := Lib.hid (hP.below B_wa.out (Nat.le_refl _)); have R2_wb := Lib.hid (RtN.put R2_wa.out (R2_wa.out.low HW6.out) hP); clear hM hP)
          obtain ⟨_, _, _, _, k3, k4, _, _, l3, l4, _⟩ := R2_wb.out.ret
          simp only [Value.slice.injEq, true_and] at k3 k4
          obtain ⟨rfl, rfl⟩ := k3
          obtain ⟨rfl, rfl⟩ := k4
          have HL3 := Lib.hid l3
          have HL4 := Lib.hid l4
          clear l3 l4
          go_roundg gk
          case measure => omega
          case rel => exact ⟨k + 1, L1, ys2, Ba, da, Bb, db, by have := HG.out; omega, nxt k (by have := HG.out; have := HNO.out; omega), T_wb.out, HDB.out, HL3.out, HL4.out, by rw [HY2.out]; exact HVN.out, HCK.out.2.1, by rw [HY2.out]; exact HCK.out.2.2, B_wb.out⟩
        · have e6 : (E1 == 0) = false := beq_eq_false_iff_ne.2 hE
          clear hE
          go_wp2_with fail
          go_roundg gk
          case measure => omega
          case rel => exact ⟨k + 1, l, xs, A1, c1, A2, c2, by have := HG.out; omega, nxt k (by have := HG.out; have := HNO.out; omega), T_wa.out, HCX.out, GL.more (GL.below L_wr.out BB_wa.out) BB_wa.out.size, LI.more (LI.below S_wr.out BB_wa.out) BB_wa.out.size, HV.out, HSX.out, HOB.out, B_wa.out⟩
      have k1 : (o.kd == 1) = false := beq_eq_false_iff_ne.2 h1
      by_cases h2 : o.kd = 2
      · have k2 : (o.kd == 2) = true := by rw [h2]; rfl
        clear h0 h1 h2
        go_upto_region 17 with fail
        clear z0 k0 k1 k2
        obtain ⟨L1, hL⟩ : ∃ L, (if (unbR (xs.map BE.d) o.b.d).2 = 0 then l else []) = L := ⟨_, rfl⟩
        obtain ⟨S1', hS⟩ : ∃ S, (unbR (xs.map BE.d) o.b.d).1 = S := ⟨_, rfl⟩
        obtain ⟨E1, hE1⟩ : ∃ E, (unbR (xs.map BE.d) o.b.d).2 = E := ⟨_, rfl⟩
        have HF : Hid (∀ w1 (h1 : EL w1 w1.heap.size A1 l) (h2 : BI w1 w1.heap.size A2 xs) (h3 : BIn w1 o.b), Calls Tryz.prog 14 #[rtV A1 l.length c1 A2 xs.length c2, bdV o.b] w1 (RetOp L1 S1' E1 w1)) := Lib.hid (fun w1 h1 h2 h3 => by rw [← hL, ← hS, ← hE1]; exact xUnbind_any A1 c1 l A2 c2 xs o.b w1 h1 h2 (few_okB rfl HOB.out) (by have := HV.out.nl; omega) (by have := HV.out.nb; rw [List.length_map] at this; omega) h3)
        have HR : Hid (∀ w1 (h1 : EL w1 w1.heap.size A1 l) (h2 : BI w1 w1.heap.size A2 xs) (h3 : BIn w1 o.b), Calls Tryz.prog 15 #[rtV A1 l.length c1 A2 xs.length c2, bdV o.b] w1 (RetOp L1 S1' E1 w1)) := Lib.hid (fun w1 h1 h2 h3 => by rw [← hL, ← hS, ← hE1]; exact rUnbind_any A1 c1 l A2 c2 xs o.b w1 h1 h2 (few_okB rfl HOB.out) (by have := HV.out.nl; omega) (by have := HV.out.nb; rw [List.length_map] at this; omega) h3)
        have hck : ckR L1 S1' = 0 ∧ (∀ x ∈ L1, SzX x) ∧ ∀ b ∈ S1', OkB b := by
          rw [← hL, ← hS]
          refine ⟨?_, fun x hx => ?_, fun b hb => ?_⟩
          · by_cases h0 : (unbR (xs.map BE.d) o.b.d).2 = 0
            · rw [if_pos h0]; exact vr_iff.2 (vr_unb HV.out h0)
            · rw [if_neg h0]
              have : (unbR (xs.map BE.d) o.b.d).1 = [] := unbR_bad h0
              rw [this]; exact vr_nil
          · split at hx
            · exact HSX.out x hx
            · cases hx
          · exact HOB.out b (unb_mem hb)
        have HCK := Lib.hid hck
        have HV2 : Hid (E1 = 0 → VR L1 S1') := Lib.hid (fun _ => vr_iff.1 hck.1)
        clear hL hS hE1 hck
        unfold rtV at HF HR
        have HLT : Hid ((loadVar 25 ⟨w.heap.size, 0, none⟩).run Tryz.prog w4 = .ok (.agg #[.slice A1 l.length c1, .slice A2 xs.length c2]) w4) := Lib.hid (S2.run_load_all (T_wr.out.keep T_wr.out.lt BB_w4.out) Tryz.underlying25 rfl rtSize)
        have HLB := Lib.hid (load_eob O_w4.out)
        go_wp2_with first
          | (refine wpList_load_v (by rfl) 25 (.tmp 2) rfl ⟨w.heap.size, 0, none⟩ rfl _ HLT.out ?_)
          | (refine wpList_load_v (by rfl) 35 (.tmp 79) rfl ⟨vb, 4, none⟩ rfl _ HLB.out ?_)
        refine (HF.out w4 (GL.more (GL.below L_wr.out BB_w4.out) BB_w4.out.size) (LI.more (LI.below S_wr.out BB_w4.out) BB_w4.out.size) (BIn.step Y_wr.out BB_w4.out)).mono ?_
        rintro e w5 ⟨v1, v2, ys1, rfl, hys, hrt, hb⟩
        have HY1 := Lib.hid hys
        obtain ⟨Aa, ca, Ab, cb, hv1, hv2, hca, hcb, _⟩ := hrt.ret
        subst hv1
        subst hv2
        have HOF1 : Hid (RtOff g7 (.slice Aa L1.length ca) (.slice Ab ys1.length cb) ys1 ∧ RtOff g8 (.slice Aa L1.length ca) (.slice Ab ys1.length cb) ys1) := Lib.hid ⟨hrt.low G7_w4.out.lt, hrt.low G8_w4.out.lt⟩
        have R1_w5 := Lib.hid hrt
        have O_w5 := Lib.hid (O_w4.out.step hb)
        have G7_w5 := Lib.hid (G7_w4.out.step hb)
        have G8_w5 := Lib.hid (G8_w4.out.step hb)
        have BB_w5 := Lib.hid (stepB BB_w4.out hb)
        clear hys hrt hb HLT HLB hca hcb
        go_upto_region 18 with first
          | (refine S2.wpList_store_all (by rfl) 25 (.tmp 7) (.tmp 82) rfl rfl g7 rfl [.slice Aa L1.length ca, .slice Ab ys1.length cb] rfl 25 [.slice none 0 0, .slice none 0 0] G7_w5.out rtSize rfl (ones rfl) ?_; intro w6 hM hP; have G7_w6 := Lib.hid hM; have O_w6 := Lib.hid (hP.other O_w5.out (by have := HGN.out; omega)); have G8_w6 := Lib.hid (hP.other G8_w5.out (by have := HGN.out; omega)); have BB_w6 := Lib.hid (hP.below BB_w5.out (by have := HGN.out; omega)); have R1_w6 := Lib.hid (RtN.put R1_w5.out HOF1.out.1 hP); clear hM hP)
        clear O_w5 G7_w5 G8_w5 BB_w5 R1_w5 O_w4 G7_w4 G8_w4 BB_w4
        have HLT : Hid ((loadVar 25 ⟨w.heap.size, 0, none⟩).run Tryz.prog w6 = .ok (.agg #[.slice A1 l.length c1, .slice A2 xs.length c2]) w6) := Lib.hid (S2.run_load_all (T_wr.out.keep T_wr.out.lt BB_w6.out) Tryz.underlying25 rfl rtSize)
        have HLB := Lib.hid (load_eob O_w6.out)
        go_wp2_with first
          | (refine wpList_load_v (by rfl) 25 (.tmp 2) rfl ⟨w.heap.size, 0, none⟩ rfl _ HLT.out ?_)
          | (refine wpList_load_v (by rfl) 35 (.tmp 86) rfl ⟨vb, 4, none⟩ rfl _ HLB.out ?_)
        refine (HR.out w6 (GL.more (GL.below L_wr.out BB_w6.out) BB_w6.out.size) (LI.more (LI.below S_wr.out BB_w6.out) BB_w6.out.size) (BIn.step Y_wr.out BB_w6.out)).mono ?_
        rintro e w7 ⟨v1, v2, ys2, rfl, hys, hrt, hb⟩
        have HY2 := Lib.hid hys
        obtain ⟨Ba, da, Bb, db, hv1, hv2, hda, hdb, _⟩ := hrt.ret
        subst hv1
        subst hv2
        have HDB := Lib.hid hdb
        have HOF2 : Hid (RtOff g8 (.slice Ba L1.length da) (.slice Bb ys2.length db) ys2) := Lib.hid (hrt.low G8_w6.out.lt)
        have R2_w7 := Lib.hid hrt
        have R1_w7 := Lib.hid (R1_w6.out.step hb)
        have G7_w7 := Lib.hid (G7_w6.out.step hb)
        have G8_w7 := Lib.hid (G8_w6.out.step hb)
        have BB_w7 := Lib.hid (stepB BB_w6.out hb)
        have HW6 : Hid (w.heap.size < w6.heap.size) := Lib.hid (Nat.lt_of_lt_of_le T_wr.out.lt BB_w6.out.size)
        clear hys hrt hb HLT HLB hda hdb O_w6 G7_w6 G8_w6 BB_w6 R1_w6
        go_upto_region 19 with first
          | (refine S2.wpList_store_all (by rfl) 25 (.tmp 8) (.tmp 89) rfl rfl g8 rfl [.slice Ba L1.length da, .slice Bb ys2.length db] rfl 25 [.slice none 0 0, .slice none 0 0] G8_w7.out rtSize rfl (ones rfl) ?_; intro w8 hM hP; have G8_w8 := Lib.hid hM; have G7_w8 := Lib.hid (hP.other G7_w7.out (by have := HGN.out; omega)); have BB_w8 := Lib.hid (hP.below BB_w7.out (by have := HGN.out; omega)); have R1_w8 := Lib.hid (RtN.put R1_w7.out HOF1.out.2 hP); have R2_w8 := Lib.hid (RtN.put R2_w7.out HOF2.out hP); clear hM hP)
        clear G7_w7 G8_w7 BB_w7 R1_w7 R2_w7
        have e5 : (E1 != E1) = false := by simp
        have HL7 := Lib.hid (S2.run_load_all G7_w8.out Tryz.underlying25 rfl rtSize)
        have HL8 := Lib.hid (S2.run_load_all G8_w8.out Tryz.underlying25 rfl rtSize)
        obtain ⟨_, _, _, _, k1, k2, _, _, l1, l2, _⟩ := R1_w8.out.ret
        obtain ⟨_, _, _, _, k3, k4, _, _, l3, l4, _⟩ := R2_w8.out.ret
        simp only [Value.slice.injEq, true_and] at k1 k2 k3 k4
        obtain ⟨rfl, rfl⟩ := k1
        obtain ⟨rfl, rfl⟩ := k2
        obtain ⟨rfl, rfl⟩ := k3
        obtain ⟨rfl, rfl⟩ := k4
        have hvl := (vr_iff.1 HCK.out.1).nl
        have hvb := (vr_iff.1 HCK.out.1).nb
        have hyl : ys1.length ≤ 256 := by rw [← HY1.out, List.length_map] at hvb; exact hvb
        have HSM := Lib.hid (sameR_any Aa ca L1 Ab cb ys1 Ba da Bb db ys2 w8 l1 l2 l3 l4 (few_okB HY1.out HCK.out.2.2) (few_okB HY2.out HCK.out.2.2) (by rw [HY1.out, HY2.out]) (by omega) (by omega))
        have HCQ := Lib.hid (fun w1 h1 h2 => rCheck24_any Ba da L1 Bb db ys2 w1 h1 h2 HDB.out (few_okB HY2.out HCK.out.2.2) ⟨HCK.out.2.1, sz_okB HY2.out HCK.out.2.2⟩)
        rw [HY2.out, HCK.out.1] at HCQ
        unfold rtV at HSM HCQ
        clear l1 l2 l3 l4 hvl hvb hyl
        go_wp2_with first
          | (refine wpList_load_v (by rfl) 25 (.tmp 7) rfl ⟨g7, 0, none⟩ rfl _ HL7.out ?_)
          | (refine wpList_load_v (by rfl) 25 (.tmp 8) rfl ⟨g8, 0, none⟩ rfl _ HL8.out ?_)
        refine HSM.out.mono ?_
        rintro e w9 ⟨rfl, hb⟩
        have R2_w9 := Lib.hid (R2_w8.out.step hb)
        have G8_w9 := Lib.hid (G8_w8.out.step hb)
        have BB_w9 := Lib.hid (stepB BB_w8.out hb)
        clear hb HL7 HL8 HSM R1_w8 R2_w8 G7_w8 G8_w8 BB_w8
        have HL8 := Lib.hid (S2.run_load_all G8_w9.out Tryz.underlying25 rfl rtSize)
        obtain ⟨_, _, _, _, k3, k4, _, _, l3, l4, _⟩ := R2_w9.out.ret
        simp only [Value.slice.injEq, true_and] at k3 k4
        obtain ⟨rfl, rfl⟩ := k3
        obtain ⟨rfl, rfl⟩ := k4
        have HCQ2 := Lib.hid (HCQ.out w9 l3 l4)
        clear l3 l4 HCQ
        go_wp2_with first
          | (refine wpList_load_v (by rfl) 25 (.tmp 8) rfl ⟨g8, 0, none⟩ rfl _ HL8.out ?_)
        refine HCQ2.out.mono ?_
        rintro e wa ⟨rfl, hb⟩
        have R2_wa := Lib.hid (R2_w9.out.step hb)
        have G8_wa := Lib.hid (G8_w9.out.step hb)
        have BB_wa := Lib.hid (stepB BB_w9.out hb)
        clear hb HL8 HCQ2 R2_w9 G8_w9 BB_w9
        have B_wa := Lib.hid (stepB B_wr.out BB_wa.out)
        have T_wa := Lib.hid (T_wr.out.keep T_wr.out.lt BB_wa.out)
        have HL8 := Lib.hid (S2.run_load_all G8_wa.out Tryz.underlying25 rfl rtSize)
        by_cases hE : E1 = 0
        · have e6 : (E1 == 0) = true := by rw [hE]; rfl
          have HVN := Lib.hid (HV2.out hE)
          clear hE
          go_wp2_with first
            | (refine wpList_load_v (by rfl) 25 (.tmp 8) rfl ⟨g8, 0, none⟩ rfl _ HL8.out ?_)
            | (refine S2.wpList_store_all (by rfl) 25 (.tmp 2) (.tmp 107) rfl rfl w.heap.size rfl [.slice Ba L1.length da, .slice Bb ys2.length db] rfl 25 _ T_wa.out rtSize rfl (ones rfl) ?_; intro wb hM hP; have T_wb := Lib.hid hM; have B_wb := Lib.hid (hP.below B_wa.out (Nat.le_refl _)); have R2_wb := Lib.hid (RtN.put R2_wa.out (R2_wa.out.low HW6.out) hP); clear hM hP)
          obtain ⟨_, _, _, _, k3, k4, _, _, l3, l4, _⟩ := R2_wb.out.ret
          simp only [Value.slice.injEq, true_and] at k3 k4
          obtain ⟨rfl, rfl⟩ := k3
          obtain ⟨rfl, rfl⟩ := k4
          have HL3 := Lib.hid l3
          have HL4 := Lib.hid l4
          clear l3 l4
          go_roundg gk
          case measure => omega
          case rel => exact ⟨k + 1, L1, ys2, Ba, da, Bb, db, by have := HG.out; omega, nxt k (by have := HG.out; have := HNO.out; omega), T_wb.out, HDB.out, HL3.out, HL4.out, by rw [HY2.out]; exact HVN.out, HCK.out.2.1, by rw [HY2.out]; exact HCK.out.2.2, B_wb.out⟩
        · have e6 : (E1 == 0) = false := beq_eq_false_iff_ne.2 hE
          clear hE
          go_wp2_with fail
          go_roundg gk
          case measure => omega
          case rel => exact ⟨k + 1, l, xs, A1, c1, A2, c2, by have := HG.out; omega, nxt k (by have := HG.out; have := HNO.out; omega), T_wa.out, HCX.out, GL.more (GL.below L_wr.out BB_wa.out) BB_wa.out.size, LI.more (LI.below S_wr.out BB_wa.out) BB_wa.out.size, HV.out, HSX.out, HOB.out, B_wa.out⟩
      have k2 : (o.kd == 2) = false := beq_eq_false_iff_ne.2 h2
      clear h0 h1 h2
      go_upto_region 9 with fail
      clear z0 k0 k1 k2
      have T_w4 := Lib.hid (T_wr.out.keep T_wr.out.lt BB_w4.out)
      have HF := Lib.hid (fun w1 h1 h2 => xDrop_any A1 c1 l A2 c2 xs o.b.d.qu w1 h1 h2 (few_okB rfl HOB.out) (by have := HV.out.nl; omega) (by have := HV.out.nb; rw [List.length_map] at this; omega))
      have HR := Lib.hid (fun w1 h1 h2 => rDrop_any A1 c1 l A2 c2 xs o.b.d.qu w1 h1 h2 (few_okB rfl HOB.out) (by have := HV.out.nl; omega) (by have := HV.out.nb; rw [List.length_map] at this; omega))
      obtain ⟨S1', hS⟩ : ∃ S, dropR (xs.map BE.d) o.b.d.qu = S := ⟨_, rfl⟩
      rw [hS] at HF HR
      have HCK : Hid (ckR l S1' = 0 ∧ (∀ x ∈ l, SzX x) ∧ ∀ b ∈ S1', OkB b) := Lib.hid (by rw [← hS]; exact ⟨vr_iff.2 (vr_drop HV.out _), HSX.out, fun b hb => HOB.out b (drop_mem hb)⟩)
      have HV2 : Hid ((0 : Int) = 0 → VR l S1') := Lib.hid (fun _ => vr_iff.1 HCK.out.1)
      unfold rtV at HF HR
      clear hS
      obtain ⟨d1, hd1⟩ : ∃ d1, d1 = World.drew w4 := ⟨_, rfl⟩
      have hbD : Below w4.heap.size w4 d1 := by rw [hd1]; exact (Below.refl _ _).drew
      have T_d1 : Hid (BK 25 d1 w.heap.size [.slice A1 l.length c1, .slice A2 xs.length c2]) := Lib.hid (T_w4.out.step hbD)
      have O_d1 : Hid (BK 37 d1 vb (gO o)) := Lib.hid (O_w4.out.step hbD)
      have G7_d1 : Hid (BK 25 d1 g7 [.slice none 0 0, .slice none 0 0]) := Lib.hid (G7_w4.out.step hbD)
      have G8_d1 : Hid (BK 25 d1 g8 [.slice none 0 0, .slice none 0 0]) := Lib.hid (G8_w4.out.step hbD)
      have BB_d1 : Hid (Below wr.heap.size wr d1) := Lib.hid (stepB BB_w4.out hbD)
      clear T_w4 O_w4 G7_w4 G8_w4 BB_w4
      have hbd : (fun w' => BK 25 w' w.heap.size [.slice A1 l.length c1, .slice A2 xs.length c2] ∧ BK 37 w' vb (gO o)) (World.drew w4) := by rw [← hd1]; exact ⟨T_d1.out, O_d1.out⟩
      have hSD : (fun w' => BK 25 w' w.heap.size [.slice A1 l.length c1, .slice A2 xs.length c2] ∧ BK 37 w' vb (gO o)) d1 := ⟨T_d1.out, O_d1.out⟩
      have HWD := Lib.hid hd1
      clear hd1 hbD
      refine wp_region_held_drew (S := fun w' => BK 25 w' w.heap.size [.slice A1 l.length c1, .slice A2 xs.length c2] ∧ BK 37 w' vb (gO o)) (by kernel_rfl) hbd (fun hHeld => ?_)
      rw [← HWD.out]
      clear hHeld
      have hHeld := hSD
      clear hSD hbd HWD
      refine wpAnyH_take (i := 0) (v := (.agg #[.slice A1 l.length c1, .slice A2 xs.length c2])) (get_ops _ _ _ rfl) (by kernel_rfl) (by kernel_rfl) (by kernel_rfl) (fun _ _ _ h => h) (Or.inl ⟨by rfl, fun wS hSw => by (try dsimp only at hSw); exact exec_load 25 _ rfl ⟨w.heap.size, 0, none⟩ (by go_simp) _ (S2.run_load_all hSw.1 Tryz.underlying25 rfl rtSize)⟩) hHeld ?_
      try simp only [Act.put, List.setIfInBounds_toArray, List.set_cons_zero, List.set_cons_succ]
      refine wpAnyH_take (i := 1) (v := .pointer (some ⟨vb, 4, none⟩)) (get_ops _ _ _ rfl) (by kernel_rfl) (by kernel_rfl) (by kernel_rfl) (fun _ _ _ h => h) (Or.inl ⟨by rfl, fun wS hSw => by (try dsimp only at hSw); go_simp⟩) hHeld ?_
      try simp only [Act.put, List.setIfInBounds_toArray, List.set_cons_zero, List.set_cons_succ]
      refine wpAnyH_take (i := 2) (v := .pointer (some ⟨vb, 5, none⟩)) (get_ops _ _ _ rfl) (by kernel_rfl) (by kernel_rfl) (by kernel_rfl) (fun _ _ _ h => h) (Or.inl ⟨by rfl, fun wS hSw => by (try dsimp only at hSw); go_simp⟩) hHeld ?_
      try simp only [Act.put, List.setIfInBounds_toArray, List.set_cons_zero, List.set_cons_succ]
      refine wpAnyH_take (i := 3) (v := .string o.b.d.qu) (get_ops _ _ _ rfl) (by kernel_rfl) (by kernel_rfl) (by kernel_rfl) (fun _ _ _ h => h) (Or.inl ⟨by rfl, fun wS hSw => by (try dsimp only at hSw); have cS : wS.cell? ⟨vb, 5, none⟩ = some (.string o.b.d.qu) := hSw.2.cell 5 rfl; clear hSw; go_simp⟩) hHeld ?_
      try simp only [Act.put, List.setIfInBounds_toArray, List.set_cons_zero, List.set_cons_succ]
      refine wpAnyH_take (i := 5) (v := (.agg #[.slice A1 l.length c1, .slice A2 xs.length c2])) (get_ops _ _ _ rfl) (by kernel_rfl) (by kernel_rfl) (by kernel_rfl) (fun _ _ _ h => h) (Or.inl ⟨by rfl, fun wS hSw => by (try dsimp only at hSw); exact exec_load 25 _ rfl ⟨w.heap.size, 0, none⟩ (by go_simp) _ (S2.run_load_all hSw.1 Tryz.underlying25 rfl rtSize)⟩) hHeld ?_
      try simp only [Act.put, List.setIfInBounds_toArray, List.set_cons_zero, List.set_cons_succ]
      refine wpAnyH_take (i := 6) (v := .pointer (some ⟨vb, 4, none⟩)) (get_ops _ _ _ rfl) (by kernel_rfl) (by kernel_rfl) (by kernel_rfl) (fun _ _ _ h => h) (Or.inl ⟨by rfl, fun wS hSw => by (try dsimp only at hSw); go_simp⟩) hHeld ?_
      try simp only [Act.put, List.setIfInBounds_toArray, List.set_cons_zero, List.set_cons_succ]
      refine wpAnyH_take (i := 7) (v := .pointer (some ⟨vb, 5, none⟩)) (get_ops _ _ _ rfl) (by kernel_rfl) (by kernel_rfl) (by kernel_rfl) (fun _ _ _ h => h) (Or.inl ⟨by rfl, fun wS hSw => by (try dsimp only at hSw); go_simp⟩) hHeld ?_
      try simp only [Act.put, List.setIfInBounds_toArray, List.set_cons_zero, List.set_cons_succ]
      refine wpAnyH_take (i := 8) (v := .string o.b.d.qu) (get_ops _ _ _ rfl) (by kernel_rfl) (by kernel_rfl) (by kernel_rfl) (fun _ _ _ h => h) (Or.inl ⟨by rfl, fun wS hSw => by (try dsimp only at hSw); have cS : wS.cell? ⟨vb, 5, none⟩ = some (.string o.b.d.qu) := hSw.2.cell 5 rfl; clear hSw; go_simp⟩) hHeld ?_
      try simp only [Act.put, List.setIfInBounds_toArray, List.set_cons_zero, List.set_cons_succ]
      refine wpAnyH_ready (rs := [4]) (by kernel_rfl) (by simp) ?_
      refine (AllReadyH.cons (get_ops _ _ _ rfl) (fun K hK => ?_) AllReadyH.nil)
      go_simp
      refine (HF.out d1 (GL.more (GL.below L_wr.out BB_d1.out) BB_d1.out.size) (LI.more (LI.below S_wr.out BB_d1.out) BB_d1.out.size)).mono ?_
      rintro e d2 ⟨v1, v2, ys1, rfl, hys, hrt, hb⟩
      have HY1 := Lib.hid hys
      obtain ⟨Aa, ca, Ab, cb, hv1, hv2, _, hdb, _⟩ := hrt.ret
      subst hv1
      subst hv2
      have HD1 := Lib.hid hdb
      have HOFA1 : Hid (RtOff g7 (.slice Aa l.length ca) (.slice Ab ys1.length cb) ys1 ∧ RtOff g8 (.slice Aa l.length ca) (.slice Ab ys1.length cb) ys1) := Lib.hid ⟨hrt.low G7_d1.out.lt, hrt.low G8_d1.out.lt⟩
      have HWB1 : Hid (w.heap.size < d1.heap.size) := Lib.hid (Nat.lt_of_lt_of_le T_wr.out.lt BB_d1.out.size)
      obtain ⟨bs1, hbs1⟩ : ∃ b, b = d1.heap.size := ⟨_, rfl⟩
      rw [← hbs1] at HWB1
      have T_d2 : Hid (BK 25 d2 w.heap.size [.slice A1 l.length c1, .slice A2 xs.length c2]) := Lib.hid (T_d1.out.step hb)
      have O_d2 : Hid (BK 37 d2 vb (gO o)) := Lib.hid (O_d1.out.step hb)
      have G7_d2 : Hid (BK 25 d2 g7 [.slice none 0 0, .slice none 0 0]) := Lib.hid (G7_d1.out.step hb)
      have G8_d2 : Hid (BK 25 d2 g8 [.slice none 0 0, .slice none 0 0]) := Lib.hid (G8_d1.out.step hb)
      have BB_d2 : Hid (Below wr.heap.size wr d2) := Lib.hid (stepB BB_d1.out hb)
      clear T_d1 O_d1 G7_d1 G8_d1 BB_d1
      have R1_d2 : Hid (RtN bs1 d2 (.slice Aa l.length ca) l (.slice Ab ys1.length cb) ys1) := Lib.hid (by rw [hbs1]; exact hrt)
      clear hys hrt hdb hHeld hb hbs1
      go_wp2_with fail
      refine hK.out _ _ ⟨T_d2.out, O_d2.out⟩ (fun hHeld => ?_)
      clear hK K
      try simp only [Act.put, List.setIfInBounds_toArray, List.set_cons_zero, List.set_cons_succ]
      refine wpAnyH_ready (rs := [9]) (by kernel_rfl) (by simp) ?_
      refine (AllReadyH.cons (get_ops _ _ _ rfl) (fun K hK => ?_) AllReadyH.nil)
      go_simp
      refine (HR.out d2 (GL.more (GL.below L_wr.out BB_d2.out) BB_d2.out.size) (LI.more (LI.below S_wr.out BB_d2.out) BB_d2.out.size)).mono ?_
      rintro e d3 ⟨v1, v2, ys2, rfl, hys, hrt, hb⟩
      have HY2 := Lib.hid hys
      obtain ⟨Ba, da, Bb, db, hv1, hv2, _, hdb, _⟩ := hrt.ret
      subst hv1
      subst hv2
      have HD2 := Lib.hid hdb
      have HOFA2 : Hid (RtOff g7 (.slice Ba l.length da) (.slice Bb ys2.length db) ys2 ∧ RtOff g8 (.slice Ba l.length da) (.slice Bb ys2.length db) ys2) := Lib.hid ⟨hrt.low G7_d2.out.lt, hrt.low G8_d2.out.lt⟩
      have HWB2 : Hid (w.heap.size < d2.heap.size) := Lib.hid (Nat.lt_of_lt_of_le T_wr.out.lt BB_d2.out.size)
      obtain ⟨bs2, hbs2⟩ : ∃ b, b = d2.heap.size := ⟨_, rfl⟩
      rw [← hbs2] at HWB2
      have T_d3 : Hid (BK 25 d3 w.heap.size [.slice A1 l.length c1, .slice A2 xs.length c2]) := Lib.hid (T_d2.out.step hb)
      have O_d3 : Hid (BK 37 d3 vb (gO o)) := Lib.hid (O_d2.out.step hb)
      have G7_d3 : Hid (BK 25 d3 g7 [.slice none 0 0, .slice none 0 0]) := Lib.hid (G7_d2.out.step hb)
      have G8_d3 : Hid (BK 25 d3 g8 [.slice none 0 0, .slice none 0 0]) := Lib.hid (G8_d2.out.step hb)
      have BB_d3 : Hid (Below wr.heap.size wr d3) := Lib.hid (stepB BB_d2.out hb)
      have R1_d3 : Hid (RtN bs1 d3 (.slice Aa l.length ca) l (.slice Ab ys1.length cb) ys1) := Lib.hid (RtN.step R1_d2.out hb)
      clear T_d2 O_d2 G7_d2 G8_d2 BB_d2 R1_d2
      have R2_d3 : Hid (RtN bs2 d3 (.slice Ba l.length da) l (.slice Bb ys2.length db) ys2) := Lib.hid (by rw [hbs2]; exact hrt)
      clear hys hrt hdb hHeld hb hbs2
      go_wp2_with fail
      refine hK.out _ _ ⟨T_d3.out, O_d3.out⟩ (fun hHeld => ?_)
      clear hK K
      try simp only [Act.put, List.setIfInBounds_toArray, List.set_cons_zero, List.set_cons_succ]
      refine wpAnyH_ready (rs := [10]) (by kernel_rfl) (by simp) ?_
      refine (AllReadyH.cons (get_ops _ _ _ rfl) (fun K hK => ?_) AllReadyH.nil)
      refine S2.wp_store_all 25 _ _ rfl rfl g7 (by go_simp) [.slice Aa l.length ca, .slice Ab ys1.length cb] (by first | rfl | go_simp) 25 [.slice none 0 0, .slice none 0 0] G7_d3.out rtSize rfl (ones rfl) ?_
      intro d4 hM hP
      have G7_d4 := Lib.hid hM
      have G8_d4 := Lib.hid (hP.other G8_d3.out (by have := HGN.out; omega))
      have O_d4 := Lib.hid (hP.other O_d3.out (by have := HGN.out; omega))
      have T_d4 := Lib.hid (hP.other T_d3.out (by have := HGN.out; have := T_wr.out.lt; omega))
      have BB_d4 := Lib.hid (hP.below BB_d3.out (by have := HGN.out; omega))
      have R1_d4 := Lib.hid (RtN.put R1_d3.out HOFA1.out.1 hP)
      have R2_d4 := Lib.hid (RtN.put R2_d3.out HOFA2.out.1 hP)
      clear hM hP hHeld T_d3 O_d3 G7_d3 G8_d3 BB_d3 R1_d3 R2_d3
      refine hK.out _ _ ⟨T_d4.out, O_d4.out⟩ (fun hHeld => ?_)
      clear hK K
      try simp only [Act.put, List.setIfInBounds_toArray, List.set_cons_zero, List.set_cons_succ]
      refine wpAnyH_ready (rs := [11]) (by kernel_rfl) (by simp) ?_
      refine (AllReadyH.cons (get_ops _ _ _ rfl) (fun K hK => ?_) AllReadyH.nil)
      refine S2.wp_store_all 25 _ _ rfl rfl g8 (by go_simp) [.slice Ba l.length da, .slice Bb ys2.length db] (by first | rfl | go_simp) 25 [.slice none 0 0, .slice none 0 0] G8_d4.out rtSize rfl (ones rfl) ?_
      intro d5 hM hP
      have G8_d5 := Lib.hid hM
      have G7_d5 := Lib.hid (hP.other G7_d4.out (by have := HGN.out; omega))
      have O_d5 := Lib.hid (hP.other O_d4.out (by have := HGN.out; omega))
      have T_d5 := Lib.hid (hP.other T_d4.out (by have := HGN.out; have := T_wr.out.lt; omega))
      have BB_d5 := Lib.hid (hP.below BB_d4.out (by have := HGN.out; omega))
      have R1_d5 := Lib.hid (RtN.put R1_d4.out HOFA1.out.2 hP)
      have R2_d5 := Lib.hid (RtN.put R2_d4.out HOFA2.out.2 hP)
      clear hM hP hHeld T_d4 O_d4 G7_d4 G8_d4 BB_d4 R1_d4 R2_d4
      refine hK.out _ _ ⟨T_d5.out, O_d5.out⟩ (fun hHeld => ?_)
      clear hK K
      try simp only [Act.put, List.setIfInBounds_toArray, List.set_cons_zero, List.set_cons_succ]
      refine wpAnyH_done (by kernel_rfl) ?_ _
      clear T_d5 O_d5
      have HL7 := Lib.hid (S2.run_load_all G7_d5.out Tryz.underlying25 rfl rtSize)
      have HL8 := Lib.hid (S2.run_load_all G8_d5.out Tryz.underlying25 rfl rtSize)
      obtain ⟨_, _, _, _, k1, k2, _, _, l1, l2, _⟩ := R1_d5.out.ret
      obtain ⟨_, _, _, _, k3, k4, _, _, l3, l4, _⟩ := R2_d5.out.ret
      simp only [Value.slice.injEq, true_and] at k1 k2 k3 k4
      obtain ⟨rfl, rfl⟩ := k1
      obtain ⟨rfl, rfl⟩ := k2
      obtain ⟨rfl, rfl⟩ := k3
      obtain ⟨rfl, rfl⟩ := k4
      have hvl := (vr_iff.1 HCK.out.1).nl
      have hvb := (vr_iff.1 HCK.out.1).nb
      have hyl : ys1.length ≤ 256 := by rw [← HY1.out, List.length_map] at hvb; exact hvb
      have HSM := Lib.hid (sameR_any Aa ca l Ab cb ys1 Ba da Bb db ys2 d5 l1 l2 l3 l4 (few_okB HY1.out HCK.out.2.2) (few_okB HY2.out HCK.out.2.2) (by rw [HY1.out, HY2.out]) (by omega) (by omega))
      have HCQ := Lib.hid (fun w1 h1 h2 => rCheck24_any Ba da l Bb db ys2 w1 h1 h2 HD2.out (few_okB HY2.out HCK.out.2.2) ⟨HCK.out.2.1, sz_okB HY2.out HCK.out.2.2⟩)
      rw [HY2.out, HCK.out.1] at HCQ
      unfold rtV at HSM HCQ
      clear l1 l2 l3 l4 hvl hvb hyl
      go_wp2_with first
        | (refine wpList_load_v (by rfl) 25 (.tmp 7) rfl ⟨g7, 0, none⟩ rfl _ HL7.out ?_)
        | (refine wpList_load_v (by rfl) 25 (.tmp 8) rfl ⟨g8, 0, none⟩ rfl _ HL8.out ?_)
      refine HSM.out.mono ?_
      rintro e w9 ⟨rfl, hb⟩
      have R2_w9 := Lib.hid (R2_d5.out.step hb)
      have G8_w9 := Lib.hid (G8_d5.out.step hb)
      have BB_w9 := Lib.hid (stepB BB_d5.out hb)
      clear hb HL7 HL8 HSM R1_d5 R2_d5 G7_d5 G8_d5 BB_d5
      have HL8 := Lib.hid (S2.run_load_all G8_w9.out Tryz.underlying25 rfl rtSize)
      obtain ⟨_, _, _, _, k3, k4, _, _, l3, l4, _⟩ := R2_w9.out.ret
      simp only [Value.slice.injEq, true_and] at k3 k4
      obtain ⟨rfl, rfl⟩ := k3
      obtain ⟨rfl, rfl⟩ := k4
      have HCQ2 := Lib.hid (HCQ.out w9 l3 l4)
      clear l3 l4 HCQ
      go_wp2_with first
        | (refine wpList_load_v (by rfl) 25 (.tmp 8) rfl ⟨g8, 0, none⟩ rfl _ HL8.out ?_)
      refine HCQ2.out.mono ?_
      rintro e wa ⟨rfl, hb⟩
      have R2_wa := Lib.hid (R2_w9.out.step hb)
      have G8_wa := Lib.hid (G8_w9.out.step hb)
      have BB_wa := Lib.hid (stepB BB_w9.out hb)
      clear hb HL8 HCQ2 R2_w9 G8_w9 BB_w9
      have B_wa := Lib.hid (stepB B_wr.out BB_wa.out)
      have T_wa := Lib.hid (T_wr.out.keep T_wr.out.lt BB_wa.out)
      have HL8 := Lib.hid (S2.run_load_all G8_wa.out Tryz.underlying25 rfl rtSize)
      have HVN := Lib.hid (HV2.out (by first | exact rfl | trivial))
      go_wp2_with first
        | (refine wpList_load_v (by rfl) 25 (.tmp 8) rfl ⟨g8, 0, none⟩ rfl _ HL8.out ?_)
        | (refine S2.wpList_store_all (by rfl) 25 (.tmp 2) (.tmp 107) rfl rfl w.heap.size rfl [.slice Ba l.length da, .slice Bb ys2.length db] rfl 25 _ T_wa.out rtSize rfl (ones rfl) ?_; intro wb hM hP; have T_wb := Lib.hid hM; have B_wb := Lib.hid (hP.below B_wa.out (Nat.le_refl _)); have R2_wb := Lib.hid (RtN.put R2_wa.out (R2_wa.out.low HWB2.out) hP); clear hM hP)
      obtain ⟨_, _, _, _, k3, k4, _, _, l3, l4, _⟩ := R2_wb.out.ret
      simp only [Value.slice.injEq, true_and] at k3 k4
      obtain ⟨rfl, rfl⟩ := k3
      obtain ⟨rfl, rfl⟩ := k4
      have HL3 := Lib.hid l3
      have HL4 := Lib.hid l4
      clear l3 l4
      go_roundg gk
      case measure => omega
      case rel => exact ⟨k + 1, l, ys2, Ba, da, Bb, db, by have := HG.out; omega, nxt k (by have := HG.out; have := HNO.out; omega), T_wb.out, HD2.out, HL3.out, HL4.out, by rw [HY2.out]; exact HVN.out, HCK.out.2.1, by rw [HY2.out]; exact HCK.out.2.2, B_wb.out⟩
end Go.Proofs.YtjkhfifnfgchgabGreatDoor
