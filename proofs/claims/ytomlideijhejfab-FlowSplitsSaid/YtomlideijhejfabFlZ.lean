/-
  FlowSplits answers true, walked. Conditions: the numbers fit an int; the list reads as data.
-/
import Derived.Test.YtomlideijhejfabFlZp
namespace Go.Proofs.Ytomlideijhejfab
open Go.RowKit

set_option maxRecDepth 20000 in
set_option maxHeartbeats 8000000 in
theorem flowSplits_bad (A : Option Addr) (c : Nat) (X : List (Int × Int)) (last : Int) (a b : Nat) (w : World) (hsl : CrL w w.heap.size A X) (hX : X.length ≤ 9223372036854775807) (hl1 : -9223372036854775808 ≤ last) (hl2 : last ≤ 9223372036854775807) (ha : a ≤ 255) (hbb : b ≤ 255) (hv : vlC X = false) :
    Calls Try.prog 8 #[.slice A X.length c, .int .i64 last, .int .u8 (a : Int), .int .u8 (b : Int)] w fun e w' => e = .returned (.bool true) ∧ Below w.heap.size w w' := by
  have HA := Lib.hid (fun w => awake16_any w)
  have CV := Lib.hid (fun w hs => valid16_any A c X w hs hX)
  rw [hv] at CV
  have Sx_w := Lib.hid hsl
  have _u := And.intro hl1 (And.intro hl2 (And.intro ha hbb))
  clear hsl hX hv hl1 hl2 ha hbb _u
  go_enter Try.func8, Try.ntmps8
  go_wp2_with fail
  refine (CV.out w Sx_w.out).mono ?_
  rintro e w1 ⟨rfl, hb⟩
  have B_w1 : Hid (Below w.heap.size w w1) := Lib.hid (hb)
  have Sx_w1 : Hid (CrL w1 w1.heap.size A X) := Lib.hid (GL.step Sx_w.out hb)
  clear Sx_w
  clear hb
  go_wp2_with fail
  refine (HA.out w1).mono ?_
  rintro e w2 ⟨rfl, hb⟩
  have B_w2 : Hid (Below w.heap.size w w2) := Lib.hid (stepB B_w1.out hb)
  have Sx_w2 : Hid (CrL w2 w2.heap.size A X) := Lib.hid (GL.step Sx_w1.out hb)
  clear B_w1 Sx_w1
  clear hb
  go_wp2_with fail
  go_ret
  exact ⟨rfl, B_w2.out⟩
set_option maxRecDepth 20000 in
set_option maxHeartbeats 8000000 in
theorem flowSplits_nil (A : Option Addr) (c : Nat) (last : Int) (a b : Nat) (w : World) (hl1 : -9223372036854775808 ≤ last) (hl2 : last ≤ 9223372036854775807) (ha : a ≤ 255) (hbb : b ≤ 255) :
    Calls Try.prog 8 #[.slice A 0 c, .int .i64 last, .int .u8 (a : Int), .int .u8 (b : Int)] w fun e w' => e = .returned (.bool true) ∧ Below w.heap.size w w' := by
  have HA := Lib.hid (fun w => awake16_any w)
  have CV : Hid (∀ w, Calls Try.prog 20 #[.slice A 0 c] w fun e w' => e = .returned (.bool true) ∧ Below w.heap.size w w') := Lib.hid (fun w => by
    have := valid16_any A c [] w (GL.nil _ _ _) (by simp)
    rw [show vlC [] = true by decide] at this
    exact this)
  have CR : Hid (∀ (A : Option Addr) (c : Nat) (n : Int) (w : World), Calls Try.prog 23 #[.slice A 0 c, .int .i64 last, .int .i64 n] w (RetRd ([], last) w)) := Lib.hid (fun A c n w => by
    have := fRound_any A c [] last n hl1 hl2 w (GL.nil _ _ _) (by simp) (fun x h => by cases h)
    have er : rdC [] last n = ([], last) := by
      have hn : nxC [] last = none := rfl
      unfold rdC
      cases (min n 1024).toNat with
      | zero => rfl
      | succ f => unfold rdF; rw [hn]; rfl
    rw [er] at this
    exact this)
  have HSL := Lib.hid (fun w B => (GL.nil w B A : CrL w B A []))
  have wa : wrap64 (a : Int) = (a : Int) := wrap64_id _ (by omega) (by omega)
  have wb : wrap64 (b : Int) = (b : Int) := wrap64_id _ (by omega) (by omega)
  have wab : wrap64 ((a : Int) + (b : Int)) = (a : Int) + (b : Int) := wrap64_id _ (by omega) (by omega)
  clear hl1 hl2
  go_enter Try.func8, Try.ntmps8
  go_wp2_with fail
  refine (CV.out w).mono ?_
  rintro e w1 ⟨rfl, hb⟩
  have B_w1 : Hid (Below w.heap.size w w1) := Lib.hid (hb)
  clear hb
  go_wp2_with fail
  refine (CR.out A c _ w1).mono ?_
  rintro e w2 ⟨A1, c1, rfl, _, hs1, hb⟩
  have B_w2 : Hid (Below w.heap.size w w2) := Lib.hid (stepB B_w1.out hb)
  clear B_w1
  clear hb
  clear hs1
  go_wp2_with (at_builtin; go_must (refine wpList_appC _ rfl _ _ rfl w2.heap.size _ [] [] rfl (OwnG.made w2 0 #[] w2.heap.size (Nat.le_refl _) (by decide) rfl) A c rfl w2.heap.size (HSL.out _ _) w2 ((Below.refl _ _).alloc (Nat.le_refl _) _) (by simp) (by simp; try omega) ?_); intro v1 wA hown1 hb1 hB1; obtain ⟨A2, c2, rfl, hc2, hs2⟩ := hown1.ret gC_len; have HA2 : Hid (Below w.heap.size w wA) := Lib.hid (stepB B_w2.out hb1); clear hown1 hb1 hB1 hc2 hs2 B_w2)
  go_loopg [12] 1 (fun g v wr => g = 1 ∧ v = .int .i64 0 ∧ Below w.heap.size w wr)
  case atStart => exact ⟨rfl, rfl, HA2.out⟩
  case round =>
    rename World => wr1
    obtain ⟨rfl, rfl, hb⟩ := hrel
    have B_wr1 := Lib.hid hb
    clear hb HA2
    go_wp2_with fail
    refine (CR.out A2 c2 _ wr1).mono ?_
    rintro e w21 ⟨A3, c3, rfl, _, hs1, hb⟩
    have B_w21 : Hid (Below w.heap.size w w21) := Lib.hid (stepB B_wr1.out hb)
    clear B_wr1
    clear hb
    clear hs1
    go_wp2_with fail
    refine (CR.out A c _ w21).mono ?_
    rintro e w22 ⟨A4, c4, rfl, _, hs1, hb⟩
    have B_w22 : Hid (Below w.heap.size w w22) := Lib.hid (stepB B_w21.out hb)
    clear B_w21
    clear hb
    clear hs1
    go_wp2_with fail
    have HB3 : Hid (Below w.heap.size w w22) := B_w22
    go_loopg [17] 1 (fun g v wr => g = 1 ∧ v = .int .i64 0 ∧ Below w.heap.size w wr)
    case atStart => exact ⟨rfl, rfl, HB3.out⟩
    case round =>
      rename World => wr2
      obtain ⟨rfl, rfl, hb⟩ := hrel
      have B_wr2 := Lib.hid hb
      clear hb HB3
      go_wp2_with fail
      refine (HA.out wr2).mono ?_
      rintro e w31 ⟨rfl, hb⟩
      have B_w31 : Hid (Below w.heap.size w w31) := Lib.hid (stepB B_wr2.out hb)
      clear B_wr2
      clear hb
      go_wp2_with fail
      go_ret
      exact ⟨rfl, B_w31.out⟩
set_option maxRecDepth 20000 in
set_option maxHeartbeats 8000000 in
theorem flowSplits_good (A : Option Addr) (c : Nat) (X : List (Int × Int)) (last : Int) (a b : Nat) (w : World) (hsl : CrL w w.heap.size A X) (hX : X.length ≤ 9223372036854775807) (hl1 : -9223372036854775808 ≤ last) (hl2 : last ≤ 9223372036854775807) (ha : a ≤ 255) (hbb : b ≤ 255) (hv : vlC X = true) (hX0 : 0 < X.length) :
    Calls Try.prog 8 #[.slice A X.length c, .int .i64 last, .int .u8 (a : Int), .int .u8 (b : Int)] w fun e w' => e = .returned (.bool true) ∧ Below w.heap.size w w' := by
  have HA := Lib.hid (fun w => awake16_any w)
  have CV := Lib.hid (fun w hs => valid16_any A c X w hs hX)
  rw [hv] at CV
  have Sx_w := Lib.hid hsl
  obtain ⟨hv1, hv2⟩ := vlC_iff.1 hv
  have hfg := fairG X last (a : Int) (by omega)
  have hlb := rdC_last (l := X) (n := (a : Int)) hl1 hl2 (by omega)
  have hsp := rdC_split X last a b (by omega)
  have C1 := Lib.hid (fun w hs => fRound_any A c X last (a : Int) hl1 hl2 w hs (by omega) hv2)
  have C3 := Lib.hid (fun w hs => fRound_any A c X last ((a : Int) + (b : Int)) hl1 hl2 w hs (by omega) hv2)
  rw [hsp] at C3
  have h2l := rdC_len (usedC X (rdC X last (a : Int)).1) (rdC X last (a : Int)).2 (b : Int)
  generalize rdC X last (a : Int) = r at C1 C3 hfg hlb hsp h2l
  obtain ⟨G, la⟩ := r
  dsimp only at hfg hlb hsp h2l C3
  have hul := used_len hfg.len
  rw [hul] at h2l
  have C2 : Hid (∀ g c w, RowC w g (usedC X G) → Calls Try.prog 23 #[.slice (some ⟨g, 0, none⟩) X.length c, .int .i64 la, .int .i64 (b : Int)] w (RetRd (rdC (usedC X G) la (b : Int)) w)) := Lib.hid (fun g c w hr => by
    have := fRound_any (some ⟨g, 0, none⟩) c (usedC X G) la (b : Int) hlb.1 hlb.2 w hr.row (by rw [hul]; omega) (ok_used hfg hv2)
    rw [hul] at this
    exact this)
  have hs2 := (fairG (usedC X G) la (b : Int) (by omega)).small (ok_used hfg hv2)
  generalize rdC (usedC X G) la (b : Int) = r2 at C2 C3 h2l hs2
  obtain ⟨G2, lb⟩ := r2
  dsimp only at h2l C3 hs2
  have hsl3 : (sumL G G2).length = X.length := by rw [sum_len (by rw [hfg.len, h2l]), hfg.len]
  have hsg := fun i => sum_getD (a := G) (b := G2) (by rw [hfg.len, h2l]) i
  generalize sumL G G2 = G3 at C3 hsl3 hsg
  have HS1 := Lib.hid (hfg.small hv2)
  have HS2 := Lib.hid hs2
  have HOK := Lib.hid hv2
  have HX0 := Lib.hid hX0
  have HSG := Lib.hid hsg
  have HFG := Lib.hid hfg
  have HL2 := Lib.hid h2l
  have HL3 := Lib.hid hsl3
  have hX40 : X.length ≤ 40 := hv1
  have wa : wrap64 (a : Int) = (a : Int) := wrap64_id _ (by omega) (by omega)
  have wb : wrap64 (b : Int) = (b : Int) := wrap64_id _ (by omega) (by omega)
  have wab : wrap64 ((a : Int) + (b : Int)) = (a : Int) + (b : Int) := wrap64_id _ (by omega) (by omega)
  have hlen : ((G.length : Int) != (X.length : Int)) = false := by rw [hfg.len]; simp
  have hlen2 : ((G2.length : Int) != (X.length : Int)) = false := by rw [h2l]; simp
  have hlen3 : ((G3.length : Int) != (X.length : Int)) = false := by rw [hsl3]; simp
  clear hsl hX hv hv2 hl1 hl2 hfg hlb hsp h2l hul hsl3 hsg hX0 hs2
  go_enter Try.func8, Try.ntmps8
  go_wp2_with fail
  refine (CV.out w Sx_w.out).mono ?_
  rintro e w1 ⟨rfl, hb⟩
  have B_w1 : Hid (Below w.heap.size w w1) := Lib.hid (hb)
  have Sx_w1 : Hid (CrL w1 w1.heap.size A X) := Lib.hid (GL.step Sx_w.out hb)
  clear Sx_w
  clear hb
  go_wp2_with fail
  refine (C1.out w1 Sx_w1.out).mono ?_
  rintro e w2 ⟨A1, c1, rfl, _, hs1, hb⟩
  have B_w2 : Hid (Below w.heap.size w w2) := Lib.hid (stepB B_w1.out hb)
  have Sx_w2 : Hid (CrL w2 w2.heap.size A X) := Lib.hid (GL.step Sx_w1.out hb)
  clear B_w1 Sx_w1
  clear hb
  have Sg_w2 := Lib.hid (hs1)
  clear hs1
  go_wp2_with (at_builtin; go_must (refine wpList_appC _ rfl _ _ rfl w2.heap.size _ [] X rfl (OwnG.made w2 0 #[] w2.heap.size (Nat.le_refl _) (by decide) rfl) A c rfl w2.heap.size (Sx_w2.out.below (below_new w2 _)) w2 ((Below.refl _ _).alloc (Nat.le_refl _) _) (by simp) (by simp; try omega) ?_); intro v1 wA hown1 hb1 hB1; rw [List.nil_append] at hown1; obtain ⟨gM, c2, rfl, hgM, hrow⟩ := rowC_own hown1 HX0.out; have HB0 : Hid (Below w2.heap.size w2 wA) := Lib.hid hb1; have HR0 : Hid (RowC wA gM (usK X G 0)) := Lib.hid hrow; have HGM := Lib.hid hgM; clear hown1 hb1 hB1 hgM hrow)
  have HGG : Hid (∀ wr, Below w2.heap.size w2 wr → IL wr wr.heap.size A1 G) := Lib.hid (fun wr hb => CL.step Sg_w2.out hb)
  have HXW : Hid (∀ wr, Below w2.heap.size w2 wr → CrL wr wr.heap.size A X) := Lib.hid (fun wr hb => GL.step Sx_w2.out hb)
  have HW : Hid (Below w.heap.size w w2) := Lib.hid B_w2.out
  clear Sx_w2 Sg_w2 B_w2 C1 CV
  go_loopg [12] X.length (fun g v wr => ∃ k : Nat, k + g = X.length ∧ v = .int .i64 k ∧ RowC wr gM (usK X G k) ∧ Below w2.heap.size w2 wr)
  case atStart => exact ⟨0, by omega, rfl, HR0.out, HB0.out⟩
  case round =>
    clear HB0 HR0
    rename World => wa
    rename Nat => ga
    obtain ⟨k, hkg, rfl, hrow, hbW⟩ := hrel
    have HBW := Lib.hid hbW
    have HROW := Lib.hid hrow
    have B_wa : Hid (Below w.heap.size w wa) := Lib.hid (stepB HW.out hbW)
    have HG := Lib.hid hkg
    clear hrow
    cases ga with
    | zero =>
      obtain rfl : k = X.length := by omega
      have e3 : decide ((X.length : Int) < (X.length : Int)) = false := decide_eq_false (by omega)
      have HRU := Lib.hid (HROW.out.len_eq (usK_all HFG.out.len))
      have Sx_wa := Lib.hid (HXW.out wa HBW.out)
      have Sg_wa := Lib.hid (HGG.out wa HBW.out)
      clear hkg hbW HG HROW HBW
      go_wp2_with fail
      refine (C2.out gM c2 wa HRU.out).mono ?_
      rintro e w31 ⟨A2, c3, rfl, _, hs2, hb⟩
      have B_w31 : Hid (Below w.heap.size w w31) := Lib.hid (stepB B_wa.out hb)
      have Sx_w31 : Hid (CrL w31 w31.heap.size A X) := Lib.hid (GL.step Sx_wa.out hb)
      have Sg_w31 : Hid (IL w31 w31.heap.size A1 G) := Lib.hid (CL.step Sg_wa.out hb)
      clear B_wa Sx_wa Sg_wa
      clear hb
      have Sh_w31 := Lib.hid (hs2)
      clear hs2
      go_wp2_with fail
      refine (C3.out w31 Sx_w31.out).mono ?_
      rintro e w32 ⟨A3, c4, rfl, _, hs3, hb⟩
      have B_w32 : Hid (Below w.heap.size w w32) := Lib.hid (stepB B_w31.out hb)
      have Sx_w32 : Hid (CrL w32 w32.heap.size A X) := Lib.hid (GL.step Sx_w31.out hb)
      have Sg_w32 : Hid (IL w32 w32.heap.size A1 G) := Lib.hid (CL.step Sg_w31.out hb)
      have Sh_w32 : Hid (IL w32 w32.heap.size A2 G2) := Lib.hid (CL.step Sh_w31.out hb)
      clear B_w31 Sx_w31 Sg_w31 Sh_w31
      clear hb
      have St_w32 := Lib.hid (hs3)
      clear hs3
      clear Sx_w32
      go_wp2_with fail
      have KG := Sg_w32
      have KH := Sh_w32
      have KT := St_w32
      have HV : Hid (Below w.heap.size w w32) := Lib.hid B_w32.out
      clear Sg_w32 Sh_w32 St_w32 B_w32 HRU C2 C3
      go_loopg [17] X.length (fun g v wr => ∃ i : Nat, i + g = X.length ∧ v = .int .i64 i ∧ Below w32.heap.size w32 wr)
      case atStart => exact ⟨0, by omega, rfl, Below.refl _ _⟩
      case round =>
        rename World => wb
        rename Nat => gb2
        obtain ⟨i, hig, rfl, hbV⟩ := hrel
        have HBV := Lib.hid hbV
        have B_wb : Hid (Below w.heap.size w wb) := Lib.hid (stepB HV.out hbV)
        have HI := Lib.hid hig
        clear hbV
        cases gb2 with
        | zero =>
          obtain rfl : i = X.length := by omega
          have e3 : decide ((X.length : Int) < (X.length : Int)) = false := decide_eq_false (by omega)
          clear hig HI HBV
          go_wp2_with fail
          refine (HA.out wb).mono ?_
          rintro e w41 ⟨rfl, hb⟩
          have B_w41 : Hid (Below w.heap.size w w41) := Lib.hid (stepB B_wb.out hb)
          clear B_wb
          clear hb
          go_wp2_with fail
          go_ret
          exact ⟨rfl, B_w41.out⟩
        | succ g2 =>
          have hlti : i < X.length := by omega
          have e3 : decide ((i : Int) < (X.length : Int)) = true := decide_eq_true (by omega)
          have e3n : decide (i < X.length) = true := decide_eq_true hlti
          obtain ⟨gv, hg⟩ : ∃ x, G[i]? = some x := ⟨_, List.getElem?_eq_getElem (by rw [HFG.out.len]; exact hlti)⟩
          obtain ⟨hv, hh⟩ : ∃ x, G2[i]? = some x := ⟨_, List.getElem?_eq_getElem (by rw [HL2.out]; exact hlti)⟩
          obtain ⟨tv, ht⟩ : ∃ x, G3[i]? = some x := ⟨_, List.getElem?_eq_getElem (by rw [HL3.out]; exact hlti)⟩
          obtain ⟨gb, go, hA1, hgb, kg⟩ := IL.at_ (CL.step KG.out HBV.out) hg
          obtain ⟨qb, qo, hA2, hhb, kh⟩ := IL.at_ (CL.step KH.out HBV.out) hh
          obtain ⟨tb, to, hA3, htb, kt⟩ := IL.at_ (CL.step KT.out HBV.out) ht
          subst hA1
          subst hA2
          subst hA3
          have hs := HSG.out i
          rw [getD_of hg, getD_of hh, getD_of ht] at hs
          subst hs
          have u9 : IntKind.i64.wrap (gv + hv) = gv + hv := by have := HS1.out gv (List.mem_of_getElem? hg); have := HS2.out hv (List.mem_of_getElem? hh); rw [IntKind.wrap_i64]; omega
          have j1 : (0 : Int) ≤ (i : Int) := by omega
          have j2 : (i : Int) < (X.length : Int) := by omega
          have j3 : (i : Int) < (G.length : Int) := by have := HFG.out.len; omega
          have j4 : (i : Int) < (G2.length : Int) := by have := HL2.out; omega
          have j5 : (i : Int) < (G3.length : Int) := by have := HL3.out; omega
          have SV_wb : Hid (Below w32.heap.size w32 wb) := HBV
          have Sg_wb : Hid ((gb < wb.heap.size ∧ wb.cell? ⟨gb, go + i, none⟩ = some (.int .i64 gv))) := Lib.hid ⟨hgb, kg⟩
          have Sq_wb : Hid ((qb < wb.heap.size ∧ wb.cell? ⟨qb, qo + i, none⟩ = some (.int .i64 hv))) := Lib.hid ⟨hhb, kh⟩
          have St_wb : Hid ((tb < wb.heap.size ∧ wb.cell? ⟨tb, to + i, none⟩ = some (.int .i64 (gv + hv)))) := Lib.hid ⟨htb, kt⟩
          clear hg hh ht hgb hhb htb kg kh kt hig
          go_upto_region 20 with fail
          obtain ⟨dw41, hdw41⟩ : ∃ dw41, dw41 = World.drew wb := ⟨_, rfl⟩
          have hbD : Below wb.heap.size wb dw41 := by rw [hdw41]; exact (Below.refl _ _).drew
          have B_dw41 : Hid (Below w.heap.size w dw41) := Lib.hid (stepB B_wb.out hbD)
          have SV_dw41 : Hid (Below w32.heap.size w32 dw41) := Lib.hid (stepB SV_wb.out hbD)
          have Sg_dw41 : Hid ((gb < dw41.heap.size ∧ dw41.cell? ⟨gb, go + i, none⟩ = some (.int .i64 gv))) := Lib.hid (⟨Nat.lt_of_lt_of_le Sg_wb.out.1 hbD.size, (hbD.cell (p := ⟨gb, go + i, none⟩) Sg_wb.out.1).trans Sg_wb.out.2⟩)
          have Sq_dw41 : Hid ((qb < dw41.heap.size ∧ dw41.cell? ⟨qb, qo + i, none⟩ = some (.int .i64 hv))) := Lib.hid (⟨Nat.lt_of_lt_of_le Sq_wb.out.1 hbD.size, (hbD.cell (p := ⟨qb, qo + i, none⟩) Sq_wb.out.1).trans Sq_wb.out.2⟩)
          have St_dw41 : Hid ((tb < dw41.heap.size ∧ dw41.cell? ⟨tb, to + i, none⟩ = some (.int .i64 (gv + hv)))) := Lib.hid (⟨Nat.lt_of_lt_of_le St_wb.out.1 hbD.size, (hbD.cell (p := ⟨tb, to + i, none⟩) St_wb.out.1).trans St_wb.out.2⟩)
          clear B_wb SV_wb Sg_wb Sq_wb St_wb
          have hbd : (fun w' => (gb < w'.heap.size ∧ w'.cell? ⟨gb, go + i, none⟩ = some (.int .i64 gv)) ∧ (qb < w'.heap.size ∧ w'.cell? ⟨qb, qo + i, none⟩ = some (.int .i64 hv)) ∧ (tb < w'.heap.size ∧ w'.cell? ⟨tb, to + i, none⟩ = some (.int .i64 (gv + hv)))) (World.drew wb) := by rw [← hdw41]; exact ⟨Sg_dw41.out, Sq_dw41.out, St_dw41.out⟩
          have hSD : (fun w' => (gb < w'.heap.size ∧ w'.cell? ⟨gb, go + i, none⟩ = some (.int .i64 gv)) ∧ (qb < w'.heap.size ∧ w'.cell? ⟨qb, qo + i, none⟩ = some (.int .i64 hv)) ∧ (tb < w'.heap.size ∧ w'.cell? ⟨tb, to + i, none⟩ = some (.int .i64 (gv + hv)))) dw41 := ⟨Sg_dw41.out, Sq_dw41.out, St_dw41.out⟩
          have HWD := Lib.hid hdw41
          clear hdw41 hbD
          refine wp_region_held_drew (S := fun w' => (gb < w'.heap.size ∧ w'.cell? ⟨gb, go + i, none⟩ = some (.int .i64 gv)) ∧ (qb < w'.heap.size ∧ w'.cell? ⟨qb, qo + i, none⟩ = some (.int .i64 hv)) ∧ (tb < w'.heap.size ∧ w'.cell? ⟨tb, to + i, none⟩ = some (.int .i64 (gv + hv)))) (by kernel_rfl) hbd (fun hHeld => ?_)
          rw [← HWD.out]
          clear hHeld
          have hHeld := hSD
          clear hSD hbd HWD
          refine wpAnyH_take (i := 0) (v := .slice (some ⟨gb, go, none⟩) G.length c1) (get_ops _ _ _ rfl) (by kernel_rfl) (by kernel_rfl) (by kernel_rfl) (fun _ _ _ h => h) (Or.inl ⟨by rfl, fun wS hSw => by (try dsimp only at hSw); go_simp⟩) hHeld ?_
          try simp only [Act.put, List.setIfInBounds_toArray, List.set_cons_zero, List.set_cons_succ]
          refine wpAnyH_take (i := 1) (v := .int .i64 ((i : Int))) (get_ops _ _ _ rfl) (by kernel_rfl) (by kernel_rfl) (by kernel_rfl) (fun _ _ _ h => h) (Or.inl ⟨by rfl, fun wS hSw => by (try dsimp only at hSw); go_simp⟩) hHeld ?_
          try simp only [Act.put, List.setIfInBounds_toArray, List.set_cons_zero, List.set_cons_succ]
          refine wpAnyH_take (i := 2) (v := .pointer (some ⟨gb, go + i, none⟩)) (get_ops _ _ _ rfl) (by kernel_rfl) (by kernel_rfl) (by kernel_rfl) (fun _ _ _ h => h) (Or.inl ⟨by rfl, fun wS hSw => by (try dsimp only at hSw); go_simp⟩) hHeld ?_
          try simp only [Act.put, List.setIfInBounds_toArray, List.set_cons_zero, List.set_cons_succ]
          refine wpAnyH_take (i := 3) (v := .int .i64 gv) (get_ops _ _ _ rfl) (by kernel_rfl) (by kernel_rfl) (by kernel_rfl) (fun _ _ _ h => h) (Or.inl ⟨by rfl, fun wS hSw => by (try dsimp only at hSw); have cS : wS.cell? ⟨gb, go + i, none⟩ = some (.int .i64 gv) := hSw.1.2; clear hSw; go_simp⟩) hHeld ?_
          try simp only [Act.put, List.setIfInBounds_toArray, List.set_cons_zero, List.set_cons_succ]
          refine wpAnyH_take (i := 4) (v := .slice (some ⟨qb, qo, none⟩) G2.length c3) (get_ops _ _ _ rfl) (by kernel_rfl) (by kernel_rfl) (by kernel_rfl) (fun _ _ _ h => h) (Or.inl ⟨by rfl, fun wS hSw => by (try dsimp only at hSw); go_simp⟩) hHeld ?_
          try simp only [Act.put, List.setIfInBounds_toArray, List.set_cons_zero, List.set_cons_succ]
          refine wpAnyH_take (i := 5) (v := .int .i64 ((i : Int))) (get_ops _ _ _ rfl) (by kernel_rfl) (by kernel_rfl) (by kernel_rfl) (fun _ _ _ h => h) (Or.inl ⟨by rfl, fun wS hSw => by (try dsimp only at hSw); go_simp⟩) hHeld ?_
          try simp only [Act.put, List.setIfInBounds_toArray, List.set_cons_zero, List.set_cons_succ]
          refine wpAnyH_take (i := 6) (v := .pointer (some ⟨qb, qo + i, none⟩)) (get_ops _ _ _ rfl) (by kernel_rfl) (by kernel_rfl) (by kernel_rfl) (fun _ _ _ h => h) (Or.inl ⟨by rfl, fun wS hSw => by (try dsimp only at hSw); go_simp⟩) hHeld ?_
          try simp only [Act.put, List.setIfInBounds_toArray, List.set_cons_zero, List.set_cons_succ]
          refine wpAnyH_take (i := 7) (v := .int .i64 hv) (get_ops _ _ _ rfl) (by kernel_rfl) (by kernel_rfl) (by kernel_rfl) (fun _ _ _ h => h) (Or.inl ⟨by rfl, fun wS hSw => by (try dsimp only at hSw); have cS : wS.cell? ⟨qb, qo + i, none⟩ = some (.int .i64 hv) := hSw.2.1.2; clear hSw; go_simp⟩) hHeld ?_
          try simp only [Act.put, List.setIfInBounds_toArray, List.set_cons_zero, List.set_cons_succ]
          refine wpAnyH_take (i := 8) (v := .int .i64 ((gv + hv))) (get_ops _ _ _ rfl) (by kernel_rfl) (by kernel_rfl) (by kernel_rfl) (fun _ _ _ h => h) (Or.inl ⟨by rfl, fun wS hSw => by (try dsimp only at hSw); first | (go_simp; done) | (go_simp; exact u9)⟩) hHeld ?_
          try simp only [Act.put, List.setIfInBounds_toArray, List.set_cons_zero, List.set_cons_succ]
          refine wpAnyH_take (i := 9) (v := .slice (some ⟨tb, to, none⟩) G3.length c4) (get_ops _ _ _ rfl) (by kernel_rfl) (by kernel_rfl) (by kernel_rfl) (fun _ _ _ h => h) (Or.inl ⟨by rfl, fun wS hSw => by (try dsimp only at hSw); go_simp⟩) hHeld ?_
          try simp only [Act.put, List.setIfInBounds_toArray, List.set_cons_zero, List.set_cons_succ]
          refine wpAnyH_take (i := 10) (v := .int .i64 ((i : Int))) (get_ops _ _ _ rfl) (by kernel_rfl) (by kernel_rfl) (by kernel_rfl) (fun _ _ _ h => h) (Or.inl ⟨by rfl, fun wS hSw => by (try dsimp only at hSw); go_simp⟩) hHeld ?_
          try simp only [Act.put, List.setIfInBounds_toArray, List.set_cons_zero, List.set_cons_succ]
          refine wpAnyH_take (i := 11) (v := .pointer (some ⟨tb, to + i, none⟩)) (get_ops _ _ _ rfl) (by kernel_rfl) (by kernel_rfl) (by kernel_rfl) (fun _ _ _ h => h) (Or.inl ⟨by rfl, fun wS hSw => by (try dsimp only at hSw); go_simp⟩) hHeld ?_
          try simp only [Act.put, List.setIfInBounds_toArray, List.set_cons_zero, List.set_cons_succ]
          refine wpAnyH_take (i := 12) (v := .int .i64 ((gv + hv))) (get_ops _ _ _ rfl) (by kernel_rfl) (by kernel_rfl) (by kernel_rfl) (fun _ _ _ h => h) (Or.inl ⟨by rfl, fun wS hSw => by (try dsimp only at hSw); have cS : wS.cell? ⟨tb, to + i, none⟩ = some (.int .i64 (gv + hv)) := hSw.2.2.2; clear hSw; go_simp⟩) hHeld ?_
          try simp only [Act.put, List.setIfInBounds_toArray, List.set_cons_zero, List.set_cons_succ]
          refine wpAnyH_take (i := 13) (v := .bool false) (get_ops _ _ _ rfl) (by kernel_rfl) (by kernel_rfl) (by kernel_rfl) (fun _ _ _ h => h) (Or.inl ⟨by rfl, fun wS hSw => by (try dsimp only at hSw); go_simp⟩) hHeld ?_
          try simp only [Act.put, List.setIfInBounds_toArray, List.set_cons_zero, List.set_cons_succ]
          refine wpAnyH_done (by kernel_rfl) ?_ _
          go_wp2_with fail
          go_roundg g2
          case measure => omega
          case rel => exact ⟨i + 1, by have := HI.out; omega, by first | rfl | exact nxt i (by have := HI.out; omega), SV_dw41.out⟩
    | succ g =>
      have hltk : k < X.length := by omega
      have e3 : decide ((k : Int) < (X.length : Int)) = true := decide_eq_true (by omega)
      have e3n : decide (k < X.length) = true := decide_eq_true hltk
      obtain ⟨x, hx⟩ : ∃ x, X[k]? = some x := ⟨_, List.getElem?_eq_getElem hltk⟩
      obtain ⟨gv, hg⟩ : ∃ x, G[k]? = some x := ⟨_, List.getElem?_eq_getElem (by rw [HFG.out.len]; exact hltk)⟩
      obtain ⟨xb, xo, hA, hxb, k0, k1⟩ := CrL.at_ (HXW.out wa HBW.out) hx
      obtain ⟨gb, go, hA1, hgb, kg⟩ := IL.at_ (HGG.out wa HBW.out) hg
      subst hA
      subst hA1
      have hxok := HOK.out x (List.mem_of_getElem? hx)
      have hgd := getD_of hg
      have hat := atC_of hx
      have hok := HFG.out.ok k hltk
      rw [hgd, hat] at hok
      obtain ⟨m, u⟩ := x
      dsimp only at k0 k1
      obtain ⟨z1, z2, z3, z4⟩ := okC_iff.1 hxok
      dsimp only at z1 z2 z3 z4
      have CL := Lib.hid (fun w => rLeftC_any m u (by omega) (by omega) (by omega) w)
      have HUA := Lib.hid (usK_at HFG.out.len hx)
      have HUS := Lib.hid (usK_succ HFG.out.len hx hg)
      have hlf : lfC (m, u) ≤ 1099511627776 := by unfold lfC; dsimp only; split <;> omega
      have j1 : (0 : Int) ≤ (k : Int) := by omega
      have j2 : (k : Int) < (X.length : Int) := by omega
      have j3 : (k : Int) < (G.length : Int) := by have := HFG.out.len; omega
      generalize lfC (m, u) = lf at CL hok hlf
      have u8 : wrap64 (u + gv) = u + gv := wrap64_id _ (by omega) (by omega)
      have u9 : IntKind.i64.wrap (u + gv) = u + gv := by rw [IntKind.wrap_i64]; omega
      have q1 : decide (gv < 0) = false := decide_eq_false (by omega)
      have q2 : decide (lf < gv) = false := decide_eq_false (by omega)
      have SW_wa : Hid (Below w2.heap.size w2 wa) := HBW
      have Sr_wa : Hid (RowC wa gM (usK X G k)) := HROW
      have Sx_wa : Hid ((xb < wa.heap.size ∧ wa.cell? ⟨xb, xo + k * 2, none⟩ = some (.int .i64 m) ∧ wa.cell? ⟨xb, xo + k * 2 + 1, none⟩ = some (.int .i64 u))) := Lib.hid ⟨hxb, k0, k1⟩
      have Sg_wa : Hid ((gb < wa.heap.size ∧ wa.cell? ⟨gb, go + k, none⟩ = some (.int .i64 gv))) := Lib.hid ⟨hgb, kg⟩
      clear HBW HROW hx hg hxok hgd hat hok hlf z1 z2 z3 z4 hxb hgb k0 k1 kg hbW hkg
      go_upto_region 10 with fail
      obtain ⟨dw21, hdw21⟩ : ∃ dw21, dw21 = World.drew wa := ⟨_, rfl⟩
      have hbD : Below wa.heap.size wa dw21 := by rw [hdw21]; exact (Below.refl _ _).drew
      have B_dw21 : Hid (Below w.heap.size w dw21) := Lib.hid (stepB B_wa.out hbD)
      have SW_dw21 : Hid (Below w2.heap.size w2 dw21) := Lib.hid (stepB SW_wa.out hbD)
      have Sr_dw21 : Hid (RowC dw21 gM (usK X G k)) := Lib.hid (Sr_wa.out.step hbD)
      have Sx_dw21 : Hid ((xb < dw21.heap.size ∧ dw21.cell? ⟨xb, xo + k * 2, none⟩ = some (.int .i64 m) ∧ dw21.cell? ⟨xb, xo + k * 2 + 1, none⟩ = some (.int .i64 u))) := Lib.hid (⟨Nat.lt_of_lt_of_le Sx_wa.out.1 hbD.size, (hbD.cell (p := ⟨xb, xo + k * 2, none⟩) Sx_wa.out.1).trans Sx_wa.out.2.1, (hbD.cell (p := ⟨xb, xo + k * 2 + 1, none⟩) Sx_wa.out.1).trans Sx_wa.out.2.2⟩)
      have Sg_dw21 : Hid ((gb < dw21.heap.size ∧ dw21.cell? ⟨gb, go + k, none⟩ = some (.int .i64 gv))) := Lib.hid (⟨Nat.lt_of_lt_of_le Sg_wa.out.1 hbD.size, (hbD.cell (p := ⟨gb, go + k, none⟩) Sg_wa.out.1).trans Sg_wa.out.2⟩)
      clear B_wa SW_wa Sr_wa Sx_wa Sg_wa
      have hbd : (fun w' => (xb < w'.heap.size ∧ w'.cell? ⟨xb, xo + k * 2, none⟩ = some (.int .i64 m) ∧ w'.cell? ⟨xb, xo + k * 2 + 1, none⟩ = some (.int .i64 u)) ∧ (gb < w'.heap.size ∧ w'.cell? ⟨gb, go + k, none⟩ = some (.int .i64 gv))) (World.drew wa) := by rw [← hdw21]; exact ⟨Sx_dw21.out, Sg_dw21.out⟩
      have hSD : (fun w' => (xb < w'.heap.size ∧ w'.cell? ⟨xb, xo + k * 2, none⟩ = some (.int .i64 m) ∧ w'.cell? ⟨xb, xo + k * 2 + 1, none⟩ = some (.int .i64 u)) ∧ (gb < w'.heap.size ∧ w'.cell? ⟨gb, go + k, none⟩ = some (.int .i64 gv))) dw21 := ⟨Sx_dw21.out, Sg_dw21.out⟩
      have HWD := Lib.hid hdw21
      clear hdw21 hbD
      refine wp_region_held_drew (S := fun w' => (xb < w'.heap.size ∧ w'.cell? ⟨xb, xo + k * 2, none⟩ = some (.int .i64 m) ∧ w'.cell? ⟨xb, xo + k * 2 + 1, none⟩ = some (.int .i64 u)) ∧ (gb < w'.heap.size ∧ w'.cell? ⟨gb, go + k, none⟩ = some (.int .i64 gv))) (by kernel_rfl) hbd (fun hHeld => ?_)
      rw [← HWD.out]
      clear hHeld
      have hHeld := hSD
      clear hSD hbd HWD
      refine wpAnyH_take (i := 0) (v := .slice (some ⟨gb, go, none⟩) G.length c1) (get_ops _ _ _ rfl) (by kernel_rfl) (by kernel_rfl) (by kernel_rfl) (fun _ _ _ h => h) (Or.inl ⟨by rfl, fun wS hSw => by (try dsimp only at hSw); go_simp⟩) hHeld ?_
      try simp only [Act.put, List.setIfInBounds_toArray, List.set_cons_zero, List.set_cons_succ]
      refine wpAnyH_take (i := 1) (v := .int .i64 ((k : Int))) (get_ops _ _ _ rfl) (by kernel_rfl) (by kernel_rfl) (by kernel_rfl) (fun _ _ _ h => h) (Or.inl ⟨by rfl, fun wS hSw => by (try dsimp only at hSw); go_simp⟩) hHeld ?_
      try simp only [Act.put, List.setIfInBounds_toArray, List.set_cons_zero, List.set_cons_succ]
      refine wpAnyH_take (i := 2) (v := .pointer (some ⟨gb, go + k, none⟩)) (get_ops _ _ _ rfl) (by kernel_rfl) (by kernel_rfl) (by kernel_rfl) (fun _ _ _ h => h) (Or.inl ⟨by rfl, fun wS hSw => by (try dsimp only at hSw); go_simp⟩) hHeld ?_
      try simp only [Act.put, List.setIfInBounds_toArray, List.set_cons_zero, List.set_cons_succ]
      refine wpAnyH_take (i := 3) (v := .int .i64 gv) (get_ops _ _ _ rfl) (by kernel_rfl) (by kernel_rfl) (by kernel_rfl) (fun _ _ _ h => h) (Or.inl ⟨by rfl, fun wS hSw => by (try dsimp only at hSw); have cS : wS.cell? ⟨gb, go + k, none⟩ = some (.int .i64 gv) := hSw.2.2; clear hSw; go_simp⟩) hHeld ?_
      try simp only [Act.put, List.setIfInBounds_toArray, List.set_cons_zero, List.set_cons_succ]
      refine wpAnyH_take (i := 4) (v := .bool false) (get_ops _ _ _ rfl) (by kernel_rfl) (by kernel_rfl) (by kernel_rfl) (fun _ _ _ h => h) (Or.inl ⟨by rfl, fun wS hSw => by (try dsimp only at hSw); go_simp⟩) hHeld ?_
      try simp only [Act.put, List.setIfInBounds_toArray, List.set_cons_zero, List.set_cons_succ]
      refine wpAnyH_take (i := 5) (v := .bool false) (get_ops _ _ _ rfl) (by kernel_rfl) (by kernel_rfl) (by kernel_rfl) (fun _ _ _ h => h) (Or.inl ⟨by rfl, fun wS hSw => by (try dsimp only at hSw); go_simp⟩) hHeld ?_
      try simp only [Act.put, List.setIfInBounds_toArray, List.set_cons_zero, List.set_cons_succ]
      refine wpAnyH_take (i := 6) (v := .slice (some ⟨gb, go, none⟩) G.length c1) (get_ops _ _ _ rfl) (by kernel_rfl) (by kernel_rfl) (by kernel_rfl) (fun _ _ _ h => h) (Or.inl ⟨by rfl, fun wS hSw => by (try dsimp only at hSw); go_simp⟩) hHeld ?_
      try simp only [Act.put, List.setIfInBounds_toArray, List.set_cons_zero, List.set_cons_succ]
      refine wpAnyH_take (i := 7) (v := .int .i64 ((k : Int))) (get_ops _ _ _ rfl) (by kernel_rfl) (by kernel_rfl) (by kernel_rfl) (fun _ _ _ h => h) (Or.inl ⟨by rfl, fun wS hSw => by (try dsimp only at hSw); go_simp⟩) hHeld ?_
      try simp only [Act.put, List.setIfInBounds_toArray, List.set_cons_zero, List.set_cons_succ]
      refine wpAnyH_take (i := 8) (v := .pointer (some ⟨gb, go + k, none⟩)) (get_ops _ _ _ rfl) (by kernel_rfl) (by kernel_rfl) (by kernel_rfl) (fun _ _ _ h => h) (Or.inl ⟨by rfl, fun wS hSw => by (try dsimp only at hSw); go_simp⟩) hHeld ?_
      try simp only [Act.put, List.setIfInBounds_toArray, List.set_cons_zero, List.set_cons_succ]
      refine wpAnyH_take (i := 9) (v := .int .i64 gv) (get_ops _ _ _ rfl) (by kernel_rfl) (by kernel_rfl) (by kernel_rfl) (fun _ _ _ h => h) (Or.inl ⟨by rfl, fun wS hSw => by (try dsimp only at hSw); have cS : wS.cell? ⟨gb, go + k, none⟩ = some (.int .i64 gv) := hSw.2.2; clear hSw; go_simp⟩) hHeld ?_
      try simp only [Act.put, List.setIfInBounds_toArray, List.set_cons_zero, List.set_cons_succ]
      refine wpAnyH_take (i := 10) (v := .slice (some ⟨xb, xo, none⟩) X.length c) (get_ops _ _ _ rfl) (by kernel_rfl) (by kernel_rfl) (by kernel_rfl) (fun _ _ _ h => h) (Or.inl ⟨by rfl, fun wS hSw => by (try dsimp only at hSw); go_simp⟩) hHeld ?_
      try simp only [Act.put, List.setIfInBounds_toArray, List.set_cons_zero, List.set_cons_succ]
      refine wpAnyH_take (i := 11) (v := .int .i64 ((k : Int))) (get_ops _ _ _ rfl) (by kernel_rfl) (by kernel_rfl) (by kernel_rfl) (fun _ _ _ h => h) (Or.inl ⟨by rfl, fun wS hSw => by (try dsimp only at hSw); go_simp⟩) hHeld ?_
      try simp only [Act.put, List.setIfInBounds_toArray, List.set_cons_zero, List.set_cons_succ]
      refine wpAnyH_take (i := 12) (v := .pointer (some ⟨xb, xo + k * 2, none⟩)) (get_ops _ _ _ rfl) (by kernel_rfl) (by kernel_rfl) (by kernel_rfl) (fun _ _ _ h => h) (Or.inl ⟨by rfl, fun wS hSw => by (try dsimp only at hSw); go_simp⟩) hHeld ?_
      try simp only [Act.put, List.setIfInBounds_toArray, List.set_cons_zero, List.set_cons_succ]
      refine wpAnyH_take (i := 13) (v := .agg #[.int .i64 m, .int .i64 u]) (get_ops _ _ _ rfl) (by kernel_rfl) (by kernel_rfl) (by kernel_rfl) (fun _ _ _ h => h) (Or.inl ⟨by rfl, fun wS hSw => by (try dsimp only at hSw); exact exec_load 23 _ rfl ⟨xb, xo + k * 2, none⟩ (by go_simp) _ (run_load_pair hSw.1.2.1 hSw.1.2.2 Try.underlying23 rfl infoC2)⟩) hHeld ?_
      try simp only [Act.put, List.setIfInBounds_toArray, List.set_cons_zero, List.set_cons_succ]
      refine wpAnyH_ready (rs := [14]) (by kernel_rfl) (by simp) ?_
      refine (AllReadyH.cons (get_ops _ _ _ rfl) (fun K hK => ?_) AllReadyH.nil)
      go_simp
      go_at_call 19
      refine (CL.out dw21).mono ?_
      rintro e w22 ⟨rfl, hb⟩
      have B_w22 : Hid (Below w.heap.size w w22) := Lib.hid (stepB B_dw21.out hb)
      have SW_w22 : Hid (Below w2.heap.size w2 w22) := Lib.hid (stepB SW_dw21.out hb)
      have Sr_w22 : Hid (RowC w22 gM (usK X G k)) := Lib.hid (Sr_dw21.out.step hb)
      have Sx_w22 : Hid ((xb < w22.heap.size ∧ w22.cell? ⟨xb, xo + k * 2, none⟩ = some (.int .i64 m) ∧ w22.cell? ⟨xb, xo + k * 2 + 1, none⟩ = some (.int .i64 u))) := Lib.hid (⟨Nat.lt_of_lt_of_le Sx_dw21.out.1 hb.size, (hb.cell (p := ⟨xb, xo + k * 2, none⟩) Sx_dw21.out.1).trans Sx_dw21.out.2.1, (hb.cell (p := ⟨xb, xo + k * 2 + 1, none⟩) Sx_dw21.out.1).trans Sx_dw21.out.2.2⟩)
      have Sg_w22 : Hid ((gb < w22.heap.size ∧ w22.cell? ⟨gb, go + k, none⟩ = some (.int .i64 gv))) := Lib.hid (⟨Nat.lt_of_lt_of_le Sg_dw21.out.1 hb.size, (hb.cell (p := ⟨gb, go + k, none⟩) Sg_dw21.out.1).trans Sg_dw21.out.2⟩)
      clear B_dw21 SW_dw21 Sr_dw21 Sx_dw21 Sg_dw21
      clear hHeld hb
      go_wp2_with fail
      refine hK.out _ _ ⟨Sx_w22.out, Sg_w22.out⟩ (fun hHeld => ?_)
      clear hK K
      try simp only [Act.put, List.setIfInBounds_toArray, List.set_cons_zero, List.set_cons_succ]
      refine wpAnyH_take (i := 15) (v := .bool false) (get_ops _ _ _ rfl) (by kernel_rfl) (by kernel_rfl) (by kernel_rfl) (fun _ _ _ h => h) (Or.inl ⟨by rfl, fun wS hSw => by (try dsimp only at hSw); go_simp⟩) hHeld ?_
      try simp only [Act.put, List.setIfInBounds_toArray, List.set_cons_zero, List.set_cons_succ]
      refine wpAnyH_take (i := 16) (v := .bool false) (get_ops _ _ _ rfl) (by kernel_rfl) (by kernel_rfl) (by kernel_rfl) (fun _ _ _ h => h) (Or.inl ⟨by rfl, fun wS hSw => by (try dsimp only at hSw); go_simp⟩) hHeld ?_
      try simp only [Act.put, List.setIfInBounds_toArray, List.set_cons_zero, List.set_cons_succ]
      refine wpAnyH_done (by kernel_rfl) ?_ _
      have kg := Sg_w22.out.2
      obtain ⟨d0, d1⟩ := Sr_w22.out.cells HUA.out
      dsimp only at d0 d1
      have f1 := Sr_w22.out.free (k * 2 + 1)
      go_wp2_with fail
      go_region
      go_wp2_with fail
      go_roundg g
      case measure => omega
      case rel =>
        refine ⟨k + 1, by have := HG.out; omega, by first | rfl | exact nxt k (by have := HG.out; omega), ?_, ?_⟩
        · exact ((RowC.set1 (Sr_w22.out.step (Below.refl _ _).drew) HUA.out (u + gv)).len_eq HUS.out)
        · exact (SW_w22.out.drew).setCell (p := ⟨gM, k * 2 + 1, none⟩) HGM.out _
theorem flowSplits_walk (A : Option Addr) (c : Nat) (X : List (Int × Int)) (last : Int) (a b : Nat) (w : World) (hsl : CrL w w.heap.size A X) (hX : X.length ≤ 9223372036854775807) (hl1 : -9223372036854775808 ≤ last) (hl2 : last ≤ 9223372036854775807) (ha : a ≤ 255) (hbb : b ≤ 255) :
    Calls Try.prog 8 #[.slice A X.length c, .int .i64 last, .int .u8 (a : Int), .int .u8 (b : Int)] w fun e w' => e = .returned (.bool true) ∧ Below w.heap.size w w' := by
  cases hv : vlC X with
  | true =>
    cases X with
    | nil => exact flowSplits_nil A c last a b w hl1 hl2 ha hbb
    | cons x xs => exact flowSplits_good A c (x :: xs) last a b w hsl hX hl1 hl2 ha hbb hv (by simp)
  | false => exact flowSplits_bad A c X last a b w hsl hX hl1 hl2 ha hbb hv
theorem flowSplits_walk8 (A : Option Addr) (c : Nat) (X : List (Int × Int)) (last : Int) (a b : UInt8) (w : World) (hsl : CrL w w.heap.size A X) (hX : X.length ≤ 9223372036854775807) (hl1 : -9223372036854775808 ≤ last) (hl2 : last ≤ 9223372036854775807) :
    Calls Try.prog 8 #[.slice A X.length c, .int .i64 last, .int .u8 (a.toNat : Int), .int .u8 (b.toNat : Int)] w fun e w' => e = .returned (.bool true) ∧ Below w.heap.size w w' :=
  flowSplits_walk A c X last a.toNat b.toNat w hsl hX hl1 hl2 (by have := a.toNat_lt; omega) (by have := b.toNat_lt; omega)
end Go.Proofs.Ytomlideijhejfab
