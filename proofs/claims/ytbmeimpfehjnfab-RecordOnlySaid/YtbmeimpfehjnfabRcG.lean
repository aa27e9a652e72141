/-
  RecordBack and RecordOnly answer true, walked. Conditions: texts fit an int; the bytes read as data.
-/
import Derived.Test.YtbmeimpfehjnfabRcF
namespace Go.Proofs.Ytbmeimpfehjnfab
open Go.RowKit
open S2 (BK Put get_ops exec_load)

set_option maxRecDepth 20000 in
set_option maxHeartbeats 8000000 in
theorem recordBack_walk (A0 : Option Addr) (c0 : Nat) (l0 : List UInt8) (r : Rc) (A2 : Option Addr) (c2 : Nat) (l2 : List UInt8) (w : World) (hs0 : CL bv w w.heap.size A0 l0) (_hc0 : l0.length ≤ c0) (hn0 : l0.length ≤ 140737488355328) (hz : r.key.size ≤ 9223372036854775807 ∧ r.val.size ≤ 9223372036854775807) (hs2 : CL bv w w.heap.size A2 l2) (_hc2 : l2.length ≤ c2) (hn2 : l2.length ≤ 140737488355328) :
    Calls Try.prog 6 #[.slice A0 l0.length c0, rcV r, .slice A2 l2.length c2] w fun e w' => e = .returned (.bool true) ∧ Below w.heap.size w w' := by
  have HC := Lib.hid (fun w => rrCheck_any r w hz)
  by_cases hl0 : 5000 < l0.length
  · clear hs0 hs2 HC
    unfold rcV
    go_enter Try.func6, Try.ntmps6
    go_upto_region 1 with fail
    refine name_world (C := fun w1 => Code.wp _ _ _ _ w1) (w.alloc (.cells (rcC r).toArray 23)) ?_
    intro w1 hw1
    have hb1 : Below w.heap.size w w1 := by rw [hw1]; exact S2.below_new w _
    have E_w1 : Hid (BK 23 w1 w.heap.size (rcC r)) := Lib.hid (by rw [hw1]; exact BK.new w _ _)
    have B_w1 := Lib.hid hb1
    clear hw1 hb1
    go_wp2_with fail
    refine (awake31_any w1).mono ?_
    rintro e y1 ⟨rfl, hb⟩
    have E_y1 : Hid (BK 23 y1 w.heap.size (rcC r)) := Lib.hid (E_w1.out.step hb)
    have B_y1 : Hid (Below w.heap.size w y1) := Lib.hid ((stepB B_w1.out hb))
    clear E_w1 B_w1
    clear hb
    go_wp2_with fail
    go_ret
    exact ⟨rfl, B_y1.out⟩
  by_cases hl2 : 5000 < l2.length
  · clear hs0 hs2 HC
    unfold rcV
    go_enter Try.func6, Try.ntmps6
    go_upto_region 1 with fail
    refine name_world (C := fun w1 => Code.wp _ _ _ _ w1) (w.alloc (.cells (rcC r).toArray 23)) ?_
    intro w1 hw1
    have hb1 : Below w.heap.size w w1 := by rw [hw1]; exact S2.below_new w _
    have E_w1 : Hid (BK 23 w1 w.heap.size (rcC r)) := Lib.hid (by rw [hw1]; exact BK.new w _ _)
    have B_w1 := Lib.hid hb1
    clear hw1 hb1
    go_wp2_with fail
    refine (awake31_any w1).mono ?_
    rintro e y1 ⟨rfl, hb⟩
    have E_y1 : Hid (BK 23 y1 w.heap.size (rcC r)) := Lib.hid (E_w1.out.step hb)
    have B_y1 : Hid (Below w.heap.size w y1) := Lib.hid ((stepB B_w1.out hb))
    clear E_w1 B_w1
    clear hb
    go_wp2_with fail
    go_ret
    exact ⟨rfl, B_y1.out⟩
  by_cases hck : rcCk r ≠ 0
  · have hcb : (rcCk r != 0) = true := by simp [hck]
    generalize rcCk r = ck at *
    clear hs0 hs2 hck
    unfold rcV
    go_enter Try.func6, Try.ntmps6
    go_upto_region 1 with fail
    refine name_world (C := fun w1 => Code.wp _ _ _ _ w1) (w.alloc (.cells (rcC r).toArray 23)) ?_
    intro w1 hw1
    have hb1 : Below w.heap.size w w1 := by rw [hw1]; exact S2.below_new w _
    have E_w1 : Hid (BK 23 w1 w.heap.size (rcC r)) := Lib.hid (by rw [hw1]; exact BK.new w _ _)
    have B_w1 := Lib.hid hb1
    clear hw1 hb1
    have k0 := E_w1.out.cell 0 rfl
    have k1 := E_w1.out.cell 1 rfl
    have k2 := E_w1.out.cell 2 rfl
    have k3 := E_w1.out.cell 3 rfl
    go_wp2_with fail
    refine (HC.out w1).mono ?_
    rintro e y1 ⟨rfl, hb⟩
    clear k0 k1 k2 k3
    have E_y1 : Hid (BK 23 y1 w.heap.size (rcC r)) := Lib.hid (E_w1.out.step hb)
    have B_y1 : Hid (Below w.heap.size w y1) := Lib.hid ((stepB B_w1.out hb))
    clear E_w1 B_w1
    clear hb
    go_wp2_with fail
    refine (awake31_any y1).mono ?_
    rintro e y2 ⟨rfl, hb⟩
    have E_y2 : Hid (BK 23 y2 w.heap.size (rcC r)) := Lib.hid (E_y1.out.step hb)
    have B_y2 : Hid (Below w.heap.size w y2) := Lib.hid ((stepB B_y1.out hb))
    clear E_y1 B_y1
    clear hb
    go_wp2_with fail
    go_ret
    exact ⟨rfl, B_y2.out⟩
  have hck : rcCk r = 0 := by omega
  have HE := Lib.hid (fun w => rcEncode_any r w hz)
  have hle := rcEnc_len hck
  have hfr := rcDec_frame hck l0 l2
  unfold RetRE at HE
  rw [hck] at HC HE
  generalize rcEnc r = T at *
  obtain ⟨al, hal⟩ : ∃ al, al = l0 ++ T ++ l2 := ⟨_, rfl⟩
  rw [← List.append_assoc, ← hal] at hfr
  have hall : al.length = l0.length + T.length + l2.length := by rw [hal, List.length_append, List.length_append]
  have HD := Lib.hid (fun A c w h hc => rcDecode_any A c al l0.length (by omega) (by omega) w h hc (by omega))
  rw [hfr] at HD
  unfold RetRD at HD
  dsimp only at HD
  have HAL := Lib.hid hal
  have HLL := Lib.hid hall
  have hwr : wrap64 ((al.length : Int) - (l2.length : Int)) = ((l0.length + T.length : Nat) : Int) := by rw [wrap64_id _ (by omega) (by omega)]; omega
  have HWR := Lib.hid hwr
  have HL := Lib.hid hle
  have HS0 := Lib.hid hs0
  have HS2 := Lib.hid hs2
  have HN0 := Lib.hid (show l0.length ≤ 5000 by omega)
  have HN2 := Lib.hid (show l2.length ≤ 5000 by omega)
  clear hs0 hs2 hfr hal hall hck hle hwr hn0 hn2
  unfold rcV
  go_enter Try.func6, Try.ntmps6
  go_upto_region 1 with fail
  refine name_world (C := fun w1 => Code.wp _ _ _ _ w1) (w.alloc (.cells (rcC r).toArray 23)) ?_
  intro w1 hw1
  have hb1 : Below w.heap.size w w1 := by rw [hw1]; exact S2.below_new w _
  have E_w1 : Hid (BK 23 w1 w.heap.size (rcC r)) := Lib.hid (by rw [hw1]; exact BK.new w _ _)
  have B_w1 := Lib.hid hb1
  clear hw1 hb1
  have P_w1 : Hid (CL bv w1 w1.heap.size A0 l0) := Lib.hid (HS0.out.step B_w1.out)
  have Q_w1 : Hid (CL bv w1 w1.heap.size A2 l2) := Lib.hid (HS2.out.step B_w1.out)
  clear HS0 HS2
  have k0 := E_w1.out.cell 0 rfl
  have k1 := E_w1.out.cell 1 rfl
  have k2 := E_w1.out.cell 2 rfl
  have k3 := E_w1.out.cell 3 rfl
  go_wp2_with fail
  refine (HC.out w1).mono ?_
  rintro e y1 ⟨rfl, hb⟩
  clear k0 k1 k2 k3
  have E_y1 : Hid (BK 23 y1 w.heap.size (rcC r)) := Lib.hid (E_w1.out.step hb)
  have B_y1 : Hid (Below w.heap.size w y1) := Lib.hid ((stepB B_w1.out hb))
  have P_y1 : Hid (CL bv y1 y1.heap.size A0 l0) := Lib.hid (P_w1.out.step hb)
  have Q_y1 : Hid (CL bv y1 y1.heap.size A2 l2) := Lib.hid (Q_w1.out.step hb)
  clear E_w1 B_w1 P_w1 Q_w1
  clear hb
  have k0 := E_y1.out.cell 0 rfl
  have k1 := E_y1.out.cell 1 rfl
  have k2 := E_y1.out.cell 2 rfl
  have k3 := E_y1.out.cell 3 rfl
  go_wp2_with fail
  refine (HE.out y1).mono ?_
  rintro e y2 ⟨v3, rfl, own3, hb⟩
  clear k0 k1 k2 k3
  have E_y2 : Hid (BK 23 y2 w.heap.size (rcC r)) := Lib.hid (E_y1.out.step hb)
  have B_y2 : Hid (Below w.heap.size w y2) := Lib.hid ((stepB B_y1.out hb))
  have P_y2 : Hid (CL bv y2 y2.heap.size A0 l0) := Lib.hid (P_y1.out.step hb)
  have Q_y2 : Hid (CL bv y2 y2.heap.size A2 l2) := Lib.hid (Q_y1.out.step hb)
  clear E_y1 B_y1 P_y1 Q_y1
  obtain ⟨A3, c3, rfl, _, sl3⟩ := own3.ret
  have L_y2 : Hid (CL bv y2 y2.heap.size A3 T) := Lib.hid (sl3)
  clear own3 sl3
  clear hb
  go_upto_region 5 with first
    | (refine wpList_appB _ rfl (.tmp 32) (.tmp 33) rfl y2.heap.size _ [] l0 A0 c0 rfl (Own.made y2 0 #[] y2.heap.size (Nat.le_refl _) (by decide) rfl) rfl y2.heap.size (copied P_y2.out (Nat.le_refl _) _) y2 ((Below.refl _ _).alloc (Nat.le_refl _) _) (by simp) (by have := HN0.out; simp; omega) ?_; intro v1 wa own1 hb1 hB1; rw [List.nil_append] at own1)
    | (refine wpList_appB wa rfl (.tmp 34) (.tmp 35) rfl y2.heap.size v1 l0 T A3 c3 rfl own1 rfl y2.heap.size (L_y2.out.below hb1) y2 hb1 hB1 (by have := HN0.out; have := HL.out; omega) ?_; intro v2 wb own2 hb2 hB2)
    | (refine wpList_appB wb rfl (.tmp 36) (.tmp 37) rfl y2.heap.size v2 (l0 ++ T) l2 A2 c2 rfl own2 rfl y2.heap.size (Q_y2.out.below hb2) y2 hb2 hB2 (by have := HN0.out; have := HN2.out; have := HL.out; simp; omega) ?_; intro v9 wc own9 hb3 hB3; rw [← HAL.out] at own9; obtain ⟨A9, c9, rfl, hc9, sl9⟩ := own9.ret; have E_wc : Hid (BK 23 wc w.heap.size (rcC r)) := Lib.hid (E_y2.out.step hb3); have B_wc : Hid (Below w.heap.size w wc) := Lib.hid ((stepB B_y2.out hb3)); have P_wc : Hid (CL bv wc wc.heap.size A0 l0) := Lib.hid (P_y2.out.step hb3); have Q_wc : Hid (CL bv wc wc.heap.size A2 l2) := Lib.hid (Q_y2.out.step hb3); have L_wc : Hid (CL bv wc wc.heap.size A3 T) := Lib.hid (L_y2.out.step hb3); have S9 := Lib.hid sl9; have C9 := Lib.hid hc9; clear own1 own2 own9 hb1 hb2 hb3 hB1 hB2 hB3 sl9 hc9 E_y2 B_y2 P_y2 Q_y2 L_y2)
  go_wp2_with fail
  refine (HD.out A9 c9 wc S9.out C9.out).mono ?_
  rintro e y3 ⟨rfl, hb⟩
  have E_y3 : Hid (BK 23 y3 w.heap.size (rcC r)) := Lib.hid (E_wc.out.step hb)
  have B_y3 : Hid (Below w.heap.size w y3) := Lib.hid ((stepB B_wc.out hb))
  have P_y3 : Hid (CL bv y3 y3.heap.size A0 l0) := Lib.hid (P_wc.out.step hb)
  have Q_y3 : Hid (CL bv y3 y3.heap.size A2 l2) := Lib.hid (Q_wc.out.step hb)
  have L_y3 : Hid (CL bv y3 y3.heap.size A3 T) := Lib.hid (L_wc.out.step hb)
  clear E_wc B_wc P_wc Q_wc L_wc
  clear hb
  go_upto_region 6 with first
    | (refine S2.wpList_store_all (by rfl) 23 (.tmp 10) (.tmp 44) rfl rfl (y3.heap.size) rfl (rcC r) rfl 23 (rcC rcZ) (BK.new y3 _ _) rcSize rfl (S2.all_one rfl) ?_; intro y4 hM hP; have hb : Below y3.heap.size y3 y4 := hP.below (S2.below_new y3 _) (Nat.le_refl _); have E_y4 : Hid (BK 23 y4 w.heap.size (rcC r)) := Lib.hid (E_y3.out.step hb); have B_y4 : Hid (Below w.heap.size w y4) := Lib.hid ((stepB B_y3.out hb)); have P_y4 : Hid (CL bv y4 y4.heap.size A0 l0) := Lib.hid (P_y3.out.step hb); have Q_y4 : Hid (CL bv y4 y4.heap.size A2 l2) := Lib.hid (Q_y3.out.step hb); have L_y4 : Hid (CL bv y4 y4.heap.size A3 T) := Lib.hid (L_y3.out.step hb); have M_y4 : Hid (BK 23 y4 (y3.heap.size) (rcC r)) := Lib.hid hM; clear hM hP hb E_y3 B_y3 P_y3 Q_y3 L_y3)
  have k0 := E_y4.out.cell 0 rfl
  have k1 := E_y4.out.cell 1 rfl
  have k2 := E_y4.out.cell 2 rfl
  have k3 := E_y4.out.cell 3 rfl
  have m0 := M_y4.out.cell 0 rfl
  have m1 := M_y4.out.cell 1 rfl
  have m2 := M_y4.out.cell 2 rfl
  have m3 := M_y4.out.cell 3 rfl
  have heq := eqRc_self r.off r.kind r.key r.val
  have hgd := guardRc
  have hwr := HWR.out
  go_wp2_with fail
  refine (awake31_any y4).mono ?_
  rintro e y5 ⟨rfl, hb⟩
  clear k0 k1 k2 k3 m0 m1 m2 m3
  have E_y5 : Hid (BK 23 y5 w.heap.size (rcC r)) := Lib.hid (E_y4.out.step hb)
  have B_y5 : Hid (Below w.heap.size w y5) := Lib.hid ((stepB B_y4.out hb))
  have P_y5 : Hid (CL bv y5 y5.heap.size A0 l0) := Lib.hid (P_y4.out.step hb)
  have Q_y5 : Hid (CL bv y5 y5.heap.size A2 l2) := Lib.hid (Q_y4.out.step hb)
  have L_y5 : Hid (CL bv y5 y5.heap.size A3 T) := Lib.hid (L_y4.out.step hb)
  have M_y5 : Hid (BK 23 y5 (y3.heap.size) (rcC r)) := Lib.hid (M_y4.out.step hb)
  clear E_y4 B_y4 P_y4 Q_y4 L_y4 M_y4
  clear hb
  go_wp2_with fail
  go_ret
  exact ⟨rfl, B_y5.out⟩

set_option maxRecDepth 20000 in
set_option maxHeartbeats 8000000 in
theorem recordOnly_walk (A : Option Addr) (c : Nat) (l : List UInt8) (w : World) (hsl : CL bv w w.heap.size A l) (hc : l.length ≤ c) (hn : l.length ≤ 140737488355328) :
    Calls Try.prog 7 #[.slice A l.length c] w fun e w' => e = .returned (.bool true) ∧ Below w.heap.size w w' := by
  by_cases h5 : 5000 < l.length
  · clear hsl
    go_enter Try.func7, Try.ntmps7
    go_wp2_with fail
    refine (awake31_any w).mono ?_
    rintro e w2 ⟨rfl, hb⟩
    go_wp2_with fail
    go_ret
    exact ⟨rfl, hb⟩
  have HD := Lib.hid (fun w h => rcDecode_any A c l 0 (by decide) (by decide) w h hc hn)
  unfold RetRD at HD
  have hok := fun R nx => @rcDec_only l nx R
  have herr := fun R nx e => @rcDec_err l 0 nx e R
  generalize rcDec l 0 = q at *
  obtain ⟨R, nx, er⟩ := q
  dsimp only at HD
  by_cases he : er = 0
  · subst he
    obtain ⟨hck, k, rfl, hkl, hek, hel⟩ := hok R nx rfl
    obtain ⟨A2, hs, hcl2⟩ := slice_h A c l k hkl hc
    have hz := rcCk_ok hck
    have HE := Lib.hid (fun w => rcEncode_any R w (by omega))
    have HZ := Lib.hid (fun w => rcSize_any R w (by omega))
    unfold RetRE at HE
    rw [hel] at HZ
    rw [hck, hek] at HE
    have htl : (l.take k).length = k := by rw [List.length_take]; omega
    have HC2 := Lib.hid (fun w h => hcl2 w w.heap.size h)
    generalize l.take k = F at *
    have d1 : (k : Int) ≤ (l.length : Int) := by omega
    have S_w := Lib.hid hsl
    have B_w := Lib.hid (Below.refl w.heap.size w)
    clear hok herr hcl2 hsl hek hel hz hck htl hkl hn
    go_enter Try.func7, Try.ntmps7
    go_wp2_with fail
    refine (HD.out w S_w.out).mono ?_
    rintro e y1 ⟨rfl, hb⟩
    have S_y1 : Hid (CL bv y1 y1.heap.size A l) := Lib.hid (S_w.out.step hb)
    have B_y1 : Hid (Below w.heap.size w y1) := Lib.hid ((stepB B_w.out hb))
    clear S_w B_w
    clear hb
    go_upto_region 4 with first
      | (refine S2.wpList_store_all (by rfl) 23 (.tmp 3) (.tmp 15) rfl rfl (y1.heap.size) rfl (rcC R) rfl 23 (rcC rcZ) (BK.new y1 _ _) rcSize rfl (S2.all_one rfl) ?_; intro y2 hM hP; have hb : Below y1.heap.size y1 y2 := hP.below (S2.below_new y1 _) (Nat.le_refl _); have S_y2 : Hid (CL bv y2 y2.heap.size A l) := Lib.hid (S_y1.out.step hb); have B_y2 : Hid (Below w.heap.size w y2) := Lib.hid ((stepB B_y1.out hb)); have E_y2 : Hid (BK 23 y2 (y1.heap.size) (rcC R)) := Lib.hid hM; clear hM hP hb S_y1 B_y1)
    have k0 := E_y2.out.cell 0 rfl
    have k1 := E_y2.out.cell 1 rfl
    have k2 := E_y2.out.cell 2 rfl
    have k3 := E_y2.out.cell 3 rfl
    go_wp2_with fail
    refine (HE.out y2).mono ?_
    rintro e y3 ⟨v3, rfl, own3, hb⟩
    clear k0 k1 k2 k3
    have S_y3 : Hid (CL bv y3 y3.heap.size A l) := Lib.hid (S_y2.out.step hb)
    have B_y3 : Hid (Below w.heap.size w y3) := Lib.hid ((stepB B_y2.out hb))
    have E_y3 : Hid (BK 23 y3 (y1.heap.size) (rcC R)) := Lib.hid (E_y2.out.step hb)
    clear S_y2 B_y2 E_y2
    obtain ⟨A3, c3, rfl, _, sl3⟩ := own3.ret
    have L_y3 : Hid (CL bv y3 y3.heap.size A3 F) := Lib.hid (sl3)
    clear own3 sl3
    clear hb
    go_wp2_with fail
    refine (same_self31 (c := c3) (c' := c) L_y3.out (HC2.out y3 S_y3.out)).mono ?_
    rintro e y0 ⟨rfl, rfl⟩
    have k0 := E_y3.out.cell 0 rfl
    have k1 := E_y3.out.cell 1 rfl
    have k2 := E_y3.out.cell 2 rfl
    have k3 := E_y3.out.cell 3 rfl
    go_wp2_with fail
    refine (HZ.out y3).mono ?_
    rintro e y4 ⟨rfl, hb⟩
    clear k0 k1 k2 k3
    have S_y4 : Hid (CL bv y4 y4.heap.size A l) := Lib.hid (S_y3.out.step hb)
    have B_y4 : Hid (Below w.heap.size w y4) := Lib.hid ((stepB B_y3.out hb))
    have E_y4 : Hid (BK 23 y4 (y1.heap.size) (rcC R)) := Lib.hid (E_y3.out.step hb)
    have L_y4 : Hid (CL bv y4 y4.heap.size A3 F) := Lib.hid (L_y3.out.step hb)
    clear S_y3 B_y3 E_y3 L_y3
    clear hb
    go_wp2_with fail
    refine (awake31_any y4).mono ?_
    rintro e y5 ⟨rfl, hb⟩
    have S_y5 : Hid (CL bv y5 y5.heap.size A l) := Lib.hid (S_y4.out.step hb)
    have B_y5 : Hid (Below w.heap.size w y5) := Lib.hid ((stepB B_y4.out hb))
    have E_y5 : Hid (BK 23 y5 (y1.heap.size) (rcC R)) := Lib.hid (E_y4.out.step hb)
    have L_y5 : Hid (CL bv y5 y5.heap.size A3 F) := Lib.hid (L_y4.out.step hb)
    clear S_y4 B_y4 E_y4 L_y4
    clear hb
    go_wp2_with fail
    go_ret
    exact ⟨rfl, B_y5.out⟩
  · obtain ⟨rfl, rfl⟩ := herr R nx er rfl he
    have hb0 : (er != 0) = true := by simp [he]
    have S_w := Lib.hid hsl
    have B_w := Lib.hid (Below.refl w.heap.size w)
    clear hok herr he hsl
    go_enter Try.func7, Try.ntmps7
    go_wp2_with fail
    refine (HD.out w S_w.out).mono ?_
    rintro e y1 ⟨rfl, hb⟩
    have S_y1 : Hid (CL bv y1 y1.heap.size A l) := Lib.hid (S_w.out.step hb)
    have B_y1 : Hid (Below w.heap.size w y1) := Lib.hid ((stepB B_w.out hb))
    clear S_w B_w
    clear hb
    go_upto_region 4 with first
      | (refine S2.wpList_store_all (by rfl) 23 (.tmp 3) (.tmp 15) rfl rfl (y1.heap.size) rfl [.int .i64 0, .int .i64 0, .string ⟨#[]⟩, .string ⟨#[]⟩] rfl 23 (rcC rcZ) (BK.new y1 _ _) rcSize rfl (S2.all_one rfl) ?_; intro y2 hM hP; have hb : Below y1.heap.size y1 y2 := hP.below (S2.below_new y1 _) (Nat.le_refl _); have S_y2 : Hid (CL bv y2 y2.heap.size A l) := Lib.hid (S_y1.out.step hb); have B_y2 : Hid (Below w.heap.size w y2) := Lib.hid ((stepB B_y1.out hb)); have E_y2 : Hid (BK 23 y2 (y1.heap.size) [.int .i64 0, .int .i64 0, .string ⟨#[]⟩, .string ⟨#[]⟩]) := Lib.hid hM; clear hM hP hb S_y1 B_y1)
    have k0 := E_y2.out.cell 0 rfl
    have k1 := E_y2.out.cell 1 rfl
    have k2 := E_y2.out.cell 2 rfl
    have k3 := E_y2.out.cell 3 rfl
    have heq := eqRc_self 0 0 ⟨#[]⟩ ⟨#[]⟩
    have hgd := guardRc
    go_wp2_with fail
    refine (awake31_any y2).mono ?_
    rintro e y3 ⟨rfl, hb⟩
    clear k0 k1 k2 k3
    have S_y3 : Hid (CL bv y3 y3.heap.size A l) := Lib.hid (S_y2.out.step hb)
    have B_y3 : Hid (Below w.heap.size w y3) := Lib.hid ((stepB B_y2.out hb))
    have E_y3 : Hid (BK 23 y3 (y1.heap.size) [.int .i64 0, .int .i64 0, .string ⟨#[]⟩, .string ⟨#[]⟩]) := Lib.hid (E_y2.out.step hb)
    clear S_y2 B_y2 E_y2
    clear hb
    go_wp2_with fail
    go_ret
    exact ⟨rfl, B_y3.out⟩
end Go.Proofs.Ytbmeimpfehjnfab
