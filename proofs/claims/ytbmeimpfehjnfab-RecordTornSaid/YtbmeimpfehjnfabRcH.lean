/-
  RecordTorn answers true, walked. Conditions: texts fit an int; the numbers fit theirs.
-/
import Derived.Test.YtbmeimpfehjnfabRcF
namespace Go.Proofs.Ytbmeimpfehjnfab
open Go.RowKit
open S2 (BK Put get_ops exec_load)

theorem xor_u8r (x y : UInt8) : bits .xor .u8 (x.toNat : Int) (y.toNat : Int) = ((x ^^^ y).toNat : Int) := by
  have hx := x.toNat_lt
  have hy := y.toNat_lt
  have h1 : (BitVec.ofInt 8 (x.toNat : Int)).toNat = x.toNat := by rw [BitVec.toNat_ofInt]; omega
  have h2 : (BitVec.ofInt 8 (y.toNat : Int)).toNat = y.toNat := by rw [BitVec.toNat_ofInt]; omega
  have h3 : x.toNat ^^^ y.toNat < 256 := Nat.xor_lt_two_pow (n := 8) hx hy
  show IntKind.u8.wrap ((BitVec.ofInt 8 (x.toNat : Int) ^^^ BitVec.ofInt 8 (y.toNat : Int)).toNat : Nat) = _
  rw [BitVec.toNat_xor, h1, h2, UInt8.toNat_xor]
  simp [IntKind.wrap, IntKind.bits, IntKind.signed]
  omega
theorem xor_ner (x y : UInt8) (h : y.toNat ≠ 0) : x ^^^ y ≠ x := by
  intro e
  have h1 := congrArg UInt8.toNat e
  rw [UInt8.toNat_xor] at h1
  have h2 : x.toNat ^^^ (x.toNat ^^^ y.toNat) = x.toNat ^^^ x.toNat := by rw [h1]
  rw [← Nat.xor_assoc, Nat.xor_self, Nat.zero_xor] at h2
  exact h h2
/-- a slice of the call's own that is not empty -/
theorem own_formr {w : World} {B : Nat} {v : Value} {xs : List UInt8} (h : Own 5 bv w B v xs) (h0 : 0 < xs.length) : ∃ g c, v = .slice (some ⟨g, 0, none⟩) xs.length c ∧ B ≤ g ∧ g < w.heap.size ∧
    (∀ j x, xs[j]? = some x → w.cell? ⟨g, j, none⟩ = some (bv x)) ∧ (∀ j, w.frozen? ⟨g, j, none⟩ = false) ∧
    (∀ j y, Own 5 bv (w.setCell ⟨g, j, none⟩ (bv y)) B v (xs.set j y) ∧ w.grownBy (w.setCell ⟨g, j, none⟩ (bv y)) (some g)) := by
  have h1 := h
  unfold Own at h
  rcases h.2 with ⟨rfl, hn⟩ | ⟨g, cap, cur, rfl, hb, hg, hnc, hcm, hcs, htake⟩
  · omega
  · refine ⟨g, cap, rfl, hb, (Array.getElem?_eq_some_iff.1 hg).1, fun j x hx => ?_, fun j => h.frozenAt j, fun j y => ?_⟩
    · have hj : j < xs.length := (List.getElem?_eq_some_iff.1 hx).1
      rw [h.cellAt j (by omega), List.getElem?_map, hx]; rfl
    · obtain ⟨q1, q2⟩ := h.stored j (bv y)
      refine ⟨?_, q2⟩
      unfold Own
      rw [List.map_set, List.length_set]
      exact q1

theorem encT_len2r (s : ByteArray) : (encT s).length = (enc s.size).length + s.size := by unfold encT; rw [List.length_append, size_dl]
theorem rcEnc_ten {r : Rc} (h : rcCk r = 0) : 10 ≤ (rcEnc r).length := by
  have hl := rcPay_len h
  have e : rcEnc r = wrapR (rcPay r) := by unfold rcEnc; rw [if_neg (by omega)]
  have h0 := rcCk_ok h
  have h1 := (enc_len (rcPay r).length).1
  have h2 := (enc_len r.off).1
  have h3 := (enc_len r.kind).1
  have h4 := (enc_len r.key.size).1
  have h5 := (enc_len r.val.size).1
  have h6 : (rcPay r).length = (enc r.off).length + (enc r.kind).length + (encT r.key).length + (encT r.val).length := by unfold rcPay; simp only [List.length_append]
  rw [encT_len2r, encT_len2r] at h6
  rw [e, wrap_len (by omega)]
  omega

set_option maxRecDepth 20000 in
set_option maxHeartbeats 8000000 in
theorem recordTorn_walk (r : Rc) (cut back : Int) (y : UInt8) (w : World) (hz : r.key.size ≤ 9223372036854775807 ∧ r.val.size ≤ 9223372036854775807) (hc1 : -9223372036854775808 ≤ cut) (hc2 : cut ≤ 9223372036854775807) (hb1 : -9223372036854775808 ≤ back) (hb2 : back ≤ 9223372036854775807) :
    Calls Try.prog 8 #[rcV r, .agg #[.int .i64 cut, .int .i64 back, .int .u8 y.toNat]] w fun e w' => e = .returned (.bool true) ∧ Below w.heap.size w w' := by
  have HC := Lib.hid (fun w => rrCheck_any r w hz)
  by_cases hck : rcCk r ≠ 0
  · have hcb : (rcCk r != 0) = true := by simp [hck]
    generalize rcCk r = ck at *
    clear hck
    unfold rcV
    go_enter Try.func8, Try.ntmps8
    go_upto_region 1 with fail
    refine name_world (C := fun w1 => Code.wp _ _ _ _ w1) ((w.alloc (.cells (rcC r).toArray 23)).alloc (.cells ([.int .i64 cut, .int .i64 back, .int .u8 y.toNat] : List Value).toArray 39)) ?_
    intro w1 hw1
    obtain ⟨e1, d1, _, hb1⟩ := S2.two_laid hw1
    have E_w1 := Lib.hid e1
    have D_w1 := Lib.hid d1
    have B_w1 := Lib.hid hb1
    clear hw1 e1 d1 hb1
    have k0 := E_w1.out.cell 0 rfl
    have k1 := E_w1.out.cell 1 rfl
    have k2 := E_w1.out.cell 2 rfl
    have k3 := E_w1.out.cell 3 rfl
    go_wp2_with fail
    refine (HC.out w1).mono ?_
    rintro e y1 ⟨rfl, hb⟩
    clear k0 k1 k2 k3
    have E_y1 : Hid (BK 23 y1 w.heap.size (rcC r)) := Lib.hid (E_w1.out.step hb)
    have B_y1 : Hid (Below w.heap.size w y1) := Lib.hid ((stepB B_w1.out hb))
    have D_y1 : Hid (BK 39 y1 (w.heap.size + 1) [.int .i64 cut, .int .i64 back, .int .u8 y.toNat]) := Lib.hid (D_w1.out.step hb)
    clear E_w1 B_w1 D_w1
    clear hb
    go_wp2_with fail
    refine (awake31_any y1).mono ?_
    rintro e y2 ⟨rfl, hb⟩
    have E_y2 : Hid (BK 23 y2 w.heap.size (rcC r)) := Lib.hid (E_y1.out.step hb)
    have B_y2 : Hid (Below w.heap.size w y2) := Lib.hid ((stepB B_y1.out hb))
    have D_y2 : Hid (BK 39 y2 (w.heap.size + 1) [.int .i64 cut, .int .i64 back, .int .u8 y.toNat]) := Lib.hid (D_y1.out.step hb)
    clear E_y1 B_y1 D_y1
    clear hb
    go_wp2_with fail
    go_ret
    exact ⟨rfl, B_y2.out⟩
  have hck : rcCk r = 0 := by omega
  have HE := Lib.hid (fun w => rcEncode_any r w hz)
  have hle := rcEnc_len hck
  have hten := rcEnc_ten hck
  have hto := fun q hq => @rcDec_torn r hck q hq
  have hdm := fun K x y => @rcDec_damaged r hck K x y
  unfold RetRE at HE
  rw [hck] at HC HE
  have hhd : Hd (rcEnc r) (enc (rcPay r).length).length := by
    have e : rcEnc r = wrapR (rcPay r) := by unfold rcEnc; rw [if_neg (by omega)]
    have hl := rcPay_len hck
    rw [e, wrap_parts (by omega)]
    exact Hd.enc (by omega) (by omega) _
  generalize (enc (rcPay r).length).length = J at *
  generalize rcEnc r = T at *
  have HHD := Lib.hid (fun A c w h => head_any A c T J hhd w w.heap.size h (by omega))
  have hj1 := hhd.1
  have hj2 := hhd.2.1
  have HTO := Lib.hid hto
  have HDM := Lib.hid hdm
  have t10 : (10 : Int) ≤ (T.length : Int) := by omega
  have t42 : (T.length : Int) ≤ 4214 := by omega
  clear hck hz hto hdm hhd
  by_cases hin : 0 ≤ cut ∧ cut < (T.length : Int)
  · unfold rcV
    go_enter Try.func8, Try.ntmps8
    go_upto_region 1 with fail
    refine name_world (C := fun w1 => Code.wp _ _ _ _ w1) ((w.alloc (.cells (rcC r).toArray 23)).alloc (.cells ([.int .i64 cut, .int .i64 back, .int .u8 y.toNat] : List Value).toArray 39)) ?_
    intro w1 hw1
    obtain ⟨e1, d1, _, hb1⟩ := S2.two_laid hw1
    have E_w1 := Lib.hid e1
    have D_w1 := Lib.hid d1
    have B_w1 := Lib.hid hb1
    clear hw1 e1 d1 hb1
    have k0 := E_w1.out.cell 0 rfl
    have k1 := E_w1.out.cell 1 rfl
    have k2 := E_w1.out.cell 2 rfl
    have k3 := E_w1.out.cell 3 rfl
    go_wp2_with fail
    refine (HC.out w1).mono ?_
    rintro e y1 ⟨rfl, hb⟩
    clear k0 k1 k2 k3
    have E_y1 : Hid (BK 23 y1 w.heap.size (rcC r)) := Lib.hid (E_w1.out.step hb)
    have B_y1 : Hid (Below w.heap.size w y1) := Lib.hid ((stepB B_w1.out hb))
    have D_y1 : Hid (BK 39 y1 (w.heap.size + 1) [.int .i64 cut, .int .i64 back, .int .u8 y.toNat]) := Lib.hid (D_w1.out.step hb)
    clear E_w1 B_w1 D_w1
    clear hb
    have k0 := E_y1.out.cell 0 rfl
    have k1 := E_y1.out.cell 1 rfl
    have k2 := E_y1.out.cell 2 rfl
    have k3 := E_y1.out.cell 3 rfl
    go_wp2_with fail
    refine (HE.out y1).mono ?_
    rintro e y2 ⟨v3, rfl, own3, hb⟩
    clear k0 k1 k2 k3
    have E_y2 : Hid (BK 23 y2 w.heap.size (rcC r)) := Lib.hid (E_y1.out.step hb)
    have B_y2 : Hid (Below w.heap.size w y2) := Lib.hid ((stepB B_y1.out hb))
    have D_y2 : Hid (BK 39 y2 (w.heap.size + 1) [.int .i64 cut, .int .i64 back, .int .u8 y.toNat]) := Lib.hid (D_y1.out.step hb)
    clear E_y1 B_y1 D_y1
    obtain ⟨A3, c3, rfl, hc3, sl3⟩ := own3.ret
    have L_y2 : Hid (CL bv y2 y2.heap.size A3 T) := Lib.hid (sl3)
    clear own3 sl3
    clear hb
    clear HC HE
    have d0 := D_y2.out.cell 0 rfl
    have d1 := D_y2.out.cell 1 rfl
    have d2 := D_y2.out.cell 2 rfl
    obtain ⟨q, rfl⟩ := Int.eq_ofNat_of_zero_le (by omega : 0 ≤ cut)
    have c0 : (0 : Int) ≤ (q : Int) := by omega
    have cq : (q : Int) < (T.length : Int) := by omega
    obtain ⟨A4, hs4, hcl4⟩ := slice_h A3 c3 T q (by omega) hc3
    have HDQ := rcDecode_any A4 c3 (T.take q) 0 (by decide) (by decide)
    rw [HTO.out q (by omega)] at HDQ
    unfold RetRD at HDQ
    dsimp only at HDQ
    have HQ := Lib.hid HDQ
    have HCL := Lib.hid hcl4
    have htq : (T.take q).length ≤ 4214 ∧ (T.take q).length ≤ c3 := by rw [List.length_take]; omega
    generalize T.take q = TQ at *
    clear HDQ hcl4
    go_wp2_with fail
    refine (HQ.out y2 (HCL.out y2 _ L_y2.out) (by omega) (by omega)).mono ?_
    rintro e y3 ⟨rfl, hb⟩
    clear d0 d1 d2
    have E_y3 : Hid (BK 23 y3 w.heap.size (rcC r)) := Lib.hid (E_y2.out.step hb)
    have B_y3 : Hid (Below w.heap.size w y3) := Lib.hid ((stepB B_y2.out hb))
    have D_y3 : Hid (BK 39 y3 (w.heap.size + 1) [.int .i64 (q : Int), .int .i64 back, .int .u8 y.toNat]) := Lib.hid (D_y2.out.step hb)
    have L_y3 : Hid (CL bv y3 y3.heap.size A3 T) := Lib.hid (L_y2.out.step hb)
    clear E_y2 B_y2 D_y2 L_y2
    clear hb
    go_upto_region 10 with first
      | (refine S2.wpList_store_all (by rfl) 23 (.tmp 7) (.tmp 47) rfl rfl (y3.heap.size) rfl (rcC rcZ) rfl 23 (rcC rcZ) (BK.new y3 _ _) rcSize rfl (S2.all_one rfl) ?_; intro y4 hM hP; have hb : Below y3.heap.size y3 y4 := hP.below (S2.below_new y3 _) (Nat.le_refl _); have E_y4 : Hid (BK 23 y4 w.heap.size (rcC r)) := Lib.hid (E_y3.out.step hb); have B_y4 : Hid (Below w.heap.size w y4) := Lib.hid ((stepB B_y3.out hb)); have D_y4 : Hid (BK 39 y4 (w.heap.size + 1) [.int .i64 (q : Int), .int .i64 back, .int .u8 y.toNat]) := Lib.hid (D_y3.out.step hb); have L_y4 : Hid (CL bv y4 y4.heap.size A3 T) := Lib.hid (L_y3.out.step hb); have M_y4 : Hid (BK 23 y4 (y3.heap.size) (rcC rcZ)) := Lib.hid hM; clear hM hP hb E_y3 B_y3 D_y3 L_y3)
    clear HQ HCL hs4 htq c0 cq
    clear M_y4
    by_cases hx0 : back < 0
    · have d0 := D_y4.out.cell 0 rfl
      have d1 := D_y4.out.cell 1 rfl
      have d2 := D_y4.out.cell 2 rfl
      go_wp2_with fail
      refine (awake31_any y4).mono ?_
      rintro e y5 ⟨rfl, hb⟩
      clear d0 d1 d2
      have E_y5 : Hid (BK 23 y5 w.heap.size (rcC r)) := Lib.hid (E_y4.out.step hb)
      have B_y5 : Hid (Below w.heap.size w y5) := Lib.hid ((stepB B_y4.out hb))
      have D_y5 : Hid (BK 39 y5 (w.heap.size + 1) [.int .i64 (q : Int), .int .i64 back, .int .u8 y.toNat]) := Lib.hid (D_y4.out.step hb)
      have L_y5 : Hid (CL bv y5 y5.heap.size A3 T) := Lib.hid (L_y4.out.step hb)
      clear E_y4 B_y4 D_y4 L_y4
      clear hb
      go_wp2_with fail
      go_ret
      exact ⟨rfl, B_y5.out⟩
    by_cases hx1 : (T.length : Int) - 2 ≤ back
    · have b0 : (0 : Int) ≤ back := by omega
      have d0 := D_y4.out.cell 0 rfl
      have d1 := D_y4.out.cell 1 rfl
      have d2 := D_y4.out.cell 2 rfl
      have hw2 : wrap64 ((T.length : Int) - 2) = (T.length : Int) - 2 := wrap64_id _ (by omega) (by omega)
      go_wp2_with fail
      refine (awake31_any y4).mono ?_
      rintro e y5 ⟨rfl, hb⟩
      clear d0 d1 d2
      have E_y5 : Hid (BK 23 y5 w.heap.size (rcC r)) := Lib.hid (E_y4.out.step hb)
      have B_y5 : Hid (Below w.heap.size w y5) := Lib.hid ((stepB B_y4.out hb))
      have D_y5 : Hid (BK 39 y5 (w.heap.size + 1) [.int .i64 (q : Int), .int .i64 back, .int .u8 y.toNat]) := Lib.hid (D_y4.out.step hb)
      have L_y5 : Hid (CL bv y5 y5.heap.size A3 T) := Lib.hid (L_y4.out.step hb)
      clear E_y4 B_y4 D_y4 L_y4
      clear hb
      go_wp2_with fail
      go_ret
      exact ⟨rfl, B_y5.out⟩
    by_cases hy0 : y.toNat = 0
    · have b0 : (0 : Int) ≤ back := by omega
      have b1 : back < (T.length : Int) - 2 := by omega
      have yb : ((y.toNat : Int) != 0) = false := by simp [hy0]
      have d0 := D_y4.out.cell 0 rfl
      have d1 := D_y4.out.cell 1 rfl
      have d2 := D_y4.out.cell 2 rfl
      have hw2 : wrap64 ((T.length : Int) - 2) = (T.length : Int) - 2 := wrap64_id _ (by omega) (by omega)
      go_wp2_with fail
      refine (awake31_any y4).mono ?_
      rintro e y5 ⟨rfl, hb⟩
      clear d0 d1 d2
      have E_y5 : Hid (BK 23 y5 w.heap.size (rcC r)) := Lib.hid (E_y4.out.step hb)
      have B_y5 : Hid (Below w.heap.size w y5) := Lib.hid ((stepB B_y4.out hb))
      have D_y5 : Hid (BK 39 y5 (w.heap.size + 1) [.int .i64 (q : Int), .int .i64 back, .int .u8 y.toNat]) := Lib.hid (D_y4.out.step hb)
      have L_y5 : Hid (CL bv y5 y5.heap.size A3 T) := Lib.hid (L_y4.out.step hb)
      clear E_y4 B_y4 D_y4 L_y4
      clear hb
      go_wp2_with fail
      go_ret
      exact ⟨rfl, B_y5.out⟩
    have b0 : (0 : Int) ≤ back := by omega
    have b1 : back < (T.length : Int) - 2 := by omega
    have yb : ((y.toNat : Int) != 0) = true := by simp; omega
    have hw2 : wrap64 ((T.length : Int) - 2) = (T.length : Int) - 2 := wrap64_id _ (by omega) (by omega)
    obtain ⟨K, hK⟩ : ∃ K : Nat, (K : Int) = (T.length : Int) - 1 - back := ⟨((T.length : Int) - 1 - back).toNat, by omega⟩
    have hw1 : wrap64 ((T.length : Int) - 1) = (T.length : Int) - 1 := wrap64_id _ (by omega) (by omega)
    have hidx : wrap64 ((T.length : Int) - 1 - back) = (K : Int) := by rw [wrap64_id _ (by omega) (by omega)]; omega
    have hidy : (T.length : Int) - 1 - back = (K : Int) := by omega
    have hKl : K < T.length := by omega
    have hHK := Lib.hid hK
    clear hK
    have d0 := D_y4.out.cell 0 rfl
    have d1 := D_y4.out.cell 1 rfl
    have d2 := D_y4.out.cell 2 rfl
    go_upto_region 12 with first
      | (refine wpList_appB _ rfl (.tmp 68) (.tmp 69) rfl y4.heap.size _ [] T A3 c3 rfl (Own.made y4 0 #[] y4.heap.size (Nat.le_refl _) (by decide) rfl) rfl y4.heap.size (copied L_y4.out (Nat.le_refl _) _) y4 ((Below.refl _ _).alloc (Nat.le_refl _) _) (by simp) (by simp; omega) ?_; intro v1 wa own1 hb1 hB1; rw [List.nil_append] at own1; obtain ⟨g, c9, rfl, hg, hgl, hcell, hfro, hset⟩ := own_formr own1 (by omega); have E_wa : Hid (BK 23 wa w.heap.size (rcC r)) := Lib.hid (E_y4.out.step hb1); have B_wa : Hid (Below w.heap.size w wa) := Lib.hid ((stepB B_y4.out hb1)); have D_wa : Hid (BK 39 wa (w.heap.size + 1) [.int .i64 (q : Int), .int .i64 back, .int .u8 y.toNat]) := Lib.hid (D_y4.out.step hb1); have L_wa : Hid (CL bv wa wa.heap.size A3 T) := Lib.hid (L_y4.out.step hb1); have O_wa := Lib.hid own1; have HCE := Lib.hid hcell; have HFR := Lib.hid hfro; have HST := Lib.hid hset; have HG1 := Lib.hid hg; have HG2 := Lib.hid hgl; have HB1 := Lib.hid hb1; have HB0 := Lib.hid B_y4.out.size; clear own1 hb1 hB1 hg hgl hcell hfro hset d0 d1 d2 E_y4 B_y4 D_y4 L_y4)
    have d0 := D_wa.out.cell 0 rfl
    have d1 := D_wa.out.cell 1 rfl
    have d2 := D_wa.out.cell 2 rfl
    go_wp2_with fail
    refine (HHD.out A3 c3 wa L_wa.out).mono ?_
    rintro e w' ⟨rfl, rfl⟩
    by_cases hKJ : (K : Int) < (J : Int)
    · have e3 : (K : Int) < (J : Int) := by omega
      go_wp2_with fail
      refine (awake31_any wa).mono ?_
      rintro e y5 ⟨rfl, hb⟩
      have E_y5 : Hid (BK 23 y5 w.heap.size (rcC r)) := Lib.hid (E_wa.out.step hb)
      have B_y5 : Hid (Below w.heap.size w y5) := Lib.hid ((stepB B_wa.out hb))
      have D_y5 : Hid (BK 39 y5 (w.heap.size + 1) [.int .i64 (q : Int), .int .i64 back, .int .u8 y.toNat]) := Lib.hid (D_wa.out.step hb)
      have L_y5 : Hid (CL bv y5 y5.heap.size A3 T) := Lib.hid (L_wa.out.step hb)
      clear E_wa B_wa D_wa L_wa
      clear hb
      go_wp2_with fail
      go_ret
      exact ⟨rfl, B_y5.out⟩
    have e3 : ¬ ((K : Int) < (J : Int)) := by omega
    obtain ⟨x, hx⟩ : ∃ x, T[K]? = some x := ⟨_, List.getElem?_eq_getElem hKl⟩
    have k1 : wa.cell? ⟨g, K, none⟩ = some (.int .u8 x.toNat) := HCE.out K x hx
    have k2 : wa.frozen? ⟨g, K, none⟩ = false := HFR.out K
    have hxy := xor_u8r x y
    have HX := Lib.hid hx
    have j0 : (0 : Int) ≤ (K : Int) := by omega
    have j1 : (K : Int) < (T.length : Int) := by omega
    clear hx
    go_upto_region 15 with fail
    go_wp2_with fail
    go_region
    have hst := HST.out K (x ^^^ y)
    have hzz : bv (x ^^^ y) = .int .u8 ((x.toNat ^^^ y.toNat : Nat) : Int) := by unfold bv; rw [UInt8.toNat_xor]
    rw [hzz] at hst
    obtain ⟨q1, q2⟩ := hst
    have hb5 : Below w.heap.size w _ := (B_wa.out.grown q2 B_wa.out.size (fun j hj => by cases hj; exact Nat.le_trans HB0.out HG1.out)).drew
    have q3 := Own.drew q1
    clear q1 q2 hzz hxy HCE HFR HST HB1 HHD k1 k2 d0 d1 d2 hw1 hw2 hidx hidy E_wa B_wa D_wa L_wa O_wa
    generalize (wa.setCell ⟨g, K, none⟩ (.int .u8 ((x.toNat ^^^ y.toNat : Nat) : Int))).drew = w5 at *
    obtain ⟨A5, c5, hv5, hc5, hsl5⟩ := q3.ret
    have hnx := rcDecode_any A5 c5 (T.set K (x ^^^ y)) 0 (by decide) (by decide) w5 hsl5 hc5 (by rw [List.length_set]; omega)
    rw [HDM.out K x (x ^^^ y) (by omega) HX.out (xor_ner x y hy0), ← hv5] at hnx
    unfold RetRD at hnx
    dsimp only at hnx
    have HNX := Lib.hid hnx
    have B_w5 := Lib.hid hb5
    clear hnx hsl5 q3 hb5 hv5 HDM HX
    go_wp2_with fail
    refine (HNX.out).mono ?_
    rintro e y5 ⟨rfl, hb⟩
    have B_y5 : Hid (Below w.heap.size w y5) := Lib.hid ((stepB B_w5.out hb))
    clear B_w5
    clear hb
    go_upto_region 17 with first
      | (refine S2.wpList_store_all (by rfl) 23 (.tmp 12) (.tmp 95) rfl rfl (y5.heap.size) rfl (rcC rcZ) rfl 23 (rcC rcZ) (BK.new y5 _ _) rcSize rfl (S2.all_one rfl) ?_; intro y6 hM hP; have hb : Below y5.heap.size y5 y6 := hP.below (S2.below_new y5 _) (Nat.le_refl _); have B_y6 : Hid (Below w.heap.size w y6) := Lib.hid ((stepB B_y5.out hb)); have N_y6 : Hid (BK 23 y6 (y5.heap.size) (rcC rcZ)) := Lib.hid hM; clear hM hP hb B_y5)
    go_wp2_with fail
    refine (awake31_any y6).mono ?_
    rintro e y7 ⟨rfl, hb⟩
    have B_y7 : Hid (Below w.heap.size w y7) := Lib.hid ((stepB B_y6.out hb))
    have N_y7 : Hid (BK 23 y7 (y5.heap.size) (rcC rcZ)) := Lib.hid (N_y6.out.step hb)
    clear B_y6 N_y6
    clear hb
    go_wp2_with fail
    go_ret
    exact ⟨rfl, B_y7.out⟩
  by_cases hneg : cut < 0
  · unfold rcV
    go_enter Try.func8, Try.ntmps8
    go_upto_region 1 with fail
    refine name_world (C := fun w1 => Code.wp _ _ _ _ w1) ((w.alloc (.cells (rcC r).toArray 23)).alloc (.cells ([.int .i64 cut, .int .i64 back, .int .u8 y.toNat] : List Value).toArray 39)) ?_
    intro w1 hw1
    obtain ⟨e1, d1, _, hb1⟩ := S2.two_laid hw1
    have E_w1 := Lib.hid e1
    have D_w1 := Lib.hid d1
    have B_w1 := Lib.hid hb1
    clear hw1 e1 d1 hb1
    have k0 := E_w1.out.cell 0 rfl
    have k1 := E_w1.out.cell 1 rfl
    have k2 := E_w1.out.cell 2 rfl
    have k3 := E_w1.out.cell 3 rfl
    go_wp2_with fail
    refine (HC.out w1).mono ?_
    rintro e y1 ⟨rfl, hb⟩
    clear k0 k1 k2 k3
    have E_y1 : Hid (BK 23 y1 w.heap.size (rcC r)) := Lib.hid (E_w1.out.step hb)
    have B_y1 : Hid (Below w.heap.size w y1) := Lib.hid ((stepB B_w1.out hb))
    have D_y1 : Hid (BK 39 y1 (w.heap.size + 1) [.int .i64 cut, .int .i64 back, .int .u8 y.toNat]) := Lib.hid (D_w1.out.step hb)
    clear E_w1 B_w1 D_w1
    clear hb
    have k0 := E_y1.out.cell 0 rfl
    have k1 := E_y1.out.cell 1 rfl
    have k2 := E_y1.out.cell 2 rfl
    have k3 := E_y1.out.cell 3 rfl
    go_wp2_with fail
    refine (HE.out y1).mono ?_
    rintro e y2 ⟨v3, rfl, own3, hb⟩
    clear k0 k1 k2 k3
    have E_y2 : Hid (BK 23 y2 w.heap.size (rcC r)) := Lib.hid (E_y1.out.step hb)
    have B_y2 : Hid (Below w.heap.size w y2) := Lib.hid ((stepB B_y1.out hb))
    have D_y2 : Hid (BK 39 y2 (w.heap.size + 1) [.int .i64 cut, .int .i64 back, .int .u8 y.toNat]) := Lib.hid (D_y1.out.step hb)
    clear E_y1 B_y1 D_y1
    obtain ⟨A3, c3, rfl, hc3, sl3⟩ := own3.ret
    have L_y2 : Hid (CL bv y2 y2.heap.size A3 T) := Lib.hid (sl3)
    clear own3 sl3
    clear hb
    clear HC HE
    have d0 := D_y2.out.cell 0 rfl
    have d1 := D_y2.out.cell 1 rfl
    have d2 := D_y2.out.cell 2 rfl
    have c0 : ¬ ((0 : Int) ≤ cut) := by omega
    go_upto_region 10 with fail
    clear d0 d1 d2
    by_cases hx0 : back < 0
    · have d0 := D_y2.out.cell 0 rfl
      have d1 := D_y2.out.cell 1 rfl
      have d2 := D_y2.out.cell 2 rfl
      go_wp2_with fail
      refine (awake31_any y2).mono ?_
      rintro e y3 ⟨rfl, hb⟩
      clear d0 d1 d2
      have E_y3 : Hid (BK 23 y3 w.heap.size (rcC r)) := Lib.hid (E_y2.out.step hb)
      have B_y3 : Hid (Below w.heap.size w y3) := Lib.hid ((stepB B_y2.out hb))
      have D_y3 : Hid (BK 39 y3 (w.heap.size + 1) [.int .i64 cut, .int .i64 back, .int .u8 y.toNat]) := Lib.hid (D_y2.out.step hb)
      have L_y3 : Hid (CL bv y3 y3.heap.size A3 T) := Lib.hid (L_y2.out.step hb)
      clear E_y2 B_y2 D_y2 L_y2
      clear hb
      go_wp2_with fail
      go_ret
      exact ⟨rfl, B_y3.out⟩
    by_cases hx1 : (T.length : Int) - 2 ≤ back
    · have b0 : (0 : Int) ≤ back := by omega
      have d0 := D_y2.out.cell 0 rfl
      have d1 := D_y2.out.cell 1 rfl
      have d2 := D_y2.out.cell 2 rfl
      have hw2 : wrap64 ((T.length : Int) - 2) = (T.length : Int) - 2 := wrap64_id _ (by omega) (by omega)
      go_wp2_with fail
      refine (awake31_any y2).mono ?_
      rintro e y3 ⟨rfl, hb⟩
      clear d0 d1 d2
      have E_y3 : Hid (BK 23 y3 w.heap.size (rcC r)) := Lib.hid (E_y2.out.step hb)
      have B_y3 : Hid (Below w.heap.size w y3) := Lib.hid ((stepB B_y2.out hb))
      have D_y3 : Hid (BK 39 y3 (w.heap.size + 1) [.int .i64 cut, .int .i64 back, .int .u8 y.toNat]) := Lib.hid (D_y2.out.step hb)
      have L_y3 : Hid (CL bv y3 y3.heap.size A3 T) := Lib.hid (L_y2.out.step hb)
      clear E_y2 B_y2 D_y2 L_y2
      clear hb
      go_wp2_with fail
      go_ret
      exact ⟨rfl, B_y3.out⟩
    by_cases hy0 : y.toNat = 0
    · have b0 : (0 : Int) ≤ back := by omega
      have b1 : back < (T.length : Int) - 2 := by omega
      have yb : ((y.toNat : Int) != 0) = false := by simp [hy0]
      have d0 := D_y2.out.cell 0 rfl
      have d1 := D_y2.out.cell 1 rfl
      have d2 := D_y2.out.cell 2 rfl
      have hw2 : wrap64 ((T.length : Int) - 2) = (T.length : Int) - 2 := wrap64_id _ (by omega) (by omega)
      go_wp2_with fail
      refine (awake31_any y2).mono ?_
      rintro e y3 ⟨rfl, hb⟩
      clear d0 d1 d2
      have E_y3 : Hid (BK 23 y3 w.heap.size (rcC r)) := Lib.hid (E_y2.out.step hb)
      have B_y3 : Hid (Below w.heap.size w y3) := Lib.hid ((stepB B_y2.out hb))
      have D_y3 : Hid (BK 39 y3 (w.heap.size + 1) [.int .i64 cut, .int .i64 back, .int .u8 y.toNat]) := Lib.hid (D_y2.out.step hb)
      have L_y3 : Hid (CL bv y3 y3.heap.size A3 T) := Lib.hid (L_y2.out.step hb)
      clear E_y2 B_y2 D_y2 L_y2
      clear hb
      go_wp2_with fail
      go_ret
      exact ⟨rfl, B_y3.out⟩
    have b0 : (0 : Int) ≤ back := by omega
    have b1 : back < (T.length : Int) - 2 := by omega
    have yb : ((y.toNat : Int) != 0) = true := by simp; omega
    have hw2 : wrap64 ((T.length : Int) - 2) = (T.length : Int) - 2 := wrap64_id _ (by omega) (by omega)
    obtain ⟨K, hK⟩ : ∃ K : Nat, (K : Int) = (T.length : Int) - 1 - back := ⟨((T.length : Int) - 1 - back).toNat, by omega⟩
    have hw1 : wrap64 ((T.length : Int) - 1) = (T.length : Int) - 1 := wrap64_id _ (by omega) (by omega)
    have hidx : wrap64 ((T.length : Int) - 1 - back) = (K : Int) := by rw [wrap64_id _ (by omega) (by omega)]; omega
    have hidy : (T.length : Int) - 1 - back = (K : Int) := by omega
    have hKl : K < T.length := by omega
    have hHK := Lib.hid hK
    clear hK
    have d0 := D_y2.out.cell 0 rfl
    have d1 := D_y2.out.cell 1 rfl
    have d2 := D_y2.out.cell 2 rfl
    go_upto_region 12 with first
      | (refine wpList_appB _ rfl (.tmp 68) (.tmp 69) rfl y2.heap.size _ [] T A3 c3 rfl (Own.made y2 0 #[] y2.heap.size (Nat.le_refl _) (by decide) rfl) rfl y2.heap.size (copied L_y2.out (Nat.le_refl _) _) y2 ((Below.refl _ _).alloc (Nat.le_refl _) _) (by simp) (by simp; omega) ?_; intro v1 wa own1 hb1 hB1; rw [List.nil_append] at own1; obtain ⟨g, c9, rfl, hg, hgl, hcell, hfro, hset⟩ := own_formr own1 (by omega); have E_wa : Hid (BK 23 wa w.heap.size (rcC r)) := Lib.hid (E_y2.out.step hb1); have B_wa : Hid (Below w.heap.size w wa) := Lib.hid ((stepB B_y2.out hb1)); have D_wa : Hid (BK 39 wa (w.heap.size + 1) [.int .i64 cut, .int .i64 back, .int .u8 y.toNat]) := Lib.hid (D_y2.out.step hb1); have L_wa : Hid (CL bv wa wa.heap.size A3 T) := Lib.hid (L_y2.out.step hb1); have O_wa := Lib.hid own1; have HCE := Lib.hid hcell; have HFR := Lib.hid hfro; have HST := Lib.hid hset; have HG1 := Lib.hid hg; have HG2 := Lib.hid hgl; have HB1 := Lib.hid hb1; have HB0 := Lib.hid B_y2.out.size; clear own1 hb1 hB1 hg hgl hcell hfro hset d0 d1 d2 E_y2 B_y2 D_y2 L_y2)
    have d0 := D_wa.out.cell 0 rfl
    have d1 := D_wa.out.cell 1 rfl
    have d2 := D_wa.out.cell 2 rfl
    go_wp2_with fail
    refine (HHD.out A3 c3 wa L_wa.out).mono ?_
    rintro e w' ⟨rfl, rfl⟩
    by_cases hKJ : (K : Int) < (J : Int)
    · have e3 : (K : Int) < (J : Int) := by omega
      go_wp2_with fail
      refine (awake31_any wa).mono ?_
      rintro e y3 ⟨rfl, hb⟩
      have E_y3 : Hid (BK 23 y3 w.heap.size (rcC r)) := Lib.hid (E_wa.out.step hb)
      have B_y3 : Hid (Below w.heap.size w y3) := Lib.hid ((stepB B_wa.out hb))
      have D_y3 : Hid (BK 39 y3 (w.heap.size + 1) [.int .i64 cut, .int .i64 back, .int .u8 y.toNat]) := Lib.hid (D_wa.out.step hb)
      have L_y3 : Hid (CL bv y3 y3.heap.size A3 T) := Lib.hid (L_wa.out.step hb)
      clear E_wa B_wa D_wa L_wa
      clear hb
      go_wp2_with fail
      go_ret
      exact ⟨rfl, B_y3.out⟩
    have e3 : ¬ ((K : Int) < (J : Int)) := by omega
    obtain ⟨x, hx⟩ : ∃ x, T[K]? = some x := ⟨_, List.getElem?_eq_getElem hKl⟩
    have k1 : wa.cell? ⟨g, K, none⟩ = some (.int .u8 x.toNat) := HCE.out K x hx
    have k2 : wa.frozen? ⟨g, K, none⟩ = false := HFR.out K
    have hxy := xor_u8r x y
    have HX := Lib.hid hx
    have j0 : (0 : Int) ≤ (K : Int) := by omega
    have j1 : (K : Int) < (T.length : Int) := by omega
    clear hx
    go_upto_region 15 with fail
    go_wp2_with fail
    go_region
    have hst := HST.out K (x ^^^ y)
    have hzz : bv (x ^^^ y) = .int .u8 ((x.toNat ^^^ y.toNat : Nat) : Int) := by unfold bv; rw [UInt8.toNat_xor]
    rw [hzz] at hst
    obtain ⟨q1, q2⟩ := hst
    have hb5 : Below w.heap.size w _ := (B_wa.out.grown q2 B_wa.out.size (fun j hj => by cases hj; exact Nat.le_trans HB0.out HG1.out)).drew
    have q3 := Own.drew q1
    clear q1 q2 hzz hxy HCE HFR HST HB1 HHD k1 k2 d0 d1 d2 hw1 hw2 hidx hidy E_wa B_wa D_wa L_wa O_wa
    generalize (wa.setCell ⟨g, K, none⟩ (.int .u8 ((x.toNat ^^^ y.toNat : Nat) : Int))).drew = w5 at *
    obtain ⟨A5, c5, hv5, hc5, hsl5⟩ := q3.ret
    have hnx := rcDecode_any A5 c5 (T.set K (x ^^^ y)) 0 (by decide) (by decide) w5 hsl5 hc5 (by rw [List.length_set]; omega)
    rw [HDM.out K x (x ^^^ y) (by omega) HX.out (xor_ner x y hy0), ← hv5] at hnx
    unfold RetRD at hnx
    dsimp only at hnx
    have HNX := Lib.hid hnx
    have B_w5 := Lib.hid hb5
    clear hnx hsl5 q3 hb5 hv5 HDM HX
    go_wp2_with fail
    refine (HNX.out).mono ?_
    rintro e y3 ⟨rfl, hb⟩
    have B_y3 : Hid (Below w.heap.size w y3) := Lib.hid ((stepB B_w5.out hb))
    clear B_w5
    clear hb
    go_upto_region 17 with first
      | (refine S2.wpList_store_all (by rfl) 23 (.tmp 12) (.tmp 95) rfl rfl (y3.heap.size) rfl (rcC rcZ) rfl 23 (rcC rcZ) (BK.new y3 _ _) rcSize rfl (S2.all_one rfl) ?_; intro y4 hM hP; have hb : Below y3.heap.size y3 y4 := hP.below (S2.below_new y3 _) (Nat.le_refl _); have B_y4 : Hid (Below w.heap.size w y4) := Lib.hid ((stepB B_y3.out hb)); have N_y4 : Hid (BK 23 y4 (y3.heap.size) (rcC rcZ)) := Lib.hid hM; clear hM hP hb B_y3)
    go_wp2_with fail
    refine (awake31_any y4).mono ?_
    rintro e y5 ⟨rfl, hb⟩
    have B_y5 : Hid (Below w.heap.size w y5) := Lib.hid ((stepB B_y4.out hb))
    have N_y5 : Hid (BK 23 y5 (y3.heap.size) (rcC rcZ)) := Lib.hid (N_y4.out.step hb)
    clear B_y4 N_y4
    clear hb
    go_wp2_with fail
    go_ret
    exact ⟨rfl, B_y5.out⟩
  unfold rcV
  go_enter Try.func8, Try.ntmps8
  go_upto_region 1 with fail
  refine name_world (C := fun w1 => Code.wp _ _ _ _ w1) ((w.alloc (.cells (rcC r).toArray 23)).alloc (.cells ([.int .i64 cut, .int .i64 back, .int .u8 y.toNat] : List Value).toArray 39)) ?_
  intro w1 hw1
  obtain ⟨e1, d1, _, hb1⟩ := S2.two_laid hw1
  have E_w1 := Lib.hid e1
  have D_w1 := Lib.hid d1
  have B_w1 := Lib.hid hb1
  clear hw1 e1 d1 hb1
  have k0 := E_w1.out.cell 0 rfl
  have k1 := E_w1.out.cell 1 rfl
  have k2 := E_w1.out.cell 2 rfl
  have k3 := E_w1.out.cell 3 rfl
  go_wp2_with fail
  refine (HC.out w1).mono ?_
  rintro e y1 ⟨rfl, hb⟩
  clear k0 k1 k2 k3
  have E_y1 : Hid (BK 23 y1 w.heap.size (rcC r)) := Lib.hid (E_w1.out.step hb)
  have B_y1 : Hid (Below w.heap.size w y1) := Lib.hid ((stepB B_w1.out hb))
  have D_y1 : Hid (BK 39 y1 (w.heap.size + 1) [.int .i64 cut, .int .i64 back, .int .u8 y.toNat]) := Lib.hid (D_w1.out.step hb)
  clear E_w1 B_w1 D_w1
  clear hb
  have k0 := E_y1.out.cell 0 rfl
  have k1 := E_y1.out.cell 1 rfl
  have k2 := E_y1.out.cell 2 rfl
  have k3 := E_y1.out.cell 3 rfl
  go_wp2_with fail
  refine (HE.out y1).mono ?_
  rintro e y2 ⟨v3, rfl, own3, hb⟩
  clear k0 k1 k2 k3
  have E_y2 : Hid (BK 23 y2 w.heap.size (rcC r)) := Lib.hid (E_y1.out.step hb)
  have B_y2 : Hid (Below w.heap.size w y2) := Lib.hid ((stepB B_y1.out hb))
  have D_y2 : Hid (BK 39 y2 (w.heap.size + 1) [.int .i64 cut, .int .i64 back, .int .u8 y.toNat]) := Lib.hid (D_y1.out.step hb)
  clear E_y1 B_y1 D_y1
  obtain ⟨A3, c3, rfl, hc3, sl3⟩ := own3.ret
  have L_y2 : Hid (CL bv y2 y2.heap.size A3 T) := Lib.hid (sl3)
  clear own3 sl3
  clear hb
  clear HC HE
  have d0 := D_y2.out.cell 0 rfl
  have d1 := D_y2.out.cell 1 rfl
  have d2 := D_y2.out.cell 2 rfl
  have c0 : (0 : Int) ≤ cut := by omega
  have cq : ¬ (cut < (T.length : Int)) := by omega
  go_upto_region 10 with fail
  clear d0 d1 d2
  by_cases hx0 : back < 0
  · have d0 := D_y2.out.cell 0 rfl
    have d1 := D_y2.out.cell 1 rfl
    have d2 := D_y2.out.cell 2 rfl
    go_wp2_with fail
    refine (awake31_any y2).mono ?_
    rintro e y3 ⟨rfl, hb⟩
    clear d0 d1 d2
    have E_y3 : Hid (BK 23 y3 w.heap.size (rcC r)) := Lib.hid (E_y2.out.step hb)
    have B_y3 : Hid (Below w.heap.size w y3) := Lib.hid ((stepB B_y2.out hb))
    have D_y3 : Hid (BK 39 y3 (w.heap.size + 1) [.int .i64 cut, .int .i64 back, .int .u8 y.toNat]) := Lib.hid (D_y2.out.step hb)
    have L_y3 : Hid (CL bv y3 y3.heap.size A3 T) := Lib.hid (L_y2.out.step hb)
    clear E_y2 B_y2 D_y2 L_y2
    clear hb
    go_wp2_with fail
    go_ret
    exact ⟨rfl, B_y3.out⟩
  by_cases hx1 : (T.length : Int) - 2 ≤ back
  · have b0 : (0 : Int) ≤ back := by omega
    have d0 := D_y2.out.cell 0 rfl
    have d1 := D_y2.out.cell 1 rfl
    have d2 := D_y2.out.cell 2 rfl
    have hw2 : wrap64 ((T.length : Int) - 2) = (T.length : Int) - 2 := wrap64_id _ (by omega) (by omega)
    go_wp2_with fail
    refine (awake31_any y2).mono ?_
    rintro e y3 ⟨rfl, hb⟩
    clear d0 d1 d2
    have E_y3 : Hid (BK 23 y3 w.heap.size (rcC r)) := Lib.hid (E_y2.out.step hb)
    have B_y3 : Hid (Below w.heap.size w y3) := Lib.hid ((stepB B_y2.out hb))
    have D_y3 : Hid (BK 39 y3 (w.heap.size + 1) [.int .i64 cut, .int .i64 back, .int .u8 y.toNat]) := Lib.hid (D_y2.out.step hb)
    have L_y3 : Hid (CL bv y3 y3.heap.size A3 T) := Lib.hid (L_y2.out.step hb)
    clear E_y2 B_y2 D_y2 L_y2
    clear hb
    go_wp2_with fail
    go_ret
    exact ⟨rfl, B_y3.out⟩
  by_cases hy0 : y.toNat = 0
  · have b0 : (0 : Int) ≤ back := by omega
    have b1 : back < (T.length : Int) - 2 := by omega
    have yb : ((y.toNat : Int) != 0) = false := by simp [hy0]
    have d0 := D_y2.out.cell 0 rfl
    have d1 := D_y2.out.cell 1 rfl
    have d2 := D_y2.out.cell 2 rfl
    have hw2 : wrap64 ((T.length : Int) - 2) = (T.length : Int) - 2 := wrap64_id _ (by omega) (by omega)
    go_wp2_with fail
    refine (awake31_any y2).mono ?_
    rintro e y3 ⟨rfl, hb⟩
    clear d0 d1 d2
    have E_y3 : Hid (BK 23 y3 w.heap.size (rcC r)) := Lib.hid (E_y2.out.step hb)
    have B_y3 : Hid (Below w.heap.size w y3) := Lib.hid ((stepB B_y2.out hb))
    have D_y3 : Hid (BK 39 y3 (w.heap.size + 1) [.int .i64 cut, .int .i64 back, .int .u8 y.toNat]) := Lib.hid (D_y2.out.step hb)
    have L_y3 : Hid (CL bv y3 y3.heap.size A3 T) := Lib.hid (L_y2.out.step hb)
    clear E_y2 B_y2 D_y2 L_y2
    clear hb
    go_wp2_with fail
    go_ret
    exact ⟨rfl, B_y3.out⟩
  have b0 : (0 : Int) ≤ back := by omega
  have b1 : back < (T.length : Int) - 2 := by omega
  have yb : ((y.toNat : Int) != 0) = true := by simp; omega
  have hw2 : wrap64 ((T.length : Int) - 2) = (T.length : Int) - 2 := wrap64_id _ (by omega) (by omega)
  obtain ⟨K, hK⟩ : ∃ K : Nat, (K : Int) = (T.length : Int) - 1 - back := ⟨((T.length : Int) - 1 - back).toNat, by omega⟩
  have hw1 : wrap64 ((T.length : Int) - 1) = (T.length : Int) - 1 := wrap64_id _ (by omega) (by omega)
  have hidx : wrap64 ((T.length : Int) - 1 - back) = (K : Int) := by rw [wrap64_id _ (by omega) (by omega)]; omega
  have hidy : (T.length : Int) - 1 - back = (K : Int) := by omega
  have hKl : K < T.length := by omega
  have hHK := Lib.hid hK
  clear hK
  have d0 := D_y2.out.cell 0 rfl
  have d1 := D_y2.out.cell 1 rfl
  have d2 := D_y2.out.cell 2 rfl
  go_upto_region 12 with first
    | (refine wpList_appB _ rfl (.tmp 68) (.tmp 69) rfl y2.heap.size _ [] T A3 c3 rfl (Own.made y2 0 #[] y2.heap.size (Nat.le_refl _) (by decide) rfl) rfl y2.heap.size (copied L_y2.out (Nat.le_refl _) _) y2 ((Below.refl _ _).alloc (Nat.le_refl _) _) (by simp) (by simp; omega) ?_; intro v1 wa own1 hb1 hB1; rw [List.nil_append] at own1; obtain ⟨g, c9, rfl, hg, hgl, hcell, hfro, hset⟩ := own_formr own1 (by omega); have E_wa : Hid (BK 23 wa w.heap.size (rcC r)) := Lib.hid (E_y2.out.step hb1); have B_wa : Hid (Below w.heap.size w wa) := Lib.hid ((stepB B_y2.out hb1)); have D_wa : Hid (BK 39 wa (w.heap.size + 1) [.int .i64 cut, .int .i64 back, .int .u8 y.toNat]) := Lib.hid (D_y2.out.step hb1); have L_wa : Hid (CL bv wa wa.heap.size A3 T) := Lib.hid (L_y2.out.step hb1); have O_wa := Lib.hid own1; have HCE := Lib.hid hcell; have HFR := Lib.hid hfro; have HST := Lib.hid hset; have HG1 := Lib.hid hg; have HG2 := Lib.hid hgl; have HB1 := Lib.hid hb1; have HB0 := Lib.hid B_y2.out.size; clear own1 hb1 hB1 hg hgl hcell hfro hset d0 d1 d2 E_y2 B_y2 D_y2 L_y2)
  have d0 := D_wa.out.cell 0 rfl
  have d1 := D_wa.out.cell 1 rfl
  have d2 := D_wa.out.cell 2 rfl
  go_wp2_with fail
  refine (HHD.out A3 c3 wa L_wa.out).mono ?_
  rintro e w' ⟨rfl, rfl⟩
  by_cases hKJ : (K : Int) < (J : Int)
  · have e3 : (K : Int) < (J : Int) := by omega
    go_wp2_with fail
    refine (awake31_any wa).mono ?_
    rintro e y3 ⟨rfl, hb⟩
    have E_y3 : Hid (BK 23 y3 w.heap.size (rcC r)) := Lib.hid (E_wa.out.step hb)
    have B_y3 : Hid (Below w.heap.size w y3) := Lib.hid ((stepB B_wa.out hb))
    have D_y3 : Hid (BK 39 y3 (w.heap.size + 1) [.int .i64 cut, .int .i64 back, .int .u8 y.toNat]) := Lib.hid (D_wa.out.step hb)
    have L_y3 : Hid (CL bv y3 y3.heap.size A3 T) := Lib.hid (L_wa.out.step hb)
    clear E_wa B_wa D_wa L_wa
    clear hb
    go_wp2_with fail
    go_ret
    exact ⟨rfl, B_y3.out⟩
  have e3 : ¬ ((K : Int) < (J : Int)) := by omega
  obtain ⟨x, hx⟩ : ∃ x, T[K]? = some x := ⟨_, List.getElem?_eq_getElem hKl⟩
  have k1 : wa.cell? ⟨g, K, none⟩ = some (.int .u8 x.toNat) := HCE.out K x hx
  have k2 : wa.frozen? ⟨g, K, none⟩ = false := HFR.out K
  have hxy := xor_u8r x y
  have HX := Lib.hid hx
  have j0 : (0 : Int) ≤ (K : Int) := by omega
  have j1 : (K : Int) < (T.length : Int) := by omega
  clear hx
  go_upto_region 15 with fail
  go_wp2_with fail
  go_region
  have hst := HST.out K (x ^^^ y)
  have hzz : bv (x ^^^ y) = .int .u8 ((x.toNat ^^^ y.toNat : Nat) : Int) := by unfold bv; rw [UInt8.toNat_xor]
  rw [hzz] at hst
  obtain ⟨q1, q2⟩ := hst
  have hb5 : Below w.heap.size w _ := (B_wa.out.grown q2 B_wa.out.size (fun j hj => by cases hj; exact Nat.le_trans HB0.out HG1.out)).drew
  have q3 := Own.drew q1
  clear q1 q2 hzz hxy HCE HFR HST HB1 HHD k1 k2 d0 d1 d2 hw1 hw2 hidx hidy E_wa B_wa D_wa L_wa O_wa
  generalize (wa.setCell ⟨g, K, none⟩ (.int .u8 ((x.toNat ^^^ y.toNat : Nat) : Int))).drew = w5 at *
  obtain ⟨A5, c5, hv5, hc5, hsl5⟩ := q3.ret
  have hnx := rcDecode_any A5 c5 (T.set K (x ^^^ y)) 0 (by decide) (by decide) w5 hsl5 hc5 (by rw [List.length_set]; omega)
  rw [HDM.out K x (x ^^^ y) (by omega) HX.out (xor_ner x y hy0), ← hv5] at hnx
  unfold RetRD at hnx
  dsimp only at hnx
  have HNX := Lib.hid hnx
  have B_w5 := Lib.hid hb5
  clear hnx hsl5 q3 hb5 hv5 HDM HX
  go_wp2_with fail
  refine (HNX.out).mono ?_
  rintro e y3 ⟨rfl, hb⟩
  have B_y3 : Hid (Below w.heap.size w y3) := Lib.hid ((stepB B_w5.out hb))
  clear B_w5
  clear hb
  go_upto_region 17 with first
    | (refine S2.wpList_store_all (by rfl) 23 (.tmp 12) (.tmp 95) rfl rfl (y3.heap.size) rfl (rcC rcZ) rfl 23 (rcC rcZ) (BK.new y3 _ _) rcSize rfl (S2.all_one rfl) ?_; intro y4 hM hP; have hb : Below y3.heap.size y3 y4 := hP.below (S2.below_new y3 _) (Nat.le_refl _); have B_y4 : Hid (Below w.heap.size w y4) := Lib.hid ((stepB B_y3.out hb)); have N_y4 : Hid (BK 23 y4 (y3.heap.size) (rcC rcZ)) := Lib.hid hM; clear hM hP hb B_y3)
  go_wp2_with fail
  refine (awake31_any y4).mono ?_
  rintro e y5 ⟨rfl, hb⟩
  have B_y5 : Hid (Below w.heap.size w y5) := Lib.hid ((stepB B_y4.out hb))
  have N_y5 : Hid (BK 23 y5 (y3.heap.size) (rcC rcZ)) := Lib.hid (N_y4.out.step hb)
  clear B_y4 N_y4
  clear hb
  go_wp2_with fail
  go_ret
  exact ⟨rfl, B_y5.out⟩
end Go.Proofs.Ytbmeimpfehjnfab
