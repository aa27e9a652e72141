/-
  Recover of segment and of the specification. Conditions: the bytes read as data; at most 65536 bytes; the numbers fit an int.
-/
import Derived.Test.YtbmeimpfehjnfaaSgC
namespace Go.Proofs.Ytbmeimpfehjnfaa
open Go.RowKit
open S2 (BK Put get_ops exec_load)

/-- what Recover answers -/
def RetSV (base : Int) (rs : List Rc) (T : List UInt8) (W : World) (e : Ending) (w' : World) : Prop :=
  ∃ A c, e = .returned (.tuple #[sgV base (base + (rs.length : Int)) A T.length c, .int .i64 (T.length : Int)]) ∧ T.length ≤ c ∧ CL bv w' w'.heap.size A T ∧ Below W.heap.size W w'
theorem scR_range {l : List UInt8} {base : Int} {xs : List Rc} {p : Nat} (h : ScI l base xs p) {r : Rc} {nx : Int} (hd : rcDec l p = (r, nx, 0)) (hb : base < 0 ∨ 1099511627776 < base) : r.off ≠ base + (xs.length : Int) := by
  intro ho
  have hc := rcCk_ok (rcDec_at hd).1
  cases xs with
  | nil => simp only [List.length_nil] at ho; omega
  | cons x xs =>
    have h2 := h.2.2.2.2.1
    have h3 := rcCk_ok h2.2.1
    have h4 := h2.1
    omega

set_option maxRecDepth 20000 in
set_option maxHeartbeats 8000000 in
theorem sRecover_any (A : Option Addr) (c : Nat) (l : List UInt8) (base : Int) (w : World) (hsl : CL bv w w.heap.size A l) (hc : l.length ≤ c) (hn : l.length ≤ 65536) (hb1 : -9223372036854775808 ≤ base) (hb2 : base ≤ 9223372036854775807) :
    Calls Try.prog 23 #[.slice A l.length c, .int .i64 base] w (RetSV base (scR l base).1 (l.take (scR l base).2.1) w) := by
  obtain ⟨A2, hs2, hcl2⟩ := slice_h A c l l.length (Nat.le_refl _) hc
  rw [List.take_length] at hs2 hcl2
  have HX := Lib.hid (fun w h => scan_any A2 c l base w h hc hn hb1 hb2)
  unfold RetSc at HX
  have hfin := (scR_fin l base).1
  have hbd := hfin.bound
  have hfit := hfin.2.2.2.2.1.fit hb1 hb2 (by omega)
  generalize scR l base = q at *
  obtain ⟨xs, p, e0⟩ := q
  dsimp only at *
  obtain ⟨A4, hs4, hcl4⟩ := slice_h A2 c l p hbd.2 hc
  have htl : (l.take p).length = p := by rw [List.length_take]; omega
  generalize l.take p = T at *
  subst htl
  have HCL2 := Lib.hid hcl2
  have HCL4 := Lib.hid hcl4
  have HSL := Lib.hid hsl
  have HN := Lib.hid hn
  have hmin : min (l.length : Int) 65536 = (l.length : Int) := by omega
  clear hsl hcl2 hcl4 hfin hb1 hb2
  go_enter Try.func23, Try.ntmps23
  go_upto_region 1 with fail
  refine name_world (C := fun w1 => Code.wp _ _ _ _ w1) (w.alloc (.cells (sgC 0 0 none 0 0).toArray 24)) ?_
  intro w1 hw1
  have hb1 : Below w.heap.size w w1 := by rw [hw1]; exact S2.below_new w _
  have R_w1 : Hid (BK 24 w1 w.heap.size (sgC 0 0 none 0 0)) := Lib.hid (by rw [hw1]; exact BK.new w _ _)
  have B_w1 := Lib.hid hb1
  have S_w1 := Lib.hid (HSL.out.step hb1)
  clear hw1 hb1 HSL
  go_wp2_with fail
  refine (HX.out w1 (HCL2.out w1 _ S_w1.out)).mono ?_
  rintro e y1 ⟨v, rfl, own, hb⟩
  have R_y1 : Hid (BK 24 y1 w.heap.size (sgC 0 0 none 0 0)) := Lib.hid (R_w1.out.step hb)
  have B_y1 : Hid (Below w.heap.size w y1) := Lib.hid ((stepB B_w1.out hb))
  have S_y1 : Hid (CL bv y1 y1.heap.size A l) := Lib.hid (S_w1.out.step hb)
  clear R_w1 B_w1 S_w1
  obtain ⟨A7, c7, rfl, _, _⟩ := own.ret rcC_len
  clear own
  clear hb
  go_upto_region 3 with fail
  have ZQ : Hid (w.heap.size < y1.heap.size) := Lib.hid R_y1.out.lt
  go_wp2_with fail
  refine (cloneB_any A4 c T y1 (HCL4.out y1 _ (HCL2.out y1 _ S_y1.out)) (by have := HN.out; omega)).mono ?_
  rintro e y2 ⟨v9, rfl, own9, hb⟩
  have R_y2 : Hid (BK 24 y2 w.heap.size (sgC 0 0 none 0 0)) := Lib.hid (R_y1.out.step hb)
  have B_y2 : Hid (Below w.heap.size w y2) := Lib.hid ((stepB B_y1.out hb))
  have S_y2 : Hid (CL bv y2 y2.heap.size A l) := Lib.hid (S_y1.out.step hb)
  clear R_y1 B_y1 S_y1
  obtain ⟨A9, c9, rfl, hc9, _⟩ := own9.ret
  have O_y2 : Hid (Own 5 bv y2 y1.heap.size (.slice A9 T.length c9) T) := Lib.hid (own9)
  clear own9
  clear hb
  go_wp2_with first
    | (refine S2.wpList_store_all (by rfl) 24 (.tmp 4) (.tmp 30) rfl rfl (w.heap.size) rfl (sgC base (base + (xs.length : Int)) A9 T.length c9) rfl 24 (sgC 0 0 none 0 0) R_y2.out sgSize rfl (S2.all_one rfl) ?_; intro y3 hM hP; have R_y3 : Hid (BK 24 y3 (w.heap.size) (sgC base (base + (xs.length : Int)) A9 T.length c9)) := Lib.hid hM; have B_y3 : Hid (Below w.heap.size w y3) := Lib.hid (hP.below B_y2.out (Nat.le_refl _)); have O_y3 : Hid (Own 5 bv y3 y1.heap.size (.slice A9 T.length c9) T) := Lib.hid (Own.put O_y2.out hP ZQ.out); clear hM hP R_y2 B_y2 S_y2 O_y2)
  exact bodyPost_ret (v := .tuple #[sgV base (base + (xs.length : Int)) A9 T.length c9, .int .i64 (T.length : Int)]) (S2.res_cell_tmp rfl _ _ w.heap.size 24 (sgC base (base + (xs.length : Int)) A9 T.length c9) _ _ rfl rfl R_y3.out Try.underlying24 rfl sgSize) rfl ⟨A9, c9, rfl, hc9, (by obtain ⟨A8, c8, e8, _, h8⟩ := O_y3.out.ret; cases e8; exact h8), B_y3.out⟩

set_option maxRecDepth 20000 in
set_option maxHeartbeats 8000000 in
theorem rRecover_any (A : Option Addr) (c : Nat) (l : List UInt8) (base : Int) (w : World) (hsl : CL bv w w.heap.size A l) (hc : l.length ≤ c) (hn : l.length ≤ 65536) (hb1 : -9223372036854775808 ≤ base) (hb2 : base ≤ 9223372036854775807) :
    Calls Try.prog 24 #[.slice A l.length c, .int .i64 base] w (RetSV base (scR l base).1 (l.take (scR l base).2.1) w) := by
  have HD := Lib.hid (fun (p : Nat) w (hp : p ≤ l.length) h => rrDecode_any A c l p (by omega) (by omega) w h hc (by omega))
  unfold RetRD at HD
  obtain ⟨RES, hRES⟩ : ∃ r, scR l base = r := ⟨_, rfl⟩
  rw [hRES]
  have HRES := Lib.hid hRES
  have HF := Lib.hid (fun xs (h : ConsR base xs) hx => h.fit hb1 hb2 hx)
  have HSL := Lib.hid hsl
  have HC := Lib.hid hc
  have HN := Lib.hid hn
  clear hsl hRES hc
  go_enter Try.func24, Try.ntmps24
  go_upto_region 1 with fail
  refine name_world (C := fun w1 => Code.wp _ _ _ _ w1) (w.alloc (.cells (sgC 0 0 none 0 0).toArray 24)) ?_
  intro w1 hw1
  have hb1 : Below w.heap.size w w1 := by rw [hw1]; exact S2.below_new w _
  have R_w1 : Hid (BK 24 w1 w.heap.size (sgC 0 0 none 0 0)) := Lib.hid (by rw [hw1]; exact BK.new w _ _)
  have B_w1 := Lib.hid hb1
  have S_w1 := Lib.hid (HSL.out.step hb1)
  clear hw1 hb1 HSL
  go_wp2_with fail
  go_loopg [6, 7] l.length (fun g v6 v7 wr => ∃ (p : Nat) (xs : List Rc), l.length ≤ p + g ∧ v6 = .int .i64 p ∧ v7 = .int .i64 (xs.length : Int) ∧ ScI l base xs p ∧ BK 24 wr w.heap.size (sgC 0 0 none 0 0) ∧ Below w.heap.size w wr ∧ CL bv wr wr.heap.size A l)
  case atStart => exact ⟨0, [], by omega, rfl, rfl, ScI.start l base, R_w1.out, B_w1.out, S_w1.out⟩
  case round =>
    clear R_w1 B_w1 S_w1
    obtain ⟨p, xs, hg, rfl, rfl, hI, hR, hb, hS⟩ := hrel
    have hbd := hI.bound
    have HI := Lib.hid hI
    have R_wr := Lib.hid hR
    have B_wr := Lib.hid hb
    have S_wr := Lib.hid hS
    have hwr := HF.out xs hI.2.2.2.2.1 (by omega)
    clear hI hR hb hS
    by_cases hp : p < l.length
    · have hp' : (p : Int) < (l.length : Int) := by omega
      obtain ⟨r, nx, er, hd⟩ : ∃ r nx er, rcDec l p = (r, nx, er) := ⟨_, _, _, rfl⟩
      have HDp := HD.out p wr (by omega) S_wr.out
      rw [hd] at HDp
      dsimp only at HDp
      have HX := Lib.hid HDp
      have HDD := Lib.hid hd
      clear HDp hd
      go_wp2_with fail
      refine HX.out.mono ?_
      rintro e w2 ⟨rfl, hb⟩
      have R_w2 := Lib.hid (R_wr.out.step hb)
      have B_w2 := Lib.hid (stepB B_wr.out hb)
      have S_w2 := Lib.hid (S_wr.out.step hb)
      clear hb R_wr B_wr S_wr HX
      go_upto_region 5 with (refine S2.wpList_store_all (by rfl) 32 (.tmp 8) (.tmp 19) rfl rfl (w2.heap.size) (by first | rfl | go_simp) (rcC r) (by first | rfl | go_simp) 32 (rcC rcZ) (BK.new _ _ _) rcSize rfl (S2.all_one rfl) ?_; intro w3 hM hP; have hb3 : Below w2.heap.size w2 w3 := hP.below (S2.below_new _ _) (Nat.le_refl _); have M3 : Hid (BK 32 w3 w2.heap.size (rcC r)) := Lib.hid hM; have R_w3 := Lib.hid (R_w2.out.step hb3); have B_w3 := Lib.hid (stepB B_w2.out hb3); have S_w3 := Lib.hid (S_w2.out.step hb3); clear hb3; clear hM hP)
      clear R_w2 B_w2 S_w2
      by_cases he : er ≠ 0
      · obtain rfl : RES = (xs, p, er) := by rw [← HRES.out]; exact HI.out.stop_err hp HDD.out he
        have q : (er != 0) = true := by simp [he]
        dsimp only
        clear he HRES HDD HI HD HF
        obtain ⟨A4, hs4, hcl4⟩ := slice_h A c l p (by omega) HC.out
        have htl : (l.take p).length = p := by rw [List.length_take]; omega
        generalize l.take p = T at *
        subst htl
        have HCL4 := Lib.hid hcl4
        clear hcl4
        have ZQ : Hid (w.heap.size < w3.heap.size) := Lib.hid R_w3.out.lt
        go_wp2_with first
          | (at_builtin; refine wpList_appB _ rfl (.tmp 51) (.tmp 54) rfl w3.heap.size _ [] T A4 c rfl (Own.made w3 0 #[] w3.heap.size (Nat.le_refl _) (by decide) rfl) rfl w3.heap.size (copied (HCL4.out w3 _ S_w3.out) (Nat.le_refl _) _) w3 ((Below.refl _ _).alloc (Nat.le_refl _) _) (by simp) (by have := HN.out; simp; omega) ?_; intro v9 wc own9 hb3 hB3; rw [List.nil_append] at own9; obtain ⟨A9, c9, rfl, hc9, _⟩ := own9.ret; have R_wc : Hid (BK 24 wc w.heap.size (sgC 0 0 none 0 0)) := Lib.hid (R_w3.out.step hb3); have B_wc : Hid (Below w.heap.size w wc) := Lib.hid ((stepB B_w3.out hb3)); have S_wc : Hid (CL bv wc wc.heap.size A l) := Lib.hid (S_w3.out.step hb3); have O_wc := Lib.hid own9; clear own9 hb3 hB3 R_w3 B_w3 S_w3)
          | (refine S2.wpList_store_all (by rfl) 24 (.tmp 4) (.tmp 56) rfl rfl (w.heap.size) rfl (sgC base (base + (xs.length : Int)) A9 T.length c9) rfl 24 (sgC 0 0 none 0 0) R_wc.out sgSize rfl (S2.all_one rfl) ?_; intro y1 hM hP; have R_y1 : Hid (BK 24 y1 (w.heap.size) (sgC base (base + (xs.length : Int)) A9 T.length c9)) := Lib.hid hM; have B_y1 : Hid (Below w.heap.size w y1) := Lib.hid (hP.below B_wc.out (Nat.le_refl _)); have O_y1 : Hid (Own 5 bv y1 w3.heap.size (.slice A9 T.length c9) T) := Lib.hid (Own.put O_wc.out hP ZQ.out); clear hM hP R_wc B_wc S_wc O_wc)
        exact bodyPost_ret (v := .tuple #[sgV base (base + (xs.length : Int)) A9 T.length c9, .int .i64 (T.length : Int)]) (S2.res_cell_tmp rfl _ _ w.heap.size 24 (sgC base (base + (xs.length : Int)) A9 T.length c9) _ _ rfl rfl R_y1.out Try.underlying24 rfl sgSize) rfl ⟨A9, c9, rfl, hc9, (by obtain ⟨A8, c8, e8, _, h8⟩ := O_y1.out.ret; cases e8; exact h8), B_y1.out⟩
      obtain rfl : er = 0 := by omega
      have m0 := M3.out.cell 0 rfl
      obtain ⟨_, kk, hkp, hnx, hkl, _⟩ := rcDec_at HDD.out
      have hn6 : ¬ ((65536 : Int) < nx) := by have := HN.out; omega
      clear hkp hnx hkl
      by_cases hr : base < 0 ∨ 1099511627776 < base
      · obtain rfl : RES = (xs, p, 22) := by rw [← HRES.out]; exact HI.out.stop_ord hp HDD.out (scR_range HI.out HDD.out hr)
        dsimp only
        clear HRES HDD HI HD HF
        rcases hr with hr | hr
        · clear m0
          obtain ⟨A4, hs4, hcl4⟩ := slice_h A c l p (by omega) HC.out
          have htl : (l.take p).length = p := by rw [List.length_take]; omega
          generalize l.take p = T at *
          subst htl
          have HCL4 := Lib.hid hcl4
          clear hcl4
          have ZQ : Hid (w.heap.size < w3.heap.size) := Lib.hid R_w3.out.lt
          go_wp2_with first
            | (at_builtin; refine wpList_appB _ rfl (.tmp 51) (.tmp 54) rfl w3.heap.size _ [] T A4 c rfl (Own.made w3 0 #[] w3.heap.size (Nat.le_refl _) (by decide) rfl) rfl w3.heap.size (copied (HCL4.out w3 _ S_w3.out) (Nat.le_refl _) _) w3 ((Below.refl _ _).alloc (Nat.le_refl _) _) (by simp) (by have := HN.out; simp; omega) ?_; intro v9 wc own9 hb3 hB3; rw [List.nil_append] at own9; obtain ⟨A9, c9, rfl, hc9, _⟩ := own9.ret; have R_wc : Hid (BK 24 wc w.heap.size (sgC 0 0 none 0 0)) := Lib.hid (R_w3.out.step hb3); have B_wc : Hid (Below w.heap.size w wc) := Lib.hid ((stepB B_w3.out hb3)); have S_wc : Hid (CL bv wc wc.heap.size A l) := Lib.hid (S_w3.out.step hb3); have O_wc := Lib.hid own9; clear own9 hb3 hB3 R_w3 B_w3 S_w3)
            | (refine S2.wpList_store_all (by rfl) 24 (.tmp 4) (.tmp 56) rfl rfl (w.heap.size) rfl (sgC base (base + (xs.length : Int)) A9 T.length c9) rfl 24 (sgC 0 0 none 0 0) R_wc.out sgSize rfl (S2.all_one rfl) ?_; intro y1 hM hP; have R_y1 : Hid (BK 24 y1 (w.heap.size) (sgC base (base + (xs.length : Int)) A9 T.length c9)) := Lib.hid hM; have B_y1 : Hid (Below w.heap.size w y1) := Lib.hid (hP.below B_wc.out (Nat.le_refl _)); have O_y1 : Hid (Own 5 bv y1 w3.heap.size (.slice A9 T.length c9) T) := Lib.hid (Own.put O_wc.out hP ZQ.out); clear hM hP R_wc B_wc S_wc O_wc)
          exact bodyPost_ret (v := .tuple #[sgV base (base + (xs.length : Int)) A9 T.length c9, .int .i64 (T.length : Int)]) (S2.res_cell_tmp rfl _ _ w.heap.size 24 (sgC base (base + (xs.length : Int)) A9 T.length c9) _ _ rfl rfl R_y1.out Try.underlying24 rfl sgSize) rfl ⟨A9, c9, rfl, hc9, (by obtain ⟨A8, c8, e8, _, h8⟩ := O_y1.out.ret; cases e8; exact h8), B_y1.out⟩
        · have hr' : ¬ (base < 0) := by omega
          clear m0
          obtain ⟨A4, hs4, hcl4⟩ := slice_h A c l p (by omega) HC.out
          have htl : (l.take p).length = p := by rw [List.length_take]; omega
          generalize l.take p = T at *
          subst htl
          have HCL4 := Lib.hid hcl4
          clear hcl4
          have ZQ : Hid (w.heap.size < w3.heap.size) := Lib.hid R_w3.out.lt
          go_wp2_with first
            | (at_builtin; refine wpList_appB _ rfl (.tmp 51) (.tmp 54) rfl w3.heap.size _ [] T A4 c rfl (Own.made w3 0 #[] w3.heap.size (Nat.le_refl _) (by decide) rfl) rfl w3.heap.size (copied (HCL4.out w3 _ S_w3.out) (Nat.le_refl _) _) w3 ((Below.refl _ _).alloc (Nat.le_refl _) _) (by simp) (by have := HN.out; simp; omega) ?_; intro v9 wc own9 hb3 hB3; rw [List.nil_append] at own9; obtain ⟨A9, c9, rfl, hc9, _⟩ := own9.ret; have R_wc : Hid (BK 24 wc w.heap.size (sgC 0 0 none 0 0)) := Lib.hid (R_w3.out.step hb3); have B_wc : Hid (Below w.heap.size w wc) := Lib.hid ((stepB B_w3.out hb3)); have S_wc : Hid (CL bv wc wc.heap.size A l) := Lib.hid (S_w3.out.step hb3); have O_wc := Lib.hid own9; clear own9 hb3 hB3 R_w3 B_w3 S_w3)
            | (refine S2.wpList_store_all (by rfl) 24 (.tmp 4) (.tmp 56) rfl rfl (w.heap.size) rfl (sgC base (base + (xs.length : Int)) A9 T.length c9) rfl 24 (sgC 0 0 none 0 0) R_wc.out sgSize rfl (S2.all_one rfl) ?_; intro y1 hM hP; have R_y1 : Hid (BK 24 y1 (w.heap.size) (sgC base (base + (xs.length : Int)) A9 T.length c9)) := Lib.hid hM; have B_y1 : Hid (Below w.heap.size w y1) := Lib.hid (hP.below B_wc.out (Nat.le_refl _)); have O_y1 : Hid (Own 5 bv y1 w3.heap.size (.slice A9 T.length c9) T) := Lib.hid (Own.put O_wc.out hP ZQ.out); clear hM hP R_wc B_wc S_wc O_wc)
          exact bodyPost_ret (v := .tuple #[sgV base (base + (xs.length : Int)) A9 T.length c9, .int .i64 (T.length : Int)]) (S2.res_cell_tmp rfl _ _ w.heap.size 24 (sgC base (base + (xs.length : Int)) A9 T.length c9) _ _ rfl rfl R_y1.out Try.underlying24 rfl sgSize) rfl ⟨A9, c9, rfl, hc9, (by obtain ⟨A8, c8, e8, _, h8⟩ := O_y1.out.ret; cases e8; exact h8), B_y1.out⟩
      have hr1 : ¬ (base < 0) := by omega
      have hr2 : ¬ (1099511627776 < base) := by omega
      by_cases ho : r.off = base + (xs.length : Int)
      · have q : (r.off != base + (xs.length : Int)) = false := by simp [ho]
        obtain ⟨q1, rfl, hq2, hq3, hqe, hqc, hI'⟩ := HI.out.next HDD.out ho
        have HI' := Lib.hid hI'
        have hw1 : wrap64 ((xs.length : Int) + 1) = (xs.length : Int) + 1 := wrap64_id _ (by omega) (by omega)
        clear hI' ho hqe hqc
        go_wp2_with fail
        go_roundg (l.length - q1)
        case measure => omega
        case rel => exact ⟨q1, xs ++ [r], by omega, rfl, by rw [List.length_append, List.length_singleton]; go_num, HI'.out, R_w3.out, B_w3.out, S_w3.out⟩
      · obtain rfl : RES = (xs, p, 22) := by rw [← HRES.out]; exact HI.out.stop_ord hp HDD.out ho
        have q : (r.off != base + (xs.length : Int)) = true := by simp [ho]
        dsimp only
        clear ho HRES HDD HI HD HF
        obtain ⟨A4, hs4, hcl4⟩ := slice_h A c l p (by omega) HC.out
        have htl : (l.take p).length = p := by rw [List.length_take]; omega
        generalize l.take p = T at *
        subst htl
        have HCL4 := Lib.hid hcl4
        clear hcl4
        have ZQ : Hid (w.heap.size < w3.heap.size) := Lib.hid R_w3.out.lt
        go_wp2_with first
          | (at_builtin; refine wpList_appB _ rfl (.tmp 51) (.tmp 54) rfl w3.heap.size _ [] T A4 c rfl (Own.made w3 0 #[] w3.heap.size (Nat.le_refl _) (by decide) rfl) rfl w3.heap.size (copied (HCL4.out w3 _ S_w3.out) (Nat.le_refl _) _) w3 ((Below.refl _ _).alloc (Nat.le_refl _) _) (by simp) (by have := HN.out; simp; omega) ?_; intro v9 wc own9 hb3 hB3; rw [List.nil_append] at own9; obtain ⟨A9, c9, rfl, hc9, _⟩ := own9.ret; have R_wc : Hid (BK 24 wc w.heap.size (sgC 0 0 none 0 0)) := Lib.hid (R_w3.out.step hb3); have B_wc : Hid (Below w.heap.size w wc) := Lib.hid ((stepB B_w3.out hb3)); have S_wc : Hid (CL bv wc wc.heap.size A l) := Lib.hid (S_w3.out.step hb3); have O_wc := Lib.hid own9; clear own9 hb3 hB3 R_w3 B_w3 S_w3)
          | (refine S2.wpList_store_all (by rfl) 24 (.tmp 4) (.tmp 56) rfl rfl (w.heap.size) rfl (sgC base (base + (xs.length : Int)) A9 T.length c9) rfl 24 (sgC 0 0 none 0 0) R_wc.out sgSize rfl (S2.all_one rfl) ?_; intro y1 hM hP; have R_y1 : Hid (BK 24 y1 (w.heap.size) (sgC base (base + (xs.length : Int)) A9 T.length c9)) := Lib.hid hM; have B_y1 : Hid (Below w.heap.size w y1) := Lib.hid (hP.below B_wc.out (Nat.le_refl _)); have O_y1 : Hid (Own 5 bv y1 w3.heap.size (.slice A9 T.length c9) T) := Lib.hid (Own.put O_wc.out hP ZQ.out); clear hM hP R_wc B_wc S_wc O_wc)
        exact bodyPost_ret (v := .tuple #[sgV base (base + (xs.length : Int)) A9 T.length c9, .int .i64 (T.length : Int)]) (S2.res_cell_tmp rfl _ _ w.heap.size 24 (sgC base (base + (xs.length : Int)) A9 T.length c9) _ _ rfl rfl R_y1.out Try.underlying24 rfl sgSize) rfl ⟨A9, c9, rfl, hc9, (by obtain ⟨A8, c8, e8, _, h8⟩ := O_y1.out.ret; cases e8; exact h8), B_y1.out⟩
    · obtain rfl : RES = (xs, p, 0) := by rw [← HRES.out]; exact HI.out.stop_end hp
      have hp' : ¬ ((p : Int) < (l.length : Int)) := by omega
      dsimp only
      clear HRES HI HD HF
      obtain ⟨A4, hs4, hcl4⟩ := slice_h A c l p (by omega) HC.out
      have htl : (l.take p).length = p := by rw [List.length_take]; omega
      generalize l.take p = T at *
      subst htl
      have HCL4 := Lib.hid hcl4
      clear hcl4
      have ZQ : Hid (w.heap.size < wr.heap.size) := Lib.hid R_wr.out.lt
      go_wp2_with first
        | (at_builtin; refine wpList_appB _ rfl (.tmp 51) (.tmp 54) rfl wr.heap.size _ [] T A4 c rfl (Own.made wr 0 #[] wr.heap.size (Nat.le_refl _) (by decide) rfl) rfl wr.heap.size (copied (HCL4.out wr _ S_wr.out) (Nat.le_refl _) _) wr ((Below.refl _ _).alloc (Nat.le_refl _) _) (by simp) (by have := HN.out; simp; omega) ?_; intro v9 wc own9 hb3 hB3; rw [List.nil_append] at own9; obtain ⟨A9, c9, rfl, hc9, _⟩ := own9.ret; have R_wc : Hid (BK 24 wc w.heap.size (sgC 0 0 none 0 0)) := Lib.hid (R_wr.out.step hb3); have B_wc : Hid (Below w.heap.size w wc) := Lib.hid ((stepB B_wr.out hb3)); have S_wc : Hid (CL bv wc wc.heap.size A l) := Lib.hid (S_wr.out.step hb3); have O_wc := Lib.hid own9; clear own9 hb3 hB3 R_wr B_wr S_wr)
        | (refine S2.wpList_store_all (by rfl) 24 (.tmp 4) (.tmp 56) rfl rfl (w.heap.size) rfl (sgC base (base + (xs.length : Int)) A9 T.length c9) rfl 24 (sgC 0 0 none 0 0) R_wc.out sgSize rfl (S2.all_one rfl) ?_; intro y1 hM hP; have R_y1 : Hid (BK 24 y1 (w.heap.size) (sgC base (base + (xs.length : Int)) A9 T.length c9)) := Lib.hid hM; have B_y1 : Hid (Below w.heap.size w y1) := Lib.hid (hP.below B_wc.out (Nat.le_refl _)); have O_y1 : Hid (Own 5 bv y1 wr.heap.size (.slice A9 T.length c9) T) := Lib.hid (Own.put O_wc.out hP ZQ.out); clear hM hP R_wc B_wc S_wc O_wc)
      exact bodyPost_ret (v := .tuple #[sgV base (base + (xs.length : Int)) A9 T.length c9, .int .i64 (T.length : Int)]) (S2.res_cell_tmp rfl _ _ w.heap.size 24 (sgC base (base + (xs.length : Int)) A9 T.length c9) _ _ rfl rfl R_y1.out Try.underlying24 rfl sgSize) rfl ⟨A9, c9, rfl, hc9, (by obtain ⟨A8, c8, e8, _, h8⟩ := O_y1.out.ret; cases e8; exact h8), B_y1.out⟩
end Go.Proofs.Ytbmeimpfehjnfaa
