/-
  SegmentTorn answers true, walked. Conditions: the list reads as data; texts fit an int; the numbers fit theirs.
-/
import Derived.Test.YtbmeimpfehjnfaaSgI
namespace Go.Proofs.Ytbmeimpfehjnfaa
open Go.RowKit
open S2 (BK Put get_ops exec_load)

theorem flat_mono (rs : List Rc) {a b : Nat} (h : a ≤ b) : (flatR (rs.take a)).length ≤ (flatR (rs.take b)).length := by
  have e : rs.take b = rs.take a ++ (rs.take b).drop a := by
    conv => lhs; rw [← List.take_append_drop a (rs.take b)]
    rw [List.take_take, Nat.min_eq_left h]
  rw [e, flatR_app, List.length_append]
  omega
/-- how many records are whole -/
def WholeR (rs : List Rc) (q m : Nat) : Prop := m ≤ rs.length ∧ (flatR (rs.take m)).length ≤ q ∧ (m = rs.length ∨ q < (flatR (rs.take (m + 1))).length)
theorem WholeR.ex (rs : List Rc) (q : Nat) : ∃ m, WholeR rs q m := by
  have key : ∀ d k, k + d = rs.length → (flatR (rs.take k)).length ≤ q → ∃ m, WholeR rs q m := by
    intro d
    induction d with
    | zero => intro k hk hq; exact ⟨k, by omega, hq, .inl (by omega)⟩
    | succ d ih =>
      intro k hk hq
      by_cases h : q < (flatR (rs.take (k + 1))).length
      · exact ⟨k, by omega, hq, .inr h⟩
      · exact ih (k + 1) (by omega) (by omega)
  exact key rs.length 0 (by omega) (by simp [flatR])
theorem WholeR.same {rs : List Rc} {q m m' : Nat} (h : WholeR rs q m) (h' : WholeR rs q m') : m = m' := by
  have key : ∀ {a b : Nat}, WholeR rs q a → WholeR rs q b → ¬ a < b := fun {a b} ha hb hlt => by
    rcases ha.2.2 with h1 | h1
    · have := hb.1; omega
    · have h2 := flat_mono rs (a := a + 1) (b := b) hlt
      have := hb.2.1
      omega
  have h1 := key h h'
  have h2 := key h' h
  omega
theorem ConsR.take {o : Int} {rs : List Rc} (h : ConsR o rs) (m : Nat) : ConsR o (rs.take m) := by
  have e := List.take_append_drop m rs
  rw [← e] at h
  exact (ConsR.app.1 h).1
theorem scR_cut {base : Int} {rs : List Rc} {q m : Nat} (hc : ConsR base rs) (hm : WholeR rs q m) (hq : q ≤ (flatR rs).length) :
    (scR ((flatR rs).take q) base).1 = rs.take m ∧ (scR ((flatR rs).take q) base).2.1 = (flatR (rs.take m)).length := by
  obtain ⟨h1, h2, h3⟩ := hm
  have e0 : flatR rs = flatR (rs.take m) ++ flatR (rs.drop m) := by rw [← flatR_app, List.take_append_drop]
  by_cases hml : m = rs.length
  · subst hml
    rw [List.take_length] at h2 ⊢
    obtain rfl : q = (flatR rs).length := by omega
    rw [List.take_length, scR_of hc]
    exact ⟨rfl, rfl⟩
  · have hlt : m < rs.length := by omega
    obtain ⟨x, hx⟩ : ∃ x, rs[m]? = some x := ⟨_, List.getElem?_eq_getElem hlt⟩
    have h4 : q < (flatR (rs.take (m + 1))).length := by rcases h3 with h3 | h3; exact absurd h3 hml; exact h3
    have hn := flat_next hx
    have hln := congrArg List.length hn
    rw [List.length_append] at hln
    obtain ⟨j, hj⟩ : ∃ j, q = (flatR (rs.take m)).length + j := ⟨q - (flatR (rs.take m)).length, by omega⟩
    have e1 : (flatR rs).take q = flatR (rs.take m) ++ (rcEnc x).take j := by
      have e2 : rs.drop m = x :: rs.drop (m + 1) := by
        obtain ⟨hk, rfl⟩ := List.getElem?_eq_some_iff.1 hx
        exact List.drop_eq_getElem_cons hk
      rw [e0, e2, flatR_cons, hj, List.take_length_add_append, List.take_append_of_le_length (by omega)]
    rw [e1]
    exact scR_torn (hc.take m) (hc.at_ hx).2 (by omega)

set_option maxRecDepth 20000 in
set_option maxHeartbeats 16000000 in
theorem segmentTorn_walk (base : Int) (A : Option Addr) (c : Nat) (l : List Rc) (cut : Int) (w : World) (hsl : RcL w w.heap.size A l) (_hc : l.length ≤ c) (hz : ∀ r ∈ l, r.key.size ≤ 9223372036854775807 ∧ r.val.size ≤ 9223372036854775807) :
    Calls Try.prog 8 #[.int .i64 base, .slice A l.length c, .int .i64 cut] w fun e w' => e = .returned (.bool true) ∧ Below w.heap.size w w' := by
  by_cases h1 : base < 0
  · clear hsl hz
    have B_w := Lib.hid (Below.refl w.heap.size w)
    go_enter Try.func8, Try.ntmps8
    go_wp2_with fail
    refine (awake32_any w).mono ?_
    rintro e y1 ⟨rfl, hb⟩
    have B_y1 : Hid (Below w.heap.size w y1) := Lib.hid ((stepB B_w.out hb))
    clear B_w
    clear hb
    go_wp2_with fail
    go_ret
    exact ⟨rfl, B_y1.out⟩
  by_cases h2 : 1099511627760 < base
  · clear hsl hz
    have B_w := Lib.hid (Below.refl w.heap.size w)
    go_enter Try.func8, Try.ntmps8
    go_wp2_with fail
    refine (awake32_any w).mono ?_
    rintro e y1 ⟨rfl, hb⟩
    have B_y1 : Hid (Below w.heap.size w y1) := Lib.hid ((stepB B_w.out hb))
    clear B_w
    clear hb
    go_wp2_with fail
    go_ret
    exact ⟨rfl, B_y1.out⟩
  have HW := Lib.hid (few_any A c l w hsl hz)
  cases hf : fewR l
  · rw [hf] at HW
    clear hsl hz hf
    have B_w := Lib.hid (Below.refl w.heap.size w)
    go_enter Try.func8, Try.ntmps8
    go_wp2_with fail
    refine HW.out.mono ?_
    rintro e y0 ⟨rfl, rfl⟩
    have B_y0 := Lib.hid (Below.refl y0.heap.size y0)
    go_wp2_with fail
    refine (awake32_any y0).mono ?_
    rintro e y1 ⟨rfl, hb⟩
    have B_y1 : Hid (Below y0.heap.size y0 y1) := Lib.hid ((stepB B_y0.out hb))
    clear B_y0
    clear hb
    go_wp2_with fail
    go_ret
    exact ⟨rfl, B_y1.out⟩
  · rw [hf] at HW
    obtain ⟨hn16, hsm⟩ := fewR_ok hf
    clear hf
    by_cases h3 : cut < 0
    · have B_w := Lib.hid (Below.refl w.heap.size w)
      clear hsl hz
      go_enter Try.func8, Try.ntmps8
      go_wp2_with fail
      refine HW.out.mono ?_
      rintro e w0 ⟨rfl, hw0⟩
      subst hw0
      have B_w0 := B_w
      clear B_w
      go_wp2_with fail
      refine (awake32_any w0).mono ?_
      rintro e y1 ⟨rfl, hb⟩
      have B_y1 : Hid (Below w0.heap.size w0 y1) := Lib.hid ((stepB B_w0.out hb))
      clear B_w0
      clear hb
      go_wp2_with fail
      go_ret
      exact ⟨rfl, B_y1.out⟩
    obtain ⟨q, rfl⟩ := Int.eq_ofNat_of_zero_le (by omega : 0 ≤ cut)
    have HOF := Lib.hid (fun w h => rOf_any base A c l w h (by omega) (fun r hr => by have := hsm r hr; omega))
    unfold RetOf at HOF
    have HSM := Lib.hid hsm
    clear hsm hz
    have B_w := Lib.hid (Below.refl w.heap.size w)
    have G_w := Lib.hid hsl
    clear hsl
    go_enter Try.func8, Try.ntmps8
    go_wp2_with fail
    refine HW.out.mono ?_
    rintro e w0 ⟨rfl, hw0⟩
    subst hw0
    have B_w0 := B_w
    have G_w0 := G_w
    clear B_w G_w HW
    go_wp2_with fail
    refine (HOF.out w0 G_w0.out).mono ?_
    rintro e y1 ⟨b1, n1, A1, T, c1, code, rfl, hT, hc1, hb, hcode⟩
    have B_y1 : Hid (Below w0.heap.size w0 y1) := Lib.hid ((stepB B_w0.out hb))
    have G_y1 : Hid (RcL y1 y1.heap.size A l) := Lib.hid (G_w0.out.step hb)
    clear B_w0 G_w0
    have Q_y1 : Hid (CL bv y1 y1.heap.size A1 T) := Lib.hid (hT)
    have HC1 := Lib.hid hc1
    have HCODE := Lib.hid hcode
    clear hT hc1 hcode
    clear hb
    go_upto_region 4 with first
      | (refine S2.wpList_store_all (by rfl) 24 (.tmp 7) (.tmp 35) rfl rfl (y1.heap.size) rfl (sgC b1 n1 A1 T.length c1) rfl 24 (sgC 0 0 none 0 0) (BK.new y1 _ _) sgSize rfl (S2.all_one rfl) ?_; intro y2 hM hP; have hb : Below y1.heap.size y1 y2 := hP.below (S2.below_new y1 _) (Nat.le_refl _); have B_y2 : Hid (Below w0.heap.size w0 y2) := Lib.hid ((stepB B_y1.out hb)); have G_y2 : Hid (RcL y2 y2.heap.size A l) := Lib.hid (G_y1.out.step hb); have Q_y2 : Hid (CL bv y2 y2.heap.size A1 T) := Lib.hid (Q_y1.out.step hb); have S_y2 : Hid (BK 24 y2 (y1.heap.size) (sgC b1 n1 A1 T.length c1)) := Lib.hid hM; clear hM hP hb B_y1 G_y1 Q_y1)
    have s2 := S_y2.out.cell 2 rfl
    by_cases he : code ≠ 0
    · have hq : (code != 0) = true := by simp [he]
      go_wp2_with fail
      refine (awake32_any y2).mono ?_
      rintro e y3 ⟨rfl, hb⟩
      clear s2
      have B_y3 : Hid (Below w0.heap.size w0 y3) := Lib.hid ((stepB B_y2.out hb))
      have G_y3 : Hid (RcL y3 y3.heap.size A l) := Lib.hid (G_y2.out.step hb)
      have Q_y3 : Hid (CL bv y3 y3.heap.size A1 T) := Lib.hid (Q_y2.out.step hb)
      have S_y3 : Hid (BK 24 y3 (y1.heap.size) (sgC b1 n1 A1 T.length c1)) := Lib.hid (S_y2.out.step hb)
      clear B_y2 G_y2 Q_y2 S_y2
      clear hb
      go_wp2_with fail
      go_ret
      exact ⟨rfl, B_y3.out⟩
    obtain rfl : code = 0 := by omega
    by_cases hqt : T.length < q
    · have hq : (T.length : Int) < (q : Int) := by omega
      go_wp2_with fail
      refine (awake32_any y2).mono ?_
      rintro e y3 ⟨rfl, hb⟩
      clear s2
      have B_y3 : Hid (Below w0.heap.size w0 y3) := Lib.hid ((stepB B_y2.out hb))
      have G_y3 : Hid (RcL y3 y3.heap.size A l) := Lib.hid (G_y2.out.step hb)
      have Q_y3 : Hid (CL bv y3 y3.heap.size A1 T) := Lib.hid (Q_y2.out.step hb)
      have S_y3 : Hid (BK 24 y3 (y1.heap.size) (sgC b1 n1 A1 T.length c1)) := Lib.hid (S_y2.out.step hb)
      clear B_y2 G_y2 Q_y2 S_y2
      clear hb
      go_wp2_with fail
      go_ret
      exact ⟨rfl, B_y3.out⟩
    have hq : ¬ ((T.length : Int) < (q : Int)) := by omega
    obtain ⟨hb1, hn1, hT, hcon, hT6⟩ := HCODE.out rfl
    obtain rfl := hb1.symm
    clear HCODE
    obtain ⟨m, hm⟩ := WholeR.ex (renum base l) q
    have hcut := scR_cut hcon hm (by rw [← hT]; omega)
    rw [← hT] at hcut
    obtain ⟨A2, hs2, hcl2⟩ := slice_h A1 c1 T q (by omega) HC1.out
    have hlq : (T.take q).length = q := by rw [List.length_take]; omega
    have hcc := (flat_cut hT m).1
    have htt : (T.take q).take (flatR ((renum base l).take m)).length = flatR ((renum base l).take m) := by rw [List.take_take, Nat.min_eq_left hm.2.1]; exact hcc
    have HRV := Lib.hid (fun w h hcq => sRecover_any A2 c1 (T.take q) base w h hcq (by omega) (by omega) (by omega))
    unfold RetSV at HRV
    rw [hcut.1, hcut.2, htt] at HRV
    have hlen : ((renum base l).take m).length = m := by have := hm.1; rw [List.length_take]; omega
    rw [hlen] at HRV
    have hck0 := sgCk_of (base := base) (rs := (renum base l).take m) (by omega) (by omega) (hcon.take m) (by have := hm.2.1; omega)
    rw [hlen] at hck0
    have HCK := Lib.hid (fun A c w h hc => sCheck_any base (base + (m : Int)) A c (flatR ((renum base l).take m)) w h hc (by have := hm.2.1; omega))
    rw [hck0] at HCK
    obtain ⟨A6, hs6, hcl6⟩ := slice_h A1 c1 T (flatR ((renum base l).take m)).length (by have := hm.2.1; omega) HC1.out
    rw [hcc] at hs6 hcl6
    have HCL2 := Lib.hid hcl2
    have HCL6 := Lib.hid hcl6
    have HM := Lib.hid hm
    have HTQ := Lib.hid (show (T.take q).length ≤ c1 by have := HC1.out; omega)
    have hml : m ≤ 16 := by have := hm.1; rw [renum_len] at this; omega
    have hwm : wrap64 (base + (m : Int)) = base + (m : Int) := wrap64_id _ (by omega) (by omega)
    have hwmi : IntKind.i64.wrap (base + (m : Int)) = base + (m : Int) := wrap_i64_id _ (by omega) (by omega)
    have HTL := Lib.hid hT6
    have HWM := Lib.hid (And.intro hwm hwmi)
    clear hwm hwmi hcut hlq hcc htt hlen hck0 hcl2 hcl6 hm hcon hT hn1 hqt
    obtain ⟨TQ, hTQ⟩ : ∃ z, T.take q = z := ⟨_, rfl⟩
    rw [hTQ] at HRV HTQ HCL2 hs2
    clear hTQ
    go_wp2_with fail
    refine (HRV.out y2 (HCL2.out y2 _ Q_y2.out) HTQ.out).mono ?_
    rintro e y3 ⟨A5, c5, rfl, hc5, h5, hb⟩
    clear s2
    have B_y3 : Hid (Below w0.heap.size w0 y3) := Lib.hid ((stepB B_y2.out hb))
    have G_y3 : Hid (RcL y3 y3.heap.size A l) := Lib.hid (G_y2.out.step hb)
    have Q_y3 : Hid (CL bv y3 y3.heap.size A1 T) := Lib.hid (Q_y2.out.step hb)
    have S_y3 : Hid (BK 24 y3 (y1.heap.size) (sgC base n1 A1 T.length c1)) := Lib.hid (S_y2.out.step hb)
    clear B_y2 G_y2 Q_y2 S_y2
    have P_y3 : Hid (CL bv y3 y3.heap.size A5 (flatR ((renum base l).take m))) := Lib.hid (h5)
    have HC5 := Lib.hid hc5
    clear h5 hc5
    clear hb
    go_upto_region 7 with first
      | (refine S2.wpList_store_all (by rfl) 24 (.tmp 9) (.tmp 54) rfl rfl (y3.heap.size) rfl (sgC base (base + (m : Int)) A5 (flatR ((renum base l).take m)).length c5) rfl 24 (sgC 0 0 none 0 0) (BK.new y3 _ _) sgSize rfl (S2.all_one rfl) ?_; intro y4 hM hP; have hb : Below y3.heap.size y3 y4 := hP.below (S2.below_new y3 _) (Nat.le_refl _); have B_y4 : Hid (Below w0.heap.size w0 y4) := Lib.hid ((stepB B_y3.out hb)); have G_y4 : Hid (RcL y4 y4.heap.size A l) := Lib.hid (G_y3.out.step hb); have Q_y4 : Hid (CL bv y4 y4.heap.size A1 T) := Lib.hid (Q_y3.out.step hb); have S_y4 : Hid (BK 24 y4 (y1.heap.size) (sgC base n1 A1 T.length c1)) := Lib.hid (S_y3.out.step hb); have P_y4 : Hid (CL bv y4 y4.heap.size A5 (flatR ((renum base l).take m))) := Lib.hid (P_y3.out.step hb); have V_y4 : Hid (BK 24 y4 (y3.heap.size) (sgC base (base + (m : Int)) A5 (flatR ((renum base l).take m)).length c5)) := Lib.hid hM; clear hM hP hb B_y3 G_y3 Q_y3 S_y3 P_y3)
    go_wp2_with fail
    go_loopg [11, 12, 13] l.length (fun g v11 v12 v13 wr => ∃ k : Nat, k + g = l.length ∧ v13 = .int .i64 k ∧ v11 = .int .i64 k ∧ v12 = .int .i64 ((flatR ((renum base l).take k)).length : Int) ∧ (flatR ((renum base l).take k)).length ≤ q ∧ Below w0.heap.size w0 wr ∧ RcL wr wr.heap.size A l ∧ CL bv wr wr.heap.size A1 T ∧ BK 24 wr (y1.heap.size) (sgC base n1 A1 T.length c1) ∧ BK 24 wr (y3.heap.size) (sgC base (base + (m : Int)) A5 (flatR ((renum base l).take m)).length c5) ∧ CL bv wr wr.heap.size A5 (flatR ((renum base l).take m)))
    case atStart => exact ⟨0, by omega, rfl, rfl, by simp [flatR], by simp [flatR], B_y4.out, G_y4.out, Q_y4.out, S_y4.out, V_y4.out, P_y4.out⟩
    case round =>
      clear B_y4 G_y4 Q_y4 S_y4 V_y4 P_y4
      obtain ⟨k, hkg, rfl, rfl, rfl, hkq, h1, h2, h3, h4, h5, h6⟩ := hrel
      have B_wr := Lib.hid h1
      have G_wr := Lib.hid h2
      have Q_wr := Lib.hid h3
      have S_wr := Lib.hid h4
      have V_wr := Lib.hid h5
      have P_wr := Lib.hid h6
      have HK := Lib.hid hkg
      have HKQ := Lib.hid hkq
      clear h1 h2 h3 h4 h5 h6 hkq
      cases gk with
      | zero =>
        have hkm : k = m := (show WholeR (renum base l) q k from ⟨by rw [renum_len]; omega, HKQ.out, .inl (by rw [renum_len]; omega)⟩).same HM.out
        have e3 : ¬ ((k : Int) < (l.length : Int)) := by omega
        subst hkm
        obtain ⟨hwm, hwmi⟩ := HWM.out
        go_upto_region 16 with fail
        obtain ⟨z1, hz1⟩ : ∃ z1, z1 = World.drew wr := ⟨_, rfl⟩
        have hbD : Below wr.heap.size wr z1 := by rw [hz1]; exact (Below.refl _ _).drew
        have B_z1 : Hid (Below w0.heap.size w0 z1) := Lib.hid ((stepB B_wr.out hbD))
        have G_z1 : Hid (RcL z1 z1.heap.size A l) := Lib.hid (G_wr.out.step hbD)
        have Q_z1 : Hid (CL bv z1 z1.heap.size A1 T) := Lib.hid (Q_wr.out.step hbD)
        have S_z1 : Hid (BK 24 z1 (y1.heap.size) (sgC base n1 A1 T.length c1)) := Lib.hid (S_wr.out.step hbD)
        have V_z1 : Hid (BK 24 z1 (y3.heap.size) (sgC base (base + (k : Int)) A5 (flatR ((renum base l).take k)).length c5)) := Lib.hid (V_wr.out.step hbD)
        have P_z1 : Hid (CL bv z1 z1.heap.size A5 (flatR ((renum base l).take k))) := Lib.hid (P_wr.out.step hbD)
        clear B_wr G_wr Q_wr S_wr V_wr P_wr
        have hbd : (fun w' => BK 24 w' (y3.heap.size) (sgC base (base + (k : Int)) A5 (flatR ((renum base l).take k)).length c5) ∧ BK 24 w' (y1.heap.size) (sgC base n1 A1 T.length c1) ∧ CL bv w' w'.heap.size A5 (flatR ((renum base l).take k)) ∧ CL bv w' w'.heap.size A1 T) (World.drew wr) := by rw [← hz1]; exact ⟨V_z1.out, S_z1.out, P_z1.out, Q_z1.out⟩
        have hSD : (fun w' => BK 24 w' (y3.heap.size) (sgC base (base + (k : Int)) A5 (flatR ((renum base l).take k)).length c5) ∧ BK 24 w' (y1.heap.size) (sgC base n1 A1 T.length c1) ∧ CL bv w' w'.heap.size A5 (flatR ((renum base l).take k)) ∧ CL bv w' w'.heap.size A1 T) z1 := ⟨V_z1.out, S_z1.out, P_z1.out, Q_z1.out⟩
        have HWD := Lib.hid hz1
        clear hz1 hbD
        refine wp_region_held_drew (S := fun w' => BK 24 w' (y3.heap.size) (sgC base (base + (k : Int)) A5 (flatR ((renum base l).take k)).length c5) ∧ BK 24 w' (y1.heap.size) (sgC base n1 A1 T.length c1) ∧ CL bv w' w'.heap.size A5 (flatR ((renum base l).take k)) ∧ CL bv w' w'.heap.size A1 T) (by kernel_rfl) hbd (fun hHeld => ?_)
        rw [← HWD.out]
        clear hHeld
        have hHeld := hSD
        clear hSD hbd HWD
        refine wpAnyH_take (i := 0) (v := (.int .i64 ((flatR ((renum base l).take k)).length : Int))) (get_ops _ _ _ rfl) (by kernel_rfl) (by kernel_rfl) (by kernel_rfl) (fun _ _ _ h => h) (Or.inl ⟨by rfl, fun wS hSw => by (try dsimp only at hSw); go_simp⟩) hHeld ?_
        try simp only [Act.put, List.setIfInBounds_toArray, List.set_cons_zero, List.set_cons_succ]
        refine wpAnyH_take (i := 1) (v := (.int .i64 ((flatR ((renum base l).take k)).length : Int))) (get_ops _ _ _ rfl) (by kernel_rfl) (by kernel_rfl) (by kernel_rfl) (fun _ _ _ h => h) (Or.inl ⟨by rfl, fun wS hSw => by (try dsimp only at hSw); go_simp⟩) hHeld ?_
        try simp only [Act.put, List.setIfInBounds_toArray, List.set_cons_zero, List.set_cons_succ]
        refine wpAnyH_take (i := 2) (v := (.bool true)) (get_ops _ _ _ rfl) (by kernel_rfl) (by kernel_rfl) (by kernel_rfl) (fun _ _ _ h => h) (Or.inl ⟨by rfl, fun wS hSw => by (try dsimp only at hSw); go_simp⟩) hHeld ?_
        try simp only [Act.put, List.setIfInBounds_toArray, List.set_cons_zero, List.set_cons_succ]
        refine wpAnyH_take (i := 3) (v := (.bool true)) (get_ops _ _ _ rfl) (by kernel_rfl) (by kernel_rfl) (by kernel_rfl) (fun _ _ _ h => h) (Or.inl ⟨by rfl, fun wS hSw => by (try dsimp only at hSw); go_simp⟩) hHeld ?_
        try simp only [Act.put, List.setIfInBounds_toArray, List.set_cons_zero, List.set_cons_succ]
        refine wpAnyH_take (i := 4) (v := (.pointer (some ⟨y3.heap.size, 0, none⟩))) (get_ops _ _ _ rfl) (by kernel_rfl) (by kernel_rfl) (by kernel_rfl) (fun _ _ _ h => h) (Or.inl ⟨by rfl, fun wS hSw => by (try dsimp only at hSw); go_simp⟩) hHeld ?_
        try simp only [Act.put, List.setIfInBounds_toArray, List.set_cons_zero, List.set_cons_succ]
        refine wpAnyH_take (i := 5) (v := (.int .i64 base)) (get_ops _ _ _ rfl) (by kernel_rfl) (by kernel_rfl) (by kernel_rfl) (fun _ _ _ h => h) (Or.inl ⟨by rfl, fun wS hSw => by (try dsimp only at hSw); have cS := hSw.1.cell 0 rfl; clear hSw; go_simp⟩) hHeld ?_
        try simp only [Act.put, List.setIfInBounds_toArray, List.set_cons_zero, List.set_cons_succ]
        refine wpAnyH_take (i := 6) (v := (.int .i64 base)) (get_ops _ _ _ rfl) (by kernel_rfl) (by kernel_rfl) (by kernel_rfl) (fun _ _ _ h => h) (Or.inl ⟨by rfl, fun wS hSw => by (try dsimp only at hSw); go_simp⟩) hHeld ?_
        try simp only [Act.put, List.setIfInBounds_toArray, List.set_cons_zero, List.set_cons_succ]
        refine wpAnyH_take (i := 7) (v := (.bool true)) (get_ops _ _ _ rfl) (by kernel_rfl) (by kernel_rfl) (by kernel_rfl) (fun _ _ _ h => h) (Or.inl ⟨by rfl, fun wS hSw => by (try dsimp only at hSw); go_simp⟩) hHeld ?_
        try simp only [Act.put, List.setIfInBounds_toArray, List.set_cons_zero, List.set_cons_succ]
        refine wpAnyH_take (i := 8) (v := (.bool true)) (get_ops _ _ _ rfl) (by kernel_rfl) (by kernel_rfl) (by kernel_rfl) (fun _ _ _ h => h) (Or.inl ⟨by rfl, fun wS hSw => by (try dsimp only at hSw); go_simp⟩) hHeld ?_
        try simp only [Act.put, List.setIfInBounds_toArray, List.set_cons_zero, List.set_cons_succ]
        refine wpAnyH_take (i := 9) (v := (.bool true)) (get_ops _ _ _ rfl) (by kernel_rfl) (by kernel_rfl) (by kernel_rfl) (fun _ _ _ h => h) (Or.inl ⟨by rfl, fun wS hSw => by (try dsimp only at hSw); go_simp⟩) hHeld ?_
        try simp only [Act.put, List.setIfInBounds_toArray, List.set_cons_zero, List.set_cons_succ]
        refine wpAnyH_take (i := 10) (v := (.pointer (some ⟨y3.heap.size, 1, none⟩))) (get_ops _ _ _ rfl) (by kernel_rfl) (by kernel_rfl) (by kernel_rfl) (fun _ _ _ h => h) (Or.inl ⟨by rfl, fun wS hSw => by (try dsimp only at hSw); go_simp⟩) hHeld ?_
        try simp only [Act.put, List.setIfInBounds_toArray, List.set_cons_zero, List.set_cons_succ]
        refine wpAnyH_take (i := 11) (v := (.int .i64 (base + (k : Int)))) (get_ops _ _ _ rfl) (by kernel_rfl) (by kernel_rfl) (by kernel_rfl) (fun _ _ _ h => h) (Or.inl ⟨by rfl, fun wS hSw => by (try dsimp only at hSw); have cS := hSw.1.cell 1 rfl; clear hSw; go_simp⟩) hHeld ?_
        try simp only [Act.put, List.setIfInBounds_toArray, List.set_cons_zero, List.set_cons_succ]
        refine wpAnyH_take (i := 12) (v := (.int .i64 base)) (get_ops _ _ _ rfl) (by kernel_rfl) (by kernel_rfl) (by kernel_rfl) (fun _ _ _ h => h) (Or.inl ⟨by rfl, fun wS hSw => by (try dsimp only at hSw); go_simp⟩) hHeld ?_
        try simp only [Act.put, List.setIfInBounds_toArray, List.set_cons_zero, List.set_cons_succ]
        refine wpAnyH_take (i := 13) (v := (.int .i64 (k : Int))) (get_ops _ _ _ rfl) (by kernel_rfl) (by kernel_rfl) (by kernel_rfl) (fun _ _ _ h => h) (Or.inl ⟨by rfl, fun wS hSw => by (try dsimp only at hSw); go_simp⟩) hHeld ?_
        try simp only [Act.put, List.setIfInBounds_toArray, List.set_cons_zero, List.set_cons_succ]
        refine wpAnyH_take (i := 14) (v := (.int .i64 (base + (k : Int)))) (get_ops _ _ _ rfl) (by kernel_rfl) (by kernel_rfl) (by kernel_rfl) (fun _ _ _ h => h) (Or.inl ⟨by rfl, fun wS hSw => by (try dsimp only at hSw); first | (go_simp; done) | (go_simp; rw [hwmi]) | (go_simp; exact hwmi)⟩) hHeld ?_
        try simp only [Act.put, List.setIfInBounds_toArray, List.set_cons_zero, List.set_cons_succ]
        refine wpAnyH_take (i := 15) (v := (.bool true)) (get_ops _ _ _ rfl) (by kernel_rfl) (by kernel_rfl) (by kernel_rfl) (fun _ _ _ h => h) (Or.inl ⟨by rfl, fun wS hSw => by (try dsimp only at hSw); go_simp⟩) hHeld ?_
        try simp only [Act.put, List.setIfInBounds_toArray, List.set_cons_zero, List.set_cons_succ]
        refine wpAnyH_take (i := 16) (v := (.bool true)) (get_ops _ _ _ rfl) (by kernel_rfl) (by kernel_rfl) (by kernel_rfl) (fun _ _ _ h => h) (Or.inl ⟨by rfl, fun wS hSw => by (try dsimp only at hSw); go_simp⟩) hHeld ?_
        try simp only [Act.put, List.setIfInBounds_toArray, List.set_cons_zero, List.set_cons_succ]
        refine wpAnyH_take (i := 17) (v := (.bool true)) (get_ops _ _ _ rfl) (by kernel_rfl) (by kernel_rfl) (by kernel_rfl) (fun _ _ _ h => h) (Or.inl ⟨by rfl, fun wS hSw => by (try dsimp only at hSw); go_simp⟩) hHeld ?_
        try simp only [Act.put, List.setIfInBounds_toArray, List.set_cons_zero, List.set_cons_succ]
        refine wpAnyH_take (i := 18) (v := (.pointer (some ⟨y3.heap.size, 2, none⟩))) (get_ops _ _ _ rfl) (by kernel_rfl) (by kernel_rfl) (by kernel_rfl) (fun _ _ _ h => h) (Or.inl ⟨by rfl, fun wS hSw => by (try dsimp only at hSw); go_simp⟩) hHeld ?_
        try simp only [Act.put, List.setIfInBounds_toArray, List.set_cons_zero, List.set_cons_succ]
        refine wpAnyH_take (i := 19) (v := (.slice A5 (flatR ((renum base l).take k)).length c5)) (get_ops _ _ _ rfl) (by kernel_rfl) (by kernel_rfl) (by kernel_rfl) (fun _ _ _ h => h) (Or.inl ⟨by rfl, fun wS hSw => by (try dsimp only at hSw); have cS := hSw.1.cell 2 rfl; clear hSw; go_simp⟩) hHeld ?_
        try simp only [Act.put, List.setIfInBounds_toArray, List.set_cons_zero, List.set_cons_succ]
        refine wpAnyH_take (i := 20) (v := (.string (bs (flatR ((renum base l).take k))))) (get_ops _ _ _ rfl) (by kernel_rfl) (by kernel_rfl) (by kernel_rfl) (fun _ _ _ h => h) (Or.inl ⟨by rfl, fun wS hSw => by (try dsimp only at hSw); have cv := conv_str hSw.2.2.1 c5; clear hSw; go_simp⟩) hHeld ?_
        try simp only [Act.put, List.setIfInBounds_toArray, List.set_cons_zero, List.set_cons_succ]
        refine wpAnyH_take (i := 21) (v := (.pointer (some ⟨y1.heap.size, 2, none⟩))) (get_ops _ _ _ rfl) (by kernel_rfl) (by kernel_rfl) (by kernel_rfl) (fun _ _ _ h => h) (Or.inl ⟨by rfl, fun wS hSw => by (try dsimp only at hSw); go_simp⟩) hHeld ?_
        try simp only [Act.put, List.setIfInBounds_toArray, List.set_cons_zero, List.set_cons_succ]
        refine wpAnyH_take (i := 22) (v := (.slice A1 T.length c1)) (get_ops _ _ _ rfl) (by kernel_rfl) (by kernel_rfl) (by kernel_rfl) (fun _ _ _ h => h) (Or.inl ⟨by rfl, fun wS hSw => by (try dsimp only at hSw); have cS := hSw.2.1.cell 2 rfl; clear hSw; go_simp⟩) hHeld ?_
        try simp only [Act.put, List.setIfInBounds_toArray, List.set_cons_zero, List.set_cons_succ]
        refine wpAnyH_take (i := 23) (v := (.int .i64 ((flatR ((renum base l).take k)).length : Int))) (get_ops _ _ _ rfl) (by kernel_rfl) (by kernel_rfl) (by kernel_rfl) (fun _ _ _ h => h) (Or.inl ⟨by rfl, fun wS hSw => by (try dsimp only at hSw); go_simp⟩) hHeld ?_
        try simp only [Act.put, List.setIfInBounds_toArray, List.set_cons_zero, List.set_cons_succ]
        refine wpAnyH_take (i := 24) (v := (.slice A6 (flatR ((renum base l).take k)).length c1)) (get_ops _ _ _ rfl) (by kernel_rfl) (by kernel_rfl) (by kernel_rfl) (fun _ _ _ h => h) (Or.inl ⟨by rfl, fun wS hSw => by (try dsimp only at hSw); go_simp⟩) hHeld ?_
        try simp only [Act.put, List.setIfInBounds_toArray, List.set_cons_zero, List.set_cons_succ]
        refine wpAnyH_take (i := 25) (v := (.string (bs (flatR ((renum base l).take k))))) (get_ops _ _ _ rfl) (by kernel_rfl) (by kernel_rfl) (by kernel_rfl) (fun _ _ _ h => h) (Or.inl ⟨by rfl, fun wS hSw => by (try dsimp only at hSw); have cv := conv_str (HCL6.out _ _ hSw.2.2.2) c1; clear hSw; go_simp⟩) hHeld ?_
        try simp only [Act.put, List.setIfInBounds_toArray, List.set_cons_zero, List.set_cons_succ]
        refine wpAnyH_take (i := 26) (v := (.bool true)) (get_ops _ _ _ rfl) (by kernel_rfl) (by kernel_rfl) (by kernel_rfl) (fun _ _ _ h => h) (Or.inl ⟨by rfl, fun wS hSw => by (try dsimp only at hSw); go_simp⟩) hHeld ?_
        try simp only [Act.put, List.setIfInBounds_toArray, List.set_cons_zero, List.set_cons_succ]
        refine wpAnyH_take (i := 27) (v := (.bool true)) (get_ops _ _ _ rfl) (by kernel_rfl) (by kernel_rfl) (by kernel_rfl) (fun _ _ _ h => h) (Or.inl ⟨by rfl, fun wS hSw => by (try dsimp only at hSw); go_simp⟩) hHeld ?_
        try simp only [Act.put, List.setIfInBounds_toArray, List.set_cons_zero, List.set_cons_succ]
        refine wpAnyH_take (i := 28) (v := (.bool true)) (get_ops _ _ _ rfl) (by kernel_rfl) (by kernel_rfl) (by kernel_rfl) (fun _ _ _ h => h) (Or.inl ⟨by rfl, fun wS hSw => by (try dsimp only at hSw); go_simp⟩) hHeld ?_
        try simp only [Act.put, List.setIfInBounds_toArray, List.set_cons_zero, List.set_cons_succ]
        refine wpAnyH_take (i := 29) (v := (sgV base (base + (k : Int)) A5 (flatR ((renum base l).take k)).length c5)) (get_ops _ _ _ rfl) (by kernel_rfl) (by kernel_rfl) (by kernel_rfl) (fun _ _ _ h => h) (Or.inl ⟨by rfl, fun wS hSw => by (try dsimp only at hSw); have c0 := hSw.1.cell 0 rfl; have c1 := hSw.1.cell 1 rfl; have c2 := hSw.1.cell 2 rfl; clear hSw; go_simp; rfl⟩) hHeld ?_
        try simp only [Act.put, List.setIfInBounds_toArray, List.set_cons_zero, List.set_cons_succ]
        refine wpAnyH_ready (rs := [30]) (by kernel_rfl) (by simp) ?_
        refine (AllReadyH.cons (get_ops _ _ _ rfl) (fun K hK => ?_) AllReadyH.nil)
        go_simp
        refine (HCK.out A5 c5 z1 P_z1.out HC5.out).mono ?_
        rintro e z2 ⟨rfl, hb⟩
        have B_z2 : Hid (Below w0.heap.size w0 z2) := Lib.hid ((stepB B_z1.out hb))
        have G_z2 : Hid (RcL z2 z2.heap.size A l) := Lib.hid (G_z1.out.step hb)
        have Q_z2 : Hid (CL bv z2 z2.heap.size A1 T) := Lib.hid (Q_z1.out.step hb)
        have S_z2 : Hid (BK 24 z2 (y1.heap.size) (sgC base n1 A1 T.length c1)) := Lib.hid (S_z1.out.step hb)
        have V_z2 : Hid (BK 24 z2 (y3.heap.size) (sgC base (base + (k : Int)) A5 (flatR ((renum base l).take k)).length c5)) := Lib.hid (V_z1.out.step hb)
        have P_z2 : Hid (CL bv z2 z2.heap.size A5 (flatR ((renum base l).take k))) := Lib.hid (P_z1.out.step hb)
        clear B_z1 G_z1 Q_z1 S_z1 V_z1 P_z1
        clear hHeld hb
        go_wp2_with fail
        refine hK.out _ _ ⟨V_z2.out, S_z2.out, P_z2.out, Q_z2.out⟩ (fun hHeld => ?_)
        clear hK K
        try simp only [Act.put, List.setIfInBounds_toArray, List.set_cons_zero, List.set_cons_succ]
        refine wpAnyH_take (i := 31) (v := (.bool true)) (get_ops _ _ _ rfl) (by kernel_rfl) (by kernel_rfl) (by kernel_rfl) (fun _ _ _ h => h) (Or.inl ⟨by rfl, fun wS hSw => by (try dsimp only at hSw); go_simp⟩) hHeld ?_
        try simp only [Act.put, List.setIfInBounds_toArray, List.set_cons_zero, List.set_cons_succ]
        refine wpAnyH_take (i := 32) (v := (.bool true)) (get_ops _ _ _ rfl) (by kernel_rfl) (by kernel_rfl) (by kernel_rfl) (fun _ _ _ h => h) (Or.inl ⟨by rfl, fun wS hSw => by (try dsimp only at hSw); go_simp⟩) hHeld ?_
        try simp only [Act.put, List.setIfInBounds_toArray, List.set_cons_zero, List.set_cons_succ]
        refine wpAnyH_take (i := 33) (v := (.bool true)) (get_ops _ _ _ rfl) (by kernel_rfl) (by kernel_rfl) (by kernel_rfl) (fun _ _ _ h => h) (Or.inl ⟨by rfl, fun wS hSw => by (try dsimp only at hSw); go_simp⟩) hHeld ?_
        try simp only [Act.put, List.setIfInBounds_toArray, List.set_cons_zero, List.set_cons_succ]
        refine wpAnyH_ready (rs := [34]) (by kernel_rfl) (by simp) ?_
        refine (AllReadyH.cons (get_ops _ _ _ rfl) (fun K hK => ?_) AllReadyH.nil)
        go_simp
        refine (awake32_any z2).mono ?_
        rintro e z3 ⟨rfl, hb⟩
        have B_z3 : Hid (Below w0.heap.size w0 z3) := Lib.hid ((stepB B_z2.out hb))
        have G_z3 : Hid (RcL z3 z3.heap.size A l) := Lib.hid (G_z2.out.step hb)
        have Q_z3 : Hid (CL bv z3 z3.heap.size A1 T) := Lib.hid (Q_z2.out.step hb)
        have S_z3 : Hid (BK 24 z3 (y1.heap.size) (sgC base n1 A1 T.length c1)) := Lib.hid (S_z2.out.step hb)
        have V_z3 : Hid (BK 24 z3 (y3.heap.size) (sgC base (base + (k : Int)) A5 (flatR ((renum base l).take k)).length c5)) := Lib.hid (V_z2.out.step hb)
        have P_z3 : Hid (CL bv z3 z3.heap.size A5 (flatR ((renum base l).take k))) := Lib.hid (P_z2.out.step hb)
        clear B_z2 G_z2 Q_z2 S_z2 V_z2 P_z2
        clear hHeld hb
        go_wp2_with fail
        refine hK.out _ _ ⟨V_z3.out, S_z3.out, P_z3.out, Q_z3.out⟩ (fun hHeld => ?_)
        clear hK K
        try simp only [Act.put, List.setIfInBounds_toArray, List.set_cons_zero, List.set_cons_succ]
        refine wpAnyH_take (i := 35) (v := (.bool true)) (get_ops _ _ _ rfl) (by kernel_rfl) (by kernel_rfl) (by kernel_rfl) (fun _ _ _ h => h) (Or.inl ⟨by rfl, fun wS hSw => by (try dsimp only at hSw); go_simp⟩) hHeld ?_
        try simp only [Act.put, List.setIfInBounds_toArray, List.set_cons_zero, List.set_cons_succ]
        refine wpAnyH_take (i := 36) (v := (.bool true)) (get_ops _ _ _ rfl) (by kernel_rfl) (by kernel_rfl) (by kernel_rfl) (fun _ _ _ h => h) (Or.inl ⟨by rfl, fun wS hSw => by (try dsimp only at hSw); go_simp⟩) hHeld ?_
        try simp only [Act.put, List.setIfInBounds_toArray, List.set_cons_zero, List.set_cons_succ]
        refine wpAnyH_done (by kernel_rfl) ?_ _
        go_wp2_with fail
        go_ret
        exact ⟨rfl, B_z3.out⟩
      | succ g =>
        have hlt : k < l.length := by omega
        have e3 : (k : Int) < (l.length : Int) := by omega
        obtain ⟨x, hx⟩ : ∃ x, l[k]? = some x := ⟨_, List.getElem?_eq_getElem hlt⟩
        obtain ⟨b7, o7, hA7, hbB, hcx⟩ := GL.at4 G_wr.out hx
        subst hA7
        have j1 : (0 : Int) ≤ (k : Int) := by omega
        have X_wr : Hid (b7 < wr.heap.size ∧ ∀ i v, (rcC x)[i]? = some v → wr.cell? ⟨b7, o7 + k * 4 + i, none⟩ = some v) := Lib.hid ⟨hbB, hcx⟩
        have hxz := HSM.out x (List.mem_of_getElem? hx)
        have hry := renum_at (o := base) hx
        have hfn := flat_next hry
        have hfl := congrArg List.length hfn
        rw [List.length_append] at hfl
        have HSZ : Hid (∀ w, Calls Try.prog 27 #[.agg #[.int .i64 (base + (k : Int)), .int .i64 x.kind, .string x.key, .string x.val]] w fun e w' => e = .returned (.int .i64 ((rcEnc ⟨base + (k : Int), x.kind, x.key, x.val⟩).length : Int)) ∧ Below w.heap.size w w') := Lib.hid (fun w => rrSize_any ⟨base + (k : Int), x.kind, x.key, x.val⟩ w (by dsimp only; omega))
        have hwk : wrap64 (base + (k : Int)) = base + (k : Int) := wrap64_id _ (by omega) (by omega)
        have hwki : IntKind.i64.wrap (base + (k : Int)) = base + (k : Int) := wrap_i64_id _ (by omega) (by omega)
        have hle := flat_mono (renum base l) (a := k + 1) (b := l.length) (by omega)
        have hex : (rcEnc ⟨base + (k : Int), x.kind, x.key, x.val⟩).length ≤ 5000 := by
          by_cases hce : rcCk ⟨base + (k : Int), x.kind, x.key, x.val⟩ = 0
          · have := rcEnc_len hce; omega
          · rw [rcEnc_bad hce]; simp
        generalize (rcEnc ⟨base + (k : Int), x.kind, x.key, x.val⟩).length = ex at *
        have hkq := HKQ.out
        generalize hek : (flatR ((renum base l).take k)).length = ek at *
        have HFL := Lib.hid hfl
        have HEK := Lib.hid hek
        clear hx hcx hbB hry hfn hfl hle hek
        go_upto_region 12 with fail
        obtain ⟨z1, hz1⟩ : ∃ z1, z1 = World.drew wr := ⟨_, rfl⟩
        have hbD : Below wr.heap.size wr z1 := by rw [hz1]; exact (Below.refl _ _).drew
        have B_z1 : Hid (Below w0.heap.size w0 z1) := Lib.hid ((stepB B_wr.out hbD))
        have G_z1 : Hid (RcL z1 z1.heap.size (some ⟨b7, o7, none⟩) l) := Lib.hid (G_wr.out.step hbD)
        have Q_z1 : Hid (CL bv z1 z1.heap.size A1 T) := Lib.hid (Q_wr.out.step hbD)
        have S_z1 : Hid (BK 24 z1 (y1.heap.size) (sgC base n1 A1 T.length c1)) := Lib.hid (S_wr.out.step hbD)
        have V_z1 : Hid (BK 24 z1 (y3.heap.size) (sgC base (base + (m : Int)) A5 (flatR ((renum base l).take m)).length c5)) := Lib.hid (V_wr.out.step hbD)
        have P_z1 : Hid (CL bv z1 z1.heap.size A5 (flatR ((renum base l).take m))) := Lib.hid (P_wr.out.step hbD)
        have X_z1 : Hid ((b7 < z1.heap.size ∧ ∀ i v, (rcC x)[i]? = some v → z1.cell? ⟨b7, o7 + k * 4 + i, none⟩ = some v)) := Lib.hid (⟨Nat.lt_of_lt_of_le X_wr.out.1 hbD.size, fun i u hu => (hbD.cell (p := ⟨b7, o7 + k * 4 + i, none⟩) X_wr.out.1).trans (X_wr.out.2 i u hu)⟩)
        clear B_wr G_wr Q_wr S_wr V_wr P_wr X_wr
        have hbd : (fun w' => (b7 < w'.heap.size ∧ ∀ i v, (rcC x)[i]? = some v → w'.cell? ⟨b7, o7 + k * 4 + i, none⟩ = some v)) (World.drew wr) := by rw [← hz1]; exact X_z1.out
        have hSD : (fun w' => (b7 < w'.heap.size ∧ ∀ i v, (rcC x)[i]? = some v → w'.cell? ⟨b7, o7 + k * 4 + i, none⟩ = some v)) z1 := X_z1.out
        have HWD := Lib.hid hz1
        clear hz1 hbD
        refine wp_region_held_drew (S := fun w' => (b7 < w'.heap.size ∧ ∀ i v, (rcC x)[i]? = some v → w'.cell? ⟨b7, o7 + k * 4 + i, none⟩ = some v)) (by kernel_rfl) hbd (fun hHeld => ?_)
        rw [← HWD.out]
        clear hHeld
        have hHeld := hSD
        clear hSD hbd HWD
        refine wpAnyH_take (i := 0) (v := (.int .i64 base)) (get_ops _ _ _ rfl) (by kernel_rfl) (by kernel_rfl) (by kernel_rfl) (fun _ _ _ h => h) (Or.inl ⟨by rfl, fun wS hSw => by (try dsimp only at hSw); go_simp⟩) hHeld ?_
        try simp only [Act.put, List.setIfInBounds_toArray, List.set_cons_zero, List.set_cons_succ]
        refine wpAnyH_take (i := 1) (v := (.int .i64 (k : Int))) (get_ops _ _ _ rfl) (by kernel_rfl) (by kernel_rfl) (by kernel_rfl) (fun _ _ _ h => h) (Or.inl ⟨by rfl, fun wS hSw => by (try dsimp only at hSw); go_simp⟩) hHeld ?_
        try simp only [Act.put, List.setIfInBounds_toArray, List.set_cons_zero, List.set_cons_succ]
        refine wpAnyH_take (i := 2) (v := (.int .i64 (base + (k : Int)))) (get_ops _ _ _ rfl) (by kernel_rfl) (by kernel_rfl) (by kernel_rfl) (fun _ _ _ h => h) (Or.inl ⟨by rfl, fun wS hSw => by (try dsimp only at hSw); first | (go_simp; done) | (go_simp; rw [hwki]) | (go_simp; exact hwki)⟩) hHeld ?_
        try simp only [Act.put, List.setIfInBounds_toArray, List.set_cons_zero, List.set_cons_succ]
        refine wpAnyH_take (i := 3) (v := (.slice (some ⟨b7, o7, none⟩) l.length c)) (get_ops _ _ _ rfl) (by kernel_rfl) (by kernel_rfl) (by kernel_rfl) (fun _ _ _ h => h) (Or.inl ⟨by rfl, fun wS hSw => by (try dsimp only at hSw); go_simp⟩) hHeld ?_
        try simp only [Act.put, List.setIfInBounds_toArray, List.set_cons_zero, List.set_cons_succ]
        refine wpAnyH_take (i := 4) (v := (.int .i64 (k : Int))) (get_ops _ _ _ rfl) (by kernel_rfl) (by kernel_rfl) (by kernel_rfl) (fun _ _ _ h => h) (Or.inl ⟨by rfl, fun wS hSw => by (try dsimp only at hSw); go_simp⟩) hHeld ?_
        try simp only [Act.put, List.setIfInBounds_toArray, List.set_cons_zero, List.set_cons_succ]
        refine wpAnyH_take (i := 5) (v := (.pointer (some ⟨b7, o7 + k * 4, none⟩))) (get_ops _ _ _ rfl) (by kernel_rfl) (by kernel_rfl) (by kernel_rfl) (fun _ _ _ h => h) (Or.inl ⟨by rfl, fun wS hSw => by (try dsimp only at hSw); go_simp⟩) hHeld ?_
        try simp only [Act.put, List.setIfInBounds_toArray, List.set_cons_zero, List.set_cons_succ]
        refine wpAnyH_take (i := 6) (v := (.pointer (some ⟨b7, o7 + k * 4 + 1, none⟩))) (get_ops _ _ _ rfl) (by kernel_rfl) (by kernel_rfl) (by kernel_rfl) (fun _ _ _ h => h) (Or.inl ⟨by rfl, fun wS hSw => by (try dsimp only at hSw); go_simp⟩) hHeld ?_
        try simp only [Act.put, List.setIfInBounds_toArray, List.set_cons_zero, List.set_cons_succ]
        refine wpAnyH_take (i := 7) (v := (.int .i64 x.kind)) (get_ops _ _ _ rfl) (by kernel_rfl) (by kernel_rfl) (by kernel_rfl) (fun _ _ _ h => h) (Or.inl ⟨by rfl, fun wS hSw => by (try dsimp only at hSw); have cS := hSw.2 1 _ rfl; clear hSw; go_simp⟩) hHeld ?_
        try simp only [Act.put, List.setIfInBounds_toArray, List.set_cons_zero, List.set_cons_succ]
        refine wpAnyH_take (i := 8) (v := (.slice (some ⟨b7, o7, none⟩) l.length c)) (get_ops _ _ _ rfl) (by kernel_rfl) (by kernel_rfl) (by kernel_rfl) (fun _ _ _ h => h) (Or.inl ⟨by rfl, fun wS hSw => by (try dsimp only at hSw); go_simp⟩) hHeld ?_
        try simp only [Act.put, List.setIfInBounds_toArray, List.set_cons_zero, List.set_cons_succ]
        refine wpAnyH_take (i := 9) (v := (.int .i64 (k : Int))) (get_ops _ _ _ rfl) (by kernel_rfl) (by kernel_rfl) (by kernel_rfl) (fun _ _ _ h => h) (Or.inl ⟨by rfl, fun wS hSw => by (try dsimp only at hSw); go_simp⟩) hHeld ?_
        try simp only [Act.put, List.setIfInBounds_toArray, List.set_cons_zero, List.set_cons_succ]
        refine wpAnyH_take (i := 10) (v := (.pointer (some ⟨b7, o7 + k * 4, none⟩))) (get_ops _ _ _ rfl) (by kernel_rfl) (by kernel_rfl) (by kernel_rfl) (fun _ _ _ h => h) (Or.inl ⟨by rfl, fun wS hSw => by (try dsimp only at hSw); go_simp⟩) hHeld ?_
        try simp only [Act.put, List.setIfInBounds_toArray, List.set_cons_zero, List.set_cons_succ]
        refine wpAnyH_take (i := 11) (v := (.pointer (some ⟨b7, o7 + k * 4 + 2, none⟩))) (get_ops _ _ _ rfl) (by kernel_rfl) (by kernel_rfl) (by kernel_rfl) (fun _ _ _ h => h) (Or.inl ⟨by rfl, fun wS hSw => by (try dsimp only at hSw); go_simp⟩) hHeld ?_
        try simp only [Act.put, List.setIfInBounds_toArray, List.set_cons_zero, List.set_cons_succ]
        refine wpAnyH_take (i := 12) (v := (.string x.key)) (get_ops _ _ _ rfl) (by kernel_rfl) (by kernel_rfl) (by kernel_rfl) (fun _ _ _ h => h) (Or.inl ⟨by rfl, fun wS hSw => by (try dsimp only at hSw); have cS := hSw.2 2 _ rfl; clear hSw; go_simp⟩) hHeld ?_
        try simp only [Act.put, List.setIfInBounds_toArray, List.set_cons_zero, List.set_cons_succ]
        refine wpAnyH_take (i := 13) (v := (.slice (some ⟨b7, o7, none⟩) l.length c)) (get_ops _ _ _ rfl) (by kernel_rfl) (by kernel_rfl) (by kernel_rfl) (fun _ _ _ h => h) (Or.inl ⟨by rfl, fun wS hSw => by (try dsimp only at hSw); go_simp⟩) hHeld ?_
        try simp only [Act.put, List.setIfInBounds_toArray, List.set_cons_zero, List.set_cons_succ]
        refine wpAnyH_take (i := 14) (v := (.int .i64 (k : Int))) (get_ops _ _ _ rfl) (by kernel_rfl) (by kernel_rfl) (by kernel_rfl) (fun _ _ _ h => h) (Or.inl ⟨by rfl, fun wS hSw => by (try dsimp only at hSw); go_simp⟩) hHeld ?_
        try simp only [Act.put, List.setIfInBounds_toArray, List.set_cons_zero, List.set_cons_succ]
        refine wpAnyH_take (i := 15) (v := (.pointer (some ⟨b7, o7 + k * 4, none⟩))) (get_ops _ _ _ rfl) (by kernel_rfl) (by kernel_rfl) (by kernel_rfl) (fun _ _ _ h => h) (Or.inl ⟨by rfl, fun wS hSw => by (try dsimp only at hSw); go_simp⟩) hHeld ?_
        try simp only [Act.put, List.setIfInBounds_toArray, List.set_cons_zero, List.set_cons_succ]
        refine wpAnyH_take (i := 16) (v := (.pointer (some ⟨b7, o7 + k * 4 + 3, none⟩))) (get_ops _ _ _ rfl) (by kernel_rfl) (by kernel_rfl) (by kernel_rfl) (fun _ _ _ h => h) (Or.inl ⟨by rfl, fun wS hSw => by (try dsimp only at hSw); go_simp⟩) hHeld ?_
        try simp only [Act.put, List.setIfInBounds_toArray, List.set_cons_zero, List.set_cons_succ]
        refine wpAnyH_take (i := 17) (v := (.string x.val)) (get_ops _ _ _ rfl) (by kernel_rfl) (by kernel_rfl) (by kernel_rfl) (fun _ _ _ h => h) (Or.inl ⟨by rfl, fun wS hSw => by (try dsimp only at hSw); have cS := hSw.2 3 _ rfl; clear hSw; go_simp⟩) hHeld ?_
        try simp only [Act.put, List.setIfInBounds_toArray, List.set_cons_zero, List.set_cons_succ]
        refine wpAnyH_take (i := 18) (v := (.agg #[.int .i64 (base + (k : Int)), .int .i64 x.kind, .string x.key, .string x.val])) (get_ops _ _ _ rfl) (by kernel_rfl) (by kernel_rfl) (by kernel_rfl) (fun _ _ _ h => h) (Or.inl ⟨by rfl, fun wS hSw => by (try dsimp only at hSw); go_simp⟩) hHeld ?_
        try simp only [Act.put, List.setIfInBounds_toArray, List.set_cons_zero, List.set_cons_succ]
        refine wpAnyH_ready (rs := [19]) (by kernel_rfl) (by simp) ?_
        refine (AllReadyH.cons (get_ops _ _ _ rfl) (fun K hK => ?_) AllReadyH.nil)
        go_simp
        refine (HSZ.out z1).mono ?_
        rintro e z2 ⟨rfl, hb⟩
        have B_z2 : Hid (Below w0.heap.size w0 z2) := Lib.hid ((stepB B_z1.out hb))
        have G_z2 : Hid (RcL z2 z2.heap.size (some ⟨b7, o7, none⟩) l) := Lib.hid (G_z1.out.step hb)
        have Q_z2 : Hid (CL bv z2 z2.heap.size A1 T) := Lib.hid (Q_z1.out.step hb)
        have S_z2 : Hid (BK 24 z2 (y1.heap.size) (sgC base n1 A1 T.length c1)) := Lib.hid (S_z1.out.step hb)
        have V_z2 : Hid (BK 24 z2 (y3.heap.size) (sgC base (base + (m : Int)) A5 (flatR ((renum base l).take m)).length c5)) := Lib.hid (V_z1.out.step hb)
        have P_z2 : Hid (CL bv z2 z2.heap.size A5 (flatR ((renum base l).take m))) := Lib.hid (P_z1.out.step hb)
        have X_z2 : Hid ((b7 < z2.heap.size ∧ ∀ i v, (rcC x)[i]? = some v → z2.cell? ⟨b7, o7 + k * 4 + i, none⟩ = some v)) := Lib.hid (⟨Nat.lt_of_lt_of_le X_z1.out.1 hb.size, fun i u hu => (hb.cell (p := ⟨b7, o7 + k * 4 + i, none⟩) X_z1.out.1).trans (X_z1.out.2 i u hu)⟩)
        clear B_z1 G_z1 Q_z1 S_z1 V_z1 P_z1 X_z1
        clear hHeld hb
        go_wp2_with fail
        refine hK.out _ _ X_z2.out (fun hHeld => ?_)
        clear hK K
        try simp only [Act.put, List.setIfInBounds_toArray, List.set_cons_zero, List.set_cons_succ]
        refine wpAnyH_take (i := 20) (v := (.int .i64 (ex : Int))) (get_ops _ _ _ rfl) (by kernel_rfl) (by kernel_rfl) (by kernel_rfl) (fun _ _ _ h => h) (Or.inl ⟨by rfl, fun wS hSw => by (try dsimp only at hSw); go_simp⟩) hHeld ?_
        try simp only [Act.put, List.setIfInBounds_toArray, List.set_cons_zero, List.set_cons_succ]
        refine wpAnyH_done (by kernel_rfl) ?_ _
        clear hwk hwki
        have hw1 : wrap64 ((ek : Int) + (ex : Int)) = (ek : Int) + (ex : Int) := wrap64_id _ (by have := HTL.out; omega) (by have := HTL.out; omega)
        by_cases hgt : q < ek + ex
        · have hgt2 : (q : Int) < (ek : Int) + (ex : Int) := by have h := Int.ofNat_lt.2 hgt; rwa [Int.natCast_add] at h
          have hgt3 : decide ((q : Int) < (ek : Int) + (ex : Int)) = true := decide_eq_true hgt2
          have hkm : k = m := (show WholeR (renum base l) q k from ⟨by rw [renum_len]; omega, (by rw [HEK.out]; exact HKQ.out), .inr (by rw [HFL.out]; exact hgt)⟩).same HM.out
          clear hkq
          clear X_z2
          have hek := HEK.out
          subst hek
          subst hkm
          obtain ⟨hwm, hwmi⟩ := HWM.out
          go_upto_region 16 with fail
          obtain ⟨u1, hu1⟩ : ∃ u1, u1 = World.drew z2 := ⟨_, rfl⟩
          have hbD : Below z2.heap.size z2 u1 := by rw [hu1]; exact (Below.refl _ _).drew
          have B_u1 : Hid (Below w0.heap.size w0 u1) := Lib.hid ((stepB B_z2.out hbD))
          have G_u1 : Hid (RcL u1 u1.heap.size (some ⟨b7, o7, none⟩) l) := Lib.hid (G_z2.out.step hbD)
          have Q_u1 : Hid (CL bv u1 u1.heap.size A1 T) := Lib.hid (Q_z2.out.step hbD)
          have S_u1 : Hid (BK 24 u1 (y1.heap.size) (sgC base n1 A1 T.length c1)) := Lib.hid (S_z2.out.step hbD)
          have V_u1 : Hid (BK 24 u1 (y3.heap.size) (sgC base (base + (k : Int)) A5 (flatR ((renum base l).take k)).length c5)) := Lib.hid (V_z2.out.step hbD)
          have P_u1 : Hid (CL bv u1 u1.heap.size A5 (flatR ((renum base l).take k))) := Lib.hid (P_z2.out.step hbD)
          clear B_z2 G_z2 Q_z2 S_z2 V_z2 P_z2
          have hbd : (fun w' => BK 24 w' (y3.heap.size) (sgC base (base + (k : Int)) A5 (flatR ((renum base l).take k)).length c5) ∧ BK 24 w' (y1.heap.size) (sgC base n1 A1 T.length c1) ∧ CL bv w' w'.heap.size A5 (flatR ((renum base l).take k)) ∧ CL bv w' w'.heap.size A1 T) (World.drew z2) := by rw [← hu1]; exact ⟨V_u1.out, S_u1.out, P_u1.out, Q_u1.out⟩
          have hSD : (fun w' => BK 24 w' (y3.heap.size) (sgC base (base + (k : Int)) A5 (flatR ((renum base l).take k)).length c5) ∧ BK 24 w' (y1.heap.size) (sgC base n1 A1 T.length c1) ∧ CL bv w' w'.heap.size A5 (flatR ((renum base l).take k)) ∧ CL bv w' w'.heap.size A1 T) u1 := ⟨V_u1.out, S_u1.out, P_u1.out, Q_u1.out⟩
          have HWD := Lib.hid hu1
          clear hu1 hbD
          refine wp_region_held_drew (S := fun w' => BK 24 w' (y3.heap.size) (sgC base (base + (k : Int)) A5 (flatR ((renum base l).take k)).length c5) ∧ BK 24 w' (y1.heap.size) (sgC base n1 A1 T.length c1) ∧ CL bv w' w'.heap.size A5 (flatR ((renum base l).take k)) ∧ CL bv w' w'.heap.size A1 T) (by kernel_rfl) hbd (fun hHeld => ?_)
          rw [← HWD.out]
          clear hHeld
          have hHeld := hSD
          clear hSD hbd HWD
          refine wpAnyH_take (i := 0) (v := (.int .i64 ((flatR ((renum base l).take k)).length : Int))) (get_ops _ _ _ rfl) (by kernel_rfl) (by kernel_rfl) (by kernel_rfl) (fun _ _ _ h => h) (Or.inl ⟨by rfl, fun wS hSw => by (try dsimp only at hSw); go_simp⟩) hHeld ?_
          try simp only [Act.put, List.setIfInBounds_toArray, List.set_cons_zero, List.set_cons_succ]
          refine wpAnyH_take (i := 1) (v := (.int .i64 ((flatR ((renum base l).take k)).length : Int))) (get_ops _ _ _ rfl) (by kernel_rfl) (by kernel_rfl) (by kernel_rfl) (fun _ _ _ h => h) (Or.inl ⟨by rfl, fun wS hSw => by (try dsimp only at hSw); go_simp⟩) hHeld ?_
          try simp only [Act.put, List.setIfInBounds_toArray, List.set_cons_zero, List.set_cons_succ]
          refine wpAnyH_take (i := 2) (v := (.bool true)) (get_ops _ _ _ rfl) (by kernel_rfl) (by kernel_rfl) (by kernel_rfl) (fun _ _ _ h => h) (Or.inl ⟨by rfl, fun wS hSw => by (try dsimp only at hSw); go_simp⟩) hHeld ?_
          try simp only [Act.put, List.setIfInBounds_toArray, List.set_cons_zero, List.set_cons_succ]
          refine wpAnyH_take (i := 3) (v := (.bool true)) (get_ops _ _ _ rfl) (by kernel_rfl) (by kernel_rfl) (by kernel_rfl) (fun _ _ _ h => h) (Or.inl ⟨by rfl, fun wS hSw => by (try dsimp only at hSw); go_simp⟩) hHeld ?_
          try simp only [Act.put, List.setIfInBounds_toArray, List.set_cons_zero, List.set_cons_succ]
          refine wpAnyH_take (i := 4) (v := (.pointer (some ⟨y3.heap.size, 0, none⟩))) (get_ops _ _ _ rfl) (by kernel_rfl) (by kernel_rfl) (by kernel_rfl) (fun _ _ _ h => h) (Or.inl ⟨by rfl, fun wS hSw => by (try dsimp only at hSw); go_simp⟩) hHeld ?_
          try simp only [Act.put, List.setIfInBounds_toArray, List.set_cons_zero, List.set_cons_succ]
          refine wpAnyH_take (i := 5) (v := (.int .i64 base)) (get_ops _ _ _ rfl) (by kernel_rfl) (by kernel_rfl) (by kernel_rfl) (fun _ _ _ h => h) (Or.inl ⟨by rfl, fun wS hSw => by (try dsimp only at hSw); have cS := hSw.1.cell 0 rfl; clear hSw; go_simp⟩) hHeld ?_
          try simp only [Act.put, List.setIfInBounds_toArray, List.set_cons_zero, List.set_cons_succ]
          refine wpAnyH_take (i := 6) (v := (.int .i64 base)) (get_ops _ _ _ rfl) (by kernel_rfl) (by kernel_rfl) (by kernel_rfl) (fun _ _ _ h => h) (Or.inl ⟨by rfl, fun wS hSw => by (try dsimp only at hSw); go_simp⟩) hHeld ?_
          try simp only [Act.put, List.setIfInBounds_toArray, List.set_cons_zero, List.set_cons_succ]
          refine wpAnyH_take (i := 7) (v := (.bool true)) (get_ops _ _ _ rfl) (by kernel_rfl) (by kernel_rfl) (by kernel_rfl) (fun _ _ _ h => h) (Or.inl ⟨by rfl, fun wS hSw => by (try dsimp only at hSw); go_simp⟩) hHeld ?_
          try simp only [Act.put, List.setIfInBounds_toArray, List.set_cons_zero, List.set_cons_succ]
          refine wpAnyH_take (i := 8) (v := (.bool true)) (get_ops _ _ _ rfl) (by kernel_rfl) (by kernel_rfl) (by kernel_rfl) (fun _ _ _ h => h) (Or.inl ⟨by rfl, fun wS hSw => by (try dsimp only at hSw); go_simp⟩) hHeld ?_
          try simp only [Act.put, List.setIfInBounds_toArray, List.set_cons_zero, List.set_cons_succ]
          refine wpAnyH_take (i := 9) (v := (.bool true)) (get_ops _ _ _ rfl) (by kernel_rfl) (by kernel_rfl) (by kernel_rfl) (fun _ _ _ h => h) (Or.inl ⟨by rfl, fun wS hSw => by (try dsimp only at hSw); go_simp⟩) hHeld ?_
          try simp only [Act.put, List.setIfInBounds_toArray, List.set_cons_zero, List.set_cons_succ]
          refine wpAnyH_take (i := 10) (v := (.pointer (some ⟨y3.heap.size, 1, none⟩))) (get_ops _ _ _ rfl) (by kernel_rfl) (by kernel_rfl) (by kernel_rfl) (fun _ _ _ h => h) (Or.inl ⟨by rfl, fun wS hSw => by (try dsimp only at hSw); go_simp⟩) hHeld ?_
          try simp only [Act.put, List.setIfInBounds_toArray, List.set_cons_zero, List.set_cons_succ]
          refine wpAnyH_take (i := 11) (v := (.int .i64 (base + (k : Int)))) (get_ops _ _ _ rfl) (by kernel_rfl) (by kernel_rfl) (by kernel_rfl) (fun _ _ _ h => h) (Or.inl ⟨by rfl, fun wS hSw => by (try dsimp only at hSw); have cS := hSw.1.cell 1 rfl; clear hSw; go_simp⟩) hHeld ?_
          try simp only [Act.put, List.setIfInBounds_toArray, List.set_cons_zero, List.set_cons_succ]
          refine wpAnyH_take (i := 12) (v := (.int .i64 base)) (get_ops _ _ _ rfl) (by kernel_rfl) (by kernel_rfl) (by kernel_rfl) (fun _ _ _ h => h) (Or.inl ⟨by rfl, fun wS hSw => by (try dsimp only at hSw); go_simp⟩) hHeld ?_
          try simp only [Act.put, List.setIfInBounds_toArray, List.set_cons_zero, List.set_cons_succ]
          refine wpAnyH_take (i := 13) (v := (.int .i64 (k : Int))) (get_ops _ _ _ rfl) (by kernel_rfl) (by kernel_rfl) (by kernel_rfl) (fun _ _ _ h => h) (Or.inl ⟨by rfl, fun wS hSw => by (try dsimp only at hSw); go_simp⟩) hHeld ?_
          try simp only [Act.put, List.setIfInBounds_toArray, List.set_cons_zero, List.set_cons_succ]
          refine wpAnyH_take (i := 14) (v := (.int .i64 (base + (k : Int)))) (get_ops _ _ _ rfl) (by kernel_rfl) (by kernel_rfl) (by kernel_rfl) (fun _ _ _ h => h) (Or.inl ⟨by rfl, fun wS hSw => by (try dsimp only at hSw); first | (go_simp; done) | (go_simp; rw [hwmi]) | (go_simp; exact hwmi)⟩) hHeld ?_
          try simp only [Act.put, List.setIfInBounds_toArray, List.set_cons_zero, List.set_cons_succ]
          refine wpAnyH_take (i := 15) (v := (.bool true)) (get_ops _ _ _ rfl) (by kernel_rfl) (by kernel_rfl) (by kernel_rfl) (fun _ _ _ h => h) (Or.inl ⟨by rfl, fun wS hSw => by (try dsimp only at hSw); go_simp⟩) hHeld ?_
          try simp only [Act.put, List.setIfInBounds_toArray, List.set_cons_zero, List.set_cons_succ]
          refine wpAnyH_take (i := 16) (v := (.bool true)) (get_ops _ _ _ rfl) (by kernel_rfl) (by kernel_rfl) (by kernel_rfl) (fun _ _ _ h => h) (Or.inl ⟨by rfl, fun wS hSw => by (try dsimp only at hSw); go_simp⟩) hHeld ?_
          try simp only [Act.put, List.setIfInBounds_toArray, List.set_cons_zero, List.set_cons_succ]
          refine wpAnyH_take (i := 17) (v := (.bool true)) (get_ops _ _ _ rfl) (by kernel_rfl) (by kernel_rfl) (by kernel_rfl) (fun _ _ _ h => h) (Or.inl ⟨by rfl, fun wS hSw => by (try dsimp only at hSw); go_simp⟩) hHeld ?_
          try simp only [Act.put, List.setIfInBounds_toArray, List.set_cons_zero, List.set_cons_succ]
          refine wpAnyH_take (i := 18) (v := (.pointer (some ⟨y3.heap.size, 2, none⟩))) (get_ops _ _ _ rfl) (by kernel_rfl) (by kernel_rfl) (by kernel_rfl) (fun _ _ _ h => h) (Or.inl ⟨by rfl, fun wS hSw => by (try dsimp only at hSw); go_simp⟩) hHeld ?_
          try simp only [Act.put, List.setIfInBounds_toArray, List.set_cons_zero, List.set_cons_succ]
          refine wpAnyH_take (i := 19) (v := (.slice A5 (flatR ((renum base l).take k)).length c5)) (get_ops _ _ _ rfl) (by kernel_rfl) (by kernel_rfl) (by kernel_rfl) (fun _ _ _ h => h) (Or.inl ⟨by rfl, fun wS hSw => by (try dsimp only at hSw); have cS := hSw.1.cell 2 rfl; clear hSw; go_simp⟩) hHeld ?_
          try simp only [Act.put, List.setIfInBounds_toArray, List.set_cons_zero, List.set_cons_succ]
          refine wpAnyH_take (i := 20) (v := (.string (bs (flatR ((renum base l).take k))))) (get_ops _ _ _ rfl) (by kernel_rfl) (by kernel_rfl) (by kernel_rfl) (fun _ _ _ h => h) (Or.inl ⟨by rfl, fun wS hSw => by (try dsimp only at hSw); have cv := conv_str hSw.2.2.1 c5; clear hSw; go_simp⟩) hHeld ?_
          try simp only [Act.put, List.setIfInBounds_toArray, List.set_cons_zero, List.set_cons_succ]
          refine wpAnyH_take (i := 21) (v := (.pointer (some ⟨y1.heap.size, 2, none⟩))) (get_ops _ _ _ rfl) (by kernel_rfl) (by kernel_rfl) (by kernel_rfl) (fun _ _ _ h => h) (Or.inl ⟨by rfl, fun wS hSw => by (try dsimp only at hSw); go_simp⟩) hHeld ?_
          try simp only [Act.put, List.setIfInBounds_toArray, List.set_cons_zero, List.set_cons_succ]
          refine wpAnyH_take (i := 22) (v := (.slice A1 T.length c1)) (get_ops _ _ _ rfl) (by kernel_rfl) (by kernel_rfl) (by kernel_rfl) (fun _ _ _ h => h) (Or.inl ⟨by rfl, fun wS hSw => by (try dsimp only at hSw); have cS := hSw.2.1.cell 2 rfl; clear hSw; go_simp⟩) hHeld ?_
          try simp only [Act.put, List.setIfInBounds_toArray, List.set_cons_zero, List.set_cons_succ]
          refine wpAnyH_take (i := 23) (v := (.int .i64 ((flatR ((renum base l).take k)).length : Int))) (get_ops _ _ _ rfl) (by kernel_rfl) (by kernel_rfl) (by kernel_rfl) (fun _ _ _ h => h) (Or.inl ⟨by rfl, fun wS hSw => by (try dsimp only at hSw); go_simp⟩) hHeld ?_
          try simp only [Act.put, List.setIfInBounds_toArray, List.set_cons_zero, List.set_cons_succ]
          refine wpAnyH_take (i := 24) (v := (.slice A6 (flatR ((renum base l).take k)).length c1)) (get_ops _ _ _ rfl) (by kernel_rfl) (by kernel_rfl) (by kernel_rfl) (fun _ _ _ h => h) (Or.inl ⟨by rfl, fun wS hSw => by (try dsimp only at hSw); go_simp⟩) hHeld ?_
          try simp only [Act.put, List.setIfInBounds_toArray, List.set_cons_zero, List.set_cons_succ]
          refine wpAnyH_take (i := 25) (v := (.string (bs (flatR ((renum base l).take k))))) (get_ops _ _ _ rfl) (by kernel_rfl) (by kernel_rfl) (by kernel_rfl) (fun _ _ _ h => h) (Or.inl ⟨by rfl, fun wS hSw => by (try dsimp only at hSw); have cv := conv_str (HCL6.out _ _ hSw.2.2.2) c1; clear hSw; go_simp⟩) hHeld ?_
          try simp only [Act.put, List.setIfInBounds_toArray, List.set_cons_zero, List.set_cons_succ]
          refine wpAnyH_take (i := 26) (v := (.bool true)) (get_ops _ _ _ rfl) (by kernel_rfl) (by kernel_rfl) (by kernel_rfl) (fun _ _ _ h => h) (Or.inl ⟨by rfl, fun wS hSw => by (try dsimp only at hSw); go_simp⟩) hHeld ?_
          try simp only [Act.put, List.setIfInBounds_toArray, List.set_cons_zero, List.set_cons_succ]
          refine wpAnyH_take (i := 27) (v := (.bool true)) (get_ops _ _ _ rfl) (by kernel_rfl) (by kernel_rfl) (by kernel_rfl) (fun _ _ _ h => h) (Or.inl ⟨by rfl, fun wS hSw => by (try dsimp only at hSw); go_simp⟩) hHeld ?_
          try simp only [Act.put, List.setIfInBounds_toArray, List.set_cons_zero, List.set_cons_succ]
          refine wpAnyH_take (i := 28) (v := (.bool true)) (get_ops _ _ _ rfl) (by kernel_rfl) (by kernel_rfl) (by kernel_rfl) (fun _ _ _ h => h) (Or.inl ⟨by rfl, fun wS hSw => by (try dsimp only at hSw); go_simp⟩) hHeld ?_
          try simp only [Act.put, List.setIfInBounds_toArray, List.set_cons_zero, List.set_cons_succ]
          refine wpAnyH_take (i := 29) (v := (sgV base (base + (k : Int)) A5 (flatR ((renum base l).take k)).length c5)) (get_ops _ _ _ rfl) (by kernel_rfl) (by kernel_rfl) (by kernel_rfl) (fun _ _ _ h => h) (Or.inl ⟨by rfl, fun wS hSw => by (try dsimp only at hSw); have c0 := hSw.1.cell 0 rfl; have c1 := hSw.1.cell 1 rfl; have c2 := hSw.1.cell 2 rfl; clear hSw; go_simp; rfl⟩) hHeld ?_
          try simp only [Act.put, List.setIfInBounds_toArray, List.set_cons_zero, List.set_cons_succ]
          refine wpAnyH_ready (rs := [30]) (by kernel_rfl) (by simp) ?_
          refine (AllReadyH.cons (get_ops _ _ _ rfl) (fun K hK => ?_) AllReadyH.nil)
          go_simp
          refine (HCK.out A5 c5 u1 P_u1.out HC5.out).mono ?_
          rintro e u2 ⟨rfl, hb⟩
          have B_u2 : Hid (Below w0.heap.size w0 u2) := Lib.hid ((stepB B_u1.out hb))
          have G_u2 : Hid (RcL u2 u2.heap.size (some ⟨b7, o7, none⟩) l) := Lib.hid (G_u1.out.step hb)
          have Q_u2 : Hid (CL bv u2 u2.heap.size A1 T) := Lib.hid (Q_u1.out.step hb)
          have S_u2 : Hid (BK 24 u2 (y1.heap.size) (sgC base n1 A1 T.length c1)) := Lib.hid (S_u1.out.step hb)
          have V_u2 : Hid (BK 24 u2 (y3.heap.size) (sgC base (base + (k : Int)) A5 (flatR ((renum base l).take k)).length c5)) := Lib.hid (V_u1.out.step hb)
          have P_u2 : Hid (CL bv u2 u2.heap.size A5 (flatR ((renum base l).take k))) := Lib.hid (P_u1.out.step hb)
          clear B_u1 G_u1 Q_u1 S_u1 V_u1 P_u1
          clear hHeld hb
          go_wp2_with fail
          refine hK.out _ _ ⟨V_u2.out, S_u2.out, P_u2.out, Q_u2.out⟩ (fun hHeld => ?_)
          clear hK K
          try simp only [Act.put, List.setIfInBounds_toArray, List.set_cons_zero, List.set_cons_succ]
          refine wpAnyH_take (i := 31) (v := (.bool true)) (get_ops _ _ _ rfl) (by kernel_rfl) (by kernel_rfl) (by kernel_rfl) (fun _ _ _ h => h) (Or.inl ⟨by rfl, fun wS hSw => by (try dsimp only at hSw); go_simp⟩) hHeld ?_
          try simp only [Act.put, List.setIfInBounds_toArray, List.set_cons_zero, List.set_cons_succ]
          refine wpAnyH_take (i := 32) (v := (.bool true)) (get_ops _ _ _ rfl) (by kernel_rfl) (by kernel_rfl) (by kernel_rfl) (fun _ _ _ h => h) (Or.inl ⟨by rfl, fun wS hSw => by (try dsimp only at hSw); go_simp⟩) hHeld ?_
          try simp only [Act.put, List.setIfInBounds_toArray, List.set_cons_zero, List.set_cons_succ]
          refine wpAnyH_take (i := 33) (v := (.bool true)) (get_ops _ _ _ rfl) (by kernel_rfl) (by kernel_rfl) (by kernel_rfl) (fun _ _ _ h => h) (Or.inl ⟨by rfl, fun wS hSw => by (try dsimp only at hSw); go_simp⟩) hHeld ?_
          try simp only [Act.put, List.setIfInBounds_toArray, List.set_cons_zero, List.set_cons_succ]
          refine wpAnyH_ready (rs := [34]) (by kernel_rfl) (by simp) ?_
          refine (AllReadyH.cons (get_ops _ _ _ rfl) (fun K hK => ?_) AllReadyH.nil)
          go_simp
          refine (awake32_any u2).mono ?_
          rintro e u3 ⟨rfl, hb⟩
          have B_u3 : Hid (Below w0.heap.size w0 u3) := Lib.hid ((stepB B_u2.out hb))
          have G_u3 : Hid (RcL u3 u3.heap.size (some ⟨b7, o7, none⟩) l) := Lib.hid (G_u2.out.step hb)
          have Q_u3 : Hid (CL bv u3 u3.heap.size A1 T) := Lib.hid (Q_u2.out.step hb)
          have S_u3 : Hid (BK 24 u3 (y1.heap.size) (sgC base n1 A1 T.length c1)) := Lib.hid (S_u2.out.step hb)
          have V_u3 : Hid (BK 24 u3 (y3.heap.size) (sgC base (base + (k : Int)) A5 (flatR ((renum base l).take k)).length c5)) := Lib.hid (V_u2.out.step hb)
          have P_u3 : Hid (CL bv u3 u3.heap.size A5 (flatR ((renum base l).take k))) := Lib.hid (P_u2.out.step hb)
          clear B_u2 G_u2 Q_u2 S_u2 V_u2 P_u2
          clear hHeld hb
          go_wp2_with fail
          refine hK.out _ _ ⟨V_u3.out, S_u3.out, P_u3.out, Q_u3.out⟩ (fun hHeld => ?_)
          clear hK K
          try simp only [Act.put, List.setIfInBounds_toArray, List.set_cons_zero, List.set_cons_succ]
          refine wpAnyH_take (i := 35) (v := (.bool true)) (get_ops _ _ _ rfl) (by kernel_rfl) (by kernel_rfl) (by kernel_rfl) (fun _ _ _ h => h) (Or.inl ⟨by rfl, fun wS hSw => by (try dsimp only at hSw); go_simp⟩) hHeld ?_
          try simp only [Act.put, List.setIfInBounds_toArray, List.set_cons_zero, List.set_cons_succ]
          refine wpAnyH_take (i := 36) (v := (.bool true)) (get_ops _ _ _ rfl) (by kernel_rfl) (by kernel_rfl) (by kernel_rfl) (fun _ _ _ h => h) (Or.inl ⟨by rfl, fun wS hSw => by (try dsimp only at hSw); go_simp⟩) hHeld ?_
          try simp only [Act.put, List.setIfInBounds_toArray, List.set_cons_zero, List.set_cons_succ]
          refine wpAnyH_done (by kernel_rfl) ?_ _
          go_wp2_with fail
          go_ret
          exact ⟨rfl, B_u3.out⟩
        have hgt2 : ¬ ((q : Int) < (ek : Int) + (ex : Int)) := fun h => hgt (Int.ofNat_lt.1 (by rw [Int.natCast_add]; exact h))
        have hgt3 : decide ((q : Int) < (ek : Int) + (ex : Int)) = false := decide_eq_false hgt2
        clear hgt2
        have HGT := Lib.hid hgt
        clear hgt hkq
        go_wp2_with fail
        clear hgt3
        go_roundg g
        case measure => exact Nat.lt_succ_self _
        case rel => exact ⟨k + 1, by have := HK.out; omega, by go_num, by go_num, by rw [HFL.out]; first | go_num | (rw [hw1]; rfl), by rw [HFL.out]; exact Nat.le_of_not_lt HGT.out, B_z2.out, G_z2.out, Q_z2.out, S_z2.out, V_z2.out, P_z2.out⟩
end Go.Proofs.Ytbmeimpfehjnfaa
