/-
  Truncate of segment and of the specification. Conditions: a valid segment of at most 65536 bytes; the numbers fit an int.
-/
import Derived.Test.YtbmeimpfehjnfaaSgD
namespace Go.Proofs.Ytbmeimpfehjnfaa
open Go.RowKit
open S2 (BK Put get_ops exec_load)

/-- how many records lie below an offset, as far as i -/
def TrP (rs : List Rc) (f : Int) (i m : Nat) : Prop := m ≤ i ∧ (∀ j r, j < m → rs[j]? = some r → r.off < f) ∧ (m = i ∨ ∃ r, rs[m]? = some r ∧ f ≤ r.off)
theorem TrP.same {rs : List Rc} {f : Int} {i m m' : Nat} (h : TrP rs f i m) (h' : TrP rs f i m') : m = m' := by
  have key : ∀ {a b : Nat}, TrP rs f i a → TrP rs f i b → ¬ a < b := fun {a b} ha hb hlt => by
    rcases ha.2.2 with h1 | ⟨r, hr, hf⟩
    · have := hb.1; omega
    · have := hb.2.1 a r hlt hr; omega
  have h1 := key h h'
  have h2 := key h' h
  omega
theorem TrP.more {rs : List Rc} {f : Int} {k : Nat} {x : Rc} (h : ∀ j r, j < k → rs[j]? = some r → r.off < f) (hx : rs[k]? = some x) (hf : x.off < f) : ∀ j r, j < k + 1 → rs[j]? = some r → r.off < f := fun j r hj hr => by
  by_cases hjk : j = k
  · subst hjk; rw [hx] at hr; cases hr; exact hf
  · exact h j r (by omega) hr
theorem flat_cut {l : List UInt8} {rs : List Rc} (h : l = flatR rs) (k : Nat) : l.take (flatR (rs.take k)).length = flatR (rs.take k) ∧ (flatR (rs.take k)).length ≤ l.length := by
  have e : l = flatR (rs.take k) ++ flatR (rs.drop k) := by rw [← flatR_app, List.take_append_drop]; exact h
  constructor
  · conv => lhs; rw [e]
    rw [List.take_left]
  · have := congrArg List.length e
    rw [List.length_append] at this
    omega
theorem flat_next {rs : List Rc} {k : Nat} {x : Rc} (hx : rs[k]? = some x) : flatR (rs.take (k + 1)) = flatR (rs.take k) ++ rcEnc x := by
  rw [List.take_add_one, hx, flatR_app]
  simp [flatR]
theorem scR_valid {l : List UInt8} {b : Int} {rs : List Rc} (h : scR l b = (rs, l.length, 0)) : ConsR b rs ∧ l = flatR rs := by
  have hi := (scR_fin l b).1
  rw [h] at hi
  have h3 := hi.2.2.1
  rw [List.drop_length, List.append_nil] at h3
  exact ⟨hi.2.2.2.2.1, h3⟩
/-- what Truncate answers -/
def RetTr (b f : Int) (rs : List Rc) (W : World) (e : Ending) (w' : World) : Prop :=
  ∃ k A c, TrP rs f rs.length k ∧ e = .returned (sgV b (b + (k : Int)) A (flatR (rs.take k)).length c) ∧ (flatR (rs.take k)).length ≤ c ∧ CL bv w' w'.heap.size A (flatR (rs.take k)) ∧ Below W.heap.size W w'

set_option maxRecDepth 20000 in
set_option maxHeartbeats 8000000 in
theorem sTruncate_any (b n : Int) (A : Option Addr) (c : Nat) (l : List UInt8) (rs : List Rc) (f : Int) (w : World) (hsl : CL bv w w.heap.size A l) (hc : l.length ≤ c) (hn : l.length ≤ 65536) (hv : scR l b = (rs, l.length, 0)) (hb1 : 0 ≤ b) (hb2 : b ≤ 1099511627776) :
    Calls Try.prog 21 #[sgV b n A l.length c, .int .i64 f] w (RetTr b f rs w) := by
  have HR := Lib.hid (fun w h => sRecords_any b n A c l w h hc hn (by omega) (by omega))
  rw [hv] at HR
  dsimp only at HR
  obtain ⟨hcon, hflat⟩ := scR_valid hv
  have hrl := flatR_len hcon
  rw [← hflat] at hrl
  have HCON := Lib.hid hcon
  have HFL := Lib.hid (fun k => flat_cut hflat k)
  have HSL := Lib.hid hsl
  have HN := Lib.hid hn
  have HC := Lib.hid hc
  clear hsl hc hcon hflat hv
  unfold sgV
  go_enter Try.func21, Try.ntmps21
  go_upto_region 1 with fail
  refine name_world (C := fun w1 => Code.wp _ _ _ _ w1) ((w.alloc (.cells (sgC b n A l.length c).toArray 24)).alloc (.cells (sgC 0 0 none 0 0).toArray 24)) ?_
  intro w1 hw1
  obtain ⟨e1, e2, hz1, hb1⟩ := S2.two_laid hw1
  have E_w1 := Lib.hid e1
  have R_w1 := Lib.hid e2
  have B_w1 := Lib.hid hb1
  have S_w1 := Lib.hid (HSL.out.step hb1)
  clear hw1 e1 e2 hz1 hb1 HSL
  have k0 := E_w1.out.cell 0 rfl
  have k1 := E_w1.out.cell 1 rfl
  have k2 := E_w1.out.cell 2 rfl
  go_upto_region 2 with fail
  go_wp2_with fail
  refine (HR.out w1 S_w1.out).mono ?_
  rintro e y1 ⟨v, rfl, own, hb⟩
  clear k0 k1 k2
  have E_y1 : Hid (BK 24 y1 w.heap.size (sgC b n A l.length c)) := Lib.hid (E_w1.out.step hb)
  have R_y1 : Hid (BK 24 y1 (w.heap.size + 1) (sgC 0 0 none 0 0)) := Lib.hid (R_w1.out.step hb)
  have B_y1 : Hid (Below w.heap.size w y1) := Lib.hid ((stepB B_w1.out hb))
  have S_y1 : Hid (CL bv y1 y1.heap.size A l) := Lib.hid (S_w1.out.step hb)
  clear E_w1 R_w1 B_w1 S_w1
  obtain ⟨A7, c7, rfl, _, gl7⟩ := own.ret rcC_len
  have G_y1 : Hid (RcL y1 y1.heap.size A7 rs) := Lib.hid (gl7)
  clear own gl7
  clear hb
  go_wp2_with fail
  go_loopg [5, 6, 14] rs.length (fun g v5 v6 v14 wr => ∃ k : Nat, k + g = rs.length ∧ v5 = .int .i64 (b + (k : Int)) ∧ v6 = .int .i64 ((flatR (rs.take k)).length : Int) ∧ v14 = .int .i64 k ∧ (∀ j r, j < k → rs[j]? = some r → r.off < f) ∧ BK 24 wr w.heap.size (sgC b n A l.length c) ∧ BK 24 wr (w.heap.size + 1) (sgC 0 0 none 0 0) ∧ Below w.heap.size w wr ∧ CL bv wr wr.heap.size A l ∧ RcL wr wr.heap.size A7 rs)
  case atStart => exact ⟨0, by omega, by simp, by simp [flatR], rfl, fun j r hj => by omega, E_y1.out, R_y1.out, B_y1.out, S_y1.out, G_y1.out⟩
  case round =>
    clear E_y1 R_y1 B_y1 S_y1 G_y1
    obtain ⟨k, hkg, rfl, rfl, rfl, htr, h1, h2, h3, h4, h5⟩ := hrel
    have E_wr := Lib.hid h1
    have R_wr := Lib.hid h2
    have B_wr := Lib.hid h3
    have S_wr := Lib.hid h4
    have G_wr := Lib.hid h5
    have HT := Lib.hid htr
    have HK := Lib.hid hkg
    clear h1 h2 h3 h4 h5 htr
    cases gk with
    | zero =>
      obtain rfl : k = rs.length := by omega
      have e3 : ¬ ((rs.length : Int) < (rs.length : Int)) := by omega
      obtain ⟨hfc, hfl⟩ := HFL.out rs.length
      obtain ⟨A4, hs4, hcl4⟩ := slice_h A c l (flatR (rs.take rs.length)).length hfl HC.out
      rw [hfc] at hs4 hcl4
      have HTR : Hid (TrP rs f rs.length rs.length) := Lib.hid ⟨Nat.le_refl _, HT.out, .inl rfl⟩
      have HTK : Hid (∃ T, T = flatR (rs.take rs.length)) := Lib.hid ⟨_, rfl⟩
      have HCL4 := Lib.hid hcl4
      have HTL := Lib.hid hfl
      clear hfc hcl4 hfl
      generalize hT : flatR (rs.take rs.length) = T at *
      have HTT := Lib.hid hT
      clear hT
      go_upto_region 9 with fail
      obtain ⟨z1, hz1⟩ : ∃ z1, z1 = World.drew wr := ⟨_, rfl⟩
      have hbD : Below wr.heap.size wr z1 := by rw [hz1]; exact (Below.refl _ _).drew
      have E_z1 : Hid (BK 24 z1 w.heap.size (sgC b n A l.length c)) := Lib.hid (E_wr.out.step hbD)
      have R_z1 : Hid (BK 24 z1 (w.heap.size + 1) (sgC 0 0 none 0 0)) := Lib.hid (R_wr.out.step hbD)
      have B_z1 : Hid (Below w.heap.size w z1) := Lib.hid ((stepB B_wr.out hbD))
      have S_z1 : Hid (CL bv z1 z1.heap.size A l) := Lib.hid (S_wr.out.step hbD)
      have G_z1 : Hid (RcL z1 z1.heap.size A7 rs) := Lib.hid (G_wr.out.step hbD)
      clear E_wr R_wr B_wr S_wr G_wr
      have hbd : (fun w' => BK 24 w' w.heap.size (sgC b n A l.length c)) (World.drew wr) := by rw [← hz1]; exact E_z1.out
      have hSD : (fun w' => BK 24 w' w.heap.size (sgC b n A l.length c)) z1 := E_z1.out
      have HWD := Lib.hid hz1
      clear hz1 hbD
      refine wp_region_held_drew (S := fun w' => BK 24 w' w.heap.size (sgC b n A l.length c)) (by kernel_rfl) hbd (fun hHeld => ?_)
      rw [← HWD.out]
      clear hHeld
      have hHeld := hSD
      clear hSD hbd HWD
      refine wpAnyH_take (i := 0) (v := (.pointer (some ⟨w.heap.size, 0, none⟩))) (get_ops _ _ _ rfl) (by kernel_rfl) (by kernel_rfl) (by kernel_rfl) (fun _ _ _ h => h) (Or.inl ⟨by rfl, fun wS hSw => by (try dsimp only at hSw); go_simp⟩) hHeld ?_
      try simp only [Act.put, List.setIfInBounds_toArray, List.set_cons_zero, List.set_cons_succ]
      refine wpAnyH_take (i := 1) (v := (.int .i64 b)) (get_ops _ _ _ rfl) (by kernel_rfl) (by kernel_rfl) (by kernel_rfl) (fun _ _ _ h => h) (Or.inl ⟨by rfl, fun wS hSw => by (try dsimp only at hSw); have cS := hSw.cell 0 rfl; clear hSw; go_simp⟩) hHeld ?_
      try simp only [Act.put, List.setIfInBounds_toArray, List.set_cons_zero, List.set_cons_succ]
      refine wpAnyH_take (i := 2) (v := (.int .i64 (b + (rs.length : Int)))) (get_ops _ _ _ rfl) (by kernel_rfl) (by kernel_rfl) (by kernel_rfl) (fun _ _ _ h => h) (Or.inl ⟨by rfl, fun wS hSw => by (try dsimp only at hSw); go_simp⟩) hHeld ?_
      try simp only [Act.put, List.setIfInBounds_toArray, List.set_cons_zero, List.set_cons_succ]
      refine wpAnyH_take (i := 3) (v := (.pointer (some ⟨w.heap.size, 2, none⟩))) (get_ops _ _ _ rfl) (by kernel_rfl) (by kernel_rfl) (by kernel_rfl) (fun _ _ _ h => h) (Or.inl ⟨by rfl, fun wS hSw => by (try dsimp only at hSw); go_simp⟩) hHeld ?_
      try simp only [Act.put, List.setIfInBounds_toArray, List.set_cons_zero, List.set_cons_succ]
      refine wpAnyH_take (i := 4) (v := (.slice A l.length c)) (get_ops _ _ _ rfl) (by kernel_rfl) (by kernel_rfl) (by kernel_rfl) (fun _ _ _ h => h) (Or.inl ⟨by rfl, fun wS hSw => by (try dsimp only at hSw); have cS := hSw.cell 2 rfl; clear hSw; go_simp⟩) hHeld ?_
      try simp only [Act.put, List.setIfInBounds_toArray, List.set_cons_zero, List.set_cons_succ]
      refine wpAnyH_take (i := 5) (v := (.int .i64 (T.length : Int))) (get_ops _ _ _ rfl) (by kernel_rfl) (by kernel_rfl) (by kernel_rfl) (fun _ _ _ h => h) (Or.inl ⟨by rfl, fun wS hSw => by (try dsimp only at hSw); go_simp⟩) hHeld ?_
      try simp only [Act.put, List.setIfInBounds_toArray, List.set_cons_zero, List.set_cons_succ]
      refine wpAnyH_take (i := 6) (v := (.slice A4 T.length c)) (get_ops _ _ _ rfl) (by kernel_rfl) (by kernel_rfl) (by kernel_rfl) (fun _ _ _ h => h) (Or.inl ⟨by rfl, fun wS hSw => by (try dsimp only at hSw); go_simp⟩) hHeld ?_
      try simp only [Act.put, List.setIfInBounds_toArray, List.set_cons_zero, List.set_cons_succ]
      refine wpAnyH_ready (rs := [7]) (by kernel_rfl) (by simp) ?_
      refine (AllReadyH.cons (get_ops _ _ _ rfl) (fun K hK => ?_) AllReadyH.nil)
      have ZQ : Hid (w.heap.size + 1 < z1.heap.size) := Lib.hid R_z1.out.lt
      go_simp
      refine (cloneB_any A4 c T z1 (HCL4.out z1 _ S_z1.out) (by have := HN.out; have := HTL.out; omega)).mono ?_
      rintro e z2 ⟨v9, rfl, own9, hb⟩
      have E_z2 : Hid (BK 24 z2 w.heap.size (sgC b n A l.length c)) := Lib.hid (E_z1.out.step hb)
      have R_z2 : Hid (BK 24 z2 (w.heap.size + 1) (sgC 0 0 none 0 0)) := Lib.hid (R_z1.out.step hb)
      have B_z2 : Hid (Below w.heap.size w z2) := Lib.hid ((stepB B_z1.out hb))
      have S_z2 : Hid (CL bv z2 z2.heap.size A l) := Lib.hid (S_z1.out.step hb)
      have G_z2 : Hid (RcL z2 z2.heap.size A7 rs) := Lib.hid (G_z1.out.step hb)
      clear E_z1 R_z1 B_z1 S_z1 G_z1
      obtain ⟨A9, c9, rfl, hc9, _⟩ := own9.ret
      have O_z2 := Lib.hid own9
      clear own9
      clear hHeld hb
      go_wp2_with fail
      refine hK.out _ _ E_z2.out (fun hHeld => ?_)
      clear hK K
      try simp only [Act.put, List.setIfInBounds_toArray, List.set_cons_zero, List.set_cons_succ]
      refine wpAnyH_take (i := 8) (v := (.agg #[.int .i64 b, .int .i64 (b + (rs.length : Int)), .slice A9 T.length c9])) (get_ops _ _ _ rfl) (by kernel_rfl) (by kernel_rfl) (by kernel_rfl) (fun _ _ _ h => h) (Or.inl ⟨by rfl, fun wS hSw => by (try dsimp only at hSw); go_simp⟩) hHeld ?_
      try simp only [Act.put, List.setIfInBounds_toArray, List.set_cons_zero, List.set_cons_succ]
      refine wpAnyH_ready (rs := [9]) (by kernel_rfl) (by simp) ?_
      refine (AllReadyH.cons (get_ops _ _ _ rfl) (fun K hK => ?_) AllReadyH.nil)
      refine S2.wp_store_all 24 _ _ rfl rfl (w.heap.size + 1) (by go_simp) (sgC b (b + (rs.length : Int)) A9 T.length c9) (by first | rfl | go_simp) 24 (sgC 0 0 none 0 0) R_z2.out sgSize rfl (S2.all_one rfl) ?_
      intro z3 hM hP
      have R_z3 : Hid (BK 24 z3 (w.heap.size + 1) (sgC b (b + (rs.length : Int)) A9 T.length c9)) := Lib.hid (hM)
      have E_z3 : Hid (BK 24 z3 w.heap.size (sgC b n A l.length c)) := Lib.hid (hP.other E_z2.out (by omega))
      have B_z3 : Hid (Below w.heap.size w z3) := Lib.hid (hP.below B_z2.out (Nat.le_succ _))
      have O_z3 : Hid (Own 5 bv z3 z1.heap.size (.slice A9 T.length c9) T) := Lib.hid (Own.put O_z2.out hP ZQ.out)
      clear E_z2 R_z2 B_z2 S_z2 G_z2 O_z2
      clear hM hP hHeld
      refine hK.out _ _ E_z3.out (fun hHeld => ?_)
      clear hK K
      try simp only [Act.put, List.setIfInBounds_toArray, List.set_cons_zero, List.set_cons_succ]
      refine wpAnyH_done (by kernel_rfl) ?_ _
      go_wp2_with fail
      exact bodyPost_ret (v := sgV b (b + (rs.length : Int)) A9 T.length c9) (S2.res_cell rfl _ _ (w.heap.size + 1) 24 (sgC b (b + (rs.length : Int)) A9 T.length c9) _ rfl R_z3.out Try.underlying24 rfl sgSize) rfl ⟨rs.length, A9, c9, HTR.out, (by rw [HTT.out]), (by rw [HTT.out]; exact hc9), (by rw [HTT.out]; obtain ⟨A8, c8, e8, _, h8⟩ := O_z3.out.ret; cases e8; exact h8), B_z3.out⟩
    | succ g =>
      have hlt : k < rs.length := by omega
      have e3 : (k : Int) < (rs.length : Int) := by omega
      obtain ⟨x, hx⟩ : ∃ x, rs[k]? = some x := ⟨_, List.getElem?_eq_getElem hlt⟩
      obtain ⟨b7, o7, hA7, hbB, hcx⟩ := GL.at4 G_wr.out hx
      subst hA7
      have j1 : (0 : Int) ≤ (k : Int) := by omega
      have HX := Lib.hid hx
      have HCX := Lib.hid hcx
      have hxo := (HCON.out.at_ hx).1
      have HXO := Lib.hid hxo
      have hxk := (rcCk_ok (HCON.out.at_ hx).2).2
      clear hx hcx hxo
      go_upto_region 5 with first
        | (refine wpList_load_v (by rfl) 32 (.tmp 16) rfl ⟨b7, o7 + k * 4, none⟩ (by first | rfl | (simp [Act.eval]; done) | go_simp) (rcV x) (run_load_cells _ b7 (o7 + k * 4) (rcC x) 32 _ (fun i v hv => (S2.below_new wr _).cell (p := ⟨b7, o7 + k * 4 + i, none⟩) hbB |>.trans (HCX.out i v hv)) Try.underlying32 rfl rcSize) ?_)
        | (refine wpList_load_v (by rfl) 32 (.tmp 16) rfl ⟨b7, o7 + k * 4, none⟩ (by first | rfl | (simp [Act.eval]; done) | go_simp) (rcV x) (run_load_cells _ b7 (o7 + k * 4) (rcC x) 32 _ (fun i v hv => HCX.out i v hv) Try.underlying32 rfl rcSize) ?_)
        | (refine S2.wpList_store_all (by rfl) 32 (.tmp 8) (.tmp 17) rfl rfl (wr.heap.size) rfl (rcC x) rfl 32 (rcC rcZ) (BK.new wr _ _) rcSize rfl (S2.all_one rfl) ?_; intro y1 hM hP; have hb : Below wr.heap.size wr y1 := hP.below (S2.below_new wr _) (Nat.le_refl _); have E_y1 : Hid (BK 24 y1 w.heap.size (sgC b n A l.length c)) := Lib.hid (E_wr.out.step hb); have R_y1 : Hid (BK 24 y1 (w.heap.size + 1) (sgC 0 0 none 0 0)) := Lib.hid (R_wr.out.step hb); have B_y1 : Hid (Below w.heap.size w y1) := Lib.hid ((stepB B_wr.out hb)); have S_y1 : Hid (CL bv y1 y1.heap.size A l) := Lib.hid (S_wr.out.step hb); have G_y1 : Hid (RcL y1 y1.heap.size (some ⟨b7, o7, none⟩) rs) := Lib.hid (G_wr.out.step hb); have X_y1 : Hid (BK 32 y1 (wr.heap.size) (rcC x)) := Lib.hid hM; clear hM hP hb E_wr R_wr B_wr S_wr G_wr)
      clear HCX hbB
      have m0 := X_y1.out.cell 0 rfl
      have m1 := X_y1.out.cell 1 rfl
      have m2 := X_y1.out.cell 2 rfl
      have m3 := X_y1.out.cell 3 rfl
      by_cases hf : f ≤ x.off
      · have hf1 : f ≤ x.off := hf
        clear m1 m2 m3 X_y1
        obtain ⟨hfc, hfl⟩ := HFL.out k
        obtain ⟨A4, hs4, hcl4⟩ := slice_h A c l (flatR (rs.take k)).length hfl HC.out
        rw [hfc] at hs4 hcl4
        have HTR : Hid (TrP rs f rs.length k) := Lib.hid ⟨by omega, HT.out, .inr ⟨x, HX.out, hf⟩⟩
        have HTK : Hid (∃ T, T = flatR (rs.take k)) := Lib.hid ⟨_, rfl⟩
        have HCL4 := Lib.hid hcl4
        have HTL := Lib.hid hfl
        clear hfc hcl4 hfl
        generalize hT : flatR (rs.take k) = T at *
        have HTT := Lib.hid hT
        clear hT
        go_upto_region 9 with fail
        obtain ⟨z1, hz1⟩ : ∃ z1, z1 = World.drew y1 := ⟨_, rfl⟩
        have hbD : Below y1.heap.size y1 z1 := by rw [hz1]; exact (Below.refl _ _).drew
        have E_z1 : Hid (BK 24 z1 w.heap.size (sgC b n A l.length c)) := Lib.hid (E_y1.out.step hbD)
        have R_z1 : Hid (BK 24 z1 (w.heap.size + 1) (sgC 0 0 none 0 0)) := Lib.hid (R_y1.out.step hbD)
        have B_z1 : Hid (Below w.heap.size w z1) := Lib.hid ((stepB B_y1.out hbD))
        have S_z1 : Hid (CL bv z1 z1.heap.size A l) := Lib.hid (S_y1.out.step hbD)
        have G_z1 : Hid (RcL z1 z1.heap.size (some ⟨b7, o7, none⟩) rs) := Lib.hid (G_y1.out.step hbD)
        clear E_y1 R_y1 B_y1 S_y1 G_y1
        have hbd : (fun w' => BK 24 w' w.heap.size (sgC b n A l.length c)) (World.drew y1) := by rw [← hz1]; exact E_z1.out
        have hSD : (fun w' => BK 24 w' w.heap.size (sgC b n A l.length c)) z1 := E_z1.out
        have HWD := Lib.hid hz1
        clear hz1 hbD
        refine wp_region_held_drew (S := fun w' => BK 24 w' w.heap.size (sgC b n A l.length c)) (by kernel_rfl) hbd (fun hHeld => ?_)
        rw [← HWD.out]
        clear hHeld
        have hHeld := hSD
        clear hSD hbd HWD
        refine wpAnyH_take (i := 0) (v := (.pointer (some ⟨w.heap.size, 0, none⟩))) (get_ops _ _ _ rfl) (by kernel_rfl) (by kernel_rfl) (by kernel_rfl) (fun _ _ _ h => h) (Or.inl ⟨by rfl, fun wS hSw => by (try dsimp only at hSw); go_simp⟩) hHeld ?_
        try simp only [Act.put, List.setIfInBounds_toArray, List.set_cons_zero, List.set_cons_succ]
        refine wpAnyH_take (i := 1) (v := (.int .i64 b)) (get_ops _ _ _ rfl) (by kernel_rfl) (by kernel_rfl) (by kernel_rfl) (fun _ _ _ h => h) (Or.inl ⟨by rfl, fun wS hSw => by (try dsimp only at hSw); have cS := hSw.cell 0 rfl; clear hSw; go_simp⟩) hHeld ?_
        try simp only [Act.put, List.setIfInBounds_toArray, List.set_cons_zero, List.set_cons_succ]
        refine wpAnyH_take (i := 2) (v := (.int .i64 (b + (k : Int)))) (get_ops _ _ _ rfl) (by kernel_rfl) (by kernel_rfl) (by kernel_rfl) (fun _ _ _ h => h) (Or.inl ⟨by rfl, fun wS hSw => by (try dsimp only at hSw); go_simp⟩) hHeld ?_
        try simp only [Act.put, List.setIfInBounds_toArray, List.set_cons_zero, List.set_cons_succ]
        refine wpAnyH_take (i := 3) (v := (.pointer (some ⟨w.heap.size, 2, none⟩))) (get_ops _ _ _ rfl) (by kernel_rfl) (by kernel_rfl) (by kernel_rfl) (fun _ _ _ h => h) (Or.inl ⟨by rfl, fun wS hSw => by (try dsimp only at hSw); go_simp⟩) hHeld ?_
        try simp only [Act.put, List.setIfInBounds_toArray, List.set_cons_zero, List.set_cons_succ]
        refine wpAnyH_take (i := 4) (v := (.slice A l.length c)) (get_ops _ _ _ rfl) (by kernel_rfl) (by kernel_rfl) (by kernel_rfl) (fun _ _ _ h => h) (Or.inl ⟨by rfl, fun wS hSw => by (try dsimp only at hSw); have cS := hSw.cell 2 rfl; clear hSw; go_simp⟩) hHeld ?_
        try simp only [Act.put, List.setIfInBounds_toArray, List.set_cons_zero, List.set_cons_succ]
        refine wpAnyH_take (i := 5) (v := (.int .i64 (T.length : Int))) (get_ops _ _ _ rfl) (by kernel_rfl) (by kernel_rfl) (by kernel_rfl) (fun _ _ _ h => h) (Or.inl ⟨by rfl, fun wS hSw => by (try dsimp only at hSw); go_simp⟩) hHeld ?_
        try simp only [Act.put, List.setIfInBounds_toArray, List.set_cons_zero, List.set_cons_succ]
        refine wpAnyH_take (i := 6) (v := (.slice A4 T.length c)) (get_ops _ _ _ rfl) (by kernel_rfl) (by kernel_rfl) (by kernel_rfl) (fun _ _ _ h => h) (Or.inl ⟨by rfl, fun wS hSw => by (try dsimp only at hSw); go_simp⟩) hHeld ?_
        try simp only [Act.put, List.setIfInBounds_toArray, List.set_cons_zero, List.set_cons_succ]
        refine wpAnyH_ready (rs := [7]) (by kernel_rfl) (by simp) ?_
        refine (AllReadyH.cons (get_ops _ _ _ rfl) (fun K hK => ?_) AllReadyH.nil)
        have ZQ : Hid (w.heap.size + 1 < z1.heap.size) := Lib.hid R_z1.out.lt
        go_simp
        refine (cloneB_any A4 c T z1 (HCL4.out z1 _ S_z1.out) (by have := HN.out; have := HTL.out; omega)).mono ?_
        rintro e z2 ⟨v9, rfl, own9, hb⟩
        have E_z2 : Hid (BK 24 z2 w.heap.size (sgC b n A l.length c)) := Lib.hid (E_z1.out.step hb)
        have R_z2 : Hid (BK 24 z2 (w.heap.size + 1) (sgC 0 0 none 0 0)) := Lib.hid (R_z1.out.step hb)
        have B_z2 : Hid (Below w.heap.size w z2) := Lib.hid ((stepB B_z1.out hb))
        have S_z2 : Hid (CL bv z2 z2.heap.size A l) := Lib.hid (S_z1.out.step hb)
        have G_z2 : Hid (RcL z2 z2.heap.size (some ⟨b7, o7, none⟩) rs) := Lib.hid (G_z1.out.step hb)
        clear E_z1 R_z1 B_z1 S_z1 G_z1
        obtain ⟨A9, c9, rfl, hc9, _⟩ := own9.ret
        have O_z2 := Lib.hid own9
        clear own9
        clear hHeld hb
        go_wp2_with fail
        refine hK.out _ _ E_z2.out (fun hHeld => ?_)
        clear hK K
        try simp only [Act.put, List.setIfInBounds_toArray, List.set_cons_zero, List.set_cons_succ]
        refine wpAnyH_take (i := 8) (v := (.agg #[.int .i64 b, .int .i64 (b + (k : Int)), .slice A9 T.length c9])) (get_ops _ _ _ rfl) (by kernel_rfl) (by kernel_rfl) (by kernel_rfl) (fun _ _ _ h => h) (Or.inl ⟨by rfl, fun wS hSw => by (try dsimp only at hSw); go_simp⟩) hHeld ?_
        try simp only [Act.put, List.setIfInBounds_toArray, List.set_cons_zero, List.set_cons_succ]
        refine wpAnyH_ready (rs := [9]) (by kernel_rfl) (by simp) ?_
        refine (AllReadyH.cons (get_ops _ _ _ rfl) (fun K hK => ?_) AllReadyH.nil)
        refine S2.wp_store_all 24 _ _ rfl rfl (w.heap.size + 1) (by go_simp) (sgC b (b + (k : Int)) A9 T.length c9) (by first | rfl | go_simp) 24 (sgC 0 0 none 0 0) R_z2.out sgSize rfl (S2.all_one rfl) ?_
        intro z3 hM hP
        have R_z3 : Hid (BK 24 z3 (w.heap.size + 1) (sgC b (b + (k : Int)) A9 T.length c9)) := Lib.hid (hM)
        have E_z3 : Hid (BK 24 z3 w.heap.size (sgC b n A l.length c)) := Lib.hid (hP.other E_z2.out (by omega))
        have B_z3 : Hid (Below w.heap.size w z3) := Lib.hid (hP.below B_z2.out (Nat.le_succ _))
        have O_z3 : Hid (Own 5 bv z3 z1.heap.size (.slice A9 T.length c9) T) := Lib.hid (Own.put O_z2.out hP ZQ.out)
        clear E_z2 R_z2 B_z2 S_z2 G_z2 O_z2
        clear hM hP hHeld
        refine hK.out _ _ E_z3.out (fun hHeld => ?_)
        clear hK K
        try simp only [Act.put, List.setIfInBounds_toArray, List.set_cons_zero, List.set_cons_succ]
        refine wpAnyH_done (by kernel_rfl) ?_ _
        go_wp2_with fail
        exact bodyPost_ret (v := sgV b (b + (k : Int)) A9 T.length c9) (S2.res_cell rfl _ _ (w.heap.size + 1) 24 (sgC b (b + (k : Int)) A9 T.length c9) _ rfl R_z3.out Try.underlying24 rfl sgSize) rfl ⟨k, A9, c9, HTR.out, (by rw [HTT.out]), (by rw [HTT.out]; exact hc9), (by rw [HTT.out]; obtain ⟨A8, c8, e8, _, h8⟩ := O_z3.out.ret; cases e8; exact h8), B_z3.out⟩
      · have hf1 : ¬ (f ≤ x.off) := hf
        have hw1 : wrap64 (b + (k : Int) + 1) = b + (k : Int) + 1 := wrap64_id _ (by omega) (by omega)
        have hfn := flat_next HX.out
        obtain ⟨_, hfl⟩ := HFL.out (k + 1)
        have hfn2 : (flatR (rs.take (k + 1))).length = (flatR (rs.take k)).length + (rcEnc x).length := by rw [hfn, List.length_append]
        have hw2 : wrap64 (((flatR (rs.take k)).length : Int) + ((rcEnc x).length : Int)) = ((flatR (rs.take k)).length : Int) + ((rcEnc x).length : Int) := wrap64_id _ (by omega) (by omega)
        have HZ := Lib.hid (fun w => rcSize_any x w (by omega))
        have HFN := Lib.hid hfn2
        clear hfn hfl hfn2
        generalize (rcEnc x).length = ex at *
        generalize (flatR (rs.take k)).length = ek at *
        go_wp2_with fail
        refine (HZ.out y1).mono ?_
        rintro e y2 ⟨rfl, hb⟩
        clear m0 m1 m2 m3
        have E_y2 : Hid (BK 24 y2 w.heap.size (sgC b n A l.length c)) := Lib.hid (E_y1.out.step hb)
        have R_y2 : Hid (BK 24 y2 (w.heap.size + 1) (sgC 0 0 none 0 0)) := Lib.hid (R_y1.out.step hb)
        have B_y2 : Hid (Below w.heap.size w y2) := Lib.hid ((stepB B_y1.out hb))
        have S_y2 : Hid (CL bv y2 y2.heap.size A l) := Lib.hid (S_y1.out.step hb)
        have G_y2 : Hid (RcL y2 y2.heap.size (some ⟨b7, o7, none⟩) rs) := Lib.hid (G_y1.out.step hb)
        have X_y2 : Hid (BK 32 y2 (wr.heap.size) (rcC x)) := Lib.hid (X_y1.out.step hb)
        clear E_y1 R_y1 B_y1 S_y1 G_y1 X_y1
        clear hb
        go_wp2_with fail
        go_roundg g
        case measure => omega
        case rel => exact ⟨k + 1, by have := HK.out; omega, by go_num, by rw [HFN.out]; go_num, by go_num, TrP.more HT.out HX.out (by omega), E_y2.out, R_y2.out, B_y2.out, S_y2.out, G_y2.out⟩
end Go.Proofs.Ytbmeimpfehjnfaa
