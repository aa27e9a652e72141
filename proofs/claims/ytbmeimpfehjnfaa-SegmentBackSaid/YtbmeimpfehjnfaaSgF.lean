/-
  Truncate of the specification of segments. Conditions: a valid segment of at most 65536 bytes; the numbers fit an int.
-/
import Derived.Test.YtbmeimpfehjnfaaSgE
namespace Go.Proofs.Ytbmeimpfehjnfaa
open Go.RowKit
open S2 (BK Put get_ops exec_load)

theorem sgApp_at {b : Int} {rs : List Rc} {k : Nat} {x : Rc} (hc : ConsR b rs) (hx : rs[k]? = some x) (hl : (flatR rs).length ≤ 65536) :
    sgApp b (b + (k : Int)) (flatR (rs.take k)) x.kind x.key x.val = ((b, b + (k : Int) + 1, flatR (rs.take (k + 1))), b + (k : Int), 0) := by
  obtain ⟨ho, hck⟩ := hc.at_ hx
  have e : (⟨b + (k : Int), x.kind, x.key, x.val⟩ : Rc) = x := by rw [← ho]
  have h2 := (flat_cut (l := flatR rs) rfl (k + 1)).2
  rw [flat_next hx, List.length_append] at h2
  unfold sgApp
  rw [e, hck, if_neg (by decide), if_neg (by omega), flat_next hx]

theorem wp_load_v {P : Program} {o : Oper} {a : Act} {w : World} {K : Act → World → Prop} {Q : Exit → Act → World → Prop} (ty : TypeId) (x : Operand) (ho : o.op = .load ty x)
    (p : Addr) (hx : a.eval x = .pointer (some p)) (v : Value) (hl : (loadVar ty p).run P w = .ok v w) (h : K (a.put o.dst v) w) : o.wp P a w K Q := by
  unfold Oper.wp execOp
  simp only [ho, hx, Instr.loadAt, Instr.sureAddr, Sem.run_bind, Sem.run_pure, Result.andThen_ok, hl]
  exact h
/-- a list of records stays where another block is stored over -/
theorem GLput {w w' : World} {g b7 o7 : Nat} {xs : List Rc} (h : RcL w w.heap.size (some ⟨b7, o7, none⟩) xs) (hp : Put g w w') (hg : b7 ≠ g) : RcL w' w'.heap.size (some ⟨b7, o7, none⟩) xs := fun hn => by
  obtain ⟨b, o, e, hb, hc⟩ := h hn
  cases e
  exact ⟨b7, o7, rfl, by rw [hp.size]; exact hb, fun j x i v hx hv => (hp.cell (p := ⟨b7, o7 + j * 4 + i, none⟩) hg).trans (hc j x i v hx hv)⟩

set_option maxRecDepth 20000 in
set_option maxHeartbeats 8000000 in
theorem rTruncate_any (b n : Int) (A : Option Addr) (c : Nat) (l : List UInt8) (rs : List Rc) (f : Int) (w : World) (hsl : CL bv w w.heap.size A l) (hc : l.length ≤ c) (hn : l.length ≤ 65536) (hv : scR l b = (rs, l.length, 0)) :
    Calls Try.prog 22 #[sgV b n A l.length c, .int .i64 f] w (RetTr b f rs w) := by
  have HR := Lib.hid (fun w h => rSgRecords_any b n A c l rs w h hc hn hv)
  obtain ⟨hcon, hflat⟩ := scR_valid hv
  have hrl := flatR_len hcon
  have hll : (flatR rs).length ≤ 65536 := by rw [← hflat]; exact hn
  rw [← hflat] at hrl
  have HCON := Lib.hid hcon
  have HAP : Hid (∀ (k : Nat) (x : Rc) (A9 : Option Addr) (c9 : Nat) (w : World), rs[k]? = some x → CL bv w w.heap.size A9 (flatR (rs.take k)) → Calls Try.prog 17 #[sgV b (b + (k : Int)) A9 (flatR (rs.take k)).length c9, .int .i64 x.kind, .string x.key, .string x.val] w fun e w' => ∃ A1 c1, e = .returned (.tuple #[sgV b (b + (k : Int) + 1) A1 (flatR (rs.take (k + 1))).length c1, .int .i64 (b + (k : Int)), .int .i64 0]) ∧ (flatR (rs.take (k + 1))).length ≤ c1 ∧ CN w.heap.size w' A1 (flatR (rs.take (k + 1))) ∧ Below w.heap.size w w') := Lib.hid (fun k x A9 c9 w hx h9 => by
    have hxk := rcCk_ok (HCON.out.at_ hx).2
    have h := rSgAppend_any b (b + (k : Int)) A9 c9 (flatR (rs.take k)) x.kind x.key x.val w h9 (Nat.le_trans (flat_cut (l := flatR rs) rfl k).2 hll) (by omega)
    unfold RetSA at h
    rw [sgApp_at HCON.out hx hll] at h
    exact h)
  have HSL := Lib.hid hsl
  have HN := Lib.hid hn
  clear hsl hc hcon hflat hv hll
  unfold sgV
  go_enter Try.func22, Try.ntmps22
  go_upto_region 1 with fail
  refine name_world (C := fun w1 => Code.wp _ _ _ _ w1) ((w.alloc (.cells (sgC b n A l.length c).toArray 24)).alloc (.cells (sgC 0 0 none 0 0).toArray 24)) ?_
  intro w1 hw1
  obtain ⟨e1, e2, hz1, hb1⟩ := S2.two_laid hw1
  have E_w1 := Lib.hid e1
  have R_w1 := Lib.hid e2
  have B_w1 := Lib.hid hb1
  have S_w1 := Lib.hid (HSL.out.step hb1)
  clear hw1 e1 e2 hz1 hb1 HSL
  have k0 := E_w1.out.cell 0 rfl
  have k1 := E_w1.out.cell 1 rfl
  have k2 := E_w1.out.cell 2 rfl
  go_wp2_with fail
  refine (rSgNew_any b _).mono ?_
  rintro e y0 ⟨rfl, hb⟩
  clear k0 k1 k2
  have E_y0 : Hid (BK 24 y0 w.heap.size (sgC b n A l.length c)) := Lib.hid (E_w1.out.step hb)
  have R_y0 : Hid (BK 24 y0 (w.heap.size + 1) (sgC 0 0 none 0 0)) := Lib.hid (R_w1.out.step hb)
  have RU : Hid (BK 24 y0 (w.heap.size + 1) (sgC 0 0 none 0 0)) := R_y0
  have B_y0 : Hid (Below w.heap.size w y0) := Lib.hid ((stepB B_w1.out hb))
  have S_y0 : Hid (CL bv y0 y0.heap.size A l) := Lib.hid (S_w1.out.step hb)
  clear E_w1 R_w1 B_w1 S_w1
  clear hb
  go_upto_region 2 with first
    | (refine S2.wpList_store_all (by rfl) 24 (.tmp 5) (.tmp 10) rfl rfl (y0.heap.size) rfl (sgC b b none 0 0) rfl 24 (sgC 0 0 none 0 0) (BK.new y0 _ _) sgSize rfl (S2.all_one rfl) ?_; intro y1 hM hP; have hb : Below y0.heap.size y0 y1 := hP.below (S2.below_new y0 _) (Nat.le_refl _); have E_y1 : Hid (BK 24 y1 w.heap.size (sgC b n A l.length c)) := Lib.hid (E_y0.out.step hb); have R_y1 : Hid (BK 24 y1 (w.heap.size + 1) (sgC 0 0 none 0 0)) := Lib.hid (R_y0.out.step hb); have B_y1 : Hid (Below w.heap.size w y1) := Lib.hid ((stepB B_y0.out hb)); have S_y1 : Hid (CL bv y1 y1.heap.size A l) := Lib.hid (S_y0.out.step hb); have U_y1 : Hid (BK 24 y1 (y0.heap.size) (sgC b b none 0 0)) := Lib.hid hM; clear hM hP hb E_y0 R_y0 B_y0 S_y0)
  have ZV0 : Hid (y0.heap.size < y1.heap.size) := Lib.hid U_y1.out.lt
  have k0 := E_y1.out.cell 0 rfl
  have k1 := E_y1.out.cell 1 rfl
  have k2 := E_y1.out.cell 2 rfl
  go_wp2_with fail
  refine (HR.out y1 S_y1.out).mono ?_
  rintro e y2 ⟨v, rfl, own, hb⟩
  clear k0 k1 k2
  have E_y2 : Hid (BK 24 y2 w.heap.size (sgC b n A l.length c)) := Lib.hid (E_y1.out.step hb)
  have R_y2 : Hid (BK 24 y2 (w.heap.size + 1) (sgC 0 0 none 0 0)) := Lib.hid (R_y1.out.step hb)
  have B_y2 : Hid (Below w.heap.size w y2) := Lib.hid ((stepB B_y1.out hb))
  have S_y2 : Hid (CL bv y2 y2.heap.size A l) := Lib.hid (S_y1.out.step hb)
  have U_y2 : Hid (BK 24 y2 (y0.heap.size) (sgC b b none 0 0)) := Lib.hid (U_y1.out.step hb)
  clear E_y1 R_y1 B_y1 S_y1 U_y1
  obtain ⟨A7, c7, rfl, _, hnew7, hg7⟩ := own.retB rcC_len
  have gl7 := hg7 y2 (Nat.le_refl _) (fun _ _ => rfl)
  have HNW : Hid (∀ b o, A7 = some ⟨b, o, none⟩ → y1.heap.size ≤ b) := Lib.hid hnew7
  have ZV : Hid (y0.heap.size < y1.heap.size) := ZV0
  have G_y2 : Hid (RcL y2 y2.heap.size A7 rs) := Lib.hid (gl7)
  clear own gl7 hnew7 hg7
  clear hb
  have ZU : Hid (w.heap.size + 1 < y0.heap.size) := Lib.hid (Nat.lt_of_lt_of_le (RU.out).lt (Nat.le_refl _))
  go_wp2_with fail
  go_loopg [7] rs.length (fun g v7 wr => ∃ (k m : Nat) (A9 : Option Addr) (c9 : Nat), k + g = rs.length ∧ v7 = .int .i64 k ∧ TrP rs f k m ∧ BK 24 wr (y0.heap.size) (sgC b (b + (m : Int)) A9 (flatR (rs.take m)).length c9) ∧ (flatR (rs.take m)).length ≤ c9 ∧ CN (y0.heap.size + 1) wr A9 (flatR (rs.take m)) ∧ BK 24 wr w.heap.size (sgC b n A l.length c) ∧ BK 24 wr (w.heap.size + 1) (sgC 0 0 none 0 0) ∧ Below w.heap.size w wr ∧ RcL wr wr.heap.size A7 rs)
  case atStart => exact ⟨0, 0, none, 0, by omega, rfl, ⟨Nat.le_refl _, fun j r hj => by omega, .inl rfl⟩, by simpa [flatR] using U_y2.out, by simp [flatR], by simpa [flatR] using CN.nil _ _, E_y2.out, R_y2.out, B_y2.out, G_y2.out⟩
  case round =>
    clear E_y2 R_y2 B_y2 G_y2 U_y2 S_y2
    obtain ⟨k, m, A9, c9, hkg, rfl, htr, hU, hc9, hO, h1, h2, h3, h4⟩ := hrel
    have U_wr := Lib.hid hU
    have O_wr := Lib.hid hO
    have E_wr := Lib.hid h1
    have R_wr := Lib.hid h2
    have B_wr := Lib.hid h3
    have G_wr := Lib.hid h4
    have HT := Lib.hid htr
    have HK := Lib.hid hkg
    have HC9 := Lib.hid hc9
    clear h1 h2 h3 h4 htr hU hO hc9
    cases gk with
    | zero =>
      obtain rfl : k = rs.length := by omega
      have e3 : ¬ ((rs.length : Int) < (rs.length : Int)) := by omega
      have u0 := U_wr.out.cell 0 rfl
      have u1 := U_wr.out.cell 1 rfl
      have u2 := U_wr.out.cell 2 rfl
      go_wp2_with first
        | (refine S2.wpList_store_all (by rfl) 24 (.tmp 4) (.tmp 47) rfl rfl ((w.heap.size + 1)) rfl (sgC b (b + (m : Int)) A9 (flatR (rs.take m)).length c9) rfl 24 (sgC 0 0 none 0 0) R_wr.out sgSize rfl (S2.all_one rfl) ?_; intro z1 hM hP; have R_z1 : Hid (BK 24 z1 ((w.heap.size + 1)) (sgC b (b + (m : Int)) A9 (flatR (rs.take m)).length c9)) := Lib.hid hM; have E_z1 : Hid (BK 24 z1 w.heap.size (sgC b n A l.length c)) := Lib.hid (hP.other E_wr.out (by omega)); have B_z1 : Hid (Below w.heap.size w z1) := Lib.hid (hP.below B_wr.out (Nat.le_succ _)); have O_z1 : Hid (CN (y0.heap.size + 1) z1 A9 (flatR (rs.take m))) := Lib.hid (CN.put O_wr.out hP (by have := ZU.out; omega)); clear hM hP E_wr R_wr B_wr G_wr U_wr O_wr)
      exact bodyPost_ret (v := sgV b (b + (m : Int)) A9 (flatR (rs.take m)).length c9) (S2.res_cell rfl _ _ (w.heap.size + 1) 24 (sgC b (b + (m : Int)) A9 (flatR (rs.take m)).length c9) _ rfl R_z1.out Try.underlying24 rfl sgSize) rfl ⟨m, A9, c9, HT.out, rfl, HC9.out, O_z1.out.1, B_z1.out⟩
    | succ g =>
      have hlt : k < rs.length := by omega
      have e3 : (k : Int) < (rs.length : Int) := by omega
      obtain ⟨x, hx⟩ : ∃ x, rs[k]? = some x := ⟨_, List.getElem?_eq_getElem hlt⟩
      obtain ⟨b7, o7, hA7, hbB, hcx⟩ := GL.at4 G_wr.out hx
      subst hA7
      have HG7 : Hid (b7 ≠ y0.heap.size) := Lib.hid (by have h1 := HNW.out b7 o7 rfl; have h2 := ZV.out; omega)
      have j1 : (0 : Int) ≤ (k : Int) := by omega
      have hxo := (HCON.out.at_ hx).1
      have kx0 : wr.cell? ⟨b7, o7 + k * 4, none⟩ = some (.int .i64 x.off) := hcx 0 _ rfl
      have HX := Lib.hid hx
      have X_wr : Hid (b7 < wr.heap.size ∧ ∀ i v, (rcC x)[i]? = some v → wr.cell? ⟨b7, o7 + k * 4 + i, none⟩ = some v) := Lib.hid ⟨hbB, hcx⟩
      have HXO := Lib.hid hxo
      clear hx hcx hxo hbB
      by_cases hf : x.off < f
      · obtain rfl : k = m := by
          rcases HT.out.2.2 with h | ⟨r, hr, hfr⟩
          · exact h.symm
          · have h1 := (HCON.out.at_ hr).1
            have h2 := HXO.out
            have h3 := HT.out.1
            omega
        go_upto_region 7 with fail
        clear kx0
        obtain ⟨z1, hz1⟩ : ∃ z1, z1 = World.drew wr := ⟨_, rfl⟩
        have hbD : Below wr.heap.size wr z1 := by rw [hz1]; exact (Below.refl _ _).drew
        have E_z1 : Hid (BK 24 z1 w.heap.size (sgC b n A l.length c)) := Lib.hid (E_wr.out.step hbD)
        have R_z1 : Hid (BK 24 z1 (w.heap.size + 1) (sgC 0 0 none 0 0)) := Lib.hid (R_wr.out.step hbD)
        have B_z1 : Hid (Below w.heap.size w z1) := Lib.hid ((stepB B_wr.out hbD))
        have G_z1 : Hid (RcL z1 z1.heap.size (some ⟨b7, o7, none⟩) rs) := Lib.hid (G_wr.out.step hbD)
        have U_z1 : Hid (BK 24 z1 (y0.heap.size) (sgC b (b + (k : Int)) A9 (flatR (rs.take k)).length c9)) := Lib.hid (U_wr.out.step hbD)
        have O_z1 : Hid (CN (y0.heap.size + 1) z1 A9 (flatR (rs.take k))) := Lib.hid (O_wr.out.step hbD)
        have X_z1 : Hid ((b7 < z1.heap.size ∧ ∀ i v, (rcC x)[i]? = some v → z1.cell? ⟨b7, o7 + k * 4 + i, none⟩ = some v)) := Lib.hid (⟨Nat.lt_of_lt_of_le X_wr.out.1 hbD.size, fun i u hu => (hbD.cell (p := ⟨b7, o7 + k * 4 + i, none⟩) X_wr.out.1).trans (X_wr.out.2 i u hu)⟩)
        clear E_wr R_wr B_wr G_wr U_wr O_wr X_wr
        have hbd : (fun w' => (b7 < w'.heap.size ∧ ∀ i v, (rcC x)[i]? = some v → w'.cell? ⟨b7, o7 + k * 4 + i, none⟩ = some v)) (World.drew wr) := by rw [← hz1]; exact X_z1.out
        have hSD : (fun w' => (b7 < w'.heap.size ∧ ∀ i v, (rcC x)[i]? = some v → w'.cell? ⟨b7, o7 + k * 4 + i, none⟩ = some v)) z1 := X_z1.out
        have HWD := Lib.hid hz1
        clear hz1 hbD
        refine wp_region_held_drew (S := fun w' => (b7 < w'.heap.size ∧ ∀ i v, (rcC x)[i]? = some v → w'.cell? ⟨b7, o7 + k * 4 + i, none⟩ = some v)) (by kernel_rfl) hbd (fun hHeld => ?_)
        rw [← HWD.out]
        clear hHeld
        have hHeld := hSD
        clear hSD hbd HWD
        refine wpAnyH_take (i := 1) (v := (.slice (some ⟨b7, o7, none⟩) rs.length c7)) (get_ops _ _ _ rfl) (by kernel_rfl) (by kernel_rfl) (by kernel_rfl) (fun _ _ _ h => h) (Or.inl ⟨by rfl, fun wS hSw => by (try dsimp only at hSw); go_simp⟩) hHeld ?_
        try simp only [Act.put, List.setIfInBounds_toArray, List.set_cons_zero, List.set_cons_succ]
        refine wpAnyH_take (i := 2) (v := (.int .i64 k)) (get_ops _ _ _ rfl) (by kernel_rfl) (by kernel_rfl) (by kernel_rfl) (fun _ _ _ h => h) (Or.inl ⟨by rfl, fun wS hSw => by (try dsimp only at hSw); go_simp⟩) hHeld ?_
        try simp only [Act.put, List.setIfInBounds_toArray, List.set_cons_zero, List.set_cons_succ]
        refine wpAnyH_take (i := 3) (v := (.pointer (some ⟨b7, o7 + k * 4, none⟩))) (get_ops _ _ _ rfl) (by kernel_rfl) (by kernel_rfl) (by kernel_rfl) (fun _ _ _ h => h) (Or.inl ⟨by rfl, fun wS hSw => by (try dsimp only at hSw); go_simp⟩) hHeld ?_
        try simp only [Act.put, List.setIfInBounds_toArray, List.set_cons_zero, List.set_cons_succ]
        refine wpAnyH_take (i := 4) (v := (.pointer (some ⟨b7, o7 + k * 4 + 1, none⟩))) (get_ops _ _ _ rfl) (by kernel_rfl) (by kernel_rfl) (by kernel_rfl) (fun _ _ _ h => h) (Or.inl ⟨by rfl, fun wS hSw => by (try dsimp only at hSw); go_simp⟩) hHeld ?_
        try simp only [Act.put, List.setIfInBounds_toArray, List.set_cons_zero, List.set_cons_succ]
        refine wpAnyH_take (i := 5) (v := (.int .i64 x.kind)) (get_ops _ _ _ rfl) (by kernel_rfl) (by kernel_rfl) (by kernel_rfl) (fun _ _ _ h => h) (Or.inl ⟨by rfl, fun wS hSw => by (try dsimp only at hSw); have cS := hSw.2 1 _ rfl; clear hSw; go_simp⟩) hHeld ?_
        try simp only [Act.put, List.setIfInBounds_toArray, List.set_cons_zero, List.set_cons_succ]
        refine wpAnyH_take (i := 6) (v := (.slice (some ⟨b7, o7, none⟩) rs.length c7)) (get_ops _ _ _ rfl) (by kernel_rfl) (by kernel_rfl) (by kernel_rfl) (fun _ _ _ h => h) (Or.inl ⟨by rfl, fun wS hSw => by (try dsimp only at hSw); go_simp⟩) hHeld ?_
        try simp only [Act.put, List.setIfInBounds_toArray, List.set_cons_zero, List.set_cons_succ]
        refine wpAnyH_take (i := 7) (v := (.int .i64 k)) (get_ops _ _ _ rfl) (by kernel_rfl) (by kernel_rfl) (by kernel_rfl) (fun _ _ _ h => h) (Or.inl ⟨by rfl, fun wS hSw => by (try dsimp only at hSw); go_simp⟩) hHeld ?_
        try simp only [Act.put, List.setIfInBounds_toArray, List.set_cons_zero, List.set_cons_succ]
        refine wpAnyH_take (i := 8) (v := (.pointer (some ⟨b7, o7 + k * 4, none⟩))) (get_ops _ _ _ rfl) (by kernel_rfl) (by kernel_rfl) (by kernel_rfl) (fun _ _ _ h => h) (Or.inl ⟨by rfl, fun wS hSw => by (try dsimp only at hSw); go_simp⟩) hHeld ?_
        try simp only [Act.put, List.setIfInBounds_toArray, List.set_cons_zero, List.set_cons_succ]
        refine wpAnyH_take (i := 9) (v := (.pointer (some ⟨b7, o7 + k * 4 + 2, none⟩))) (get_ops _ _ _ rfl) (by kernel_rfl) (by kernel_rfl) (by kernel_rfl) (fun _ _ _ h => h) (Or.inl ⟨by rfl, fun wS hSw => by (try dsimp only at hSw); go_simp⟩) hHeld ?_
        try simp only [Act.put, List.setIfInBounds_toArray, List.set_cons_zero, List.set_cons_succ]
        refine wpAnyH_take (i := 10) (v := (.string x.key)) (get_ops _ _ _ rfl) (by kernel_rfl) (by kernel_rfl) (by kernel_rfl) (fun _ _ _ h => h) (Or.inl ⟨by rfl, fun wS hSw => by (try dsimp only at hSw); have cS := hSw.2 2 _ rfl; clear hSw; go_simp⟩) hHeld ?_
        try simp only [Act.put, List.setIfInBounds_toArray, List.set_cons_zero, List.set_cons_succ]
        refine wpAnyH_take (i := 11) (v := (.slice (some ⟨b7, o7, none⟩) rs.length c7)) (get_ops _ _ _ rfl) (by kernel_rfl) (by kernel_rfl) (by kernel_rfl) (fun _ _ _ h => h) (Or.inl ⟨by rfl, fun wS hSw => by (try dsimp only at hSw); go_simp⟩) hHeld ?_
        try simp only [Act.put, List.setIfInBounds_toArray, List.set_cons_zero, List.set_cons_succ]
        refine wpAnyH_take (i := 12) (v := (.int .i64 k)) (get_ops _ _ _ rfl) (by kernel_rfl) (by kernel_rfl) (by kernel_rfl) (fun _ _ _ h => h) (Or.inl ⟨by rfl, fun wS hSw => by (try dsimp only at hSw); go_simp⟩) hHeld ?_
        try simp only [Act.put, List.setIfInBounds_toArray, List.set_cons_zero, List.set_cons_succ]
        refine wpAnyH_take (i := 13) (v := (.pointer (some ⟨b7, o7 + k * 4, none⟩))) (get_ops _ _ _ rfl) (by kernel_rfl) (by kernel_rfl) (by kernel_rfl) (fun _ _ _ h => h) (Or.inl ⟨by rfl, fun wS hSw => by (try dsimp only at hSw); go_simp⟩) hHeld ?_
        try simp only [Act.put, List.setIfInBounds_toArray, List.set_cons_zero, List.set_cons_succ]
        refine wpAnyH_take (i := 14) (v := (.pointer (some ⟨b7, o7 + k * 4 + 3, none⟩))) (get_ops _ _ _ rfl) (by kernel_rfl) (by kernel_rfl) (by kernel_rfl) (fun _ _ _ h => h) (Or.inl ⟨by rfl, fun wS hSw => by (try dsimp only at hSw); go_simp⟩) hHeld ?_
        try simp only [Act.put, List.setIfInBounds_toArray, List.set_cons_zero, List.set_cons_succ]
        refine wpAnyH_take (i := 15) (v := (.string x.val)) (get_ops _ _ _ rfl) (by kernel_rfl) (by kernel_rfl) (by kernel_rfl) (fun _ _ _ h => h) (Or.inl ⟨by rfl, fun wS hSw => by (try dsimp only at hSw); have cS := hSw.2 3 _ rfl; clear hSw; go_simp⟩) hHeld ?_
        try simp only [Act.put, List.setIfInBounds_toArray, List.set_cons_zero, List.set_cons_succ]
        refine wpAnyH_ready (rs := [0]) (by kernel_rfl) (by simp) ?_
        refine (AllReadyH.cons (get_ops _ _ _ rfl) (fun K hK => ?_) AllReadyH.nil)
        refine wp_load_v 24 _ rfl ⟨y0.heap.size, 0, none⟩ (by go_simp) (sgV b (b + (k : Int)) A9 (flatR (rs.take k)).length c9) (S2.run_load_all U_z1.out Try.underlying24 rfl sgSize) ?_
        clear hHeld
        refine hK.out _ _ X_z1.out (fun hHeld => ?_)
        clear hK K
        try simp only [Act.put, List.setIfInBounds_toArray, List.set_cons_zero, List.set_cons_succ]
        refine wpAnyH_ready (rs := [16]) (by kernel_rfl) (by simp) ?_
        refine (AllReadyH.cons (get_ops _ _ _ rfl) (fun K hK => ?_) AllReadyH.nil)
        have ZL : Hid (y0.heap.size + 1 ≤ z1.heap.size) := Lib.hid U_z1.out.lt
        go_simp
        refine (HAP.out k x A9 c9 z1 HX.out O_z1.out.1).mono ?_
        rintro e z2 ⟨A1, c1, rfl, hc1, hN, hb⟩
        have E_z2 : Hid (BK 24 z2 w.heap.size (sgC b n A l.length c)) := Lib.hid (E_z1.out.step hb)
        have R_z2 : Hid (BK 24 z2 (w.heap.size + 1) (sgC 0 0 none 0 0)) := Lib.hid (R_z1.out.step hb)
        have B_z2 : Hid (Below w.heap.size w z2) := Lib.hid ((stepB B_z1.out hb))
        have G_z2 : Hid (RcL z2 z2.heap.size (some ⟨b7, o7, none⟩) rs) := Lib.hid (G_z1.out.step hb)
        have U_z2 : Hid (BK 24 z2 (y0.heap.size) (sgC b (b + (k : Int)) A9 (flatR (rs.take k)).length c9)) := Lib.hid (U_z1.out.step hb)
        have O_z2 : Hid (CN (y0.heap.size + 1) z2 A9 (flatR (rs.take k))) := Lib.hid (O_z1.out.step hb)
        have X_z2 : Hid ((b7 < z2.heap.size ∧ ∀ i v, (rcC x)[i]? = some v → z2.cell? ⟨b7, o7 + k * 4 + i, none⟩ = some v)) := Lib.hid (⟨Nat.lt_of_lt_of_le X_z1.out.1 hb.size, fun i u hu => (hb.cell (p := ⟨b7, o7 + k * 4 + i, none⟩) X_z1.out.1).trans (X_z1.out.2 i u hu)⟩)
        clear E_z1 R_z1 B_z1 G_z1 U_z1 O_z1 X_z1
        have N_z2 : Hid (CN (y0.heap.size + 1) z2 A1 (flatR (rs.take (k + 1)))) := Lib.hid (hN.weak ZL.out)
        have HC1 := Lib.hid hc1
        clear hN hc1
        clear hHeld hb
        go_wp2_with fail
        refine hK.out _ _ X_z2.out (fun hHeld => ?_)
        clear hK K
        try simp only [Act.put, List.setIfInBounds_toArray, List.set_cons_zero, List.set_cons_succ]
        refine wpAnyH_take (i := 17) (v := (.tuple #[sgV b (b + (k : Int) + 1) A1 (flatR (rs.take (k + 1))).length c1, .int .i64 (b + (k : Int)), .int .i64 0])) (get_ops _ _ _ rfl) (by kernel_rfl) (by kernel_rfl) (by kernel_rfl) (fun _ _ _ h => h) (Or.inl ⟨by rfl, fun wS hSw => by (try dsimp only at hSw); go_simp⟩) hHeld ?_
        try simp only [Act.put, List.setIfInBounds_toArray, List.set_cons_zero, List.set_cons_succ]
        refine wpAnyH_take (i := 18) (v := (sgV b (b + (k : Int) + 1) A1 (flatR (rs.take (k + 1))).length c1)) (get_ops _ _ _ rfl) (by kernel_rfl) (by kernel_rfl) (by kernel_rfl) (fun _ _ _ h => h) (Or.inl ⟨by rfl, fun wS hSw => by (try dsimp only at hSw); go_simp⟩) hHeld ?_
        try simp only [Act.put, List.setIfInBounds_toArray, List.set_cons_zero, List.set_cons_succ]
        refine wpAnyH_take (i := 19) (v := (.int .i64 (b + (k : Int)))) (get_ops _ _ _ rfl) (by kernel_rfl) (by kernel_rfl) (by kernel_rfl) (fun _ _ _ h => h) (Or.inl ⟨by rfl, fun wS hSw => by (try dsimp only at hSw); go_simp⟩) hHeld ?_
        try simp only [Act.put, List.setIfInBounds_toArray, List.set_cons_zero, List.set_cons_succ]
        refine wpAnyH_take (i := 20) (v := (.int .i64 0)) (get_ops _ _ _ rfl) (by kernel_rfl) (by kernel_rfl) (by kernel_rfl) (fun _ _ _ h => h) (Or.inl ⟨by rfl, fun wS hSw => by (try dsimp only at hSw); go_simp⟩) hHeld ?_
        try simp only [Act.put, List.setIfInBounds_toArray, List.set_cons_zero, List.set_cons_succ]
        refine wpAnyH_ready (rs := [21]) (by kernel_rfl) (by simp) ?_
        refine (AllReadyH.cons (get_ops _ _ _ rfl) (fun K hK => ?_) AllReadyH.nil)
        refine S2.wp_store_all 24 _ _ rfl rfl (y0.heap.size) (by go_simp) (sgC b (b + (k : Int) + 1) A1 (flatR (rs.take (k + 1))).length c1) (by first | rfl | go_simp) 24 (sgC b (b + (k : Int)) A9 (flatR (rs.take k)).length c9) U_z2.out sgSize rfl (S2.all_one rfl) ?_
        intro z3 hM hP
        have U_z3 : Hid (BK 24 z3 (y0.heap.size) (sgC b (b + (k : Int) + 1) A1 (flatR (rs.take (k + 1))).length c1)) := Lib.hid (hM)
        have E_z3 : Hid (BK 24 z3 w.heap.size (sgC b n A l.length c)) := Lib.hid (hP.other E_z2.out (by have := ZU.out; omega))
        have R_z3 : Hid (BK 24 z3 (w.heap.size + 1) (sgC 0 0 none 0 0)) := Lib.hid (hP.other R_z2.out (by have := ZU.out; omega))
        have B_z3 : Hid (Below w.heap.size w z3) := Lib.hid (hP.below B_z2.out (by have := ZU.out; omega))
        have G_z3 : Hid (RcL z3 z3.heap.size (some ⟨b7, o7, none⟩) rs) := Lib.hid (GLput G_z2.out hP HG7.out)
        have O_z3 : Hid (CN (y0.heap.size + 1) z3 A9 (flatR (rs.take k))) := Lib.hid (CN.put O_z2.out hP (Nat.lt_succ_self _))
        have X_z3 : Hid ((b7 < z3.heap.size ∧ ∀ i v, (rcC x)[i]? = some v → z3.cell? ⟨b7, o7 + k * 4 + i, none⟩ = some v)) := Lib.hid (⟨by rw [hP.size]; exact X_z2.out.1, fun i u hu => (hP.cell (p := ⟨b7, o7 + k * 4 + i, none⟩) HG7.out).trans (X_z2.out.2 i u hu)⟩)
        have N_z3 : Hid (CN (y0.heap.size + 1) z3 A1 (flatR (rs.take (k + 1)))) := Lib.hid (CN.put N_z2.out hP (Nat.lt_succ_self _))
        clear E_z2 R_z2 B_z2 G_z2 U_z2 O_z2 X_z2 N_z2
        clear hM hP hHeld
        refine hK.out _ _ X_z3.out (fun hHeld => ?_)
        clear hK K
        try simp only [Act.put, List.setIfInBounds_toArray, List.set_cons_zero, List.set_cons_succ]
        refine wpAnyH_done (by kernel_rfl) ?_ _
        go_wp2_with fail
        go_roundg g
        case measure => omega
        case rel => exact ⟨k + 1, k + 1, A1, c1, by have := HK.out; omega, by go_num, ⟨Nat.le_refl _, TrP.more HT.out.2.1 HX.out hf, .inl rfl⟩, (by have hU2 := U_z3.out; rw [show b + (((k + 1 : Nat)) : Int) = b + (k : Int) + 1 by omega]; exact hU2), HC1.out, N_z3.out, E_z3.out, R_z3.out, B_z3.out, G_z3.out⟩
      · have hf1 : ¬ (x.off < f) := hf
        go_wp2_with fail
        go_roundg g
        case measure => omega
        case rel => exact ⟨k + 1, m, A9, c9, by have := HK.out; omega, by go_num, ⟨Nat.le_succ_of_le HT.out.1, HT.out.2.1, (by rcases HT.out.2.2 with h | h; exact .inr ⟨x, by rw [h]; exact HX.out, by omega⟩; exact .inr h)⟩, U_wr.out, HC9.out, O_wr.out, E_wr.out, R_wr.out, B_wr.out, G_wr.out⟩
end Go.Proofs.Ytbmeimpfehjnfaa
