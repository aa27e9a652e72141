/-
  Of of the specification of segments. Conditions: the list reads as data; few records with short texts.
-/
import Derived.Test.YtbmeimpfehjnfaaSgF
import Derived.Test.YtbmeimpfehjnfaaSgG
namespace Go.Proofs.Ytbmeimpfehjnfaa
open Go.RowKit
open S2 (BK Put get_ops exec_load)

theorem CN.put2 {lo g : Nat} {w w' : World} {A : Option Addr} {T : List UInt8} (h : CN lo w A T) (hp : Put g w w') (hg : ∀ b o, A = some ⟨b, o, none⟩ → 0 < T.length → b ≠ g) : CN lo w' A T := by
  refine ⟨fun hn => ?_, h.2⟩
  obtain ⟨b, o, e, hb, hc⟩ := h.1 hn
  exact ⟨b, o, e, by rw [hp.size]; exact hb, fun j x hx => (hp.cell (p := ⟨b, o + j, none⟩) (hg b o e hn)).trans (hc j x hx)⟩
theorem CN.low {lo : Nat} {w : World} {A : Option Addr} {T : List UInt8} (h : CN lo w A T) : ∀ b o, A = some ⟨b, o, none⟩ → 0 < T.length → b < w.heap.size := fun b o e hn => by
  obtain ⟨b', o', e', hb, _⟩ := h.1 hn
  rw [e] at e'
  cases e'
  exact hb
/-- a segment of records counted anew, one more -/
theorem renum_app {base : Int} {l : List Rc} {k : Nat} {x : Rc} (hx : l[k]? = some x) : renum base (l.take (k + 1)) = renum base (l.take k) ++ [⟨base + (k : Int), x.kind, x.key, x.val⟩] := by
  have hk : k < l.length := (List.getElem?_eq_some_iff.1 hx).1
  have hl : ((l.take k).length : Int) = k := by rw [List.length_take]; omega
  have := renum_snoc base (l.take k) x
  rw [hl] at this
  rw [List.take_add_one, hx]
  exact this
theorem renum_step {base : Int} {l : List Rc} {k : Nat} {x : Rc} (hx : l[k]? = some x) (hc : ConsR base (renum base (l.take k))) {b1 n1 m1 : Int} {l1 : List UInt8}
    (h : sgApp base (base + (k : Int)) (flatR (renum base (l.take k))) x.kind x.key x.val = ((b1, n1, l1), m1, 0)) :
    base = b1 ∧ base + (k : Int) + 1 = n1 ∧ flatR (renum base (l.take (k + 1))) = l1 ∧ ConsR base (renum base (l.take (k + 1))) ∧ l1.length ≤ 65536 := by
  unfold sgApp at h
  split at h
  · next h0 => simp only [Prod.mk.injEq] at h; exact absurd h.2.2 h0
  next h0 =>
  split at h
  · simp at h
  next h1 =>
  simp only [Prod.mk.injEq, and_true] at h
  obtain ⟨⟨rfl, rfl, rfl⟩, rfl⟩ := h
  have hk : k < l.length := (List.getElem?_eq_some_iff.1 hx).1
  have hl : ((renum base (l.take k)).length : Int) = k := by rw [renum_len, List.length_take]; omega
  have e := renum_app (base := base) hx
  refine ⟨rfl, rfl, by rw [e, flatR_app, flatR_one], ?_, by rw [List.length_append]; omega⟩
  rw [e]
  exact hc.snoc (by rw [hl]) (by omega)
/-- what Of answers -/
def RetOf (base : Int) (l : List Rc) (W : World) (e : Ending) (w' : World) : Prop :=
  ∃ (b1 n1 : Int) (A1 : Option Addr) (T : List UInt8) (c1 : Nat) (code : Int), e = .returned (.tuple #[sgV b1 n1 A1 T.length c1, .int .i64 code]) ∧ CL bv w' w'.heap.size A1 T ∧ T.length ≤ c1 ∧ Below W.heap.size W w' ∧
    (code = 0 → b1 = base ∧ n1 = base + (l.length : Int) ∧ T = flatR (renum base l) ∧ ConsR base (renum base l) ∧ T.length ≤ 65536)

set_option maxRecDepth 20000 in
set_option maxHeartbeats 8000000 in
theorem rOf_any (base : Int) (A : Option Addr) (c : Nat) (l : List Rc) (w : World) (hsl : RcL w w.heap.size A l) (hn : l.length ≤ 1000) (hz : ∀ r ∈ l, r.key.size ≤ 5000 ∧ r.val.size ≤ 5000) :
    Calls Try.prog 26 #[.int .i64 base, .slice A l.length c] w (RetOf base l w) := by
  have HSL := Lib.hid hsl
  have HZ := Lib.hid hz
  clear hsl hz
  go_enter Try.func26, Try.ntmps26
  go_upto_region 1 with fail
  refine name_world (C := fun w1 => Code.wp _ _ _ _ w1) (w.alloc (.cells (sgC 0 0 none 0 0).toArray 24)) ?_
  intro w1 hw1
  have hb1 : Below w.heap.size w w1 := by rw [hw1]; exact S2.below_new w _
  have R_w1 : Hid (BK 24 w1 w.heap.size (sgC 0 0 none 0 0)) := Lib.hid (by rw [hw1]; exact BK.new w _ _)
  have B_w1 := Lib.hid hb1
  have G_w1 := Lib.hid (HSL.out.step hb1)
  clear hw1 hb1 HSL
  go_wp2_with fail
  refine (rSgNew_any base _).mono ?_
  rintro e y0 ⟨rfl, hb⟩
  have R_y0 : Hid (BK 24 y0 w.heap.size (sgC 0 0 none 0 0)) := Lib.hid (R_w1.out.step hb)
  have B_y0 : Hid (Below w.heap.size w y0) := Lib.hid ((stepB B_w1.out hb))
  have G_y0 : Hid (RcL y0 y0.heap.size A l) := Lib.hid (G_w1.out.step hb)
  clear R_w1 B_w1 G_w1
  clear hb
  have RU : Hid (BK 24 y0 w.heap.size (sgC 0 0 none 0 0)) := R_y0
  have ZA : Hid (∀ b o, A = some ⟨b, o, none⟩ → 0 < l.length → b < y0.heap.size) := Lib.hid (fun b o e hn => by obtain ⟨b', o', e', hb, _⟩ := G_y0.out hn; rw [e] at e'; cases e'; exact hb)
  go_upto_region 2 with first
    | (refine S2.wpList_store_all (by rfl) 24 (.tmp 6) (.tmp 12) rfl rfl (y0.heap.size) rfl (sgC base base none 0 0) rfl 24 (sgC 0 0 none 0 0) (BK.new y0 _ _) sgSize rfl (S2.all_one rfl) ?_; intro y1 hM hP; have hb : Below y0.heap.size y0 y1 := hP.below (S2.below_new y0 _) (Nat.le_refl _); have R_y1 : Hid (BK 24 y1 w.heap.size (sgC 0 0 none 0 0)) := Lib.hid (R_y0.out.step hb); have B_y1 : Hid (Below w.heap.size w y1) := Lib.hid ((stepB B_y0.out hb)); have G_y1 : Hid (RcL y1 y1.heap.size A l) := Lib.hid (G_y0.out.step hb); have U_y1 : Hid (BK 24 y1 (y0.heap.size) (sgC base base none 0 0)) := Lib.hid hM; clear hM hP hb R_y0 B_y0 G_y0)
  have ZU : Hid (w.heap.size < y0.heap.size) := Lib.hid RU.out.lt
  go_wp2_with fail
  go_loopg [7] l.length (fun g v7 wr => ∃ (k : Nat) (A9 : Option Addr) (c9 : Nat), k + g = l.length ∧ v7 = .int .i64 k ∧ ConsR base (renum base (l.take k)) ∧ (flatR (renum base (l.take k))).length ≤ 65536 ∧ BK 24 wr (y0.heap.size) (sgC base (base + (k : Int)) A9 (flatR (renum base (l.take k))).length c9) ∧ (flatR (renum base (l.take k))).length ≤ c9 ∧ CN (y0.heap.size + 1) wr A9 (flatR (renum base (l.take k))) ∧ BK 24 wr w.heap.size (sgC 0 0 none 0 0) ∧ Below w.heap.size w wr ∧ RcL wr wr.heap.size A l)
  case atStart => exact ⟨0, none, 0, by omega, rfl, trivial, by simp [renum, flatR], by simpa [renum, flatR] using U_y1.out, by simp [renum, flatR], by simpa [renum, flatR] using CN.nil _ _, R_y1.out, B_y1.out, G_y1.out⟩
  case round =>
    clear R_y1 B_y1 G_y1 U_y1
    obtain ⟨k, A9, c9, hkg, rfl, hcon, hfl, hU, hc9, hO, h1, h2, h3⟩ := hrel
    have U_wr := Lib.hid hU
    have O_wr := Lib.hid hO
    have R_wr := Lib.hid h1
    have B_wr := Lib.hid h2
    have G_wr := Lib.hid h3
    have HK := Lib.hid hkg
    have HC9 := Lib.hid hc9
    have HCON := Lib.hid hcon
    have HFL := Lib.hid hfl
    clear h1 h2 h3 hU hO hc9 hcon
    cases gk with
    | zero =>
      have hkl : k = l.length := by omega
      have e3 : ¬ ((k : Int) < (l.length : Int)) := by omega
      have HKL := Lib.hid hkl
      clear hkl hkg HK
      have u0 := U_wr.out.cell 0 rfl
      have u1 := U_wr.out.cell 1 rfl
      have u2 := U_wr.out.cell 2 rfl
      go_wp2_with first
        | (refine S2.wpList_store_all (by rfl) 24 (.tmp 4) (.tmp 45) rfl rfl (w.heap.size) rfl (sgC base (base + (k : Int)) A9 (flatR (renum base (l.take k))).length c9) rfl 24 (sgC 0 0 none 0 0) R_wr.out sgSize rfl (S2.all_one rfl) ?_; intro z1 hM hP; have R_z1 : Hid (BK 24 z1 (w.heap.size) (sgC base (base + (k : Int)) A9 (flatR (renum base (l.take k))).length c9)) := Lib.hid hM; have B_z1 : Hid (Below w.heap.size w z1) := Lib.hid (hP.below B_wr.out (Nat.le_refl _)); have O_z1 : Hid (CN (y0.heap.size + 1) z1 A9 (flatR (renum base (l.take k)))) := Lib.hid (CN.put O_wr.out hP (by have := ZU.out; omega)); clear hM hP R_wr B_wr U_wr O_wr)
      have hkl := HKL.out
      subst hkl
      exact bodyPost_ret (v := .tuple #[sgV base (base + (l.length : Int)) A9 (flatR (renum base (l.take l.length))).length c9, .int .i64 0]) (S2.res_cell_tmp rfl _ _ w.heap.size 24 (sgC base (base + (l.length : Int)) A9 (flatR (renum base (l.take l.length))).length c9) _ _ rfl rfl R_z1.out Try.underlying24 rfl sgSize) rfl ⟨_, _, _, _, _, _, rfl, O_z1.out.1, HC9.out, B_z1.out, fun _ => ⟨rfl, rfl, by rw [List.take_length], by have h := HCON.out; rw [List.take_length] at h; exact h, HFL.out⟩⟩
    | succ g =>
      have hlt : k < l.length := by omega
      have e3 : (k : Int) < (l.length : Int) := by omega
      obtain ⟨x, hx⟩ : ∃ x, l[k]? = some x := ⟨_, List.getElem?_eq_getElem hlt⟩
      obtain ⟨b7, o7, hA7, hbB, hcx⟩ := GL.at4 G_wr.out hx
      subst hA7
      have HG7 : Hid (b7 ≠ y0.heap.size) := Lib.hid (Nat.ne_of_lt (ZA.out b7 o7 rfl (by omega)))
      have j1 : (0 : Int) ≤ (k : Int) := by omega
      have HX := Lib.hid hx
      have X_wr : Hid (b7 < wr.heap.size ∧ ∀ i v, (rcC x)[i]? = some v → wr.cell? ⟨b7, o7 + k * 4 + i, none⟩ = some v) := Lib.hid ⟨hbB, hcx⟩
      have hxz := HZ.out x (List.mem_of_getElem? hx)
      obtain ⟨b1, n1, l1, m1, e1, hap⟩ : ∃ b1 n1 l1 m1 e1, sgApp base (base + (k : Int)) (flatR (renum base (l.take k))) x.kind x.key x.val = ((b1, n1, l1), m1, e1) := ⟨_, _, _, _, _, rfl⟩
      have HAP := Lib.hid (fun A9 c9 w h => rSgAppend_any base (base + (k : Int)) A9 c9 (flatR (renum base (l.take k))) x.kind x.key x.val w h hfl hxz)
      unfold RetSA at HAP
      rw [hap] at HAP
      dsimp only at HAP
      have HAQ := Lib.hid hap
      clear hx hcx hbB hap hxz hfl
      go_upto_region 5 with fail
      obtain ⟨z1, hz1⟩ : ∃ z1, z1 = World.drew wr := ⟨_, rfl⟩
      have hbD : Below wr.heap.size wr z1 := by rw [hz1]; exact (Below.refl _ _).drew
      have R_z1 : Hid (BK 24 z1 w.heap.size (sgC 0 0 none 0 0)) := Lib.hid (R_wr.out.step hbD)
      have B_z1 : Hid (Below w.heap.size w z1) := Lib.hid ((stepB B_wr.out hbD))
      have U_z1 : Hid (BK 24 z1 (y0.heap.size) (sgC base (base + (k : Int)) A9 (flatR (renum base (l.take k))).length c9)) := Lib.hid (U_wr.out.step hbD)
      have O_z1 : Hid (CN (y0.heap.size + 1) z1 A9 (flatR (renum base (l.take k)))) := Lib.hid (O_wr.out.step hbD)
      have G_z1 : Hid (RcL z1 z1.heap.size (some ⟨b7, o7, none⟩) l) := Lib.hid (G_wr.out.step hbD)
      have X_z1 : Hid ((b7 < z1.heap.size ∧ ∀ i v, (rcC x)[i]? = some v → z1.cell? ⟨b7, o7 + k * 4 + i, none⟩ = some v)) := Lib.hid (⟨Nat.lt_of_lt_of_le X_wr.out.1 hbD.size, fun i u hu => (hbD.cell (p := ⟨b7, o7 + k * 4 + i, none⟩) X_wr.out.1).trans (X_wr.out.2 i u hu)⟩)
      clear R_wr B_wr U_wr O_wr G_wr X_wr
      have hbd : (fun w' => (b7 < w'.heap.size ∧ ∀ i v, (rcC x)[i]? = some v → w'.cell? ⟨b7, o7 + k * 4 + i, none⟩ = some v) ∧ BK 24 w' (y0.heap.size) (sgC base (base + (k : Int)) A9 (flatR (renum base (l.take k))).length c9)) (World.drew wr) := by rw [← hz1]; exact ⟨X_z1.out, U_z1.out⟩
      have hSD : (fun w' => (b7 < w'.heap.size ∧ ∀ i v, (rcC x)[i]? = some v → w'.cell? ⟨b7, o7 + k * 4 + i, none⟩ = some v) ∧ BK 24 w' (y0.heap.size) (sgC base (base + (k : Int)) A9 (flatR (renum base (l.take k))).length c9)) z1 := ⟨X_z1.out, U_z1.out⟩
      have HWD := Lib.hid hz1
      clear hz1 hbD
      refine wp_region_held_drew (S := fun w' => (b7 < w'.heap.size ∧ ∀ i v, (rcC x)[i]? = some v → w'.cell? ⟨b7, o7 + k * 4 + i, none⟩ = some v) ∧ BK 24 w' (y0.heap.size) (sgC base (base + (k : Int)) A9 (flatR (renum base (l.take k))).length c9)) (by kernel_rfl) hbd (fun hHeld => ?_)
      rw [← HWD.out]
      clear hHeld
      have hHeld := hSD
      clear hSD hbd HWD
      refine wpAnyH_take (i := 0) (v := (sgV base (base + (k : Int)) A9 (flatR (renum base (l.take k))).length c9)) (get_ops _ _ _ rfl) (by kernel_rfl) (by kernel_rfl) (by kernel_rfl) (fun _ _ _ h => h) (Or.inl ⟨by rfl, fun wS hSw => by (try dsimp only at hSw); have c0 := hSw.2.cell 0 rfl; have c1 := hSw.2.cell 1 rfl; have c2 := hSw.2.cell 2 rfl; clear hSw; go_simp; rfl⟩) hHeld ?_
      try simp only [Act.put, List.setIfInBounds_toArray, List.set_cons_zero, List.set_cons_succ]
      refine wpAnyH_take (i := 1) (v := (.slice (some ⟨b7, o7, none⟩) l.length c)) (get_ops _ _ _ rfl) (by kernel_rfl) (by kernel_rfl) (by kernel_rfl) (fun _ _ _ h => h) (Or.inl ⟨by rfl, fun wS hSw => by (try dsimp only at hSw); go_simp⟩) hHeld ?_
      try simp only [Act.put, List.setIfInBounds_toArray, List.set_cons_zero, List.set_cons_succ]
      refine wpAnyH_take (i := 2) (v := (.int .i64 k)) (get_ops _ _ _ rfl) (by kernel_rfl) (by kernel_rfl) (by kernel_rfl) (fun _ _ _ h => h) (Or.inl ⟨by rfl, fun wS hSw => by (try dsimp only at hSw); go_simp⟩) hHeld ?_
      try simp only [Act.put, List.setIfInBounds_toArray, List.set_cons_zero, List.set_cons_succ]
      refine wpAnyH_take (i := 3) (v := (.pointer (some ⟨b7, o7 + k * 4, none⟩))) (get_ops _ _ _ rfl) (by kernel_rfl) (by kernel_rfl) (by kernel_rfl) (fun _ _ _ h => h) (Or.inl ⟨by rfl, fun wS hSw => by (try dsimp only at hSw); go_simp⟩) hHeld ?_
      try simp only [Act.put, List.setIfInBounds_toArray, List.set_cons_zero, List.set_cons_succ]
      refine wpAnyH_take (i := 4) (v := (.pointer (some ⟨b7, o7 + k * 4 + 1, none⟩))) (get_ops _ _ _ rfl) (by kernel_rfl) (by kernel_rfl) (by kernel_rfl) (fun _ _ _ h => h) (Or.inl ⟨by rfl, fun wS hSw => by (try dsimp only at hSw); go_simp⟩) hHeld ?_
      try simp only [Act.put, List.setIfInBounds_toArray, List.set_cons_zero, List.set_cons_succ]
      refine wpAnyH_take (i := 5) (v := (.int .i64 x.kind)) (get_ops _ _ _ rfl) (by kernel_rfl) (by kernel_rfl) (by kernel_rfl) (fun _ _ _ h => h) (Or.inl ⟨by rfl, fun wS hSw => by (try dsimp only at hSw); have cS := hSw.1.2 1 _ rfl; clear hSw; go_simp⟩) hHeld ?_
      try simp only [Act.put, List.setIfInBounds_toArray, List.set_cons_zero, List.set_cons_succ]
      refine wpAnyH_take (i := 6) (v := (.slice (some ⟨b7, o7, none⟩) l.length c)) (get_ops _ _ _ rfl) (by kernel_rfl) (by kernel_rfl) (by kernel_rfl) (fun _ _ _ h => h) (Or.inl ⟨by rfl, fun wS hSw => by (try dsimp only at hSw); go_simp⟩) hHeld ?_
      try simp only [Act.put, List.setIfInBounds_toArray, List.set_cons_zero, List.set_cons_succ]
      refine wpAnyH_take (i := 7) (v := (.int .i64 k)) (get_ops _ _ _ rfl) (by kernel_rfl) (by kernel_rfl) (by kernel_rfl) (fun _ _ _ h => h) (Or.inl ⟨by rfl, fun wS hSw => by (try dsimp only at hSw); go_simp⟩) hHeld ?_
      try simp only [Act.put, List.setIfInBounds_toArray, List.set_cons_zero, List.set_cons_succ]
      refine wpAnyH_take (i := 8) (v := (.pointer (some ⟨b7, o7 + k * 4, none⟩))) (get_ops _ _ _ rfl) (by kernel_rfl) (by kernel_rfl) (by kernel_rfl) (fun _ _ _ h => h) (Or.inl ⟨by rfl, fun wS hSw => by (try dsimp only at hSw); go_simp⟩) hHeld ?_
      try simp only [Act.put, List.setIfInBounds_toArray, List.set_cons_zero, List.set_cons_succ]
      refine wpAnyH_take (i := 9) (v := (.pointer (some ⟨b7, o7 + k * 4 + 2, none⟩))) (get_ops _ _ _ rfl) (by kernel_rfl) (by kernel_rfl) (by kernel_rfl) (fun _ _ _ h => h) (Or.inl ⟨by rfl, fun wS hSw => by (try dsimp only at hSw); go_simp⟩) hHeld ?_
      try simp only [Act.put, List.setIfInBounds_toArray, List.set_cons_zero, List.set_cons_succ]
      refine wpAnyH_take (i := 10) (v := (.string x.key)) (get_ops _ _ _ rfl) (by kernel_rfl) (by kernel_rfl) (by kernel_rfl) (fun _ _ _ h => h) (Or.inl ⟨by rfl, fun wS hSw => by (try dsimp only at hSw); have cS := hSw.1.2 2 _ rfl; clear hSw; go_simp⟩) hHeld ?_
      try simp only [Act.put, List.setIfInBounds_toArray, List.set_cons_zero, List.set_cons_succ]
      refine wpAnyH_take (i := 11) (v := (.slice (some ⟨b7, o7, none⟩) l.length c)) (get_ops _ _ _ rfl) (by kernel_rfl) (by kernel_rfl) (by kernel_rfl) (fun _ _ _ h => h) (Or.inl ⟨by rfl, fun wS hSw => by (try dsimp only at hSw); go_simp⟩) hHeld ?_
      try simp only [Act.put, List.setIfInBounds_toArray, List.set_cons_zero, List.set_cons_succ]
      refine wpAnyH_take (i := 12) (v := (.int .i64 k)) (get_ops _ _ _ rfl) (by kernel_rfl) (by kernel_rfl) (by kernel_rfl) (fun _ _ _ h => h) (Or.inl ⟨by rfl, fun wS hSw => by (try dsimp only at hSw); go_simp⟩) hHeld ?_
      try simp only [Act.put, List.setIfInBounds_toArray, List.set_cons_zero, List.set_cons_succ]
      refine wpAnyH_take (i := 13) (v := (.pointer (some ⟨b7, o7 + k * 4, none⟩))) (get_ops _ _ _ rfl) (by kernel_rfl) (by kernel_rfl) (by kernel_rfl) (fun _ _ _ h => h) (Or.inl ⟨by rfl, fun wS hSw => by (try dsimp only at hSw); go_simp⟩) hHeld ?_
      try simp only [Act.put, List.setIfInBounds_toArray, List.set_cons_zero, List.set_cons_succ]
      refine wpAnyH_take (i := 14) (v := (.pointer (some ⟨b7, o7 + k * 4 + 3, none⟩))) (get_ops _ _ _ rfl) (by kernel_rfl) (by kernel_rfl) (by kernel_rfl) (fun _ _ _ h => h) (Or.inl ⟨by rfl, fun wS hSw => by (try dsimp only at hSw); go_simp⟩) hHeld ?_
      try simp only [Act.put, List.setIfInBounds_toArray, List.set_cons_zero, List.set_cons_succ]
      refine wpAnyH_take (i := 15) (v := (.string x.val)) (get_ops _ _ _ rfl) (by kernel_rfl) (by kernel_rfl) (by kernel_rfl) (fun _ _ _ h => h) (Or.inl ⟨by rfl, fun wS hSw => by (try dsimp only at hSw); have cS := hSw.1.2 3 _ rfl; clear hSw; go_simp⟩) hHeld ?_
      try simp only [Act.put, List.setIfInBounds_toArray, List.set_cons_zero, List.set_cons_succ]
      refine wpAnyH_ready (rs := [16, 21]) (by kernel_rfl) (by simp) ?_
      refine (AllReadyH.cons (get_ops _ _ _ rfl) (fun K hK => ?_) (AllReadyH.cons (get_ops _ _ _ rfl) (fun K hK => ?_) AllReadyH.nil))
      · have ZL : Hid (y0.heap.size + 1 ≤ z1.heap.size) := Lib.hid U_z1.out.lt
        go_simp
        refine (HAP.out A9 c9 z1 O_z1.out.1).mono ?_
        rintro e z2 ⟨A1, c1, rfl, hc1, hN, hb⟩
        have R_z2 : Hid (BK 24 z2 w.heap.size (sgC 0 0 none 0 0)) := Lib.hid (R_z1.out.step hb)
        have B_z2 : Hid (Below w.heap.size w z2) := Lib.hid ((stepB B_z1.out hb))
        have U_z2 : Hid (BK 24 z2 (y0.heap.size) (sgC base (base + (k : Int)) A9 (flatR (renum base (l.take k))).length c9)) := Lib.hid (U_z1.out.step hb)
        have O_z2 : Hid (CN (y0.heap.size + 1) z2 A9 (flatR (renum base (l.take k)))) := Lib.hid (O_z1.out.step hb)
        have G_z2 : Hid (RcL z2 z2.heap.size (some ⟨b7, o7, none⟩) l) := Lib.hid (G_z1.out.step hb)
        have X_z2 : Hid ((b7 < z2.heap.size ∧ ∀ i v, (rcC x)[i]? = some v → z2.cell? ⟨b7, o7 + k * 4 + i, none⟩ = some v)) := Lib.hid (⟨Nat.lt_of_lt_of_le X_z1.out.1 hb.size, fun i u hu => (hb.cell (p := ⟨b7, o7 + k * 4 + i, none⟩) X_z1.out.1).trans (X_z1.out.2 i u hu)⟩)
        clear R_z1 B_z1 U_z1 O_z1 G_z1 X_z1
        have N_z2 : Hid (CN (y0.heap.size + 1) z2 A1 l1) := Lib.hid (hN.weak ZL.out)
        have HC1 := Lib.hid hc1
        clear hN hc1
        clear hHeld hb
        go_wp2_with fail
        refine hK.out _ _ ⟨X_z2.out, U_z2.out⟩ (fun hHeld => ?_)
        clear hK K
        try simp only [Act.put, List.setIfInBounds_toArray, List.set_cons_zero, List.set_cons_succ]
        refine wpAnyH_take (i := 17) (v := (.tuple #[sgV b1 n1 A1 l1.length c1, .int .i64 m1, .int .i64 e1])) (get_ops _ _ _ rfl) (by kernel_rfl) (by kernel_rfl) (by kernel_rfl) (fun _ _ _ h => h) (Or.inl ⟨by rfl, fun wS hSw => by (try dsimp only at hSw); go_simp⟩) hHeld ?_
        try simp only [Act.put, List.setIfInBounds_toArray, List.set_cons_zero, List.set_cons_succ]
        refine wpAnyH_take (i := 18) (v := (sgV b1 n1 A1 l1.length c1)) (get_ops _ _ _ rfl) (by kernel_rfl) (by kernel_rfl) (by kernel_rfl) (fun _ _ _ h => h) (Or.inl ⟨by rfl, fun wS hSw => by (try dsimp only at hSw); go_simp⟩) hHeld ?_
        try simp only [Act.put, List.setIfInBounds_toArray, List.set_cons_zero, List.set_cons_succ]
        refine wpAnyH_take (i := 19) (v := (.int .i64 m1)) (get_ops _ _ _ rfl) (by kernel_rfl) (by kernel_rfl) (by kernel_rfl) (fun _ _ _ h => h) (Or.inl ⟨by rfl, fun wS hSw => by (try dsimp only at hSw); go_simp⟩) hHeld ?_
        try simp only [Act.put, List.setIfInBounds_toArray, List.set_cons_zero, List.set_cons_succ]
        refine wpAnyH_take (i := 20) (v := (.int .i64 e1)) (get_ops _ _ _ rfl) (by kernel_rfl) (by kernel_rfl) (by kernel_rfl) (fun _ _ _ h => h) (Or.inl ⟨by rfl, fun wS hSw => by (try dsimp only at hSw); go_simp⟩) hHeld ?_
        try simp only [Act.put, List.setIfInBounds_toArray, List.set_cons_zero, List.set_cons_succ]
        refine wpAnyH_ready (rs := [21]) (by kernel_rfl) (by simp) ?_
        refine (AllReadyH.cons (get_ops _ _ _ rfl) (fun K hK => ?_) AllReadyH.nil)
        have ZT : Hid (y0.heap.size < z2.heap.size) := Lib.hid U_z2.out.lt
        have ZX : Hid (b7 < z2.heap.size) := Lib.hid X_z2.out.1
        have ZO : Hid (∀ b o, A9 = some ⟨b, o, none⟩ → 0 < (flatR (renum base (l.take k))).length → b ≠ z2.heap.size) := Lib.hid (fun b o e hn => Nat.ne_of_lt (O_z2.out.low b o e hn))
        have ZB : Hid (w.heap.size ≤ z2.heap.size) := Lib.hid B_z2.out.size
        have ZN : Hid (∀ b o, A1 = some ⟨b, o, none⟩ → 0 < l1.length → b ≠ z2.heap.size) := Lib.hid (fun b o e hn => Nat.ne_of_lt (N_z2.out.low b o e hn))
        go_simp
        obtain ⟨z3, hz3⟩ : ∃ z3, z3 = z2.alloc (.cells (sgC 0 0 none 0 0).toArray 24) := ⟨_, rfl⟩
        have hb : Below z2.heap.size z2 z3 := by rw [hz3]; exact S2.below_new _ _
        have hN : BK 24 z3 (z2.heap.size) (sgC 0 0 none 0 0) := by rw [hz3]; exact BK.new _ _ _
        have R_z3 : Hid (BK 24 z3 w.heap.size (sgC 0 0 none 0 0)) := Lib.hid (R_z2.out.step hb)
        have B_z3 : Hid (Below w.heap.size w z3) := Lib.hid ((stepB B_z2.out hb))
        have U_z3 : Hid (BK 24 z3 (y0.heap.size) (sgC base (base + (k : Int)) A9 (flatR (renum base (l.take k))).length c9)) := Lib.hid (U_z2.out.step hb)
        have O_z3 : Hid (CN (y0.heap.size + 1) z3 A9 (flatR (renum base (l.take k)))) := Lib.hid (O_z2.out.step hb)
        have G_z3 : Hid (RcL z3 z3.heap.size (some ⟨b7, o7, none⟩) l) := Lib.hid (G_z2.out.step hb)
        have X_z3 : Hid ((b7 < z3.heap.size ∧ ∀ i v, (rcC x)[i]? = some v → z3.cell? ⟨b7, o7 + k * 4 + i, none⟩ = some v)) := Lib.hid (⟨Nat.lt_of_lt_of_le X_z2.out.1 hb.size, fun i u hu => (hb.cell (p := ⟨b7, o7 + k * 4 + i, none⟩) X_z2.out.1).trans (X_z2.out.2 i u hu)⟩)
        have N_z3 : Hid (CN (y0.heap.size + 1) z3 A1 l1) := Lib.hid (N_z2.out.step hb)
        clear R_z2 B_z2 U_z2 O_z2 G_z2 X_z2 N_z2
        have T_z3 := Lib.hid hN
        try rw [← hz3]
        clear hHeld hb hN hz3
        refine hK.out _ _ ⟨X_z3.out, U_z3.out⟩ (fun hHeld => ?_)
        clear hK K
        try simp only [Act.put, List.setIfInBounds_toArray, List.set_cons_zero, List.set_cons_succ]
        refine wpAnyH_ready (rs := [22]) (by kernel_rfl) (by simp) ?_
        refine (AllReadyH.cons (get_ops _ _ _ rfl) (fun K hK => ?_) AllReadyH.nil)
        refine S2.wp_store_all 24 _ _ rfl rfl (z2.heap.size) (by go_simp) (sgC b1 n1 A1 l1.length c1) (by first | rfl | go_simp) 24 (sgC 0 0 none 0 0) T_z3.out sgSize rfl (S2.all_one rfl) ?_
        intro z4 hM hP
        have T_z4 : Hid (BK 24 z4 (z2.heap.size) (sgC b1 n1 A1 l1.length c1)) := Lib.hid (hM)
        have R_z4 : Hid (BK 24 z4 w.heap.size (sgC 0 0 none 0 0)) := Lib.hid (hP.other R_z3.out (by have := ZU.out; have := ZT.out; omega))
        have B_z4 : Hid (Below w.heap.size w z4) := Lib.hid (hP.below B_z3.out ZB.out)
        have U_z4 : Hid (BK 24 z4 (y0.heap.size) (sgC base (base + (k : Int)) A9 (flatR (renum base (l.take k))).length c9)) := Lib.hid (hP.other U_z3.out (by have := ZT.out; omega))
        have O_z4 : Hid (CN (y0.heap.size + 1) z4 A9 (flatR (renum base (l.take k)))) := Lib.hid (CN.put2 O_z3.out hP ZO.out)
        have G_z4 : Hid (RcL z4 z4.heap.size (some ⟨b7, o7, none⟩) l) := Lib.hid (GLput G_z3.out hP (Nat.ne_of_lt ZX.out))
        have X_z4 : Hid ((b7 < z4.heap.size ∧ ∀ i v, (rcC x)[i]? = some v → z4.cell? ⟨b7, o7 + k * 4 + i, none⟩ = some v)) := Lib.hid (⟨by rw [hP.size]; exact X_z3.out.1, fun i u hu => (hP.cell (p := ⟨b7, o7 + k * 4 + i, none⟩) (Nat.ne_of_lt ZX.out)).trans (X_z3.out.2 i u hu)⟩)
        have N_z4 : Hid (CN (y0.heap.size + 1) z4 A1 l1) := Lib.hid (CN.put2 N_z3.out hP ZN.out)
        clear R_z3 B_z3 U_z3 O_z3 G_z3 X_z3 N_z3 T_z3
        clear hM hP hHeld
        refine hK.out _ _ ⟨X_z4.out, U_z4.out⟩ (fun hHeld => ?_)
        clear hK K
        try simp only [Act.put, List.setIfInBounds_toArray, List.set_cons_zero, List.set_cons_succ]
        refine wpAnyH_take (i := 23) (v := (.int .i64 m1)) (get_ops _ _ _ rfl) (by kernel_rfl) (by kernel_rfl) (by kernel_rfl) (fun _ _ _ h => h) (Or.inl ⟨by rfl, fun wS hSw => by (try dsimp only at hSw); go_simp⟩) hHeld ?_
        try simp only [Act.put, List.setIfInBounds_toArray, List.set_cons_zero, List.set_cons_succ]
        refine wpAnyH_take (i := 24) (v := (.int .i64 e1)) (get_ops _ _ _ rfl) (by kernel_rfl) (by kernel_rfl) (by kernel_rfl) (fun _ _ _ h => h) (Or.inl ⟨by rfl, fun wS hSw => by (try dsimp only at hSw); go_simp⟩) hHeld ?_
        try simp only [Act.put, List.setIfInBounds_toArray, List.set_cons_zero, List.set_cons_succ]
        refine wpAnyH_done (by kernel_rfl) ?_ _
        by_cases he : e1 ≠ 0
        · have hq : (e1 != 0) = true := by simp [he]
          go_wp2_with first
            | (refine S2.wpList_store_all (by rfl) 24 (.tmp 4) (.tmp 42) rfl rfl (w.heap.size) rfl (sgC 0 0 none 0 0) rfl 24 (sgC 0 0 none 0 0) R_z4.out sgSize rfl (S2.all_one rfl) ?_; intro z5 hM hP; have R_z5 : Hid (BK 24 z5 (w.heap.size) (sgC 0 0 none 0 0)) := Lib.hid hM; have B_z5 : Hid (Below w.heap.size w z5) := Lib.hid (hP.below B_z4.out (Nat.le_refl _)); have O_z5 : Hid (CN (y0.heap.size + 1) z5 A9 (flatR (renum base (l.take k)))) := Lib.hid (CN.put O_z4.out hP (by have := ZU.out; omega)); clear hM hP R_z4 B_z4 U_z4 O_z4 G_z4 X_z4 N_z4 T_z4)
          exact bodyPost_ret (v := .tuple #[sgV 0 0 none 0 0, .int .i64 e1]) (S2.res_cell_tmp rfl _ _ w.heap.size 24 (sgC 0 0 none 0 0) _ _ rfl rfl R_z5.out Try.underlying24 rfl sgSize) rfl ⟨0, 0, none, [], 0, e1, rfl, CL.nil _ _ _, Nat.le_refl _, B_z5.out, fun h => absurd h he⟩
        obtain rfl : e1 = 0 := by omega
        obtain ⟨rfl, rfl, rfl, hcn, hle⟩ := renum_step HX.out HCON.out HAQ.out
        have HCN := Lib.hid hcn
        have HLE := Lib.hid hle
        clear hcn hle HAQ
        have t0 := T_z4.out.cell 0 rfl
        have t1 := T_z4.out.cell 1 rfl
        have t2 := T_z4.out.cell 2 rfl
        go_wp2_with first
          | (refine S2.wpList_store_all (by rfl) 24 (.tmp 6) (.tmp 44) rfl rfl (y0.heap.size) rfl (sgC base (base + (k : Int) + 1) A1 (flatR (renum base (l.take (k + 1)))).length c1) rfl 24 (sgC base (base + (k : Int)) A9 (flatR (renum base (l.take k))).length c9) U_z4.out sgSize rfl (S2.all_one rfl) ?_; intro z5 hM hP; have U_z5 : Hid (BK 24 z5 (y0.heap.size) (sgC base (base + (k : Int) + 1) A1 (flatR (renum base (l.take (k + 1)))).length c1)) := Lib.hid hM; have R_z5 : Hid (BK 24 z5 w.heap.size (sgC 0 0 none 0 0)) := Lib.hid (hP.other R_z4.out (by have := ZU.out; omega)); have B_z5 : Hid (Below w.heap.size w z5) := Lib.hid (hP.below B_z4.out (Nat.le_of_lt ZU.out)); have G_z5 : Hid (RcL z5 z5.heap.size (some ⟨b7, o7, none⟩) l) := Lib.hid (GLput G_z4.out hP HG7.out); have X_z5 : Hid ((b7 < z5.heap.size ∧ ∀ i v, (rcC x)[i]? = some v → z5.cell? ⟨b7, o7 + k * 4 + i, none⟩ = some v)) := Lib.hid (⟨by rw [hP.size]; exact X_z4.out.1, fun i u hu => (hP.cell (p := ⟨b7, o7 + k * 4 + i, none⟩) HG7.out).trans (X_z4.out.2 i u hu)⟩); have N_z5 : Hid (CN (y0.heap.size + 1) z5 A1 (flatR (renum base (l.take (k + 1))))) := Lib.hid (CN.put N_z4.out hP (Nat.lt_succ_self _)); clear hM hP R_z4 B_z4 U_z4 O_z4 G_z4 X_z4 N_z4 T_z4)
        go_roundg g
        case measure => omega
        case rel => exact ⟨k + 1, A1, c1, by have := HK.out; omega, by go_num, HCN.out, HLE.out, (by have hU2 := U_z5.out; rw [show base + ((k + 1 : Nat) : Int) = base + (k : Int) + 1 by omega]; exact hU2), HC1.out, N_z5.out, R_z5.out, B_z5.out, G_z5.out⟩
      · have ZT : Hid (y0.heap.size < z1.heap.size) := Lib.hid U_z1.out.lt
        have ZX : Hid (b7 < z1.heap.size) := Lib.hid X_z1.out.1
        have ZO : Hid (∀ b o, A9 = some ⟨b, o, none⟩ → 0 < (flatR (renum base (l.take k))).length → b ≠ z1.heap.size) := Lib.hid (fun b o e hn => Nat.ne_of_lt (O_z1.out.low b o e hn))
        have ZB : Hid (w.heap.size ≤ z1.heap.size) := Lib.hid B_z1.out.size
        go_simp
        obtain ⟨z2, hz2⟩ : ∃ z2, z2 = z1.alloc (.cells (sgC 0 0 none 0 0).toArray 24) := ⟨_, rfl⟩
        have hb : Below z1.heap.size z1 z2 := by rw [hz2]; exact S2.below_new _ _
        have hN : BK 24 z2 (z1.heap.size) (sgC 0 0 none 0 0) := by rw [hz2]; exact BK.new _ _ _
        have R_z2 : Hid (BK 24 z2 w.heap.size (sgC 0 0 none 0 0)) := Lib.hid (R_z1.out.step hb)
        have B_z2 : Hid (Below w.heap.size w z2) := Lib.hid ((stepB B_z1.out hb))
        have U_z2 : Hid (BK 24 z2 (y0.heap.size) (sgC base (base + (k : Int)) A9 (flatR (renum base (l.take k))).length c9)) := Lib.hid (U_z1.out.step hb)
        have O_z2 : Hid (CN (y0.heap.size + 1) z2 A9 (flatR (renum base (l.take k)))) := Lib.hid (O_z1.out.step hb)
        have G_z2 : Hid (RcL z2 z2.heap.size (some ⟨b7, o7, none⟩) l) := Lib.hid (G_z1.out.step hb)
        have X_z2 : Hid ((b7 < z2.heap.size ∧ ∀ i v, (rcC x)[i]? = some v → z2.cell? ⟨b7, o7 + k * 4 + i, none⟩ = some v)) := Lib.hid (⟨Nat.lt_of_lt_of_le X_z1.out.1 hb.size, fun i u hu => (hb.cell (p := ⟨b7, o7 + k * 4 + i, none⟩) X_z1.out.1).trans (X_z1.out.2 i u hu)⟩)
        clear R_z1 B_z1 U_z1 O_z1 G_z1 X_z1
        have T_z2 := Lib.hid hN
        try rw [← hz2]
        clear hHeld hb hN hz2
        refine hK.out _ _ ⟨X_z2.out, U_z2.out⟩ (fun hHeld => ?_)
        clear hK K
        try simp only [Act.put, List.setIfInBounds_toArray, List.set_cons_zero, List.set_cons_succ]
        refine wpAnyH_ready (rs := [16]) (by kernel_rfl) (by simp) ?_
        refine (AllReadyH.cons (get_ops _ _ _ rfl) (fun K hK => ?_) AllReadyH.nil)
        have ZL : Hid (y0.heap.size + 1 ≤ z2.heap.size) := Lib.hid U_z2.out.lt
        have ZC0 : Hid (z1.heap.size < z2.heap.size) := Lib.hid T_z2.out.lt
        go_simp
        refine (HAP.out A9 c9 z2 O_z2.out.1).mono ?_
        rintro e z3 ⟨A1, c1, rfl, hc1, hN, hb⟩
        have R_z3 : Hid (BK 24 z3 w.heap.size (sgC 0 0 none 0 0)) := Lib.hid (R_z2.out.step hb)
        have B_z3 : Hid (Below w.heap.size w z3) := Lib.hid ((stepB B_z2.out hb))
        have U_z3 : Hid (BK 24 z3 (y0.heap.size) (sgC base (base + (k : Int)) A9 (flatR (renum base (l.take k))).length c9)) := Lib.hid (U_z2.out.step hb)
        have O_z3 : Hid (CN (y0.heap.size + 1) z3 A9 (flatR (renum base (l.take k)))) := Lib.hid (O_z2.out.step hb)
        have G_z3 : Hid (RcL z3 z3.heap.size (some ⟨b7, o7, none⟩) l) := Lib.hid (G_z2.out.step hb)
        have X_z3 : Hid ((b7 < z3.heap.size ∧ ∀ i v, (rcC x)[i]? = some v → z3.cell? ⟨b7, o7 + k * 4 + i, none⟩ = some v)) := Lib.hid (⟨Nat.lt_of_lt_of_le X_z2.out.1 hb.size, fun i u hu => (hb.cell (p := ⟨b7, o7 + k * 4 + i, none⟩) X_z2.out.1).trans (X_z2.out.2 i u hu)⟩)
        have T_z3 : Hid (BK 24 z3 (z1.heap.size) (sgC 0 0 none 0 0)) := Lib.hid (T_z2.out.step hb)
        clear R_z2 B_z2 U_z2 O_z2 G_z2 X_z2 T_z2
        have ZN : Hid (∀ b o, A1 = some ⟨b, o, none⟩ → 0 < l1.length → b ≠ z1.heap.size) := Lib.hid (fun b o e _ => by have h1 := hN.2 b o e; have h2 := ZC0.out; omega)
        have N_z3 : Hid (CN (y0.heap.size + 1) z3 A1 l1) := Lib.hid (hN.weak ZL.out)
        have HC1 := Lib.hid hc1
        clear hN hc1
        clear hHeld hb
        go_wp2_with fail
        refine hK.out _ _ ⟨X_z3.out, U_z3.out⟩ (fun hHeld => ?_)
        clear hK K
        try simp only [Act.put, List.setIfInBounds_toArray, List.set_cons_zero, List.set_cons_succ]
        refine wpAnyH_take (i := 17) (v := (.tuple #[sgV b1 n1 A1 l1.length c1, .int .i64 m1, .int .i64 e1])) (get_ops _ _ _ rfl) (by kernel_rfl) (by kernel_rfl) (by kernel_rfl) (fun _ _ _ h => h) (Or.inl ⟨by rfl, fun wS hSw => by (try dsimp only at hSw); go_simp⟩) hHeld ?_
        try simp only [Act.put, List.setIfInBounds_toArray, List.set_cons_zero, List.set_cons_succ]
        refine wpAnyH_take (i := 18) (v := (sgV b1 n1 A1 l1.length c1)) (get_ops _ _ _ rfl) (by kernel_rfl) (by kernel_rfl) (by kernel_rfl) (fun _ _ _ h => h) (Or.inl ⟨by rfl, fun wS hSw => by (try dsimp only at hSw); go_simp⟩) hHeld ?_
        try simp only [Act.put, List.setIfInBounds_toArray, List.set_cons_zero, List.set_cons_succ]
        refine wpAnyH_take (i := 19) (v := (.int .i64 m1)) (get_ops _ _ _ rfl) (by kernel_rfl) (by kernel_rfl) (by kernel_rfl) (fun _ _ _ h => h) (Or.inl ⟨by rfl, fun wS hSw => by (try dsimp only at hSw); go_simp⟩) hHeld ?_
        try simp only [Act.put, List.setIfInBounds_toArray, List.set_cons_zero, List.set_cons_succ]
        refine wpAnyH_take (i := 20) (v := (.int .i64 e1)) (get_ops _ _ _ rfl) (by kernel_rfl) (by kernel_rfl) (by kernel_rfl) (fun _ _ _ h => h) (Or.inl ⟨by rfl, fun wS hSw => by (try dsimp only at hSw); go_simp⟩) hHeld ?_
        try simp only [Act.put, List.setIfInBounds_toArray, List.set_cons_zero, List.set_cons_succ]
        refine wpAnyH_ready (rs := [22]) (by kernel_rfl) (by simp) ?_
        refine (AllReadyH.cons (get_ops _ _ _ rfl) (fun K hK => ?_) AllReadyH.nil)
        refine S2.wp_store_all 24 _ _ rfl rfl (z1.heap.size) (by go_simp) (sgC b1 n1 A1 l1.length c1) (by first | rfl | go_simp) 24 (sgC 0 0 none 0 0) T_z3.out sgSize rfl (S2.all_one rfl) ?_
        intro z4 hM hP
        have T_z4 : Hid (BK 24 z4 (z1.heap.size) (sgC b1 n1 A1 l1.length c1)) := Lib.hid (hM)
        have R_z4 : Hid (BK 24 z4 w.heap.size (sgC 0 0 none 0 0)) := Lib.hid (hP.other R_z3.out (by have := ZU.out; have := ZT.out; omega))
        have B_z4 : Hid (Below w.heap.size w z4) := Lib.hid (hP.below B_z3.out ZB.out)
        have U_z4 : Hid (BK 24 z4 (y0.heap.size) (sgC base (base + (k : Int)) A9 (flatR (renum base (l.take k))).length c9)) := Lib.hid (hP.other U_z3.out (by have := ZT.out; omega))
        have O_z4 : Hid (CN (y0.heap.size + 1) z4 A9 (flatR (renum base (l.take k)))) := Lib.hid (CN.put2 O_z3.out hP ZO.out)
        have G_z4 : Hid (RcL z4 z4.heap.size (some ⟨b7, o7, none⟩) l) := Lib.hid (GLput G_z3.out hP (Nat.ne_of_lt ZX.out))
        have X_z4 : Hid ((b7 < z4.heap.size ∧ ∀ i v, (rcC x)[i]? = some v → z4.cell? ⟨b7, o7 + k * 4 + i, none⟩ = some v)) := Lib.hid (⟨by rw [hP.size]; exact X_z3.out.1, fun i u hu => (hP.cell (p := ⟨b7, o7 + k * 4 + i, none⟩) (Nat.ne_of_lt ZX.out)).trans (X_z3.out.2 i u hu)⟩)
        have N_z4 : Hid (CN (y0.heap.size + 1) z4 A1 l1) := Lib.hid (CN.put2 N_z3.out hP ZN.out)
        clear R_z3 B_z3 U_z3 O_z3 G_z3 X_z3 T_z3 N_z3
        clear hM hP hHeld
        refine hK.out _ _ ⟨X_z4.out, U_z4.out⟩ (fun hHeld => ?_)
        clear hK K
        try simp only [Act.put, List.setIfInBounds_toArray, List.set_cons_zero, List.set_cons_succ]
        refine wpAnyH_take (i := 23) (v := (.int .i64 m1)) (get_ops _ _ _ rfl) (by kernel_rfl) (by kernel_rfl) (by kernel_rfl) (fun _ _ _ h => h) (Or.inl ⟨by rfl, fun wS hSw => by (try dsimp only at hSw); go_simp⟩) hHeld ?_
        try simp only [Act.put, List.setIfInBounds_toArray, List.set_cons_zero, List.set_cons_succ]
        refine wpAnyH_take (i := 24) (v := (.int .i64 e1)) (get_ops _ _ _ rfl) (by kernel_rfl) (by kernel_rfl) (by kernel_rfl) (fun _ _ _ h => h) (Or.inl ⟨by rfl, fun wS hSw => by (try dsimp only at hSw); go_simp⟩) hHeld ?_
        try simp only [Act.put, List.setIfInBounds_toArray, List.set_cons_zero, List.set_cons_succ]
        refine wpAnyH_done (by kernel_rfl) ?_ _
        by_cases he : e1 ≠ 0
        · have hq : (e1 != 0) = true := by simp [he]
          go_wp2_with first
            | (refine S2.wpList_store_all (by rfl) 24 (.tmp 4) (.tmp 42) rfl rfl (w.heap.size) rfl (sgC 0 0 none 0 0) rfl 24 (sgC 0 0 none 0 0) R_z4.out sgSize rfl (S2.all_one rfl) ?_; intro z5 hM hP; have R_z5 : Hid (BK 24 z5 (w.heap.size) (sgC 0 0 none 0 0)) := Lib.hid hM; have B_z5 : Hid (Below w.heap.size w z5) := Lib.hid (hP.below B_z4.out (Nat.le_refl _)); have O_z5 : Hid (CN (y0.heap.size + 1) z5 A9 (flatR (renum base (l.take k)))) := Lib.hid (CN.put O_z4.out hP (by have := ZU.out; omega)); clear hM hP R_z4 B_z4 U_z4 O_z4 G_z4 X_z4 T_z4 N_z4)
          exact bodyPost_ret (v := .tuple #[sgV 0 0 none 0 0, .int .i64 e1]) (S2.res_cell_tmp rfl _ _ w.heap.size 24 (sgC 0 0 none 0 0) _ _ rfl rfl R_z5.out Try.underlying24 rfl sgSize) rfl ⟨0, 0, none, [], 0, e1, rfl, CL.nil _ _ _, Nat.le_refl _, B_z5.out, fun h => absurd h he⟩
        obtain rfl : e1 = 0 := by omega
        obtain ⟨rfl, rfl, rfl, hcn, hle⟩ := renum_step HX.out HCON.out HAQ.out
        have HCN := Lib.hid hcn
        have HLE := Lib.hid hle
        clear hcn hle HAQ
        have t0 := T_z4.out.cell 0 rfl
        have t1 := T_z4.out.cell 1 rfl
        have t2 := T_z4.out.cell 2 rfl
        go_wp2_with first
          | (refine S2.wpList_store_all (by rfl) 24 (.tmp 6) (.tmp 44) rfl rfl (y0.heap.size) rfl (sgC base (base + (k : Int) + 1) A1 (flatR (renum base (l.take (k + 1)))).length c1) rfl 24 (sgC base (base + (k : Int)) A9 (flatR (renum base (l.take k))).length c9) U_z4.out sgSize rfl (S2.all_one rfl) ?_; intro z5 hM hP; have U_z5 : Hid (BK 24 z5 (y0.heap.size) (sgC base (base + (k : Int) + 1) A1 (flatR (renum base (l.take (k + 1)))).length c1)) := Lib.hid hM; have R_z5 : Hid (BK 24 z5 w.heap.size (sgC 0 0 none 0 0)) := Lib.hid (hP.other R_z4.out (by have := ZU.out; omega)); have B_z5 : Hid (Below w.heap.size w z5) := Lib.hid (hP.below B_z4.out (Nat.le_of_lt ZU.out)); have G_z5 : Hid (RcL z5 z5.heap.size (some ⟨b7, o7, none⟩) l) := Lib.hid (GLput G_z4.out hP HG7.out); have X_z5 : Hid ((b7 < z5.heap.size ∧ ∀ i v, (rcC x)[i]? = some v → z5.cell? ⟨b7, o7 + k * 4 + i, none⟩ = some v)) := Lib.hid (⟨by rw [hP.size]; exact X_z4.out.1, fun i u hu => (hP.cell (p := ⟨b7, o7 + k * 4 + i, none⟩) HG7.out).trans (X_z4.out.2 i u hu)⟩); have N_z5 : Hid (CN (y0.heap.size + 1) z5 A1 (flatR (renum base (l.take (k + 1))))) := Lib.hid (CN.put N_z4.out hP (Nat.lt_succ_self _)); clear hM hP R_z4 B_z4 U_z4 O_z4 G_z4 X_z4 T_z4 N_z4)
        go_roundg g
        case measure => omega
        case rel => exact ⟨k + 1, A1, c1, by have := HK.out; omega, by go_num, HCN.out, HLE.out, (by have hU2 := U_z5.out; rw [show base + ((k + 1 : Nat) : Int) = base + (k : Int) + 1 by omega]; exact hU2), HC1.out, N_z5.out, R_z5.out, B_z5.out, G_z5.out⟩
end Go.Proofs.Ytbmeimpfehjnfaa
