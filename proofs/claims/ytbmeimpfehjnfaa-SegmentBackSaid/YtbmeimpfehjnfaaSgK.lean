/-
  SegmentBack answers true, walked. Conditions: the list reads as data; texts fit an int.
-/
import Derived.Test.YtbmeimpfehjnfaaSgI
namespace Go.Proofs.Ytbmeimpfehjnfaa
open Go.RowKit
open S2 (BK Put get_ops exec_load)

theorem CN.grow {lo : Nat} {w w' : World} {A : Option Addr} {T : List UInt8} {row : Option Nat} (h : CN lo w A T) (hg : w.grownBy w' row) (hne : ∀ b o, A = some ⟨b, o, none⟩ → 0 < T.length → row ≠ some b) : CN lo w' A T := by
  refine ⟨fun hn => ?_, h.2⟩
  obtain ⟨b, o, e, hb, hc⟩ := h.1 hn
  refine ⟨b, o, e, Nat.lt_of_lt_of_le hb hg.size, fun j x hx => ?_⟩
  rw [World.cell?_of_block (a := ⟨b, o + j, none⟩) (hg.block b hb (fun e2 => hne b o e hn e2.symm))]
  exact hc j x hx
theorem OwnG.put {α : Type} {f : α → List Value} {k : Nat} {e : TypeId} {w w' : World} {B g : Nat} {v : Value} {xs : List α} (h : OwnG e f k w B v xs) (hp : Put g w w') (hg : v.ownBlock ≠ some g) : OwnG e f k w' B v xs := by
  unfold OwnG at h ⊢
  refine ⟨h.1, ?_⟩
  rcases h.2 with h' | ⟨q, cap, cur, rfl, hB, hq, hnc, hcm, hcs, htake⟩
  · exact .inl h'
  · have hne : q ≠ g := fun e2 => hg (by rw [e2]; rfl)
    have h2 := hp.other (M := q) (T := e) (vs := cur.toList) (by unfold BK; simpa using hq) hne
    exact .inr ⟨q, cap, cur, rfl, hB, by unfold BK at h2; simpa using h2, hnc, hcm, hcs, htake⟩
theorem GLgrow {w w' : World} {b7 o7 : Nat} {xs : List Rc} {row : Option Nat} (h : RcL w w.heap.size (some ⟨b7, o7, none⟩) xs) (hg : w.grownBy w' row) (hne : row ≠ some b7) : RcL w' w'.heap.size (some ⟨b7, o7, none⟩) xs := fun hn => by
  obtain ⟨b, o, e, hb, hc⟩ := h hn
  cases e
  exact ⟨b7, o7, rfl, Nat.lt_of_lt_of_le hb hg.size, fun j x i v hx hv => (World.cell?_of_block (a := ⟨b7, o7 + j * 4 + i, none⟩) (hg.block b7 hb (fun e2 => hne e2.symm))).trans (hc j x i v hx hv)⟩
theorem sgApp_ok {base : Int} {ws : List Rc} {x : Rc} {b1 n1 m1 : Int} {l1 : List UInt8} (hc : ConsR base ws) (h : sgApp base (base + (ws.length : Int)) (flatR ws) x.kind x.key x.val = ((b1, n1, l1), m1, 0)) :
    base = b1 ∧ base + (ws.length : Int) + 1 = n1 ∧ base + (ws.length : Int) = m1 ∧ flatR (ws ++ [⟨base + (ws.length : Int), x.kind, x.key, x.val⟩]) = l1 ∧ ConsR base (ws ++ [⟨base + (ws.length : Int), x.kind, x.key, x.val⟩]) ∧ l1.length ≤ 65536 := by
  unfold sgApp at h
  split at h
  · next h0 => simp only [Prod.mk.injEq] at h; exact absurd h.2.2 h0
  next h0 =>
  split at h
  · simp at h
  next h1 =>
  simp only [Prod.mk.injEq, and_true] at h
  obtain ⟨⟨rfl, rfl, rfl⟩, rfl⟩ := h
  exact ⟨rfl, rfl, rfl, by rw [flatR_app, flatR_one], hc.snoc rfl (by omega), by rw [List.length_append]; omega⟩

set_option maxRecDepth 20000 in
set_option maxHeartbeats 16000000 in
theorem segmentBack_walk (base : Int) (A : Option Addr) (c : Nat) (l : List Rc) (w : World) (hsl : RcL w w.heap.size A l) (_hc : l.length ≤ c) (hz : ∀ r ∈ l, r.key.size ≤ 9223372036854775807 ∧ r.val.size ≤ 9223372036854775807) :
    Calls Try.prog 7 #[.int .i64 base, .slice A l.length c] w fun e w' => e = .returned (.bool true) ∧ Below w.heap.size w w' := by
  by_cases h1 : base < 0
  · clear hsl hz
    have B_w := Lib.hid (Below.refl w.heap.size w)
    go_enter Try.func7, Try.ntmps7
    go_wp2_with fail
    refine (awake32_any w).mono ?_
    rintro e y1 ⟨rfl, hb⟩
    have B_y1 : Hid (Below w.heap.size w y1) := Lib.hid ((stepB B_w.out hb))
    clear B_w
    clear hb
    go_wp2_with fail
    go_ret
    exact ⟨rfl, B_y1.out⟩
  by_cases h2 : 1099511627760 < base
  · clear hsl hz
    have B_w := Lib.hid (Below.refl w.heap.size w)
    go_enter Try.func7, Try.ntmps7
    go_wp2_with fail
    refine (awake32_any w).mono ?_
    rintro e y1 ⟨rfl, hb⟩
    have B_y1 : Hid (Below w.heap.size w y1) := Lib.hid ((stepB B_w.out hb))
    clear B_w
    clear hb
    go_wp2_with fail
    go_ret
    exact ⟨rfl, B_y1.out⟩
  have HW := Lib.hid (few_any A c l w hsl hz)
  cases hf : fewR l
  · rw [hf] at HW
    clear hsl hz hf
    have B_w := Lib.hid (Below.refl w.heap.size w)
    go_enter Try.func7, Try.ntmps7
    go_wp2_with fail
    refine HW.out.mono ?_
    rintro e w0 ⟨rfl, hw0⟩
    have B_w0 : Hid (Below w.heap.size w w0) := Lib.hid (by rw [hw0]; exact Below.refl _ _)
    clear hw0 B_w
    go_wp2_with fail
    refine (awake32_any w0).mono ?_
    rintro e y1 ⟨rfl, hb⟩
    have B_y1 : Hid (Below w.heap.size w y1) := Lib.hid ((stepB B_w0.out hb))
    clear B_w0
    clear hb
    go_wp2_with fail
    go_ret
    exact ⟨rfl, B_y1.out⟩
  rw [hf] at HW
  obtain ⟨hn16, hsm⟩ := fewR_ok hf
  have HSM := Lib.hid hsm
  have HSL := Lib.hid hsl
  clear hf hsm hz hsl
  have B_w := Lib.hid (Below.refl w.heap.size w)
  go_enter Try.func7, Try.ntmps7
  go_wp2_with fail
  refine HW.out.mono ?_
  rintro e w0 ⟨rfl, hw0⟩
  have B_w0 : Hid (Below w.heap.size w w0) := Lib.hid (by rw [hw0]; exact Below.refl _ _)
  have G_w0 := Lib.hid (HSL.out.step B_w0.out)
  clear hw0 B_w HW
  go_wp2_with fail
  refine (sNew_any base w0).mono ?_
  rintro e y1 ⟨rfl, hb⟩
  have B_y1 : Hid (Below w.heap.size w y1) := Lib.hid ((stepB B_w0.out hb))
  have G_y1 : Hid (RcL y1 y1.heap.size A l) := Lib.hid (G_w0.out.step hb)
  clear B_w0 G_w0
  clear hb
  have ZA : Hid (∀ b o, A = some ⟨b, o, none⟩ → 0 < l.length → b < y1.heap.size) := Lib.hid (fun b o e hn => by obtain ⟨b', o', e', hb, _⟩ := G_y1.out hn; rw [e] at e'; cases e'; exact hb)
  have ZB0 : Hid (w.heap.size ≤ y1.heap.size) := Lib.hid B_y1.out.size
  go_upto_region 4 with first
    | (refine S2.wpList_store_all (by rfl) 24 (.tmp 5) (.tmp 24) rfl rfl (y1.heap.size) rfl (sgC base base none 0 0) rfl 24 (sgC 0 0 none 0 0) (BK.new y1 _ _) sgSize rfl (S2.all_one rfl) ?_; intro y2 hM hP; have hb : Below y1.heap.size y1 y2 := hP.below (S2.below_new y1 _) (Nat.le_refl _); have B_y2 : Hid (Below w.heap.size w y2) := Lib.hid ((stepB B_y1.out hb)); have G_y2 : Hid (RcL y2 y2.heap.size A l) := Lib.hid (G_y1.out.step hb); have U_y2 : Hid (BK 24 y2 (y1.heap.size) (sgC base base none 0 0)) := Lib.hid hM; clear hM hP hb B_y1 G_y1)
  have ZW : Hid (y1.heap.size + 1 ≤ y2.heap.size) := Lib.hid U_y2.out.lt
  go_wp2_with fail
  go_loopg [6, 7] l.length (fun g s6 v7 wr => ∃ (k : Nat) (A9 : Option Addr) (c9 : Nat) (ws : List Rc) (v6 : Value), v6 = s6 ∧ k + g = l.length ∧ v7 = .int .i64 k ∧ ws.length ≤ k ∧ ConsR base ws ∧ (flatR ws).length ≤ 65536 ∧ BK 24 wr (y1.heap.size) (sgC base (base + (ws.length : Int)) A9 (flatR ws).length c9) ∧ (flatR ws).length ≤ c9 ∧ CN (y1.heap.size + 1) wr A9 (flatR ws) ∧ OwnR wr (y1.heap.size + 1) v6 ws ∧ (∀ b o, A9 = some ⟨b, o, none⟩ → 0 < (flatR ws).length → v6.ownBlock ≠ some b) ∧ (y1.heap.size + 1) ≤ wr.heap.size ∧ Below w.heap.size w wr ∧ RcL wr wr.heap.size A l)
  case atStart => exact ⟨0, none, 0, [], _, rfl, by omega, rfl, by simp, trivial, by simp [flatR], by simpa [flatR] using U_y2.out, by simp [flatR], CN.nil _ _, OwnG.nil _ _, fun b o e => (by cases e), ZW.out, B_y2.out, G_y2.out⟩
  case round =>
    clear B_y2 G_y2 U_y2
    obtain ⟨k, A9, c9, ws, v6, rfl, hkg, rfl, hwk, hcon, hfl, hU, hc9, hO, hW, hD, hQ, h1, h2⟩ := hrel
    obtain ⟨A6, c6, hv6, _, hg6⟩ := hW.ret rcC_len
    subst hv6
    have U_wr := Lib.hid hU
    have O_wr := Lib.hid hO
    have W_wr := Lib.hid hW
    have Z_wr := Lib.hid hQ
    have HD := Lib.hid hD
    have B_wr := Lib.hid h1
    have G_wr := Lib.hid h2
    have HK := Lib.hid hkg
    have HWK := Lib.hid hwk
    have HC9 := Lib.hid hc9
    have HCON := Lib.hid hcon
    have HFL := Lib.hid hfl
    have HG6 := Lib.hid hg6
    clear h1 h2 hU hO hW hD hQ hc9 hcon hg6
    cases gk with
    | zero =>
      have hkl : k = l.length := by omega
      have e3 : ¬ ((k : Int) < (l.length : Int)) := by omega
      have hsc := scR_of HCON.out
      have hck0 := sgCk_of (base := base) (by omega) (by omega) HCON.out HFL.out
      have HCK := Lib.hid (fun w h => sCheck_any base (base + (ws.length : Int)) A9 c9 (flatR ws) w h HC9.out (by have := HFL.out; omega))
      rw [hck0] at HCK
      have HRE := Lib.hid (fun w h => sRecords_any base (base + (ws.length : Int)) A9 c9 (flatR ws) w h HC9.out HFL.out (by omega) (by omega))
      rw [hsc] at HRE
      dsimp only at HRE
      clear hsc hck0 hfl
      have Y_wr := HG6
      clear HG6 W_wr G_wr
      have u0 := U_wr.out.cell 0 rfl
      have u1 := U_wr.out.cell 1 rfl
      have u2 := U_wr.out.cell 2 rfl
      go_wp2_with fail
      refine (HCK.out wr O_wr.out.1).mono ?_
      rintro e z1 ⟨rfl, hb⟩
      clear u0 u1 u2
      have B_z1 : Hid (Below w.heap.size w z1) := Lib.hid ((stepB B_wr.out hb))
      have U_z1 : Hid (BK 24 z1 (y1.heap.size) (sgC base (base + (ws.length : Int)) A9 (flatR ws).length c9)) := Lib.hid (U_wr.out.step hb)
      have O_z1 : Hid (CN (y1.heap.size + 1) z1 A9 (flatR ws)) := Lib.hid (O_wr.out.step hb)
      have Z_z1 : Hid ((y1.heap.size + 1) ≤ z1.heap.size) := Lib.hid (Nat.le_trans Z_wr.out hb.size)
      have Y_z1 : Hid (RcL z1 z1.heap.size A6 ws) := Lib.hid (Y_wr.out.step hb)
      clear B_wr U_wr O_wr Z_wr Y_wr
      clear hb
      have u0 := U_z1.out.cell 0 rfl
      have u1 := U_z1.out.cell 1 rfl
      have u2 := U_z1.out.cell 2 rfl
      go_wp2_with fail
      refine (HRE.out z1 O_z1.out.1).mono ?_
      rintro e z2 ⟨v, rfl, own, hb⟩
      clear u0 u1 u2
      have B_z2 : Hid (Below w.heap.size w z2) := Lib.hid ((stepB B_z1.out hb))
      have U_z2 : Hid (BK 24 z2 (y1.heap.size) (sgC base (base + (ws.length : Int)) A9 (flatR ws).length c9)) := Lib.hid (U_z1.out.step hb)
      have O_z2 : Hid (CN (y1.heap.size + 1) z2 A9 (flatR ws)) := Lib.hid (O_z1.out.step hb)
      have Z_z2 : Hid ((y1.heap.size + 1) ≤ z2.heap.size) := Lib.hid (Nat.le_trans Z_z1.out hb.size)
      have Y_z2 : Hid (RcL z2 z2.heap.size A6 ws) := Lib.hid (Y_z1.out.step hb)
      clear B_z1 U_z1 O_z1 Z_z1 Y_z1
      obtain ⟨A5, c5, rfl, _, hg5⟩ := own.ret rcC_len
      have X_z2 : Hid (RcL z2 z2.heap.size A5 ws) := Lib.hid (hg5)
      clear own hg5
      clear hb
      go_wp2_with fail
      refine (sameRs_any A5 A6 c5 c6 ws z2 X_z2.out Y_z2.out (by have := HWK.out; have := HK.out; omega)).mono ?_
      rintro e z3 ⟨rfl, hb⟩
      have B_z3 : Hid (Below w.heap.size w z3) := Lib.hid ((stepB B_z2.out hb))
      have U_z3 : Hid (BK 24 z3 (y1.heap.size) (sgC base (base + (ws.length : Int)) A9 (flatR ws).length c9)) := Lib.hid (U_z2.out.step hb)
      have O_z3 : Hid (CN (y1.heap.size + 1) z3 A9 (flatR ws)) := Lib.hid (O_z2.out.step hb)
      have Z_z3 : Hid ((y1.heap.size + 1) ≤ z3.heap.size) := Lib.hid (Nat.le_trans Z_z2.out hb.size)
      have Y_z3 : Hid (RcL z3 z3.heap.size A6 ws) := Lib.hid (Y_z2.out.step hb)
      have X_z3 : Hid (RcL z3 z3.heap.size A5 ws) := Lib.hid (X_z2.out.step hb)
      clear B_z2 U_z2 O_z2 Z_z2 Y_z2 X_z2
      clear hb
      go_wp2_with fail
      refine (awake32_any z3).mono ?_
      rintro e z4 ⟨rfl, hb⟩
      have B_z4 : Hid (Below w.heap.size w z4) := Lib.hid ((stepB B_z3.out hb))
      have U_z4 : Hid (BK 24 z4 (y1.heap.size) (sgC base (base + (ws.length : Int)) A9 (flatR ws).length c9)) := Lib.hid (U_z3.out.step hb)
      have O_z4 : Hid (CN (y1.heap.size + 1) z4 A9 (flatR ws)) := Lib.hid (O_z3.out.step hb)
      have Z_z4 : Hid ((y1.heap.size + 1) ≤ z4.heap.size) := Lib.hid (Nat.le_trans Z_z3.out hb.size)
      have Y_z4 : Hid (RcL z4 z4.heap.size A6 ws) := Lib.hid (Y_z3.out.step hb)
      have X_z4 : Hid (RcL z4 z4.heap.size A5 ws) := Lib.hid (X_z3.out.step hb)
      clear B_z3 U_z3 O_z3 Z_z3 Y_z3 X_z3
      clear hb
      go_wp2_with fail
      go_ret
      exact ⟨rfl, B_z4.out⟩
    | succ g =>
      have hlt : k < l.length := by omega
      have e3 : (k : Int) < (l.length : Int) := by omega
      obtain ⟨x, hx⟩ : ∃ x, l[k]? = some x := ⟨_, List.getElem?_eq_getElem hlt⟩
      obtain ⟨b7, o7, hA7, hbB, hcx⟩ := GL.at4 G_wr.out hx
      subst hA7
      have HG7 : Hid (b7 < y1.heap.size) := Lib.hid (ZA.out b7 o7 rfl (by omega))
      have j1 : (0 : Int) ≤ (k : Int) := by omega
      have X_wr : Hid (b7 < wr.heap.size ∧ ∀ i v, (rcC x)[i]? = some v → wr.cell? ⟨b7, o7 + k * 4 + i, none⟩ = some v) := Lib.hid ⟨hbB, hcx⟩
      have hxz := HSM.out x (List.mem_of_getElem? hx)
      obtain ⟨b1, n1, l1, m1, e1, hap⟩ : ∃ b1 n1 l1 m1 e1, sgApp base (base + (ws.length : Int)) (flatR ws) x.kind x.key x.val = ((b1, n1, l1), m1, e1) := ⟨_, _, _, _, _, rfl⟩
      have HAP := Lib.hid (fun A9 c9 w h => sAppend_any base (base + (ws.length : Int)) A9 c9 (flatR ws) x.kind x.key x.val w h hfl (by omega))
      unfold RetSA at HAP
      rw [hap] at HAP
      dsimp only at HAP
      have HAQ := Lib.hid hap
      have HQW : Hid (∀ b, (Value.slice A6 ws.length c6).ownBlock = some b → (y1.heap.size + 1) ≤ b ∧ b < wr.heap.size) := Lib.hid (fun b e => own_lt W_wr.out b e)
      have hb16 : ws.length ≤ 16 := by omega
      have HB16 := Lib.hid hb16
      clear hx hcx hbB hap hxz hfl hb16
      go_upto_region 8 with fail
      obtain ⟨z1, hz1⟩ : ∃ z1, z1 = World.drew wr := ⟨_, rfl⟩
      have hbD : Below wr.heap.size wr z1 := by rw [hz1]; exact (Below.refl _ _).drew
      have B_z1 : Hid (Below w.heap.size w z1) := Lib.hid ((stepB B_wr.out hbD))
      have U_z1 : Hid (BK 24 z1 (y1.heap.size) (sgC base (base + (ws.length : Int)) A9 (flatR ws).length c9)) := Lib.hid (U_wr.out.step hbD)
      have O_z1 : Hid (CN (y1.heap.size + 1) z1 A9 (flatR ws)) := Lib.hid (O_wr.out.step hbD)
      have Z_z1 : Hid ((y1.heap.size + 1) ≤ z1.heap.size) := Lib.hid (Nat.le_trans Z_wr.out hbD.size)
      have W_z1 : Hid (OwnR z1 (y1.heap.size + 1) (.slice A6 ws.length c6) ws) := Lib.hid (OwnG.step W_wr.out hbD)
      have G_z1 : Hid (RcL z1 z1.heap.size (some ⟨b7, o7, none⟩) l) := Lib.hid (G_wr.out.step hbD)
      have X_z1 : Hid ((b7 < z1.heap.size ∧ ∀ i v, (rcC x)[i]? = some v → z1.cell? ⟨b7, o7 + k * 4 + i, none⟩ = some v)) := Lib.hid (⟨Nat.lt_of_lt_of_le X_wr.out.1 hbD.size, fun i u hu => (hbD.cell (p := ⟨b7, o7 + k * 4 + i, none⟩) X_wr.out.1).trans (X_wr.out.2 i u hu)⟩)
      clear B_wr U_wr O_wr Z_wr W_wr G_wr X_wr
      have hbd : (fun w' => (b7 < w'.heap.size ∧ ∀ i v, (rcC x)[i]? = some v → w'.cell? ⟨b7, o7 + k * 4 + i, none⟩ = some v) ∧ BK 24 w' (y1.heap.size) (sgC base (base + (ws.length : Int)) A9 (flatR ws).length c9)) (World.drew wr) := by rw [← hz1]; exact ⟨X_z1.out, U_z1.out⟩
      have hSD : (fun w' => (b7 < w'.heap.size ∧ ∀ i v, (rcC x)[i]? = some v → w'.cell? ⟨b7, o7 + k * 4 + i, none⟩ = some v) ∧ BK 24 w' (y1.heap.size) (sgC base (base + (ws.length : Int)) A9 (flatR ws).length c9)) z1 := ⟨X_z1.out, U_z1.out⟩
      have HWD := Lib.hid hz1
      clear hz1 hbD
      refine wp_region_held_drew (S := fun w' => (b7 < w'.heap.size ∧ ∀ i v, (rcC x)[i]? = some v → w'.cell? ⟨b7, o7 + k * 4 + i, none⟩ = some v) ∧ BK 24 w' (y1.heap.size) (sgC base (base + (ws.length : Int)) A9 (flatR ws).length c9)) (by kernel_rfl) hbd (fun hHeld => ?_)
      rw [← HWD.out]
      clear hHeld
      have hHeld := hSD
      clear hSD hbd HWD
      refine wpAnyH_take (i := 0) (v := (sgV base (base + (ws.length : Int)) A9 (flatR ws).length c9)) (get_ops _ _ _ rfl) (by kernel_rfl) (by kernel_rfl) (by kernel_rfl) (fun _ _ _ h => h) (Or.inl ⟨by rfl, fun wS hSw => by (try dsimp only at hSw); have c0 := hSw.2.cell 0 rfl; have c1 := hSw.2.cell 1 rfl; have c2 := hSw.2.cell 2 rfl; clear hSw; go_simp; rfl⟩) hHeld ?_
      try simp only [Act.put, List.setIfInBounds_toArray, List.set_cons_zero, List.set_cons_succ]
      refine wpAnyH_take (i := 1) (v := (.slice (some ⟨b7, o7, none⟩) l.length c)) (get_ops _ _ _ rfl) (by kernel_rfl) (by kernel_rfl) (by kernel_rfl) (fun _ _ _ h => h) (Or.inl ⟨by rfl, fun wS hSw => by (try dsimp only at hSw); go_simp⟩) hHeld ?_
      try simp only [Act.put, List.setIfInBounds_toArray, List.set_cons_zero, List.set_cons_succ]
      refine wpAnyH_take (i := 2) (v := (.int .i64 k)) (get_ops _ _ _ rfl) (by kernel_rfl) (by kernel_rfl) (by kernel_rfl) (fun _ _ _ h => h) (Or.inl ⟨by rfl, fun wS hSw => by (try dsimp only at hSw); go_simp⟩) hHeld ?_
      try simp only [Act.put, List.setIfInBounds_toArray, List.set_cons_zero, List.set_cons_succ]
      refine wpAnyH_take (i := 3) (v := (.pointer (some ⟨b7, o7 + k * 4, none⟩))) (get_ops _ _ _ rfl) (by kernel_rfl) (by kernel_rfl) (by kernel_rfl) (fun _ _ _ h => h) (Or.inl ⟨by rfl, fun wS hSw => by (try dsimp only at hSw); go_simp⟩) hHeld ?_
      try simp only [Act.put, List.setIfInBounds_toArray, List.set_cons_zero, List.set_cons_succ]
      refine wpAnyH_take (i := 4) (v := (.pointer (some ⟨b7, o7 + k * 4 + 1, none⟩))) (get_ops _ _ _ rfl) (by kernel_rfl) (by kernel_rfl) (by kernel_rfl) (fun _ _ _ h => h) (Or.inl ⟨by rfl, fun wS hSw => by (try dsimp only at hSw); go_simp⟩) hHeld ?_
      try simp only [Act.put, List.setIfInBounds_toArray, List.set_cons_zero, List.set_cons_succ]
      refine wpAnyH_take (i := 5) (v := (.int .i64 x.kind)) (get_ops _ _ _ rfl) (by kernel_rfl) (by kernel_rfl) (by kernel_rfl) (fun _ _ _ h => h) (Or.inl ⟨by rfl, fun wS hSw => by (try dsimp only at hSw); have cS := hSw.1.2 1 _ rfl; clear hSw; go_simp⟩) hHeld ?_
      try simp only [Act.put, List.setIfInBounds_toArray, List.set_cons_zero, List.set_cons_succ]
      refine wpAnyH_take (i := 6) (v := (.slice (some ⟨b7, o7, none⟩) l.length c)) (get_ops _ _ _ rfl) (by kernel_rfl) (by kernel_rfl) (by kernel_rfl) (fun _ _ _ h => h) (Or.inl ⟨by rfl, fun wS hSw => by (try dsimp only at hSw); go_simp⟩) hHeld ?_
      try simp only [Act.put, List.setIfInBounds_toArray, List.set_cons_zero, List.set_cons_succ]
      refine wpAnyH_take (i := 7) (v := (.int .i64 k)) (get_ops _ _ _ rfl) (by kernel_rfl) (by kernel_rfl) (by kernel_rfl) (fun _ _ _ h => h) (Or.inl ⟨by rfl, fun wS hSw => by (try dsimp only at hSw); go_simp⟩) hHeld ?_
      try simp only [Act.put, List.setIfInBounds_toArray, List.set_cons_zero, List.set_cons_succ]
      refine wpAnyH_take (i := 8) (v := (.pointer (some ⟨b7, o7 + k * 4, none⟩))) (get_ops _ _ _ rfl) (by kernel_rfl) (by kernel_rfl) (by kernel_rfl) (fun _ _ _ h => h) (Or.inl ⟨by rfl, fun wS hSw => by (try dsimp only at hSw); go_simp⟩) hHeld ?_
      try simp only [Act.put, List.setIfInBounds_toArray, List.set_cons_zero, List.set_cons_succ]
      refine wpAnyH_take (i := 9) (v := (.pointer (some ⟨b7, o7 + k * 4 + 2, none⟩))) (get_ops _ _ _ rfl) (by kernel_rfl) (by kernel_rfl) (by kernel_rfl) (fun _ _ _ h => h) (Or.inl ⟨by rfl, fun wS hSw => by (try dsimp only at hSw); go_simp⟩) hHeld ?_
      try simp only [Act.put, List.setIfInBounds_toArray, List.set_cons_zero, List.set_cons_succ]
      refine wpAnyH_take (i := 10) (v := (.string x.key)) (get_ops _ _ _ rfl) (by kernel_rfl) (by kernel_rfl) (by kernel_rfl) (fun _ _ _ h => h) (Or.inl ⟨by rfl, fun wS hSw => by (try dsimp only at hSw); have cS := hSw.1.2 2 _ rfl; clear hSw; go_simp⟩) hHeld ?_
      try simp only [Act.put, List.setIfInBounds_toArray, List.set_cons_zero, List.set_cons_succ]
      refine wpAnyH_take (i := 11) (v := (.slice (some ⟨b7, o7, none⟩) l.length c)) (get_ops _ _ _ rfl) (by kernel_rfl) (by kernel_rfl) (by kernel_rfl) (fun _ _ _ h => h) (Or.inl ⟨by rfl, fun wS hSw => by (try dsimp only at hSw); go_simp⟩) hHeld ?_
      try simp only [Act.put, List.setIfInBounds_toArray, List.set_cons_zero, List.set_cons_succ]
      refine wpAnyH_take (i := 12) (v := (.int .i64 k)) (get_ops _ _ _ rfl) (by kernel_rfl) (by kernel_rfl) (by kernel_rfl) (fun _ _ _ h => h) (Or.inl ⟨by rfl, fun wS hSw => by (try dsimp only at hSw); go_simp⟩) hHeld ?_
      try simp only [Act.put, List.setIfInBounds_toArray, List.set_cons_zero, List.set_cons_succ]
      refine wpAnyH_take (i := 13) (v := (.pointer (some ⟨b7, o7 + k * 4, none⟩))) (get_ops _ _ _ rfl) (by kernel_rfl) (by kernel_rfl) (by kernel_rfl) (fun _ _ _ h => h) (Or.inl ⟨by rfl, fun wS hSw => by (try dsimp only at hSw); go_simp⟩) hHeld ?_
      try simp only [Act.put, List.setIfInBounds_toArray, List.set_cons_zero, List.set_cons_succ]
      refine wpAnyH_take (i := 14) (v := (.pointer (some ⟨b7, o7 + k * 4 + 3, none⟩))) (get_ops _ _ _ rfl) (by kernel_rfl) (by kernel_rfl) (by kernel_rfl) (fun _ _ _ h => h) (Or.inl ⟨by rfl, fun wS hSw => by (try dsimp only at hSw); go_simp⟩) hHeld ?_
      try simp only [Act.put, List.setIfInBounds_toArray, List.set_cons_zero, List.set_cons_succ]
      refine wpAnyH_take (i := 15) (v := (.string x.val)) (get_ops _ _ _ rfl) (by kernel_rfl) (by kernel_rfl) (by kernel_rfl) (fun _ _ _ h => h) (Or.inl ⟨by rfl, fun wS hSw => by (try dsimp only at hSw); have cS := hSw.1.2 3 _ rfl; clear hSw; go_simp⟩) hHeld ?_
      try simp only [Act.put, List.setIfInBounds_toArray, List.set_cons_zero, List.set_cons_succ]
      refine wpAnyH_ready (rs := [16, 21]) (by kernel_rfl) (by simp) ?_
      refine (AllReadyH.cons (get_ops _ _ _ rfl) (fun K hK => ?_) (AllReadyH.cons (get_ops _ _ _ rfl) (fun K hK => ?_) AllReadyH.nil))
      · have ZL : Hid (y1.heap.size + 1 ≤ z1.heap.size) := Lib.hid U_z1.out.lt
        go_simp
        have ZNB : Hid (∀ b, (Value.slice A6 ws.length c6).ownBlock = some b → b < z1.heap.size) := Lib.hid (fun b e => (own_lt W_z1.out b e).2)
        refine (HAP.out A9 c9 z1 O_z1.out.1).mono ?_
        rintro e z2 ⟨A1, c1, rfl, hc1, hN, hb⟩
        have ZNA : Hid (∀ b o, A1 = some ⟨b, o, none⟩ → (Value.slice A6 ws.length c6).ownBlock ≠ some b) := Lib.hid (fun b o e e2 => by have h1 := hN.2 b o e; have h2 := ZNB.out b e2; omega)
        have B_z2 : Hid (Below w.heap.size w z2) := Lib.hid ((stepB B_z1.out hb))
        have U_z2 : Hid (BK 24 z2 (y1.heap.size) (sgC base (base + (ws.length : Int)) A9 (flatR ws).length c9)) := Lib.hid (U_z1.out.step hb)
        have O_z2 : Hid (CN (y1.heap.size + 1) z2 A9 (flatR ws)) := Lib.hid (O_z1.out.step hb)
        have Z_z2 : Hid ((y1.heap.size + 1) ≤ z2.heap.size) := Lib.hid (Nat.le_trans Z_z1.out hb.size)
        have W_z2 : Hid (OwnR z2 (y1.heap.size + 1) (.slice A6 ws.length c6) ws) := Lib.hid (OwnG.step W_z1.out hb)
        have G_z2 : Hid (RcL z2 z2.heap.size (some ⟨b7, o7, none⟩) l) := Lib.hid (G_z1.out.step hb)
        have X_z2 : Hid ((b7 < z2.heap.size ∧ ∀ i v, (rcC x)[i]? = some v → z2.cell? ⟨b7, o7 + k * 4 + i, none⟩ = some v)) := Lib.hid (⟨Nat.lt_of_lt_of_le X_z1.out.1 hb.size, fun i u hu => (hb.cell (p := ⟨b7, o7 + k * 4 + i, none⟩) X_z1.out.1).trans (X_z1.out.2 i u hu)⟩)
        clear B_z1 U_z1 O_z1 Z_z1 W_z1 G_z1 X_z1
        have N_z2 : Hid (CN (y1.heap.size + 1) z2 A1 l1) := Lib.hid (hN.weak ZL.out)
        have HC1 := Lib.hid hc1
        clear hN hc1
        clear hHeld hb
        go_wp2_with fail
        refine hK.out _ _ ⟨X_z2.out, U_z2.out⟩ (fun hHeld => ?_)
        clear hK K
        try simp only [Act.put, List.setIfInBounds_toArray, List.set_cons_zero, List.set_cons_succ]
        refine wpAnyH_take (i := 17) (v := (.tuple #[sgV b1 n1 A1 l1.length c1, .int .i64 m1, .int .i64 e1])) (get_ops _ _ _ rfl) (by kernel_rfl) (by kernel_rfl) (by kernel_rfl) (fun _ _ _ h => h) (Or.inl ⟨by rfl, fun wS hSw => by (try dsimp only at hSw); go_simp⟩) hHeld ?_
        try simp only [Act.put, List.setIfInBounds_toArray, List.set_cons_zero, List.set_cons_succ]
        refine wpAnyH_take (i := 18) (v := (sgV b1 n1 A1 l1.length c1)) (get_ops _ _ _ rfl) (by kernel_rfl) (by kernel_rfl) (by kernel_rfl) (fun _ _ _ h => h) (Or.inl ⟨by rfl, fun wS hSw => by (try dsimp only at hSw); go_simp⟩) hHeld ?_
        try simp only [Act.put, List.setIfInBounds_toArray, List.set_cons_zero, List.set_cons_succ]
        refine wpAnyH_take (i := 19) (v := (.int .i64 m1)) (get_ops _ _ _ rfl) (by kernel_rfl) (by kernel_rfl) (by kernel_rfl) (fun _ _ _ h => h) (Or.inl ⟨by rfl, fun wS hSw => by (try dsimp only at hSw); go_simp⟩) hHeld ?_
        try simp only [Act.put, List.setIfInBounds_toArray, List.set_cons_zero, List.set_cons_succ]
        refine wpAnyH_take (i := 20) (v := (.int .i64 e1)) (get_ops _ _ _ rfl) (by kernel_rfl) (by kernel_rfl) (by kernel_rfl) (fun _ _ _ h => h) (Or.inl ⟨by rfl, fun wS hSw => by (try dsimp only at hSw); go_simp⟩) hHeld ?_
        try simp only [Act.put, List.setIfInBounds_toArray, List.set_cons_zero, List.set_cons_succ]
        refine wpAnyH_ready (rs := [21]) (by kernel_rfl) (by simp) ?_
        refine (AllReadyH.cons (get_ops _ _ _ rfl) (fun K hK => ?_) AllReadyH.nil)
        have ZT : Hid (y1.heap.size < z2.heap.size) := Lib.hid U_z2.out.lt
        have ZX : Hid (b7 < z2.heap.size) := Lib.hid X_z2.out.1
        have ZO : Hid (∀ b o, A9 = some ⟨b, o, none⟩ → 0 < (flatR ws).length → b ≠ z2.heap.size) := Lib.hid (fun b o e hn => Nat.ne_of_lt (O_z2.out.low b o e hn))
        have ZB : Hid (w.heap.size ≤ z2.heap.size) := Lib.hid B_z2.out.size
        have ZN : Hid (∀ b o, A1 = some ⟨b, o, none⟩ → 0 < l1.length → b ≠ z2.heap.size) := Lib.hid (fun b o e hn => Nat.ne_of_lt (N_z2.out.low b o e hn))
        have ZWT : Hid ((Value.slice A6 ws.length c6).ownBlock ≠ some (z2.heap.size)) := Lib.hid (fun e => by have h := own_lt W_z2.out _ e; omega)
        go_simp
        obtain ⟨z3, hz3⟩ : ∃ z3, z3 = z2.alloc (.cells (sgC 0 0 none 0 0).toArray 24) := ⟨_, rfl⟩
        have hb : Below z2.heap.size z2 z3 := by rw [hz3]; exact S2.below_new _ _
        have hN : BK 24 z3 (z2.heap.size) (sgC 0 0 none 0 0) := by rw [hz3]; exact BK.new _ _ _
        have B_z3 : Hid (Below w.heap.size w z3) := Lib.hid ((stepB B_z2.out hb))
        have U_z3 : Hid (BK 24 z3 (y1.heap.size) (sgC base (base + (ws.length : Int)) A9 (flatR ws).length c9)) := Lib.hid (U_z2.out.step hb)
        have O_z3 : Hid (CN (y1.heap.size + 1) z3 A9 (flatR ws)) := Lib.hid (O_z2.out.step hb)
        have Z_z3 : Hid ((y1.heap.size + 1) ≤ z3.heap.size) := Lib.hid (Nat.le_trans Z_z2.out hb.size)
        have W_z3 : Hid (OwnR z3 (y1.heap.size + 1) (.slice A6 ws.length c6) ws) := Lib.hid (OwnG.step W_z2.out hb)
        have G_z3 : Hid (RcL z3 z3.heap.size (some ⟨b7, o7, none⟩) l) := Lib.hid (G_z2.out.step hb)
        have X_z3 : Hid ((b7 < z3.heap.size ∧ ∀ i v, (rcC x)[i]? = some v → z3.cell? ⟨b7, o7 + k * 4 + i, none⟩ = some v)) := Lib.hid (⟨Nat.lt_of_lt_of_le X_z2.out.1 hb.size, fun i u hu => (hb.cell (p := ⟨b7, o7 + k * 4 + i, none⟩) X_z2.out.1).trans (X_z2.out.2 i u hu)⟩)
        have N_z3 : Hid (CN (y1.heap.size + 1) z3 A1 l1) := Lib.hid (N_z2.out.step hb)
        clear B_z2 U_z2 O_z2 Z_z2 W_z2 G_z2 X_z2 N_z2
        have T_z3 := Lib.hid hN
        try rw [← hz3]
        clear hHeld hb hN hz3
        refine hK.out _ _ ⟨X_z3.out, U_z3.out⟩ (fun hHeld => ?_)
        clear hK K
        try simp only [Act.put, List.setIfInBounds_toArray, List.set_cons_zero, List.set_cons_succ]
        refine wpAnyH_ready (rs := [22]) (by kernel_rfl) (by simp) ?_
        refine (AllReadyH.cons (get_ops _ _ _ rfl) (fun K hK => ?_) AllReadyH.nil)
        refine S2.wp_store_all 24 _ _ rfl rfl (z2.heap.size) (by go_simp) (sgC b1 n1 A1 l1.length c1) (by first | rfl | go_simp) 24 (sgC 0 0 none 0 0) T_z3.out sgSize rfl (S2.all_one rfl) ?_
        intro z4 hM hP
        have T_z4 : Hid (BK 24 z4 (z2.heap.size) (sgC b1 n1 A1 l1.length c1)) := Lib.hid (hM)
        have B_z4 : Hid (Below w.heap.size w z4) := Lib.hid (hP.below B_z3.out ZB.out)
        have U_z4 : Hid (BK 24 z4 (y1.heap.size) (sgC base (base + (ws.length : Int)) A9 (flatR ws).length c9)) := Lib.hid (hP.other U_z3.out (by have := ZT.out; omega))
        have O_z4 : Hid (CN (y1.heap.size + 1) z4 A9 (flatR ws)) := Lib.hid (CN.put2 O_z3.out hP ZO.out)
        have Z_z4 : Hid ((y1.heap.size + 1) ≤ z4.heap.size) := Lib.hid (by rw [hP.size]; exact Z_z3.out)
        have W_z4 : Hid (OwnR z4 (y1.heap.size + 1) (.slice A6 ws.length c6) ws) := Lib.hid (OwnG.put W_z3.out hP ZWT.out)
        have G_z4 : Hid (RcL z4 z4.heap.size (some ⟨b7, o7, none⟩) l) := Lib.hid (GLput G_z3.out hP (Nat.ne_of_lt ZX.out))
        have X_z4 : Hid ((b7 < z4.heap.size ∧ ∀ i v, (rcC x)[i]? = some v → z4.cell? ⟨b7, o7 + k * 4 + i, none⟩ = some v)) := Lib.hid (⟨by rw [hP.size]; exact X_z3.out.1, fun i u hu => (hP.cell (p := ⟨b7, o7 + k * 4 + i, none⟩) (Nat.ne_of_lt ZX.out)).trans (X_z3.out.2 i u hu)⟩)
        have N_z4 : Hid (CN (y1.heap.size + 1) z4 A1 l1) := Lib.hid (CN.put2 N_z3.out hP ZN.out)
        clear B_z3 U_z3 O_z3 Z_z3 W_z3 G_z3 X_z3 N_z3 T_z3
        clear hM hP hHeld
        refine hK.out _ _ ⟨X_z4.out, U_z4.out⟩ (fun hHeld => ?_)
        clear hK K
        try simp only [Act.put, List.setIfInBounds_toArray, List.set_cons_zero, List.set_cons_succ]
        refine wpAnyH_take (i := 23) (v := (.int .i64 m1)) (get_ops _ _ _ rfl) (by kernel_rfl) (by kernel_rfl) (by kernel_rfl) (fun _ _ _ h => h) (Or.inl ⟨by rfl, fun wS hSw => by (try dsimp only at hSw); go_simp⟩) hHeld ?_
        try simp only [Act.put, List.setIfInBounds_toArray, List.set_cons_zero, List.set_cons_succ]
        refine wpAnyH_take (i := 24) (v := (.int .i64 e1)) (get_ops _ _ _ rfl) (by kernel_rfl) (by kernel_rfl) (by kernel_rfl) (fun _ _ _ h => h) (Or.inl ⟨by rfl, fun wS hSw => by (try dsimp only at hSw); go_simp⟩) hHeld ?_
        try simp only [Act.put, List.setIfInBounds_toArray, List.set_cons_zero, List.set_cons_succ]
        refine wpAnyH_done (by kernel_rfl) ?_ _
        by_cases he : e1 ≠ 0
        · have hq : (e1 != 0) = true := by simp [he]
          go_wp2_with fail
          go_roundg g
          case measure => exact Nat.lt_succ_self _
          case rel => exact ⟨k + 1, A9, c9, ws, _, rfl, by have := HK.out; omega, by go_num, Nat.le_succ_of_le HWK.out, HCON.out, HFL.out, U_z4.out, HC9.out, O_z4.out, W_z4.out, HD.out, Z_z4.out, B_z4.out, G_z4.out⟩
        obtain rfl : e1 = 0 := by omega
        obtain ⟨rfl, rfl, rfl, hl1, hcn, hle⟩ := sgApp_ok HCON.out HAQ.out
        have HCN := Lib.hid hcn
        have HLE := Lib.hid hle
        have HL1 := Lib.hid hl1
        clear hcn hle hl1 HAQ
        have hwa : wrap64 (base + (ws.length : Int)) = base + (ws.length : Int) := wrap64_id _ (by have := HB16.out; omega) (by have := HB16.out; omega)
        have hwb : wrap64 (base + (ws.length : Int) + 1) = base + (ws.length : Int) + 1 := wrap64_id _ (by have := HB16.out; omega) (by have := HB16.out; omega)
        have HNA : Hid (∀ b o, A1 = some ⟨b, o, none⟩ → 0 < l1.length → (Value.slice A6 ws.length c6).ownBlock ≠ some b) := Lib.hid (fun b o e hn e2 => ZNA.out b o e e2)
        have t0 := T_z4.out.cell 0 rfl
        have t1 := T_z4.out.cell 1 rfl
        have t2 := T_z4.out.cell 2 rfl
        go_upto_region 12 with fail
        clear t0 t1 t2
        clear hwa hwb
        obtain ⟨v1, hv1⟩ : ∃ v1, v1 = World.drew z4 := ⟨_, rfl⟩
        have hbD : Below z4.heap.size z4 v1 := by rw [hv1]; exact (Below.refl _ _).drew
        have B_v1 : Hid (Below w.heap.size w v1) := Lib.hid ((stepB B_z4.out hbD))
        have U_v1 : Hid (BK 24 v1 (y1.heap.size) (sgC base (base + (ws.length : Int)) A9 (flatR ws).length c9)) := Lib.hid (U_z4.out.step hbD)
        have O_v1 : Hid (CN (y1.heap.size + 1) v1 A9 (flatR ws)) := Lib.hid (O_z4.out.step hbD)
        have Z_v1 : Hid ((y1.heap.size + 1) ≤ v1.heap.size) := Lib.hid (Nat.le_trans Z_z4.out hbD.size)
        have W_v1 : Hid (OwnR v1 (y1.heap.size + 1) (.slice A6 ws.length c6) ws) := Lib.hid (OwnG.step W_z4.out hbD)
        have G_v1 : Hid (RcL v1 v1.heap.size (some ⟨b7, o7, none⟩) l) := Lib.hid (G_z4.out.step hbD)
        have X_v1 : Hid ((b7 < v1.heap.size ∧ ∀ i v, (rcC x)[i]? = some v → v1.cell? ⟨b7, o7 + k * 4 + i, none⟩ = some v)) := Lib.hid (⟨Nat.lt_of_lt_of_le X_z4.out.1 hbD.size, fun i u hu => (hbD.cell (p := ⟨b7, o7 + k * 4 + i, none⟩) X_z4.out.1).trans (X_z4.out.2 i u hu)⟩)
        have N_v1 : Hid (CN (y1.heap.size + 1) v1 A1 l1) := Lib.hid (N_z4.out.step hbD)
        have T_v1 : Hid (BK 24 v1 (z2.heap.size) (sgC base (base + (ws.length : Int) + 1) A1 l1.length c1)) := Lib.hid (T_z4.out.step hbD)
        clear B_z4 U_z4 O_z4 Z_z4 W_z4 G_z4 X_z4 N_z4 T_z4
        have hbd : (fun w' => Below w.heap.size w w' ∧ (b7 < w'.heap.size ∧ ∀ i v, (rcC x)[i]? = some v → w'.cell? ⟨b7, o7 + k * 4 + i, none⟩ = some v)) (World.drew z4) := by rw [← hv1]; exact ⟨B_v1.out, X_v1.out⟩
        have hSD : (fun w' => Below w.heap.size w w' ∧ (b7 < w'.heap.size ∧ ∀ i v, (rcC x)[i]? = some v → w'.cell? ⟨b7, o7 + k * 4 + i, none⟩ = some v)) v1 := ⟨B_v1.out, X_v1.out⟩
        have HWD := Lib.hid hv1
        clear hv1 hbD
        refine wp_region_held_drew (S := fun w' => Below w.heap.size w w' ∧ (b7 < w'.heap.size ∧ ∀ i v, (rcC x)[i]? = some v → w'.cell? ⟨b7, o7 + k * 4 + i, none⟩ = some v)) (by kernel_rfl) hbd (fun hHeld => ?_)
        rw [← HWD.out]
        clear hHeld
        have hHeld := hSD
        clear hSD hbd HWD
        refine wpAnyH_take (i := 0) (v := (.slice A6 ws.length c6)) (get_ops _ _ _ rfl) (by kernel_rfl) (by kernel_rfl) (by kernel_rfl) (fun _ _ _ h => h) (Or.inl ⟨by rfl, fun wS hSw => by (try dsimp only at hSw); go_simp⟩) hHeld ?_
        try simp only [Act.put, List.setIfInBounds_toArray, List.set_cons_zero, List.set_cons_succ]
        refine wpAnyH_take (i := 1) (v := (.int .i64 (base + (ws.length : Int)))) (get_ops _ _ _ rfl) (by kernel_rfl) (by kernel_rfl) (by kernel_rfl) (fun _ _ _ h => h) (Or.inl ⟨by rfl, fun wS hSw => by (try dsimp only at hSw); go_simp⟩) hHeld ?_
        try simp only [Act.put, List.setIfInBounds_toArray, List.set_cons_zero, List.set_cons_succ]
        refine wpAnyH_take (i := 2) (v := (.slice (some ⟨b7, o7, none⟩) l.length c)) (get_ops _ _ _ rfl) (by kernel_rfl) (by kernel_rfl) (by kernel_rfl) (fun _ _ _ h => h) (Or.inl ⟨by rfl, fun wS hSw => by (try dsimp only at hSw); go_simp⟩) hHeld ?_
        try simp only [Act.put, List.setIfInBounds_toArray, List.set_cons_zero, List.set_cons_succ]
        refine wpAnyH_take (i := 3) (v := (.int .i64 k)) (get_ops _ _ _ rfl) (by kernel_rfl) (by kernel_rfl) (by kernel_rfl) (fun _ _ _ h => h) (Or.inl ⟨by rfl, fun wS hSw => by (try dsimp only at hSw); go_simp⟩) hHeld ?_
        try simp only [Act.put, List.setIfInBounds_toArray, List.set_cons_zero, List.set_cons_succ]
        refine wpAnyH_take (i := 4) (v := (.pointer (some ⟨b7, o7 + k * 4, none⟩))) (get_ops _ _ _ rfl) (by kernel_rfl) (by kernel_rfl) (by kernel_rfl) (fun _ _ _ h => h) (Or.inl ⟨by rfl, fun wS hSw => by (try dsimp only at hSw); go_simp⟩) hHeld ?_
        try simp only [Act.put, List.setIfInBounds_toArray, List.set_cons_zero, List.set_cons_succ]
        refine wpAnyH_take (i := 5) (v := (.pointer (some ⟨b7, o7 + k * 4 + 1, none⟩))) (get_ops _ _ _ rfl) (by kernel_rfl) (by kernel_rfl) (by kernel_rfl) (fun _ _ _ h => h) (Or.inl ⟨by rfl, fun wS hSw => by (try dsimp only at hSw); go_simp⟩) hHeld ?_
        try simp only [Act.put, List.setIfInBounds_toArray, List.set_cons_zero, List.set_cons_succ]
        refine wpAnyH_take (i := 6) (v := (.int .i64 x.kind)) (get_ops _ _ _ rfl) (by kernel_rfl) (by kernel_rfl) (by kernel_rfl) (fun _ _ _ h => h) (Or.inl ⟨by rfl, fun wS hSw => by (try dsimp only at hSw); have cS := hSw.2.2 1 _ rfl; clear hSw; go_simp⟩) hHeld ?_
        try simp only [Act.put, List.setIfInBounds_toArray, List.set_cons_zero, List.set_cons_succ]
        refine wpAnyH_take (i := 7) (v := (.slice (some ⟨b7, o7, none⟩) l.length c)) (get_ops _ _ _ rfl) (by kernel_rfl) (by kernel_rfl) (by kernel_rfl) (fun _ _ _ h => h) (Or.inl ⟨by rfl, fun wS hSw => by (try dsimp only at hSw); go_simp⟩) hHeld ?_
        try simp only [Act.put, List.setIfInBounds_toArray, List.set_cons_zero, List.set_cons_succ]
        refine wpAnyH_take (i := 8) (v := (.int .i64 k)) (get_ops _ _ _ rfl) (by kernel_rfl) (by kernel_rfl) (by kernel_rfl) (fun _ _ _ h => h) (Or.inl ⟨by rfl, fun wS hSw => by (try dsimp only at hSw); go_simp⟩) hHeld ?_
        try simp only [Act.put, List.setIfInBounds_toArray, List.set_cons_zero, List.set_cons_succ]
        refine wpAnyH_take (i := 9) (v := (.pointer (some ⟨b7, o7 + k * 4, none⟩))) (get_ops _ _ _ rfl) (by kernel_rfl) (by kernel_rfl) (by kernel_rfl) (fun _ _ _ h => h) (Or.inl ⟨by rfl, fun wS hSw => by (try dsimp only at hSw); go_simp⟩) hHeld ?_
        try simp only [Act.put, List.setIfInBounds_toArray, List.set_cons_zero, List.set_cons_succ]
        refine wpAnyH_take (i := 10) (v := (.pointer (some ⟨b7, o7 + k * 4 + 2, none⟩))) (get_ops _ _ _ rfl) (by kernel_rfl) (by kernel_rfl) (by kernel_rfl) (fun _ _ _ h => h) (Or.inl ⟨by rfl, fun wS hSw => by (try dsimp only at hSw); go_simp⟩) hHeld ?_
        try simp only [Act.put, List.setIfInBounds_toArray, List.set_cons_zero, List.set_cons_succ]
        refine wpAnyH_take (i := 11) (v := (.string x.key)) (get_ops _ _ _ rfl) (by kernel_rfl) (by kernel_rfl) (by kernel_rfl) (fun _ _ _ h => h) (Or.inl ⟨by rfl, fun wS hSw => by (try dsimp only at hSw); have cS := hSw.2.2 2 _ rfl; clear hSw; go_simp⟩) hHeld ?_
        try simp only [Act.put, List.setIfInBounds_toArray, List.set_cons_zero, List.set_cons_succ]
        refine wpAnyH_take (i := 12) (v := (.slice (some ⟨b7, o7, none⟩) l.length c)) (get_ops _ _ _ rfl) (by kernel_rfl) (by kernel_rfl) (by kernel_rfl) (fun _ _ _ h => h) (Or.inl ⟨by rfl, fun wS hSw => by (try dsimp only at hSw); go_simp⟩) hHeld ?_
        try simp only [Act.put, List.setIfInBounds_toArray, List.set_cons_zero, List.set_cons_succ]
        refine wpAnyH_take (i := 13) (v := (.int .i64 k)) (get_ops _ _ _ rfl) (by kernel_rfl) (by kernel_rfl) (by kernel_rfl) (fun _ _ _ h => h) (Or.inl ⟨by rfl, fun wS hSw => by (try dsimp only at hSw); go_simp⟩) hHeld ?_
        try simp only [Act.put, List.setIfInBounds_toArray, List.set_cons_zero, List.set_cons_succ]
        refine wpAnyH_take (i := 14) (v := (.pointer (some ⟨b7, o7 + k * 4, none⟩))) (get_ops _ _ _ rfl) (by kernel_rfl) (by kernel_rfl) (by kernel_rfl) (fun _ _ _ h => h) (Or.inl ⟨by rfl, fun wS hSw => by (try dsimp only at hSw); go_simp⟩) hHeld ?_
        try simp only [Act.put, List.setIfInBounds_toArray, List.set_cons_zero, List.set_cons_succ]
        refine wpAnyH_take (i := 15) (v := (.pointer (some ⟨b7, o7 + k * 4 + 3, none⟩))) (get_ops _ _ _ rfl) (by kernel_rfl) (by kernel_rfl) (by kernel_rfl) (fun _ _ _ h => h) (Or.inl ⟨by rfl, fun wS hSw => by (try dsimp only at hSw); go_simp⟩) hHeld ?_
        try simp only [Act.put, List.setIfInBounds_toArray, List.set_cons_zero, List.set_cons_succ]
        refine wpAnyH_take (i := 16) (v := (.string x.val)) (get_ops _ _ _ rfl) (by kernel_rfl) (by kernel_rfl) (by kernel_rfl) (fun _ _ _ h => h) (Or.inl ⟨by rfl, fun wS hSw => by (try dsimp only at hSw); have cS := hSw.2.2 3 _ rfl; clear hSw; go_simp⟩) hHeld ?_
        try simp only [Act.put, List.setIfInBounds_toArray, List.set_cons_zero, List.set_cons_succ]
        refine wpAnyH_take (i := 17) (v := (.agg #[.int .i64 (base + (ws.length : Int)), .int .i64 x.kind, .string x.key, .string x.val])) (get_ops _ _ _ rfl) (by kernel_rfl) (by kernel_rfl) (by kernel_rfl) (fun _ _ _ h => h) (Or.inl ⟨by rfl, fun wS hSw => by (try dsimp only at hSw); go_simp⟩) hHeld ?_
        try simp only [Act.put, List.setIfInBounds_toArray, List.set_cons_zero, List.set_cons_succ]
        refine wpAnyH_ready (rs := [18]) (by kernel_rfl) (by simp) ?_
        refine (AllReadyH.cons (get_ops _ _ _ rfl) (fun K hK => ?_) AllReadyH.nil)
        go_simp
        refine name_world (C := fun w9 => K _ w9) (v1.alloc (.cells (rcC ⟨base + (ws.length : Int), x.kind, x.key, x.val⟩).toArray 32)) ?_
        intro v2 hv2
        have hb : Below v1.heap.size v1 v2 := by rw [hv2]; exact S2.below_new _ _
        have hN9 : BK 32 v2 (v1.heap.size) (rcC ⟨base + (ws.length : Int), x.kind, x.key, x.val⟩) := by rw [hv2]; exact BK.new _ _ _
        have ZV : Hid ((Value.slice A6 ws.length c6).ownBlock ≠ some (v1.heap.size)) := Lib.hid (fun e => by have h := own_lt W_v1.out _ e; omega)
        have B_v2 : Hid (Below w.heap.size w v2) := Lib.hid ((stepB B_v1.out hb))
        have U_v2 : Hid (BK 24 v2 (y1.heap.size) (sgC base (base + (ws.length : Int)) A9 (flatR ws).length c9)) := Lib.hid (U_v1.out.step hb)
        have O_v2 : Hid (CN (y1.heap.size + 1) v2 A9 (flatR ws)) := Lib.hid (O_v1.out.step hb)
        have Z_v2 : Hid ((y1.heap.size + 1) ≤ v2.heap.size) := Lib.hid (Nat.le_trans Z_v1.out hb.size)
        have W_v2 : Hid (OwnR v2 (y1.heap.size + 1) (.slice A6 ws.length c6) ws) := Lib.hid (OwnG.step W_v1.out hb)
        have G_v2 : Hid (RcL v2 v2.heap.size (some ⟨b7, o7, none⟩) l) := Lib.hid (G_v1.out.step hb)
        have X_v2 : Hid ((b7 < v2.heap.size ∧ ∀ i v, (rcC x)[i]? = some v → v2.cell? ⟨b7, o7 + k * 4 + i, none⟩ = some v)) := Lib.hid (⟨Nat.lt_of_lt_of_le X_v1.out.1 hb.size, fun i u hu => (hb.cell (p := ⟨b7, o7 + k * 4 + i, none⟩) X_v1.out.1).trans (X_v1.out.2 i u hu)⟩)
        have N_v2 : Hid (CN (y1.heap.size + 1) v2 A1 l1) := Lib.hid (N_v1.out.step hb)
        have T_v2 : Hid (BK 24 v2 (z2.heap.size) (sgC base (base + (ws.length : Int) + 1) A1 l1.length c1)) := Lib.hid (T_v1.out.step hb)
        clear B_v1 U_v1 O_v1 Z_v1 W_v1 G_v1 X_v1 N_v1 T_v1
        have V_v2 := Lib.hid hN9
        try rw [← hv2]
        clear hHeld hb hN9 hv2
        refine hK.out _ _ ⟨B_v2.out, X_v2.out⟩ (fun hHeld => ?_)
        clear hK K
        try simp only [Act.put, List.setIfInBounds_toArray, List.set_cons_zero, List.set_cons_succ]
        refine wpAnyH_ready (rs := [19]) (by kernel_rfl) (by simp) ?_
        refine (AllReadyH.cons (get_ops _ _ _ rfl) (fun K hK => ?_) AllReadyH.nil)
        rw [if_pos (by rfl)]
        refine oper_appG (g := rcC) (k := 4) (e := 32) (by decide) (.tmp 73) (.tmp 91) 37 37 rfl _ 48 Try.underlying37 rcInfo rfl (by decide) (y1.heap.size + 1) (.slice A6 ws.length c6) ws [⟨base + (ws.length : Int), x.kind, x.key, x.val⟩] _ (by go_simp) W_v2.out (by go_simp) (src_blk rcC_len rcC_one Try.underlying37 V_v2.out) Z_v2.out (by have := HB16.out; simp; omega) ?_
        intro v9 v3 hown hgr hoffs
        have B_v3 : Hid (Below w.heap.size w v3) := Lib.hid (Below.grow B_v2.out W_v2.out hgr B_v2.out.size (Nat.le_succ_of_le ZB0.out))
        have U_v3 : Hid (BK 24 v3 (y1.heap.size) (sgC base (base + (ws.length : Int)) A9 (flatR ws).length c9)) := Lib.hid (BK.grow U_v2.out hgr (OwnG.off W_v2.out (Nat.lt_succ_self _)))
        have T_v3 : Hid (BK 24 v3 (z2.heap.size) (sgC base (base + (ws.length : Int) + 1) A1 l1.length c1)) := Lib.hid (BK.grow T_v2.out hgr ZWT.out)
        have N_v3 : Hid (CN (y1.heap.size + 1) v3 A1 l1) := Lib.hid (CN.grow N_v2.out hgr HNA.out)
        have Z_v3 : Hid ((y1.heap.size + 1) ≤ v3.heap.size) := Lib.hid (Nat.le_trans Z_v2.out hgr.size)
        have X_v3 : Hid ((b7 < v3.heap.size ∧ ∀ i v, (rcC x)[i]? = some v → v3.cell? ⟨b7, o7 + k * 4 + i, none⟩ = some v)) := Lib.hid (⟨Nat.lt_of_lt_of_le X_v2.out.1 hgr.size, fun i u hu => (World.cell?_of_block (a := ⟨b7, o7 + k * 4 + i, none⟩) (hgr.block b7 X_v2.out.1 (fun e2 => OwnG.off W_v2.out (Nat.lt_succ_of_lt HG7.out) e2.symm))).trans (X_v2.out.2 i u hu)⟩)
        have G_v3 : Hid (RcL v3 v3.heap.size (some ⟨b7, o7, none⟩) l) := Lib.hid (GLgrow G_v2.out hgr (OwnG.off W_v2.out (Nat.lt_succ_of_lt HG7.out)))
        have HD9 : Hid (∀ b o, A1 = some ⟨b, o, none⟩ → 0 < l1.length → v9.ownBlock ≠ some b) := Lib.hid (fun b o e hn => hoffs b (N_v2.out.low b o e hn) (HNA.out b o e hn))
        clear hHeld B_v2 U_v2 O_v2 Z_v2 W_v2 G_v2 X_v2 N_v2 T_v2 V_v2
        have W_v3 : Hid (OwnR v3 (y1.heap.size + 1) v9 (ws ++ [⟨base + (ws.length : Int), x.kind, x.key, x.val⟩])) := Lib.hid hown
        clear hown hgr hoffs
        refine hK.out _ _ ⟨B_v3.out, X_v3.out⟩ (fun hHeld => ?_)
        clear hK K
        try simp only [Act.put, List.setIfInBounds_toArray, List.set_cons_zero, List.set_cons_succ]
        refine wpAnyH_take (i := 20) (v := v9) (get_ops _ _ _ rfl) (by kernel_rfl) (by kernel_rfl) (by kernel_rfl) (fun _ _ _ h => h) (Or.inl ⟨by rfl, fun wS hSw => by (try dsimp only at hSw); go_simp⟩) hHeld ?_
        try simp only [Act.put, List.setIfInBounds_toArray, List.set_cons_zero, List.set_cons_succ]
        refine wpAnyH_done (by kernel_rfl) ?_ _
        have t0 := T_v3.out.cell 0 rfl
        have t1 := T_v3.out.cell 1 rfl
        have t2 := T_v3.out.cell 2 rfl
        go_wp2_with first
          | (refine S2.wpList_store_all (by rfl) 24 (.tmp 5) (.tmp 93) rfl rfl (y1.heap.size) rfl (sgC base (base + (ws.length : Int) + 1) A1 l1.length c1) rfl 24 (sgC base (base + (ws.length : Int)) A9 (flatR ws).length c9) U_v3.out sgSize rfl (S2.all_one rfl) ?_; intro v4 hM hP; have U_v4 : Hid (BK 24 v4 (y1.heap.size) (sgC base (base + (ws.length : Int) + 1) A1 l1.length c1)) := Lib.hid hM; have B_v4 : Hid (Below w.heap.size w v4) := Lib.hid (hP.below B_v3.out ZB0.out); have N_v4 : Hid (CN (y1.heap.size + 1) v4 A1 l1) := Lib.hid (CN.put N_v3.out hP (Nat.lt_succ_self _)); have Z_v4 : Hid ((y1.heap.size + 1) ≤ v4.heap.size) := Lib.hid (by rw [hP.size]; exact Z_v3.out); have X_v4 : Hid ((b7 < v4.heap.size ∧ ∀ i v, (rcC x)[i]? = some v → v4.cell? ⟨b7, o7 + k * 4 + i, none⟩ = some v)) := Lib.hid (⟨by rw [hP.size]; exact X_v3.out.1, fun i u hu => (hP.cell (p := ⟨b7, o7 + k * 4 + i, none⟩) (Nat.ne_of_lt HG7.out)).trans (X_v3.out.2 i u hu)⟩); have G_v4 : Hid (RcL v4 v4.heap.size (some ⟨b7, o7, none⟩) l) := Lib.hid (GLput G_v3.out hP (Nat.ne_of_lt HG7.out)); have W_v4 : Hid (OwnR v4 (y1.heap.size + 1) v9 (ws ++ [⟨base + (ws.length : Int), x.kind, x.key, x.val⟩])) := Lib.hid (OwnG.put W_v3.out hP (OwnG.off W_v3.out (Nat.lt_succ_self _))); clear hM hP B_v3 U_v3 T_v3 N_v3 Z_v3 X_v3 G_v3 W_v3)
        have hl1 := HL1.out
        subst hl1
        go_roundg g
        case measure => exact Nat.lt_succ_self _
        case rel => exact ⟨k + 1, A1, c1, (ws ++ [⟨base + (ws.length : Int), x.kind, x.key, x.val⟩]), _, rfl, by have := HK.out; omega, by go_num, by have := HWK.out; rw [List.length_append, List.length_singleton]; omega, HCN.out, HLE.out, (by have hU2 := U_v4.out; rw [List.length_append, List.length_singleton, show base + ((ws.length + 1 : Nat) : Int) = base + (ws.length : Int) + 1 by omega]; exact hU2), HC1.out, N_v4.out, W_v4.out, HD9.out, Z_v4.out, B_v4.out, G_v4.out⟩
      · have ZT : Hid (y1.heap.size < z1.heap.size) := Lib.hid U_z1.out.lt
        have ZX : Hid (b7 < z1.heap.size) := Lib.hid X_z1.out.1
        have ZO : Hid (∀ b o, A9 = some ⟨b, o, none⟩ → 0 < (flatR ws).length → b ≠ z1.heap.size) := Lib.hid (fun b o e hn => Nat.ne_of_lt (O_z1.out.low b o e hn))
        have ZB : Hid (w.heap.size ≤ z1.heap.size) := Lib.hid B_z1.out.size
        have ZWT : Hid ((Value.slice A6 ws.length c6).ownBlock ≠ some (z1.heap.size)) := Lib.hid (fun e => by have h := own_lt W_z1.out _ e; omega)
        go_simp
        obtain ⟨z2, hz2⟩ : ∃ z2, z2 = z1.alloc (.cells (sgC 0 0 none 0 0).toArray 24) := ⟨_, rfl⟩
        have hb : Below z1.heap.size z1 z2 := by rw [hz2]; exact S2.below_new _ _
        have hN : BK 24 z2 (z1.heap.size) (sgC 0 0 none 0 0) := by rw [hz2]; exact BK.new _ _ _
        have B_z2 : Hid (Below w.heap.size w z2) := Lib.hid ((stepB B_z1.out hb))
        have U_z2 : Hid (BK 24 z2 (y1.heap.size) (sgC base (base + (ws.length : Int)) A9 (flatR ws).length c9)) := Lib.hid (U_z1.out.step hb)
        have O_z2 : Hid (CN (y1.heap.size + 1) z2 A9 (flatR ws)) := Lib.hid (O_z1.out.step hb)
        have Z_z2 : Hid ((y1.heap.size + 1) ≤ z2.heap.size) := Lib.hid (Nat.le_trans Z_z1.out hb.size)
        have W_z2 : Hid (OwnR z2 (y1.heap.size + 1) (.slice A6 ws.length c6) ws) := Lib.hid (OwnG.step W_z1.out hb)
        have G_z2 : Hid (RcL z2 z2.heap.size (some ⟨b7, o7, none⟩) l) := Lib.hid (G_z1.out.step hb)
        have X_z2 : Hid ((b7 < z2.heap.size ∧ ∀ i v, (rcC x)[i]? = some v → z2.cell? ⟨b7, o7 + k * 4 + i, none⟩ = some v)) := Lib.hid (⟨Nat.lt_of_lt_of_le X_z1.out.1 hb.size, fun i u hu => (hb.cell (p := ⟨b7, o7 + k * 4 + i, none⟩) X_z1.out.1).trans (X_z1.out.2 i u hu)⟩)
        clear B_z1 U_z1 O_z1 Z_z1 W_z1 G_z1 X_z1
        have T_z2 := Lib.hid hN
        try rw [← hz2]
        clear hHeld hb hN hz2
        refine hK.out _ _ ⟨X_z2.out, U_z2.out⟩ (fun hHeld => ?_)
        clear hK K
        try simp only [Act.put, List.setIfInBounds_toArray, List.set_cons_zero, List.set_cons_succ]
        refine wpAnyH_ready (rs := [16]) (by kernel_rfl) (by simp) ?_
        refine (AllReadyH.cons (get_ops _ _ _ rfl) (fun K hK => ?_) AllReadyH.nil)
        have ZL : Hid (y1.heap.size + 1 ≤ z2.heap.size) := Lib.hid U_z2.out.lt
        have ZC0 : Hid (z1.heap.size < z2.heap.size) := Lib.hid T_z2.out.lt
        go_simp
        have ZNB : Hid (∀ b, (Value.slice A6 ws.length c6).ownBlock = some b → b < z2.heap.size) := Lib.hid (fun b e => (own_lt W_z2.out b e).2)
        refine (HAP.out A9 c9 z2 O_z2.out.1).mono ?_
        rintro e z3 ⟨A1, c1, rfl, hc1, hN, hb⟩
        have ZNA : Hid (∀ b o, A1 = some ⟨b, o, none⟩ → (Value.slice A6 ws.length c6).ownBlock ≠ some b) := Lib.hid (fun b o e e2 => by have h1 := hN.2 b o e; have h2 := ZNB.out b e2; omega)
        have B_z3 : Hid (Below w.heap.size w z3) := Lib.hid ((stepB B_z2.out hb))
        have U_z3 : Hid (BK 24 z3 (y1.heap.size) (sgC base (base + (ws.length : Int)) A9 (flatR ws).length c9)) := Lib.hid (U_z2.out.step hb)
        have O_z3 : Hid (CN (y1.heap.size + 1) z3 A9 (flatR ws)) := Lib.hid (O_z2.out.step hb)
        have Z_z3 : Hid ((y1.heap.size + 1) ≤ z3.heap.size) := Lib.hid (Nat.le_trans Z_z2.out hb.size)
        have W_z3 : Hid (OwnR z3 (y1.heap.size + 1) (.slice A6 ws.length c6) ws) := Lib.hid (OwnG.step W_z2.out hb)
        have G_z3 : Hid (RcL z3 z3.heap.size (some ⟨b7, o7, none⟩) l) := Lib.hid (G_z2.out.step hb)
        have X_z3 : Hid ((b7 < z3.heap.size ∧ ∀ i v, (rcC x)[i]? = some v → z3.cell? ⟨b7, o7 + k * 4 + i, none⟩ = some v)) := Lib.hid (⟨Nat.lt_of_lt_of_le X_z2.out.1 hb.size, fun i u hu => (hb.cell (p := ⟨b7, o7 + k * 4 + i, none⟩) X_z2.out.1).trans (X_z2.out.2 i u hu)⟩)
        have T_z3 : Hid (BK 24 z3 (z1.heap.size) (sgC 0 0 none 0 0)) := Lib.hid (T_z2.out.step hb)
        clear B_z2 U_z2 O_z2 Z_z2 W_z2 G_z2 X_z2 T_z2
        have ZN : Hid (∀ b o, A1 = some ⟨b, o, none⟩ → 0 < l1.length → b ≠ z1.heap.size) := Lib.hid (fun b o e _ => by have h1 := hN.2 b o e; have h2 := ZC0.out; omega)
        have N_z3 : Hid (CN (y1.heap.size + 1) z3 A1 l1) := Lib.hid (hN.weak ZL.out)
        have HC1 := Lib.hid hc1
        clear hN hc1
        clear hHeld hb
        go_wp2_with fail
        refine hK.out _ _ ⟨X_z3.out, U_z3.out⟩ (fun hHeld => ?_)
        clear hK K
        try simp only [Act.put, List.setIfInBounds_toArray, List.set_cons_zero, List.set_cons_succ]
        refine wpAnyH_take (i := 17) (v := (.tuple #[sgV b1 n1 A1 l1.length c1, .int .i64 m1, .int .i64 e1])) (get_ops _ _ _ rfl) (by kernel_rfl) (by kernel_rfl) (by kernel_rfl) (fun _ _ _ h => h) (Or.inl ⟨by rfl, fun wS hSw => by (try dsimp only at hSw); go_simp⟩) hHeld ?_
        try simp only [Act.put, List.setIfInBounds_toArray, List.set_cons_zero, List.set_cons_succ]
        refine wpAnyH_take (i := 18) (v := (sgV b1 n1 A1 l1.length c1)) (get_ops _ _ _ rfl) (by kernel_rfl) (by kernel_rfl) (by kernel_rfl) (fun _ _ _ h => h) (Or.inl ⟨by rfl, fun wS hSw => by (try dsimp only at hSw); go_simp⟩) hHeld ?_
        try simp only [Act.put, List.setIfInBounds_toArray, List.set_cons_zero, List.set_cons_succ]
        refine wpAnyH_take (i := 19) (v := (.int .i64 m1)) (get_ops _ _ _ rfl) (by kernel_rfl) (by kernel_rfl) (by kernel_rfl) (fun _ _ _ h => h) (Or.inl ⟨by rfl, fun wS hSw => by (try dsimp only at hSw); go_simp⟩) hHeld ?_
        try simp only [Act.put, List.setIfInBounds_toArray, List.set_cons_zero, List.set_cons_succ]
        refine wpAnyH_take (i := 20) (v := (.int .i64 e1)) (get_ops _ _ _ rfl) (by kernel_rfl) (by kernel_rfl) (by kernel_rfl) (fun _ _ _ h => h) (Or.inl ⟨by rfl, fun wS hSw => by (try dsimp only at hSw); go_simp⟩) hHeld ?_
        try simp only [Act.put, List.setIfInBounds_toArray, List.set_cons_zero, List.set_cons_succ]
        refine wpAnyH_ready (rs := [22]) (by kernel_rfl) (by simp) ?_
        refine (AllReadyH.cons (get_ops _ _ _ rfl) (fun K hK => ?_) AllReadyH.nil)
        refine S2.wp_store_all 24 _ _ rfl rfl (z1.heap.size) (by go_simp) (sgC b1 n1 A1 l1.length c1) (by first | rfl | go_simp) 24 (sgC 0 0 none 0 0) T_z3.out sgSize rfl (S2.all_one rfl) ?_
        intro z4 hM hP
        have T_z4 : Hid (BK 24 z4 (z1.heap.size) (sgC b1 n1 A1 l1.length c1)) := Lib.hid (hM)
        have B_z4 : Hid (Below w.heap.size w z4) := Lib.hid (hP.below B_z3.out ZB.out)
        have U_z4 : Hid (BK 24 z4 (y1.heap.size) (sgC base (base + (ws.length : Int)) A9 (flatR ws).length c9)) := Lib.hid (hP.other U_z3.out (by have := ZT.out; omega))
        have O_z4 : Hid (CN (y1.heap.size + 1) z4 A9 (flatR ws)) := Lib.hid (CN.put2 O_z3.out hP ZO.out)
        have Z_z4 : Hid ((y1.heap.size + 1) ≤ z4.heap.size) := Lib.hid (by rw [hP.size]; exact Z_z3.out)
        have W_z4 : Hid (OwnR z4 (y1.heap.size + 1) (.slice A6 ws.length c6) ws) := Lib.hid (OwnG.put W_z3.out hP ZWT.out)
        have G_z4 : Hid (RcL z4 z4.heap.size (some ⟨b7, o7, none⟩) l) := Lib.hid (GLput G_z3.out hP (Nat.ne_of_lt ZX.out))
        have X_z4 : Hid ((b7 < z4.heap.size ∧ ∀ i v, (rcC x)[i]? = some v → z4.cell? ⟨b7, o7 + k * 4 + i, none⟩ = some v)) := Lib.hid (⟨by rw [hP.size]; exact X_z3.out.1, fun i u hu => (hP.cell (p := ⟨b7, o7 + k * 4 + i, none⟩) (Nat.ne_of_lt ZX.out)).trans (X_z3.out.2 i u hu)⟩)
        have N_z4 : Hid (CN (y1.heap.size + 1) z4 A1 l1) := Lib.hid (CN.put2 N_z3.out hP ZN.out)
        clear B_z3 U_z3 O_z3 Z_z3 W_z3 G_z3 X_z3 T_z3 N_z3
        clear hM hP hHeld
        refine hK.out _ _ ⟨X_z4.out, U_z4.out⟩ (fun hHeld => ?_)
        clear hK K
        try simp only [Act.put, List.setIfInBounds_toArray, List.set_cons_zero, List.set_cons_succ]
        refine wpAnyH_take (i := 23) (v := (.int .i64 m1)) (get_ops _ _ _ rfl) (by kernel_rfl) (by kernel_rfl) (by kernel_rfl) (fun _ _ _ h => h) (Or.inl ⟨by rfl, fun wS hSw => by (try dsimp only at hSw); go_simp⟩) hHeld ?_
        try simp only [Act.put, List.setIfInBounds_toArray, List.set_cons_zero, List.set_cons_succ]
        refine wpAnyH_take (i := 24) (v := (.int .i64 e1)) (get_ops _ _ _ rfl) (by kernel_rfl) (by kernel_rfl) (by kernel_rfl) (fun _ _ _ h => h) (Or.inl ⟨by rfl, fun wS hSw => by (try dsimp only at hSw); go_simp⟩) hHeld ?_
        try simp only [Act.put, List.setIfInBounds_toArray, List.set_cons_zero, List.set_cons_succ]
        refine wpAnyH_done (by kernel_rfl) ?_ _
        by_cases he : e1 ≠ 0
        · have hq : (e1 != 0) = true := by simp [he]
          go_wp2_with fail
          go_roundg g
          case measure => exact Nat.lt_succ_self _
          case rel => exact ⟨k + 1, A9, c9, ws, _, rfl, by have := HK.out; omega, by go_num, Nat.le_succ_of_le HWK.out, HCON.out, HFL.out, U_z4.out, HC9.out, O_z4.out, W_z4.out, HD.out, Z_z4.out, B_z4.out, G_z4.out⟩
        obtain rfl : e1 = 0 := by omega
        obtain ⟨rfl, rfl, rfl, hl1, hcn, hle⟩ := sgApp_ok HCON.out HAQ.out
        have HCN := Lib.hid hcn
        have HLE := Lib.hid hle
        have HL1 := Lib.hid hl1
        clear hcn hle hl1 HAQ
        have hwa : wrap64 (base + (ws.length : Int)) = base + (ws.length : Int) := wrap64_id _ (by have := HB16.out; omega) (by have := HB16.out; omega)
        have hwb : wrap64 (base + (ws.length : Int) + 1) = base + (ws.length : Int) + 1 := wrap64_id _ (by have := HB16.out; omega) (by have := HB16.out; omega)
        have HNA : Hid (∀ b o, A1 = some ⟨b, o, none⟩ → 0 < l1.length → (Value.slice A6 ws.length c6).ownBlock ≠ some b) := Lib.hid (fun b o e hn e2 => ZNA.out b o e e2)
        have t0 := T_z4.out.cell 0 rfl
        have t1 := T_z4.out.cell 1 rfl
        have t2 := T_z4.out.cell 2 rfl
        go_upto_region 12 with fail
        clear t0 t1 t2
        clear hwa hwb
        obtain ⟨v1, hv1⟩ : ∃ v1, v1 = World.drew z4 := ⟨_, rfl⟩
        have hbD : Below z4.heap.size z4 v1 := by rw [hv1]; exact (Below.refl _ _).drew
        have B_v1 : Hid (Below w.heap.size w v1) := Lib.hid ((stepB B_z4.out hbD))
        have U_v1 : Hid (BK 24 v1 (y1.heap.size) (sgC base (base + (ws.length : Int)) A9 (flatR ws).length c9)) := Lib.hid (U_z4.out.step hbD)
        have O_v1 : Hid (CN (y1.heap.size + 1) v1 A9 (flatR ws)) := Lib.hid (O_z4.out.step hbD)
        have Z_v1 : Hid ((y1.heap.size + 1) ≤ v1.heap.size) := Lib.hid (Nat.le_trans Z_z4.out hbD.size)
        have W_v1 : Hid (OwnR v1 (y1.heap.size + 1) (.slice A6 ws.length c6) ws) := Lib.hid (OwnG.step W_z4.out hbD)
        have G_v1 : Hid (RcL v1 v1.heap.size (some ⟨b7, o7, none⟩) l) := Lib.hid (G_z4.out.step hbD)
        have X_v1 : Hid ((b7 < v1.heap.size ∧ ∀ i v, (rcC x)[i]? = some v → v1.cell? ⟨b7, o7 + k * 4 + i, none⟩ = some v)) := Lib.hid (⟨Nat.lt_of_lt_of_le X_z4.out.1 hbD.size, fun i u hu => (hbD.cell (p := ⟨b7, o7 + k * 4 + i, none⟩) X_z4.out.1).trans (X_z4.out.2 i u hu)⟩)
        have T_v1 : Hid (BK 24 v1 (z1.heap.size) (sgC base (base + (ws.length : Int) + 1) A1 l1.length c1)) := Lib.hid (T_z4.out.step hbD)
        have N_v1 : Hid (CN (y1.heap.size + 1) v1 A1 l1) := Lib.hid (N_z4.out.step hbD)
        clear B_z4 U_z4 O_z4 Z_z4 W_z4 G_z4 X_z4 T_z4 N_z4
        have hbd : (fun w' => Below w.heap.size w w' ∧ (b7 < w'.heap.size ∧ ∀ i v, (rcC x)[i]? = some v → w'.cell? ⟨b7, o7 + k * 4 + i, none⟩ = some v)) (World.drew z4) := by rw [← hv1]; exact ⟨B_v1.out, X_v1.out⟩
        have hSD : (fun w' => Below w.heap.size w w' ∧ (b7 < w'.heap.size ∧ ∀ i v, (rcC x)[i]? = some v → w'.cell? ⟨b7, o7 + k * 4 + i, none⟩ = some v)) v1 := ⟨B_v1.out, X_v1.out⟩
        have HWD := Lib.hid hv1
        clear hv1 hbD
        refine wp_region_held_drew (S := fun w' => Below w.heap.size w w' ∧ (b7 < w'.heap.size ∧ ∀ i v, (rcC x)[i]? = some v → w'.cell? ⟨b7, o7 + k * 4 + i, none⟩ = some v)) (by kernel_rfl) hbd (fun hHeld => ?_)
        rw [← HWD.out]
        clear hHeld
        have hHeld := hSD
        clear hSD hbd HWD
        refine wpAnyH_take (i := 0) (v := (.slice A6 ws.length c6)) (get_ops _ _ _ rfl) (by kernel_rfl) (by kernel_rfl) (by kernel_rfl) (fun _ _ _ h => h) (Or.inl ⟨by rfl, fun wS hSw => by (try dsimp only at hSw); go_simp⟩) hHeld ?_
        try simp only [Act.put, List.setIfInBounds_toArray, List.set_cons_zero, List.set_cons_succ]
        refine wpAnyH_take (i := 1) (v := (.int .i64 (base + (ws.length : Int)))) (get_ops _ _ _ rfl) (by kernel_rfl) (by kernel_rfl) (by kernel_rfl) (fun _ _ _ h => h) (Or.inl ⟨by rfl, fun wS hSw => by (try dsimp only at hSw); go_simp⟩) hHeld ?_
        try simp only [Act.put, List.setIfInBounds_toArray, List.set_cons_zero, List.set_cons_succ]
        refine wpAnyH_take (i := 2) (v := (.slice (some ⟨b7, o7, none⟩) l.length c)) (get_ops _ _ _ rfl) (by kernel_rfl) (by kernel_rfl) (by kernel_rfl) (fun _ _ _ h => h) (Or.inl ⟨by rfl, fun wS hSw => by (try dsimp only at hSw); go_simp⟩) hHeld ?_
        try simp only [Act.put, List.setIfInBounds_toArray, List.set_cons_zero, List.set_cons_succ]
        refine wpAnyH_take (i := 3) (v := (.int .i64 k)) (get_ops _ _ _ rfl) (by kernel_rfl) (by kernel_rfl) (by kernel_rfl) (fun _ _ _ h => h) (Or.inl ⟨by rfl, fun wS hSw => by (try dsimp only at hSw); go_simp⟩) hHeld ?_
        try simp only [Act.put, List.setIfInBounds_toArray, List.set_cons_zero, List.set_cons_succ]
        refine wpAnyH_take (i := 4) (v := (.pointer (some ⟨b7, o7 + k * 4, none⟩))) (get_ops _ _ _ rfl) (by kernel_rfl) (by kernel_rfl) (by kernel_rfl) (fun _ _ _ h => h) (Or.inl ⟨by rfl, fun wS hSw => by (try dsimp only at hSw); go_simp⟩) hHeld ?_
        try simp only [Act.put, List.setIfInBounds_toArray, List.set_cons_zero, List.set_cons_succ]
        refine wpAnyH_take (i := 5) (v := (.pointer (some ⟨b7, o7 + k * 4 + 1, none⟩))) (get_ops _ _ _ rfl) (by kernel_rfl) (by kernel_rfl) (by kernel_rfl) (fun _ _ _ h => h) (Or.inl ⟨by rfl, fun wS hSw => by (try dsimp only at hSw); go_simp⟩) hHeld ?_
        try simp only [Act.put, List.setIfInBounds_toArray, List.set_cons_zero, List.set_cons_succ]
        refine wpAnyH_take (i := 6) (v := (.int .i64 x.kind)) (get_ops _ _ _ rfl) (by kernel_rfl) (by kernel_rfl) (by kernel_rfl) (fun _ _ _ h => h) (Or.inl ⟨by rfl, fun wS hSw => by (try dsimp only at hSw); have cS := hSw.2.2 1 _ rfl; clear hSw; go_simp⟩) hHeld ?_
        try simp only [Act.put, List.setIfInBounds_toArray, List.set_cons_zero, List.set_cons_succ]
        refine wpAnyH_take (i := 7) (v := (.slice (some ⟨b7, o7, none⟩) l.length c)) (get_ops _ _ _ rfl) (by kernel_rfl) (by kernel_rfl) (by kernel_rfl) (fun _ _ _ h => h) (Or.inl ⟨by rfl, fun wS hSw => by (try dsimp only at hSw); go_simp⟩) hHeld ?_
        try simp only [Act.put, List.setIfInBounds_toArray, List.set_cons_zero, List.set_cons_succ]
        refine wpAnyH_take (i := 8) (v := (.int .i64 k)) (get_ops _ _ _ rfl) (by kernel_rfl) (by kernel_rfl) (by kernel_rfl) (fun _ _ _ h => h) (Or.inl ⟨by rfl, fun wS hSw => by (try dsimp only at hSw); go_simp⟩) hHeld ?_
        try simp only [Act.put, List.setIfInBounds_toArray, List.set_cons_zero, List.set_cons_succ]
        refine wpAnyH_take (i := 9) (v := (.pointer (some ⟨b7, o7 + k * 4, none⟩))) (get_ops _ _ _ rfl) (by kernel_rfl) (by kernel_rfl) (by kernel_rfl) (fun _ _ _ h => h) (Or.inl ⟨by rfl, fun wS hSw => by (try dsimp only at hSw); go_simp⟩) hHeld ?_
        try simp only [Act.put, List.setIfInBounds_toArray, List.set_cons_zero, List.set_cons_succ]
        refine wpAnyH_take (i := 10) (v := (.pointer (some ⟨b7, o7 + k * 4 + 2, none⟩))) (get_ops _ _ _ rfl) (by kernel_rfl) (by kernel_rfl) (by kernel_rfl) (fun _ _ _ h => h) (Or.inl ⟨by rfl, fun wS hSw => by (try dsimp only at hSw); go_simp⟩) hHeld ?_
        try simp only [Act.put, List.setIfInBounds_toArray, List.set_cons_zero, List.set_cons_succ]
        refine wpAnyH_take (i := 11) (v := (.string x.key)) (get_ops _ _ _ rfl) (by kernel_rfl) (by kernel_rfl) (by kernel_rfl) (fun _ _ _ h => h) (Or.inl ⟨by rfl, fun wS hSw => by (try dsimp only at hSw); have cS := hSw.2.2 2 _ rfl; clear hSw; go_simp⟩) hHeld ?_
        try simp only [Act.put, List.setIfInBounds_toArray, List.set_cons_zero, List.set_cons_succ]
        refine wpAnyH_take (i := 12) (v := (.slice (some ⟨b7, o7, none⟩) l.length c)) (get_ops _ _ _ rfl) (by kernel_rfl) (by kernel_rfl) (by kernel_rfl) (fun _ _ _ h => h) (Or.inl ⟨by rfl, fun wS hSw => by (try dsimp only at hSw); go_simp⟩) hHeld ?_
        try simp only [Act.put, List.setIfInBounds_toArray, List.set_cons_zero, List.set_cons_succ]
        refine wpAnyH_take (i := 13) (v := (.int .i64 k)) (get_ops _ _ _ rfl) (by kernel_rfl) (by kernel_rfl) (by kernel_rfl) (fun _ _ _ h => h) (Or.inl ⟨by rfl, fun wS hSw => by (try dsimp only at hSw); go_simp⟩) hHeld ?_
        try simp only [Act.put, List.setIfInBounds_toArray, List.set_cons_zero, List.set_cons_succ]
        refine wpAnyH_take (i := 14) (v := (.pointer (some ⟨b7, o7 + k * 4, none⟩))) (get_ops _ _ _ rfl) (by kernel_rfl) (by kernel_rfl) (by kernel_rfl) (fun _ _ _ h => h) (Or.inl ⟨by rfl, fun wS hSw => by (try dsimp only at hSw); go_simp⟩) hHeld ?_
        try simp only [Act.put, List.setIfInBounds_toArray, List.set_cons_zero, List.set_cons_succ]
        refine wpAnyH_take (i := 15) (v := (.pointer (some ⟨b7, o7 + k * 4 + 3, none⟩))) (get_ops _ _ _ rfl) (by kernel_rfl) (by kernel_rfl) (by kernel_rfl) (fun _ _ _ h => h) (Or.inl ⟨by rfl, fun wS hSw => by (try dsimp only at hSw); go_simp⟩) hHeld ?_
        try simp only [Act.put, List.setIfInBounds_toArray, List.set_cons_zero, List.set_cons_succ]
        refine wpAnyH_take (i := 16) (v := (.string x.val)) (get_ops _ _ _ rfl) (by kernel_rfl) (by kernel_rfl) (by kernel_rfl) (fun _ _ _ h => h) (Or.inl ⟨by rfl, fun wS hSw => by (try dsimp only at hSw); have cS := hSw.2.2 3 _ rfl; clear hSw; go_simp⟩) hHeld ?_
        try simp only [Act.put, List.setIfInBounds_toArray, List.set_cons_zero, List.set_cons_succ]
        refine wpAnyH_take (i := 17) (v := (.agg #[.int .i64 (base + (ws.length : Int)), .int .i64 x.kind, .string x.key, .string x.val])) (get_ops _ _ _ rfl) (by kernel_rfl) (by kernel_rfl) (by kernel_rfl) (fun _ _ _ h => h) (Or.inl ⟨by rfl, fun wS hSw => by (try dsimp only at hSw); go_simp⟩) hHeld ?_
        try simp only [Act.put, List.setIfInBounds_toArray, List.set_cons_zero, List.set_cons_succ]
        refine wpAnyH_ready (rs := [18]) (by kernel_rfl) (by simp) ?_
        refine (AllReadyH.cons (get_ops _ _ _ rfl) (fun K hK => ?_) AllReadyH.nil)
        go_simp
        refine name_world (C := fun w9 => K _ w9) (v1.alloc (.cells (rcC ⟨base + (ws.length : Int), x.kind, x.key, x.val⟩).toArray 32)) ?_
        intro v2 hv2
        have hb : Below v1.heap.size v1 v2 := by rw [hv2]; exact S2.below_new _ _
        have hN9 : BK 32 v2 (v1.heap.size) (rcC ⟨base + (ws.length : Int), x.kind, x.key, x.val⟩) := by rw [hv2]; exact BK.new _ _ _
        have ZV : Hid ((Value.slice A6 ws.length c6).ownBlock ≠ some (v1.heap.size)) := Lib.hid (fun e => by have h := own_lt W_v1.out _ e; omega)
        have B_v2 : Hid (Below w.heap.size w v2) := Lib.hid ((stepB B_v1.out hb))
        have U_v2 : Hid (BK 24 v2 (y1.heap.size) (sgC base (base + (ws.length : Int)) A9 (flatR ws).length c9)) := Lib.hid (U_v1.out.step hb)
        have O_v2 : Hid (CN (y1.heap.size + 1) v2 A9 (flatR ws)) := Lib.hid (O_v1.out.step hb)
        have Z_v2 : Hid ((y1.heap.size + 1) ≤ v2.heap.size) := Lib.hid (Nat.le_trans Z_v1.out hb.size)
        have W_v2 : Hid (OwnR v2 (y1.heap.size + 1) (.slice A6 ws.length c6) ws) := Lib.hid (OwnG.step W_v1.out hb)
        have G_v2 : Hid (RcL v2 v2.heap.size (some ⟨b7, o7, none⟩) l) := Lib.hid (G_v1.out.step hb)
        have X_v2 : Hid ((b7 < v2.heap.size ∧ ∀ i v, (rcC x)[i]? = some v → v2.cell? ⟨b7, o7 + k * 4 + i, none⟩ = some v)) := Lib.hid (⟨Nat.lt_of_lt_of_le X_v1.out.1 hb.size, fun i u hu => (hb.cell (p := ⟨b7, o7 + k * 4 + i, none⟩) X_v1.out.1).trans (X_v1.out.2 i u hu)⟩)
        have T_v2 : Hid (BK 24 v2 (z1.heap.size) (sgC base (base + (ws.length : Int) + 1) A1 l1.length c1)) := Lib.hid (T_v1.out.step hb)
        have N_v2 : Hid (CN (y1.heap.size + 1) v2 A1 l1) := Lib.hid (N_v1.out.step hb)
        clear B_v1 U_v1 O_v1 Z_v1 W_v1 G_v1 X_v1 T_v1 N_v1
        have V_v2 := Lib.hid hN9
        try rw [← hv2]
        clear hHeld hb hN9 hv2
        refine hK.out _ _ ⟨B_v2.out, X_v2.out⟩ (fun hHeld => ?_)
        clear hK K
        try simp only [Act.put, List.setIfInBounds_toArray, List.set_cons_zero, List.set_cons_succ]
        refine wpAnyH_ready (rs := [19]) (by kernel_rfl) (by simp) ?_
        refine (AllReadyH.cons (get_ops _ _ _ rfl) (fun K hK => ?_) AllReadyH.nil)
        rw [if_pos (by rfl)]
        refine oper_appG (g := rcC) (k := 4) (e := 32) (by decide) (.tmp 73) (.tmp 91) 37 37 rfl _ 48 Try.underlying37 rcInfo rfl (by decide) (y1.heap.size + 1) (.slice A6 ws.length c6) ws [⟨base + (ws.length : Int), x.kind, x.key, x.val⟩] _ (by go_simp) W_v2.out (by go_simp) (src_blk rcC_len rcC_one Try.underlying37 V_v2.out) Z_v2.out (by have := HB16.out; simp; omega) ?_
        intro v9 v3 hown hgr hoffs
        have B_v3 : Hid (Below w.heap.size w v3) := Lib.hid (Below.grow B_v2.out W_v2.out hgr B_v2.out.size (Nat.le_succ_of_le ZB0.out))
        have U_v3 : Hid (BK 24 v3 (y1.heap.size) (sgC base (base + (ws.length : Int)) A9 (flatR ws).length c9)) := Lib.hid (BK.grow U_v2.out hgr (OwnG.off W_v2.out (Nat.lt_succ_self _)))
        have T_v3 : Hid (BK 24 v3 (z1.heap.size) (sgC base (base + (ws.length : Int) + 1) A1 l1.length c1)) := Lib.hid (BK.grow T_v2.out hgr ZWT.out)
        have N_v3 : Hid (CN (y1.heap.size + 1) v3 A1 l1) := Lib.hid (CN.grow N_v2.out hgr HNA.out)
        have Z_v3 : Hid ((y1.heap.size + 1) ≤ v3.heap.size) := Lib.hid (Nat.le_trans Z_v2.out hgr.size)
        have X_v3 : Hid ((b7 < v3.heap.size ∧ ∀ i v, (rcC x)[i]? = some v → v3.cell? ⟨b7, o7 + k * 4 + i, none⟩ = some v)) := Lib.hid (⟨Nat.lt_of_lt_of_le X_v2.out.1 hgr.size, fun i u hu => (World.cell?_of_block (a := ⟨b7, o7 + k * 4 + i, none⟩) (hgr.block b7 X_v2.out.1 (fun e2 => OwnG.off W_v2.out (Nat.lt_succ_of_lt HG7.out) e2.symm))).trans (X_v2.out.2 i u hu)⟩)
        have G_v3 : Hid (RcL v3 v3.heap.size (some ⟨b7, o7, none⟩) l) := Lib.hid (GLgrow G_v2.out hgr (OwnG.off W_v2.out (Nat.lt_succ_of_lt HG7.out)))
        have HD9 : Hid (∀ b o, A1 = some ⟨b, o, none⟩ → 0 < l1.length → v9.ownBlock ≠ some b) := Lib.hid (fun b o e hn => hoffs b (N_v2.out.low b o e hn) (HNA.out b o e hn))
        clear hHeld B_v2 U_v2 O_v2 Z_v2 W_v2 G_v2 X_v2 T_v2 N_v2 V_v2
        have W_v3 : Hid (OwnR v3 (y1.heap.size + 1) v9 (ws ++ [⟨base + (ws.length : Int), x.kind, x.key, x.val⟩])) := Lib.hid hown
        clear hown hgr hoffs
        refine hK.out _ _ ⟨B_v3.out, X_v3.out⟩ (fun hHeld => ?_)
        clear hK K
        try simp only [Act.put, List.setIfInBounds_toArray, List.set_cons_zero, List.set_cons_succ]
        refine wpAnyH_take (i := 20) (v := v9) (get_ops _ _ _ rfl) (by kernel_rfl) (by kernel_rfl) (by kernel_rfl) (fun _ _ _ h => h) (Or.inl ⟨by rfl, fun wS hSw => by (try dsimp only at hSw); go_simp⟩) hHeld ?_
        try simp only [Act.put, List.setIfInBounds_toArray, List.set_cons_zero, List.set_cons_succ]
        refine wpAnyH_done (by kernel_rfl) ?_ _
        have t0 := T_v3.out.cell 0 rfl
        have t1 := T_v3.out.cell 1 rfl
        have t2 := T_v3.out.cell 2 rfl
        go_wp2_with first
          | (refine S2.wpList_store_all (by rfl) 24 (.tmp 5) (.tmp 93) rfl rfl (y1.heap.size) rfl (sgC base (base + (ws.length : Int) + 1) A1 l1.length c1) rfl 24 (sgC base (base + (ws.length : Int)) A9 (flatR ws).length c9) U_v3.out sgSize rfl (S2.all_one rfl) ?_; intro v4 hM hP; have U_v4 : Hid (BK 24 v4 (y1.heap.size) (sgC base (base + (ws.length : Int) + 1) A1 l1.length c1)) := Lib.hid hM; have B_v4 : Hid (Below w.heap.size w v4) := Lib.hid (hP.below B_v3.out ZB0.out); have N_v4 : Hid (CN (y1.heap.size + 1) v4 A1 l1) := Lib.hid (CN.put N_v3.out hP (Nat.lt_succ_self _)); have Z_v4 : Hid ((y1.heap.size + 1) ≤ v4.heap.size) := Lib.hid (by rw [hP.size]; exact Z_v3.out); have X_v4 : Hid ((b7 < v4.heap.size ∧ ∀ i v, (rcC x)[i]? = some v → v4.cell? ⟨b7, o7 + k * 4 + i, none⟩ = some v)) := Lib.hid (⟨by rw [hP.size]; exact X_v3.out.1, fun i u hu => (hP.cell (p := ⟨b7, o7 + k * 4 + i, none⟩) (Nat.ne_of_lt HG7.out)).trans (X_v3.out.2 i u hu)⟩); have G_v4 : Hid (RcL v4 v4.heap.size (some ⟨b7, o7, none⟩) l) := Lib.hid (GLput G_v3.out hP (Nat.ne_of_lt HG7.out)); have W_v4 : Hid (OwnR v4 (y1.heap.size + 1) v9 (ws ++ [⟨base + (ws.length : Int), x.kind, x.key, x.val⟩])) := Lib.hid (OwnG.put W_v3.out hP (OwnG.off W_v3.out (Nat.lt_succ_self _))); clear hM hP B_v3 U_v3 T_v3 N_v3 Z_v3 X_v3 G_v3 W_v3)
        have hl1 := HL1.out
        subst hl1
        go_roundg g
        case measure => exact Nat.lt_succ_self _
        case rel => exact ⟨k + 1, A1, c1, (ws ++ [⟨base + (ws.length : Int), x.kind, x.key, x.val⟩]), _, rfl, by have := HK.out; omega, by go_num, by have := HWK.out; rw [List.length_append, List.length_singleton]; omega, HCN.out, HLE.out, (by have hU2 := U_v4.out; rw [List.length_append, List.length_singleton, show base + ((ws.length + 1 : Nat) : Int) = base + (ws.length : Int) + 1 by omega]; exact hU2), HC1.out, N_v4.out, W_v4.out, HD9.out, Z_v4.out, B_v4.out, G_v4.out⟩
end Go.Proofs.Ytbmeimpfehjnfaa
