/-
  What Same of brokerref17 answers. Conditions: the lists read as data; few messages, with few properties.
-/
import Derived.Test.YtgnbiicfabldbabSd
namespace Go.Proofs.Ytgnbiicfabldbab
open Go.RowKit
open S2 (BK Put)

theorem cells_stepM {L : List Value} {w w' : World} {b k : Nat} (h : ∀ i u, L[i]? = some u → w.cell? ⟨b, k + i, none⟩ = some u) (hb : Below w.heap.size w w') (hlt : b < w.heap.size) : ∀ i u, L[i]? = some u → w'.cell? ⟨b, k + i, none⟩ = some u := fun i u hu => (hb.cell (p := ⟨b, k + i, none⟩) hlt).trans (h i u hu)
theorem sameM_dec (a b : Msg) : sameM a b = decide (a = b) := rfl
set_option maxRecDepth 20000 in
set_option maxHeartbeats 4000000 in
theorem rSameQ_any (A : Option Addr) (c : Nat) (xs : List ME) (A' : Option Addr) (c' : Nat) (ys : List ME) (w : World) (hx : MI w w.heap.size A xs) (hy : MI w w.heap.size A' ys) (hn : xs.length ≤ 100000) (hp : ∀ x ∈ xs, x.m.props.length ≤ 4398046511104) :
    Calls Try.prog 13 #[.slice A xs.length c, .slice A' ys.length c'] w fun e w' => e = .returned (.bool (decide (xs.map ME.m = ys.map ME.m))) ∧ Below w.heap.size w w' := by
  have HSM := Lib.hid (fun (a b : Msg) (p p' : Option Addr) (q q' : Nat) (w1 : World) (h1 : PL w1 w1.heap.size p a.props) (h2 : PL w1 w1.heap.size p' b.props) (h3 : a.props.length ≤ 9223372036854775806) => rSame_any a b p p' q q' w1 h1 h2 h3)
  have HX := Lib.hid hx
  have HY := Lib.hid hy
  have HP := Lib.hid hp
  clear hx hy hp
  by_cases hl : xs.length = ys.length
  case neg =>
    have q1 : ((xs.length : Int) != (ys.length : Int)) = true := by simp; omega
    have q1' : (xs.length != ys.length) = true := by simp; omega
    have HV : Hid (decide (xs.map ME.m = ys.map ME.m) = false) := Lib.hid (decide_eq_false (fun e => hl (by have := congrArg List.length e; simpa using this)))
    rw [HV.out]
    clear hl
    go_enter Try.func13, Try.ntmps13
    go_wp2
    go_ret
    exact ⟨rfl, Below.refl _ _⟩
  have q1 : ((xs.length : Int) != (ys.length : Int)) = false := by simp; omega
  have q1' : (xs.length != ys.length) = false := by simp; omega
  obtain ⟨V, hV⟩ : ∃ V, decide (xs.map ME.m = ys.map ME.m) = V := ⟨_, rfl⟩
  have HV := Lib.hid hV
  have HL := Lib.hid hl
  rw [hV]
  clear hV hl
  go_enter Try.func13, Try.ntmps13
  go_wp2_with fail
  go_loopg [5] xs.length (fun g v wr => ∃ k : Nat, k + g = xs.length ∧ v = .int .i64 k ∧ (xs.map ME.m).take k = (ys.map ME.m).take k ∧ Below w.heap.size w wr)
  case atStart => exact ⟨0, by omega, rfl, rfl, Below.refl _ _⟩
  case round =>
    obtain ⟨k, hkg, rfl, htk, hb0⟩ := hrel
    have HB0 := Lib.hid hb0
    have HK := Lib.hid hkg
    have HT := Lib.hid htk
    clear hb0 htk
    cases gk with
    | zero =>
      obtain rfl : k = xs.length := by omega
      have h1 := HT.out
      rw [List.take_of_length_le (by simp), List.take_of_length_le (by simp; have := HL.out; omega)] at h1
      obtain rfl : V = true := by rw [← HV.out, decide_eq_true h1]
      clear hkg q1 q1' h1
      go_wp2
      go_ret
      exact ⟨rfl, HB0.out⟩
    | succ g =>
      have hlt : k < xs.length := by omega
      have e3 : decide ((k : Int) < (xs.length : Int)) = true := decide_eq_true (by omega)
      obtain ⟨x, hx⟩ : ∃ x, xs[k]? = some x := ⟨_, List.getElem?_eq_getElem hlt⟩
      obtain ⟨y, hy⟩ : ∃ y, ys[k]? = some y := ⟨_, List.getElem?_eq_getElem (by have := HL.out; omega)⟩
      have h1 : (xs.map ME.m)[k]? = some x.m := by rw [List.getElem?_map, hx]; rfl
      have h2 : (ys.map ME.m)[k]? = some y.m := by rw [List.getElem?_map, hy]; rfl
      have HX1 := Lib.hid h1
      have HY1 := Lib.hid h2
      obtain ⟨b, o, hA3, hbB, hc, hpl⟩ := (HX.out.step HB0.out).at_ hx
      obtain ⟨b', o', hB3, hbB', hc', hpl'⟩ := (HY.out.step HB0.out).at_ hy
      obtain ⟨bE, hbE⟩ : ∃ z, sameM x.m y.m = z := ⟨_, rfl⟩
      have hcal := HSM.out x.m y.m x.a y.a x.c y.c
      rw [hbE] at hcal
      have HC1 := Lib.hid hcal
      have HBE := Lib.hid hbE
      have HPX : Hid (x.m.props.length ≤ 4398046511104) := Lib.hid (HP.out _ (List.mem_of_getElem? hx))
      have C_wr : Hid (b < wr.heap.size ∧ ∀ i v, (gM x)[i]? = some v → wr.cell? ⟨b, o + k * 9 + i, none⟩ = some v) := Lib.hid ⟨hbB, hc⟩
      have D_wr : Hid (b' < wr.heap.size ∧ ∀ i v, (gM y)[i]? = some v → wr.cell? ⟨b', o' + k * 9 + i, none⟩ = some v) := Lib.hid ⟨hbB', hc'⟩
      have P_wr : Hid (PL wr wr.heap.size x.a x.m.props) := Lib.hid hpl
      have R_wr : Hid (PL wr wr.heap.size y.a y.m.props) := Lib.hid hpl'
      have B_wr := HB0
      subst hA3 hB3
      have j1 : (0 : Int) ≤ (k : Int) := by omega
      have j2 : (k : Int) < (xs.length : Int) := by omega
      have j3 : (k : Int) < (ys.length : Int) := by have := HL.out; omega
      have hlk : k ≤ 100000 := by omega
      clear hx hy h1 h2 hc hc' hpl hpl' hbB hbB' hkg HSM hbE hcal q1 q1'
      go_upto_region 6 with fail
      obtain ⟨u1, hu1⟩ : ∃ u1, u1 = World.drew wr := ⟨_, rfl⟩
      have hbD : Below wr.heap.size wr u1 := by rw [hu1]; exact (Below.refl _ _).drew
      have C_u1 : Hid ((b < u1.heap.size ∧ ∀ i v, (gM x)[i]? = some v → u1.cell? ⟨b, o + k * 9 + i, none⟩ = some v)) := Lib.hid (⟨Nat.lt_of_lt_of_le C_wr.out.1 hbD.size, cells_stepM C_wr.out.2 hbD C_wr.out.1⟩)
      have D_u1 : Hid ((b' < u1.heap.size ∧ ∀ i v, (gM y)[i]? = some v → u1.cell? ⟨b', o' + k * 9 + i, none⟩ = some v)) := Lib.hid (⟨Nat.lt_of_lt_of_le D_wr.out.1 hbD.size, cells_stepM D_wr.out.2 hbD D_wr.out.1⟩)
      have P_u1 : Hid (PL u1 u1.heap.size x.a x.m.props) := Lib.hid (GL.step P_wr.out hbD)
      have R_u1 : Hid (PL u1 u1.heap.size y.a y.m.props) := Lib.hid (GL.step R_wr.out hbD)
      have B_u1 : Hid (Below w.heap.size w u1) := Lib.hid (stepB B_wr.out hbD)
      clear C_wr D_wr P_wr R_wr B_wr
      have hbd : (fun w' => (b < w'.heap.size ∧ ∀ i v, (gM x)[i]? = some v → w'.cell? ⟨b, o + k * 9 + i, none⟩ = some v) ∧ (b' < w'.heap.size ∧ ∀ i v, (gM y)[i]? = some v → w'.cell? ⟨b', o' + k * 9 + i, none⟩ = some v)) (World.drew wr) := by rw [← hu1]; exact ⟨C_u1.out, D_u1.out⟩
      have hSD : (fun w' => (b < w'.heap.size ∧ ∀ i v, (gM x)[i]? = some v → w'.cell? ⟨b, o + k * 9 + i, none⟩ = some v) ∧ (b' < w'.heap.size ∧ ∀ i v, (gM y)[i]? = some v → w'.cell? ⟨b', o' + k * 9 + i, none⟩ = some v)) u1 := ⟨C_u1.out, D_u1.out⟩
      have HWD := Lib.hid hu1
      clear hu1 hbD
      refine wp_region_held_drew (S := fun w' => (b < w'.heap.size ∧ ∀ i v, (gM x)[i]? = some v → w'.cell? ⟨b, o + k * 9 + i, none⟩ = some v) ∧ (b' < w'.heap.size ∧ ∀ i v, (gM y)[i]? = some v → w'.cell? ⟨b', o' + k * 9 + i, none⟩ = some v)) (by kernel_rfl) hbd (fun hHeld => ?_)
      rw [← HWD.out]
      clear hHeld
      have hHeld := hSD
      clear hSD hbd HWD
      refine wpAnyH_take (i := 0) (v := .slice (some ⟨b, o, none⟩) xs.length c) (get_ops _ _ _ rfl) (by kernel_rfl) (by kernel_rfl) (by kernel_rfl) (fun _ _ _ h => h) (Or.inl ⟨by rfl, fun wS hSw => by (try dsimp only at hSw); go_simp⟩) hHeld ?_
      try simp only [Act.put, List.setIfInBounds_toArray, List.set_cons_zero, List.set_cons_succ]
      refine wpAnyH_take (i := 1) (v := .int .i64 k) (get_ops _ _ _ rfl) (by kernel_rfl) (by kernel_rfl) (by kernel_rfl) (fun _ _ _ h => h) (Or.inl ⟨by rfl, fun wS hSw => by (try dsimp only at hSw); go_simp⟩) hHeld ?_
      try simp only [Act.put, List.setIfInBounds_toArray, List.set_cons_zero, List.set_cons_succ]
      refine wpAnyH_take (i := 2) (v := .pointer (some ⟨b, o + k * 9, none⟩)) (get_ops _ _ _ rfl) (by kernel_rfl) (by kernel_rfl) (by kernel_rfl) (fun _ _ _ h => h) (Or.inl ⟨by rfl, fun wS hSw => by (try dsimp only at hSw); go_simp⟩) hHeld ?_
      try simp only [Act.put, List.setIfInBounds_toArray, List.set_cons_zero, List.set_cons_succ]
      refine wpAnyH_take (i := 3) (v := (msgV x.m x.a x.c)) (get_ops _ _ _ rfl) (by kernel_rfl) (by kernel_rfl) (by kernel_rfl) (fun _ _ _ h => h) (Or.inl ⟨by rfl, fun wS hSw => by (try dsimp only at hSw); exact exec_load 25 _ rfl ⟨b, o + k * 9, none⟩ (by go_simp) _ (load_msg hSw.1.2)⟩) hHeld ?_
      try simp only [Act.put, List.setIfInBounds_toArray, List.set_cons_zero, List.set_cons_succ]
      refine wpAnyH_take (i := 4) (v := .slice (some ⟨b', o', none⟩) ys.length c') (get_ops _ _ _ rfl) (by kernel_rfl) (by kernel_rfl) (by kernel_rfl) (fun _ _ _ h => h) (Or.inl ⟨by rfl, fun wS hSw => by (try dsimp only at hSw); go_simp⟩) hHeld ?_
      try simp only [Act.put, List.setIfInBounds_toArray, List.set_cons_zero, List.set_cons_succ]
      refine wpAnyH_take (i := 5) (v := .int .i64 k) (get_ops _ _ _ rfl) (by kernel_rfl) (by kernel_rfl) (by kernel_rfl) (fun _ _ _ h => h) (Or.inl ⟨by rfl, fun wS hSw => by (try dsimp only at hSw); go_simp⟩) hHeld ?_
      try simp only [Act.put, List.setIfInBounds_toArray, List.set_cons_zero, List.set_cons_succ]
      refine wpAnyH_take (i := 6) (v := .pointer (some ⟨b', o' + k * 9, none⟩)) (get_ops _ _ _ rfl) (by kernel_rfl) (by kernel_rfl) (by kernel_rfl) (fun _ _ _ h => h) (Or.inl ⟨by rfl, fun wS hSw => by (try dsimp only at hSw); go_simp⟩) hHeld ?_
      try simp only [Act.put, List.setIfInBounds_toArray, List.set_cons_zero, List.set_cons_succ]
      refine wpAnyH_take (i := 7) (v := (msgV y.m y.a y.c)) (get_ops _ _ _ rfl) (by kernel_rfl) (by kernel_rfl) (by kernel_rfl) (fun _ _ _ h => h) (Or.inl ⟨by rfl, fun wS hSw => by (try dsimp only at hSw); exact exec_load 25 _ rfl ⟨b', o' + k * 9, none⟩ (by go_simp) _ (load_msg hSw.2.2)⟩) hHeld ?_
      try simp only [Act.put, List.setIfInBounds_toArray, List.set_cons_zero, List.set_cons_succ]
      refine wpAnyH_ready (rs := [8]) (by kernel_rfl) (by simp) ?_
      refine (AllReadyH.cons (get_ops _ _ _ rfl) (fun K hK => ?_) AllReadyH.nil)
      go_simp
      refine (HC1.out u1 P_u1.out R_u1.out (by have := HPX.out; omega)).mono ?_
      rintro e u2 ⟨rfl, hb⟩
      have C_u2 : Hid ((b < u2.heap.size ∧ ∀ i v, (gM x)[i]? = some v → u2.cell? ⟨b, o + k * 9 + i, none⟩ = some v)) := Lib.hid (⟨Nat.lt_of_lt_of_le C_u1.out.1 hb.size, cells_stepM C_u1.out.2 hb C_u1.out.1⟩)
      have D_u2 : Hid ((b' < u2.heap.size ∧ ∀ i v, (gM y)[i]? = some v → u2.cell? ⟨b', o' + k * 9 + i, none⟩ = some v)) := Lib.hid (⟨Nat.lt_of_lt_of_le D_u1.out.1 hb.size, cells_stepM D_u1.out.2 hb D_u1.out.1⟩)
      have P_u2 : Hid (PL u2 u2.heap.size x.a x.m.props) := Lib.hid (GL.step P_u1.out hb)
      have R_u2 : Hid (PL u2 u2.heap.size y.a y.m.props) := Lib.hid (GL.step R_u1.out hb)
      have B_u2 : Hid (Below w.heap.size w u2) := Lib.hid (stepB B_u1.out hb)
      clear C_u1 D_u1 P_u1 R_u1 B_u1
      clear hHeld hb
      go_wp2_with fail
      refine hK.out _ _ ⟨C_u2.out, D_u2.out⟩ (fun hHeld => ?_)
      clear hK K
      try simp only [Act.put, List.setIfInBounds_toArray, List.set_cons_zero, List.set_cons_succ]
      refine wpAnyH_take (i := 9) (v := .bool (!bE)) (get_ops _ _ _ rfl) (by kernel_rfl) (by kernel_rfl) (by kernel_rfl) (fun _ _ _ h => h) (Or.inl ⟨by rfl, fun wS hSw => by (try dsimp only at hSw); go_simp⟩) hHeld ?_
      try simp only [Act.put, List.setIfInBounds_toArray, List.set_cons_zero, List.set_cons_succ]
      refine wpAnyH_done (by kernel_rfl) ?_ _
      cases bE with
      | true =>
        go_wp2_with fail
        go_roundg g
        case measure => omega
        case rel => exact ⟨k + 1, by have := HK.out; omega, by go_num, (by
    have he : x.m = y.m := of_decide_eq_true HBE.out
    rw [List.take_add_one, List.take_add_one, HT.out, HX1.out, HY1.out, he]), B_u2.out⟩
      | false =>
        have he : x.m ≠ y.m := of_decide_eq_false HBE.out
        obtain rfl : V = false := by rw [← HV.out, decide_eq_false (fun e => he (by have h1 := HX1.out; rw [e, HY1.out] at h1; exact (Option.some.inj h1).symm))]
        clear he
        go_wp2_with fail
        go_ret
        exact ⟨rfl, B_u2.out⟩
end Go.Proofs.Ytgnbiicfabldbab
