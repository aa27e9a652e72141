/-
  What Same and Take of brokerref18 answer. Conditions: the lists read as data; few wills, with few properties.
-/
import Derived.Test.YtgnbiicfabldbaaDoorDj
namespace Go.Proofs.YtgnbiicfabldbaaDoor
open Go.RowKit
open S2 (BK Put)

set_option maxRecDepth 20000 in
set_option maxHeartbeats 4000000 in
theorem rSameD_any (A : Option Addr) (c : Nat) (xs : List DE) (A' : Option Addr) (c' : Nat) (ys : List DE) (w : World) (hx : DI w w.heap.size A xs) (hy : DI w w.heap.size A' ys) (hn : xs.length ≤ 100000) (hp : ∀ x ∈ xs, x.d.m.props.length ≤ 4398046511104) :
    Calls Tryd.prog 16 #[.slice A xs.length c, .slice A' ys.length c'] w fun e w' => e = .returned (.bool (decide (xs.map DE.d = ys.map DE.d))) ∧ Below w.heap.size w w' := by
  have HSM := Lib.hid (fun (a b : Msg) (p p' : Option Addr) (q q' : Nat) (w1 : World) (h1 : PL w1 w1.heap.size p a.props) (h2 : PL w1 w1.heap.size p' b.props) (h3 : a.props.length ≤ 9223372036854775806) => rSame_any a b p p' q q' w1 h1 h2 h3)
  have HX := Lib.hid hx
  have HY := Lib.hid hy
  have HP := Lib.hid hp
  clear hx hy hp
  by_cases hl : xs.length = ys.length
  case neg =>
    have q1 : ((xs.length : Int) != (ys.length : Int)) = true := by simp; omega
    have q1' : (xs.length != ys.length) = true := by simp; omega
    have HV : Hid (decide (xs.map DE.d = ys.map DE.d) = false) := Lib.hid (decide_eq_false (fun e => hl (by have := congrArg List.length e; simpa using this)))
    rw [HV.out]
    clear hl
    go_enter Tryd.func16, Tryd.ntmps16
    go_wp2
    go_ret
    exact ⟨rfl, Below.refl _ _⟩
  have q1 : ((xs.length : Int) != (ys.length : Int)) = false := by simp; omega
  have q1' : (xs.length != ys.length) = false := by simp; omega
  obtain ⟨V, hV⟩ : ∃ V, decide (xs.map DE.d = ys.map DE.d) = V := ⟨_, rfl⟩
  have HV := Lib.hid hV
  have HL := Lib.hid hl
  rw [hV]
  clear hV hl
  go_enter Tryd.func16, Tryd.ntmps16
  go_wp2_with fail
  go_loopg [5] xs.length (fun g v wr => ∃ k : Nat, k + g = xs.length ∧ v = .int .i64 k ∧ (xs.map DE.d).take k = (ys.map DE.d).take k ∧ Below w.heap.size w wr)
  case atStart => exact ⟨0, by omega, rfl, rfl, Below.refl _ _⟩
  case round =>
    obtain ⟨k, hkg, rfl, htk, hb0⟩ := hrel
    have B_wr := Lib.hid hb0
    have HK := Lib.hid hkg
    have HT := Lib.hid htk
    clear hb0 htk
    cases gk with
    | zero =>
      obtain rfl : k = xs.length := by omega
      have h1 := HT.out
      rw [List.take_of_length_le (by simp), List.take_of_length_le (by simp; have := HL.out; omega)] at h1
      obtain rfl : V = true := by rw [← HV.out, decide_eq_true h1]
      clear hkg q1 q1' h1
      go_wp2
      go_ret
      exact ⟨rfl, B_wr.out⟩
    | succ g =>
      have hlt : k < xs.length := by omega
      have e3 : decide ((k : Int) < (xs.length : Int)) = true := decide_eq_true (by omega)
      obtain ⟨x, hx⟩ : ∃ x, xs[k]? = some x := ⟨_, List.getElem?_eq_getElem hlt⟩
      obtain ⟨y, hy⟩ : ∃ y, ys[k]? = some y := ⟨_, List.getElem?_eq_getElem (by have := HL.out; omega)⟩
      have h1 : (xs.map DE.d)[k]? = some x.d := by rw [List.getElem?_map, hx]; rfl
      have h2 : (ys.map DE.d)[k]? = some y.d := by rw [List.getElem?_map, hy]; rfl
      have HX1 := Lib.hid h1
      have HY1 := Lib.hid h2
      have HNE : Hid (x.d ≠ y.d → V = false) := Lib.hid (fun he => by rw [← HV.out, decide_eq_false (fun e => he (by have h1 := HX1.out; rw [e, HY1.out] at h1; exact (Option.some.inj h1).symm))])
      obtain ⟨b, o, hA3, hbB, hc, hpl⟩ := (HX.out.step B_wr.out).at_ hx
      obtain ⟨b', o', hB3, hbB', hc', hpl'⟩ := (HY.out.step B_wr.out).at_ hy
      have d0 : wr.cell? ⟨b, o + k * 11, none⟩ = some (.string x.d.cl) := by have := hc 0 _ rfl; simpa using this
      have d1 : wr.cell? ⟨b, o + k * 11 + 1, none⟩ = some (.int .i64 x.d.tm) := hc 1 _ rfl
      have e0 : wr.cell? ⟨b', o' + k * 11, none⟩ = some (.string y.d.cl) := by have := hc' 0 _ rfl; simpa using this
      have e1 : wr.cell? ⟨b', o' + k * 11 + 1, none⟩ = some (.int .i64 y.d.tm) := hc' 1 _ rfl
      have HPX : Hid (x.d.m.props.length ≤ 4398046511104) := Lib.hid (HP.out _ (List.mem_of_getElem? hx))
      have C_wr : Hid (b < wr.heap.size ∧ ∀ i v, (gD x)[i]? = some v → wr.cell? ⟨b, o + k * 11 + i, none⟩ = some v) := Lib.hid ⟨hbB, hc⟩
      have D_wr : Hid (b' < wr.heap.size ∧ ∀ i v, (gD y)[i]? = some v → wr.cell? ⟨b', o' + k * 11 + i, none⟩ = some v) := Lib.hid ⟨hbB', hc'⟩
      have P_wr : Hid (PL wr wr.heap.size x.a x.d.m.props) := Lib.hid hpl
      have R_wr : Hid (PL wr wr.heap.size y.a y.d.m.props) := Lib.hid hpl'
      subst hA3 hB3
      have j1 : (0 : Int) ≤ (k : Int) := by omega
      have j2 : (k : Int) < (xs.length : Int) := by omega
      have j3 : (k : Int) < (ys.length : Int) := by have := HL.out; omega
      have hlk : k ≤ 100000 := by omega
      have q0 := str_eqb x.d.cl y.d.cl
      have q0' : (x.d.cl.toList != y.d.cl.toList) = !decide (x.d.cl = y.d.cl) := by unfold bne; rw [q0]
      clear hx hy h1 h2 hc hc' hpl hpl' hbB hbB' hkg q1 q1'
      by_cases he : x.d.cl = y.d.cl
      case neg =>
        have q9 : decide (x.d.cl = y.d.cl) = false := decide_eq_false he
        rw [q9] at q0 q0'
        obtain rfl : V = false := HNE.out (fun e => he (by rw [e]))
        clear he HSM
        go_wp2_with fail
        go_quiet (fail)
        go_wp2
        go_ret
        exact ⟨rfl, stepB B_wr.out (below_drewN _ _)⟩
      have q9 : decide (x.d.cl = y.d.cl) = true := decide_eq_true he
      rw [q9] at q0 q0'
      by_cases ht : x.d.tm = y.d.tm
      case neg =>
        have q8 : (x.d.tm != y.d.tm) = true := by simp [ht]
        obtain rfl : V = false := HNE.out (fun e => ht (by rw [e]))
        clear he ht HSM
        go_wp2_with fail
        go_quiet (fail)
        go_wp2
        go_ret
        exact ⟨rfl, stepB B_wr.out (below_drewN _ _)⟩
      have q8 : (x.d.tm != y.d.tm) = false := by simp [ht]
      have HCT := Lib.hid (And.intro he ht)
      obtain ⟨bE, hbE⟩ : ∃ z, sameM x.d.m y.d.m = z := ⟨_, rfl⟩
      have hcal := HSM.out x.d.m y.d.m x.a y.a x.c y.c
      rw [hbE] at hcal
      have HC1 := Lib.hid hcal
      have HBE := Lib.hid hbE
      clear he ht hbE hcal HSM
      go_upto_region 6 with fail
      clear d0 d1 e0 e1
      obtain ⟨u1, hu1⟩ : ∃ u1, u1 = World.drew wr := ⟨_, rfl⟩
      have hbD : Below wr.heap.size wr u1 := by rw [hu1]; exact (Below.refl _ _).drew
      have C_u1 : Hid ((b < u1.heap.size ∧ ∀ i v, (gD x)[i]? = some v → u1.cell? ⟨b, o + k * 11 + i, none⟩ = some v)) := Lib.hid (⟨Nat.lt_of_lt_of_le C_wr.out.1 hbD.size, fun i u hu => (hbD.cell (p := ⟨b, o + k * 11 + i, none⟩) C_wr.out.1).trans (C_wr.out.2 i u hu)⟩)
      have D_u1 : Hid ((b' < u1.heap.size ∧ ∀ i v, (gD y)[i]? = some v → u1.cell? ⟨b', o' + k * 11 + i, none⟩ = some v)) := Lib.hid (⟨Nat.lt_of_lt_of_le D_wr.out.1 hbD.size, fun i u hu => (hbD.cell (p := ⟨b', o' + k * 11 + i, none⟩) D_wr.out.1).trans (D_wr.out.2 i u hu)⟩)
      have P_u1 : Hid (PL u1 u1.heap.size x.a x.d.m.props) := Lib.hid (GL.step P_wr.out hbD)
      have R_u1 : Hid (PL u1 u1.heap.size y.a y.d.m.props) := Lib.hid (GL.step R_wr.out hbD)
      have B_u1 : Hid (Below w.heap.size w u1) := Lib.hid (stepB B_wr.out hbD)
      clear C_wr D_wr P_wr R_wr B_wr
      have hbd : (fun w' => (b < w'.heap.size ∧ ∀ i v, (gD x)[i]? = some v → w'.cell? ⟨b, o + k * 11 + i, none⟩ = some v) ∧ (b' < w'.heap.size ∧ ∀ i v, (gD y)[i]? = some v → w'.cell? ⟨b', o' + k * 11 + i, none⟩ = some v)) (World.drew wr) := by rw [← hu1]; exact ⟨C_u1.out, D_u1.out⟩
      have hSD : (fun w' => (b < w'.heap.size ∧ ∀ i v, (gD x)[i]? = some v → w'.cell? ⟨b, o + k * 11 + i, none⟩ = some v) ∧ (b' < w'.heap.size ∧ ∀ i v, (gD y)[i]? = some v → w'.cell? ⟨b', o' + k * 11 + i, none⟩ = some v)) u1 := ⟨C_u1.out, D_u1.out⟩
      have HWD := Lib.hid hu1
      clear hu1 hbD
      refine wp_region_held_drew (S := fun w' => (b < w'.heap.size ∧ ∀ i v, (gD x)[i]? = some v → w'.cell? ⟨b, o + k * 11 + i, none⟩ = some v) ∧ (b' < w'.heap.size ∧ ∀ i v, (gD y)[i]? = some v → w'.cell? ⟨b', o' + k * 11 + i, none⟩ = some v)) (by kernel_rfl) hbd (fun hHeld => ?_)
      rw [← HWD.out]
      clear hHeld
      have hHeld := hSD
      clear hSD hbd HWD
      refine wpAnyH_take (i := 0) (v := .slice (some ⟨b, o, none⟩) xs.length c) (get_ops _ _ _ rfl) (by kernel_rfl) (by kernel_rfl) (by kernel_rfl) (fun _ _ _ h => h) (Or.inl ⟨by rfl, fun wS hSw => by (try dsimp only at hSw); go_simp⟩) hHeld ?_
      try simp only [Act.put, List.setIfInBounds_toArray, List.set_cons_zero, List.set_cons_succ]
      refine wpAnyH_take (i := 1) (v := .int .i64 k) (get_ops _ _ _ rfl) (by kernel_rfl) (by kernel_rfl) (by kernel_rfl) (fun _ _ _ h => h) (Or.inl ⟨by rfl, fun wS hSw => by (try dsimp only at hSw); go_simp⟩) hHeld ?_
      try simp only [Act.put, List.setIfInBounds_toArray, List.set_cons_zero, List.set_cons_succ]
      refine wpAnyH_take (i := 2) (v := .pointer (some ⟨b, o + k * 11, none⟩)) (get_ops _ _ _ rfl) (by kernel_rfl) (by kernel_rfl) (by kernel_rfl) (fun _ _ _ h => h) (Or.inl ⟨by rfl, fun wS hSw => by (try dsimp only at hSw); go_simp⟩) hHeld ?_
      try simp only [Act.put, List.setIfInBounds_toArray, List.set_cons_zero, List.set_cons_succ]
      refine wpAnyH_take (i := 3) (v := .pointer (some ⟨b, o + k * 11, none⟩)) (get_ops _ _ _ rfl) (by kernel_rfl) (by kernel_rfl) (by kernel_rfl) (fun _ _ _ h => h) (Or.inl ⟨by rfl, fun wS hSw => by (try dsimp only at hSw); go_simp⟩) hHeld ?_
      try simp only [Act.put, List.setIfInBounds_toArray, List.set_cons_zero, List.set_cons_succ]
      refine wpAnyH_take (i := 4) (v := .string x.d.cl) (get_ops _ _ _ rfl) (by kernel_rfl) (by kernel_rfl) (by kernel_rfl) (fun _ _ _ h => h) (Or.inl ⟨by rfl, fun wS hSw => by (try dsimp only at hSw); have cS : wS.cell? ⟨b, o + k * 11, none⟩ = some (.string x.d.cl) := (by have h9 := hSw.1.2 0 _ rfl; simpa using h9); clear hSw; go_simp⟩) hHeld ?_
      try simp only [Act.put, List.setIfInBounds_toArray, List.set_cons_zero, List.set_cons_succ]
      refine wpAnyH_take (i := 5) (v := .slice (some ⟨b', o', none⟩) ys.length c') (get_ops _ _ _ rfl) (by kernel_rfl) (by kernel_rfl) (by kernel_rfl) (fun _ _ _ h => h) (Or.inl ⟨by rfl, fun wS hSw => by (try dsimp only at hSw); go_simp⟩) hHeld ?_
      try simp only [Act.put, List.setIfInBounds_toArray, List.set_cons_zero, List.set_cons_succ]
      refine wpAnyH_take (i := 6) (v := .int .i64 k) (get_ops _ _ _ rfl) (by kernel_rfl) (by kernel_rfl) (by kernel_rfl) (fun _ _ _ h => h) (Or.inl ⟨by rfl, fun wS hSw => by (try dsimp only at hSw); go_simp⟩) hHeld ?_
      try simp only [Act.put, List.setIfInBounds_toArray, List.set_cons_zero, List.set_cons_succ]
      refine wpAnyH_take (i := 7) (v := .pointer (some ⟨b', o' + k * 11, none⟩)) (get_ops _ _ _ rfl) (by kernel_rfl) (by kernel_rfl) (by kernel_rfl) (fun _ _ _ h => h) (Or.inl ⟨by rfl, fun wS hSw => by (try dsimp only at hSw); go_simp⟩) hHeld ?_
      try simp only [Act.put, List.setIfInBounds_toArray, List.set_cons_zero, List.set_cons_succ]
      refine wpAnyH_take (i := 8) (v := .pointer (some ⟨b', o' + k * 11, none⟩)) (get_ops _ _ _ rfl) (by kernel_rfl) (by kernel_rfl) (by kernel_rfl) (fun _ _ _ h => h) (Or.inl ⟨by rfl, fun wS hSw => by (try dsimp only at hSw); go_simp⟩) hHeld ?_
      try simp only [Act.put, List.setIfInBounds_toArray, List.set_cons_zero, List.set_cons_succ]
      refine wpAnyH_take (i := 9) (v := .string y.d.cl) (get_ops _ _ _ rfl) (by kernel_rfl) (by kernel_rfl) (by kernel_rfl) (fun _ _ _ h => h) (Or.inl ⟨by rfl, fun wS hSw => by (try dsimp only at hSw); have cS : wS.cell? ⟨b', o' + k * 11, none⟩ = some (.string y.d.cl) := (by have h9 := hSw.2.2 0 _ rfl; simpa using h9); clear hSw; go_simp⟩) hHeld ?_
      try simp only [Act.put, List.setIfInBounds_toArray, List.set_cons_zero, List.set_cons_succ]
      refine wpAnyH_take (i := 10) (v := .bool false) (get_ops _ _ _ rfl) (by kernel_rfl) (by kernel_rfl) (by kernel_rfl) (fun _ _ _ h => h) (Or.inl ⟨by rfl, fun wS hSw => by (try dsimp only at hSw); go_simp⟩) hHeld ?_
      try simp only [Act.put, List.setIfInBounds_toArray, List.set_cons_zero, List.set_cons_succ]
      refine wpAnyH_take (i := 11) (v := .bool false) (get_ops _ _ _ rfl) (by kernel_rfl) (by kernel_rfl) (by kernel_rfl) (fun _ _ _ h => h) (Or.inl ⟨by rfl, fun wS hSw => by (try dsimp only at hSw); go_simp⟩) hHeld ?_
      try simp only [Act.put, List.setIfInBounds_toArray, List.set_cons_zero, List.set_cons_succ]
      refine wpAnyH_take (i := 12) (v := .slice (some ⟨b, o, none⟩) xs.length c) (get_ops _ _ _ rfl) (by kernel_rfl) (by kernel_rfl) (by kernel_rfl) (fun _ _ _ h => h) (Or.inl ⟨by rfl, fun wS hSw => by (try dsimp only at hSw); go_simp⟩) hHeld ?_
      try simp only [Act.put, List.setIfInBounds_toArray, List.set_cons_zero, List.set_cons_succ]
      refine wpAnyH_take (i := 13) (v := .int .i64 k) (get_ops _ _ _ rfl) (by kernel_rfl) (by kernel_rfl) (by kernel_rfl) (fun _ _ _ h => h) (Or.inl ⟨by rfl, fun wS hSw => by (try dsimp only at hSw); go_simp⟩) hHeld ?_
      try simp only [Act.put, List.setIfInBounds_toArray, List.set_cons_zero, List.set_cons_succ]
      refine wpAnyH_take (i := 14) (v := .pointer (some ⟨b, o + k * 11, none⟩)) (get_ops _ _ _ rfl) (by kernel_rfl) (by kernel_rfl) (by kernel_rfl) (fun _ _ _ h => h) (Or.inl ⟨by rfl, fun wS hSw => by (try dsimp only at hSw); go_simp⟩) hHeld ?_
      try simp only [Act.put, List.setIfInBounds_toArray, List.set_cons_zero, List.set_cons_succ]
      refine wpAnyH_take (i := 15) (v := .pointer (some ⟨b, o + k * 11 + 1, none⟩)) (get_ops _ _ _ rfl) (by kernel_rfl) (by kernel_rfl) (by kernel_rfl) (fun _ _ _ h => h) (Or.inl ⟨by rfl, fun wS hSw => by (try dsimp only at hSw); go_simp⟩) hHeld ?_
      try simp only [Act.put, List.setIfInBounds_toArray, List.set_cons_zero, List.set_cons_succ]
      refine wpAnyH_take (i := 16) (v := .int .i64 x.d.tm) (get_ops _ _ _ rfl) (by kernel_rfl) (by kernel_rfl) (by kernel_rfl) (fun _ _ _ h => h) (Or.inl ⟨by rfl, fun wS hSw => by (try dsimp only at hSw); have cS : wS.cell? ⟨b, o + k * 11 + 1, none⟩ = some (.int .i64 x.d.tm) := hSw.1.2 1 _ rfl; clear hSw; go_simp⟩) hHeld ?_
      try simp only [Act.put, List.setIfInBounds_toArray, List.set_cons_zero, List.set_cons_succ]
      refine wpAnyH_take (i := 17) (v := .slice (some ⟨b', o', none⟩) ys.length c') (get_ops _ _ _ rfl) (by kernel_rfl) (by kernel_rfl) (by kernel_rfl) (fun _ _ _ h => h) (Or.inl ⟨by rfl, fun wS hSw => by (try dsimp only at hSw); go_simp⟩) hHeld ?_
      try simp only [Act.put, List.setIfInBounds_toArray, List.set_cons_zero, List.set_cons_succ]
      refine wpAnyH_take (i := 18) (v := .int .i64 k) (get_ops _ _ _ rfl) (by kernel_rfl) (by kernel_rfl) (by kernel_rfl) (fun _ _ _ h => h) (Or.inl ⟨by rfl, fun wS hSw => by (try dsimp only at hSw); go_simp⟩) hHeld ?_
      try simp only [Act.put, List.setIfInBounds_toArray, List.set_cons_zero, List.set_cons_succ]
      refine wpAnyH_take (i := 19) (v := .pointer (some ⟨b', o' + k * 11, none⟩)) (get_ops _ _ _ rfl) (by kernel_rfl) (by kernel_rfl) (by kernel_rfl) (fun _ _ _ h => h) (Or.inl ⟨by rfl, fun wS hSw => by (try dsimp only at hSw); go_simp⟩) hHeld ?_
      try simp only [Act.put, List.setIfInBounds_toArray, List.set_cons_zero, List.set_cons_succ]
      refine wpAnyH_take (i := 20) (v := .pointer (some ⟨b', o' + k * 11 + 1, none⟩)) (get_ops _ _ _ rfl) (by kernel_rfl) (by kernel_rfl) (by kernel_rfl) (fun _ _ _ h => h) (Or.inl ⟨by rfl, fun wS hSw => by (try dsimp only at hSw); go_simp⟩) hHeld ?_
      try simp only [Act.put, List.setIfInBounds_toArray, List.set_cons_zero, List.set_cons_succ]
      refine wpAnyH_take (i := 21) (v := .int .i64 y.d.tm) (get_ops _ _ _ rfl) (by kernel_rfl) (by kernel_rfl) (by kernel_rfl) (fun _ _ _ h => h) (Or.inl ⟨by rfl, fun wS hSw => by (try dsimp only at hSw); have cS : wS.cell? ⟨b', o' + k * 11 + 1, none⟩ = some (.int .i64 y.d.tm) := hSw.2.2 1 _ rfl; clear hSw; go_simp⟩) hHeld ?_
      try simp only [Act.put, List.setIfInBounds_toArray, List.set_cons_zero, List.set_cons_succ]
      refine wpAnyH_take (i := 22) (v := .bool false) (get_ops _ _ _ rfl) (by kernel_rfl) (by kernel_rfl) (by kernel_rfl) (fun _ _ _ h => h) (Or.inl ⟨by rfl, fun wS hSw => by (try dsimp only at hSw); go_simp⟩) hHeld ?_
      try simp only [Act.put, List.setIfInBounds_toArray, List.set_cons_zero, List.set_cons_succ]
      refine wpAnyH_take (i := 23) (v := .bool false) (get_ops _ _ _ rfl) (by kernel_rfl) (by kernel_rfl) (by kernel_rfl) (fun _ _ _ h => h) (Or.inl ⟨by rfl, fun wS hSw => by (try dsimp only at hSw); go_simp⟩) hHeld ?_
      try simp only [Act.put, List.setIfInBounds_toArray, List.set_cons_zero, List.set_cons_succ]
      refine wpAnyH_take (i := 24) (v := .bool false) (get_ops _ _ _ rfl) (by kernel_rfl) (by kernel_rfl) (by kernel_rfl) (fun _ _ _ h => h) (Or.inl ⟨by rfl, fun wS hSw => by (try dsimp only at hSw); go_simp⟩) hHeld ?_
      try simp only [Act.put, List.setIfInBounds_toArray, List.set_cons_zero, List.set_cons_succ]
      refine wpAnyH_take (i := 25) (v := .slice (some ⟨b, o, none⟩) xs.length c) (get_ops _ _ _ rfl) (by kernel_rfl) (by kernel_rfl) (by kernel_rfl) (fun _ _ _ h => h) (Or.inl ⟨by rfl, fun wS hSw => by (try dsimp only at hSw); go_simp⟩) hHeld ?_
      try simp only [Act.put, List.setIfInBounds_toArray, List.set_cons_zero, List.set_cons_succ]
      refine wpAnyH_take (i := 26) (v := .int .i64 k) (get_ops _ _ _ rfl) (by kernel_rfl) (by kernel_rfl) (by kernel_rfl) (fun _ _ _ h => h) (Or.inl ⟨by rfl, fun wS hSw => by (try dsimp only at hSw); go_simp⟩) hHeld ?_
      try simp only [Act.put, List.setIfInBounds_toArray, List.set_cons_zero, List.set_cons_succ]
      refine wpAnyH_take (i := 27) (v := .pointer (some ⟨b, o + k * 11, none⟩)) (get_ops _ _ _ rfl) (by kernel_rfl) (by kernel_rfl) (by kernel_rfl) (fun _ _ _ h => h) (Or.inl ⟨by rfl, fun wS hSw => by (try dsimp only at hSw); go_simp⟩) hHeld ?_
      try simp only [Act.put, List.setIfInBounds_toArray, List.set_cons_zero, List.set_cons_succ]
      refine wpAnyH_take (i := 28) (v := .pointer (some ⟨b, o + k * 11 + 2, none⟩)) (get_ops _ _ _ rfl) (by kernel_rfl) (by kernel_rfl) (by kernel_rfl) (fun _ _ _ h => h) (Or.inl ⟨by rfl, fun wS hSw => by (try dsimp only at hSw); go_simp⟩) hHeld ?_
      try simp only [Act.put, List.setIfInBounds_toArray, List.set_cons_zero, List.set_cons_succ]
      refine wpAnyH_take (i := 29) (v := (msgV x.d.m x.a x.c)) (get_ops _ _ _ rfl) (by kernel_rfl) (by kernel_rfl) (by kernel_rfl) (fun _ _ _ h => h) (Or.inl ⟨by rfl, fun wS hSw => by (try dsimp only at hSw); exact exec_load 24 _ rfl ⟨b, o + k * 11 + 2, none⟩ (by go_simp) _ (load_due_msg hSw.1.2)⟩) hHeld ?_
      try simp only [Act.put, List.setIfInBounds_toArray, List.set_cons_zero, List.set_cons_succ]
      refine wpAnyH_take (i := 30) (v := .slice (some ⟨b', o', none⟩) ys.length c') (get_ops _ _ _ rfl) (by kernel_rfl) (by kernel_rfl) (by kernel_rfl) (fun _ _ _ h => h) (Or.inl ⟨by rfl, fun wS hSw => by (try dsimp only at hSw); go_simp⟩) hHeld ?_
      try simp only [Act.put, List.setIfInBounds_toArray, List.set_cons_zero, List.set_cons_succ]
      refine wpAnyH_take (i := 31) (v := .int .i64 k) (get_ops _ _ _ rfl) (by kernel_rfl) (by kernel_rfl) (by kernel_rfl) (fun _ _ _ h => h) (Or.inl ⟨by rfl, fun wS hSw => by (try dsimp only at hSw); go_simp⟩) hHeld ?_
      try simp only [Act.put, List.setIfInBounds_toArray, List.set_cons_zero, List.set_cons_succ]
      refine wpAnyH_take (i := 32) (v := .pointer (some ⟨b', o' + k * 11, none⟩)) (get_ops _ _ _ rfl) (by kernel_rfl) (by kernel_rfl) (by kernel_rfl) (fun _ _ _ h => h) (Or.inl ⟨by rfl, fun wS hSw => by (try dsimp only at hSw); go_simp⟩) hHeld ?_
      try simp only [Act.put, List.setIfInBounds_toArray, List.set_cons_zero, List.set_cons_succ]
      refine wpAnyH_take (i := 33) (v := .pointer (some ⟨b', o' + k * 11 + 2, none⟩)) (get_ops _ _ _ rfl) (by kernel_rfl) (by kernel_rfl) (by kernel_rfl) (fun _ _ _ h => h) (Or.inl ⟨by rfl, fun wS hSw => by (try dsimp only at hSw); go_simp⟩) hHeld ?_
      try simp only [Act.put, List.setIfInBounds_toArray, List.set_cons_zero, List.set_cons_succ]
      refine wpAnyH_take (i := 34) (v := (msgV y.d.m y.a y.c)) (get_ops _ _ _ rfl) (by kernel_rfl) (by kernel_rfl) (by kernel_rfl) (fun _ _ _ h => h) (Or.inl ⟨by rfl, fun wS hSw => by (try dsimp only at hSw); exact exec_load 24 _ rfl ⟨b', o' + k * 11 + 2, none⟩ (by go_simp) _ (load_due_msg hSw.2.2)⟩) hHeld ?_
      try simp only [Act.put, List.setIfInBounds_toArray, List.set_cons_zero, List.set_cons_succ]
      refine wpAnyH_ready (rs := [35]) (by kernel_rfl) (by simp) ?_
      refine (AllReadyH.cons (get_ops _ _ _ rfl) (fun K hK => ?_) AllReadyH.nil)
      go_simp
      refine (HC1.out u1 P_u1.out R_u1.out (by have := HPX.out; omega)).mono ?_
      rintro e u2 ⟨rfl, hb⟩
      have C_u2 : Hid ((b < u2.heap.size ∧ ∀ i v, (gD x)[i]? = some v → u2.cell? ⟨b, o + k * 11 + i, none⟩ = some v)) := Lib.hid (⟨Nat.lt_of_lt_of_le C_u1.out.1 hb.size, fun i u hu => (hb.cell (p := ⟨b, o + k * 11 + i, none⟩) C_u1.out.1).trans (C_u1.out.2 i u hu)⟩)
      have D_u2 : Hid ((b' < u2.heap.size ∧ ∀ i v, (gD y)[i]? = some v → u2.cell? ⟨b', o' + k * 11 + i, none⟩ = some v)) := Lib.hid (⟨Nat.lt_of_lt_of_le D_u1.out.1 hb.size, fun i u hu => (hb.cell (p := ⟨b', o' + k * 11 + i, none⟩) D_u1.out.1).trans (D_u1.out.2 i u hu)⟩)
      have P_u2 : Hid (PL u2 u2.heap.size x.a x.d.m.props) := Lib.hid (GL.step P_u1.out hb)
      have R_u2 : Hid (PL u2 u2.heap.size y.a y.d.m.props) := Lib.hid (GL.step R_u1.out hb)
      have B_u2 : Hid (Below w.heap.size w u2) := Lib.hid (stepB B_u1.out hb)
      clear C_u1 D_u1 P_u1 R_u1 B_u1
      clear hHeld hb
      go_wp2_with fail
      refine hK.out _ _ ⟨C_u2.out, D_u2.out⟩ (fun hHeld => ?_)
      clear hK K
      try simp only [Act.put, List.setIfInBounds_toArray, List.set_cons_zero, List.set_cons_succ]
      refine wpAnyH_take (i := 36) (v := .bool (!bE)) (get_ops _ _ _ rfl) (by kernel_rfl) (by kernel_rfl) (by kernel_rfl) (fun _ _ _ h => h) (Or.inl ⟨by rfl, fun wS hSw => by (try dsimp only at hSw); go_simp⟩) hHeld ?_
      try simp only [Act.put, List.setIfInBounds_toArray, List.set_cons_zero, List.set_cons_succ]
      refine wpAnyH_take (i := 37) (v := .bool (!bE)) (get_ops _ _ _ rfl) (by kernel_rfl) (by kernel_rfl) (by kernel_rfl) (fun _ _ _ h => h) (Or.inl ⟨by rfl, fun wS hSw => by (try dsimp only at hSw); go_simp⟩) hHeld ?_
      try simp only [Act.put, List.setIfInBounds_toArray, List.set_cons_zero, List.set_cons_succ]
      refine wpAnyH_done (by kernel_rfl) ?_ _
      cases bE with
      | true =>
        go_wp2_with fail
        go_roundg g
        case measure => omega
        case rel => exact ⟨k + 1, by have := HK.out; omega, by go_num, (by
    have he : x.d = y.d := (by
      have h1 := HCT.out.1; have h2 := HCT.out.2; have h3 : x.d.m = y.d.m := of_decide_eq_true HBE.out
      revert h1 h2 h3; cases x.d; cases y.d; intro h1 h2 h3; simp only at h1 h2 h3; rw [h1, h2, h3])
    rw [List.take_add_one, List.take_add_one, HT.out, HX1.out, HY1.out, he]), B_u2.out⟩
      | false =>
        obtain rfl : V = false := HNE.out (fun e => of_decide_eq_false HBE.out (by rw [e]))
        go_wp2_with fail
        go_ret
        exact ⟨rfl, B_u2.out⟩

/-- where the wills end that are due -/
structure Cut (l : List Du) (now : Int) (i : Nat) : Prop where
  le : i ≤ l.length
  due : ∀ j x, j < i → l[j]? = some x → x.tm ≤ now
  later : ∀ x, l[i]? = some x → now < x.tm
def RetCut (l : List Du) (now : Int) (W : World) (E : Ending) (w' : World) : Prop := ∃ i, Cut l now i ∧ RetDD (l.take i) (l.drop i) W E w'
set_option maxRecDepth 20000 in
set_option maxHeartbeats 4000000 in
theorem rTake_any (A : Option Addr) (c : Nat) (xs : List DE) (now : Int) (w : World) (hsl : DI w w.heap.size A xs) (hc : xs.length ≤ c) (hn : xs.length ≤ 100000) :
    Calls Tryd.prog 22 #[.slice A xs.length c, .int .i64 now] w (RetCut (xs.map DE.d) now w) := by
  have HS := Lib.hid hsl
  have HC := Lib.hid hc
  clear hsl hc
  go_enter Tryd.func22, Tryd.ntmps22
  go_wp2_with fail
  go_loopg [6] xs.length (fun g v wr => ∃ (k : Nat), k + g = xs.length ∧ v = .int .i64 k ∧ (∀ j x, j < k → (xs.map DE.d)[j]? = some x → x.tm ≤ now) ∧ wr = w)
  case atStart => exact ⟨0, by omega, rfl, (fun j x h => absurd h (by omega)), rfl⟩
  case round =>
    obtain ⟨k, hkg, rfl, hdu, rfl⟩ := hrel
    have HD := Lib.hid hdu
    have HK := Lib.hid hkg
    clear hdu
    have HEND : Hid ((∀ x, (xs.map DE.d)[k]? = some x → now < x.tm) → ∀ w', Below wr.heap.size wr w' → RetCut (xs.map DE.d) now wr (.returned (.tuple #[.slice A k c, .slice (if c = k then A else A.map (·.add (k * 11))) (xs.length - k) (c - k)])) w') := Lib.hid (fun hl w' hw' => by
      refine ⟨k, ⟨by rw [List.length_map]; omega, HD.out, hl⟩, A, c, xs.take k, _, c - k, xs.drop k, ?_, by rw [List.map_take], by rw [List.map_drop], by rw [List.length_take]; have := HC.out; omega, by rw [List.length_drop]; have := HC.out; omega, (HS.out.take k).step hw', (HS.out.drop (by omega) HC.out).step hw', hw'⟩
      rw [List.length_take, List.length_drop, Nat.min_eq_left (by omega)])
    cases gk with
    | zero =>
      have hki : k = xs.length := by omega
      have e3 : decide ((k : Int) < (xs.length : Int)) = false := decide_eq_false (by omega)
      have e3' : decide (k < xs.length) = false := decide_eq_false (by omega)
      have HE2 := Lib.hid (HEND.out (fun x hx => by have := (List.getElem?_eq_some_iff.1 hx).1; rw [List.length_map] at this; omega))
      have k1 : (0 : Int) ≤ (k : Int) := by omega
      have k2 : (k : Int) ≤ (xs.length : Int) := by omega
      have k3 : (k : Int) ≤ (c : Int) := by have := HC.out; omega
      clear hkg hki HEND
      go_upto_region 4 with fail
      obtain ⟨AD, hAD⟩ : ∃ AD : Option Addr, AD = (if c = k then A else A.map (fun a : Addr => a.add (k * 11))) := ⟨_, rfl⟩
      obtain ⟨nd, hnd⟩ : ∃ nd, nd = xs.length - k := ⟨_, rfl⟩
      obtain ⟨cd, hcd⟩ : ∃ cd, cd = c - k := ⟨_, rfl⟩
      have HDE : Hid (Value.slice AD nd cd = .slice (if c = k then A else A.map (fun a : Addr => a.add (k * 11))) (xs.length - k) (c - k)) := Lib.hid (by rw [hAD, hnd, hcd])
      have HE3 : Hid (∀ w', Below wr.heap.size wr w' → RetCut (xs.map DE.d) now wr (.returned (.tuple #[.slice A k c, .slice AD nd cd])) w') := Lib.hid (by rw [HDE.out]; exact HE2.out)
      clear hAD hnd hcd HE2
      have B_wr : Hid (Below wr.heap.size wr wr) := Lib.hid (Below.refl _ _)
      obtain ⟨y1, hy1⟩ : ∃ y1, y1 = World.drew wr := ⟨_, rfl⟩
      have hbD : Below wr.heap.size wr y1 := by rw [hy1]; exact (Below.refl _ _).drew
      have B_y1 : Hid (Below wr.heap.size wr y1) := Lib.hid (stepB B_wr.out hbD)
      clear B_wr
      have hbd : (fun w' => Below wr.heap.size wr w') (World.drew wr) := by rw [← hy1]; exact B_y1.out
      have hSD : (fun w' => Below wr.heap.size wr w') y1 := B_y1.out
      have HWD := Lib.hid hy1
      clear hy1 hbD
      refine wp_region_held_drew (S := fun w' => Below wr.heap.size wr w') (by kernel_rfl) hbd (fun hHeld => ?_)
      rw [← HWD.out]
      clear hHeld
      have hHeld := hSD
      clear hSD hbd HWD
      refine wpAnyH_take (i := 0) (v := .slice A xs.length c) (get_ops _ _ _ rfl) (by kernel_rfl) (by kernel_rfl) (by kernel_rfl) (fun _ _ _ h => h) (Or.inl ⟨by rfl, fun wS hSw => by (try dsimp only at hSw); go_simp⟩) hHeld ?_
      try simp only [Act.put, List.setIfInBounds_toArray, List.set_cons_zero, List.set_cons_succ]
      refine wpAnyH_take (i := 1) (v := .int .i64 k) (get_ops _ _ _ rfl) (by kernel_rfl) (by kernel_rfl) (by kernel_rfl) (fun _ _ _ h => h) (Or.inl ⟨by rfl, fun wS hSw => by (try dsimp only at hSw); go_simp⟩) hHeld ?_
      try simp only [Act.put, List.setIfInBounds_toArray, List.set_cons_zero, List.set_cons_succ]
      refine wpAnyH_take (i := 2) (v := .slice A k c) (get_ops _ _ _ rfl) (by kernel_rfl) (by kernel_rfl) (by kernel_rfl) (fun _ _ _ h => h) (Or.inl ⟨by rfl, fun wS hSw => by (try dsimp only at hSw); go_simp⟩) hHeld ?_
      try simp only [Act.put, List.setIfInBounds_toArray, List.set_cons_zero, List.set_cons_succ]
      refine wpAnyH_take (i := 3) (v := .slice A xs.length c) (get_ops _ _ _ rfl) (by kernel_rfl) (by kernel_rfl) (by kernel_rfl) (fun _ _ _ h => h) (Or.inl ⟨by rfl, fun wS hSw => by (try dsimp only at hSw); go_simp⟩) hHeld ?_
      try simp only [Act.put, List.setIfInBounds_toArray, List.set_cons_zero, List.set_cons_succ]
      refine wpAnyH_take (i := 4) (v := .int .i64 k) (get_ops _ _ _ rfl) (by kernel_rfl) (by kernel_rfl) (by kernel_rfl) (fun _ _ _ h => h) (Or.inl ⟨by rfl, fun wS hSw => by (try dsimp only at hSw); go_simp⟩) hHeld ?_
      try simp only [Act.put, List.setIfInBounds_toArray, List.set_cons_zero, List.set_cons_succ]
      refine wpAnyH_take (i := 5) (v := (.slice AD nd cd)) (get_ops _ _ _ rfl) (by kernel_rfl) (by kernel_rfl) (by kernel_rfl) (fun _ _ _ h => h) (Or.inl ⟨by rfl, fun wS hSw => by (try dsimp only at hSw); rw [HDE.out]; go_simp⟩) hHeld ?_
      try simp only [Act.put, List.setIfInBounds_toArray, List.set_cons_zero, List.set_cons_succ]
      refine wpAnyH_take (i := 6) (v := .slice A k c) (get_ops _ _ _ rfl) (by kernel_rfl) (by kernel_rfl) (by kernel_rfl) (fun _ _ _ h => h) (Or.inl ⟨by rfl, fun wS hSw => by (try dsimp only at hSw); go_simp⟩) hHeld ?_
      try simp only [Act.put, List.setIfInBounds_toArray, List.set_cons_zero, List.set_cons_succ]
      refine wpAnyH_take (i := 7) (v := (.slice AD nd cd)) (get_ops _ _ _ rfl) (by kernel_rfl) (by kernel_rfl) (by kernel_rfl) (fun _ _ _ h => h) (Or.inl ⟨by rfl, fun wS hSw => by (try dsimp only at hSw); go_simp⟩) hHeld ?_
      try simp only [Act.put, List.setIfInBounds_toArray, List.set_cons_zero, List.set_cons_succ]
      refine wpAnyH_done (by kernel_rfl) ?_ _
      go_wp2_with fail
      go_ret2
      exact HE3.out _ B_y1.out
    | succ g =>
      have hlt : k < xs.length := by omega
      have e3 : decide ((k : Int) < (xs.length : Int)) = true := decide_eq_true (by omega)
      have e3' : decide (k < xs.length) = true := decide_eq_true hlt
      obtain ⟨x, hx⟩ : ∃ x, xs[k]? = some x := ⟨_, List.getElem?_eq_getElem hlt⟩
      obtain ⟨b, o, hA, _, hcc, _⟩ := HS.out.at_ hx
      have hxm : (xs.map DE.d)[k]? = some x.d := by rw [List.getElem?_map, hx]; rfl
      have HX := Lib.hid hxm
      have d1 : wr.cell? ⟨b, o + k * 11 + 1, none⟩ = some (.int .i64 x.d.tm) := hcc 1 _ rfl
      have j1 : (0 : Int) ≤ (k : Int) := by omega
      have j2 : (k : Int) < (xs.length : Int) := by omega
      have hlk : k ≤ 100000 := by omega
      subst hA
      clear hx hcc hxm hkg
      by_cases ht : x.d.tm ≤ now
      · have q1 : decide (x.d.tm ≤ now) = true := decide_eq_true ht
        have HTT := Lib.hid ht
        clear ht HEND
        go_wp2_with fail
        go_roundg g
        case measure => omega
        case rel => exact ⟨k + 1, by have := HK.out; omega, by go_num, (fun j z hj hz => by
          rcases Nat.lt_succ_iff_lt_or_eq.1 hj with h' | rfl
          · exact HD.out j z h' hz
          · rw [HX.out] at hz; rw [← Option.some.inj hz]; exact HTT.out), rfl⟩
      · have q1 : decide (x.d.tm ≤ now) = false := decide_eq_false ht
        have HE2 := Lib.hid (HEND.out (fun z hz => by rw [HX.out] at hz; rw [← Option.some.inj hz]; omega))
        have k2 : (k : Int) ≤ (xs.length : Int) := by omega
        have k3 : (k : Int) ≤ (c : Int) := by have := HC.out; omega
        clear ht HEND
        go_upto_region 4 with fail
        obtain ⟨AD, hAD⟩ : ∃ AD : Option Addr, AD = (if c = k then (some ⟨b, o, none⟩) else (some (⟨b, o, none⟩ : Addr)).map (fun a : Addr => a.add (k * 11))) := ⟨_, rfl⟩
        obtain ⟨nd, hnd⟩ : ∃ nd, nd = xs.length - k := ⟨_, rfl⟩
        obtain ⟨cd, hcd⟩ : ∃ cd, cd = c - k := ⟨_, rfl⟩
        have HDE : Hid (Value.slice AD nd cd = .slice (if c = k then (some ⟨b, o, none⟩) else (some (⟨b, o, none⟩ : Addr)).map (fun a : Addr => a.add (k * 11))) (xs.length - k) (c - k)) := Lib.hid (by rw [hAD, hnd, hcd])
        have HE3 : Hid (∀ w', Below wr.heap.size wr w' → RetCut (xs.map DE.d) now wr (.returned (.tuple #[.slice (some ⟨b, o, none⟩) k c, .slice AD nd cd])) w') := Lib.hid (by rw [HDE.out]; exact HE2.out)
        clear hAD hnd hcd HE2
        have B_wr : Hid (Below wr.heap.size wr wr) := Lib.hid (Below.refl _ _)
        obtain ⟨z1, hz1⟩ : ∃ z1, z1 = World.drew wr := ⟨_, rfl⟩
        have hbD : Below wr.heap.size wr z1 := by rw [hz1]; exact (Below.refl _ _).drew
        have B_z1 : Hid (Below wr.heap.size wr z1) := Lib.hid (stepB B_wr.out hbD)
        clear B_wr
        have hbd : (fun w' => Below wr.heap.size wr w') (World.drew wr) := by rw [← hz1]; exact B_z1.out
        have hSD : (fun w' => Below wr.heap.size wr w') z1 := B_z1.out
        have HWD := Lib.hid hz1
        clear hz1 hbD
        refine wp_region_held_drew (S := fun w' => Below wr.heap.size wr w') (by kernel_rfl) hbd (fun hHeld => ?_)
        rw [← HWD.out]
        clear hHeld
        have hHeld := hSD
        clear hSD hbd HWD
        refine wpAnyH_take (i := 0) (v := .slice (some ⟨b, o, none⟩) xs.length c) (get_ops _ _ _ rfl) (by kernel_rfl) (by kernel_rfl) (by kernel_rfl) (fun _ _ _ h => h) (Or.inl ⟨by rfl, fun wS hSw => by (try dsimp only at hSw); go_simp⟩) hHeld ?_
        try simp only [Act.put, List.setIfInBounds_toArray, List.set_cons_zero, List.set_cons_succ]
        refine wpAnyH_take (i := 1) (v := .int .i64 k) (get_ops _ _ _ rfl) (by kernel_rfl) (by kernel_rfl) (by kernel_rfl) (fun _ _ _ h => h) (Or.inl ⟨by rfl, fun wS hSw => by (try dsimp only at hSw); go_simp⟩) hHeld ?_
        try simp only [Act.put, List.setIfInBounds_toArray, List.set_cons_zero, List.set_cons_succ]
        refine wpAnyH_take (i := 2) (v := .slice (some ⟨b, o, none⟩) k c) (get_ops _ _ _ rfl) (by kernel_rfl) (by kernel_rfl) (by kernel_rfl) (fun _ _ _ h => h) (Or.inl ⟨by rfl, fun wS hSw => by (try dsimp only at hSw); go_simp⟩) hHeld ?_
        try simp only [Act.put, List.setIfInBounds_toArray, List.set_cons_zero, List.set_cons_succ]
        refine wpAnyH_take (i := 3) (v := .slice (some ⟨b, o, none⟩) xs.length c) (get_ops _ _ _ rfl) (by kernel_rfl) (by kernel_rfl) (by kernel_rfl) (fun _ _ _ h => h) (Or.inl ⟨by rfl, fun wS hSw => by (try dsimp only at hSw); go_simp⟩) hHeld ?_
        try simp only [Act.put, List.setIfInBounds_toArray, List.set_cons_zero, List.set_cons_succ]
        refine wpAnyH_take (i := 4) (v := .int .i64 k) (get_ops _ _ _ rfl) (by kernel_rfl) (by kernel_rfl) (by kernel_rfl) (fun _ _ _ h => h) (Or.inl ⟨by rfl, fun wS hSw => by (try dsimp only at hSw); go_simp⟩) hHeld ?_
        try simp only [Act.put, List.setIfInBounds_toArray, List.set_cons_zero, List.set_cons_succ]
        refine wpAnyH_take (i := 5) (v := (.slice AD nd cd)) (get_ops _ _ _ rfl) (by kernel_rfl) (by kernel_rfl) (by kernel_rfl) (fun _ _ _ h => h) (Or.inl ⟨by rfl, fun wS hSw => by (try dsimp only at hSw); rw [HDE.out]; go_simp⟩) hHeld ?_
        try simp only [Act.put, List.setIfInBounds_toArray, List.set_cons_zero, List.set_cons_succ]
        refine wpAnyH_take (i := 6) (v := .slice (some ⟨b, o, none⟩) k c) (get_ops _ _ _ rfl) (by kernel_rfl) (by kernel_rfl) (by kernel_rfl) (fun _ _ _ h => h) (Or.inl ⟨by rfl, fun wS hSw => by (try dsimp only at hSw); go_simp⟩) hHeld ?_
        try simp only [Act.put, List.setIfInBounds_toArray, List.set_cons_zero, List.set_cons_succ]
        refine wpAnyH_take (i := 7) (v := (.slice AD nd cd)) (get_ops _ _ _ rfl) (by kernel_rfl) (by kernel_rfl) (by kernel_rfl) (fun _ _ _ h => h) (Or.inl ⟨by rfl, fun wS hSw => by (try dsimp only at hSw); go_simp⟩) hHeld ?_
        try simp only [Act.put, List.setIfInBounds_toArray, List.set_cons_zero, List.set_cons_succ]
        refine wpAnyH_done (by kernel_rfl) ?_ _
        go_wp2_with fail
        go_ret2
        exact HE3.out _ B_z1.out
end Go.Proofs.YtgnbiicfabldbaaDoor
