/-
  What before and Valid of brokerref18, and valid of brokerlaw18, answer. Conditions: the lists read as data; their lengths fit an int.
-/
import Derived.Test.YtgnbiicfabldbaaDoorDh
namespace Go.Proofs.YtgnbiicfabldbaaDoor
open Go.RowKit
open S2 (BK Put)

set_option maxRecDepth 20000 in
set_option maxHeartbeats 4000000 in
theorem before_any (x y : DE) (w : World) : Calls Tryd.prog 33 #[dV x, dV y] w fun e w' => e = .returned (.bool (befR x.d y.d)) ∧ Below w.heap.size w w' := by
  obtain ⟨R, hR⟩ : ∃ R, befR x.d y.d = R := ⟨_, rfl⟩
  rw [hR]
  have HR : Hid ((decide (x.d.tm < y.d.tm) || (decide (x.d.tm = y.d.tm) && ltS x.d.cl y.d.cl)) = R) := Lib.hid hR
  have hlt := lt_data x.d.cl y.d.cl
  obtain ⟨bl, hbl⟩ : ∃ b, ltS x.d.cl y.d.cl = b := ⟨_, rfl⟩
  rw [hbl] at hlt HR
  clear hR hbl
  unfold dV
  go_enter Tryd.func33, Tryd.ntmps33
  go_upto_region 1 with fail
  refine name_world (C := fun w1 => Code.wp _ _ _ _ w1) ((w.alloc (.cells (gD x).toArray 51)).alloc (.cells (gD y).toArray 51)) ?_
  intro w1 hw1
  obtain ⟨t1, t2, hs0, hB0⟩ := S2.two_laid (v1 := gD x) (v2 := gD y) hw1
  have d0 := t1.cell 0 rfl
  have d1 := t1.cell 1 rfl
  have e0 := t2.cell 0 rfl
  have e1 := t2.cell 1 rfl
  have B_w1 := Lib.hid hB0
  clear hw1 t1 t2 hs0 hB0
  by_cases h1 : x.d.tm < y.d.tm
  · have q1 : decide (x.d.tm < y.d.tm) = true := decide_eq_true h1
    obtain rfl : R = true := by rw [← HR.out, q1]; rfl
    clear h1 HR
    go_wp2
    go_ret
    exact ⟨rfl, B_w1.out⟩
  have q1 : decide (x.d.tm < y.d.tm) = false := decide_eq_false h1
  by_cases h2 : x.d.tm = y.d.tm
  · have q2 : (x.d.tm == y.d.tm) = true := by simp [h2]
    obtain rfl : R = bl := by rw [← HR.out, q1, decide_eq_true h2]; simp
    clear h1 h2 HR
    go_wp2
    go_ret
    exact ⟨rfl, B_w1.out⟩
  · have q2 : (x.d.tm == y.d.tm) = false := by simp [h2]
    obtain rfl : R = false := by rw [← HR.out, q1, decide_eq_false h2]; simp
    clear h1 h2 HR
    go_wp2
    go_ret
    exact ⟨rfl, B_w1.out⟩

/-- a will of the list is in its place -/
def GoodAt (l : List Du) (i : Nat) (x : Du) : Prop := (0 ≤ x.tm ∧ x.tm ≤ 1099511627776) ∧ (∀ j y, i = j + 1 → l[j]? = some y → befR y x = true) ∧ ∀ k y, k < i → l[k]? = some y → y.cl ≠ x.cl
/-- the list is valid -/
def ValidD (l : List Du) : Prop := ∀ i x, l[i]? = some x → GoodAt l i x
def GoodTo (l : List Du) (n : Nat) : Prop := ∀ i x, i < n → l[i]? = some x → GoodAt l i x
theorem GoodTo.succ {l : List Du} {n : Nat} {x : Du} (h : GoodTo l n) (hx : l[n]? = some x) (hg : GoodAt l n x) : GoodTo l (n + 1) := fun j y hj hy => by
  rcases Nat.lt_succ_iff_lt_or_eq.1 hj with h' | rfl
  · exact h j y h' hy
  · rw [hx] at hy; rw [← Option.some.inj hy]; exact hg
/-- whether a list is valid, that a call answers -/
def RetV (l : List Du) (W : World) (e : Ending) (w' : World) : Prop := ∃ b, e = .returned (.bool b) ∧ (b = true ↔ ValidD l) ∧ Below W.heap.size W w'
theorem not_valid {l : List Du} {i : Nat} {x : Du} (hx : l[i]? = some x) (h : ¬ GoodAt l i x) : (false = true ↔ ValidD l) := ⟨(fun e => by cases e), fun hv => absurd (hv i x hx) h⟩

set_option maxRecDepth 20000 in
set_option maxHeartbeats 4000000 in
theorem rValid_any (A : Option Addr) (c : Nat) (xs : List DE) (w : World) (hsl : DI w w.heap.size A xs) (hn : xs.length ≤ 100000) :
    Calls Tryd.prog 18 #[.slice A xs.length c] w (RetV (xs.map DE.d) w) := by
  have HS := Lib.hid hsl
  have HBF := Lib.hid (fun x y w1 => before_any x y w1)
  clear hsl
  go_enter Tryd.func18, Tryd.ntmps18
  go_wp2_with fail
  go_loopg [3] xs.length (fun g v wr => ∃ (i : Nat), i + g = xs.length ∧ v = .int .i64 i ∧ GoodTo (xs.map DE.d) i ∧ Below w.heap.size w wr)
  case atStart => exact ⟨0, by omega, rfl, (fun j x h => absurd h (by omega)), Below.refl _ _⟩
  case round =>
    obtain ⟨i, hkg, rfl, hgt, hb0⟩ := hrel
    have HGT := Lib.hid hgt
    have B_wr := Lib.hid hb0
    have HK := Lib.hid hkg
    clear hgt hb0
    cases gk with
    | zero =>
      obtain rfl : i = xs.length := by omega
      have HV : Hid (ValidD (xs.map DE.d)) := Lib.hid (fun j x hx => HGT.out j x (by have := (List.getElem?_eq_some_iff.1 hx).1; rwa [List.length_map] at this) hx)
      clear hkg
      go_wp2
      go_ret
      exact ⟨true, rfl, ⟨fun _ => HV.out, fun _ => rfl⟩, B_wr.out⟩
    | succ gk =>
      have hlt : i < xs.length := by omega
      have e3 : decide ((i : Int) < (xs.length : Int)) = true := decide_eq_true (by omega)
      obtain ⟨x, hx⟩ : ∃ x, xs[i]? = some x := ⟨_, List.getElem?_eq_getElem hlt⟩
      obtain ⟨b, o, hA, hbB, hc, _⟩ := (HS.out.step B_wr.out).at_ hx
      have hxm : (xs.map DE.d)[i]? = some x.d := by rw [List.getElem?_map, hx]; rfl
      have HX := Lib.hid hxm
      have d1 : wr.cell? ⟨b, o + i * 11 + 1, none⟩ = some (.int .i64 x.d.tm) := hc 1 _ rfl
      have C_wr : Hid (b < wr.heap.size ∧ ∀ k v, (gD x)[k]? = some v → wr.cell? ⟨b, o + i * 11 + k, none⟩ = some v) := Lib.hid ⟨hbB, hc⟩
      have j1 : (0 : Int) ≤ (i : Int) := by omega
      have j2 : (i : Int) < (xs.length : Int) := by omega
      have hA0 := Lib.hid hA
      clear hc hbB hxm hkg
      by_cases h1 : x.d.tm < 0
      case pos =>
        have q1 : decide (x.d.tm < 0) = true := decide_eq_true h1
        have HB := Lib.hid (not_valid HX.out (fun hg => by have := hg.1.1; omega))
        subst hA
        clear h1
        go_wp2_with fail
        go_quiet (fail)
        go_wp2
        go_ret
        exact ⟨false, rfl, HB.out, stepB B_wr.out (below_drewN _ _)⟩
      have q1 : decide (x.d.tm < 0) = false := decide_eq_false h1
      by_cases h2 : 1099511627776 < x.d.tm
      case pos =>
        have q2 : decide ((1099511627776 : Int) < x.d.tm) = true := decide_eq_true h2
        have HB := Lib.hid (not_valid HX.out (fun hg => by have := hg.1.2; omega))
        subst hA
        clear h1 h2
        go_wp2_with fail
        go_quiet (fail)
        go_wp2
        go_ret
        exact ⟨false, rfl, HB.out, stepB B_wr.out (below_drewN _ _)⟩
      have q2 : decide ((1099511627776 : Int) < x.d.tm) = false := decide_eq_false h2
      have HT : Hid (0 ≤ x.d.tm ∧ x.d.tm ≤ 1099511627776) := Lib.hid (by omega)
      clear h1 h2
      have HXX := Lib.hid hx
      obtain ⟨gko, rfl⟩ : ∃ g, g = gk := ⟨_, rfl⟩
      by_cases hi0 : i = 0
      · have z1 : decide ((0 : Int) < (i : Int)) = false := decide_eq_false (by omega)
        have z2 : decide (0 < i) = false := decide_eq_false (by omega)
        have HBE : Hid (∀ j y, i = j + 1 → (xs.map DE.d)[j]? = some y → befR y x.d = true) := Lib.hid (fun j y h => by omega)
        subst hA
        clear hx hi0
        go_wp2_with fail
        have HBD : Hid (∀ n, Below w.heap.size w (wr.drewN n)) := Lib.hid (fun n => stepB B_wr.out (below_drewN _ _))
        go_quiet (fail)
        go_wp2_with fail
        go_loopg [4] i (fun g v wx => ∃ (k : Nat), k + g = i ∧ v = .int .i64 k ∧ (∀ q y, q < k → (xs.map DE.d)[q]? = some y → y.cl ≠ x.d.cl) ∧ Below w.heap.size w wx)
        case atStart => exact ⟨0, by omega, rfl, (fun q y h => absurd h (by omega)), HBD.out _⟩
        case round =>
          obtain ⟨k, hkg, rfl, hne, hb0⟩ := hrel
          have HNE := Lib.hid hne
          have B_x := Lib.hid hb0
          have HK2 := Lib.hid hkg
          clear hne hb0
          cases gk with
          | zero =>
            have hki : k = i := by omega
            have HNF : Hid (∀ q y, q < i → (xs.map DE.d)[q]? = some y → y.cl ≠ x.d.cl) := Lib.hid (by rw [← hki]; exact HNE.out)
            have e5 : decide ((k : Int) < (i : Int)) = false := decide_eq_false (by omega)
            have e5' : decide (k < i) = false := decide_eq_false (by omega)
            clear hkg hki
            go_wp2_with fail
            go_roundg gko
            case measure => omega
            case rel => exact ⟨i + 1, by have := HK.out; omega, by go_num, HGT.out.succ HX.out ⟨HT.out, HBE.out, HNF.out⟩, B_x.out⟩
          | succ gk2 =>
            have e5 : decide ((k : Int) < (i : Int)) = true := decide_eq_true (by omega)
            have e5' : decide (k < i) = true := decide_eq_true (by omega)
            obtain ⟨y, hy⟩ : ∃ y, xs[k]? = some y := ⟨_, List.getElem?_eq_getElem (by omega)⟩
            obtain ⟨b1, o1, e6, _, hc1, _⟩ := (HS.out.step B_x.out).at_ hy
            obtain ⟨b2, o2, e7, _, hc2, _⟩ := (HS.out.step B_x.out).at_ HXX.out
            have hym : (xs.map DE.d)[k]? = some y.d := by rw [List.getElem?_map, hy]; rfl
            have HY := Lib.hid hym
            simp only [Option.some.injEq, Addr.mk.injEq, and_true] at e6 e7
            obtain ⟨rfl, rfl⟩ := e6
            obtain ⟨rfl, rfl⟩ := e7
            have d5 : wr.cell? ⟨b, o + k * 11, none⟩ = some (.string y.d.cl) := by have := hc1 0 _ rfl; simpa using this
            have d6 : wr.cell? ⟨b, o + i * 11, none⟩ = some (.string x.d.cl) := by have := hc2 0 _ rfl; simpa using this
            have k1 : (0 : Int) ≤ (k : Int) := by omega
            have k2 : (k : Int) < (xs.length : Int) := by omega
            have k3 : k ≤ 100000 := by omega
            have q0 := str_eqb y.d.cl x.d.cl
            clear hc1 hc2 hy hym hkg
            by_cases he : y.d.cl = x.d.cl
            · have q9 : decide (y.d.cl = x.d.cl) = true := decide_eq_true he
              rw [q9] at q0
              have HB := Lib.hid (not_valid HX.out (fun hg => hg.2.2 k y.d (by have := HK2.out; omega) HY.out he))
              clear he
              go_wp2_with fail
              go_quiet (fail)
              go_wp2
              go_ret
              exact ⟨false, rfl, HB.out, stepB B_x.out (below_drewN _ _)⟩
            · have q9 : decide (y.d.cl = x.d.cl) = false := decide_eq_false he
              rw [q9] at q0
              have HHE := Lib.hid he
              clear he
              go_wp2_with fail
              go_quiet (fail)
              go_wp2_with fail
              go_roundg gk2
              case measure => omega
              case rel => exact ⟨k + 1, by have := HK2.out; omega, by go_num, (fun q z hq hz => by
                rcases Nat.lt_succ_iff_lt_or_eq.1 hq with h' | rfl
                · exact HNE.out q z h' hz
                · rw [HY.out] at hz; rw [← Option.some.inj hz]; exact HHE.out), stepB B_x.out (below_drewN _ _)⟩
      obtain ⟨j, hj⟩ : ∃ j, i = j + 1 := ⟨i - 1, by omega⟩
      obtain ⟨z, hz⟩ : ∃ z, xs[j]? = some z := ⟨_, List.getElem?_eq_getElem (by omega)⟩
      obtain ⟨b3, o3, e8, hb3, hc3, _⟩ := (HS.out.step B_wr.out).at_ hz
      rw [hA] at e8
      simp only [Option.some.injEq, Addr.mk.injEq, and_true] at e8
      obtain ⟨rfl, rfl⟩ := e8
      have D_wr : Hid (b < wr.heap.size ∧ ∀ k v, (gD z)[k]? = some v → wr.cell? ⟨b, o + j * 11 + k, none⟩ = some v) := Lib.hid ⟨hb3, hc3⟩
      have hzm : (xs.map DE.d)[j]? = some z.d := by rw [List.getElem?_map, hz]; rfl
      have HZM := Lib.hid (And.intro hzm hj)
      have z1 : decide ((0 : Int) < (i : Int)) = true := decide_eq_true (by omega)
      have z2 : decide (0 < i) = true := decide_eq_true (by omega)
      have z3 : (i : Int) - 1 = (j : Int) := by omega
      have i1 : (0 : Int) ≤ (j : Int) := by omega
      have i2 : (j : Int) < (xs.length : Int) := by omega
      have i3 : i ≤ 100000 := by omega
      have i4 : j ≤ 100000 := by omega
      obtain ⟨bE, hbE⟩ : ∃ q, befR z.d x.d = q := ⟨_, rfl⟩
      have hcal := HBF.out z x
      rw [hbE] at hcal
      have HCL := Lib.hid hcal
      have HBB := Lib.hid hbE
      unfold dV at HCL
      subst hA
      clear hx hi0 hj hz hb3 hc3 hzm hbE hcal
      go_upto_region 4 with fail
      clear d1
      obtain ⟨u1, hu1⟩ : ∃ u1, u1 = World.drew wr := ⟨_, rfl⟩
      have hbD : Below wr.heap.size wr u1 := by rw [hu1]; exact (Below.refl _ _).drew
      have C_u1 : Hid ((b < u1.heap.size ∧ ∀ k v, (gD x)[k]? = some v → u1.cell? ⟨b, o + i * 11 + k, none⟩ = some v)) := Lib.hid (⟨Nat.lt_of_lt_of_le C_wr.out.1 hbD.size, fun k u hu => (hbD.cell (p := ⟨b, o + i * 11 + k, none⟩) C_wr.out.1).trans (C_wr.out.2 k u hu)⟩)
      have D_u1 : Hid ((b < u1.heap.size ∧ ∀ k v, (gD z)[k]? = some v → u1.cell? ⟨b, o + j * 11 + k, none⟩ = some v)) := Lib.hid (⟨Nat.lt_of_lt_of_le D_wr.out.1 hbD.size, fun k u hu => (hbD.cell (p := ⟨b, o + j * 11 + k, none⟩) D_wr.out.1).trans (D_wr.out.2 k u hu)⟩)
      have B_u1 : Hid (Below w.heap.size w u1) := Lib.hid (stepB B_wr.out hbD)
      clear C_wr D_wr B_wr
      have hbd : (fun w' => (b < w'.heap.size ∧ ∀ k v, (gD x)[k]? = some v → w'.cell? ⟨b, o + i * 11 + k, none⟩ = some v) ∧ (b < w'.heap.size ∧ ∀ k v, (gD z)[k]? = some v → w'.cell? ⟨b, o + j * 11 + k, none⟩ = some v)) (World.drew wr) := by rw [← hu1]; exact ⟨C_u1.out, D_u1.out⟩
      have hSD : (fun w' => (b < w'.heap.size ∧ ∀ k v, (gD x)[k]? = some v → w'.cell? ⟨b, o + i * 11 + k, none⟩ = some v) ∧ (b < w'.heap.size ∧ ∀ k v, (gD z)[k]? = some v → w'.cell? ⟨b, o + j * 11 + k, none⟩ = some v)) u1 := ⟨C_u1.out, D_u1.out⟩
      have HWD := Lib.hid hu1
      clear hu1 hbD
      refine wp_region_held_drew (S := fun w' => (b < w'.heap.size ∧ ∀ k v, (gD x)[k]? = some v → w'.cell? ⟨b, o + i * 11 + k, none⟩ = some v) ∧ (b < w'.heap.size ∧ ∀ k v, (gD z)[k]? = some v → w'.cell? ⟨b, o + j * 11 + k, none⟩ = some v)) (by kernel_rfl) hbd (fun hHeld => ?_)
      rw [← HWD.out]
      clear hHeld
      have hHeld := hSD
      clear hSD hbd HWD
      refine wpAnyH_take (i := 0) (v := .slice (some ⟨b, o, none⟩) xs.length c) (get_ops _ _ _ rfl) (by kernel_rfl) (by kernel_rfl) (by kernel_rfl) (fun _ _ _ h => h) (Or.inl ⟨by rfl, fun wS hSw => by (try dsimp only at hSw); go_simp⟩) hHeld ?_
      try simp only [Act.put, List.setIfInBounds_toArray, List.set_cons_zero, List.set_cons_succ]
      refine wpAnyH_take (i := 1) (v := .int .i64 i) (get_ops _ _ _ rfl) (by kernel_rfl) (by kernel_rfl) (by kernel_rfl) (fun _ _ _ h => h) (Or.inl ⟨by rfl, fun wS hSw => by (try dsimp only at hSw); go_simp⟩) hHeld ?_
      try simp only [Act.put, List.setIfInBounds_toArray, List.set_cons_zero, List.set_cons_succ]
      refine wpAnyH_take (i := 2) (v := .pointer (some ⟨b, o + i * 11, none⟩)) (get_ops _ _ _ rfl) (by kernel_rfl) (by kernel_rfl) (by kernel_rfl) (fun _ _ _ h => h) (Or.inl ⟨by rfl, fun wS hSw => by (try dsimp only at hSw); go_simp⟩) hHeld ?_
      try simp only [Act.put, List.setIfInBounds_toArray, List.set_cons_zero, List.set_cons_succ]
      refine wpAnyH_take (i := 3) (v := .pointer (some ⟨b, o + i * 11 + 1, none⟩)) (get_ops _ _ _ rfl) (by kernel_rfl) (by kernel_rfl) (by kernel_rfl) (fun _ _ _ h => h) (Or.inl ⟨by rfl, fun wS hSw => by (try dsimp only at hSw); go_simp⟩) hHeld ?_
      try simp only [Act.put, List.setIfInBounds_toArray, List.set_cons_zero, List.set_cons_succ]
      refine wpAnyH_take (i := 4) (v := .int .i64 x.d.tm) (get_ops _ _ _ rfl) (by kernel_rfl) (by kernel_rfl) (by kernel_rfl) (fun _ _ _ h => h) (Or.inl ⟨by rfl, fun wS hSw => by (try dsimp only at hSw); have cS : wS.cell? ⟨b, o + i * 11 + 1, none⟩ = some (.int .i64 x.d.tm) := hSw.1.2 1 _ rfl; clear hSw; go_simp⟩) hHeld ?_
      try simp only [Act.put, List.setIfInBounds_toArray, List.set_cons_zero, List.set_cons_succ]
      refine wpAnyH_take (i := 5) (v := .bool false) (get_ops _ _ _ rfl) (by kernel_rfl) (by kernel_rfl) (by kernel_rfl) (fun _ _ _ h => h) (Or.inl ⟨by rfl, fun wS hSw => by (try dsimp only at hSw); go_simp⟩) hHeld ?_
      try simp only [Act.put, List.setIfInBounds_toArray, List.set_cons_zero, List.set_cons_succ]
      refine wpAnyH_take (i := 6) (v := .bool false) (get_ops _ _ _ rfl) (by kernel_rfl) (by kernel_rfl) (by kernel_rfl) (fun _ _ _ h => h) (Or.inl ⟨by rfl, fun wS hSw => by (try dsimp only at hSw); go_simp⟩) hHeld ?_
      try simp only [Act.put, List.setIfInBounds_toArray, List.set_cons_zero, List.set_cons_succ]
      refine wpAnyH_take (i := 7) (v := .slice (some ⟨b, o, none⟩) xs.length c) (get_ops _ _ _ rfl) (by kernel_rfl) (by kernel_rfl) (by kernel_rfl) (fun _ _ _ h => h) (Or.inl ⟨by rfl, fun wS hSw => by (try dsimp only at hSw); go_simp⟩) hHeld ?_
      try simp only [Act.put, List.setIfInBounds_toArray, List.set_cons_zero, List.set_cons_succ]
      refine wpAnyH_take (i := 8) (v := .int .i64 i) (get_ops _ _ _ rfl) (by kernel_rfl) (by kernel_rfl) (by kernel_rfl) (fun _ _ _ h => h) (Or.inl ⟨by rfl, fun wS hSw => by (try dsimp only at hSw); go_simp⟩) hHeld ?_
      try simp only [Act.put, List.setIfInBounds_toArray, List.set_cons_zero, List.set_cons_succ]
      refine wpAnyH_take (i := 9) (v := .pointer (some ⟨b, o + i * 11, none⟩)) (get_ops _ _ _ rfl) (by kernel_rfl) (by kernel_rfl) (by kernel_rfl) (fun _ _ _ h => h) (Or.inl ⟨by rfl, fun wS hSw => by (try dsimp only at hSw); go_simp⟩) hHeld ?_
      try simp only [Act.put, List.setIfInBounds_toArray, List.set_cons_zero, List.set_cons_succ]
      refine wpAnyH_take (i := 10) (v := .pointer (some ⟨b, o + i * 11 + 1, none⟩)) (get_ops _ _ _ rfl) (by kernel_rfl) (by kernel_rfl) (by kernel_rfl) (fun _ _ _ h => h) (Or.inl ⟨by rfl, fun wS hSw => by (try dsimp only at hSw); go_simp⟩) hHeld ?_
      try simp only [Act.put, List.setIfInBounds_toArray, List.set_cons_zero, List.set_cons_succ]
      refine wpAnyH_take (i := 11) (v := .int .i64 x.d.tm) (get_ops _ _ _ rfl) (by kernel_rfl) (by kernel_rfl) (by kernel_rfl) (fun _ _ _ h => h) (Or.inl ⟨by rfl, fun wS hSw => by (try dsimp only at hSw); have cS : wS.cell? ⟨b, o + i * 11 + 1, none⟩ = some (.int .i64 x.d.tm) := hSw.1.2 1 _ rfl; clear hSw; go_simp⟩) hHeld ?_
      try simp only [Act.put, List.setIfInBounds_toArray, List.set_cons_zero, List.set_cons_succ]
      refine wpAnyH_take (i := 12) (v := .bool false) (get_ops _ _ _ rfl) (by kernel_rfl) (by kernel_rfl) (by kernel_rfl) (fun _ _ _ h => h) (Or.inl ⟨by rfl, fun wS hSw => by (try dsimp only at hSw); go_simp⟩) hHeld ?_
      try simp only [Act.put, List.setIfInBounds_toArray, List.set_cons_zero, List.set_cons_succ]
      refine wpAnyH_take (i := 13) (v := .bool false) (get_ops _ _ _ rfl) (by kernel_rfl) (by kernel_rfl) (by kernel_rfl) (fun _ _ _ h => h) (Or.inl ⟨by rfl, fun wS hSw => by (try dsimp only at hSw); go_simp⟩) hHeld ?_
      try simp only [Act.put, List.setIfInBounds_toArray, List.set_cons_zero, List.set_cons_succ]
      refine wpAnyH_take (i := 14) (v := .bool false) (get_ops _ _ _ rfl) (by kernel_rfl) (by kernel_rfl) (by kernel_rfl) (fun _ _ _ h => h) (Or.inl ⟨by rfl, fun wS hSw => by (try dsimp only at hSw); go_simp⟩) hHeld ?_
      try simp only [Act.put, List.setIfInBounds_toArray, List.set_cons_zero, List.set_cons_succ]
      refine wpAnyH_take (i := 15) (v := .int .i64 i) (get_ops _ _ _ rfl) (by kernel_rfl) (by kernel_rfl) (by kernel_rfl) (fun _ _ _ h => h) (Or.inl ⟨by rfl, fun wS hSw => by (try dsimp only at hSw); go_simp⟩) hHeld ?_
      try simp only [Act.put, List.setIfInBounds_toArray, List.set_cons_zero, List.set_cons_succ]
      refine wpAnyH_take (i := 16) (v := .bool true) (get_ops _ _ _ rfl) (by kernel_rfl) (by kernel_rfl) (by kernel_rfl) (fun _ _ _ h => h) (Or.inl ⟨by rfl, fun wS hSw => by (try dsimp only at hSw); go_simp⟩) hHeld ?_
      try simp only [Act.put, List.setIfInBounds_toArray, List.set_cons_zero, List.set_cons_succ]
      refine wpAnyH_take (i := 17) (v := .bool true) (get_ops _ _ _ rfl) (by kernel_rfl) (by kernel_rfl) (by kernel_rfl) (fun _ _ _ h => h) (Or.inl ⟨by rfl, fun wS hSw => by (try dsimp only at hSw); go_simp⟩) hHeld ?_
      try simp only [Act.put, List.setIfInBounds_toArray, List.set_cons_zero, List.set_cons_succ]
      refine wpAnyH_take (i := 18) (v := .slice (some ⟨b, o, none⟩) xs.length c) (get_ops _ _ _ rfl) (by kernel_rfl) (by kernel_rfl) (by kernel_rfl) (fun _ _ _ h => h) (Or.inl ⟨by rfl, fun wS hSw => by (try dsimp only at hSw); go_simp⟩) hHeld ?_
      try simp only [Act.put, List.setIfInBounds_toArray, List.set_cons_zero, List.set_cons_succ]
      refine wpAnyH_take (i := 19) (v := .int .i64 i) (get_ops _ _ _ rfl) (by kernel_rfl) (by kernel_rfl) (by kernel_rfl) (fun _ _ _ h => h) (Or.inl ⟨by rfl, fun wS hSw => by (try dsimp only at hSw); go_simp⟩) hHeld ?_
      try simp only [Act.put, List.setIfInBounds_toArray, List.set_cons_zero, List.set_cons_succ]
      refine wpAnyH_take (i := 20) (v := .int .i64 j) (get_ops _ _ _ rfl) (by kernel_rfl) (by kernel_rfl) (by kernel_rfl) (fun _ _ _ h => h) (Or.inl ⟨by rfl, fun wS hSw => by (try dsimp only at hSw); go_simp; (try rw [S2.wrap_i64_id _ (by omega) (by omega)]); (try exact z3); (try omega)⟩) hHeld ?_
      try simp only [Act.put, List.setIfInBounds_toArray, List.set_cons_zero, List.set_cons_succ]
      refine wpAnyH_take (i := 21) (v := .pointer (some ⟨b, o + j * 11, none⟩)) (get_ops _ _ _ rfl) (by kernel_rfl) (by kernel_rfl) (by kernel_rfl) (fun _ _ _ h => h) (Or.inl ⟨by rfl, fun wS hSw => by (try dsimp only at hSw); go_simp⟩) hHeld ?_
      try simp only [Act.put, List.setIfInBounds_toArray, List.set_cons_zero, List.set_cons_succ]
      refine wpAnyH_take (i := 22) (v := (.agg (gD z).toArray)) (get_ops _ _ _ rfl) (by kernel_rfl) (by kernel_rfl) (by kernel_rfl) (fun _ _ _ h => h) (Or.inl ⟨by rfl, fun wS hSw => by (try dsimp only at hSw); exact exec_load 51 _ rfl ⟨b, o + j * 11, none⟩ (by go_simp) _ (load_due hSw.2.2)⟩) hHeld ?_
      try simp only [Act.put, List.setIfInBounds_toArray, List.set_cons_zero, List.set_cons_succ]
      refine wpAnyH_take (i := 23) (v := .slice (some ⟨b, o, none⟩) xs.length c) (get_ops _ _ _ rfl) (by kernel_rfl) (by kernel_rfl) (by kernel_rfl) (fun _ _ _ h => h) (Or.inl ⟨by rfl, fun wS hSw => by (try dsimp only at hSw); go_simp⟩) hHeld ?_
      try simp only [Act.put, List.setIfInBounds_toArray, List.set_cons_zero, List.set_cons_succ]
      refine wpAnyH_take (i := 24) (v := .int .i64 i) (get_ops _ _ _ rfl) (by kernel_rfl) (by kernel_rfl) (by kernel_rfl) (fun _ _ _ h => h) (Or.inl ⟨by rfl, fun wS hSw => by (try dsimp only at hSw); go_simp⟩) hHeld ?_
      try simp only [Act.put, List.setIfInBounds_toArray, List.set_cons_zero, List.set_cons_succ]
      refine wpAnyH_take (i := 25) (v := .pointer (some ⟨b, o + i * 11, none⟩)) (get_ops _ _ _ rfl) (by kernel_rfl) (by kernel_rfl) (by kernel_rfl) (fun _ _ _ h => h) (Or.inl ⟨by rfl, fun wS hSw => by (try dsimp only at hSw); go_simp⟩) hHeld ?_
      try simp only [Act.put, List.setIfInBounds_toArray, List.set_cons_zero, List.set_cons_succ]
      refine wpAnyH_take (i := 26) (v := (.agg (gD x).toArray)) (get_ops _ _ _ rfl) (by kernel_rfl) (by kernel_rfl) (by kernel_rfl) (fun _ _ _ h => h) (Or.inl ⟨by rfl, fun wS hSw => by (try dsimp only at hSw); exact exec_load 51 _ rfl ⟨b, o + i * 11, none⟩ (by go_simp) _ (load_due hSw.1.2)⟩) hHeld ?_
      try simp only [Act.put, List.setIfInBounds_toArray, List.set_cons_zero, List.set_cons_succ]
      refine wpAnyH_ready (rs := [27]) (by kernel_rfl) (by simp) ?_
      refine (AllReadyH.cons (get_ops _ _ _ rfl) (fun K hK => ?_) AllReadyH.nil)
      go_simp
      refine (HCL.out u1).mono ?_
      rintro e u2 ⟨rfl, hb⟩
      have C_u2 : Hid ((b < u2.heap.size ∧ ∀ k v, (gD x)[k]? = some v → u2.cell? ⟨b, o + i * 11 + k, none⟩ = some v)) := Lib.hid (⟨Nat.lt_of_lt_of_le C_u1.out.1 hb.size, fun k u hu => (hb.cell (p := ⟨b, o + i * 11 + k, none⟩) C_u1.out.1).trans (C_u1.out.2 k u hu)⟩)
      have D_u2 : Hid ((b < u2.heap.size ∧ ∀ k v, (gD z)[k]? = some v → u2.cell? ⟨b, o + j * 11 + k, none⟩ = some v)) := Lib.hid (⟨Nat.lt_of_lt_of_le D_u1.out.1 hb.size, fun k u hu => (hb.cell (p := ⟨b, o + j * 11 + k, none⟩) D_u1.out.1).trans (D_u1.out.2 k u hu)⟩)
      have B_u2 : Hid (Below w.heap.size w u2) := Lib.hid (stepB B_u1.out hb)
      clear C_u1 D_u1 B_u1
      clear hHeld hb
      go_wp2_with fail
      refine hK.out _ _ ⟨C_u2.out, D_u2.out⟩ (fun hHeld => ?_)
      clear hK K
      try simp only [Act.put, List.setIfInBounds_toArray, List.set_cons_zero, List.set_cons_succ]
      refine wpAnyH_take (i := 28) (v := .bool (!bE)) (get_ops _ _ _ rfl) (by kernel_rfl) (by kernel_rfl) (by kernel_rfl) (fun _ _ _ h => h) (Or.inl ⟨by rfl, fun wS hSw => by (try dsimp only at hSw); go_simp⟩) hHeld ?_
      try simp only [Act.put, List.setIfInBounds_toArray, List.set_cons_zero, List.set_cons_succ]
      refine wpAnyH_take (i := 29) (v := .bool (!bE)) (get_ops _ _ _ rfl) (by kernel_rfl) (by kernel_rfl) (by kernel_rfl) (fun _ _ _ h => h) (Or.inl ⟨by rfl, fun wS hSw => by (try dsimp only at hSw); go_simp⟩) hHeld ?_
      try simp only [Act.put, List.setIfInBounds_toArray, List.set_cons_zero, List.set_cons_succ]
      refine wpAnyH_take (i := 30) (v := .bool (!bE)) (get_ops _ _ _ rfl) (by kernel_rfl) (by kernel_rfl) (by kernel_rfl) (fun _ _ _ h => h) (Or.inl ⟨by rfl, fun wS hSw => by (try dsimp only at hSw); go_simp⟩) hHeld ?_
      try simp only [Act.put, List.setIfInBounds_toArray, List.set_cons_zero, List.set_cons_succ]
      refine wpAnyH_done (by kernel_rfl) ?_ _
      cases bE with
      | false =>
        have HB := Lib.hid (not_valid HX.out (fun hg => by have h9 := hg.2.1 j z.d HZM.out.2 HZM.out.1; rw [HBB.out] at h9; cases h9))
        go_wp2_with fail
        go_ret
        exact ⟨false, rfl, HB.out, B_u2.out⟩
      | true =>
        have HBE : Hid (∀ j y, i = j + 1 → (xs.map DE.d)[j]? = some y → befR y x.d = true) := Lib.hid (fun q y hq hy => (by
          have hqj : q = j := (by have := HZM.out.2; omega)
          rw [hqj, HZM.out.1] at hy
          rw [← Option.some.inj hy]; exact HBB.out))
        go_wp2_with fail
        go_loopg [4] i (fun g v wx => ∃ (k : Nat), k + g = i ∧ v = .int .i64 k ∧ (∀ q y, q < k → (xs.map DE.d)[q]? = some y → y.cl ≠ x.d.cl) ∧ Below w.heap.size w wx)
        case atStart => exact ⟨0, by omega, rfl, (fun q y h => absurd h (by omega)), B_u2.out⟩
        case round =>
          obtain ⟨k, hkg, rfl, hne, hb0⟩ := hrel
          have HNE := Lib.hid hne
          have B_x := Lib.hid hb0
          have HK2 := Lib.hid hkg
          clear hne hb0
          cases gk with
          | zero =>
            have hki : k = i := by omega
            have HNF : Hid (∀ q y, q < i → (xs.map DE.d)[q]? = some y → y.cl ≠ x.d.cl) := Lib.hid (by rw [← hki]; exact HNE.out)
            have e5 : decide ((k : Int) < (i : Int)) = false := decide_eq_false (by omega)
            have e5' : decide (k < i) = false := decide_eq_false (by omega)
            clear hkg hki
            go_wp2_with fail
            go_roundg gko
            case measure => omega
            case rel => exact ⟨i + 1, by have := HK.out; omega, by go_num, HGT.out.succ HX.out ⟨HT.out, HBE.out, HNF.out⟩, B_x.out⟩
          | succ gk2 =>
            have e5 : decide ((k : Int) < (i : Int)) = true := decide_eq_true (by omega)
            have e5' : decide (k < i) = true := decide_eq_true (by omega)
            obtain ⟨y, hy⟩ : ∃ y, xs[k]? = some y := ⟨_, List.getElem?_eq_getElem (by omega)⟩
            obtain ⟨b1, o1, e6, _, hc1, _⟩ := (HS.out.step B_x.out).at_ hy
            obtain ⟨b2, o2, e7, _, hc2, _⟩ := (HS.out.step B_x.out).at_ HXX.out
            have hym : (xs.map DE.d)[k]? = some y.d := by rw [List.getElem?_map, hy]; rfl
            have HY := Lib.hid hym
            simp only [Option.some.injEq, Addr.mk.injEq, and_true] at e6 e7
            obtain ⟨rfl, rfl⟩ := e6
            obtain ⟨rfl, rfl⟩ := e7
            have d5 : wr.cell? ⟨b, o + k * 11, none⟩ = some (.string y.d.cl) := by have := hc1 0 _ rfl; simpa using this
            have d6 : wr.cell? ⟨b, o + i * 11, none⟩ = some (.string x.d.cl) := by have := hc2 0 _ rfl; simpa using this
            have k1 : (0 : Int) ≤ (k : Int) := by omega
            have k2 : (k : Int) < (xs.length : Int) := by omega
            have k3 : k ≤ 100000 := by omega
            have q0 := str_eqb y.d.cl x.d.cl
            clear hc1 hc2 hy hym hkg
            by_cases he : y.d.cl = x.d.cl
            · have q9 : decide (y.d.cl = x.d.cl) = true := decide_eq_true he
              rw [q9] at q0
              have HB := Lib.hid (not_valid HX.out (fun hg => hg.2.2 k y.d (by have := HK2.out; omega) HY.out he))
              clear he
              go_wp2_with fail
              go_quiet (fail)
              go_wp2
              go_ret
              exact ⟨false, rfl, HB.out, stepB B_x.out (below_drewN _ _)⟩
            · have q9 : decide (y.d.cl = x.d.cl) = false := decide_eq_false he
              rw [q9] at q0
              have HHE := Lib.hid he
              clear he
              go_wp2_with fail
              go_quiet (fail)
              go_wp2_with fail
              go_roundg gk2
              case measure => omega
              case rel => exact ⟨k + 1, by have := HK2.out; omega, by go_num, (fun q z hq hz => by
                rcases Nat.lt_succ_iff_lt_or_eq.1 hq with h' | rfl
                · exact HNE.out q z h' hz
                · rw [HY.out] at hz; rw [← Option.some.inj hz]; exact HHE.out), stepB B_x.out (below_drewN _ _)⟩
end Go.Proofs.YtgnbiicfabldbaaDoor
