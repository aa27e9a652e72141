/-
  What before and Valid of brokerref18, and valid of brokerlaw18, answer. Conditions: the lists read as data; their lengths fit an int.
  What valid of brokerlaw18 answers, and the walk of WillNext. Conditions: the list reads as data; its texts and lists fit a machine; the library's bound on short texts holds a number.
  What Same and Take of brokerref18 answer. Conditions: the lists read as data; few wills, with few properties.
  The walk of WillTakes. Conditions: the list reads as data; its texts and lists fit a machine; the library's bound on short texts holds a number.
  What Cancel of brokerref18 answers, and the walk of WillCancels. Conditions: the list reads as data; its texts and lists fit a machine; the library's bound on short texts holds a number.
  The walk of WillCancels. Conditions: the list reads as data; its texts and lists fit a machine; the library's bound on short texts holds a number.
  What Arm of brokerref18 answers. Conditions: the list and the will read as data; few wills; the instants are not beyond the largest one.
  The walk of WillArms. Conditions: the list and the will read as data; their texts and lists fit a machine; the library's bound on short texts holds a number.
  The walk of WillRuns. Conditions: the operations read as data; their texts and lists fit a machine; the library's bound on short texts holds a number.
  What has of brokerlaw18 answers, and wills in lists as plain data. Conditions: the list and the will read as data; their texts and lists fit a machine; the library's bound on short texts holds a number.
  The walk of WillOnce. Conditions: the list and the will read as data; their texts and lists fit a machine; the library's bound on short texts holds a number.
-/
import Derived.Test.YtoakhkiiefiebabDoorDh
namespace Go.Proofs.YtoakhkiiefiebabDoor
open Go.RowKit
open S2 (BK Put)

set_option maxRecDepth 20000 in
set_option maxHeartbeats 4000000 in
theorem before_any (x y : DE) (w : World) : Calls Tryd.prog 23 #[dV x, dV y] w fun e w' => e = .returned (.bool (befR x.d y.d)) ∧ Below w.heap.size w w' := by
  obtain ⟨R, hR⟩ : ∃ R, befR x.d y.d = R := ⟨_, rfl⟩
  rw [hR]
  have HR : Hid ((decide (x.d.tm < y.d.tm) || (decide (x.d.tm = y.d.tm) && ltS x.d.cl y.d.cl)) = R) := Lib.hid hR
  have hlt := lt_data x.d.cl y.d.cl
  obtain ⟨bl, hbl⟩ : ∃ b, ltS x.d.cl y.d.cl = b := ⟨_, rfl⟩
  rw [hbl] at hlt HR
  clear hR hbl
  unfold dV
  go_enter Tryd.func23, Tryd.ntmps23
  go_upto_region 1 with fail
  refine name_world (C := fun w1 => Code.wp _ _ _ _ w1) ((w.alloc (.cells (gD x).toArray 45)).alloc (.cells (gD y).toArray 45)) ?_
  intro w1 hw1
  obtain ⟨t1, t2, hs0, hB0⟩ := S2.two_laid (v1 := gD x) (v2 := gD y) hw1
  have d0 := t1.cell 0 rfl
  have d1 := t1.cell 1 rfl
  have e0 := t2.cell 0 rfl
  have e1 := t2.cell 1 rfl
  have B_w1 := Lib.hid hB0
  clear hw1 t1 t2 hs0 hB0
  by_cases h1 : x.d.tm < y.d.tm
  · have q1 : decide (x.d.tm < y.d.tm) = true := decide_eq_true h1
    obtain rfl : R = true := by rw [← HR.out, q1]; rfl
    clear h1 HR
    go_wp2
    go_ret
    exact ⟨rfl, B_w1.out⟩
  have q1 : decide (x.d.tm < y.d.tm) = false := decide_eq_false h1
  by_cases h2 : x.d.tm = y.d.tm
  · have q2 : (x.d.tm == y.d.tm) = true := by simp [h2]
    obtain rfl : R = bl := by rw [← HR.out, q1, decide_eq_true h2]; simp
    clear h1 h2 HR
    go_wp2
    go_ret
    exact ⟨rfl, B_w1.out⟩
  · have q2 : (x.d.tm == y.d.tm) = false := by simp [h2]
    obtain rfl : R = false := by rw [← HR.out, q1, decide_eq_false h2]; simp
    clear h1 h2 HR
    go_wp2
    go_ret
    exact ⟨rfl, B_w1.out⟩

/-- a will of the list is in its place -/
def GoodAt (l : List Du) (i : Nat) (x : Du) : Prop := (0 ≤ x.tm ∧ x.tm ≤ 1099511627776) ∧ (∀ j y, i = j + 1 → l[j]? = some y → befR y x = true) ∧ ∀ k y, k < i → l[k]? = some y → y.cl ≠ x.cl
/-- the list is valid -/
def ValidD (l : List Du) : Prop := ∀ i x, l[i]? = some x → GoodAt l i x
def GoodTo (l : List Du) (n : Nat) : Prop := ∀ i x, i < n → l[i]? = some x → GoodAt l i x
theorem GoodTo.succ {l : List Du} {n : Nat} {x : Du} (h : GoodTo l n) (hx : l[n]? = some x) (hg : GoodAt l n x) : GoodTo l (n + 1) := fun j y hj hy => by
  rcases Nat.lt_succ_iff_lt_or_eq.1 hj with h' | rfl
  · exact h j y h' hy
  · rw [hx] at hy; rw [← Option.some.inj hy]; exact hg
/-- whether a list is valid, that a call answers -/
def RetV (l : List Du) (W : World) (e : Ending) (w' : World) : Prop := ∃ b, e = .returned (.bool b) ∧ (b = true ↔ ValidD l) ∧ Below W.heap.size W w'
theorem not_valid {l : List Du} {i : Nat} {x : Du} (hx : l[i]? = some x) (h : ¬ GoodAt l i x) : (false = true ↔ ValidD l) := ⟨(fun e => by cases e), fun hv => absurd (hv i x hx) h⟩

set_option maxRecDepth 20000 in
set_option maxHeartbeats 4000000 in
theorem rValid_any (A : Option Addr) (c : Nat) (xs : List DE) (w : World) (hsl : DI w w.heap.size A xs) (hn : xs.length ≤ 100000) :
    Calls Tryd.prog 13 #[.slice A xs.length c] w (RetV (xs.map DE.d) w) := by
  have HS := Lib.hid hsl
  have HBF := Lib.hid (fun x y w1 => before_any x y w1)
  clear hsl
  go_enter Tryd.func13, Tryd.ntmps13
  go_wp2_with fail
  go_loopg [3] xs.length (fun g v wr => ∃ (i : Nat), i + g = xs.length ∧ v = .int .i64 i ∧ GoodTo (xs.map DE.d) i ∧ Below w.heap.size w wr)
  case atStart => exact ⟨0, by omega, rfl, (fun j x h => absurd h (by omega)), Below.refl _ _⟩
  case round =>
    obtain ⟨i, hkg, rfl, hgt, hb0⟩ := hrel
    have HGT := Lib.hid hgt
    have B_wr := Lib.hid hb0
    have HK := Lib.hid hkg
    clear hgt hb0
    cases gk with
    | zero =>
      obtain rfl : i = xs.length := by omega
      have HV : Hid (ValidD (xs.map DE.d)) := Lib.hid (fun j x hx => HGT.out j x (by have := (List.getElem?_eq_some_iff.1 hx).1; rwa [List.length_map] at this) hx)
      clear hkg
      go_wp2
      go_ret
      exact ⟨true, rfl, ⟨fun _ => HV.out, fun _ => rfl⟩, B_wr.out⟩
    | succ gk =>
      have hlt : i < xs.length := by omega
      have e3 : decide ((i : Int) < (xs.length : Int)) = true := decide_eq_true (by omega)
      obtain ⟨x, hx⟩ : ∃ x, xs[i]? = some x := ⟨_, List.getElem?_eq_getElem hlt⟩
      obtain ⟨b, o, hA, hbB, hc, _⟩ := (HS.out.step B_wr.out).at_ hx
      have hxm : (xs.map DE.d)[i]? = some x.d := by rw [List.getElem?_map, hx]; rfl
      have HX := Lib.hid hxm
      have d1 : wr.cell? ⟨b, o + i * 11 + 1, none⟩ = some (.int .i64 x.d.tm) := hc 1 _ rfl
      have C_wr : Hid (b < wr.heap.size ∧ ∀ k v, (gD x)[k]? = some v → wr.cell? ⟨b, o + i * 11 + k, none⟩ = some v) := Lib.hid ⟨hbB, hc⟩
      have j1 : (0 : Int) ≤ (i : Int) := by omega
      have j2 : (i : Int) < (xs.length : Int) := by omega
      have hA0 := Lib.hid hA
      clear hc hbB hxm hkg
      by_cases h1 : x.d.tm < 0
      case pos =>
        have q1 : decide (x.d.tm < 0) = true := decide_eq_true h1
        have HB := Lib.hid (not_valid HX.out (fun hg => by have := hg.1.1; omega))
        subst hA
        clear h1
        go_wp2_with fail
        go_quiet (fail)
        go_wp2
        go_ret
        exact ⟨false, rfl, HB.out, stepB B_wr.out (below_drewN _ _)⟩
      have q1 : decide (x.d.tm < 0) = false := decide_eq_false h1
      by_cases h2 : 1099511627776 < x.d.tm
      case pos =>
        have q2 : decide ((1099511627776 : Int) < x.d.tm) = true := decide_eq_true h2
        have HB := Lib.hid (not_valid HX.out (fun hg => by have := hg.1.2; omega))
        subst hA
        clear h1 h2
        go_wp2_with fail
        go_quiet (fail)
        go_wp2
        go_ret
        exact ⟨false, rfl, HB.out, stepB B_wr.out (below_drewN _ _)⟩
      have q2 : decide ((1099511627776 : Int) < x.d.tm) = false := decide_eq_false h2
      have HT : Hid (0 ≤ x.d.tm ∧ x.d.tm ≤ 1099511627776) := Lib.hid (by omega)
      clear h1 h2
      have HXX := Lib.hid hx
      obtain ⟨gko, rfl⟩ : ∃ g, g = gk := ⟨_, rfl⟩
      by_cases hi0 : i = 0
      · have z1 : decide ((0 : Int) < (i : Int)) = false := decide_eq_false (by omega)
        have z2 : decide (0 < i) = false := decide_eq_false (by omega)
        have HBE : Hid (∀ j y, i = j + 1 → (xs.map DE.d)[j]? = some y → befR y x.d = true) := Lib.hid (fun j y h => by omega)
        subst hA
        clear hx hi0
        go_wp2_with fail
        have HBD : Hid (∀ n, Below w.heap.size w (wr.drewN n)) := Lib.hid (fun n => stepB B_wr.out (below_drewN _ _))
        go_quiet (fail)
        go_wp2_with fail
        go_loopg [4] i (fun g v wx => ∃ (k : Nat), k + g = i ∧ v = .int .i64 k ∧ (∀ q y, q < k → (xs.map DE.d)[q]? = some y → y.cl ≠ x.d.cl) ∧ Below w.heap.size w wx)
        case atStart => exact ⟨0, by omega, rfl, (fun q y h => absurd h (by omega)), HBD.out _⟩
        case round =>
          obtain ⟨k, hkg, rfl, hne, hb0⟩ := hrel
          have HNE := Lib.hid hne
          have B_x := Lib.hid hb0
          have HK2 := Lib.hid hkg
          clear hne hb0
          cases gk with
          | zero =>
            have hki : k = i := by omega
            have HNF : Hid (∀ q y, q < i → (xs.map DE.d)[q]? = some y → y.cl ≠ x.d.cl) := Lib.hid (by rw [← hki]; exact HNE.out)
            have e5 : decide ((k : Int) < (i : Int)) = false := decide_eq_false (by omega)
            have e5' : decide (k < i) = false := decide_eq_false (by omega)
            clear hkg hki
            go_wp2_with fail
            go_roundg gko
            case measure => omega
            case rel => exact ⟨i + 1, by have := HK.out; omega, by go_num, HGT.out.succ HX.out ⟨HT.out, HBE.out, HNF.out⟩, B_x.out⟩
          | succ gk2 =>
            have e5 : decide ((k : Int) < (i : Int)) = true := decide_eq_true (by omega)
            have e5' : decide (k < i) = true := decide_eq_true (by omega)
            obtain ⟨y, hy⟩ : ∃ y, xs[k]? = some y := ⟨_, List.getElem?_eq_getElem (by omega)⟩
            obtain ⟨b1, o1, e6, _, hc1, _⟩ := (HS.out.step B_x.out).at_ hy
            obtain ⟨b2, o2, e7, _, hc2, _⟩ := (HS.out.step B_x.out).at_ HXX.out
            have hym : (xs.map DE.d)[k]? = some y.d := by rw [List.getElem?_map, hy]; rfl
            have HY := Lib.hid hym
            simp only [Option.some.injEq, Addr.mk.injEq, and_true] at e6 e7
            obtain ⟨rfl, rfl⟩ := e6
            obtain ⟨rfl, rfl⟩ := e7
            have d5 : wr.cell? ⟨b, o + k * 11, none⟩ = some (.string y.d.cl) := by have := hc1 0 _ rfl; simpa using this
            have d6 : wr.cell? ⟨b, o + i * 11, none⟩ = some (.string x.d.cl) := by have := hc2 0 _ rfl; simpa using this
            have k1 : (0 : Int) ≤ (k : Int) := by omega
            have k2 : (k : Int) < (xs.length : Int) := by omega
            have k3 : k ≤ 100000 := by omega
            have q0 := str_eqb y.d.cl x.d.cl
            clear hc1 hc2 hy hym hkg
            by_cases he : y.d.cl = x.d.cl
            · have q9 : decide (y.d.cl = x.d.cl) = true := decide_eq_true he
              rw [q9] at q0
              have HB := Lib.hid (not_valid HX.out (fun hg => hg.2.2 k y.d (by have := HK2.out; omega) HY.out he))
              clear he
              go_wp2_with fail
              go_quiet (fail)
              go_wp2
              go_ret
              exact ⟨false, rfl, HB.out, stepB B_x.out (below_drewN _ _)⟩
            · have q9 : decide (y.d.cl = x.d.cl) = false := decide_eq_false he
              rw [q9] at q0
              have HHE := Lib.hid he
              clear he
              go_wp2_with fail
              go_quiet (fail)
              go_wp2_with fail
              go_roundg gk2
              case measure => omega
              case rel => exact ⟨k + 1, by have := HK2.out; omega, by go_num, (fun q z hq hz => by
                rcases Nat.lt_succ_iff_lt_or_eq.1 hq with h' | rfl
                · exact HNE.out q z h' hz
                · rw [HY.out] at hz; rw [← Option.some.inj hz]; exact HHE.out), stepB B_x.out (below_drewN _ _)⟩
      obtain ⟨j, hj⟩ : ∃ j, i = j + 1 := ⟨i - 1, by omega⟩
      obtain ⟨z, hz⟩ : ∃ z, xs[j]? = some z := ⟨_, List.getElem?_eq_getElem (by omega)⟩
      obtain ⟨b3, o3, e8, hb3, hc3, _⟩ := (HS.out.step B_wr.out).at_ hz
      rw [hA] at e8
      simp only [Option.some.injEq, Addr.mk.injEq, and_true] at e8
      obtain ⟨rfl, rfl⟩ := e8
      have D_wr : Hid (b < wr.heap.size ∧ ∀ k v, (gD z)[k]? = some v → wr.cell? ⟨b, o + j * 11 + k, none⟩ = some v) := Lib.hid ⟨hb3, hc3⟩
      have hzm : (xs.map DE.d)[j]? = some z.d := by rw [List.getElem?_map, hz]; rfl
      have HZM := Lib.hid (And.intro hzm hj)
      have z1 : decide ((0 : Int) < (i : Int)) = true := decide_eq_true (by omega)
      have z2 : decide (0 < i) = true := decide_eq_true (by omega)
      have z3 : (i : Int) - 1 = (j : Int) := by omega
      have i1 : (0 : Int) ≤ (j : Int) := by omega
      have i2 : (j : Int) < (xs.length : Int) := by omega
      have i3 : i ≤ 100000 := by omega
      have i4 : j ≤ 100000 := by omega
      obtain ⟨bE, hbE⟩ : ∃ q, befR z.d x.d = q := ⟨_, rfl⟩
      have hcal := HBF.out z x
      rw [hbE] at hcal
      have HCL := Lib.hid hcal
      have HBB := Lib.hid hbE
      unfold dV at HCL
      subst hA
      clear hx hi0 hj hz hb3 hc3 hzm hbE hcal
      go_upto_region 4 with fail
      clear d1
      obtain ⟨u1, hu1⟩ : ∃ u1, u1 = World.drew wr := ⟨_, rfl⟩
      have hbD : Below wr.heap.size wr u1 := by rw [hu1]; exact (Below.refl _ _).drew
      have C_u1 : Hid ((b < u1.heap.size ∧ ∀ k v, (gD x)[k]? = some v → u1.cell? ⟨b, o + i * 11 + k, none⟩ = some v)) := Lib.hid (⟨Nat.lt_of_lt_of_le C_wr.out.1 hbD.size, fun k u hu => (hbD.cell (p := ⟨b, o + i * 11 + k, none⟩) C_wr.out.1).trans (C_wr.out.2 k u hu)⟩)
      have D_u1 : Hid ((b < u1.heap.size ∧ ∀ k v, (gD z)[k]? = some v → u1.cell? ⟨b, o + j * 11 + k, none⟩ = some v)) := Lib.hid (⟨Nat.lt_of_lt_of_le D_wr.out.1 hbD.size, fun k u hu => (hbD.cell (p := ⟨b, o + j * 11 + k, none⟩) D_wr.out.1).trans (D_wr.out.2 k u hu)⟩)
      have B_u1 : Hid (Below w.heap.size w u1) := Lib.hid (stepB B_wr.out hbD)
      clear C_wr D_wr B_wr
      have hbd : (fun w' => (b < w'.heap.size ∧ ∀ k v, (gD x)[k]? = some v → w'.cell? ⟨b, o + i * 11 + k, none⟩ = some v) ∧ (b < w'.heap.size ∧ ∀ k v, (gD z)[k]? = some v → w'.cell? ⟨b, o + j * 11 + k, none⟩ = some v)) (World.drew wr) := by rw [← hu1]; exact ⟨C_u1.out, D_u1.out⟩
      have hSD : (fun w' => (b < w'.heap.size ∧ ∀ k v, (gD x)[k]? = some v → w'.cell? ⟨b, o + i * 11 + k, none⟩ = some v) ∧ (b < w'.heap.size ∧ ∀ k v, (gD z)[k]? = some v → w'.cell? ⟨b, o + j * 11 + k, none⟩ = some v)) u1 := ⟨C_u1.out, D_u1.out⟩
      have HWD := Lib.hid hu1
      clear hu1 hbD
      refine wp_region_held_drew (S := fun w' => (b < w'.heap.size ∧ ∀ k v, (gD x)[k]? = some v → w'.cell? ⟨b, o + i * 11 + k, none⟩ = some v) ∧ (b < w'.heap.size ∧ ∀ k v, (gD z)[k]? = some v → w'.cell? ⟨b, o + j * 11 + k, none⟩ = some v)) (by kernel_rfl) hbd (fun hHeld => ?_)
      rw [← HWD.out]
      clear hHeld
      have hHeld := hSD
      clear hSD hbd HWD
      refine wpAnyH_take (i := 0) (v := .slice (some ⟨b, o, none⟩) xs.length c) (get_ops _ _ _ rfl) (by kernel_rfl) (by kernel_rfl) (by kernel_rfl) (fun _ _ _ h => h) (Or.inl ⟨by rfl, fun wS hSw => by (try dsimp only at hSw); go_simp⟩) hHeld ?_
      try simp only [Act.put, List.setIfInBounds_toArray, List.set_cons_zero, List.set_cons_succ]
      refine wpAnyH_take (i := 1) (v := .int .i64 i) (get_ops _ _ _ rfl) (by kernel_rfl) (by kernel_rfl) (by kernel_rfl) (fun _ _ _ h => h) (Or.inl ⟨by rfl, fun wS hSw => by (try dsimp only at hSw); go_simp⟩) hHeld ?_
      try simp only [Act.put, List.setIfInBounds_toArray, List.set_cons_zero, List.set_cons_succ]
      refine wpAnyH_take (i := 2) (v := .pointer (some ⟨b, o + i * 11, none⟩)) (get_ops _ _ _ rfl) (by kernel_rfl) (by kernel_rfl) (by kernel_rfl) (fun _ _ _ h => h) (Or.inl ⟨by rfl, fun wS hSw => by (try dsimp only at hSw); go_simp⟩) hHeld ?_
      try simp only [Act.put, List.setIfInBounds_toArray, List.set_cons_zero, List.set_cons_succ]
      refine wpAnyH_take (i := 3) (v := .pointer (some ⟨b, o + i * 11 + 1, none⟩)) (get_ops _ _ _ rfl) (by kernel_rfl) (by kernel_rfl) (by kernel_rfl) (fun _ _ _ h => h) (Or.inl ⟨by rfl, fun wS hSw => by (try dsimp only at hSw); go_simp⟩) hHeld ?_
      try simp only [Act.put, List.setIfInBounds_toArray, List.set_cons_zero, List.set_cons_succ]
      refine wpAnyH_take (i := 4) (v := .int .i64 x.d.tm) (get_ops _ _ _ rfl) (by kernel_rfl) (by kernel_rfl) (by kernel_rfl) (fun _ _ _ h => h) (Or.inl ⟨by rfl, fun wS hSw => by (try dsimp only at hSw); have cS : wS.cell? ⟨b, o + i * 11 + 1, none⟩ = some (.int .i64 x.d.tm) := hSw.1.2 1 _ rfl; clear hSw; go_simp⟩) hHeld ?_
      try simp only [Act.put, List.setIfInBounds_toArray, List.set_cons_zero, List.set_cons_succ]
      refine wpAnyH_take (i := 5) (v := .bool false) (get_ops _ _ _ rfl) (by kernel_rfl) (by kernel_rfl) (by kernel_rfl) (fun _ _ _ h => h) (Or.inl ⟨by rfl, fun wS hSw => by (try dsimp only at hSw); go_simp⟩) hHeld ?_
      try simp only [Act.put, List.setIfInBounds_toArray, List.set_cons_zero, List.set_cons_succ]
      refine wpAnyH_take (i := 6) (v := .bool false) (get_ops _ _ _ rfl) (by kernel_rfl) (by kernel_rfl) (by kernel_rfl) (fun _ _ _ h => h) (Or.inl ⟨by rfl, fun wS hSw => by (try dsimp only at hSw); go_simp⟩) hHeld ?_
      try simp only [Act.put, List.setIfInBounds_toArray, List.set_cons_zero, List.set_cons_succ]
      refine wpAnyH_take (i := 7) (v := .slice (some ⟨b, o, none⟩) xs.length c) (get_ops _ _ _ rfl) (by kernel_rfl) (by kernel_rfl) (by kernel_rfl) (fun _ _ _ h => h) (Or.inl ⟨by rfl, fun wS hSw => by (try dsimp only at hSw); go_simp⟩) hHeld ?_
      try simp only [Act.put, List.setIfInBounds_toArray, List.set_cons_zero, List.set_cons_succ]
      refine wpAnyH_take (i := 8) (v := .int .i64 i) (get_ops _ _ _ rfl) (by kernel_rfl) (by kernel_rfl) (by kernel_rfl) (fun _ _ _ h => h) (Or.inl ⟨by rfl, fun wS hSw => by (try dsimp only at hSw); go_simp⟩) hHeld ?_
      try simp only [Act.put, List.setIfInBounds_toArray, List.set_cons_zero, List.set_cons_succ]
      refine wpAnyH_take (i := 9) (v := .pointer (some ⟨b, o + i * 11, none⟩)) (get_ops _ _ _ rfl) (by kernel_rfl) (by kernel_rfl) (by kernel_rfl) (fun _ _ _ h => h) (Or.inl ⟨by rfl, fun wS hSw => by (try dsimp only at hSw); go_simp⟩) hHeld ?_
      try simp only [Act.put, List.setIfInBounds_toArray, List.set_cons_zero, List.set_cons_succ]
      refine wpAnyH_take (i := 10) (v := .pointer (some ⟨b, o + i * 11 + 1, none⟩)) (get_ops _ _ _ rfl) (by kernel_rfl) (by kernel_rfl) (by kernel_rfl) (fun _ _ _ h => h) (Or.inl ⟨by rfl, fun wS hSw => by (try dsimp only at hSw); go_simp⟩) hHeld ?_
      try simp only [Act.put, List.setIfInBounds_toArray, List.set_cons_zero, List.set_cons_succ]
      refine wpAnyH_take (i := 11) (v := .int .i64 x.d.tm) (get_ops _ _ _ rfl) (by kernel_rfl) (by kernel_rfl) (by kernel_rfl) (fun _ _ _ h => h) (Or.inl ⟨by rfl, fun wS hSw => by (try dsimp only at hSw); have cS : wS.cell? ⟨b, o + i * 11 + 1, none⟩ = some (.int .i64 x.d.tm) := hSw.1.2 1 _ rfl; clear hSw; go_simp⟩) hHeld ?_
      try simp only [Act.put, List.setIfInBounds_toArray, List.set_cons_zero, List.set_cons_succ]
      refine wpAnyH_take (i := 12) (v := .bool false) (get_ops _ _ _ rfl) (by kernel_rfl) (by kernel_rfl) (by kernel_rfl) (fun _ _ _ h => h) (Or.inl ⟨by rfl, fun wS hSw => by (try dsimp only at hSw); go_simp⟩) hHeld ?_
      try simp only [Act.put, List.setIfInBounds_toArray, List.set_cons_zero, List.set_cons_succ]
      refine wpAnyH_take (i := 13) (v := .bool false) (get_ops _ _ _ rfl) (by kernel_rfl) (by kernel_rfl) (by kernel_rfl) (fun _ _ _ h => h) (Or.inl ⟨by rfl, fun wS hSw => by (try dsimp only at hSw); go_simp⟩) hHeld ?_
      try simp only [Act.put, List.setIfInBounds_toArray, List.set_cons_zero, List.set_cons_succ]
      refine wpAnyH_take (i := 14) (v := .bool false) (get_ops _ _ _ rfl) (by kernel_rfl) (by kernel_rfl) (by kernel_rfl) (fun _ _ _ h => h) (Or.inl ⟨by rfl, fun wS hSw => by (try dsimp only at hSw); go_simp⟩) hHeld ?_
      try simp only [Act.put, List.setIfInBounds_toArray, List.set_cons_zero, List.set_cons_succ]
      refine wpAnyH_take (i := 15) (v := .int .i64 i) (get_ops _ _ _ rfl) (by kernel_rfl) (by kernel_rfl) (by kernel_rfl) (fun _ _ _ h => h) (Or.inl ⟨by rfl, fun wS hSw => by (try dsimp only at hSw); go_simp⟩) hHeld ?_
      try simp only [Act.put, List.setIfInBounds_toArray, List.set_cons_zero, List.set_cons_succ]
      refine wpAnyH_take (i := 16) (v := .bool true) (get_ops _ _ _ rfl) (by kernel_rfl) (by kernel_rfl) (by kernel_rfl) (fun _ _ _ h => h) (Or.inl ⟨by rfl, fun wS hSw => by (try dsimp only at hSw); go_simp⟩) hHeld ?_
      try simp only [Act.put, List.setIfInBounds_toArray, List.set_cons_zero, List.set_cons_succ]
      refine wpAnyH_take (i := 17) (v := .bool true) (get_ops _ _ _ rfl) (by kernel_rfl) (by kernel_rfl) (by kernel_rfl) (fun _ _ _ h => h) (Or.inl ⟨by rfl, fun wS hSw => by (try dsimp only at hSw); go_simp⟩) hHeld ?_
      try simp only [Act.put, List.setIfInBounds_toArray, List.set_cons_zero, List.set_cons_succ]
      refine wpAnyH_take (i := 18) (v := .slice (some ⟨b, o, none⟩) xs.length c) (get_ops _ _ _ rfl) (by kernel_rfl) (by kernel_rfl) (by kernel_rfl) (fun _ _ _ h => h) (Or.inl ⟨by rfl, fun wS hSw => by (try dsimp only at hSw); go_simp⟩) hHeld ?_
      try simp only [Act.put, List.setIfInBounds_toArray, List.set_cons_zero, List.set_cons_succ]
      refine wpAnyH_take (i := 19) (v := .int .i64 i) (get_ops _ _ _ rfl) (by kernel_rfl) (by kernel_rfl) (by kernel_rfl) (fun _ _ _ h => h) (Or.inl ⟨by rfl, fun wS hSw => by (try dsimp only at hSw); go_simp⟩) hHeld ?_
      try simp only [Act.put, List.setIfInBounds_toArray, List.set_cons_zero, List.set_cons_succ]
      refine wpAnyH_take (i := 20) (v := .int .i64 j) (get_ops _ _ _ rfl) (by kernel_rfl) (by kernel_rfl) (by kernel_rfl) (fun _ _ _ h => h) (Or.inl ⟨by rfl, fun wS hSw => by (try dsimp only at hSw); go_simp; (try rw [S2.wrap_i64_id _ (by omega) (by omega)]); (try exact z3); (try omega)⟩) hHeld ?_
      try simp only [Act.put, List.setIfInBounds_toArray, List.set_cons_zero, List.set_cons_succ]
      refine wpAnyH_take (i := 21) (v := .pointer (some ⟨b, o + j * 11, none⟩)) (get_ops _ _ _ rfl) (by kernel_rfl) (by kernel_rfl) (by kernel_rfl) (fun _ _ _ h => h) (Or.inl ⟨by rfl, fun wS hSw => by (try dsimp only at hSw); go_simp⟩) hHeld ?_
      try simp only [Act.put, List.setIfInBounds_toArray, List.set_cons_zero, List.set_cons_succ]
      refine wpAnyH_take (i := 22) (v := (.agg (gD z).toArray)) (get_ops _ _ _ rfl) (by kernel_rfl) (by kernel_rfl) (by kernel_rfl) (fun _ _ _ h => h) (Or.inl ⟨by rfl, fun wS hSw => by (try dsimp only at hSw); exact exec_load 45 _ rfl ⟨b, o + j * 11, none⟩ (by go_simp) _ (load_due hSw.2.2)⟩) hHeld ?_
      try simp only [Act.put, List.setIfInBounds_toArray, List.set_cons_zero, List.set_cons_succ]
      refine wpAnyH_take (i := 23) (v := .slice (some ⟨b, o, none⟩) xs.length c) (get_ops _ _ _ rfl) (by kernel_rfl) (by kernel_rfl) (by kernel_rfl) (fun _ _ _ h => h) (Or.inl ⟨by rfl, fun wS hSw => by (try dsimp only at hSw); go_simp⟩) hHeld ?_
      try simp only [Act.put, List.setIfInBounds_toArray, List.set_cons_zero, List.set_cons_succ]
      refine wpAnyH_take (i := 24) (v := .int .i64 i) (get_ops _ _ _ rfl) (by kernel_rfl) (by kernel_rfl) (by kernel_rfl) (fun _ _ _ h => h) (Or.inl ⟨by rfl, fun wS hSw => by (try dsimp only at hSw); go_simp⟩) hHeld ?_
      try simp only [Act.put, List.setIfInBounds_toArray, List.set_cons_zero, List.set_cons_succ]
      refine wpAnyH_take (i := 25) (v := .pointer (some ⟨b, o + i * 11, none⟩)) (get_ops _ _ _ rfl) (by kernel_rfl) (by kernel_rfl) (by kernel_rfl) (fun _ _ _ h => h) (Or.inl ⟨by rfl, fun wS hSw => by (try dsimp only at hSw); go_simp⟩) hHeld ?_
      try simp only [Act.put, List.setIfInBounds_toArray, List.set_cons_zero, List.set_cons_succ]
      refine wpAnyH_take (i := 26) (v := (.agg (gD x).toArray)) (get_ops _ _ _ rfl) (by kernel_rfl) (by kernel_rfl) (by kernel_rfl) (fun _ _ _ h => h) (Or.inl ⟨by rfl, fun wS hSw => by (try dsimp only at hSw); exact exec_load 45 _ rfl ⟨b, o + i * 11, none⟩ (by go_simp) _ (load_due hSw.1.2)⟩) hHeld ?_
      try simp only [Act.put, List.setIfInBounds_toArray, List.set_cons_zero, List.set_cons_succ]
      refine wpAnyH_ready (rs := [27]) (by kernel_rfl) (by simp) ?_
      refine (AllReadyH.cons (get_ops _ _ _ rfl) (fun K hK => ?_) AllReadyH.nil)
      go_simp
      refine (HCL.out u1).mono ?_
      rintro e u2 ⟨rfl, hb⟩
      have C_u2 : Hid ((b < u2.heap.size ∧ ∀ k v, (gD x)[k]? = some v → u2.cell? ⟨b, o + i * 11 + k, none⟩ = some v)) := Lib.hid (⟨Nat.lt_of_lt_of_le C_u1.out.1 hb.size, fun k u hu => (hb.cell (p := ⟨b, o + i * 11 + k, none⟩) C_u1.out.1).trans (C_u1.out.2 k u hu)⟩)
      have D_u2 : Hid ((b < u2.heap.size ∧ ∀ k v, (gD z)[k]? = some v → u2.cell? ⟨b, o + j * 11 + k, none⟩ = some v)) := Lib.hid (⟨Nat.lt_of_lt_of_le D_u1.out.1 hb.size, fun k u hu => (hb.cell (p := ⟨b, o + j * 11 + k, none⟩) D_u1.out.1).trans (D_u1.out.2 k u hu)⟩)
      have B_u2 : Hid (Below w.heap.size w u2) := Lib.hid (stepB B_u1.out hb)
      clear C_u1 D_u1 B_u1
      clear hHeld hb
      go_wp2_with fail
      refine hK.out _ _ ⟨C_u2.out, D_u2.out⟩ (fun hHeld => ?_)
      clear hK K
      try simp only [Act.put, List.setIfInBounds_toArray, List.set_cons_zero, List.set_cons_succ]
      refine wpAnyH_take (i := 28) (v := .bool (!bE)) (get_ops _ _ _ rfl) (by kernel_rfl) (by kernel_rfl) (by kernel_rfl) (fun _ _ _ h => h) (Or.inl ⟨by rfl, fun wS hSw => by (try dsimp only at hSw); go_simp⟩) hHeld ?_
      try simp only [Act.put, List.setIfInBounds_toArray, List.set_cons_zero, List.set_cons_succ]
      refine wpAnyH_take (i := 29) (v := .bool (!bE)) (get_ops _ _ _ rfl) (by kernel_rfl) (by kernel_rfl) (by kernel_rfl) (fun _ _ _ h => h) (Or.inl ⟨by rfl, fun wS hSw => by (try dsimp only at hSw); go_simp⟩) hHeld ?_
      try simp only [Act.put, List.setIfInBounds_toArray, List.set_cons_zero, List.set_cons_succ]
      refine wpAnyH_take (i := 30) (v := .bool (!bE)) (get_ops _ _ _ rfl) (by kernel_rfl) (by kernel_rfl) (by kernel_rfl) (fun _ _ _ h => h) (Or.inl ⟨by rfl, fun wS hSw => by (try dsimp only at hSw); go_simp⟩) hHeld ?_
      try simp only [Act.put, List.setIfInBounds_toArray, List.set_cons_zero, List.set_cons_succ]
      refine wpAnyH_done (by kernel_rfl) ?_ _
      cases bE with
      | false =>
        have HB := Lib.hid (not_valid HX.out (fun hg => by have h9 := hg.2.1 j z.d HZM.out.2 HZM.out.1; rw [HBB.out] at h9; cases h9))
        go_wp2_with fail
        go_ret
        exact ⟨false, rfl, HB.out, B_u2.out⟩
      | true =>
        have HBE : Hid (∀ j y, i = j + 1 → (xs.map DE.d)[j]? = some y → befR y x.d = true) := Lib.hid (fun q y hq hy => (by
          have hqj : q = j := (by have := HZM.out.2; omega)
          rw [hqj, HZM.out.1] at hy
          rw [← Option.some.inj hy]; exact HBB.out))
        go_wp2_with fail
        go_loopg [4] i (fun g v wx => ∃ (k : Nat), k + g = i ∧ v = .int .i64 k ∧ (∀ q y, q < k → (xs.map DE.d)[q]? = some y → y.cl ≠ x.d.cl) ∧ Below w.heap.size w wx)
        case atStart => exact ⟨0, by omega, rfl, (fun q y h => absurd h (by omega)), B_u2.out⟩
        case round =>
          obtain ⟨k, hkg, rfl, hne, hb0⟩ := hrel
          have HNE := Lib.hid hne
          have B_x := Lib.hid hb0
          have HK2 := Lib.hid hkg
          clear hne hb0
          cases gk with
          | zero =>
            have hki : k = i := by omega
            have HNF : Hid (∀ q y, q < i → (xs.map DE.d)[q]? = some y → y.cl ≠ x.d.cl) := Lib.hid (by rw [← hki]; exact HNE.out)
            have e5 : decide ((k : Int) < (i : Int)) = false := decide_eq_false (by omega)
            have e5' : decide (k < i) = false := decide_eq_false (by omega)
            clear hkg hki
            go_wp2_with fail
            go_roundg gko
            case measure => omega
            case rel => exact ⟨i + 1, by have := HK.out; omega, by go_num, HGT.out.succ HX.out ⟨HT.out, HBE.out, HNF.out⟩, B_x.out⟩
          | succ gk2 =>
            have e5 : decide ((k : Int) < (i : Int)) = true := decide_eq_true (by omega)
            have e5' : decide (k < i) = true := decide_eq_true (by omega)
            obtain ⟨y, hy⟩ : ∃ y, xs[k]? = some y := ⟨_, List.getElem?_eq_getElem (by omega)⟩
            obtain ⟨b1, o1, e6, _, hc1, _⟩ := (HS.out.step B_x.out).at_ hy
            obtain ⟨b2, o2, e7, _, hc2, _⟩ := (HS.out.step B_x.out).at_ HXX.out
            have hym : (xs.map DE.d)[k]? = some y.d := by rw [List.getElem?_map, hy]; rfl
            have HY := Lib.hid hym
            simp only [Option.some.injEq, Addr.mk.injEq, and_true] at e6 e7
            obtain ⟨rfl, rfl⟩ := e6
            obtain ⟨rfl, rfl⟩ := e7
            have d5 : wr.cell? ⟨b, o + k * 11, none⟩ = some (.string y.d.cl) := by have := hc1 0 _ rfl; simpa using this
            have d6 : wr.cell? ⟨b, o + i * 11, none⟩ = some (.string x.d.cl) := by have := hc2 0 _ rfl; simpa using this
            have k1 : (0 : Int) ≤ (k : Int) := by omega
            have k2 : (k : Int) < (xs.length : Int) := by omega
            have k3 : k ≤ 100000 := by omega
            have q0 := str_eqb y.d.cl x.d.cl
            clear hc1 hc2 hy hym hkg
            by_cases he : y.d.cl = x.d.cl
            · have q9 : decide (y.d.cl = x.d.cl) = true := decide_eq_true he
              rw [q9] at q0
              have HB := Lib.hid (not_valid HX.out (fun hg => hg.2.2 k y.d (by have := HK2.out; omega) HY.out he))
              clear he
              go_wp2_with fail
              go_quiet (fail)
              go_wp2
              go_ret
              exact ⟨false, rfl, HB.out, stepB B_x.out (below_drewN _ _)⟩
            · have q9 : decide (y.d.cl = x.d.cl) = false := decide_eq_false he
              rw [q9] at q0
              have HHE := Lib.hid he
              clear he
              go_wp2_with fail
              go_quiet (fail)
              go_wp2_with fail
              go_roundg gk2
              case measure => omega
              case rel => exact ⟨k + 1, by have := HK2.out; omega, by go_num, (fun q z hq hz => by
                rcases Nat.lt_succ_iff_lt_or_eq.1 hq with h' | rfl
                · exact HNE.out q z h' hz
                · rw [HY.out] at hz; rw [← Option.some.inj hz]; exact HHE.out), stepB B_x.out (below_drewN _ _)⟩
end Go.Proofs.YtoakhkiiefiebabDoor
namespace Go.Proofs.YtoakhkiiefiebabDoor
open Go.RowKit
open S2 (BK Put)

/-- whether a list is short and valid, that a call answers -/
def RetLV (l : List Du) (W : World) (e : Ending) (w' : World) : Prop := ∃ b, e = .returned (.bool b) ∧ (b = true ↔ (l.length ≤ 60 ∧ ValidD l)) ∧ Below W.heap.size W w'
set_option maxRecDepth 20000 in
set_option maxHeartbeats 4000000 in
theorem lvalid_any (A : Option Addr) (c : Nat) (xs : List DE) (w : World) (hsl : DI w w.heap.size A xs) :
    Calls Tryd.prog 15 #[.slice A xs.length c] w (RetLV (xs.map DE.d) w) := by
  have HV := Lib.hid (fun w1 h h1 => rValid_any A c xs w1 h h1)
  have HS := Lib.hid hsl
  clear hsl
  by_cases hf : xs.length ≤ 60
  · have q1 : decide ((xs.length : Int) ≤ 60) = true := decide_eq_true (by omega)
    have HF := Lib.hid hf
    clear hf
    go_enter Tryd.func15, Tryd.ntmps15
    go_wp2_with fail
    refine (HV.out w HS.out (by have := HF.out; omega)).mono ?_
    rintro e w2 ⟨b, rfl, hb, hbl⟩
    have HB := Lib.hid (And.intro hb hbl)
    clear hb hbl
    go_wp2
    go_ret
    exact ⟨b, rfl, ⟨fun h => ⟨by rw [List.length_map]; exact HF.out, HB.out.1.1 h⟩, fun h => HB.out.1.2 h.2⟩, HB.out.2⟩
  · have q1 : decide ((xs.length : Int) ≤ 60) = false := decide_eq_false (by omega)
    have HF := Lib.hid hf
    clear hf
    go_enter Tryd.func15, Tryd.ntmps15
    go_wp2
    go_ret
    exact ⟨false, rfl, ⟨(fun h => by cases h), fun h => absurd h.1 (by rw [List.length_map]; exact HF.out)⟩, Below.refl _ _⟩

end Go.Proofs.YtoakhkiiefiebabDoor
namespace Go.Proofs.YtoakhkiiefiebabDoor
open Go.RowKit
open S2 (BK Put)

set_option maxRecDepth 20000 in
set_option maxHeartbeats 4000000 in
theorem rSameD_any (A : Option Addr) (c : Nat) (xs : List DE) (A' : Option Addr) (c' : Nat) (ys : List DE) (w : World) (hx : DI w w.heap.size A xs) (hy : DI w w.heap.size A' ys) (hn : xs.length ≤ 100000) (hp : ∀ x ∈ xs, x.d.m.props.length ≤ 4398046511104) :
    Calls Tryd.prog 7 #[.slice A xs.length c, .slice A' ys.length c'] w fun e w' => e = .returned (.bool (decide (xs.map DE.d = ys.map DE.d))) ∧ Below w.heap.size w w' := by
  have HSM := Lib.hid (fun (a b : Msg) (p p' : Option Addr) (q q' : Nat) (w1 : World) (h1 : PL w1 w1.heap.size p a.props) (h2 : PL w1 w1.heap.size p' b.props) (h3 : a.props.length ≤ 9223372036854775806) => rSame_any a b p p' q q' w1 h1 h2 h3)
  have HX := Lib.hid hx
  have HY := Lib.hid hy
  have HP := Lib.hid hp
  clear hx hy hp
  by_cases hl : xs.length = ys.length
  case neg =>
    have q1 : ((xs.length : Int) != (ys.length : Int)) = true := by simp; omega
    have q1' : (xs.length != ys.length) = true := by simp; omega
    have HV : Hid (decide (xs.map DE.d = ys.map DE.d) = false) := Lib.hid (decide_eq_false (fun e => hl (by have := congrArg List.length e; simpa using this)))
    rw [HV.out]
    clear hl
    go_enter Tryd.func7, Tryd.ntmps7
    go_wp2
    go_ret
    exact ⟨rfl, Below.refl _ _⟩
  have q1 : ((xs.length : Int) != (ys.length : Int)) = false := by simp; omega
  have q1' : (xs.length != ys.length) = false := by simp; omega
  obtain ⟨V, hV⟩ : ∃ V, decide (xs.map DE.d = ys.map DE.d) = V := ⟨_, rfl⟩
  have HV := Lib.hid hV
  have HL := Lib.hid hl
  rw [hV]
  clear hV hl
  go_enter Tryd.func7, Tryd.ntmps7
  go_wp2_with fail
  go_loopg [5] xs.length (fun g v wr => ∃ k : Nat, k + g = xs.length ∧ v = .int .i64 k ∧ (xs.map DE.d).take k = (ys.map DE.d).take k ∧ Below w.heap.size w wr)
  case atStart => exact ⟨0, by omega, rfl, rfl, Below.refl _ _⟩
  case round =>
    obtain ⟨k, hkg, rfl, htk, hb0⟩ := hrel
    have B_wr := Lib.hid hb0
    have HK := Lib.hid hkg
    have HT := Lib.hid htk
    clear hb0 htk
    cases gk with
    | zero =>
      obtain rfl : k = xs.length := by omega
      have h1 := HT.out
      rw [List.take_of_length_le (by simp), List.take_of_length_le (by simp; have := HL.out; omega)] at h1
      obtain rfl : V = true := by rw [← HV.out, decide_eq_true h1]
      clear hkg q1 q1' h1
      go_wp2
      go_ret
      exact ⟨rfl, B_wr.out⟩
    | succ g =>
      have hlt : k < xs.length := by omega
      have e3 : decide ((k : Int) < (xs.length : Int)) = true := decide_eq_true (by omega)
      obtain ⟨x, hx⟩ : ∃ x, xs[k]? = some x := ⟨_, List.getElem?_eq_getElem hlt⟩
      obtain ⟨y, hy⟩ : ∃ y, ys[k]? = some y := ⟨_, List.getElem?_eq_getElem (by have := HL.out; omega)⟩
      have h1 : (xs.map DE.d)[k]? = some x.d := by rw [List.getElem?_map, hx]; rfl
      have h2 : (ys.map DE.d)[k]? = some y.d := by rw [List.getElem?_map, hy]; rfl
      have HX1 := Lib.hid h1
      have HY1 := Lib.hid h2
      have HNE : Hid (x.d ≠ y.d → V = false) := Lib.hid (fun he => by rw [← HV.out, decide_eq_false (fun e => he (by have h1 := HX1.out; rw [e, HY1.out] at h1; exact (Option.some.inj h1).symm))])
      obtain ⟨b, o, hA3, hbB, hc, hpl⟩ := (HX.out.step B_wr.out).at_ hx
      obtain ⟨b', o', hB3, hbB', hc', hpl'⟩ := (HY.out.step B_wr.out).at_ hy
      have d0 : wr.cell? ⟨b, o + k * 11, none⟩ = some (.string x.d.cl) := by have := hc 0 _ rfl; simpa using this
      have d1 : wr.cell? ⟨b, o + k * 11 + 1, none⟩ = some (.int .i64 x.d.tm) := hc 1 _ rfl
      have e0 : wr.cell? ⟨b', o' + k * 11, none⟩ = some (.string y.d.cl) := by have := hc' 0 _ rfl; simpa using this
      have e1 : wr.cell? ⟨b', o' + k * 11 + 1, none⟩ = some (.int .i64 y.d.tm) := hc' 1 _ rfl
      have HPX : Hid (x.d.m.props.length ≤ 4398046511104) := Lib.hid (HP.out _ (List.mem_of_getElem? hx))
      have C_wr : Hid (b < wr.heap.size ∧ ∀ i v, (gD x)[i]? = some v → wr.cell? ⟨b, o + k * 11 + i, none⟩ = some v) := Lib.hid ⟨hbB, hc⟩
      have D_wr : Hid (b' < wr.heap.size ∧ ∀ i v, (gD y)[i]? = some v → wr.cell? ⟨b', o' + k * 11 + i, none⟩ = some v) := Lib.hid ⟨hbB', hc'⟩
      have P_wr : Hid (PL wr wr.heap.size x.a x.d.m.props) := Lib.hid hpl
      have R_wr : Hid (PL wr wr.heap.size y.a y.d.m.props) := Lib.hid hpl'
      subst hA3 hB3
      have j1 : (0 : Int) ≤ (k : Int) := by omega
      have j2 : (k : Int) < (xs.length : Int) := by omega
      have j3 : (k : Int) < (ys.length : Int) := by have := HL.out; omega
      have hlk : k ≤ 100000 := by omega
      have q0 := str_eqb x.d.cl y.d.cl
      have q0' : (x.d.cl.toList != y.d.cl.toList) = !decide (x.d.cl = y.d.cl) := by unfold bne; rw [q0]
      clear hx hy h1 h2 hc hc' hpl hpl' hbB hbB' hkg q1 q1'
      by_cases he : x.d.cl = y.d.cl
      case neg =>
        have q9 : decide (x.d.cl = y.d.cl) = false := decide_eq_false he
        rw [q9] at q0 q0'
        obtain rfl : V = false := HNE.out (fun e => he (by rw [e]))
        clear he HSM
        go_wp2_with fail
        go_quiet (fail)
        go_wp2
        go_ret
        exact ⟨rfl, stepB B_wr.out (below_drewN _ _)⟩
      have q9 : decide (x.d.cl = y.d.cl) = true := decide_eq_true he
      rw [q9] at q0 q0'
      by_cases ht : x.d.tm = y.d.tm
      case neg =>
        have q8 : (x.d.tm != y.d.tm) = true := by simp [ht]
        obtain rfl : V = false := HNE.out (fun e => ht (by rw [e]))
        clear he ht HSM
        go_wp2_with fail
        go_quiet (fail)
        go_wp2
        go_ret
        exact ⟨rfl, stepB B_wr.out (below_drewN _ _)⟩
      have q8 : (x.d.tm != y.d.tm) = false := by simp [ht]
      have HCT := Lib.hid (And.intro he ht)
      obtain ⟨bE, hbE⟩ : ∃ z, sameM x.d.m y.d.m = z := ⟨_, rfl⟩
      have hcal := HSM.out x.d.m y.d.m x.a y.a x.c y.c
      rw [hbE] at hcal
      have HC1 := Lib.hid hcal
      have HBE := Lib.hid hbE
      clear he ht hbE hcal HSM
      go_upto_region 6 with fail
      clear d0 d1 e0 e1
      obtain ⟨u1, hu1⟩ : ∃ u1, u1 = World.drew wr := ⟨_, rfl⟩
      have hbD : Below wr.heap.size wr u1 := by rw [hu1]; exact (Below.refl _ _).drew
      have C_u1 : Hid ((b < u1.heap.size ∧ ∀ i v, (gD x)[i]? = some v → u1.cell? ⟨b, o + k * 11 + i, none⟩ = some v)) := Lib.hid (⟨Nat.lt_of_lt_of_le C_wr.out.1 hbD.size, fun i u hu => (hbD.cell (p := ⟨b, o + k * 11 + i, none⟩) C_wr.out.1).trans (C_wr.out.2 i u hu)⟩)
      have D_u1 : Hid ((b' < u1.heap.size ∧ ∀ i v, (gD y)[i]? = some v → u1.cell? ⟨b', o' + k * 11 + i, none⟩ = some v)) := Lib.hid (⟨Nat.lt_of_lt_of_le D_wr.out.1 hbD.size, fun i u hu => (hbD.cell (p := ⟨b', o' + k * 11 + i, none⟩) D_wr.out.1).trans (D_wr.out.2 i u hu)⟩)
      have P_u1 : Hid (PL u1 u1.heap.size x.a x.d.m.props) := Lib.hid (GL.step P_wr.out hbD)
      have R_u1 : Hid (PL u1 u1.heap.size y.a y.d.m.props) := Lib.hid (GL.step R_wr.out hbD)
      have B_u1 : Hid (Below w.heap.size w u1) := Lib.hid (stepB B_wr.out hbD)
      clear C_wr D_wr P_wr R_wr B_wr
      have hbd : (fun w' => (b < w'.heap.size ∧ ∀ i v, (gD x)[i]? = some v → w'.cell? ⟨b, o + k * 11 + i, none⟩ = some v) ∧ (b' < w'.heap.size ∧ ∀ i v, (gD y)[i]? = some v → w'.cell? ⟨b', o' + k * 11 + i, none⟩ = some v)) (World.drew wr) := by rw [← hu1]; exact ⟨C_u1.out, D_u1.out⟩
      have hSD : (fun w' => (b < w'.heap.size ∧ ∀ i v, (gD x)[i]? = some v → w'.cell? ⟨b, o + k * 11 + i, none⟩ = some v) ∧ (b' < w'.heap.size ∧ ∀ i v, (gD y)[i]? = some v → w'.cell? ⟨b', o' + k * 11 + i, none⟩ = some v)) u1 := ⟨C_u1.out, D_u1.out⟩
      have HWD := Lib.hid hu1
      clear hu1 hbD
      refine wp_region_held_drew (S := fun w' => (b < w'.heap.size ∧ ∀ i v, (gD x)[i]? = some v → w'.cell? ⟨b, o + k * 11 + i, none⟩ = some v) ∧ (b' < w'.heap.size ∧ ∀ i v, (gD y)[i]? = some v → w'.cell? ⟨b', o' + k * 11 + i, none⟩ = some v)) (by kernel_rfl) hbd (fun hHeld => ?_)
      rw [← HWD.out]
      clear hHeld
      have hHeld := hSD
      clear hSD hbd HWD
      refine wpAnyH_take (i := 0) (v := .slice (some ⟨b, o, none⟩) xs.length c) (get_ops _ _ _ rfl) (by kernel_rfl) (by kernel_rfl) (by kernel_rfl) (fun _ _ _ h => h) (Or.inl ⟨by rfl, fun wS hSw => by (try dsimp only at hSw); go_simp⟩) hHeld ?_
      try simp only [Act.put, List.setIfInBounds_toArray, List.set_cons_zero, List.set_cons_succ]
      refine wpAnyH_take (i := 1) (v := .int .i64 k) (get_ops _ _ _ rfl) (by kernel_rfl) (by kernel_rfl) (by kernel_rfl) (fun _ _ _ h => h) (Or.inl ⟨by rfl, fun wS hSw => by (try dsimp only at hSw); go_simp⟩) hHeld ?_
      try simp only [Act.put, List.setIfInBounds_toArray, List.set_cons_zero, List.set_cons_succ]
      refine wpAnyH_take (i := 2) (v := .pointer (some ⟨b, o + k * 11, none⟩)) (get_ops _ _ _ rfl) (by kernel_rfl) (by kernel_rfl) (by kernel_rfl) (fun _ _ _ h => h) (Or.inl ⟨by rfl, fun wS hSw => by (try dsimp only at hSw); go_simp⟩) hHeld ?_
      try simp only [Act.put, List.setIfInBounds_toArray, List.set_cons_zero, List.set_cons_succ]
      refine wpAnyH_take (i := 3) (v := .pointer (some ⟨b, o + k * 11, none⟩)) (get_ops _ _ _ rfl) (by kernel_rfl) (by kernel_rfl) (by kernel_rfl) (fun _ _ _ h => h) (Or.inl ⟨by rfl, fun wS hSw => by (try dsimp only at hSw); go_simp⟩) hHeld ?_
      try simp only [Act.put, List.setIfInBounds_toArray, List.set_cons_zero, List.set_cons_succ]
      refine wpAnyH_take (i := 4) (v := .string x.d.cl) (get_ops _ _ _ rfl) (by kernel_rfl) (by kernel_rfl) (by kernel_rfl) (fun _ _ _ h => h) (Or.inl ⟨by rfl, fun wS hSw => by (try dsimp only at hSw); have cS : wS.cell? ⟨b, o + k * 11, none⟩ = some (.string x.d.cl) := (by have h9 := hSw.1.2 0 _ rfl; simpa using h9); clear hSw; go_simp⟩) hHeld ?_
      try simp only [Act.put, List.setIfInBounds_toArray, List.set_cons_zero, List.set_cons_succ]
      refine wpAnyH_take (i := 5) (v := .slice (some ⟨b', o', none⟩) ys.length c') (get_ops _ _ _ rfl) (by kernel_rfl) (by kernel_rfl) (by kernel_rfl) (fun _ _ _ h => h) (Or.inl ⟨by rfl, fun wS hSw => by (try dsimp only at hSw); go_simp⟩) hHeld ?_
      try simp only [Act.put, List.setIfInBounds_toArray, List.set_cons_zero, List.set_cons_succ]
      refine wpAnyH_take (i := 6) (v := .int .i64 k) (get_ops _ _ _ rfl) (by kernel_rfl) (by kernel_rfl) (by kernel_rfl) (fun _ _ _ h => h) (Or.inl ⟨by rfl, fun wS hSw => by (try dsimp only at hSw); go_simp⟩) hHeld ?_
      try simp only [Act.put, List.setIfInBounds_toArray, List.set_cons_zero, List.set_cons_succ]
      refine wpAnyH_take (i := 7) (v := .pointer (some ⟨b', o' + k * 11, none⟩)) (get_ops _ _ _ rfl) (by kernel_rfl) (by kernel_rfl) (by kernel_rfl) (fun _ _ _ h => h) (Or.inl ⟨by rfl, fun wS hSw => by (try dsimp only at hSw); go_simp⟩) hHeld ?_
      try simp only [Act.put, List.setIfInBounds_toArray, List.set_cons_zero, List.set_cons_succ]
      refine wpAnyH_take (i := 8) (v := .pointer (some ⟨b', o' + k * 11, none⟩)) (get_ops _ _ _ rfl) (by kernel_rfl) (by kernel_rfl) (by kernel_rfl) (fun _ _ _ h => h) (Or.inl ⟨by rfl, fun wS hSw => by (try dsimp only at hSw); go_simp⟩) hHeld ?_
      try simp only [Act.put, List.setIfInBounds_toArray, List.set_cons_zero, List.set_cons_succ]
      refine wpAnyH_take (i := 9) (v := .string y.d.cl) (get_ops _ _ _ rfl) (by kernel_rfl) (by kernel_rfl) (by kernel_rfl) (fun _ _ _ h => h) (Or.inl ⟨by rfl, fun wS hSw => by (try dsimp only at hSw); have cS : wS.cell? ⟨b', o' + k * 11, none⟩ = some (.string y.d.cl) := (by have h9 := hSw.2.2 0 _ rfl; simpa using h9); clear hSw; go_simp⟩) hHeld ?_
      try simp only [Act.put, List.setIfInBounds_toArray, List.set_cons_zero, List.set_cons_succ]
      refine wpAnyH_take (i := 10) (v := .bool false) (get_ops _ _ _ rfl) (by kernel_rfl) (by kernel_rfl) (by kernel_rfl) (fun _ _ _ h => h) (Or.inl ⟨by rfl, fun wS hSw => by (try dsimp only at hSw); go_simp⟩) hHeld ?_
      try simp only [Act.put, List.setIfInBounds_toArray, List.set_cons_zero, List.set_cons_succ]
      refine wpAnyH_take (i := 11) (v := .bool false) (get_ops _ _ _ rfl) (by kernel_rfl) (by kernel_rfl) (by kernel_rfl) (fun _ _ _ h => h) (Or.inl ⟨by rfl, fun wS hSw => by (try dsimp only at hSw); go_simp⟩) hHeld ?_
      try simp only [Act.put, List.setIfInBounds_toArray, List.set_cons_zero, List.set_cons_succ]
      refine wpAnyH_take (i := 12) (v := .slice (some ⟨b, o, none⟩) xs.length c) (get_ops _ _ _ rfl) (by kernel_rfl) (by kernel_rfl) (by kernel_rfl) (fun _ _ _ h => h) (Or.inl ⟨by rfl, fun wS hSw => by (try dsimp only at hSw); go_simp⟩) hHeld ?_
      try simp only [Act.put, List.setIfInBounds_toArray, List.set_cons_zero, List.set_cons_succ]
      refine wpAnyH_take (i := 13) (v := .int .i64 k) (get_ops _ _ _ rfl) (by kernel_rfl) (by kernel_rfl) (by kernel_rfl) (fun _ _ _ h => h) (Or.inl ⟨by rfl, fun wS hSw => by (try dsimp only at hSw); go_simp⟩) hHeld ?_
      try simp only [Act.put, List.setIfInBounds_toArray, List.set_cons_zero, List.set_cons_succ]
      refine wpAnyH_take (i := 14) (v := .pointer (some ⟨b, o + k * 11, none⟩)) (get_ops _ _ _ rfl) (by kernel_rfl) (by kernel_rfl) (by kernel_rfl) (fun _ _ _ h => h) (Or.inl ⟨by rfl, fun wS hSw => by (try dsimp only at hSw); go_simp⟩) hHeld ?_
      try simp only [Act.put, List.setIfInBounds_toArray, List.set_cons_zero, List.set_cons_succ]
      refine wpAnyH_take (i := 15) (v := .pointer (some ⟨b, o + k * 11 + 1, none⟩)) (get_ops _ _ _ rfl) (by kernel_rfl) (by kernel_rfl) (by kernel_rfl) (fun _ _ _ h => h) (Or.inl ⟨by rfl, fun wS hSw => by (try dsimp only at hSw); go_simp⟩) hHeld ?_
      try simp only [Act.put, List.setIfInBounds_toArray, List.set_cons_zero, List.set_cons_succ]
      refine wpAnyH_take (i := 16) (v := .int .i64 x.d.tm) (get_ops _ _ _ rfl) (by kernel_rfl) (by kernel_rfl) (by kernel_rfl) (fun _ _ _ h => h) (Or.inl ⟨by rfl, fun wS hSw => by (try dsimp only at hSw); have cS : wS.cell? ⟨b, o + k * 11 + 1, none⟩ = some (.int .i64 x.d.tm) := hSw.1.2 1 _ rfl; clear hSw; go_simp⟩) hHeld ?_
      try simp only [Act.put, List.setIfInBounds_toArray, List.set_cons_zero, List.set_cons_succ]
      refine wpAnyH_take (i := 17) (v := .slice (some ⟨b', o', none⟩) ys.length c') (get_ops _ _ _ rfl) (by kernel_rfl) (by kernel_rfl) (by kernel_rfl) (fun _ _ _ h => h) (Or.inl ⟨by rfl, fun wS hSw => by (try dsimp only at hSw); go_simp⟩) hHeld ?_
      try simp only [Act.put, List.setIfInBounds_toArray, List.set_cons_zero, List.set_cons_succ]
      refine wpAnyH_take (i := 18) (v := .int .i64 k) (get_ops _ _ _ rfl) (by kernel_rfl) (by kernel_rfl) (by kernel_rfl) (fun _ _ _ h => h) (Or.inl ⟨by rfl, fun wS hSw => by (try dsimp only at hSw); go_simp⟩) hHeld ?_
      try simp only [Act.put, List.setIfInBounds_toArray, List.set_cons_zero, List.set_cons_succ]
      refine wpAnyH_take (i := 19) (v := .pointer (some ⟨b', o' + k * 11, none⟩)) (get_ops _ _ _ rfl) (by kernel_rfl) (by kernel_rfl) (by kernel_rfl) (fun _ _ _ h => h) (Or.inl ⟨by rfl, fun wS hSw => by (try dsimp only at hSw); go_simp⟩) hHeld ?_
      try simp only [Act.put, List.setIfInBounds_toArray, List.set_cons_zero, List.set_cons_succ]
      refine wpAnyH_take (i := 20) (v := .pointer (some ⟨b', o' + k * 11 + 1, none⟩)) (get_ops _ _ _ rfl) (by kernel_rfl) (by kernel_rfl) (by kernel_rfl) (fun _ _ _ h => h) (Or.inl ⟨by rfl, fun wS hSw => by (try dsimp only at hSw); go_simp⟩) hHeld ?_
      try simp only [Act.put, List.setIfInBounds_toArray, List.set_cons_zero, List.set_cons_succ]
      refine wpAnyH_take (i := 21) (v := .int .i64 y.d.tm) (get_ops _ _ _ rfl) (by kernel_rfl) (by kernel_rfl) (by kernel_rfl) (fun _ _ _ h => h) (Or.inl ⟨by rfl, fun wS hSw => by (try dsimp only at hSw); have cS : wS.cell? ⟨b', o' + k * 11 + 1, none⟩ = some (.int .i64 y.d.tm) := hSw.2.2 1 _ rfl; clear hSw; go_simp⟩) hHeld ?_
      try simp only [Act.put, List.setIfInBounds_toArray, List.set_cons_zero, List.set_cons_succ]
      refine wpAnyH_take (i := 22) (v := .bool false) (get_ops _ _ _ rfl) (by kernel_rfl) (by kernel_rfl) (by kernel_rfl) (fun _ _ _ h => h) (Or.inl ⟨by rfl, fun wS hSw => by (try dsimp only at hSw); go_simp⟩) hHeld ?_
      try simp only [Act.put, List.setIfInBounds_toArray, List.set_cons_zero, List.set_cons_succ]
      refine wpAnyH_take (i := 23) (v := .bool false) (get_ops _ _ _ rfl) (by kernel_rfl) (by kernel_rfl) (by kernel_rfl) (fun _ _ _ h => h) (Or.inl ⟨by rfl, fun wS hSw => by (try dsimp only at hSw); go_simp⟩) hHeld ?_
      try simp only [Act.put, List.setIfInBounds_toArray, List.set_cons_zero, List.set_cons_succ]
      refine wpAnyH_take (i := 24) (v := .bool false) (get_ops _ _ _ rfl) (by kernel_rfl) (by kernel_rfl) (by kernel_rfl) (fun _ _ _ h => h) (Or.inl ⟨by rfl, fun wS hSw => by (try dsimp only at hSw); go_simp⟩) hHeld ?_
      try simp only [Act.put, List.setIfInBounds_toArray, List.set_cons_zero, List.set_cons_succ]
      refine wpAnyH_take (i := 25) (v := .slice (some ⟨b, o, none⟩) xs.length c) (get_ops _ _ _ rfl) (by kernel_rfl) (by kernel_rfl) (by kernel_rfl) (fun _ _ _ h => h) (Or.inl ⟨by rfl, fun wS hSw => by (try dsimp only at hSw); go_simp⟩) hHeld ?_
      try simp only [Act.put, List.setIfInBounds_toArray, List.set_cons_zero, List.set_cons_succ]
      refine wpAnyH_take (i := 26) (v := .int .i64 k) (get_ops _ _ _ rfl) (by kernel_rfl) (by kernel_rfl) (by kernel_rfl) (fun _ _ _ h => h) (Or.inl ⟨by rfl, fun wS hSw => by (try dsimp only at hSw); go_simp⟩) hHeld ?_
      try simp only [Act.put, List.setIfInBounds_toArray, List.set_cons_zero, List.set_cons_succ]
      refine wpAnyH_take (i := 27) (v := .pointer (some ⟨b, o + k * 11, none⟩)) (get_ops _ _ _ rfl) (by kernel_rfl) (by kernel_rfl) (by kernel_rfl) (fun _ _ _ h => h) (Or.inl ⟨by rfl, fun wS hSw => by (try dsimp only at hSw); go_simp⟩) hHeld ?_
      try simp only [Act.put, List.setIfInBounds_toArray, List.set_cons_zero, List.set_cons_succ]
      refine wpAnyH_take (i := 28) (v := .pointer (some ⟨b, o + k * 11 + 2, none⟩)) (get_ops _ _ _ rfl) (by kernel_rfl) (by kernel_rfl) (by kernel_rfl) (fun _ _ _ h => h) (Or.inl ⟨by rfl, fun wS hSw => by (try dsimp only at hSw); go_simp⟩) hHeld ?_
      try simp only [Act.put, List.setIfInBounds_toArray, List.set_cons_zero, List.set_cons_succ]
      refine wpAnyH_take (i := 29) (v := (msgV x.d.m x.a x.c)) (get_ops _ _ _ rfl) (by kernel_rfl) (by kernel_rfl) (by kernel_rfl) (fun _ _ _ h => h) (Or.inl ⟨by rfl, fun wS hSw => by (try dsimp only at hSw); exact exec_load 27 _ rfl ⟨b, o + k * 11 + 2, none⟩ (by go_simp) _ (load_due_msg hSw.1.2)⟩) hHeld ?_
      try simp only [Act.put, List.setIfInBounds_toArray, List.set_cons_zero, List.set_cons_succ]
      refine wpAnyH_take (i := 30) (v := .slice (some ⟨b', o', none⟩) ys.length c') (get_ops _ _ _ rfl) (by kernel_rfl) (by kernel_rfl) (by kernel_rfl) (fun _ _ _ h => h) (Or.inl ⟨by rfl, fun wS hSw => by (try dsimp only at hSw); go_simp⟩) hHeld ?_
      try simp only [Act.put, List.setIfInBounds_toArray, List.set_cons_zero, List.set_cons_succ]
      refine wpAnyH_take (i := 31) (v := .int .i64 k) (get_ops _ _ _ rfl) (by kernel_rfl) (by kernel_rfl) (by kernel_rfl) (fun _ _ _ h => h) (Or.inl ⟨by rfl, fun wS hSw => by (try dsimp only at hSw); go_simp⟩) hHeld ?_
      try simp only [Act.put, List.setIfInBounds_toArray, List.set_cons_zero, List.set_cons_succ]
      refine wpAnyH_take (i := 32) (v := .pointer (some ⟨b', o' + k * 11, none⟩)) (get_ops _ _ _ rfl) (by kernel_rfl) (by kernel_rfl) (by kernel_rfl) (fun _ _ _ h => h) (Or.inl ⟨by rfl, fun wS hSw => by (try dsimp only at hSw); go_simp⟩) hHeld ?_
      try simp only [Act.put, List.setIfInBounds_toArray, List.set_cons_zero, List.set_cons_succ]
      refine wpAnyH_take (i := 33) (v := .pointer (some ⟨b', o' + k * 11 + 2, none⟩)) (get_ops _ _ _ rfl) (by kernel_rfl) (by kernel_rfl) (by kernel_rfl) (fun _ _ _ h => h) (Or.inl ⟨by rfl, fun wS hSw => by (try dsimp only at hSw); go_simp⟩) hHeld ?_
      try simp only [Act.put, List.setIfInBounds_toArray, List.set_cons_zero, List.set_cons_succ]
      refine wpAnyH_take (i := 34) (v := (msgV y.d.m y.a y.c)) (get_ops _ _ _ rfl) (by kernel_rfl) (by kernel_rfl) (by kernel_rfl) (fun _ _ _ h => h) (Or.inl ⟨by rfl, fun wS hSw => by (try dsimp only at hSw); exact exec_load 27 _ rfl ⟨b', o' + k * 11 + 2, none⟩ (by go_simp) _ (load_due_msg hSw.2.2)⟩) hHeld ?_
      try simp only [Act.put, List.setIfInBounds_toArray, List.set_cons_zero, List.set_cons_succ]
      refine wpAnyH_ready (rs := [35]) (by kernel_rfl) (by simp) ?_
      refine (AllReadyH.cons (get_ops _ _ _ rfl) (fun K hK => ?_) AllReadyH.nil)
      go_simp
      refine (HC1.out u1 P_u1.out R_u1.out (by have := HPX.out; omega)).mono ?_
      rintro e u2 ⟨rfl, hb⟩
      have C_u2 : Hid ((b < u2.heap.size ∧ ∀ i v, (gD x)[i]? = some v → u2.cell? ⟨b, o + k * 11 + i, none⟩ = some v)) := Lib.hid (⟨Nat.lt_of_lt_of_le C_u1.out.1 hb.size, fun i u hu => (hb.cell (p := ⟨b, o + k * 11 + i, none⟩) C_u1.out.1).trans (C_u1.out.2 i u hu)⟩)
      have D_u2 : Hid ((b' < u2.heap.size ∧ ∀ i v, (gD y)[i]? = some v → u2.cell? ⟨b', o' + k * 11 + i, none⟩ = some v)) := Lib.hid (⟨Nat.lt_of_lt_of_le D_u1.out.1 hb.size, fun i u hu => (hb.cell (p := ⟨b', o' + k * 11 + i, none⟩) D_u1.out.1).trans (D_u1.out.2 i u hu)⟩)
      have P_u2 : Hid (PL u2 u2.heap.size x.a x.d.m.props) := Lib.hid (GL.step P_u1.out hb)
      have R_u2 : Hid (PL u2 u2.heap.size y.a y.d.m.props) := Lib.hid (GL.step R_u1.out hb)
      have B_u2 : Hid (Below w.heap.size w u2) := Lib.hid (stepB B_u1.out hb)
      clear C_u1 D_u1 P_u1 R_u1 B_u1
      clear hHeld hb
      go_wp2_with fail
      refine hK.out _ _ ⟨C_u2.out, D_u2.out⟩ (fun hHeld => ?_)
      clear hK K
      try simp only [Act.put, List.setIfInBounds_toArray, List.set_cons_zero, List.set_cons_succ]
      refine wpAnyH_take (i := 36) (v := .bool (!bE)) (get_ops _ _ _ rfl) (by kernel_rfl) (by kernel_rfl) (by kernel_rfl) (fun _ _ _ h => h) (Or.inl ⟨by rfl, fun wS hSw => by (try dsimp only at hSw); go_simp⟩) hHeld ?_
      try simp only [Act.put, List.setIfInBounds_toArray, List.set_cons_zero, List.set_cons_succ]
      refine wpAnyH_take (i := 37) (v := .bool (!bE)) (get_ops _ _ _ rfl) (by kernel_rfl) (by kernel_rfl) (by kernel_rfl) (fun _ _ _ h => h) (Or.inl ⟨by rfl, fun wS hSw => by (try dsimp only at hSw); go_simp⟩) hHeld ?_
      try simp only [Act.put, List.setIfInBounds_toArray, List.set_cons_zero, List.set_cons_succ]
      refine wpAnyH_done (by kernel_rfl) ?_ _
      cases bE with
      | true =>
        go_wp2_with fail
        go_roundg g
        case measure => omega
        case rel => exact ⟨k + 1, by have := HK.out; omega, by go_num, (by
    have he : x.d = y.d := (by
      have h1 := HCT.out.1; have h2 := HCT.out.2; have h3 : x.d.m = y.d.m := of_decide_eq_true HBE.out
      revert h1 h2 h3; cases x.d; cases y.d; intro h1 h2 h3; simp only at h1 h2 h3; rw [h1, h2, h3])
    rw [List.take_add_one, List.take_add_one, HT.out, HX1.out, HY1.out, he]), B_u2.out⟩
      | false =>
        obtain rfl : V = false := HNE.out (fun e => of_decide_eq_false HBE.out (by rw [e]))
        go_wp2_with fail
        go_ret
        exact ⟨rfl, B_u2.out⟩

/-- where the wills end that are due -/
structure Cut (l : List Du) (now : Int) (i : Nat) : Prop where
  le : i ≤ l.length
  due : ∀ j x, j < i → l[j]? = some x → x.tm ≤ now
  later : ∀ x, l[i]? = some x → now < x.tm
def RetCut (l : List Du) (now : Int) (W : World) (E : Ending) (w' : World) : Prop := ∃ i, Cut l now i ∧ RetDD (l.take i) (l.drop i) W E w'
set_option maxRecDepth 20000 in
set_option maxHeartbeats 4000000 in
theorem rTake_any (A : Option Addr) (c : Nat) (xs : List DE) (now : Int) (w : World) (hsl : DI w w.heap.size A xs) (hc : xs.length ≤ c) (hn : xs.length ≤ 100000) :
    Calls Tryd.prog 12 #[.slice A xs.length c, .int .i64 now] w (RetCut (xs.map DE.d) now w) := by
  have HS := Lib.hid hsl
  have HC := Lib.hid hc
  clear hsl hc
  go_enter Tryd.func12, Tryd.ntmps12
  go_wp2_with fail
  go_loopg [6] xs.length (fun g v wr => ∃ (k : Nat), k + g = xs.length ∧ v = .int .i64 k ∧ (∀ j x, j < k → (xs.map DE.d)[j]? = some x → x.tm ≤ now) ∧ wr = w)
  case atStart => exact ⟨0, by omega, rfl, (fun j x h => absurd h (by omega)), rfl⟩
  case round =>
    obtain ⟨k, hkg, rfl, hdu, rfl⟩ := hrel
    have HD := Lib.hid hdu
    have HK := Lib.hid hkg
    clear hdu
    have HEND : Hid ((∀ x, (xs.map DE.d)[k]? = some x → now < x.tm) → ∀ w', Below wr.heap.size wr w' → RetCut (xs.map DE.d) now wr (.returned (.tuple #[.slice A k c, .slice (if c = k then A else A.map (·.add (k * 11))) (xs.length - k) (c - k)])) w') := Lib.hid (fun hl w' hw' => by
      refine ⟨k, ⟨by rw [List.length_map]; omega, HD.out, hl⟩, A, c, xs.take k, _, c - k, xs.drop k, ?_, by rw [List.map_take], by rw [List.map_drop], by rw [List.length_take]; have := HC.out; omega, by rw [List.length_drop]; have := HC.out; omega, (HS.out.take k).step hw', (HS.out.drop (by omega) HC.out).step hw', hw'⟩
      rw [List.length_take, List.length_drop, Nat.min_eq_left (by omega)])
    cases gk with
    | zero =>
      have hki : k = xs.length := by omega
      have e3 : decide ((k : Int) < (xs.length : Int)) = false := decide_eq_false (by omega)
      have e3' : decide (k < xs.length) = false := decide_eq_false (by omega)
      have HE2 := Lib.hid (HEND.out (fun x hx => by have := (List.getElem?_eq_some_iff.1 hx).1; rw [List.length_map] at this; omega))
      have k1 : (0 : Int) ≤ (k : Int) := by omega
      have k2 : (k : Int) ≤ (xs.length : Int) := by omega
      have k3 : (k : Int) ≤ (c : Int) := by have := HC.out; omega
      clear hkg hki HEND
      go_upto_region 4 with fail
      obtain ⟨AD, hAD⟩ : ∃ AD : Option Addr, AD = (if c = k then A else A.map (fun a : Addr => a.add (k * 11))) := ⟨_, rfl⟩
      obtain ⟨nd, hnd⟩ : ∃ nd, nd = xs.length - k := ⟨_, rfl⟩
      obtain ⟨cd, hcd⟩ : ∃ cd, cd = c - k := ⟨_, rfl⟩
      have HDE : Hid (Value.slice AD nd cd = .slice (if c = k then A else A.map (fun a : Addr => a.add (k * 11))) (xs.length - k) (c - k)) := Lib.hid (by rw [hAD, hnd, hcd])
      have HE3 : Hid (∀ w', Below wr.heap.size wr w' → RetCut (xs.map DE.d) now wr (.returned (.tuple #[.slice A k c, .slice AD nd cd])) w') := Lib.hid (by rw [HDE.out]; exact HE2.out)
      clear hAD hnd hcd HE2
      have B_wr : Hid (Below wr.heap.size wr wr) := Lib.hid (Below.refl _ _)
      obtain ⟨y1, hy1⟩ : ∃ y1, y1 = World.drew wr := ⟨_, rfl⟩
      have hbD : Below wr.heap.size wr y1 := by rw [hy1]; exact (Below.refl _ _).drew
      have B_y1 : Hid (Below wr.heap.size wr y1) := Lib.hid (stepB B_wr.out hbD)
      clear B_wr
      have hbd : (fun w' => Below wr.heap.size wr w') (World.drew wr) := by rw [← hy1]; exact B_y1.out
      have hSD : (fun w' => Below wr.heap.size wr w') y1 := B_y1.out
      have HWD := Lib.hid hy1
      clear hy1 hbD
      refine wp_region_held_drew (S := fun w' => Below wr.heap.size wr w') (by kernel_rfl) hbd (fun hHeld => ?_)
      rw [← HWD.out]
      clear hHeld
      have hHeld := hSD
      clear hSD hbd HWD
      refine wpAnyH_take (i := 0) (v := .slice A xs.length c) (get_ops _ _ _ rfl) (by kernel_rfl) (by kernel_rfl) (by kernel_rfl) (fun _ _ _ h => h) (Or.inl ⟨by rfl, fun wS hSw => by (try dsimp only at hSw); go_simp⟩) hHeld ?_
      try simp only [Act.put, List.setIfInBounds_toArray, List.set_cons_zero, List.set_cons_succ]
      refine wpAnyH_take (i := 1) (v := .int .i64 k) (get_ops _ _ _ rfl) (by kernel_rfl) (by kernel_rfl) (by kernel_rfl) (fun _ _ _ h => h) (Or.inl ⟨by rfl, fun wS hSw => by (try dsimp only at hSw); go_simp⟩) hHeld ?_
      try simp only [Act.put, List.setIfInBounds_toArray, List.set_cons_zero, List.set_cons_succ]
      refine wpAnyH_take (i := 2) (v := .slice A k c) (get_ops _ _ _ rfl) (by kernel_rfl) (by kernel_rfl) (by kernel_rfl) (fun _ _ _ h => h) (Or.inl ⟨by rfl, fun wS hSw => by (try dsimp only at hSw); go_simp⟩) hHeld ?_
      try simp only [Act.put, List.setIfInBounds_toArray, List.set_cons_zero, List.set_cons_succ]
      refine wpAnyH_take (i := 3) (v := .slice A xs.length c) (get_ops _ _ _ rfl) (by kernel_rfl) (by kernel_rfl) (by kernel_rfl) (fun _ _ _ h => h) (Or.inl ⟨by rfl, fun wS hSw => by (try dsimp only at hSw); go_simp⟩) hHeld ?_
      try simp only [Act.put, List.setIfInBounds_toArray, List.set_cons_zero, List.set_cons_succ]
      refine wpAnyH_take (i := 4) (v := .int .i64 k) (get_ops _ _ _ rfl) (by kernel_rfl) (by kernel_rfl) (by kernel_rfl) (fun _ _ _ h => h) (Or.inl ⟨by rfl, fun wS hSw => by (try dsimp only at hSw); go_simp⟩) hHeld ?_
      try simp only [Act.put, List.setIfInBounds_toArray, List.set_cons_zero, List.set_cons_succ]
      refine wpAnyH_take (i := 5) (v := (.slice AD nd cd)) (get_ops _ _ _ rfl) (by kernel_rfl) (by kernel_rfl) (by kernel_rfl) (fun _ _ _ h => h) (Or.inl ⟨by rfl, fun wS hSw => by (try dsimp only at hSw); rw [HDE.out]; go_simp⟩) hHeld ?_
      try simp only [Act.put, List.setIfInBounds_toArray, List.set_cons_zero, List.set_cons_succ]
      refine wpAnyH_take (i := 6) (v := .slice A k c) (get_ops _ _ _ rfl) (by kernel_rfl) (by kernel_rfl) (by kernel_rfl) (fun _ _ _ h => h) (Or.inl ⟨by rfl, fun wS hSw => by (try dsimp only at hSw); go_simp⟩) hHeld ?_
      try simp only [Act.put, List.setIfInBounds_toArray, List.set_cons_zero, List.set_cons_succ]
      refine wpAnyH_take (i := 7) (v := (.slice AD nd cd)) (get_ops _ _ _ rfl) (by kernel_rfl) (by kernel_rfl) (by kernel_rfl) (fun _ _ _ h => h) (Or.inl ⟨by rfl, fun wS hSw => by (try dsimp only at hSw); go_simp⟩) hHeld ?_
      try simp only [Act.put, List.setIfInBounds_toArray, List.set_cons_zero, List.set_cons_succ]
      refine wpAnyH_done (by kernel_rfl) ?_ _
      go_wp2_with fail
      go_ret2
      exact HE3.out _ B_y1.out
    | succ g =>
      have hlt : k < xs.length := by omega
      have e3 : decide ((k : Int) < (xs.length : Int)) = true := decide_eq_true (by omega)
      have e3' : decide (k < xs.length) = true := decide_eq_true hlt
      obtain ⟨x, hx⟩ : ∃ x, xs[k]? = some x := ⟨_, List.getElem?_eq_getElem hlt⟩
      obtain ⟨b, o, hA, _, hcc, _⟩ := HS.out.at_ hx
      have hxm : (xs.map DE.d)[k]? = some x.d := by rw [List.getElem?_map, hx]; rfl
      have HX := Lib.hid hxm
      have d1 : wr.cell? ⟨b, o + k * 11 + 1, none⟩ = some (.int .i64 x.d.tm) := hcc 1 _ rfl
      have j1 : (0 : Int) ≤ (k : Int) := by omega
      have j2 : (k : Int) < (xs.length : Int) := by omega
      have hlk : k ≤ 100000 := by omega
      subst hA
      clear hx hcc hxm hkg
      by_cases ht : x.d.tm ≤ now
      · have q1 : decide (x.d.tm ≤ now) = true := decide_eq_true ht
        have HTT := Lib.hid ht
        clear ht HEND
        go_wp2_with fail
        go_roundg g
        case measure => omega
        case rel => exact ⟨k + 1, by have := HK.out; omega, by go_num, (fun j z hj hz => by
          rcases Nat.lt_succ_iff_lt_or_eq.1 hj with h' | rfl
          · exact HD.out j z h' hz
          · rw [HX.out] at hz; rw [← Option.some.inj hz]; exact HTT.out), rfl⟩
      · have q1 : decide (x.d.tm ≤ now) = false := decide_eq_false ht
        have HE2 := Lib.hid (HEND.out (fun z hz => by rw [HX.out] at hz; rw [← Option.some.inj hz]; omega))
        have k2 : (k : Int) ≤ (xs.length : Int) := by omega
        have k3 : (k : Int) ≤ (c : Int) := by have := HC.out; omega
        clear ht HEND
        go_upto_region 4 with fail
        obtain ⟨AD, hAD⟩ : ∃ AD : Option Addr, AD = (if c = k then (some ⟨b, o, none⟩) else (some (⟨b, o, none⟩ : Addr)).map (fun a : Addr => a.add (k * 11))) := ⟨_, rfl⟩
        obtain ⟨nd, hnd⟩ : ∃ nd, nd = xs.length - k := ⟨_, rfl⟩
        obtain ⟨cd, hcd⟩ : ∃ cd, cd = c - k := ⟨_, rfl⟩
        have HDE : Hid (Value.slice AD nd cd = .slice (if c = k then (some ⟨b, o, none⟩) else (some (⟨b, o, none⟩ : Addr)).map (fun a : Addr => a.add (k * 11))) (xs.length - k) (c - k)) := Lib.hid (by rw [hAD, hnd, hcd])
        have HE3 : Hid (∀ w', Below wr.heap.size wr w' → RetCut (xs.map DE.d) now wr (.returned (.tuple #[.slice (some ⟨b, o, none⟩) k c, .slice AD nd cd])) w') := Lib.hid (by rw [HDE.out]; exact HE2.out)
        clear hAD hnd hcd HE2
        have B_wr : Hid (Below wr.heap.size wr wr) := Lib.hid (Below.refl _ _)
        obtain ⟨z1, hz1⟩ : ∃ z1, z1 = World.drew wr := ⟨_, rfl⟩
        have hbD : Below wr.heap.size wr z1 := by rw [hz1]; exact (Below.refl _ _).drew
        have B_z1 : Hid (Below wr.heap.size wr z1) := Lib.hid (stepB B_wr.out hbD)
        clear B_wr
        have hbd : (fun w' => Below wr.heap.size wr w') (World.drew wr) := by rw [← hz1]; exact B_z1.out
        have hSD : (fun w' => Below wr.heap.size wr w') z1 := B_z1.out
        have HWD := Lib.hid hz1
        clear hz1 hbD
        refine wp_region_held_drew (S := fun w' => Below wr.heap.size wr w') (by kernel_rfl) hbd (fun hHeld => ?_)
        rw [← HWD.out]
        clear hHeld
        have hHeld := hSD
        clear hSD hbd HWD
        refine wpAnyH_take (i := 0) (v := .slice (some ⟨b, o, none⟩) xs.length c) (get_ops _ _ _ rfl) (by kernel_rfl) (by kernel_rfl) (by kernel_rfl) (fun _ _ _ h => h) (Or.inl ⟨by rfl, fun wS hSw => by (try dsimp only at hSw); go_simp⟩) hHeld ?_
        try simp only [Act.put, List.setIfInBounds_toArray, List.set_cons_zero, List.set_cons_succ]
        refine wpAnyH_take (i := 1) (v := .int .i64 k) (get_ops _ _ _ rfl) (by kernel_rfl) (by kernel_rfl) (by kernel_rfl) (fun _ _ _ h => h) (Or.inl ⟨by rfl, fun wS hSw => by (try dsimp only at hSw); go_simp⟩) hHeld ?_
        try simp only [Act.put, List.setIfInBounds_toArray, List.set_cons_zero, List.set_cons_succ]
        refine wpAnyH_take (i := 2) (v := .slice (some ⟨b, o, none⟩) k c) (get_ops _ _ _ rfl) (by kernel_rfl) (by kernel_rfl) (by kernel_rfl) (fun _ _ _ h => h) (Or.inl ⟨by rfl, fun wS hSw => by (try dsimp only at hSw); go_simp⟩) hHeld ?_
        try simp only [Act.put, List.setIfInBounds_toArray, List.set_cons_zero, List.set_cons_succ]
        refine wpAnyH_take (i := 3) (v := .slice (some ⟨b, o, none⟩) xs.length c) (get_ops _ _ _ rfl) (by kernel_rfl) (by kernel_rfl) (by kernel_rfl) (fun _ _ _ h => h) (Or.inl ⟨by rfl, fun wS hSw => by (try dsimp only at hSw); go_simp⟩) hHeld ?_
        try simp only [Act.put, List.setIfInBounds_toArray, List.set_cons_zero, List.set_cons_succ]
        refine wpAnyH_take (i := 4) (v := .int .i64 k) (get_ops _ _ _ rfl) (by kernel_rfl) (by kernel_rfl) (by kernel_rfl) (fun _ _ _ h => h) (Or.inl ⟨by rfl, fun wS hSw => by (try dsimp only at hSw); go_simp⟩) hHeld ?_
        try simp only [Act.put, List.setIfInBounds_toArray, List.set_cons_zero, List.set_cons_succ]
        refine wpAnyH_take (i := 5) (v := (.slice AD nd cd)) (get_ops _ _ _ rfl) (by kernel_rfl) (by kernel_rfl) (by kernel_rfl) (fun _ _ _ h => h) (Or.inl ⟨by rfl, fun wS hSw => by (try dsimp only at hSw); rw [HDE.out]; go_simp⟩) hHeld ?_
        try simp only [Act.put, List.setIfInBounds_toArray, List.set_cons_zero, List.set_cons_succ]
        refine wpAnyH_take (i := 6) (v := .slice (some ⟨b, o, none⟩) k c) (get_ops _ _ _ rfl) (by kernel_rfl) (by kernel_rfl) (by kernel_rfl) (fun _ _ _ h => h) (Or.inl ⟨by rfl, fun wS hSw => by (try dsimp only at hSw); go_simp⟩) hHeld ?_
        try simp only [Act.put, List.setIfInBounds_toArray, List.set_cons_zero, List.set_cons_succ]
        refine wpAnyH_take (i := 7) (v := (.slice AD nd cd)) (get_ops _ _ _ rfl) (by kernel_rfl) (by kernel_rfl) (by kernel_rfl) (fun _ _ _ h => h) (Or.inl ⟨by rfl, fun wS hSw => by (try dsimp only at hSw); go_simp⟩) hHeld ?_
        try simp only [Act.put, List.setIfInBounds_toArray, List.set_cons_zero, List.set_cons_succ]
        refine wpAnyH_done (by kernel_rfl) ?_ _
        go_wp2_with fail
        go_ret2
        exact HE3.out _ B_z1.out
end Go.Proofs.YtoakhkiiefiebabDoor
namespace Go.Proofs.YtoakhkiiefiebabDoor
open Go.RowKit
open S2 (BK Put)

theorem bef_le {x y : Du} (h : befR x y = true) : x.tm ≤ y.tm := by
  unfold befR at h
  simp only [Bool.or_eq_true, Bool.and_eq_true, decide_eq_true_eq] at h
  rcases h with h | ⟨h, _⟩ <;> omega
theorem valid_asc {l : List Du} (h : ValidD l) : AscD l := fun i j x y hx hy hij => by
  obtain ⟨n, rfl⟩ : ∃ n, j = i + 1 + n := ⟨j - i - 1, by omega⟩
  clear hij
  induction n generalizing y with
  | zero => exact (h _ y hy).2.1 i x rfl hx
  | succ n ih =>
    obtain ⟨z, hz⟩ : ∃ z, l[i + 1 + n]? = some z := ⟨_, List.getElem?_eq_getElem (by have := (List.getElem?_eq_some_iff.1 hy).1; omega)⟩
    exact bef_trans (ih z hz) ((h _ y hy).2.1 (i + 1 + n) z (by omega) hz)
theorem cut_due {l : List Du} {now : Int} {i : Nat} (hv : ValidD l) (hc : Cut l now i) : dueR now l = l.take i ∧ laterR now l = l.drop i := by
  have h2 : ∀ k x, i ≤ k → l[k]? = some x → now < x.tm := fun k x hk hx => by
    obtain ⟨z, hz⟩ : ∃ z, l[i]? = some z := ⟨_, List.getElem?_eq_getElem (by have := (List.getElem?_eq_some_iff.1 hx).1; omega)⟩
    have h3 := hc.later z hz
    by_cases e : k = i
    · subst e; rw [hz] at hx; rw [← Option.some.inj hx]; exact h3
    · have := bef_le (valid_asc hv i k z x hz hx (by omega)); omega
  have e1 : dueR now l = l.take i := filter_pre _ l i hc.le (fun k x hk hx => decide_eq_true (hc.due k x hk hx)) (fun k x hk hx => decide_eq_false (by have := h2 k x hk hx; omega))
  refine ⟨e1, ?_⟩
  unfold laterR
  conv => lhs; rw [← List.take_append_drop i l]
  rw [List.filter_append]
  have f1 : (l.take i).filter (fun x => !decide (x.tm ≤ now)) = [] := List.filter_eq_nil_iff.2 (fun x hx => by
    obtain ⟨k, hk⟩ := List.mem_iff_getElem?.1 hx
    rw [List.getElem?_take] at hk
    split at hk
    · next hki => have := hc.due k x hki hk; simp; omega
    · cases hk)
  have f2 : (l.drop i).filter (fun x => !decide (x.tm ≤ now)) = l.drop i := List.filter_eq_self.2 (fun x hx => by
    obtain ⟨k, hk⟩ := List.mem_iff_getElem?.1 hx
    rw [List.getElem?_drop] at hk
    have := h2 (i + k) x (by omega) hk
    simp; omega)
  rw [f1, f2, List.nil_append]
theorem same_trueD (A : Option Addr) (c : Nat) (ys : List DE) (A' : Option Addr) (c' : Nat) (zs : List DE) (w : World) (L : List Du) (hy : ys.map DE.d = L) (hz : zs.map DE.d = L) (h1 : DI w w.heap.size A ys) (h2 : DI w w.heap.size A' zs) (hl : L.length ≤ 100000) (hL : ∀ x ∈ L, x.m.props.length ≤ 4398046511104) :
    Calls Tryd.prog 7 #[.slice A ys.length c, .slice A' zs.length c'] w fun e w' => e = .returned (.bool true) ∧ Below w.heap.size w w' := by
  have := rSameD_any A c ys A' c' zs w h1 h2 (by have h9 := congrArg List.length hy; rw [List.length_map] at h9; omega) (fun x hx => hL x.d (by rw [← hy]; exact List.mem_map_of_mem hx))
  rwa [decide_eq_true (by rw [hy, hz])] at this

end Go.Proofs.YtoakhkiiefiebabDoor
namespace Go.Proofs.YtoakhkiiefiebabDoor
open Go.RowKit
open S2 (BK Put)

def offR (l : List Du) (cl : ByteArray) : List Du := l.filter (fun x => !decide (x.cl = cl))
set_option maxRecDepth 20000 in
set_option maxHeartbeats 4000000 in
theorem rCancel_any (A : Option Addr) (c : Nat) (xs : List DE) (cl : ByteArray) (w : World) (hsl : DI w w.heap.size A xs) (hn : xs.length ≤ 90000) :
    Calls Tryd.prog 10 #[.slice A xs.length c, .string cl] w (RetDB (offR (xs.map DE.d) cl) (decide ((offR (xs.map DE.d) cl).length < xs.length)) w) := by
  have HS := Lib.hid hsl
  clear hsl
  go_enter Tryd.func10, Tryd.ntmps10
  go_wp2_with fail
  go_loopg [6, 7] xs.length (fun g u6 v wr => ∃ (k : Nat) (fs : List DE), k + g = xs.length ∧ v = .int .i64 k ∧ fs.map DE.d = offR ((xs.map DE.d).take k) cl ∧ fs.length ≤ k ∧ (∀ x ∈ fs, x ∈ xs) ∧ OwnD wr w.heap.size u6 fs ∧ Below w.heap.size w wr)
  case atStart => exact ⟨0, [], by omega, rfl, rfl, Nat.le_refl _, (fun x h => by cases h), OwnG.nil _ _, Below.refl _ _⟩
  case round =>
    obtain ⟨k, fs, hkg, rfl, hfs, hfl, hin, hown, hb0⟩ := hrel
    have HF := Lib.hid hfs
    have HFL := Lib.hid hfl
    have HIN := Lib.hid hin
    have HO := Lib.hid hown
    have HB0 := Lib.hid hb0
    have HK := Lib.hid hkg
    clear hfs hfl hin hown hb0
    cases gk with
    | zero =>
      obtain rfl : k = xs.length := by omega
      obtain ⟨A1, c1, rfl, hc1, hgl⟩ := OwnG.ret gD_len HO.out
      have e9 : (xs.map DE.d).take xs.length = xs.map DE.d := List.take_of_length_le (by simp)
      have HFX : Hid (fs.map DE.d = offR (xs.map DE.d) cl) := Lib.hid (by rw [HF.out, e9])
      obtain ⟨nf, hnf⟩ : ∃ n, n = fs.length := ⟨_, rfl⟩
      have HNF : Hid ((offR (xs.map DE.d) cl).length = nf) := Lib.hid (by rw [← HFX.out, List.length_map, hnf])
      have HL := Lib.hid (And.intro hc1 (show DI wr wr.heap.size A1 fs from ⟨hgl, fun x hx => (HS.out.2 x (HIN.out x hx)).below HB0.out |>.more HB0.out.size⟩))
      have HNE := Lib.hid hnf
      have hi : decide ((nf : Int) < (xs.length : Int)) = decide (nf < xs.length) := by
        rw [Bool.eq_iff_iff, decide_eq_true_eq, decide_eq_true_eq]; omega
      rw [← hnf]
      clear hkg hc1 hgl e9 hnf
      go_wp2
      go_ret2
      refine ⟨A1, c1, fs, ?_, HFX.out, HL.out.1, HL.out.2, HB0.out⟩
      rw [HNF.out, ← HNE.out]
      first
        | rfl
        | (rw [← hi]; rfl)
    | succ gk =>
      have hlt : k < xs.length := by omega
      have e3 : decide ((k : Int) < (xs.length : Int)) = true := decide_eq_true (by omega)
      have e3' : decide (k < xs.length) = true := decide_eq_true hlt
      obtain ⟨x, hx⟩ : ∃ x, xs[k]? = some x := ⟨_, List.getElem?_eq_getElem hlt⟩
      obtain ⟨b, o, hA, hbB, hc, hpl⟩ := (HS.out.step HB0.out).at_ hx
      have HLD := Lib.hid (load_due hc)
      have hxm : (xs.map DE.d)[k]? = some x.d := by rw [List.getElem?_map, hx]; rfl
      have HXM := Lib.hid (And.intro hxm (List.mem_of_getElem? hx))
      have d0 : wr.cell? ⟨b, o + k * 11, none⟩ = some (.string x.d.cl) := by have := hc 0 _ rfl; simpa using this
      subst hA
      have j1 : (0 : Int) ≤ (k : Int) := by omega
      have j2 : (k : Int) < (xs.length : Int) := by omega
      have hlk : k ≤ 90000 := by omega
      have q0 := str_eqb x.d.cl cl
      have q0' : (x.d.cl.toList != cl.toList) = !decide (x.d.cl = cl) := by unfold bne; rw [q0]
      clear hx hc hpl hbB hkg hxm
      by_cases he : x.d.cl = cl
      · have q9 : decide (x.d.cl = cl) = true := decide_eq_true he
        rw [q9] at q0 q0'
        have HQ := Lib.hid q9
        clear he
        go_wp2_with fail
        go_roundg gk
        case measure => omega
        case rel => exact ⟨k + 1, fs, by have := HK.out; omega, by go_num, by rw [HF.out, List.take_add_one, HXM.out.1]; simp [offR, HQ.out], by have := HFL.out; omega, HIN.out, HO.out, HB0.out⟩
      · have q9 : decide (x.d.cl = cl) = false := decide_eq_false he
        rw [q9] at q0 q0'
        have HQ := Lib.hid q9
        clear he
        unfold dV gD at HLD
        go_wp2_with first
          | (refine wpList_load_v (by rfl) 45 _ rfl ⟨b, o + k * 11, none⟩ (by go_simp) _ HLD.out ?_)
          | (at_builtin; refine wpList_app1 gD_len gD_one (by decide) wr rfl _ _ 23 rfl (.agg (gD DE.zero).toArray) 136 Tryd.underlying23 dueInfo rfl (by decide) w.heap.size u6 fs x (by rfl) HO.out (by rfl) w HB0.out HB0.out.size (by have := HFL.out; omega) ?_; intro v5 w5 hown5 hb5 hs5)
        have O5 := Lib.hid hown5
        have B5 := Lib.hid hb5
        clear hown5 hb5 hs5
        go_roundg gk
        case measure => omega
        case rel => exact ⟨k + 1, fs ++ [x], by have := HK.out; omega, by go_num, by rw [List.map_append, HF.out, List.take_add_one, HXM.out.1]; simp [offR, HQ.out], by have := HFL.out; simp; omega, (fun y hy => by
          rcases List.mem_append.1 hy with hy | hy
          · exact HIN.out y hy
          · simp at hy; subst hy; exact HXM.out.2), O5.out, B5.out⟩
end Go.Proofs.YtoakhkiiefiebabDoor
namespace Go.Proofs.YtoakhkiiefiebabDoor
open Go.RowKit
open S2 (BK Put)

theorem can_other {l : List Du} (cl : ByteArray) (h : ∀ x ∈ l, x.cl ≠ cl) : canR l cl = l ∧ hasR l cl = false ∧ offR l cl = l := by
  have h1 : ∀ x ∈ l, decide (x.cl = cl) = false := fun x hx => decide_eq_false (h x hx)
  refine ⟨?_, ?_, ?_⟩
  · unfold canR
    rw [List.findIdx_eq_length.2 h1]
    exact List.eraseIdx_of_length_le (Nat.le_refl _)
  · unfold hasR
    rw [List.any_eq_false]
    intro x hx
    simpa using h x hx
  · unfold offR
    refine List.filter_eq_self.2 (fun x hx => ?_)
    rw [h1 x hx]; rfl
theorem off_other (l : List Du) (cl : ByteArray) : ∀ x ∈ offR l cl, x.cl ≠ cl := fun x hx => by
  have := (List.mem_filter.1 hx).2
  simpa using this
theorem can_off {l : List Du} (cl : ByteArray) (h : l.Pairwise (fun x y => x.cl ≠ y.cl)) : canR l cl = offR l cl ∧ hasR l cl = decide ((offR l cl).length < l.length) := by
  have hl : ∀ l : List Du, (offR l cl).length ≤ l.length := fun l => List.length_filter_le _ _
  induction l with
  | nil => exact ⟨rfl, rfl⟩
  | cons a l ih =>
    obtain ⟨h1, h2⟩ := List.pairwise_cons.1 h
    obtain ⟨i1, i2⟩ := ih h2
    by_cases e : a.cl = cl
    · obtain ⟨o1, o2, o3⟩ := can_other (l := l) cl (fun x hx he => h1 x hx (by rw [e, he]))
      have e1 : offR (a :: l) cl = l := by
        have : offR (a :: l) cl = offR l cl := by unfold offR; rw [List.filter_cons_of_neg (by simp [e])]
        rw [this, o3]
      rw [e1]
      refine ⟨?_, ?_⟩
      · unfold canR
        rw [List.findIdx_cons]
        simp [e]
      · unfold hasR
        simp [e]
    · have e1 : offR (a :: l) cl = a :: offR l cl := by unfold offR; rw [List.filter_cons_of_pos (by simp [e])]
      rw [e1]
      refine ⟨?_, ?_⟩
      · rw [← i1]
        unfold canR
        rw [List.findIdx_cons]
        simp [e]
      · have : hasR (a :: l) cl = hasR l cl := by unfold hasR; simp [e]
        rw [this, i2]
        simp
theorem valid_apart {l : List Du} (h : ValidD l) : l.Pairwise (fun x y => x.cl ≠ y.cl) := by
  rw [List.pairwise_iff_getElem]
  intro i j hi hj hij
  exact (h j l[j] (List.getElem?_eq_getElem hj)).2.2 i l[i] hij (List.getElem?_eq_getElem hi)

end Go.Proofs.YtoakhkiiefiebabDoor
namespace Go.Proofs.YtoakhkiiefiebabDoor
open Go.RowKit
open S2 (BK Put)

theorem wpList_slice_v {P : Program} {ops : Array Oper} {rest : List Oper} {o : Oper} {a : Act} {w : World} {Q : Exit → Act → World → Prop} (hgd : Region.wanted o (yielded ops a.tmps) = true) (ty : TypeId) (x lo : Operand) (_ho : o.op = .slice ty x (some lo) none none)
    (v : Value) (hl : (execOp a.eval o).run P w = .ok (.value v) w) (h : wpList P ops Q rest (a.put o.dst v) w) : wpList P ops Q (o :: rest) a w :=
  wpList_wanted hgd fun _ hK => by
    unfold Oper.wp
    simp only [hl]
    exact hK _ _ h
def rarmR (l : List Du) (cl : ByteArray) (s : Bool) (d : Int) (m : Msg) (now : Int) : List Du := if s = false then offR l cl else insD (offR l cl) (newDu cl d m now)
set_option maxRecDepth 20000 in
set_option maxHeartbeats 4000000 in
theorem rArm_any (A : Option Addr) (c : Nat) (xs : List DE) (cl : ByteArray) (s : Bool) (d : Int) (m : Msg) (am : Option Addr) (cm : Nat) (now : Int) (w : World) (hsl : DI w w.heap.size A xs) (hn : xs.length ≤ 80000) (hm : PL w w.heap.size am m.props)
    (hb0 : 0 ≤ now ∧ now ≤ 1099511627776) (hb1 : s = true → 0 ≤ d ∧ d ≤ 1099511627776) (ha : s = true → AscD (offR (xs.map DE.d) cl)) :
    Calls Tryd.prog 8 #[.slice A xs.length c, .string cl, wiV s d m am cm, .int .i64 now] w (RetD1 (rarmR (xs.map DE.d) cl s d m now) w) := by
  have HCA := Lib.hid (fun w1 h => rCancel_any A c xs cl w1 h (by omega))
  have HS := Lib.hid hsl
  have HM := Lib.hid hm
  have HB1 := Lib.hid hb1
  have HA := Lib.hid ha
  have hle : (offR (xs.map DE.d) cl).length ≤ 80000 := by
    have h1 : (offR (xs.map DE.d) cl).length ≤ (xs.map DE.d).length := List.length_filter_le _ _
    rw [List.length_map] at h1; omega
  have HLE := Lib.hid hle
  obtain ⟨r, hr⟩ : ∃ r, offR (xs.map DE.d) cl = r := ⟨_, rfl⟩
  obtain ⟨R, hR⟩ : ∃ R, rarmR (xs.map DE.d) cl s d m now = R := ⟨_, rfl⟩
  rw [hR]
  have HR : Hid ((if s = false then r else insD r (newDu cl d m now)) = R) := Lib.hid (by rw [← hR, ← hr]; rfl)
  rw [hr] at HA HLE HCA
  obtain ⟨hh, hhE⟩ : ∃ b, decide (r.length < xs.length) = b := ⟨_, rfl⟩
  rw [hhE] at HCA
  clear hsl hm ha hle hr hR hb1 hn hhE
  go_enter Tryd.func8, Tryd.ntmps8
  go_upto_region 1 with fail
  refine name_world (C := fun w1 => Code.wp _ _ _ _ w1) (w.alloc (.cells (wiC s d m am cm).toArray 29)) ?_
  intro w1 hw1
  have hb1 : Below w.heap.size w w1 := by rw [hw1]; exact S2.below_new w _
  have V_w1 : Hid (BK 29 w1 w.heap.size (wiC s d m am cm)) := Lib.hid (by rw [hw1]; exact BK.new w _ _)
  have B_w1 := Lib.hid hb1
  clear hw1 hb1
  go_wp2_with fail
  refine (HCA.out w1 (HS.out.step B_w1.out)).mono ?_
  rintro e w2 ⟨A2, c2, ys, rfl, hys, hc2, hmi, hb⟩
  have V_w2 := Lib.hid (V_w1.out.step hb)
  have B_w2 := Lib.hid (stepB B_w1.out hb)
  have Y_w2 := Lib.hid hmi
  have HY := Lib.hid (And.intro hys hc2)
  have d0 := V_w2.out.cell 0 rfl
  have d1 := V_w2.out.cell 1 rfl
  have HLM := Lib.hid (load_wi_msg V_w2.out)
  unfold msgV at HLM
  have hyl : ys.length ≤ 80000 := by have h1 := congrArg List.length hys; rw [List.length_map] at h1; rw [h1]; exact HLE.out
  have HYL := Lib.hid hyl
  clear hb hmi hys hc2 V_w1 B_w1 HCA hyl
  cases s with
  | false =>
    have HRF : Hid (r = R) := Lib.hid (by have := HR.out; rwa [if_pos rfl] at this)
    go_wp2_with fail
    go_ret
    exact ⟨A2, c2, ys, rfl, by rw [HY.out.1, HRF.out], HY.out.2, Y_w2.out, B_w2.out⟩
  | true =>
    obtain ⟨x, hx⟩ : ∃ x : DE, x = ⟨newDu cl d m now, am, cm⟩ := ⟨_, rfl⟩
    have hdb := HB1.out rfl
    obtain ⟨at_, hat⟩ : ∃ a : Int, min (now + d) 1099511627776 = a := ⟨_, rfl⟩
    have HX : Hid (x.d = ⟨cl, at_, m⟩ ∧ x.a = am ∧ x.c = cm) := Lib.hid (by rw [hx, ← hat]; exact ⟨rfl, rfl, rfl⟩)
    have HXN : Hid (x.d = newDu cl d m now) := Lib.hid (by rw [hx])
    have HGX : Hid (gD x = [.string cl, .int .i64 at_, .string m.topic, .string m.payload, .int .i64 m.level, .bool m.retain, .int .i64 m.prio, .int .i64 m.exps, .string m.frm, .int .i64 m.seq, .slice am m.props.length cm]) := Lib.hid (by rw [hx, ← hat]; rfl)
    have HRT : Hid (insD r x.d = R) := Lib.hid (by have := HR.out; rw [if_neg (by simp)] at this; rw [HXN.out]; exact this)
    have HXP : Hid (PL w w.heap.size x.a x.d.m.props) := Lib.hid (by rw [HX.out.2.1, HX.out.1]; exact HM.out)
    have hwr : wrap64 (now + d) = now + d := S2.wrap64_id _ (by omega) (by omega)
    clear hx
    go_upto_region 5 with first
      | (refine wpList_load_v (by rfl) 27 _ rfl ⟨w.heap.size, 2, none⟩ (by first | rfl | go_simp) _ HLM.out ?_)
    refine name_world (C := fun w3 => Code.wp _ _ _ _ w3) (w2.alloc (.cells ([.string cl, .int .i64 at_, .string m.topic, .string m.payload, .int .i64 m.level, .bool m.retain, .int .i64 m.prio, .int .i64 m.exps, .string m.frm, .int .i64 m.seq, .slice am m.props.length cm] : List Value).toArray 45)) ?_
    intro w3 hw3
    have hb : Below w2.heap.size w2 w3 := by rw [hw3]; exact S2.below_new w2 _
    have X_w3 : Hid (BK 45 w3 w2.heap.size (gD x)) := Lib.hid (by rw [HGX.out, hw3]; exact BK.new w2 _ _)
    have Y_w3 : Hid (DI w3 w3.heap.size A2 ys) := Lib.hid (Y_w2.out.step hb)
    have B_w3 := Lib.hid (stepB B_w2.out hb)
    have HAS : Hid (AscD r) := Lib.hid (by first | exact HA.out rfl | exact HA.out trivial)
    have HBF := Lib.hid (fun y w1 => before_any y x w1)
    unfold dV at HBF
    clear hw3 hb Y_w2 B_w2 V_w2 HA HB1 HM HR hat hwr hdb d0 d1 HLM
    go_wp2_with fail
    go_loopg [12, 13] ys.length (fun g u12 v wr => ∃ k : Nat, k + g = ys.length ∧ v = .int .i64 k ∧ (∀ j y, j < k → r[j]? = some y → befR y x.d = true) ∧ OwnD wr w3.heap.size u12 (ys.take k) ∧ Below w3.heap.size w3 wr)
    case atStart => exact ⟨0, by omega, rfl, (fun j y h => absurd h (by omega)), OwnG.nil _ _, Below.refl _ _⟩
    case round =>
      obtain ⟨k, hkg, rfl, hpre, hown, hb0⟩ := hrel
      have HPRE := Lib.hid hpre
      have O_wr := Lib.hid hown
      have B_wr := Lib.hid hb0
      have HK := Lib.hid hkg
      have hrl : r.length = ys.length := by rw [← HY.out.1, List.length_map]
      have HRL := Lib.hid hrl
      clear hpre hown hb0 hrl
      cases gk with
      | zero =>
        have hke : k = ys.length := by omega
        have e3 : decide ((k : Int) < (ys.length : Int)) = false := decide_eq_false (by omega)
        have e3' : decide (k < ys.length) = false := decide_eq_false (by omega)
        have HPOS : Hid (posD r x.d = k) := Lib.hid (BsD.pos ⟨Nat.le_refl _, by rw [HRL.out]; omega, HPRE.out, fun j y hj hy => absurd (List.getElem?_eq_some_iff.1 hy).1 (by rw [HRL.out]; omega)⟩)
        clear hkg
        go_upto_region 7 with fail
        obtain ⟨p1, hp1⟩ : ∃ p1, p1 = World.drew wr := ⟨_, rfl⟩
        have hbD : Below wr.heap.size wr p1 := by rw [hp1]; exact (Below.refl _ _).drew
        have O_p1 : Hid (OwnD p1 w3.heap.size u12 (ys.take k)) := Lib.hid (O_wr.out.step hbD)
        have B_p1 : Hid (Below w3.heap.size w3 p1) := Lib.hid (stepB B_wr.out hbD)
        clear O_wr B_wr
        have hbd : (fun w' => Below w3.heap.size w3 w') (World.drew wr) := by rw [← hp1]; exact B_p1.out
        have hSD : (fun w' => Below w3.heap.size w3 w') p1 := B_p1.out
        have HWD := Lib.hid hp1
        clear hp1 hbD
        refine wp_region_held_drew (S := fun w' => Below w3.heap.size w3 w') (by kernel_rfl) hbd (fun hHeld => ?_)
        rw [← HWD.out]
        clear hHeld
        have hHeld := hSD
        clear hSD hbd HWD
        refine wpAnyH_take (i := 0) (v := .int .i64 k) (get_ops _ _ _ rfl) (by kernel_rfl) (by kernel_rfl) (by kernel_rfl) (fun _ _ _ h => h) (Or.inl ⟨by rfl, fun wS hSw => by (try dsimp only at hSw); go_simp⟩) hHeld ?_
        try simp only [Act.put, List.setIfInBounds_toArray, List.set_cons_zero, List.set_cons_succ]
        refine wpAnyH_take (i := 1) (v := .slice A2 ys.length c2) (get_ops _ _ _ rfl) (by kernel_rfl) (by kernel_rfl) (by kernel_rfl) (fun _ _ _ h => h) (Or.inl ⟨by rfl, fun wS hSw => by (try dsimp only at hSw); go_simp⟩) hHeld ?_
        try simp only [Act.put, List.setIfInBounds_toArray, List.set_cons_zero, List.set_cons_succ]
        refine wpAnyH_take (i := 2) (v := .int .i64 ys.length) (get_ops _ _ _ rfl) (by kernel_rfl) (by kernel_rfl) (by kernel_rfl) (fun _ _ _ h => h) (Or.inl ⟨by rfl, fun wS hSw => by (try dsimp only at hSw); go_simp⟩) hHeld ?_
        try simp only [Act.put, List.setIfInBounds_toArray, List.set_cons_zero, List.set_cons_succ]
        refine wpAnyH_take (i := 3) (v := .bool false) (get_ops _ _ _ rfl) (by kernel_rfl) (by kernel_rfl) (by kernel_rfl) (fun _ _ _ h => h) (Or.inl ⟨by rfl, fun wS hSw => by (try dsimp only at hSw); go_simp⟩) hHeld ?_
        try simp only [Act.put, List.setIfInBounds_toArray, List.set_cons_zero, List.set_cons_succ]
        refine wpAnyH_take (i := 4) (v := .bool false) (get_ops _ _ _ rfl) (by kernel_rfl) (by kernel_rfl) (by kernel_rfl) (fun _ _ _ h => h) (Or.inl ⟨by rfl, fun wS hSw => by (try dsimp only at hSw); go_simp⟩) hHeld ?_
        try simp only [Act.put, List.setIfInBounds_toArray, List.set_cons_zero, List.set_cons_succ]
        refine wpAnyH_take (i := 5) (v := undef) (get_ops _ _ _ rfl) (by kernel_rfl) (by kernel_rfl) (by kernel_rfl) (fun _ _ _ h => h) (Or.inr ⟨by rfl, rfl⟩) hHeld ?_
        try simp only [Act.put, List.setIfInBounds_toArray, List.set_cons_zero, List.set_cons_succ]
        refine wpAnyH_take (i := 6) (v := undef) (get_ops _ _ _ rfl) (by kernel_rfl) (by kernel_rfl) (by kernel_rfl) (fun _ _ _ h => h) (Or.inr ⟨by rfl, rfl⟩) hHeld ?_
        try simp only [Act.put, List.setIfInBounds_toArray, List.set_cons_zero, List.set_cons_succ]
        refine wpAnyH_take (i := 7) (v := undef) (get_ops _ _ _ rfl) (by kernel_rfl) (by kernel_rfl) (by kernel_rfl) (fun _ _ _ h => h) (Or.inr ⟨by rfl, rfl⟩) hHeld ?_
        try simp only [Act.put, List.setIfInBounds_toArray, List.set_cons_zero, List.set_cons_succ]
        refine wpAnyH_take (i := 8) (v := undef) (get_ops _ _ _ rfl) (by kernel_rfl) (by kernel_rfl) (by kernel_rfl) (fun _ _ _ h => h) (Or.inr ⟨by rfl, rfl⟩) hHeld ?_
        try simp only [Act.put, List.setIfInBounds_toArray, List.set_cons_zero, List.set_cons_succ]
        refine wpAnyH_take (i := 9) (v := undef) (get_ops _ _ _ rfl) (by kernel_rfl) (by kernel_rfl) (by kernel_rfl) (fun _ _ _ h => h) (Or.inr ⟨by rfl, rfl⟩) hHeld ?_
        try simp only [Act.put, List.setIfInBounds_toArray, List.set_cons_zero, List.set_cons_succ]
        refine wpAnyH_take (i := 10) (v := undef) (get_ops _ _ _ rfl) (by kernel_rfl) (by kernel_rfl) (by kernel_rfl) (fun _ _ _ h => h) (Or.inr ⟨by rfl, rfl⟩) hHeld ?_
        try simp only [Act.put, List.setIfInBounds_toArray, List.set_cons_zero, List.set_cons_succ]
        refine wpAnyH_take (i := 11) (v := .bool false) (get_ops _ _ _ rfl) (by kernel_rfl) (by kernel_rfl) (by kernel_rfl) (fun _ _ _ h => h) (Or.inl ⟨by rfl, fun wS hSw => by (try dsimp only at hSw); go_simp⟩) hHeld ?_
        try simp only [Act.put, List.setIfInBounds_toArray, List.set_cons_zero, List.set_cons_succ]
        refine wpAnyH_done (by kernel_rfl) ?_ _
        have hkl : k ≤ ys.length := by omega
        clear hke e3 e3'
        have X_t : Hid (BK 45 p1 w2.heap.size (gD x)) := Lib.hid (X_w3.out.step B_p1.out)
        have HDS : Hid (∀ w1, DI w1 w1.heap.size A2 ys → DI w1 w1.heap.size (if c2 = k then A2 else (A2).map (·.add (k * 11))) (ys.drop k)) := Lib.hid (fun w1 h => LI.drop h hkl HY.out.2)
        have HKL := Lib.hid hkl
        have hck : (k : Int) ≤ (c2 : Int) := by have := HY.out.2; omega
        have hk0 : (0 : Int) ≤ (k : Int) := by omega
        have hki : (k : Int) ≤ (ys.length : Int) := by omega
        have ht : (ys.take k).length = k := by rw [List.length_take]; omega
        have HT := Lib.hid ht
        obtain ⟨AD, hAD⟩ : ∃ AD, AD = (if c2 = k then A2 else (A2).map (·.add (k * 11))) := ⟨_, rfl⟩
        obtain ⟨cd, hcd⟩ : ∃ cd, cd = c2 - k := ⟨_, rfl⟩
        obtain ⟨ds, hds⟩ : ∃ ds, ds = ys.drop k := ⟨_, rfl⟩
        rw [← hAD, ← hds] at HDS
        have HDE : Hid (Value.slice AD ds.length cd = .slice (if c2 = k then A2 else (A2).map (·.add (k * 11))) (ys.length - k) (c2 - k)) := Lib.hid (by rw [hAD, hcd, hds, List.length_drop])
        have HDV := Lib.hid hds
        have HDL : Hid (ds.length + k = ys.length) := Lib.hid (by rw [hds, List.length_drop]; omega)
        clear hAD hcd hds ht hkl
        go_wp2_with first
          | (refine wpList_load_v (by rfl) 45 (.tmp 11) rfl ⟨w2.heap.size, 0, none⟩ rfl (.agg (gD x).toArray) (S2.run_load_all X_t.out Tryd.underlying45 rfl dueSize) ?_; simp only [gD])
          | (at_builtin; refine wpList_app1 gD_len gD_one (by decide) p1 rfl _ _ 23 rfl (.agg (gD DE.zero).toArray) 136 Tryd.underlying23 dueInfo rfl (by decide) w3.heap.size u12 (ys.take k) x (by rfl) O_p1.out (by rfl) w3 B_p1.out B_p1.out.size (by rw [HT.out]; have := HKL.out; have := HYL.out; omega) ?_; intro v5 w5 hown5 hb5 hs5; have O_w5 := Lib.hid hown5; have B_w5 := Lib.hid hb5; clear hown5 hb5 hs5)
          | (refine wpList_slice_v (by rfl) 23 _ _ rfl (.slice AD ds.length cd) (by rw [HDE.out]; go_simp) ?_)
          | (at_builtin; refine wpList_appG (g := gD) (k := 11) (e := 45) (by decide) w5 rfl _ _ 23 23 rfl (.agg (gD DE.zero).toArray) 136 Tryd.underlying23 dueInfo rfl (by decide) w3.heap.size _ (ys.take k ++ [x]) ds rfl O_w5.out _ rfl (GL.src gD_len gD_one ((HDS.out _ (LI.step Y_w3.out B_w5.out)).1) Tryd.underlying23 cd) w3 B_w5.out B_w5.out.size (by have := HDL.out; have := HT.out; have := HYL.out; simp; omega) ?_; intro v7 w7 hown7 hb7 hs7)
        obtain ⟨A7, c7, hv7, hc7, hgl7⟩ := OwnG.ret gD_len hown7
        subst hv7
        have HF : Hid ((ys.take k ++ [x] ++ ds).map DE.d = R) := Lib.hid (by
          rw [← HRT.out]; unfold insD; rw [HPOS.out, HDV.out, ← HY.out.1]; simp [List.map_take, List.map_drop])
        have D_w7 : Hid (DI w7 w7.heap.size A7 (ys.take k ++ [x] ++ ds)) := Lib.hid ⟨hgl7, fun z hz => by
          rcases List.mem_append.1 hz with hz | hz
          · rcases List.mem_append.1 hz with hz | hz
            · exact (Y_w3.out.2 z (List.mem_of_mem_take hz)).step hb7
            · simp at hz; subst hz; exact GL.step HXP.out (stepB B_w3.out hb7)
          · rw [HDV.out] at hz; exact (Y_w3.out.2 z (List.mem_of_mem_drop hz)).step hb7⟩
        have E7 := Lib.hid (And.intro hc7 (stepB B_w3.out hb7))
        clear hown7 hb7 hs7 hc7 hgl7
        generalize ys.take k ++ [x] ++ ds = zs at *
        go_wp2
        go_ret
        exact ⟨A7, c7, zs, rfl, HF.out, E7.out.1, D_w7.out, E7.out.2⟩
      | succ gk =>
        have hlt : k < ys.length := by omega
        have e3 : decide ((k : Int) < (ys.length : Int)) = true := decide_eq_true (by omega)
        have e3' : decide (k < ys.length) = true := decide_eq_true hlt
        obtain ⟨y, hy⟩ : ∃ y, ys[k]? = some y := ⟨_, List.getElem?_eq_getElem hlt⟩
        obtain ⟨b, o, hA2, hbB, hc, hpl⟩ := (Y_w3.out.step B_wr.out).at_ hy
        have hym : r[k]? = some y.d := by rw [← HY.out.1, List.getElem?_map, hy]; rfl
        have HYM := Lib.hid hym
        have HYK := Lib.hid hy
        have C_wr : Hid (b < wr.heap.size ∧ ∀ i v, (gD y)[i]? = some v → wr.cell? ⟨b, o + k * 11 + i, none⟩ = some v) := Lib.hid ⟨hbB, hc⟩
        have X_wr : Hid (BK 45 wr w2.heap.size (gD x)) := Lib.hid (X_w3.out.step B_wr.out)
        have HA2 := Lib.hid hA2
        have j1 : (0 : Int) ≤ (k : Int) := by omega
        have j2 : (k : Int) < (ys.length : Int) := by omega
        have hlk : k ≤ 80000 := by have := HYL.out; omega
        obtain ⟨bE, hbE⟩ : ∃ q, befR y.d x.d = q := ⟨_, rfl⟩
        have hcal := HBF.out y
        rw [hbE] at hcal
        have HCL := Lib.hid hcal
        have HBB := Lib.hid hbE
        clear hy hc hpl hbB hkg hym hbE hcal
        subst hA2
        go_upto_region 7 with fail
        obtain ⟨q1, hq1⟩ : ∃ q1, q1 = World.drew wr := ⟨_, rfl⟩
        have hbD : Below wr.heap.size wr q1 := by rw [hq1]; exact (Below.refl _ _).drew
        have C_q1 : Hid ((b < q1.heap.size ∧ ∀ i v, (gD y)[i]? = some v → q1.cell? ⟨b, o + k * 11 + i, none⟩ = some v)) := Lib.hid (⟨Nat.lt_of_lt_of_le C_wr.out.1 hbD.size, fun i u hu => (hbD.cell (p := ⟨b, o + k * 11 + i, none⟩) C_wr.out.1).trans (C_wr.out.2 i u hu)⟩)
        have X_q1 : Hid (BK 45 q1 w2.heap.size (gD x)) := Lib.hid (X_wr.out.step hbD)
        have O_q1 : Hid (OwnD q1 w3.heap.size u12 (ys.take k)) := Lib.hid (O_wr.out.step hbD)
        have B_q1 : Hid (Below w3.heap.size w3 q1) := Lib.hid (stepB B_wr.out hbD)
        clear C_wr X_wr O_wr B_wr
        have hbd : (fun w' => (b < w'.heap.size ∧ ∀ i v, (gD y)[i]? = some v → w'.cell? ⟨b, o + k * 11 + i, none⟩ = some v) ∧ BK 45 w' w2.heap.size (gD x)) (World.drew wr) := by rw [← hq1]; exact ⟨C_q1.out, X_q1.out⟩
        have hSD : (fun w' => (b < w'.heap.size ∧ ∀ i v, (gD y)[i]? = some v → w'.cell? ⟨b, o + k * 11 + i, none⟩ = some v) ∧ BK 45 w' w2.heap.size (gD x)) q1 := ⟨C_q1.out, X_q1.out⟩
        have HWD := Lib.hid hq1
        clear hq1 hbD
        refine wp_region_held_drew (S := fun w' => (b < w'.heap.size ∧ ∀ i v, (gD y)[i]? = some v → w'.cell? ⟨b, o + k * 11 + i, none⟩ = some v) ∧ BK 45 w' w2.heap.size (gD x)) (by kernel_rfl) hbd (fun hHeld => ?_)
        rw [← HWD.out]
        clear hHeld
        have hHeld := hSD
        clear hSD hbd HWD
        refine wpAnyH_take (i := 0) (v := .int .i64 k) (get_ops _ _ _ rfl) (by kernel_rfl) (by kernel_rfl) (by kernel_rfl) (fun _ _ _ h => h) (Or.inl ⟨by rfl, fun wS hSw => by (try dsimp only at hSw); go_simp⟩) hHeld ?_
        try simp only [Act.put, List.setIfInBounds_toArray, List.set_cons_zero, List.set_cons_succ]
        refine wpAnyH_take (i := 1) (v := .slice (some (⟨b, o, none⟩ : Addr)) ys.length c2) (get_ops _ _ _ rfl) (by kernel_rfl) (by kernel_rfl) (by kernel_rfl) (fun _ _ _ h => h) (Or.inl ⟨by rfl, fun wS hSw => by (try dsimp only at hSw); go_simp⟩) hHeld ?_
        try simp only [Act.put, List.setIfInBounds_toArray, List.set_cons_zero, List.set_cons_succ]
        refine wpAnyH_take (i := 2) (v := .int .i64 ys.length) (get_ops _ _ _ rfl) (by kernel_rfl) (by kernel_rfl) (by kernel_rfl) (fun _ _ _ h => h) (Or.inl ⟨by rfl, fun wS hSw => by (try dsimp only at hSw); go_simp⟩) hHeld ?_
        try simp only [Act.put, List.setIfInBounds_toArray, List.set_cons_zero, List.set_cons_succ]
        refine wpAnyH_take (i := 3) (v := .bool true) (get_ops _ _ _ rfl) (by kernel_rfl) (by kernel_rfl) (by kernel_rfl) (fun _ _ _ h => h) (Or.inl ⟨by rfl, fun wS hSw => by (try dsimp only at hSw); go_simp⟩) hHeld ?_
        try simp only [Act.put, List.setIfInBounds_toArray, List.set_cons_zero, List.set_cons_succ]
        refine wpAnyH_take (i := 4) (v := .bool true) (get_ops _ _ _ rfl) (by kernel_rfl) (by kernel_rfl) (by kernel_rfl) (fun _ _ _ h => h) (Or.inl ⟨by rfl, fun wS hSw => by (try dsimp only at hSw); go_simp⟩) hHeld ?_
        try simp only [Act.put, List.setIfInBounds_toArray, List.set_cons_zero, List.set_cons_succ]
        refine wpAnyH_take (i := 5) (v := .slice (some (⟨b, o, none⟩ : Addr)) ys.length c2) (get_ops _ _ _ rfl) (by kernel_rfl) (by kernel_rfl) (by kernel_rfl) (fun _ _ _ h => h) (Or.inl ⟨by rfl, fun wS hSw => by (try dsimp only at hSw); go_simp⟩) hHeld ?_
        try simp only [Act.put, List.setIfInBounds_toArray, List.set_cons_zero, List.set_cons_succ]
        refine wpAnyH_take (i := 6) (v := .int .i64 k) (get_ops _ _ _ rfl) (by kernel_rfl) (by kernel_rfl) (by kernel_rfl) (fun _ _ _ h => h) (Or.inl ⟨by rfl, fun wS hSw => by (try dsimp only at hSw); go_simp⟩) hHeld ?_
        try simp only [Act.put, List.setIfInBounds_toArray, List.set_cons_zero, List.set_cons_succ]
        refine wpAnyH_take (i := 7) (v := .pointer (some ⟨b, o + k * 11, none⟩)) (get_ops _ _ _ rfl) (by kernel_rfl) (by kernel_rfl) (by kernel_rfl) (fun _ _ _ h => h) (Or.inl ⟨by rfl, fun wS hSw => by (try dsimp only at hSw); go_simp⟩) hHeld ?_
        try simp only [Act.put, List.setIfInBounds_toArray, List.set_cons_zero, List.set_cons_succ]
        refine wpAnyH_take (i := 8) (v := (.agg (gD y).toArray)) (get_ops _ _ _ rfl) (by kernel_rfl) (by kernel_rfl) (by kernel_rfl) (fun _ _ _ h => h) (Or.inl ⟨by rfl, fun wS hSw => by (try dsimp only at hSw); exact exec_load 45 _ rfl ⟨b, o + k * 11, none⟩ (by go_simp) _ (load_due hSw.1.2)⟩) hHeld ?_
        try simp only [Act.put, List.setIfInBounds_toArray, List.set_cons_zero, List.set_cons_succ]
        refine wpAnyH_take (i := 9) (v := (.agg (gD x).toArray)) (get_ops _ _ _ rfl) (by kernel_rfl) (by kernel_rfl) (by kernel_rfl) (fun _ _ _ h => h) (Or.inl ⟨by rfl, fun wS hSw => by (try dsimp only at hSw); exact exec_load 45 _ rfl ⟨w2.heap.size, 0, none⟩ (by go_simp) _ (S2.run_load_all hSw.2 Tryd.underlying45 rfl dueSize)⟩) hHeld ?_
        try simp only [Act.put, List.setIfInBounds_toArray, List.set_cons_zero, List.set_cons_succ]
        refine wpAnyH_ready (rs := [10]) (by kernel_rfl) (by simp) ?_
        refine (AllReadyH.cons (get_ops _ _ _ rfl) (fun K hK => ?_) AllReadyH.nil)
        go_simp
        refine (HCL.out q1).mono ?_
        rintro e q2 ⟨rfl, hb⟩
        have C_q2 : Hid ((b < q2.heap.size ∧ ∀ i v, (gD y)[i]? = some v → q2.cell? ⟨b, o + k * 11 + i, none⟩ = some v)) := Lib.hid (⟨Nat.lt_of_lt_of_le C_q1.out.1 hb.size, fun i u hu => (hb.cell (p := ⟨b, o + k * 11 + i, none⟩) C_q1.out.1).trans (C_q1.out.2 i u hu)⟩)
        have X_q2 : Hid (BK 45 q2 w2.heap.size (gD x)) := Lib.hid (X_q1.out.step hb)
        have O_q2 : Hid (OwnD q2 w3.heap.size u12 (ys.take k)) := Lib.hid (O_q1.out.step hb)
        have B_q2 : Hid (Below w3.heap.size w3 q2) := Lib.hid (stepB B_q1.out hb)
        clear C_q1 X_q1 O_q1 B_q1
        clear hHeld hb
        go_wp2_with fail
        refine hK.out _ _ ⟨C_q2.out, X_q2.out⟩ (fun hHeld => ?_)
        clear hK K
        try simp only [Act.put, List.setIfInBounds_toArray, List.set_cons_zero, List.set_cons_succ]
        refine wpAnyH_take (i := 11) (v := .bool bE) (get_ops _ _ _ rfl) (by kernel_rfl) (by kernel_rfl) (by kernel_rfl) (fun _ _ _ h => h) (Or.inl ⟨by rfl, fun wS hSw => by (try dsimp only at hSw); go_simp⟩) hHeld ?_
        try simp only [Act.put, List.setIfInBounds_toArray, List.set_cons_zero, List.set_cons_succ]
        refine wpAnyH_done (by kernel_rfl) ?_ _
        cases bE with
        | false =>
          have HPOS : Hid (posD r x.d = k) := Lib.hid (by
            have h0 : BsD r x.d k r.length := ⟨by rw [HRL.out]; omega, Nat.le_refl _, HPRE.out, fun j z hj hz => absurd (List.getElem?_eq_some_iff.1 hz).1 (by omega)⟩
            exact (h0.notless HAS.out (Nat.le_refl _) (by rw [HRL.out]; omega) HYM.out HBB.out).pos)
          have hkl : k ≤ ys.length := by omega
          clear hlt e3 e3' j1 j2 hlk
          have X_t : Hid (BK 45 q2 w2.heap.size (gD x)) := Lib.hid (X_w3.out.step B_q2.out)
          have HDS : Hid (∀ w1, DI w1 w1.heap.size (some (⟨b, o, none⟩ : Addr)) ys → DI w1 w1.heap.size (if c2 = k then (some (⟨b, o, none⟩ : Addr)) else ((some (⟨b, o, none⟩ : Addr))).map (·.add (k * 11))) (ys.drop k)) := Lib.hid (fun w1 h => LI.drop h hkl HY.out.2)
          have HKL := Lib.hid hkl
          have hck : (k : Int) ≤ (c2 : Int) := by have := HY.out.2; omega
          have hk0 : (0 : Int) ≤ (k : Int) := by omega
          have hki : (k : Int) ≤ (ys.length : Int) := by omega
          have ht : (ys.take k).length = k := by rw [List.length_take]; omega
          have HT := Lib.hid ht
          obtain ⟨AD, hAD⟩ : ∃ AD, AD = (if c2 = k then (some (⟨b, o, none⟩ : Addr)) else ((some (⟨b, o, none⟩ : Addr))).map (·.add (k * 11))) := ⟨_, rfl⟩
          obtain ⟨cd, hcd⟩ : ∃ cd, cd = c2 - k := ⟨_, rfl⟩
          obtain ⟨ds, hds⟩ : ∃ ds, ds = ys.drop k := ⟨_, rfl⟩
          rw [← hAD, ← hds] at HDS
          have HDE : Hid (Value.slice AD ds.length cd = .slice (if c2 = k then (some (⟨b, o, none⟩ : Addr)) else ((some (⟨b, o, none⟩ : Addr))).map (·.add (k * 11))) (ys.length - k) (c2 - k)) := Lib.hid (by rw [hAD, hcd, hds, List.length_drop])
          have HDV := Lib.hid hds
          have HDL : Hid (ds.length + k = ys.length) := Lib.hid (by rw [hds, List.length_drop]; omega)
          clear hAD hcd hds ht hkl
          go_wp2_with first
            | (refine wpList_load_v (by rfl) 45 (.tmp 11) rfl ⟨w2.heap.size, 0, none⟩ rfl (.agg (gD x).toArray) (S2.run_load_all X_t.out Tryd.underlying45 rfl dueSize) ?_; simp only [gD])
            | (at_builtin; refine wpList_app1 gD_len gD_one (by decide) q2 rfl _ _ 23 rfl (.agg (gD DE.zero).toArray) 136 Tryd.underlying23 dueInfo rfl (by decide) w3.heap.size u12 (ys.take k) x (by rfl) O_q2.out (by rfl) w3 B_q2.out B_q2.out.size (by rw [HT.out]; have := HKL.out; have := HYL.out; omega) ?_; intro v5 w5 hown5 hb5 hs5; have O_w5 := Lib.hid hown5; have B_w5 := Lib.hid hb5; clear hown5 hb5 hs5)
            | (refine wpList_slice_v (by rfl) 23 _ _ rfl (.slice AD ds.length cd) (by rw [HDE.out]; go_simp) ?_)
            | (at_builtin; refine wpList_appG (g := gD) (k := 11) (e := 45) (by decide) w5 rfl _ _ 23 23 rfl (.agg (gD DE.zero).toArray) 136 Tryd.underlying23 dueInfo rfl (by decide) w3.heap.size _ (ys.take k ++ [x]) ds rfl O_w5.out _ rfl (GL.src gD_len gD_one ((HDS.out _ (LI.step Y_w3.out B_w5.out)).1) Tryd.underlying23 cd) w3 B_w5.out B_w5.out.size (by have := HDL.out; have := HT.out; have := HYL.out; simp; omega) ?_; intro v7 w7 hown7 hb7 hs7)
          obtain ⟨A7, c7, hv7, hc7, hgl7⟩ := OwnG.ret gD_len hown7
          subst hv7
          have HF : Hid ((ys.take k ++ [x] ++ ds).map DE.d = R) := Lib.hid (by
            rw [← HRT.out]; unfold insD; rw [HPOS.out, HDV.out, ← HY.out.1]; simp [List.map_take, List.map_drop])
          have D_w7 : Hid (DI w7 w7.heap.size A7 (ys.take k ++ [x] ++ ds)) := Lib.hid ⟨hgl7, fun z hz => by
            rcases List.mem_append.1 hz with hz | hz
            · rcases List.mem_append.1 hz with hz | hz
              · exact (Y_w3.out.2 z (List.mem_of_mem_take hz)).step hb7
              · simp at hz; subst hz; exact GL.step HXP.out (stepB B_w3.out hb7)
            · rw [HDV.out] at hz; exact (Y_w3.out.2 z (List.mem_of_mem_drop hz)).step hb7⟩
          have E7 := Lib.hid (And.intro hc7 (stepB B_w3.out hb7))
          clear hown7 hb7 hs7 hc7 hgl7
          generalize ys.take k ++ [x] ++ ds = zs at *
          go_wp2
          go_ret
          exact ⟨A7, c7, zs, rfl, HF.out, E7.out.1, D_w7.out, E7.out.2⟩
        | true =>
          have HLD := Lib.hid (load_due C_q2.out.2)
          unfold dV gD at HLD
          go_wp2_with first
            | (refine wpList_load_v (by rfl) 45 _ rfl ⟨b, o + k * 11, none⟩ (by go_simp) _ HLD.out ?_)
            | (at_builtin; refine wpList_app1 gD_len gD_one (by decide) q2 rfl _ _ 23 rfl (.agg (gD DE.zero).toArray) 136 Tryd.underlying23 dueInfo rfl (by decide) w3.heap.size u12 (ys.take k) y (by rfl) O_q2.out (by rfl) w3 B_q2.out B_q2.out.size (by rw [List.length_take]; have := HYL.out; omega) ?_; intro v5 w5 hown5 hb5 hs5)
          have O5 := Lib.hid hown5
          have B5 := Lib.hid hb5
          clear hown5 hb5 hs5
          go_roundg gk
          case measure => omega
          case rel => exact ⟨k + 1, by have := HK.out; omega, by go_num, (fun j z hj hz => by
            rcases Nat.lt_succ_iff_lt_or_eq.1 hj with h2 | rfl
            · exact HPRE.out j z h2 hz
            · rw [HYM.out] at hz; rw [← Option.some.inj hz]; exact HBB.out), by rw [List.take_add_one, HYK.out]; exact O5.out, B5.out⟩
end Go.Proofs.YtoakhkiiefiebabDoor
namespace Go.Proofs.YtoakhkiiefiebabDoor
open Go.RowKit
open S2 (BK Put)

/-- a valid list, by pairs -/
theorem valid_iff (l : List Du) : ValidD l ↔ (∀ x ∈ l, 0 ≤ x.tm ∧ x.tm ≤ 1099511627776) ∧ l.Pairwise (fun x y => befR x y = true) ∧ l.Pairwise (fun x y => x.cl ≠ y.cl) := by
  constructor
  · intro h
    refine ⟨fun x hx => ?_, ?_, valid_apart h⟩
    · obtain ⟨i, hi⟩ := List.mem_iff_getElem?.1 hx
      exact (h i x hi).1
    · rw [List.pairwise_iff_getElem]
      intro i j hi hj hij
      exact valid_asc h i j _ _ (List.getElem?_eq_getElem hi) (List.getElem?_eq_getElem hj) hij
  · rintro ⟨h1, h2, h3⟩ i x hx
    rw [List.pairwise_iff_getElem] at h2 h3
    obtain ⟨hi, rfl⟩ := List.getElem?_eq_some_iff.1 hx
    refine ⟨h1 _ (List.getElem_mem hi), fun j y hij hy => ?_, fun k y hk hy => ?_⟩
    · obtain ⟨hj, rfl⟩ := List.getElem?_eq_some_iff.1 hy
      exact h2 j i hj hi (by omega)
    · obtain ⟨hj, rfl⟩ := List.getElem?_eq_some_iff.1 hy
      exact h3 k i hj hi hk
theorem asc_pairs {l : List Du} (h : l.Pairwise (fun x y => befR x y = true)) : AscD l := fun i j x y hx hy hij => by
  rw [List.pairwise_iff_getElem] at h
  obtain ⟨hi, rfl⟩ := List.getElem?_eq_some_iff.1 hx
  obtain ⟨hj, rfl⟩ := List.getElem?_eq_some_iff.1 hy
  exact h i j hi hj hij
theorem bs_ex {l : List Du} (t : Du) (ha : AscD l) : BsD l t (posD l t) (posD l t) := by
  have h : ∀ n i j, j - i ≤ n → BsD l t i j → ∃ k, BsD l t k k := by
    intro n
    induction n with
    | zero => intro i j hn hb; obtain rfl : i = j := by have := hb.1; omega
              exact ⟨i, hb⟩
    | succ n ih =>
      intro i j hn hb
      by_cases e : i = j
      · subst e; exact ⟨i, hb⟩
      · have hij : i < j := by have := hb.1; omega
        obtain ⟨x, hx⟩ : ∃ x, l[i]? = some x := ⟨_, List.getElem?_eq_getElem (by have := hb.2.1; omega)⟩
        cases hl : befR x t with
        | true => exact ih (i + 1) j (by omega) (hb.less ha hij hx hl)
        | false => exact ⟨i, hb.notless ha (Nat.le_refl _) hij hx hl⟩
  obtain ⟨k, hk⟩ := h _ 0 l.length (Nat.le_refl _) (BsD.start l t)
  rw [hk.pos]; exact hk
theorem bef_total {x y : Du} (h : befR y x = false) (hc : y.cl ≠ x.cl) : befR x y = true := by
  unfold befR at *
  simp only [Bool.or_eq_false_iff, Bool.and_eq_false_iff, decide_eq_false_iff_not, Bool.or_eq_true, Bool.and_eq_true, decide_eq_true_eq] at *
  obtain ⟨h1, h2⟩ := h
  by_cases e : x.tm = y.tm
  · right
    refine ⟨e, ?_⟩
    cases h3 : ltS x.cl y.cl with
    | true => rfl
    | false =>
      rcases h2 with h2 | h2
      · exact absurd e.symm h2
      · exact absurd (ltS_total h2 h3) hc
  · left; omega
theorem ins_valid {r : List Du} {x : Du} (hv : ValidD r) (hc : ∀ y ∈ r, y.cl ≠ x.cl) (ht : 0 ≤ x.tm ∧ x.tm ≤ 1099511627776) : ValidD (insD r x) := by
  obtain ⟨h1, h2, h3⟩ := (valid_iff r).1 hv
  have hb := bs_ex x (asc_pairs h2)
  unfold insD
  generalize posD r x = p at hb
  have ht1 : ∀ y ∈ r.take p, befR y x = true := fun y hy => by
    obtain ⟨k, hk⟩ := List.mem_iff_getElem?.1 hy
    rw [List.getElem?_take] at hk
    split at hk
    · next hkp => exact hb.2.2.1 k y hkp hk
    · cases hk
  have hd1 : ∀ y ∈ r.drop p, befR x y = true := fun y hy => by
    obtain ⟨k, hk⟩ := List.mem_iff_getElem?.1 hy
    rw [List.getElem?_drop] at hk
    exact bef_total (hb.2.2.2 (p + k) y (by omega) hk) (hc y (List.mem_of_mem_drop hy))
  rw [valid_iff, List.append_assoc]
  refine ⟨fun y hy => ?_, ?_, ?_⟩
  · rcases List.mem_append.1 hy with hy | hy
    · exact h1 y (List.mem_of_mem_take hy)
    · rcases List.mem_append.1 hy with hy | hy
      · simp at hy; subst hy; exact ht
      · exact h1 y (List.mem_of_mem_drop hy)
  · rw [List.pairwise_append]
    refine ⟨h2.sublist (List.take_sublist _ _), List.pairwise_cons.2 ⟨hd1, h2.sublist (List.drop_sublist _ _)⟩, fun a ha b hb' => ?_⟩
    rcases List.mem_cons.1 hb' with e | hb'
    · rw [e]; exact ht1 a ha
    · exact bef_trans (ht1 a ha) (hd1 b hb')
  · rw [List.pairwise_append]
    refine ⟨h3.sublist (List.take_sublist _ _), List.pairwise_cons.2 ⟨fun y hy e => hc y (List.mem_of_mem_drop hy) e.symm, h3.sublist (List.drop_sublist _ _)⟩, fun a ha b hb' => ?_⟩
    rcases List.mem_cons.1 hb' with e | hb'
    · rw [e]; exact hc a (List.mem_of_mem_take ha)
    · have h4 := h3
      rw [← List.take_append_drop p r, List.pairwise_append] at h4
      exact h4.2.2 a ha b hb'
theorem off_valid {l : List Du} (cl : ByteArray) (h : ValidD l) : ValidD (offR l cl) := by
  obtain ⟨h1, h2, h3⟩ := (valid_iff l).1 h
  rw [valid_iff]
  exact ⟨fun x hx => h1 x (List.mem_filter.1 hx).1, h2.sublist List.filter_sublist, h3.sublist List.filter_sublist⟩
theorem arm_valid {l : List Du} (cl : ByteArray) (s : Bool) (d : Int) (m : Msg) (now : Int) (h : ValidD l) (h0 : 0 ≤ now) (hd : s = true → 0 ≤ d ∧ d ≤ 1099511627776) : ValidD (rarmR l cl s d m now) := by
  unfold rarmR
  split
  · exact off_valid cl h
  · next hs =>
    have h1 := hd (by simpa using hs)
    exact ins_valid (off_valid cl h) (off_other l cl) ⟨by show 0 ≤ min (now + d) 1099511627776; omega, by show min (now + d) 1099511627776 ≤ 1099511627776; omega⟩
theorem arm_len (l : List Du) (cl : ByteArray) (s : Bool) (d : Int) (m : Msg) (now : Int) : (rarmR l cl s d m now).length ≤ l.length + 1 := by
  have h : (offR l cl).length ≤ l.length := List.length_filter_le _ _
  unfold rarmR
  split
  · omega
  · unfold insD
    simp only [List.length_append, List.length_take, List.length_drop, List.length_singleton]
    have := posD_le (offR l cl) (newDu cl d m now)
    omega
theorem arm_props {l : List Du} (cl : ByteArray) (s : Bool) (d : Int) (m : Msg) (now : Int) (h : ∀ x ∈ l, x.m.props.length ≤ 4398046511104) (hm : m.props.length ≤ 4398046511104) : ∀ x ∈ rarmR l cl s d m now, x.m.props.length ≤ 4398046511104 := by
  have ho : ∀ x ∈ offR l cl, x.m.props.length ≤ 4398046511104 := fun x hx => h x (List.mem_filter.1 hx).1
  unfold rarmR
  split
  · exact ho
  · intro x hx
    unfold insD at hx
    rcases List.mem_append.1 hx with hx | hx
    · rcases List.mem_append.1 hx with hx | hx
      · exact ho x (List.mem_of_mem_take hx)
      · simp at hx; subst hx; exact hm
    · exact ho x (List.mem_of_mem_drop hx)
theorem chk_delay {s : Bool} {d : Int} {m : Msg} (h : wchkR s d m = 0) : s = true → 0 ≤ d ∧ d ≤ 1099511627776 := fun hs => by
  subst hs
  rw [wchk_t] at h
  split at h
  · cases h
  · omega

end Go.Proofs.YtoakhkiiefiebabDoor
namespace Go.Proofs.YtoakhkiiefiebabDoor
open Go.RowKit
open S2 (BK Put)

/-- an operation: its kind, how much later, whose, the will -/
structure WO where
  k : Int
  lt : Nat
  cl : ByteArray
  s : Bool
  d : Int
  m : Msg
  a : Option Addr
  c : Nat
def gO (x : WO) : List Value := [.int .i64 x.k, .int .u16 (x.lt : Int), .string x.cl, .bool x.s, .int .i64 x.d, .string x.m.topic, .string x.m.payload, .int .i64 x.m.level, .bool x.m.retain, .int .i64 x.m.prio, .int .i64 x.m.exps, .string x.m.frm, .int .i64 x.m.seq, .slice x.a x.m.props.length x.c]
theorem gO_len (x : WO) : (gO x).length = 14 := rfl
abbrev OL (w : World) (B : Nat) (A : Option Addr) (xs : List WO) : Prop := LI gO 14 WO.a (fun x => x.m.props) w B A xs
theorem load_op_will {w : World} {b o : Nat} {x : WO} (hc : ∀ i v, (gO x)[i]? = some v → w.cell? ⟨b, o + i, none⟩ = some v) : (loadVar 29 ⟨b, o + 3, none⟩).run Tryd.prog w = .ok (wiV x.s x.d x.m x.a x.c) w :=
  run_load_cells w b (o + 3) (wiC x.s x.d x.m x.a x.c) 29 _ (fun i v hv => by
    have h := hc (3 + i) v (by
      show ([Value.int .i64 x.k, .int .u16 (x.lt : Int), .string x.cl] ++ wiC x.s x.d x.m x.a x.c)[3 + i]? = some v
      rw [List.getElem?_append_right (by simp)]
      simpa using hv)
    rwa [← Nat.add_assoc] at h) Tryd.underlying29 rfl wiSize
theorem due_valid {l : List Du} (p : Du → Bool) (h : ValidD l) : ValidD (l.filter p) := by
  obtain ⟨h1, h2, h3⟩ := (valid_iff l).1 h
  rw [valid_iff]
  exact ⟨fun x hx => h1 x (List.mem_filter.1 hx).1, h2.sublist List.filter_sublist, h3.sublist List.filter_sublist⟩
theorem map_props {ys : List DE} {M : List Du} (h : ys.map DE.d = M) (hM : ∀ x ∈ M, x.m.props.length ≤ 4398046511104) : ∀ y ∈ ys, y.d.m.props.length ≤ 4398046511104 := fun y hy => hM y.d (by rw [← h]; exact List.mem_map_of_mem hy)
theorem map_len {ys : List DE} {M : List Du} (h : ys.map DE.d = M) : ys.length = M.length := by rw [← h, List.length_map]
theorem props_map {ys : List DE} (h : ∀ y ∈ ys, y.d.m.props.length ≤ 4398046511104) : ∀ x ∈ ys.map DE.d, x.m.props.length ≤ 4398046511104 := fun x hx => by
  obtain ⟨y, hy, rfl⟩ := List.mem_map.1 hx
  exact h y hy

set_option maxRecDepth 20000 in
set_option maxHeartbeats 8000000 in
theorem willRuns_walk18 (A : Option Addr) (c : Nat) (os : List WO) (w : World) (hok : S1.Okw w) (sl : OL w w.heap.size A os) (hz : ∀ x ∈ os, MTz x.m ∧ x.lt ≤ 65535) :
    Calls Tryd.prog 3 #[.slice A os.length c] w fun e w' => e = .returned (.bool true) ∧ Below w.heap.size w w' := by
  have HO := Lib.hid hok
  have HS := Lib.hid sl
  have HZ := Lib.hid hz
  have HAW := Lib.hid (fun w1 h => awake18_any w1 h)
  clear hok sl hz
  go_enter Tryd.func3, Tryd.ntmps3
  go_wp2_with fail
  go_loopg [3, 4, 5] 60 (fun g v3 v4 v5 wr => ∃ (k : Nat) (A1 : Option Addr) (c1 : Nat) (ys : List DE) (now : Nat), k + g = 60 ∧ v5 = .int .i64 k ∧ v4 = .int .i64 now ∧ v3 = .slice A1 ys.length c1 ∧ now ≤ 65535 * k ∧ ys.length ≤ c1 ∧ ys.length ≤ k ∧ (∀ y ∈ ys, y.d.m.props.length ≤ 4398046511104) ∧ ValidD (ys.map DE.d) ∧ DI wr wr.heap.size A1 ys ∧ Below w.heap.size w wr)
  case atStart => exact ⟨0, none, 0, [], 0, by omega, rfl, rfl, rfl, by omega, Nat.le_refl _, Nat.le_refl _, (fun y hy => by cases hy), (fun i x hx => by simp at hx), LI.nil _ _ _, Below.refl _ _⟩
  case round =>
    obtain ⟨k, A1, c1, ys, now, hkg, rfl, rfl, rfl, hnow, hyc, hyk, hyp, hyv, hdi, hb0⟩ := hrel
    have HN := Lib.hid (And.intro hnow (And.intro hyc (And.intro hyk (And.intro hyp hyv))))
    have HK := Lib.hid hkg
    have Y_wr := Lib.hid hdi
    have B_wr := Lib.hid hb0
    have O_wr := Lib.hid (HO.out.step hb0)
    clear hnow hyc hyk hyp hyv hdi hb0
    by_cases hgo : k < os.length ∧ k < 60
    case neg =>
      by_cases h1 : k < os.length
      · obtain rfl : k = 60 := by omega
        have e2 : decide (((60 : Nat) : Int) < 60) = false := by decide
        have e1' : decide (60 < os.length) = true := decide_eq_true h1
        have e1s : decide ((60 : Int) < (os.length : Int)) = true := decide_eq_true (by omega)
        clear hkg hgo h1
        go_wp2_with fail
        refine (HAW.out wr O_wr.out).mono ?_
        rintro e w9 ⟨rfl, hb⟩
        have B_w9 := Lib.hid (stepB B_wr.out hb)
        clear hb
        go_wp2
        go_ret
        exact ⟨rfl, B_w9.out⟩
      · have e1 : decide ((k : Int) < (os.length : Int)) = false := decide_eq_false (by omega)
        have e1' : decide (k < os.length) = false := decide_eq_false h1
        clear hkg hgo h1
        go_wp2_with fail
        refine (HAW.out wr O_wr.out).mono ?_
        rintro e w9 ⟨rfl, hb⟩
        have B_w9 := Lib.hid (stepB B_wr.out hb)
        clear hb
        go_wp2
        go_ret
        exact ⟨rfl, B_w9.out⟩
    obtain ⟨hlt, h60⟩ := hgo
    obtain ⟨gg, rfl⟩ : ∃ gg, gk = gg + 1 := ⟨gk - 1, by omega⟩
    have e1 : decide ((k : Int) < (os.length : Int)) = true := decide_eq_true (by omega)
    have e2 : decide ((k : Int) < 60) = true := decide_eq_true (by omega)
    have e1' : decide (k < os.length) = true := decide_eq_true hlt
    obtain ⟨x, hx⟩ : ∃ x, os[k]? = some x := ⟨_, List.getElem?_eq_getElem hlt⟩
    obtain ⟨b, o, hA, hbB, hc, hpl⟩ := (HS.out.step B_wr.out).at_ hx
    obtain ⟨hmz, hl16⟩ := HZ.out x (List.mem_of_getElem? hx)
    subst hA
    obtain ⟨kd, lt, cl, s, d, m, am, cm⟩ := x
    have HMZ : Hid (MTz m) := Lib.hid hmz
    have C_wr : Hid (b < wr.heap.size ∧ ∀ i v, (gO ⟨kd, lt, cl, s, d, m, am, cm⟩)[i]? = some v → wr.cell? ⟨b, o + k * 14 + i, none⟩ = some v) := Lib.hid ⟨hbB, hc⟩
    have P_wr : Hid (PL wr wr.heap.size am m.props) := Lib.hid hpl
    have j1 : (0 : Int) ≤ (k : Int) := by omega
    have j2 : (k : Int) < (os.length : Int) := by omega
    have hl16' : lt ≤ 65535 := hl16
    have j5 : wrap64 (lt : Int) = (lt : Int) := S2.wrap64_id _ (by omega) (by omega)
    have hnw := HN.out.1
    have j6 : wrap64 ((now : Int) + (lt : Int)) = ((now + lt : Nat) : Int) := by rw [S2.wrap64_id _ (by omega) (by omega)]; omega
    obtain ⟨now2, hn2⟩ : ∃ n, n = now + lt := ⟨_, rfl⟩
    have HN2 : Hid (now2 ≤ 65535 * (k + 1) ∧ (0 : Int) ≤ (now2 : Int) ∧ (now2 : Int) ≤ 1099511627776) := Lib.hid (by omega)
    rw [← hn2] at j6
    clear hmz hl16 hl16' hnw hx hc hpl hbB hn2
    have z0 : wr.cell? ⟨b, o + k * 14, none⟩ = some (.int .i64 kd) := C_wr.out.2 0 _ rfl
    have z1 : wr.cell? ⟨b, o + k * 14 + 1, none⟩ = some (.int .u16 (lt : Int)) := C_wr.out.2 1 _ rfl
    have z2 : wr.cell? ⟨b, o + k * 14 + 2, none⟩ = some (.string cl) := C_wr.out.2 2 _ rfl
    have HCAN := Lib.hid (can_off cl (valid_apart HN.out.2.2.2.2))
    have HPM := Lib.hid (props_map HN.out.2.2.2.1)
    by_cases hk0 : kd = 0
    · have q0 : (kd == 0) = true := by simp [hk0]
      clear hk0
      have HCK := Lib.hid (fun w1 h => rwCheck_any s d m am cm w1 h HMZ.out.1 HMZ.out.2)
      obtain ⟨R, hR⟩ : ∃ R, wchkR s d m = R := ⟨_, rfl⟩
      rw [hR] at HCK
      have HR := Lib.hid hR
      clear hR
      go_wp2_with first
        | (refine wpList_load_v (by rfl) 29 _ rfl ⟨b, o + k * 14 + 3, none⟩ (by go_simp) _ (load_op_will C_wr.out.2) ?_)
      refine (HCK.out wr P_wr.out).mono ?_
      rintro e x1 ⟨rfl, hb⟩
      have C_x1 : Hid ((b < x1.heap.size ∧ ∀ i v, (gO ⟨kd, lt, cl, s, d, m, am, cm⟩)[i]? = some v → x1.cell? ⟨b, o + k * 14 + i, none⟩ = some v)) := Lib.hid (⟨Nat.lt_of_lt_of_le C_wr.out.1 hb.size, fun i u hu => (hb.cell (p := ⟨b, o + k * 14 + i, none⟩) C_wr.out.1).trans (C_wr.out.2 i u hu)⟩)
      have Y_x1 : Hid (DI x1 x1.heap.size A1 ys) := Lib.hid (LI.step Y_wr.out hb)
      have P_x1 : Hid (PL x1 x1.heap.size am m.props) := Lib.hid (GL.step P_wr.out hb)
      have B_x1 : Hid (Below w.heap.size w x1) := Lib.hid (stepB B_wr.out hb)
      have O_x1 : Hid (S1.Okw x1) := Lib.hid (O_wr.out.step hb)
      clear C_wr Y_wr P_wr B_wr O_wr
      clear hb
      clear z0 z1 z2 HCK
      by_cases hR0 : R = 0
      case neg =>
        have q1 : (R != 0) = true := by simp [hR0]
        clear hR0
        go_wp2_with fail
        go_roundg gg
        case measure => omega
        case rel => exact ⟨k + 1, A1, c1, ys, now2, by have := HK.out; omega, by go_num, rfl, rfl, HN2.out.1, HN.out.2.1, by have := HN.out.2.2.1; omega, HN.out.2.2.2.1, HN.out.2.2.2.2, Y_x1.out, B_x1.out⟩
      subst hR0
      have hAsc : AscD (offR (ys.map DE.d) cl) := valid_asc (off_valid cl HN.out.2.2.2.2)
      have CT1 := Lib.hid (fun w1 h h2 => wArm_any A1 c1 ys cl s d m am cm now2 w1 h (by have := HN.out.2.2.1; have := HK.out; omega) HN.out.2.2.2.1 h2 HMZ.out.1 HN2.out.2 (chk_delay HR.out) (fun _ => by rw [HCAN.out.1]; exact hAsc))
      have CT2 := Lib.hid (fun w1 h h2 => rArm_any A1 c1 ys cl s d m am cm now2 w1 h (by have := HN.out.2.2.1; have := HK.out; omega) h2 HN2.out.2 (chk_delay HR.out) (fun _ => hAsc))
      have hae : armR (ys.map DE.d) cl s d m now2 = rarmR (ys.map DE.d) cl s d m now2 := by unfold armR rarmR; rw [HCAN.out.1]
      rw [hae] at CT1
      obtain ⟨M, hM⟩ : ∃ M, rarmR (ys.map DE.d) cl s d m now2 = M := ⟨_, rfl⟩
      rw [hM] at CT1 CT2
      have HMM : Hid ((∀ x ∈ M, x.m.props.length ≤ 4398046511104) ∧ M.length ≤ k + 1 ∧ ValidD M) := Lib.hid (by
        rw [← hM]
        refine ⟨arm_props cl s d m now2 HPM.out HMZ.out.1, ?_, arm_valid cl s d m now2 HN.out.2.2.2.2 HN2.out.2.1 (chk_delay HR.out)⟩
        have := arm_len (ys.map DE.d) cl s d m now2
        rw [List.length_map] at this
        have := HN.out.2.2.1
        omega)
      clear hAsc hae hM
      go_upto_region 15 with fail
      obtain ⟨x2, hx2⟩ : ∃ x2, x2 = World.drew x1 := ⟨_, rfl⟩
      have hbD : Below x1.heap.size x1 x2 := by rw [hx2]; exact (Below.refl _ _).drew
      have C_x2 : Hid ((b < x2.heap.size ∧ ∀ i v, (gO ⟨kd, lt, cl, s, d, m, am, cm⟩)[i]? = some v → x2.cell? ⟨b, o + k * 14 + i, none⟩ = some v)) := Lib.hid (⟨Nat.lt_of_lt_of_le C_x1.out.1 hbD.size, fun i u hu => (hbD.cell (p := ⟨b, o + k * 14 + i, none⟩) C_x1.out.1).trans (C_x1.out.2 i u hu)⟩)
      have Y_x2 : Hid (DI x2 x2.heap.size A1 ys) := Lib.hid (LI.step Y_x1.out hbD)
      have P_x2 : Hid (PL x2 x2.heap.size am m.props) := Lib.hid (GL.step P_x1.out hbD)
      have B_x2 : Hid (Below w.heap.size w x2) := Lib.hid (stepB B_x1.out hbD)
      have O_x2 : Hid (S1.Okw x2) := Lib.hid (O_x1.out.step hbD)
      clear C_x1 Y_x1 P_x1 B_x1 O_x1
      have hbd : (fun w' => (b < w'.heap.size ∧ ∀ i v, (gO ⟨kd, lt, cl, s, d, m, am, cm⟩)[i]? = some v → w'.cell? ⟨b, o + k * 14 + i, none⟩ = some v)) (World.drew x1) := by rw [← hx2]; exact C_x2.out
      have hSD : (fun w' => (b < w'.heap.size ∧ ∀ i v, (gO ⟨kd, lt, cl, s, d, m, am, cm⟩)[i]? = some v → w'.cell? ⟨b, o + k * 14 + i, none⟩ = some v)) x2 := C_x2.out
      have HWD := Lib.hid hx2
      clear hx2 hbD
      refine wp_region_held_drew (S := fun w' => (b < w'.heap.size ∧ ∀ i v, (gO ⟨kd, lt, cl, s, d, m, am, cm⟩)[i]? = some v → w'.cell? ⟨b, o + k * 14 + i, none⟩ = some v)) (by kernel_rfl) hbd (fun hHeld => ?_)
      rw [← HWD.out]
      clear hHeld
      have hHeld := hSD
      clear hSD hbd HWD
      refine wpAnyH_take (i := 0) (v := .slice A1 ys.length c1) (get_ops _ _ _ rfl) (by kernel_rfl) (by kernel_rfl) (by kernel_rfl) (fun _ _ _ h => h) (Or.inl ⟨by rfl, fun wS hSw => by (try dsimp only at hSw); go_simp⟩) hHeld ?_
      try simp only [Act.put, List.setIfInBounds_toArray, List.set_cons_zero, List.set_cons_succ]
      refine wpAnyH_take (i := 1) (v := .slice (some ⟨b, o, none⟩) os.length c) (get_ops _ _ _ rfl) (by kernel_rfl) (by kernel_rfl) (by kernel_rfl) (fun _ _ _ h => h) (Or.inl ⟨by rfl, fun wS hSw => by (try dsimp only at hSw); go_simp⟩) hHeld ?_
      try simp only [Act.put, List.setIfInBounds_toArray, List.set_cons_zero, List.set_cons_succ]
      refine wpAnyH_take (i := 2) (v := .int .i64 k) (get_ops _ _ _ rfl) (by kernel_rfl) (by kernel_rfl) (by kernel_rfl) (fun _ _ _ h => h) (Or.inl ⟨by rfl, fun wS hSw => by (try dsimp only at hSw); go_simp⟩) hHeld ?_
      try simp only [Act.put, List.setIfInBounds_toArray, List.set_cons_zero, List.set_cons_succ]
      refine wpAnyH_take (i := 3) (v := .pointer (some ⟨b, o + k * 14, none⟩)) (get_ops _ _ _ rfl) (by kernel_rfl) (by kernel_rfl) (by kernel_rfl) (fun _ _ _ h => h) (Or.inl ⟨by rfl, fun wS hSw => by (try dsimp only at hSw); go_simp⟩) hHeld ?_
      try simp only [Act.put, List.setIfInBounds_toArray, List.set_cons_zero, List.set_cons_succ]
      refine wpAnyH_take (i := 4) (v := .pointer (some ⟨b, o + k * 14 + 2, none⟩)) (get_ops _ _ _ rfl) (by kernel_rfl) (by kernel_rfl) (by kernel_rfl) (fun _ _ _ h => h) (Or.inl ⟨by rfl, fun wS hSw => by (try dsimp only at hSw); go_simp⟩) hHeld ?_
      try simp only [Act.put, List.setIfInBounds_toArray, List.set_cons_zero, List.set_cons_succ]
      refine wpAnyH_take (i := 5) (v := .string cl) (get_ops _ _ _ rfl) (by kernel_rfl) (by kernel_rfl) (by kernel_rfl) (fun _ _ _ h => h) (Or.inl ⟨by rfl, fun wS hSw => by (try dsimp only at hSw); have cS : wS.cell? ⟨b, o + k * 14 + 2, none⟩ = some (.string cl) := hSw.2 2 _ rfl; clear hSw; go_simp⟩) hHeld ?_
      try simp only [Act.put, List.setIfInBounds_toArray, List.set_cons_zero, List.set_cons_succ]
      refine wpAnyH_take (i := 6) (v := .slice (some ⟨b, o, none⟩) os.length c) (get_ops _ _ _ rfl) (by kernel_rfl) (by kernel_rfl) (by kernel_rfl) (fun _ _ _ h => h) (Or.inl ⟨by rfl, fun wS hSw => by (try dsimp only at hSw); go_simp⟩) hHeld ?_
      try simp only [Act.put, List.setIfInBounds_toArray, List.set_cons_zero, List.set_cons_succ]
      refine wpAnyH_take (i := 7) (v := .int .i64 k) (get_ops _ _ _ rfl) (by kernel_rfl) (by kernel_rfl) (by kernel_rfl) (fun _ _ _ h => h) (Or.inl ⟨by rfl, fun wS hSw => by (try dsimp only at hSw); go_simp⟩) hHeld ?_
      try simp only [Act.put, List.setIfInBounds_toArray, List.set_cons_zero, List.set_cons_succ]
      refine wpAnyH_take (i := 8) (v := .pointer (some ⟨b, o + k * 14, none⟩)) (get_ops _ _ _ rfl) (by kernel_rfl) (by kernel_rfl) (by kernel_rfl) (fun _ _ _ h => h) (Or.inl ⟨by rfl, fun wS hSw => by (try dsimp only at hSw); go_simp⟩) hHeld ?_
      try simp only [Act.put, List.setIfInBounds_toArray, List.set_cons_zero, List.set_cons_succ]
      refine wpAnyH_take (i := 9) (v := .pointer (some ⟨b, o + k * 14 + 3, none⟩)) (get_ops _ _ _ rfl) (by kernel_rfl) (by kernel_rfl) (by kernel_rfl) (fun _ _ _ h => h) (Or.inl ⟨by rfl, fun wS hSw => by (try dsimp only at hSw); go_simp⟩) hHeld ?_
      try simp only [Act.put, List.setIfInBounds_toArray, List.set_cons_zero, List.set_cons_succ]
      refine wpAnyH_take (i := 10) (v := (wiV s d m am cm)) (get_ops _ _ _ rfl) (by kernel_rfl) (by kernel_rfl) (by kernel_rfl) (fun _ _ _ h => h) (Or.inl ⟨by rfl, fun wS hSw => by (try dsimp only at hSw); exact exec_load 29 _ rfl ⟨b, o + k * 14 + 3, none⟩ (by go_simp) _ (load_op_will hSw.2)⟩) hHeld ?_
      try simp only [Act.put, List.setIfInBounds_toArray, List.set_cons_zero, List.set_cons_succ]
      refine wpAnyH_take (i := 11) (v := .int .i64 now2) (get_ops _ _ _ rfl) (by kernel_rfl) (by kernel_rfl) (by kernel_rfl) (fun _ _ _ h => h) (Or.inl ⟨by rfl, fun wS hSw => by (try dsimp only at hSw); go_simp⟩) hHeld ?_
      try simp only [Act.put, List.setIfInBounds_toArray, List.set_cons_zero, List.set_cons_succ]
      refine wpAnyH_ready (rs := [12]) (by kernel_rfl) (by simp) ?_
      refine (AllReadyH.cons (get_ops _ _ _ rfl) (fun K hK => ?_) AllReadyH.nil)
      go_simp
      refine (CT1.out x2 Y_x2.out P_x2.out).mono ?_
      rintro e x3 ⟨A2, c2, zs, rfl, hzs, hzc, hl1, hb⟩
      have C_x3 : Hid ((b < x3.heap.size ∧ ∀ i v, (gO ⟨kd, lt, cl, s, d, m, am, cm⟩)[i]? = some v → x3.cell? ⟨b, o + k * 14 + i, none⟩ = some v)) := Lib.hid (⟨Nat.lt_of_lt_of_le C_x2.out.1 hb.size, fun i u hu => (hb.cell (p := ⟨b, o + k * 14 + i, none⟩) C_x2.out.1).trans (C_x2.out.2 i u hu)⟩)
      have Y_x3 : Hid (DI x3 x3.heap.size A1 ys) := Lib.hid (LI.step Y_x2.out hb)
      have P_x3 : Hid (PL x3 x3.heap.size am m.props) := Lib.hid (GL.step P_x2.out hb)
      have B_x3 : Hid (Below w.heap.size w x3) := Lib.hid (stepB B_x2.out hb)
      have O_x3 : Hid (S1.Okw x3) := Lib.hid (O_x2.out.step hb)
      clear C_x2 Y_x2 P_x2 B_x2 O_x2
      have Z_x3 : Hid (DI x3 x3.heap.size A2 zs) := Lib.hid hl1
      have HZM : Hid (zs.map DE.d = M ∧ (∀ x ∈ M, x.m.props.length ≤ 4398046511104) ∧ M.length ≤ k + 1 ∧ ValidD M) := Lib.hid ⟨hzs, HMM.out⟩
      have HZC := Lib.hid hzc
      clear hl1 hzs hzc
      clear hHeld hb
      go_wp2_with fail
      refine hK.out _ _ C_x3.out (fun hHeld => ?_)
      clear hK K
      try simp only [Act.put, List.setIfInBounds_toArray, List.set_cons_zero, List.set_cons_succ]
      refine wpAnyH_take (i := 13) (v := .slice A2 zs.length c2) (get_ops _ _ _ rfl) (by kernel_rfl) (by kernel_rfl) (by kernel_rfl) (fun _ _ _ h => h) (Or.inl ⟨by rfl, fun wS hSw => by (try dsimp only at hSw); go_simp⟩) hHeld ?_
      try simp only [Act.put, List.setIfInBounds_toArray, List.set_cons_zero, List.set_cons_succ]
      refine wpAnyH_done (by kernel_rfl) ?_ _
      clear CT1
      go_upto_region 16 with fail
      obtain ⟨x4, hx4⟩ : ∃ x4, x4 = World.drew x3 := ⟨_, rfl⟩
      have hbD : Below x3.heap.size x3 x4 := by rw [hx4]; exact (Below.refl _ _).drew
      have C_x4 : Hid ((b < x4.heap.size ∧ ∀ i v, (gO ⟨kd, lt, cl, s, d, m, am, cm⟩)[i]? = some v → x4.cell? ⟨b, o + k * 14 + i, none⟩ = some v)) := Lib.hid (⟨Nat.lt_of_lt_of_le C_x3.out.1 hbD.size, fun i u hu => (hbD.cell (p := ⟨b, o + k * 14 + i, none⟩) C_x3.out.1).trans (C_x3.out.2 i u hu)⟩)
      have Y_x4 : Hid (DI x4 x4.heap.size A1 ys) := Lib.hid (LI.step Y_x3.out hbD)
      have P_x4 : Hid (PL x4 x4.heap.size am m.props) := Lib.hid (GL.step P_x3.out hbD)
      have B_x4 : Hid (Below w.heap.size w x4) := Lib.hid (stepB B_x3.out hbD)
      have O_x4 : Hid (S1.Okw x4) := Lib.hid (O_x3.out.step hbD)
      have Z_x4 : Hid (DI x4 x4.heap.size A2 zs) := Lib.hid (LI.step Z_x3.out hbD)
      clear C_x3 Y_x3 P_x3 B_x3 O_x3 Z_x3
      have hbd : (fun w' => (b < w'.heap.size ∧ ∀ i v, (gO ⟨kd, lt, cl, s, d, m, am, cm⟩)[i]? = some v → w'.cell? ⟨b, o + k * 14 + i, none⟩ = some v)) (World.drew x3) := by rw [← hx4]; exact C_x4.out
      have hSD : (fun w' => (b < w'.heap.size ∧ ∀ i v, (gO ⟨kd, lt, cl, s, d, m, am, cm⟩)[i]? = some v → w'.cell? ⟨b, o + k * 14 + i, none⟩ = some v)) x4 := C_x4.out
      have HWD := Lib.hid hx4
      clear hx4 hbD
      refine wp_region_held_drew (S := fun w' => (b < w'.heap.size ∧ ∀ i v, (gO ⟨kd, lt, cl, s, d, m, am, cm⟩)[i]? = some v → w'.cell? ⟨b, o + k * 14 + i, none⟩ = some v)) (by kernel_rfl) hbd (fun hHeld => ?_)
      rw [← HWD.out]
      clear hHeld
      have hHeld := hSD
      clear hSD hbd HWD
      refine wpAnyH_take (i := 0) (v := .slice A2 zs.length c2) (get_ops _ _ _ rfl) (by kernel_rfl) (by kernel_rfl) (by kernel_rfl) (fun _ _ _ h => h) (Or.inl ⟨by rfl, fun wS hSw => by (try dsimp only at hSw); go_simp⟩) hHeld ?_
      try simp only [Act.put, List.setIfInBounds_toArray, List.set_cons_zero, List.set_cons_succ]
      refine wpAnyH_take (i := 1) (v := .slice A1 ys.length c1) (get_ops _ _ _ rfl) (by kernel_rfl) (by kernel_rfl) (by kernel_rfl) (fun _ _ _ h => h) (Or.inl ⟨by rfl, fun wS hSw => by (try dsimp only at hSw); go_simp⟩) hHeld ?_
      try simp only [Act.put, List.setIfInBounds_toArray, List.set_cons_zero, List.set_cons_succ]
      refine wpAnyH_take (i := 2) (v := .slice (some ⟨b, o, none⟩) os.length c) (get_ops _ _ _ rfl) (by kernel_rfl) (by kernel_rfl) (by kernel_rfl) (fun _ _ _ h => h) (Or.inl ⟨by rfl, fun wS hSw => by (try dsimp only at hSw); go_simp⟩) hHeld ?_
      try simp only [Act.put, List.setIfInBounds_toArray, List.set_cons_zero, List.set_cons_succ]
      refine wpAnyH_take (i := 3) (v := .int .i64 k) (get_ops _ _ _ rfl) (by kernel_rfl) (by kernel_rfl) (by kernel_rfl) (fun _ _ _ h => h) (Or.inl ⟨by rfl, fun wS hSw => by (try dsimp only at hSw); go_simp⟩) hHeld ?_
      try simp only [Act.put, List.setIfInBounds_toArray, List.set_cons_zero, List.set_cons_succ]
      refine wpAnyH_take (i := 4) (v := .pointer (some ⟨b, o + k * 14, none⟩)) (get_ops _ _ _ rfl) (by kernel_rfl) (by kernel_rfl) (by kernel_rfl) (fun _ _ _ h => h) (Or.inl ⟨by rfl, fun wS hSw => by (try dsimp only at hSw); go_simp⟩) hHeld ?_
      try simp only [Act.put, List.setIfInBounds_toArray, List.set_cons_zero, List.set_cons_succ]
      refine wpAnyH_take (i := 5) (v := .pointer (some ⟨b, o + k * 14 + 2, none⟩)) (get_ops _ _ _ rfl) (by kernel_rfl) (by kernel_rfl) (by kernel_rfl) (fun _ _ _ h => h) (Or.inl ⟨by rfl, fun wS hSw => by (try dsimp only at hSw); go_simp⟩) hHeld ?_
      try simp only [Act.put, List.setIfInBounds_toArray, List.set_cons_zero, List.set_cons_succ]
      refine wpAnyH_take (i := 6) (v := .string cl) (get_ops _ _ _ rfl) (by kernel_rfl) (by kernel_rfl) (by kernel_rfl) (fun _ _ _ h => h) (Or.inl ⟨by rfl, fun wS hSw => by (try dsimp only at hSw); have cS : wS.cell? ⟨b, o + k * 14 + 2, none⟩ = some (.string cl) := hSw.2 2 _ rfl; clear hSw; go_simp⟩) hHeld ?_
      try simp only [Act.put, List.setIfInBounds_toArray, List.set_cons_zero, List.set_cons_succ]
      refine wpAnyH_take (i := 7) (v := .slice (some ⟨b, o, none⟩) os.length c) (get_ops _ _ _ rfl) (by kernel_rfl) (by kernel_rfl) (by kernel_rfl) (fun _ _ _ h => h) (Or.inl ⟨by rfl, fun wS hSw => by (try dsimp only at hSw); go_simp⟩) hHeld ?_
      try simp only [Act.put, List.setIfInBounds_toArray, List.set_cons_zero, List.set_cons_succ]
      refine wpAnyH_take (i := 8) (v := .int .i64 k) (get_ops _ _ _ rfl) (by kernel_rfl) (by kernel_rfl) (by kernel_rfl) (fun _ _ _ h => h) (Or.inl ⟨by rfl, fun wS hSw => by (try dsimp only at hSw); go_simp⟩) hHeld ?_
      try simp only [Act.put, List.setIfInBounds_toArray, List.set_cons_zero, List.set_cons_succ]
      refine wpAnyH_take (i := 9) (v := .pointer (some ⟨b, o + k * 14, none⟩)) (get_ops _ _ _ rfl) (by kernel_rfl) (by kernel_rfl) (by kernel_rfl) (fun _ _ _ h => h) (Or.inl ⟨by rfl, fun wS hSw => by (try dsimp only at hSw); go_simp⟩) hHeld ?_
      try simp only [Act.put, List.setIfInBounds_toArray, List.set_cons_zero, List.set_cons_succ]
      refine wpAnyH_take (i := 10) (v := .pointer (some ⟨b, o + k * 14 + 3, none⟩)) (get_ops _ _ _ rfl) (by kernel_rfl) (by kernel_rfl) (by kernel_rfl) (fun _ _ _ h => h) (Or.inl ⟨by rfl, fun wS hSw => by (try dsimp only at hSw); go_simp⟩) hHeld ?_
      try simp only [Act.put, List.setIfInBounds_toArray, List.set_cons_zero, List.set_cons_succ]
      refine wpAnyH_take (i := 11) (v := (wiV s d m am cm)) (get_ops _ _ _ rfl) (by kernel_rfl) (by kernel_rfl) (by kernel_rfl) (fun _ _ _ h => h) (Or.inl ⟨by rfl, fun wS hSw => by (try dsimp only at hSw); exact exec_load 29 _ rfl ⟨b, o + k * 14 + 3, none⟩ (by go_simp) _ (load_op_will hSw.2)⟩) hHeld ?_
      try simp only [Act.put, List.setIfInBounds_toArray, List.set_cons_zero, List.set_cons_succ]
      refine wpAnyH_take (i := 12) (v := .int .i64 now2) (get_ops _ _ _ rfl) (by kernel_rfl) (by kernel_rfl) (by kernel_rfl) (fun _ _ _ h => h) (Or.inl ⟨by rfl, fun wS hSw => by (try dsimp only at hSw); go_simp⟩) hHeld ?_
      try simp only [Act.put, List.setIfInBounds_toArray, List.set_cons_zero, List.set_cons_succ]
      refine wpAnyH_ready (rs := [13]) (by kernel_rfl) (by simp) ?_
      refine (AllReadyH.cons (get_ops _ _ _ rfl) (fun K hK => ?_) AllReadyH.nil)
      go_simp
      refine (CT2.out x4 Y_x4.out P_x4.out).mono ?_
      rintro e x5 ⟨A3, c3, us, rfl, hus, hzc2, hl2, hb⟩
      have C_x5 : Hid ((b < x5.heap.size ∧ ∀ i v, (gO ⟨kd, lt, cl, s, d, m, am, cm⟩)[i]? = some v → x5.cell? ⟨b, o + k * 14 + i, none⟩ = some v)) := Lib.hid (⟨Nat.lt_of_lt_of_le C_x4.out.1 hb.size, fun i u hu => (hb.cell (p := ⟨b, o + k * 14 + i, none⟩) C_x4.out.1).trans (C_x4.out.2 i u hu)⟩)
      have Y_x5 : Hid (DI x5 x5.heap.size A1 ys) := Lib.hid (LI.step Y_x4.out hb)
      have P_x5 : Hid (PL x5 x5.heap.size am m.props) := Lib.hid (GL.step P_x4.out hb)
      have B_x5 : Hid (Below w.heap.size w x5) := Lib.hid (stepB B_x4.out hb)
      have O_x5 : Hid (S1.Okw x5) := Lib.hid (O_x4.out.step hb)
      have Z_x5 : Hid (DI x5 x5.heap.size A2 zs) := Lib.hid (LI.step Z_x4.out hb)
      clear C_x4 Y_x4 P_x4 B_x4 O_x4 Z_x4
      have U_x5 : Hid (DI x5 x5.heap.size A3 us) := Lib.hid hl2
      have CS1 := Lib.hid (fun w1 h1 h2 => same_trueD A2 c2 zs A3 c3 us w1 M HZM.out.1 hus h1 h2 (by have := HZM.out.2.2.1; have := HK.out; omega) HZM.out.2.1)
      clear hl2 hus hzc2
      clear hHeld hb
      go_wp2_with fail
      refine hK.out _ _ C_x5.out (fun hHeld => ?_)
      clear hK K
      try simp only [Act.put, List.setIfInBounds_toArray, List.set_cons_zero, List.set_cons_succ]
      refine wpAnyH_ready (rs := [14]) (by kernel_rfl) (by simp) ?_
      refine (AllReadyH.cons (get_ops _ _ _ rfl) (fun K hK => ?_) AllReadyH.nil)
      go_simp
      refine (CS1.out x5 Z_x5.out U_x5.out).mono ?_
      rintro e x6 ⟨rfl, hb⟩
      have C_x6 : Hid ((b < x6.heap.size ∧ ∀ i v, (gO ⟨kd, lt, cl, s, d, m, am, cm⟩)[i]? = some v → x6.cell? ⟨b, o + k * 14 + i, none⟩ = some v)) := Lib.hid (⟨Nat.lt_of_lt_of_le C_x5.out.1 hb.size, fun i u hu => (hb.cell (p := ⟨b, o + k * 14 + i, none⟩) C_x5.out.1).trans (C_x5.out.2 i u hu)⟩)
      have Y_x6 : Hid (DI x6 x6.heap.size A1 ys) := Lib.hid (LI.step Y_x5.out hb)
      have P_x6 : Hid (PL x6 x6.heap.size am m.props) := Lib.hid (GL.step P_x5.out hb)
      have B_x6 : Hid (Below w.heap.size w x6) := Lib.hid (stepB B_x5.out hb)
      have O_x6 : Hid (S1.Okw x6) := Lib.hid (O_x5.out.step hb)
      have Z_x6 : Hid (DI x6 x6.heap.size A2 zs) := Lib.hid (LI.step Z_x5.out hb)
      have U_x6 : Hid (DI x6 x6.heap.size A3 us) := Lib.hid (LI.step U_x5.out hb)
      clear C_x5 Y_x5 P_x5 B_x5 O_x5 Z_x5 U_x5
      clear hHeld hb
      go_wp2_with fail
      refine hK.out _ _ C_x6.out (fun hHeld => ?_)
      clear hK K
      try simp only [Act.put, List.setIfInBounds_toArray, List.set_cons_zero, List.set_cons_succ]
      refine wpAnyH_take (i := 15) (v := .bool false) (get_ops _ _ _ rfl) (by kernel_rfl) (by kernel_rfl) (by kernel_rfl) (fun _ _ _ h => h) (Or.inl ⟨by rfl, fun wS hSw => by (try dsimp only at hSw); go_simp⟩) hHeld ?_
      try simp only [Act.put, List.setIfInBounds_toArray, List.set_cons_zero, List.set_cons_succ]
      refine wpAnyH_done (by kernel_rfl) ?_ _
      clear CT2 CS1
      have CV := Lib.hid (fun w1 h => rValid_any A2 c2 zs w1 h (by have := map_len HZM.out.1; have := HZM.out.2.2.1; omega))
      go_wp2_with fail
      refine (CV.out x6 Z_x6.out).mono ?_
      rintro e x7 ⟨bv, rfl, hbv, hb⟩
      obtain rfl : bv = true := hbv.2 (by rw [HZM.out.1]; exact HZM.out.2.2.2)
      have C_x7 : Hid ((b < x7.heap.size ∧ ∀ i v, (gO ⟨kd, lt, cl, s, d, m, am, cm⟩)[i]? = some v → x7.cell? ⟨b, o + k * 14 + i, none⟩ = some v)) := Lib.hid (⟨Nat.lt_of_lt_of_le C_x6.out.1 hb.size, fun i u hu => (hb.cell (p := ⟨b, o + k * 14 + i, none⟩) C_x6.out.1).trans (C_x6.out.2 i u hu)⟩)
      have Y_x7 : Hid (DI x7 x7.heap.size A1 ys) := Lib.hid (LI.step Y_x6.out hb)
      have P_x7 : Hid (PL x7 x7.heap.size am m.props) := Lib.hid (GL.step P_x6.out hb)
      have B_x7 : Hid (Below w.heap.size w x7) := Lib.hid (stepB B_x6.out hb)
      have O_x7 : Hid (S1.Okw x7) := Lib.hid (O_x6.out.step hb)
      have Z_x7 : Hid (DI x7 x7.heap.size A2 zs) := Lib.hid (LI.step Z_x6.out hb)
      have U_x7 : Hid (DI x7 x7.heap.size A3 us) := Lib.hid (LI.step U_x6.out hb)
      clear C_x6 Y_x6 P_x6 B_x6 O_x6 Z_x6 U_x6
      clear hb hbv CV
      go_wp2_with fail
      go_roundg gg
      case measure => omega
      case rel => exact ⟨k + 1, A2, c2, zs, now2, by have := HK.out; omega, by go_num, rfl, rfl, HN2.out.1, HZC.out, by have := map_len HZM.out.1; have := HZM.out.2.2.1; omega, map_props HZM.out.1 HZM.out.2.1, by rw [HZM.out.1]; exact HZM.out.2.2.2, Z_x7.out, B_x7.out⟩
    · have q0 : (kd == 0) = false := by simp [hk0]
      clear hk0
      by_cases hk1 : kd = 1
      · have q1 : (kd == 1) = true := by simp [hk1]
        clear hk1
        have CT1 := Lib.hid (fun w1 h => wCancel_any A1 c1 ys cl w1 h (by have := HN.out.2.2.1; have := HK.out; omega) HN.out.2.2.2.1)
        have CT2 := Lib.hid (fun w1 h => rCancel_any A1 c1 ys cl w1 h (by have := HN.out.2.2.1; have := HK.out; omega))
        obtain ⟨g1, g2⟩ := HCAN.out
        rw [List.length_map] at g2
        rw [g1, g2] at CT1
        clear g1 g2
        obtain ⟨M, hM⟩ : ∃ M, offR (ys.map DE.d) cl = M := ⟨_, rfl⟩
        obtain ⟨bw, hbw⟩ : ∃ b, decide ((offR (ys.map DE.d) cl).length < ys.length) = b := ⟨_, rfl⟩
        rw [hbw, hM] at CT1 CT2
        have HMM : Hid ((∀ x ∈ M, x.m.props.length ≤ 4398046511104) ∧ M.length ≤ k + 1 ∧ ValidD M) := Lib.hid (by
          rw [← hM]
          refine ⟨fun x hx => HPM.out x (List.mem_filter.1 hx).1, ?_, off_valid cl HN.out.2.2.2.2⟩
          have := List.length_filter_le (fun x : Du => !decide (x.cl = cl)) (ys.map DE.d)
          rw [List.length_map] at this
          have := HN.out.2.2.1
          unfold offR; omega)
        clear hM hbw
        go_wp2_with fail
        refine (CT1.out wr Y_wr.out).mono ?_
        rintro e y1 ⟨v, zs, rfl, hzs, hl1, hb⟩
        have C_y1 : Hid ((b < y1.heap.size ∧ ∀ i v, (gO ⟨kd, lt, cl, s, d, m, am, cm⟩)[i]? = some v → y1.cell? ⟨b, o + k * 14 + i, none⟩ = some v)) := Lib.hid (⟨Nat.lt_of_lt_of_le C_wr.out.1 hb.size, fun i u hu => (hb.cell (p := ⟨b, o + k * 14 + i, none⟩) C_wr.out.1).trans (C_wr.out.2 i u hu)⟩)
        have Y_y1 : Hid (DI y1 y1.heap.size A1 ys) := Lib.hid (LI.step Y_wr.out hb)
        have P_y1 : Hid (PL y1 y1.heap.size am m.props) := Lib.hid (GL.step P_wr.out hb)
        have B_y1 : Hid (Below w.heap.size w y1) := Lib.hid (stepB B_wr.out hb)
        have O_y1 : Hid (S1.Okw y1) := Lib.hid (O_wr.out.step hb)
        clear C_wr Y_wr P_wr B_wr O_wr
        obtain ⟨A2, c2, rfl, hzc, hl1⟩ := lstDI hl1
        have Z_y1 : Hid (DI y1 y1.heap.size A2 zs) := Lib.hid hl1
        have HZM : Hid (zs.map DE.d = M ∧ (∀ x ∈ M, x.m.props.length ≤ 4398046511104) ∧ M.length ≤ k + 1 ∧ ValidD M) := Lib.hid ⟨hzs, HMM.out⟩
        have HZC := Lib.hid hzc
        clear hl1 hzs hzc CT1
        clear hb
        clear z2
        have z2 := C_y1.out.2 2 _ rfl
        go_wp2_with fail
        refine (CT2.out y1 Y_y1.out).mono ?_
        rintro e y2 ⟨A3, c3, us, rfl, hus, hzc2, hl2, hb⟩
        have C_y2 : Hid ((b < y2.heap.size ∧ ∀ i v, (gO ⟨kd, lt, cl, s, d, m, am, cm⟩)[i]? = some v → y2.cell? ⟨b, o + k * 14 + i, none⟩ = some v)) := Lib.hid (⟨Nat.lt_of_lt_of_le C_y1.out.1 hb.size, fun i u hu => (hb.cell (p := ⟨b, o + k * 14 + i, none⟩) C_y1.out.1).trans (C_y1.out.2 i u hu)⟩)
        have Y_y2 : Hid (DI y2 y2.heap.size A1 ys) := Lib.hid (LI.step Y_y1.out hb)
        have P_y2 : Hid (PL y2 y2.heap.size am m.props) := Lib.hid (GL.step P_y1.out hb)
        have B_y2 : Hid (Below w.heap.size w y2) := Lib.hid (stepB B_y1.out hb)
        have O_y2 : Hid (S1.Okw y2) := Lib.hid (O_y1.out.step hb)
        have Z_y2 : Hid (DI y2 y2.heap.size A2 zs) := Lib.hid (LI.step Z_y1.out hb)
        clear C_y1 Y_y1 P_y1 B_y1 O_y1 Z_y1
        have U_y2 : Hid (DI y2 y2.heap.size A3 us) := Lib.hid hl2
        have CS1 := Lib.hid (fun w1 h1 h2 => same_trueD A2 c2 zs A3 c3 us w1 M HZM.out.1 hus h1 h2 (by have := HZM.out.2.2.1; have := HK.out; omega) HZM.out.2.1)
        clear hl2 hus hzc2 CT2
        clear hb
        clear z2 z0 z1
        cases bw
        · go_wp2_with fail
          refine (CS1.out y2 Z_y2.out U_y2.out).mono ?_
          rintro e y3 ⟨rfl, hb⟩
          have C_y3 : Hid ((b < y3.heap.size ∧ ∀ i v, (gO ⟨kd, lt, cl, s, d, m, am, cm⟩)[i]? = some v → y3.cell? ⟨b, o + k * 14 + i, none⟩ = some v)) := Lib.hid (⟨Nat.lt_of_lt_of_le C_y2.out.1 hb.size, fun i u hu => (hb.cell (p := ⟨b, o + k * 14 + i, none⟩) C_y2.out.1).trans (C_y2.out.2 i u hu)⟩)
          have Y_y3 : Hid (DI y3 y3.heap.size A1 ys) := Lib.hid (LI.step Y_y2.out hb)
          have P_y3 : Hid (PL y3 y3.heap.size am m.props) := Lib.hid (GL.step P_y2.out hb)
          have B_y3 : Hid (Below w.heap.size w y3) := Lib.hid (stepB B_y2.out hb)
          have O_y3 : Hid (S1.Okw y3) := Lib.hid (O_y2.out.step hb)
          have Z_y3 : Hid (DI y3 y3.heap.size A2 zs) := Lib.hid (LI.step Z_y2.out hb)
          have U_y3 : Hid (DI y3 y3.heap.size A3 us) := Lib.hid (LI.step U_y2.out hb)
          clear C_y2 Y_y2 P_y2 B_y2 O_y2 Z_y2 U_y2
          clear hb
          clear CS1
          have CV := Lib.hid (fun w1 h => rValid_any A2 c2 zs w1 h (by have := map_len HZM.out.1; have := HZM.out.2.2.1; omega))
          go_wp2_with fail
          refine (CV.out y3 Z_y3.out).mono ?_
          rintro e y4 ⟨bv, rfl, hbv, hb⟩
          obtain rfl : bv = true := hbv.2 (by rw [HZM.out.1]; exact HZM.out.2.2.2)
          have C_y4 : Hid ((b < y4.heap.size ∧ ∀ i v, (gO ⟨kd, lt, cl, s, d, m, am, cm⟩)[i]? = some v → y4.cell? ⟨b, o + k * 14 + i, none⟩ = some v)) := Lib.hid (⟨Nat.lt_of_lt_of_le C_y3.out.1 hb.size, fun i u hu => (hb.cell (p := ⟨b, o + k * 14 + i, none⟩) C_y3.out.1).trans (C_y3.out.2 i u hu)⟩)
          have Y_y4 : Hid (DI y4 y4.heap.size A1 ys) := Lib.hid (LI.step Y_y3.out hb)
          have P_y4 : Hid (PL y4 y4.heap.size am m.props) := Lib.hid (GL.step P_y3.out hb)
          have B_y4 : Hid (Below w.heap.size w y4) := Lib.hid (stepB B_y3.out hb)
          have O_y4 : Hid (S1.Okw y4) := Lib.hid (O_y3.out.step hb)
          have Z_y4 : Hid (DI y4 y4.heap.size A2 zs) := Lib.hid (LI.step Z_y3.out hb)
          have U_y4 : Hid (DI y4 y4.heap.size A3 us) := Lib.hid (LI.step U_y3.out hb)
          clear C_y3 Y_y3 P_y3 B_y3 O_y3 Z_y3 U_y3
          clear hb hbv CV
          go_wp2_with fail
          go_roundg gg
          case measure => omega
          case rel => exact ⟨k + 1, A2, c2, zs, now2, by have := HK.out; omega, by go_num, rfl, rfl, HN2.out.1, HZC.out, by have := map_len HZM.out.1; have := HZM.out.2.2.1; omega, map_props HZM.out.1 HZM.out.2.1, by rw [HZM.out.1]; exact HZM.out.2.2.2, Z_y4.out, B_y4.out⟩
        · go_wp2_with fail
          refine (CS1.out y2 Z_y2.out U_y2.out).mono ?_
          rintro e y3 ⟨rfl, hb⟩
          have C_y3 : Hid ((b < y3.heap.size ∧ ∀ i v, (gO ⟨kd, lt, cl, s, d, m, am, cm⟩)[i]? = some v → y3.cell? ⟨b, o + k * 14 + i, none⟩ = some v)) := Lib.hid (⟨Nat.lt_of_lt_of_le C_y2.out.1 hb.size, fun i u hu => (hb.cell (p := ⟨b, o + k * 14 + i, none⟩) C_y2.out.1).trans (C_y2.out.2 i u hu)⟩)
          have Y_y3 : Hid (DI y3 y3.heap.size A1 ys) := Lib.hid (LI.step Y_y2.out hb)
          have P_y3 : Hid (PL y3 y3.heap.size am m.props) := Lib.hid (GL.step P_y2.out hb)
          have B_y3 : Hid (Below w.heap.size w y3) := Lib.hid (stepB B_y2.out hb)
          have O_y3 : Hid (S1.Okw y3) := Lib.hid (O_y2.out.step hb)
          have Z_y3 : Hid (DI y3 y3.heap.size A2 zs) := Lib.hid (LI.step Z_y2.out hb)
          have U_y3 : Hid (DI y3 y3.heap.size A3 us) := Lib.hid (LI.step U_y2.out hb)
          clear C_y2 Y_y2 P_y2 B_y2 O_y2 Z_y2 U_y2
          clear hb
          clear CS1
          have CV := Lib.hid (fun w1 h => rValid_any A2 c2 zs w1 h (by have := map_len HZM.out.1; have := HZM.out.2.2.1; omega))
          go_wp2_with fail
          refine (CV.out y3 Z_y3.out).mono ?_
          rintro e y4 ⟨bv, rfl, hbv, hb⟩
          obtain rfl : bv = true := hbv.2 (by rw [HZM.out.1]; exact HZM.out.2.2.2)
          have C_y4 : Hid ((b < y4.heap.size ∧ ∀ i v, (gO ⟨kd, lt, cl, s, d, m, am, cm⟩)[i]? = some v → y4.cell? ⟨b, o + k * 14 + i, none⟩ = some v)) := Lib.hid (⟨Nat.lt_of_lt_of_le C_y3.out.1 hb.size, fun i u hu => (hb.cell (p := ⟨b, o + k * 14 + i, none⟩) C_y3.out.1).trans (C_y3.out.2 i u hu)⟩)
          have Y_y4 : Hid (DI y4 y4.heap.size A1 ys) := Lib.hid (LI.step Y_y3.out hb)
          have P_y4 : Hid (PL y4 y4.heap.size am m.props) := Lib.hid (GL.step P_y3.out hb)
          have B_y4 : Hid (Below w.heap.size w y4) := Lib.hid (stepB B_y3.out hb)
          have O_y4 : Hid (S1.Okw y4) := Lib.hid (O_y3.out.step hb)
          have Z_y4 : Hid (DI y4 y4.heap.size A2 zs) := Lib.hid (LI.step Z_y3.out hb)
          have U_y4 : Hid (DI y4 y4.heap.size A3 us) := Lib.hid (LI.step U_y3.out hb)
          clear C_y3 Y_y3 P_y3 B_y3 O_y3 Z_y3 U_y3
          clear hb hbv CV
          go_wp2_with fail
          go_roundg gg
          case measure => omega
          case rel => exact ⟨k + 1, A2, c2, zs, now2, by have := HK.out; omega, by go_num, rfl, rfl, HN2.out.1, HZC.out, by have := map_len HZM.out.1; have := HZM.out.2.2.1; omega, map_props HZM.out.1 HZM.out.2.1, by rw [HZM.out.1]; exact HZM.out.2.2.2, Z_y4.out, B_y4.out⟩
      · have q1 : (kd == 1) = false := by simp [hk1]
        clear hk1
        have CT1 := Lib.hid (fun w1 h => wTake_any A1 c1 ys now2 w1 h (by have := HN.out.2.2.1; have := HK.out; omega) HN.out.2.2.2.1)
        have CT2 := Lib.hid (fun w1 h => rTake_any A1 c1 ys now2 w1 h HN.out.2.1 (by have := HN.out.2.2.1; have := HK.out; omega))
        obtain ⟨L1, hL1⟩ : ∃ L, dueR now2 (ys.map DE.d) = L := ⟨_, rfl⟩
        obtain ⟨L2, hL2⟩ : ∃ L, laterR now2 (ys.map DE.d) = L := ⟨_, rfl⟩
        have HK1 : Hid ((∀ x ∈ L1, x.m.props.length ≤ 4398046511104) ∧ L1.length ≤ 100000) := Lib.hid (by
          rw [← hL1]
          refine ⟨fun x hx => HPM.out x (List.mem_filter.1 hx).1, ?_⟩
          have := List.length_filter_le (fun x : Du => decide (x.tm ≤ now2)) (ys.map DE.d)
          rw [List.length_map] at this
          have := HN.out.2.2.1
          unfold dueR; omega)
        have HMM : Hid ((∀ x ∈ L2, x.m.props.length ≤ 4398046511104) ∧ L2.length ≤ k + 1 ∧ ValidD L2) := Lib.hid (by
          rw [← hL2]
          refine ⟨fun x hx => HPM.out x (List.mem_filter.1 hx).1, ?_, due_valid _ HN.out.2.2.2.2⟩
          have := List.length_filter_le (fun x : Du => !decide (x.tm ≤ now2)) (ys.map DE.d)
          rw [List.length_map] at this
          have := HN.out.2.2.1
          unfold laterR; omega)
        have HCUT := Lib.hid (fun i hc => @cut_due (ys.map DE.d) now2 i HN.out.2.2.2.2 hc)
        rw [hL1, hL2] at CT1 HCUT
        clear hL1 hL2
        go_wp2_with fail
        refine (CT1.out wr Y_wr.out).mono ?_
        rintro e t1 ⟨A4, c4, vs, A2, c2, zs, rfl, hvs, hzs, hvc, hzc, hl1, hl2, hb⟩
        have C_t1 : Hid ((b < t1.heap.size ∧ ∀ i v, (gO ⟨kd, lt, cl, s, d, m, am, cm⟩)[i]? = some v → t1.cell? ⟨b, o + k * 14 + i, none⟩ = some v)) := Lib.hid (⟨Nat.lt_of_lt_of_le C_wr.out.1 hb.size, fun i u hu => (hb.cell (p := ⟨b, o + k * 14 + i, none⟩) C_wr.out.1).trans (C_wr.out.2 i u hu)⟩)
        have Y_t1 : Hid (DI t1 t1.heap.size A1 ys) := Lib.hid (LI.step Y_wr.out hb)
        have P_t1 : Hid (PL t1 t1.heap.size am m.props) := Lib.hid (GL.step P_wr.out hb)
        have B_t1 : Hid (Below w.heap.size w t1) := Lib.hid (stepB B_wr.out hb)
        have O_t1 : Hid (S1.Okw t1) := Lib.hid (O_wr.out.step hb)
        clear C_wr Y_wr P_wr B_wr O_wr
        have Z_t1 : Hid (DI t1 t1.heap.size A2 zs) := Lib.hid hl2
        have V_t1 : Hid (DI t1 t1.heap.size A4 vs) := Lib.hid hl1
        have HZM : Hid (zs.map DE.d = L2 ∧ (∀ x ∈ L2, x.m.props.length ≤ 4398046511104) ∧ L2.length ≤ k + 1 ∧ ValidD L2) := Lib.hid ⟨hzs, HMM.out⟩
        have HVM := Lib.hid hvs
        have HZC := Lib.hid hzc
        clear hl1 hl2 hzs hvs hvc hzc CT1
        clear hb
        go_wp2_with fail
        refine (CT2.out t1 Y_t1.out).mono ?_
        rintro e t2 ⟨i, hcut, A5, c5, us, A6, c6, ts, rfl, hus, hts, huc, htc, hl1, hl2, hb⟩
        have C_t2 : Hid ((b < t2.heap.size ∧ ∀ i v, (gO ⟨kd, lt, cl, s, d, m, am, cm⟩)[i]? = some v → t2.cell? ⟨b, o + k * 14 + i, none⟩ = some v)) := Lib.hid (⟨Nat.lt_of_lt_of_le C_t1.out.1 hb.size, fun i u hu => (hb.cell (p := ⟨b, o + k * 14 + i, none⟩) C_t1.out.1).trans (C_t1.out.2 i u hu)⟩)
        have Y_t2 : Hid (DI t2 t2.heap.size A1 ys) := Lib.hid (LI.step Y_t1.out hb)
        have P_t2 : Hid (PL t2 t2.heap.size am m.props) := Lib.hid (GL.step P_t1.out hb)
        have B_t2 : Hid (Below w.heap.size w t2) := Lib.hid (stepB B_t1.out hb)
        have O_t2 : Hid (S1.Okw t2) := Lib.hid (O_t1.out.step hb)
        have Z_t2 : Hid (DI t2 t2.heap.size A2 zs) := Lib.hid (LI.step Z_t1.out hb)
        have V_t2 : Hid (DI t2 t2.heap.size A4 vs) := Lib.hid (LI.step V_t1.out hb)
        clear C_t1 Y_t1 P_t1 B_t1 O_t1 Z_t1 V_t1
        obtain ⟨g1, g2⟩ := HCUT.out i hcut
        rw [← g1] at hus
        rw [← g2] at hts
        have U_t2 : Hid (DI t2 t2.heap.size A5 us) := Lib.hid hl1
        have T_t2 : Hid (DI t2 t2.heap.size A6 ts) := Lib.hid hl2
        have CS1 := Lib.hid (fun w1 h1 h2 => same_trueD A4 c4 vs A5 c5 us w1 L1 HVM.out hus h1 h2 HK1.out.2 HK1.out.1)
        have CS2 := Lib.hid (fun w1 h1 h2 => same_trueD A2 c2 zs A6 c6 ts w1 L2 HZM.out.1 hts h1 h2 (by have := HZM.out.2.2.1; have := HK.out; omega) HZM.out.2.1)
        clear hl1 hl2 hus hts g1 g2 hcut huc htc CT2 HCUT
        clear hb
        clear z0 z1 z2
        go_wp2_with fail
        refine (CS1.out t2 V_t2.out U_t2.out).mono ?_
        rintro e t3 ⟨rfl, hb⟩
        have C_t3 : Hid ((b < t3.heap.size ∧ ∀ i v, (gO ⟨kd, lt, cl, s, d, m, am, cm⟩)[i]? = some v → t3.cell? ⟨b, o + k * 14 + i, none⟩ = some v)) := Lib.hid (⟨Nat.lt_of_lt_of_le C_t2.out.1 hb.size, fun i u hu => (hb.cell (p := ⟨b, o + k * 14 + i, none⟩) C_t2.out.1).trans (C_t2.out.2 i u hu)⟩)
        have Y_t3 : Hid (DI t3 t3.heap.size A1 ys) := Lib.hid (LI.step Y_t2.out hb)
        have P_t3 : Hid (PL t3 t3.heap.size am m.props) := Lib.hid (GL.step P_t2.out hb)
        have B_t3 : Hid (Below w.heap.size w t3) := Lib.hid (stepB B_t2.out hb)
        have O_t3 : Hid (S1.Okw t3) := Lib.hid (O_t2.out.step hb)
        have Z_t3 : Hid (DI t3 t3.heap.size A2 zs) := Lib.hid (LI.step Z_t2.out hb)
        have V_t3 : Hid (DI t3 t3.heap.size A4 vs) := Lib.hid (LI.step V_t2.out hb)
        have U_t3 : Hid (DI t3 t3.heap.size A5 us) := Lib.hid (LI.step U_t2.out hb)
        have T_t3 : Hid (DI t3 t3.heap.size A6 ts) := Lib.hid (LI.step T_t2.out hb)
        clear C_t2 Y_t2 P_t2 B_t2 O_t2 Z_t2 V_t2 U_t2 T_t2
        clear hb
        go_wp2_with fail
        refine (CS2.out t3 Z_t3.out T_t3.out).mono ?_
        rintro e t4 ⟨rfl, hb⟩
        have C_t4 : Hid ((b < t4.heap.size ∧ ∀ i v, (gO ⟨kd, lt, cl, s, d, m, am, cm⟩)[i]? = some v → t4.cell? ⟨b, o + k * 14 + i, none⟩ = some v)) := Lib.hid (⟨Nat.lt_of_lt_of_le C_t3.out.1 hb.size, fun i u hu => (hb.cell (p := ⟨b, o + k * 14 + i, none⟩) C_t3.out.1).trans (C_t3.out.2 i u hu)⟩)
        have Y_t4 : Hid (DI t4 t4.heap.size A1 ys) := Lib.hid (LI.step Y_t3.out hb)
        have P_t4 : Hid (PL t4 t4.heap.size am m.props) := Lib.hid (GL.step P_t3.out hb)
        have B_t4 : Hid (Below w.heap.size w t4) := Lib.hid (stepB B_t3.out hb)
        have O_t4 : Hid (S1.Okw t4) := Lib.hid (O_t3.out.step hb)
        have Z_t4 : Hid (DI t4 t4.heap.size A2 zs) := Lib.hid (LI.step Z_t3.out hb)
        have V_t4 : Hid (DI t4 t4.heap.size A4 vs) := Lib.hid (LI.step V_t3.out hb)
        have U_t4 : Hid (DI t4 t4.heap.size A5 us) := Lib.hid (LI.step U_t3.out hb)
        have T_t4 : Hid (DI t4 t4.heap.size A6 ts) := Lib.hid (LI.step T_t3.out hb)
        clear C_t3 Y_t3 P_t3 B_t3 O_t3 Z_t3 V_t3 U_t3 T_t3
        clear hb
        clear CS1 CS2
        have CV := Lib.hid (fun w1 h => rValid_any A2 c2 zs w1 h (by have := map_len HZM.out.1; have := HZM.out.2.2.1; omega))
        go_wp2_with fail
        refine (CV.out t4 Z_t4.out).mono ?_
        rintro e t5 ⟨bv, rfl, hbv, hb⟩
        obtain rfl : bv = true := hbv.2 (by rw [HZM.out.1]; exact HZM.out.2.2.2)
        have C_t5 : Hid ((b < t5.heap.size ∧ ∀ i v, (gO ⟨kd, lt, cl, s, d, m, am, cm⟩)[i]? = some v → t5.cell? ⟨b, o + k * 14 + i, none⟩ = some v)) := Lib.hid (⟨Nat.lt_of_lt_of_le C_t4.out.1 hb.size, fun i u hu => (hb.cell (p := ⟨b, o + k * 14 + i, none⟩) C_t4.out.1).trans (C_t4.out.2 i u hu)⟩)
        have Y_t5 : Hid (DI t5 t5.heap.size A1 ys) := Lib.hid (LI.step Y_t4.out hb)
        have P_t5 : Hid (PL t5 t5.heap.size am m.props) := Lib.hid (GL.step P_t4.out hb)
        have B_t5 : Hid (Below w.heap.size w t5) := Lib.hid (stepB B_t4.out hb)
        have O_t5 : Hid (S1.Okw t5) := Lib.hid (O_t4.out.step hb)
        have Z_t5 : Hid (DI t5 t5.heap.size A2 zs) := Lib.hid (LI.step Z_t4.out hb)
        have V_t5 : Hid (DI t5 t5.heap.size A4 vs) := Lib.hid (LI.step V_t4.out hb)
        have U_t5 : Hid (DI t5 t5.heap.size A5 us) := Lib.hid (LI.step U_t4.out hb)
        have T_t5 : Hid (DI t5 t5.heap.size A6 ts) := Lib.hid (LI.step T_t4.out hb)
        clear C_t4 Y_t4 P_t4 B_t4 O_t4 Z_t4 V_t4 U_t4 T_t4
        clear hb hbv CV
        go_wp2_with fail
        go_roundg gg
        case measure => omega
        case rel => exact ⟨k + 1, A2, c2, zs, now2, by have := HK.out; omega, by go_num, rfl, rfl, HN2.out.1, HZC.out, by have := map_len HZM.out.1; have := HZM.out.2.2.1; omega, map_props HZM.out.1 HZM.out.2.1, by rw [HZM.out.1]; exact HZM.out.2.2.2, Z_t5.out, B_t5.out⟩
end Go.Proofs.YtoakhkiiefiebabDoor
namespace Go.Proofs.YtoakhkiiefiebabDoor
open Go.RowKit
open S2 (BK Put)

theorem pairs_tm {l : List Du} (h : ValidD l) : l.Pairwise (fun x y => x.tm ≤ y.tm) := ((valid_iff l).1 h).2.1.imp (fun h => bef_le h)
theorem part_due (n : Int) : ∀ {l : List Du}, l.Pairwise (fun x y => x.tm ≤ y.tm) → dueR n l ++ laterR n l = l
  | [], _ => rfl
  | x :: r, h => by
    obtain ⟨h1, h2⟩ := List.pairwise_cons.1 h
    have ih := part_due n h2
    unfold dueR laterR at *
    by_cases hx : x.tm ≤ n
    · rw [List.filter_cons_of_pos (by simpa using hx), List.filter_cons_of_neg (by simpa using hx), List.cons_append, ih]
    · have e1 : (x :: r).filter (fun y => decide (y.tm ≤ n)) = [] := List.filter_eq_nil_iff.2 (fun y hy => by
        rcases List.mem_cons.1 hy with rfl | hy
        · simpa using hx
        · have := h1 y hy; simp; omega)
      have e2 : (x :: r).filter (fun y => !decide (y.tm ≤ n)) = x :: r := List.filter_eq_self.2 (fun y hy => by
        rcases List.mem_cons.1 hy with rfl | hy
        · simpa using hx
        · have := h1 y hy; simp; omega)
      rw [e1, e2]; rfl
def isC (cl : ByteArray) (x : Du) : Bool := decide (x.cl = cl)
theorem filter_swap (p q : Du → Bool) (l : List Du) : (l.filter p).filter q = (l.filter q).filter p := by
  rw [List.filter_filter, List.filter_filter]
  congr 1
  funext x
  rw [Bool.and_comm]
theorem ins_one {r : List Du} {x : Du} (h : ∀ y ∈ r, y.cl ≠ x.cl) : (insD r x).filter (isC x.cl) = [x] := by
  unfold insD
  have h0 : ∀ s : List Du, (∀ y ∈ s, y ∈ r) → s.filter (isC x.cl) = [] := fun s hs => List.filter_eq_nil_iff.2 (fun y hy => by unfold isC; simp [h y (hs y hy)])
  rw [List.filter_append, List.filter_append, h0 _ (fun y hy => List.mem_of_mem_take hy), h0 _ (fun y hy => List.mem_of_mem_drop hy)]
  simp [isC]
theorem ins_off {r : List Du} {x : Du} (h : ∀ y ∈ r, y.cl ≠ x.cl) : offR (insD r x) x.cl = r := by
  unfold insD offR
  have h0 : ∀ s : List Du, (∀ y ∈ s, y ∈ r) → s.filter (fun y => !decide (y.cl = x.cl)) = s := fun s hs => List.filter_eq_self.2 (fun y hy => by simp [h y (hs y hy)])
  rw [List.filter_append, List.filter_append, h0 _ (fun y hy => List.mem_of_mem_take hy), h0 _ (fun y hy => List.mem_of_mem_drop hy)]
  simp
theorem due_all {l : List Du} {n : Int} (h : ∀ x ∈ l, x.tm ≤ n) : dueR n l = l := List.filter_eq_self.2 (fun x hx => by simpa using h x hx)
/-- what the law says, as plain data -/
structure Once (M r : List Du) (x : Du) (cl : ByteArray) (early late : Int) (L1 L2 L3 : List Du) : Prop where
  one : L2.filter (isC cl) = [x]
  no1 : L1.any (isC cl) = false
  no3 : L3.any (isC cl) = false
  all : L1 ++ L2 ++ L3 = M
  off : offR M cl = r
  was : decide ((offR M cl).length < M.length) = true
theorem any_filter {l : List Du} {p : Du → Bool} (h : l.filter p = []) : l.any p = false := by
  rw [List.any_eq_false]
  exact fun x hx => List.filter_eq_nil_iff.1 h x hx
theorem once_of {r : List Du} {x : Du} {cl : ByteArray} {early late : Int} (hcl : x.cl = cl) (h : ∀ y ∈ r, y.cl ≠ cl) (hv : ValidD (insD r x)) (he : early < x.tm) (hl : x.tm ≤ late) :
    Once (insD r x) r x cl early late (dueR early (insD r x)) (dueR late (laterR early (insD r x))) (dueR 1099511627776 (laterR late (laterR early (insD r x)))) := by
  subst hcl
  have h1 := ins_one h
  have hp := pairs_tm hv
  have hv1 := ((valid_iff _).1 hv).1
  have hp2 : (laterR early (insD r x)).Pairwise (fun x y => x.tm ≤ y.tm) := hp.sublist List.filter_sublist
  have hoff := ins_off h
  refine ⟨?_, any_filter ?_, any_filter ?_, ?_, hoff, ?_⟩
  · unfold dueR laterR
    rw [filter_swap, filter_swap _ (isC x.cl), h1]
    have e1 : decide (x.tm ≤ early) = false := decide_eq_false (by omega)
    have e2 : decide (x.tm ≤ late) = true := decide_eq_true hl
    simp [e1, e2]
  · unfold dueR
    rw [filter_swap, h1]
    have e1 : decide (x.tm ≤ early) = false := decide_eq_false (by omega)
    simp [e1]
  · unfold dueR laterR
    rw [filter_swap, filter_swap _ (isC x.cl), filter_swap _ (isC x.cl), h1]
    have e1 : decide (x.tm ≤ early) = false := decide_eq_false (by omega)
    have e2 : decide (x.tm ≤ late) = true := decide_eq_true hl
    simp [e1, e2]
  · rw [due_all (l := laterR late (laterR early (insD r x))) (fun y hy => (hv1 y (List.mem_filter.1 (List.mem_filter.1 hy).1).1).2), List.append_assoc, part_due late hp2, part_due early hp]
  · rw [hoff]
    unfold insD
    have := posD_le r x
    simp only [List.length_append, List.length_take, List.length_drop, List.length_singleton]
    exact decide_eq_true (by omega)
theorem take_filter {l : List Du} {p : Du → Bool} {k : Nat} {y : Du} (hy : l[k]? = some y) : ((l.take (k + 1)).filter p).length = ((l.take k).filter p).length + if p y then 1 else 0 := by
  rw [List.take_add_one, hy, List.filter_append, List.length_append]
  cases h : p y <;> simp [h]
theorem dueR_len (n : Int) (l : List Du) : (dueR n l).length ≤ l.length := List.length_filter_le _ _
theorem laterR_len (n : Int) (l : List Du) : (laterR n l).length ≤ l.length := List.length_filter_le _ _
/-- no element up to k is of the client -/
def NoC (l : List Du) (cl : ByteArray) (k : Nat) : Prop := (l.take k).any (isC cl) = false
theorem NoC.succ {l : List Du} {cl : ByteArray} {k : Nat} {y : Du} (h : NoC l cl k) (hy : l[k]? = some y) (hn : isC cl y = false) : NoC l cl (k + 1) := by
  unfold NoC at *
  rw [List.take_add_one, hy, List.any_append, h]
  simp [hn]
theorem any_hit {l : List Du} {cl : ByteArray} {k : Nat} {y : Du} (hy : l[k]? = some y) (h : isC cl y = true) : l.any (isC cl) = true := List.any_eq_true.2 ⟨y, List.mem_of_getElem? hy, h⟩

set_option maxRecDepth 20000 in
set_option maxHeartbeats 2000000 in
theorem has_any (A : Option Addr) (c : Nat) (xs : List DE) (cl : ByteArray) (w : World) (hsl : DI w w.heap.size A xs) (hn : xs.length ≤ 100000) :
    Calls Tryd.prog 18 #[.slice A xs.length c, .string cl] w fun e w' => e = .returned (.bool ((xs.map DE.d).any (isC cl))) ∧ Below w.heap.size w w' := by
  have HS := Lib.hid hsl
  obtain ⟨R, hR⟩ : ∃ R, (xs.map DE.d).any (isC cl) = R := ⟨_, rfl⟩
  have HR := Lib.hid hR
  rw [hR]
  clear hsl hR
  go_enter Tryd.func18, Tryd.ntmps18
  go_wp2
  go_loopg [5] xs.length (fun g v wr => ∃ k : Nat, k + g = xs.length ∧ v = .int .i64 k ∧ NoC (xs.map DE.d) cl k ∧ Below w.heap.size w wr)
  case atStart => exact ⟨0, by omega, rfl, rfl, Below.refl _ _⟩
  case round =>
    obtain ⟨k, hkg, rfl, hno, hb0⟩ := hrel
    have HNO := Lib.hid hno
    have HB0 := Lib.hid hb0
    have HG := Lib.hid hkg
    clear hno hb0
    cases gk with
    | zero =>
      obtain rfl : k = xs.length := by omega
      have HF : Hid (R = false) := Lib.hid (by
        have := HNO.out
        unfold NoC at this
        rw [List.take_of_length_le (by simp), HR.out] at this
        exact this)
      clear hkg
      go_wp2
      go_ret
      exact ⟨by rw [HF.out]; rfl, HB0.out⟩
    | succ g =>
      have hlt : k < xs.length := by omega
      have e3 : decide ((k : Int) < (xs.length : Int)) = true := decide_eq_true (by omega)
      obtain ⟨x, hx⟩ : ∃ x, xs[k]? = some x := ⟨_, List.getElem?_eq_getElem hlt⟩
      have hxd : (xs.map DE.d)[k]? = some x.d := by rw [List.getElem?_map, hx]; rfl
      obtain ⟨b, o, hA, hbB, hc, _⟩ := (HS.out.step HB0.out).at_ hx
      subst hA
      have z0 : wr.cell? ⟨b, o + k * 11, none⟩ = some (.string x.d.cl) := hc 0 _ rfl
      have j1 : (0 : Int) ≤ (k : Int) := by omega
      have j2 : (k : Int) < (xs.length : Int) := by omega
      have q1 : (x.d.cl.toList == cl.toList) = isC cl x.d := str_eqb _ _
      have HSU := Lib.hid (@NoC.succ (xs.map DE.d) cl k x.d HNO.out hxd)
      have HIT := Lib.hid (@any_hit (xs.map DE.d) cl k x.d hxd)
      obtain ⟨bc, hbc⟩ : ∃ z, isC cl x.d = z := ⟨_, rfl⟩
      rw [hbc] at q1 HSU HIT
      clear hx hxd hc hbB hkg hbc
      cases bc with
      | true =>
        have HF : Hid (R = true) := Lib.hid (by rw [← HR.out]; exact HIT.out (by simp))
        go_wp2
        go_ret
        exact ⟨by rw [HF.out]; rfl, HB0.out⟩
      | false =>
        go_wp2
        go_roundg g
        case measure => omega
        case rel => exact ⟨k + 1, by have := HG.out; omega, by go_num, HSU.out (by simp), HB0.out⟩

end Go.Proofs.YtoakhkiiefiebabDoor
namespace Go.Proofs.YtoakhkiiefiebabDoor
open Go.RowKit
open S2 (BK Put)

set_option maxRecDepth 20000 in
set_option maxHeartbeats 8000000 in
theorem willOnce_walk18 (A : Option Addr) (c : Nat) (xs : List DE) (cl : ByteArray) (s : Bool) (d : Int) (m : Msg) (am : Option Addr) (cm : Nat) (now early late : Int) (w : World) (hok : S1.Okw w) (sl : DI w w.heap.size A xs) (hz : ∀ x ∈ xs, x.d.m.props.length ≤ 4398046511104)
    (sm : PL w w.heap.size am m.props) (hmz : MTz m) :
    Calls Tryd.prog 4 #[.slice A xs.length c, .string cl, wiV s d m am cm, .int .i64 now, .int .i64 early, .int .i64 late] w fun e w' => e = .returned (.bool true) ∧ Below w.heap.size w w' := by
  have HO := Lib.hid hok
  have HS := Lib.hid sl
  have HP := Lib.hid sm
  have HMZ := Lib.hid hmz
  have HZ := Lib.hid hz
  have HAW := Lib.hid (fun w1 h => awake18_any w1 h)
  have HLV := Lib.hid (fun w1 h => lvalid_any A c xs w1 h)
  have HIN := Lib.hid (fun n w1 => instant_any n w1)
  have HCK := Lib.hid (fun w1 h => rwCheck_any s d m am cm w1 h hmz.1 hmz.2)
  obtain ⟨R, hR⟩ : ∃ R, wchkR s d m = R := ⟨_, rfl⟩
  rw [hR] at HCK
  have HR := Lib.hid hR
  clear hok sl hz hmz sm hR
  go_enter Tryd.func4, Tryd.ntmps4
  go_upto_region 1 with fail
  refine name_world (C := fun w1 => Code.wp _ _ _ _ w1) (w.alloc (.cells (wiC s d m am cm).toArray 29)) ?_
  intro w1 hw1
  have hb1 : Below w.heap.size w w1 := by rw [hw1]; exact S2.below_new w _
  have V_w1 : Hid (BK 29 w1 w.heap.size (wiC s d m am cm)) := Lib.hid (by rw [hw1]; exact BK.new w _ _)
  have B_w1 := Lib.hid hb1
  have O_w1 := Lib.hid (HO.out.step hb1)
  have S_w1 : Hid (DI w1 w1.heap.size A xs) := Lib.hid (LI.step HS.out hb1)
  have P_w1 : Hid (PL w1 w1.heap.size am m.props) := Lib.hid (GL.step HP.out hb1)
  clear hw1 hb1 HO HS HP
  go_wp2_with fail
  refine (HLV.out w1 S_w1.out).mono ?_
  rintro e y1 ⟨bv, rfl, hvv, hb⟩
  have V_y1 : Hid (BK 29 y1 w.heap.size (wiC s d m am cm)) := Lib.hid (V_w1.out.step hb)
  have B_y1 : Hid (Below w.heap.size w y1) := Lib.hid (stepB B_w1.out hb)
  have O_y1 : Hid (S1.Okw y1) := Lib.hid (O_w1.out.step hb)
  have S_y1 : Hid (DI y1 y1.heap.size A xs) := Lib.hid (LI.step S_w1.out hb)
  have P_y1 : Hid (PL y1 y1.heap.size am m.props) := Lib.hid (GL.step P_w1.out hb)
  clear V_w1 B_w1 O_w1 S_w1 P_w1
  have HVV := Lib.hid hvv
  clear hvv
  clear hb
  cases bv with
  | false =>
    clear HVV
    go_wp2_with fail
    refine (HAW.out y1 O_y1.out).mono ?_
    rintro e y2 ⟨rfl, hb⟩
    have V_y2 : Hid (BK 29 y2 w.heap.size (wiC s d m am cm)) := Lib.hid (V_y1.out.step hb)
    have B_y2 : Hid (Below w.heap.size w y2) := Lib.hid (stepB B_y1.out hb)
    have O_y2 : Hid (S1.Okw y2) := Lib.hid (O_y1.out.step hb)
    have S_y2 : Hid (DI y2 y2.heap.size A xs) := Lib.hid (LI.step S_y1.out hb)
    have P_y2 : Hid (PL y2 y2.heap.size am m.props) := Lib.hid (GL.step P_y1.out hb)
    clear V_y1 B_y1 O_y1 S_y1 P_y1
    clear hb
    go_wp2_with fail
    go_ret
    exact ⟨rfl, B_y2.out⟩
  | true =>
    have HVA := Lib.hid (HVV.out.1 rfl)
    clear HVV
    cases s with
    | false =>
      have d0 : y1.cell? ⟨w.heap.size, 0, none⟩ = some (.bool false) := V_y1.out.cell 0 rfl
      have d1 : y1.cell? ⟨w.heap.size, 1, none⟩ = some (.int .i64 d) := V_y1.out.cell 1 rfl
      clear d1
      go_wp2_with fail
      refine (HAW.out y1 O_y1.out).mono ?_
      rintro e y2 ⟨rfl, hb⟩
      clear d0
      have V_y2 : Hid (BK 29 y2 w.heap.size (wiC false d m am cm)) := Lib.hid (V_y1.out.step hb)
      have B_y2 : Hid (Below w.heap.size w y2) := Lib.hid (stepB B_y1.out hb)
      have O_y2 : Hid (S1.Okw y2) := Lib.hid (O_y1.out.step hb)
      have S_y2 : Hid (DI y2 y2.heap.size A xs) := Lib.hid (LI.step S_y1.out hb)
      have P_y2 : Hid (PL y2 y2.heap.size am m.props) := Lib.hid (GL.step P_y1.out hb)
      clear V_y1 B_y1 O_y1 S_y1 P_y1
      clear hb
      go_wp2_with fail
      go_ret
      exact ⟨rfl, B_y2.out⟩
    | true =>
      have d0 : y1.cell? ⟨w.heap.size, 0, none⟩ = some (.bool true) := V_y1.out.cell 0 rfl
      have d1 : y1.cell? ⟨w.heap.size, 1, none⟩ = some (.int .i64 d) := V_y1.out.cell 1 rfl
      go_wp2_with first
        | (refine wpList_load_v (by rfl) 29 (.tmp 8) rfl ⟨w.heap.size, 0, none⟩ rfl (wiV true d m am cm) (S2.run_load_all V_y1.out Tryd.underlying29 rfl wiSize) ?_)
      refine (HCK.out y1 P_y1.out).mono ?_
      rintro e y2 ⟨rfl, hb⟩
      clear d0 d1
      have V_y2 : Hid (BK 29 y2 w.heap.size (wiC true d m am cm)) := Lib.hid (V_y1.out.step hb)
      have B_y2 : Hid (Below w.heap.size w y2) := Lib.hid (stepB B_y1.out hb)
      have O_y2 : Hid (S1.Okw y2) := Lib.hid (O_y1.out.step hb)
      have S_y2 : Hid (DI y2 y2.heap.size A xs) := Lib.hid (LI.step S_y1.out hb)
      have P_y2 : Hid (PL y2 y2.heap.size am m.props) := Lib.hid (GL.step P_y1.out hb)
      clear V_y1 B_y1 O_y1 S_y1 P_y1
      clear hb
      by_cases hR0 : R = 0
      case neg =>
        have q1 : (R != 0) = true := by simp [hR0]
        clear hR0
        go_wp2_with fail
        refine (HAW.out y2 O_y2.out).mono ?_
        rintro e y3 ⟨rfl, hb⟩
        have V_y3 : Hid (BK 29 y3 w.heap.size (wiC true d m am cm)) := Lib.hid (V_y2.out.step hb)
        have B_y3 : Hid (Below w.heap.size w y3) := Lib.hid (stepB B_y2.out hb)
        have O_y3 : Hid (S1.Okw y3) := Lib.hid (O_y2.out.step hb)
        have S_y3 : Hid (DI y3 y3.heap.size A xs) := Lib.hid (LI.step S_y2.out hb)
        have P_y3 : Hid (PL y3 y3.heap.size am m.props) := Lib.hid (GL.step P_y2.out hb)
        clear V_y2 B_y2 O_y2 S_y2 P_y2
        clear hb
        go_wp2_with fail
        go_ret
        exact ⟨rfl, B_y3.out⟩
      subst hR0
      obtain ⟨bInow, hbInow⟩ : ∃ b, (decide (0 ≤ now) && decide (now ≤ 1099511627776)) = b := ⟨_, rfl⟩
      have HInow := Lib.hid (HIN.out now)
      rw [hbInow] at HInow
      have HBInow := Lib.hid hbInow
      clear hbInow
      go_wp2_with fail
      refine (HInow.out y2).mono ?_
      rintro e y3 ⟨rfl, hb⟩
      have V_y3 : Hid (BK 29 y3 w.heap.size (wiC true d m am cm)) := Lib.hid (V_y2.out.step hb)
      have B_y3 : Hid (Below w.heap.size w y3) := Lib.hid (stepB B_y2.out hb)
      have O_y3 : Hid (S1.Okw y3) := Lib.hid (O_y2.out.step hb)
      have S_y3 : Hid (DI y3 y3.heap.size A xs) := Lib.hid (LI.step S_y2.out hb)
      have P_y3 : Hid (PL y3 y3.heap.size am m.props) := Lib.hid (GL.step P_y2.out hb)
      clear V_y2 B_y2 O_y2 S_y2 P_y2
      clear hb
      cases bInow with
      | false =>
        go_wp2_with fail
        refine (HAW.out y3 O_y3.out).mono ?_
        rintro e y4 ⟨rfl, hb⟩
        have V_y4 : Hid (BK 29 y4 w.heap.size (wiC true d m am cm)) := Lib.hid (V_y3.out.step hb)
        have B_y4 : Hid (Below w.heap.size w y4) := Lib.hid (stepB B_y3.out hb)
        have O_y4 : Hid (S1.Okw y4) := Lib.hid (O_y3.out.step hb)
        have S_y4 : Hid (DI y4 y4.heap.size A xs) := Lib.hid (LI.step S_y3.out hb)
        have P_y4 : Hid (PL y4 y4.heap.size am m.props) := Lib.hid (GL.step P_y3.out hb)
        clear V_y3 B_y3 O_y3 S_y3 P_y3
        clear hb
        go_wp2_with fail
        go_ret
        exact ⟨rfl, B_y4.out⟩
      | true =>
        obtain ⟨bIearly, hbIearly⟩ : ∃ b, (decide (0 ≤ early) && decide (early ≤ 1099511627776)) = b := ⟨_, rfl⟩
        have HIearly := Lib.hid (HIN.out early)
        rw [hbIearly] at HIearly
        have HBIearly := Lib.hid hbIearly
        clear hbIearly
        go_wp2_with fail
        refine (HIearly.out y3).mono ?_
        rintro e y4 ⟨rfl, hb⟩
        have V_y4 : Hid (BK 29 y4 w.heap.size (wiC true d m am cm)) := Lib.hid (V_y3.out.step hb)
        have B_y4 : Hid (Below w.heap.size w y4) := Lib.hid (stepB B_y3.out hb)
        have O_y4 : Hid (S1.Okw y4) := Lib.hid (O_y3.out.step hb)
        have S_y4 : Hid (DI y4 y4.heap.size A xs) := Lib.hid (LI.step S_y3.out hb)
        have P_y4 : Hid (PL y4 y4.heap.size am m.props) := Lib.hid (GL.step P_y3.out hb)
        clear V_y3 B_y3 O_y3 S_y3 P_y3
        clear hb
        cases bIearly with
        | false =>
          go_wp2_with fail
          refine (HAW.out y4 O_y4.out).mono ?_
          rintro e y5 ⟨rfl, hb⟩
          have V_y5 : Hid (BK 29 y5 w.heap.size (wiC true d m am cm)) := Lib.hid (V_y4.out.step hb)
          have B_y5 : Hid (Below w.heap.size w y5) := Lib.hid (stepB B_y4.out hb)
          have O_y5 : Hid (S1.Okw y5) := Lib.hid (O_y4.out.step hb)
          have S_y5 : Hid (DI y5 y5.heap.size A xs) := Lib.hid (LI.step S_y4.out hb)
          have P_y5 : Hid (PL y5 y5.heap.size am m.props) := Lib.hid (GL.step P_y4.out hb)
          clear V_y4 B_y4 O_y4 S_y4 P_y4
          clear hb
          go_wp2_with fail
          go_ret
          exact ⟨rfl, B_y5.out⟩
        | true =>
          obtain ⟨bIlate, hbIlate⟩ : ∃ b, (decide (0 ≤ late) && decide (late ≤ 1099511627776)) = b := ⟨_, rfl⟩
          have HIlate := Lib.hid (HIN.out late)
          rw [hbIlate] at HIlate
          have HBIlate := Lib.hid hbIlate
          clear hbIlate
          go_wp2_with fail
          refine (HIlate.out y4).mono ?_
          rintro e y5 ⟨rfl, hb⟩
          have V_y5 : Hid (BK 29 y5 w.heap.size (wiC true d m am cm)) := Lib.hid (V_y4.out.step hb)
          have B_y5 : Hid (Below w.heap.size w y5) := Lib.hid (stepB B_y4.out hb)
          have O_y5 : Hid (S1.Okw y5) := Lib.hid (O_y4.out.step hb)
          have S_y5 : Hid (DI y5 y5.heap.size A xs) := Lib.hid (LI.step S_y4.out hb)
          have P_y5 : Hid (PL y5 y5.heap.size am m.props) := Lib.hid (GL.step P_y4.out hb)
          clear V_y4 B_y4 O_y4 S_y4 P_y4
          clear hb
          cases bIlate with
          | false =>
            go_wp2_with fail
            refine (HAW.out y5 O_y5.out).mono ?_
            rintro e y6 ⟨rfl, hb⟩
            have V_y6 : Hid (BK 29 y6 w.heap.size (wiC true d m am cm)) := Lib.hid (V_y5.out.step hb)
            have B_y6 : Hid (Below w.heap.size w y6) := Lib.hid (stepB B_y5.out hb)
            have O_y6 : Hid (S1.Okw y6) := Lib.hid (O_y5.out.step hb)
            have S_y6 : Hid (DI y6 y6.heap.size A xs) := Lib.hid (LI.step S_y5.out hb)
            have P_y6 : Hid (PL y6 y6.heap.size am m.props) := Lib.hid (GL.step P_y5.out hb)
            clear V_y5 B_y5 O_y5 S_y5 P_y5
            clear hb
            go_wp2_with fail
            go_ret
            exact ⟨rfl, B_y6.out⟩
          | true =>
            have hnow : 0 ≤ now ∧ now ≤ 1099511627776 := by have := HBInow.out; simpa using this
            have hear : 0 ≤ early ∧ early ≤ 1099511627776 := by have := HBIearly.out; simpa using this
            have hlat : 0 ≤ late ∧ late ≤ 1099511627776 := by have := HBIlate.out; simpa using this
            have hdd := chk_delay HR.out rfl
            have HDD := Lib.hid hdd
            have hwr : wrap64 (now + d) = now + d := S2.wrap64_id _ (by omega) (by omega)
            obtain ⟨at_, hat⟩ : ∃ a : Int, min (now + d) 1099511627776 = a := ⟨_, rfl⟩
            have HAT := Lib.hid hat
            have HNO := Lib.hid (And.intro hnow (And.intro hear hlat))
            have d0 : y5.cell? ⟨w.heap.size, 0, none⟩ = some (.bool true) := V_y5.out.cell 0 rfl
            have d1 : y5.cell? ⟨w.heap.size, 1, none⟩ = some (.int .i64 d) := V_y5.out.cell 1 rfl
            clear hnow hear hlat hdd HIN HInow HIearly HIlate HCK
            by_cases hel : at_ ≤ early
            · have e5 : decide (at_ ≤ early) = true := decide_eq_true hel
              clear hel
              go_wp2_with fail
              refine (HAW.out y5 O_y5.out).mono ?_
              rintro e y6 ⟨rfl, hb⟩
              clear d0 d1
              have V_y6 : Hid (BK 29 y6 w.heap.size (wiC true d m am cm)) := Lib.hid (V_y5.out.step hb)
              have B_y6 : Hid (Below w.heap.size w y6) := Lib.hid (stepB B_y5.out hb)
              have O_y6 : Hid (S1.Okw y6) := Lib.hid (O_y5.out.step hb)
              have S_y6 : Hid (DI y6 y6.heap.size A xs) := Lib.hid (LI.step S_y5.out hb)
              have P_y6 : Hid (PL y6 y6.heap.size am m.props) := Lib.hid (GL.step P_y5.out hb)
              clear V_y5 B_y5 O_y5 S_y5 P_y5
              clear hb
              go_wp2_with fail
              go_ret
              exact ⟨rfl, B_y6.out⟩
            have e5 : decide (at_ ≤ early) = false := decide_eq_false hel
            by_cases hla : late < at_
            · have e6 : decide (late < at_) = true := decide_eq_true hla
              clear hla hel
              go_wp2_with fail
              refine (HAW.out y5 O_y5.out).mono ?_
              rintro e y6 ⟨rfl, hb⟩
              clear d0 d1
              have V_y6 : Hid (BK 29 y6 w.heap.size (wiC true d m am cm)) := Lib.hid (V_y5.out.step hb)
              have B_y6 : Hid (Below w.heap.size w y6) := Lib.hid (stepB B_y5.out hb)
              have O_y6 : Hid (S1.Okw y6) := Lib.hid (O_y5.out.step hb)
              have S_y6 : Hid (DI y6 y6.heap.size A xs) := Lib.hid (LI.step S_y5.out hb)
              have P_y6 : Hid (PL y6 y6.heap.size am m.props) := Lib.hid (GL.step P_y5.out hb)
              clear V_y5 B_y5 O_y5 S_y5 P_y5
              clear hb
              go_wp2_with fail
              go_ret
              exact ⟨rfl, B_y6.out⟩
            have e6 : decide (late < at_) = false := decide_eq_false hla
            have hlen : xs.length ≤ 60 := by have := HVA.out.1; rwa [List.length_map] at this
            have hof := off_valid cl HVA.out.2
            have hAsc : AscD (offR (xs.map DE.d) cl) := valid_asc hof
            obtain ⟨g1, _⟩ := can_off cl (valid_apart HVA.out.2)
            have CT1 := Lib.hid (fun w1 h h2 => wArm_any A c xs cl true d m am cm now w1 h (by omega) HZ.out h2 HMZ.out.1 HNO.out.1 (fun _ => HDD.out) (fun _ => by rw [g1]; exact hAsc))
            have hae : armR (xs.map DE.d) cl true d m now = rarmR (xs.map DE.d) cl true d m now := by unfold armR rarmR; rw [g1]
            have hre : rarmR (xs.map DE.d) cl true d m now = insD (offR (xs.map DE.d) cl) (newDu cl d m now) := rfl
            rw [hae, hre] at CT1
            have HX0 : Hid ((newDu cl d m now).cl = cl ∧ (newDu cl d m now).tm = at_ ∧ (newDu cl d m now).m = m) := Lib.hid ⟨rfl, HAT.out, rfl⟩
            have hvm := arm_valid cl true d m now HVA.out.2 HNO.out.1.1 (fun _ => HDD.out)
            rw [hre] at hvm
            have hlm := arm_len (xs.map DE.d) cl true d m now
            rw [hre, List.length_map] at hlm
            have hpm := arm_props cl true d m now (props_map HZ.out) HMZ.out.1
            rw [hre] at hpm
            have CR := Lib.hid (fun w1 h => rCancel_any A c xs cl w1 h (by omega))
            have hpo : ∀ x ∈ offR (xs.map DE.d) cl, x.m.props.length ≤ 4398046511104 := fun x hx => props_map HZ.out x (List.mem_filter.1 hx).1
            have hlo : (offR (xs.map DE.d) cl).length ≤ 60 := by have := List.length_filter_le (fun x : Du => !decide (x.cl = cl)) (xs.map DE.d); rw [List.length_map] at this; unfold offR; omega
            have hoo := off_other (xs.map DE.d) cl
            generalize offR (xs.map DE.d) cl = r at *
            generalize newDu cl d m now = x at *
            have honce := once_of (early := early) (late := late) HX0.out.1 hoo hvm (by rw [HX0.out.2.1]; omega) (by rw [HX0.out.2.1]; omega)
            obtain ⟨M, hM⟩ : ∃ M, insD r x = M := ⟨_, rfl⟩
            rw [hM] at CT1 honce hvm hlm hpm
            obtain ⟨L1, hL1⟩ : ∃ L, dueR early M = L := ⟨_, rfl⟩
            obtain ⟨N1, hN1⟩ : ∃ L, laterR early M = L := ⟨_, rfl⟩
            obtain ⟨L2, hL2⟩ : ∃ L, dueR late N1 = L := ⟨_, rfl⟩
            obtain ⟨N2, hN2⟩ : ∃ L, laterR late N1 = L := ⟨_, rfl⟩
            obtain ⟨L3, hL3⟩ : ∃ L, dueR 1099511627776 N2 = L := ⟨_, rfl⟩
            rw [hL1, hN1, hL2, hN2, hL3] at honce
            have HON := Lib.hid honce
            have HLE : Hid (M.length ≤ 61 ∧ L1.length ≤ 61 ∧ N1.length ≤ 61 ∧ L2.length ≤ 61 ∧ N2.length ≤ 61 ∧ L3.length ≤ 61) := Lib.hid (by
              have k1 := dueR_len early M; have k2 := laterR_len early M; have k3 := dueR_len late N1; have k4 := laterR_len late N1; have k5 := dueR_len 1099511627776 N2
              rw [hL1] at k1; rw [hN1] at k2; rw [hL2] at k3; rw [hN2] at k4; rw [hL3] at k5
              omega)
            have HPR : Hid ((∀ x ∈ M, x.m.props.length ≤ 4398046511104) ∧ (∀ x ∈ N1, x.m.props.length ≤ 4398046511104) ∧ (∀ x ∈ N2, x.m.props.length ≤ 4398046511104)) := Lib.hid ⟨hpm, (fun y hy => hpm y (by rw [← hN1] at hy; exact (List.mem_filter.1 hy).1)), (fun y hy => hpm y (by rw [← hN2] at hy; have := (List.mem_filter.1 hy).1; rw [← hN1] at this; exact (List.mem_filter.1 this).1))⟩
            have HRL : Hid ((∀ x ∈ r, x.m.props.length ≤ 4398046511104) ∧ r.length ≤ 60) := Lib.hid ⟨hpo, hlo⟩
            have T1 := Lib.hid (fun A1 c1 (ys : List DE) w1 (hy : ys.map DE.d = M) h => wTake_any A1 c1 ys early w1 h (by have := map_len hy; have := HLE.out.1; omega) (map_props hy HPR.out.1))
            have T2 := Lib.hid (fun A1 c1 (ys : List DE) w1 (hy : ys.map DE.d = N1) h => wTake_any A1 c1 ys late w1 h (by have := map_len hy; have := HLE.out; omega) (map_props hy HPR.out.2.1))
            have T3 := Lib.hid (fun A1 c1 (ys : List DE) w1 (hy : ys.map DE.d = N2) h => wTake_any A1 c1 ys 1099511627776 w1 h (by have := map_len hy; have := HLE.out; omega) (map_props hy HPR.out.2.2))
            have HEQ := Lib.hid (And.intro hL1 (And.intro hN1 (And.intro hL2 (And.intro hN2 hL3))))
            clear hel hla hlen hof hAsc g1 hae hre hvm hlm hpm hpo hlo hoo honce hM hL1 hN1 hL2 hN2 hL3
            go_wp2_with first
              | (refine wpList_load_v (by rfl) 29 (.tmp 8) rfl ⟨w.heap.size, 0, none⟩ rfl (wiV true d m am cm) (S2.run_load_all V_y5.out Tryd.underlying29 rfl wiSize) ?_)
            refine (CT1.out y5 S_y5.out P_y5.out).mono ?_
            rintro e y6 ⟨A1, c1, ys, rfl, hys, _, hl1, hb⟩
            clear d0 d1
            have V_y6 : Hid (BK 29 y6 w.heap.size (wiC true d m am cm)) := Lib.hid (V_y5.out.step hb)
            have B_y6 : Hid (Below w.heap.size w y6) := Lib.hid (stepB B_y5.out hb)
            have O_y6 : Hid (S1.Okw y6) := Lib.hid (O_y5.out.step hb)
            have S_y6 : Hid (DI y6 y6.heap.size A xs) := Lib.hid (LI.step S_y5.out hb)
            have P_y6 : Hid (PL y6 y6.heap.size am m.props) := Lib.hid (GL.step P_y5.out hb)
            clear V_y5 B_y5 O_y5 S_y5 P_y5
            have Y_y6 := Lib.hid hl1
            clear hb hl1 CT1
            have TT1 := Lib.hid (fun w1 h => T1.out A1 c1 ys w1 hys h)
            rw [hys, HEQ.out.1, HEQ.out.2.1] at TT1
            clear hys T1
            go_wp2_with fail
            refine (TT1.out y6 Y_y6.out).mono ?_
            rintro e y7 ⟨AE, cAE, es, AF, cAF, fs, rfl, h1e, h2e, _, _, hl1, hl2, hb⟩
            have V_y7 : Hid (BK 29 y7 w.heap.size (wiC true d m am cm)) := Lib.hid (V_y6.out.step hb)
            have B_y7 : Hid (Below w.heap.size w y7) := Lib.hid (stepB B_y6.out hb)
            have O_y7 : Hid (S1.Okw y7) := Lib.hid (O_y6.out.step hb)
            have S_y7 : Hid (DI y7 y7.heap.size A xs) := Lib.hid (LI.step S_y6.out hb)
            have P_y7 : Hid (PL y7 y7.heap.size am m.props) := Lib.hid (GL.step P_y6.out hb)
            have Y_y7 : Hid (DI y7 y7.heap.size A1 ys) := Lib.hid (LI.step Y_y6.out hb)
            clear V_y6 B_y6 O_y6 S_y6 P_y6 Y_y6
            have E_y7 := Lib.hid hl1
            have G_y7 := Lib.hid hl2
            have HE := Lib.hid h1e
            clear hl1 hl2 h1e
            clear hb
            clear TT1
            clear Y_y7
            have TT2 := Lib.hid (fun w1 h => T2.out AF cAF fs w1 h2e h)
            rw [h2e, HEQ.out.2.2.1, HEQ.out.2.2.2.1] at TT2
            clear h2e T2
            go_wp2_with fail
            refine (TT2.out y7 G_y7.out).mono ?_
            rintro e y8 ⟨AD, cAD, ds, AH, cAH, gs, rfl, h1e, h2e, _, _, hl1, hl2, hb⟩
            have V_y8 : Hid (BK 29 y8 w.heap.size (wiC true d m am cm)) := Lib.hid (V_y7.out.step hb)
            have B_y8 : Hid (Below w.heap.size w y8) := Lib.hid (stepB B_y7.out hb)
            have O_y8 : Hid (S1.Okw y8) := Lib.hid (O_y7.out.step hb)
            have S_y8 : Hid (DI y8 y8.heap.size A xs) := Lib.hid (LI.step S_y7.out hb)
            have P_y8 : Hid (PL y8 y8.heap.size am m.props) := Lib.hid (GL.step P_y7.out hb)
            have E_y8 : Hid (DI y8 y8.heap.size AE es) := Lib.hid (LI.step E_y7.out hb)
            have G_y8 : Hid (DI y8 y8.heap.size AF fs) := Lib.hid (LI.step G_y7.out hb)
            clear V_y7 B_y7 O_y7 S_y7 P_y7 E_y7 G_y7
            have D_y8 := Lib.hid hl1
            have K_y8 := Lib.hid hl2
            have HD := Lib.hid h1e
            clear hl1 hl2 h1e
            clear hb
            clear TT2
            clear G_y8
            have TT3 := Lib.hid (fun w1 h => T3.out AH cAH gs w1 h2e h)
            rw [h2e, HEQ.out.2.2.2.2] at TT3
            clear h2e T3
            go_wp2_with fail
            refine (TT3.out y8 K_y8.out).mono ?_
            rintro e y9 ⟨AT, cAT, ts, AU, cAU, us, rfl, h1e, h2e, _, _, hl1, hl2, hb⟩
            have V_y9 : Hid (BK 29 y9 w.heap.size (wiC true d m am cm)) := Lib.hid (V_y8.out.step hb)
            have B_y9 : Hid (Below w.heap.size w y9) := Lib.hid (stepB B_y8.out hb)
            have O_y9 : Hid (S1.Okw y9) := Lib.hid (O_y8.out.step hb)
            have S_y9 : Hid (DI y9 y9.heap.size A xs) := Lib.hid (LI.step S_y8.out hb)
            have P_y9 : Hid (PL y9 y9.heap.size am m.props) := Lib.hid (GL.step P_y8.out hb)
            have E_y9 : Hid (DI y9 y9.heap.size AE es) := Lib.hid (LI.step E_y8.out hb)
            have D_y9 : Hid (DI y9 y9.heap.size AD ds) := Lib.hid (LI.step D_y8.out hb)
            have K_y9 : Hid (DI y9 y9.heap.size AH gs) := Lib.hid (LI.step K_y8.out hb)
            clear V_y8 B_y8 O_y8 S_y8 P_y8 E_y8 D_y8 K_y8
            have T_y9 := Lib.hid hl1
            have U_y9 := Lib.hid hl2
            have HT := Lib.hid h1e
            clear hl1 hl2 h1e
            clear hb
            clear TT3
            clear K_y9 U_y9
            clear h2e HEQ HPR
            have HDL : Hid (ds.length ≤ 61) := Lib.hid (by have := map_len HD.out; have := HLE.out; omega)
            go_wp2_with fail
            go_loopg [19, 20] ds.length (fun g v19 v20 wr => ∃ k : Nat, k + g = ds.length ∧ v20 = .int .i64 k ∧ v19 = .int .i64 (((L2.take k).filter (isC cl)).length : Nat) ∧ BK 29 wr w.heap.size (wiC true d m am cm) ∧ Below w.heap.size w wr ∧ S1.Okw wr ∧ DI wr wr.heap.size A xs ∧ PL wr wr.heap.size am m.props ∧ DI wr wr.heap.size AE es ∧ DI wr wr.heap.size AD ds ∧ DI wr wr.heap.size AT ts)
            case atStart => exact ⟨0, by omega, rfl, rfl, V_y9.out, B_y9.out, O_y9.out, S_y9.out, P_y9.out, E_y9.out, D_y9.out, T_y9.out⟩
            case round =>
              obtain ⟨k, hkg, rfl, rfl, hV, hB, hO, hS, hP, hE, hD, hT⟩ := hrel
              have V_wr := Lib.hid hV
              have B_wr := Lib.hid hB
              have O_wr := Lib.hid hO
              have S_wr := Lib.hid hS
              have P_wr := Lib.hid hP
              have E_wr := Lib.hid hE
              have D_wr := Lib.hid hD
              have T_wr := Lib.hid hT
              have HG := Lib.hid hkg
              clear hV hB hO hS hP hE hD hT V_y9 B_y9 O_y9 S_y9 P_y9 E_y9 D_y9 T_y9
              cases gk with
              | zero =>
                obtain rfl : k = ds.length := by omega
                have hcnt : (((L2.take ds.length).filter (isC cl)).length : Nat) = 1 := by rw [List.take_of_length_le (by rw [← map_len HD.out]; exact Nat.le_refl _), HON.out.one]; rfl
                rw [hcnt]
                clear hkg hcnt
                go_wp2_with fail
                refine (CR.out wr S_wr.out).mono ?_
                rintro e z1 ⟨AR, cR, rs, rfl, hrs, _, hl1, hb⟩
                have V_z1 : Hid (BK 29 z1 w.heap.size (wiC true d m am cm)) := Lib.hid (V_wr.out.step hb)
                have B_z1 : Hid (Below w.heap.size w z1) := Lib.hid (stepB B_wr.out hb)
                have O_z1 : Hid (S1.Okw z1) := Lib.hid (O_wr.out.step hb)
                have S_z1 : Hid (DI z1 z1.heap.size A xs) := Lib.hid (LI.step S_wr.out hb)
                have P_z1 : Hid (PL z1 z1.heap.size am m.props) := Lib.hid (GL.step P_wr.out hb)
                have E_z1 : Hid (DI z1 z1.heap.size AE es) := Lib.hid (LI.step E_wr.out hb)
                have D_z1 : Hid (DI z1 z1.heap.size AD ds) := Lib.hid (LI.step D_wr.out hb)
                have T_z1 : Hid (DI z1 z1.heap.size AT ts) := Lib.hid (LI.step T_wr.out hb)
                clear V_wr B_wr O_wr S_wr P_wr E_wr D_wr T_wr
                have R_z1 := Lib.hid hl1
                have HRS := Lib.hid hrs
                clear hl1 hrs
                clear hb
                clear CR
                have HB0 := Lib.hid (S2.below_new z1 (.cells #[] 45))
                go_wp2_with first
                  | (at_builtin; refine wpList_appG (g := gD) (k := 11) (e := 45) (by decide) _ rfl _ _ 23 23 rfl (.agg #[.string ByteArray.empty, .int .i64 0, .string ByteArray.empty, .string ByteArray.empty, .int .i64 0, .bool false, .int .i64 0, .int .i64 0, .string ByteArray.empty, .int .i64 0, .slice none 0 0]) 136 Tryd.underlying23 dueInfo rfl (by decide) z1.heap.size _ [] es rfl (OwnG.made z1 0 #[] z1.heap.size (Nat.le_refl _) (by decide) rfl) _ rfl (GL.src gD_len gD_one (LI.step E_z1.out HB0.out).1 Tryd.underlying23 cAE) z1 HB0.out (by simp) (by have := map_len HE.out; have := HLE.out; simp; omega) ?_; intro v1 wa hown1 hba1 hsa1; have HWa := Lib.hid hown1; have B_wa := Lib.hid hba1; have D_wa := Lib.hid (LI.step D_z1.out hba1); clear hown1 hba1 hsa1)
                  | (at_builtin; refine wpList_appG (g := gD) (k := 11) (e := 45) (by decide) wa rfl _ _ 23 23 rfl (.agg #[.string ByteArray.empty, .int .i64 0, .string ByteArray.empty, .string ByteArray.empty, .int .i64 0, .bool false, .int .i64 0, .int .i64 0, .string ByteArray.empty, .int .i64 0, .slice none 0 0]) 136 Tryd.underlying23 dueInfo rfl (by decide) z1.heap.size _ ([] ++ es) ds rfl HWa.out _ rfl (GL.src gD_len gD_one D_wa.out.1 Tryd.underlying23 cAD) z1 B_wa.out B_wa.out.size (by have := map_len HE.out; have := map_len HD.out; have := HLE.out; simp; omega) ?_; intro v2 wb hown2 hba2 hsa2; have HWb := Lib.hid hown2; have B_wb := Lib.hid hba2; have T_wb := Lib.hid (LI.step T_z1.out hba2); clear hown2 hba2 hsa2)
                  | (at_builtin; refine wpList_appG (g := gD) (k := 11) (e := 45) (by decide) wb rfl _ _ 23 23 rfl (.agg #[.string ByteArray.empty, .int .i64 0, .string ByteArray.empty, .string ByteArray.empty, .int .i64 0, .bool false, .int .i64 0, .int .i64 0, .string ByteArray.empty, .int .i64 0, .slice none 0 0]) 136 Tryd.underlying23 dueInfo rfl (by decide) z1.heap.size _ ([] ++ es ++ ds) ts rfl HWb.out _ rfl (GL.src gD_len gD_one T_wb.out.1 Tryd.underlying23 cAT) z1 B_wb.out B_wb.out.size (by have := map_len HE.out; have := map_len HD.out; have := map_len HT.out; have := HLE.out; simp; omega) ?_; intro v3 wc hown3 hba3 hsa3; obtain ⟨qs, hqs⟩ : ∃ qs, qs = [] ++ es ++ ds ++ ts := ⟨_, rfl⟩; rw [← hqs] at hown3; have HQS := Lib.hid hqs; obtain ⟨A7, c7, hv7, hc7, hgl7⟩ := OwnG.ret gD_len hown3; subst hv7; have HG7 := Lib.hid hgl7; have B_wc := Lib.hid hba3; clear hown3 hba3 hsa3 hc7 hgl7 hqs)
                have HALL : Hid (qs.map DE.d = M) := Lib.hid (by rw [HQS.out, List.nil_append, List.map_append, List.map_append, HE.out, HD.out, HT.out]; exact HON.out.all)
                have Q_wc : Hid (DI wc wc.heap.size A7 qs) := Lib.hid ⟨HG7.out, fun z hz => by
                  rw [HQS.out] at hz
                  rcases List.mem_append.1 hz with hz | hz
                  · rcases List.mem_append.1 hz with hz | hz
                    · rw [List.nil_append] at hz; exact (E_z1.out.2 z hz).step B_wc.out
                    · exact (D_z1.out.2 z hz).step B_wc.out
                  · exact (T_z1.out.2 z hz).step B_wc.out⟩
                have hb := B_wc.out
                have V_wc : Hid (BK 29 wc w.heap.size (wiC true d m am cm)) := Lib.hid (V_z1.out.step hb)
                have B_wc : Hid (Below w.heap.size w wc) := Lib.hid (stepB B_z1.out hb)
                have O_wc : Hid (S1.Okw wc) := Lib.hid (O_z1.out.step hb)
                have S_wc : Hid (DI wc wc.heap.size A xs) := Lib.hid (LI.step S_z1.out hb)
                have P_wc : Hid (PL wc wc.heap.size am m.props) := Lib.hid (GL.step P_z1.out hb)
                have E_wc : Hid (DI wc wc.heap.size AE es) := Lib.hid (LI.step E_z1.out hb)
                have D_wc : Hid (DI wc wc.heap.size AD ds) := Lib.hid (LI.step D_z1.out hb)
                have T_wc : Hid (DI wc wc.heap.size AT ts) := Lib.hid (LI.step T_z1.out hb)
                have R_wc : Hid (DI wc wc.heap.size AR rs) := Lib.hid (LI.step R_z1.out hb)
                clear hb V_z1 B_z1 O_z1 S_z1 P_z1 E_z1 D_z1 T_z1 R_z1
                have CR2 := Lib.hid (fun w1 h => rCancel_any A7 c7 qs cl w1 h (by have := map_len HALL.out; have := HLE.out; omega))
                have hql := map_len HALL.out
                rw [HALL.out, HON.out.off] at CR2
                have hbw : decide (r.length < qs.length) = true := by rw [hql]; have := HON.out.was; rwa [HON.out.off] at this
                rw [hbw] at CR2
                clear hql hbw
                go_wp2_with fail
                refine (CR2.out wc Q_wc.out).mono ?_
                rintro e z2 ⟨AZ, cZ, zs, rfl, hzs, _, hl1, hb⟩
                have V_z2 : Hid (BK 29 z2 w.heap.size (wiC true d m am cm)) := Lib.hid (V_wc.out.step hb)
                have B_z2 : Hid (Below w.heap.size w z2) := Lib.hid (stepB B_wc.out hb)
                have O_z2 : Hid (S1.Okw z2) := Lib.hid (O_wc.out.step hb)
                have S_z2 : Hid (DI z2 z2.heap.size A xs) := Lib.hid (LI.step S_wc.out hb)
                have P_z2 : Hid (PL z2 z2.heap.size am m.props) := Lib.hid (GL.step P_wc.out hb)
                have E_z2 : Hid (DI z2 z2.heap.size AE es) := Lib.hid (LI.step E_wc.out hb)
                have D_z2 : Hid (DI z2 z2.heap.size AD ds) := Lib.hid (LI.step D_wc.out hb)
                have T_z2 : Hid (DI z2 z2.heap.size AT ts) := Lib.hid (LI.step T_wc.out hb)
                have R_z2 : Hid (DI z2 z2.heap.size AR rs) := Lib.hid (LI.step R_wc.out hb)
                have Q_z2 : Hid (DI z2 z2.heap.size A7 qs) := Lib.hid (LI.step Q_wc.out hb)
                clear V_wc B_wc O_wc S_wc P_wc E_wc D_wc T_wc R_wc Q_wc
                have Z_z2 := Lib.hid hl1
                have HZS := Lib.hid hzs
                clear hl1 hzs CR2
                clear hb
                go_wp2_with fail
                refine (HAW.out z2 O_z2.out).mono ?_
                rintro e z3 ⟨rfl, hb⟩
                have V_z3 : Hid (BK 29 z3 w.heap.size (wiC true d m am cm)) := Lib.hid (V_z2.out.step hb)
                have B_z3 : Hid (Below w.heap.size w z3) := Lib.hid (stepB B_z2.out hb)
                have O_z3 : Hid (S1.Okw z3) := Lib.hid (O_z2.out.step hb)
                have S_z3 : Hid (DI z3 z3.heap.size A xs) := Lib.hid (LI.step S_z2.out hb)
                have P_z3 : Hid (PL z3 z3.heap.size am m.props) := Lib.hid (GL.step P_z2.out hb)
                have E_z3 : Hid (DI z3 z3.heap.size AE es) := Lib.hid (LI.step E_z2.out hb)
                have D_z3 : Hid (DI z3 z3.heap.size AD ds) := Lib.hid (LI.step D_z2.out hb)
                have T_z3 : Hid (DI z3 z3.heap.size AT ts) := Lib.hid (LI.step T_z2.out hb)
                have R_z3 : Hid (DI z3 z3.heap.size AR rs) := Lib.hid (LI.step R_z2.out hb)
                have Q_z3 : Hid (DI z3 z3.heap.size A7 qs) := Lib.hid (LI.step Q_z2.out hb)
                have Z_z3 : Hid (DI z3 z3.heap.size AZ zs) := Lib.hid (LI.step Z_z2.out hb)
                clear V_z2 B_z2 O_z2 S_z2 P_z2 E_z2 D_z2 T_z2 R_z2 Q_z2 Z_z2
                clear hb
                have HH1 := Lib.hid (fun w1 h => has_any AE cAE es cl w1 h (by have := map_len HE.out; have := HLE.out; omega))
                rw [HE.out, HON.out.no1] at HH1
                have HH3 := Lib.hid (fun w1 h => has_any AT cAT ts cl w1 h (by have := map_len HT.out; have := HLE.out; omega))
                rw [HT.out, HON.out.no3] at HH3
                have CS := Lib.hid (fun w1 h1 h2 => same_trueD AZ cZ zs AR cR rs w1 r HZS.out HRS.out h1 h2 (by have := HRL.out.2; omega) HRL.out.1)
                go_wp2_with fail
                refine (HH1.out z3 E_z3.out).mono ?_
                rintro e z4 ⟨rfl, hb⟩
                have V_z4 : Hid (BK 29 z4 w.heap.size (wiC true d m am cm)) := Lib.hid (V_z3.out.step hb)
                have B_z4 : Hid (Below w.heap.size w z4) := Lib.hid (stepB B_z3.out hb)
                have O_z4 : Hid (S1.Okw z4) := Lib.hid (O_z3.out.step hb)
                have S_z4 : Hid (DI z4 z4.heap.size A xs) := Lib.hid (LI.step S_z3.out hb)
                have P_z4 : Hid (PL z4 z4.heap.size am m.props) := Lib.hid (GL.step P_z3.out hb)
                have E_z4 : Hid (DI z4 z4.heap.size AE es) := Lib.hid (LI.step E_z3.out hb)
                have D_z4 : Hid (DI z4 z4.heap.size AD ds) := Lib.hid (LI.step D_z3.out hb)
                have T_z4 : Hid (DI z4 z4.heap.size AT ts) := Lib.hid (LI.step T_z3.out hb)
                have R_z4 : Hid (DI z4 z4.heap.size AR rs) := Lib.hid (LI.step R_z3.out hb)
                have Q_z4 : Hid (DI z4 z4.heap.size A7 qs) := Lib.hid (LI.step Q_z3.out hb)
                have Z_z4 : Hid (DI z4 z4.heap.size AZ zs) := Lib.hid (LI.step Z_z3.out hb)
                clear V_z3 B_z3 O_z3 S_z3 P_z3 E_z3 D_z3 T_z3 R_z3 Q_z3 Z_z3
                clear hb
                go_wp2_with fail
                refine (HH3.out z4 T_z4.out).mono ?_
                rintro e z5 ⟨rfl, hb⟩
                have V_z5 : Hid (BK 29 z5 w.heap.size (wiC true d m am cm)) := Lib.hid (V_z4.out.step hb)
                have B_z5 : Hid (Below w.heap.size w z5) := Lib.hid (stepB B_z4.out hb)
                have O_z5 : Hid (S1.Okw z5) := Lib.hid (O_z4.out.step hb)
                have S_z5 : Hid (DI z5 z5.heap.size A xs) := Lib.hid (LI.step S_z4.out hb)
                have P_z5 : Hid (PL z5 z5.heap.size am m.props) := Lib.hid (GL.step P_z4.out hb)
                have E_z5 : Hid (DI z5 z5.heap.size AE es) := Lib.hid (LI.step E_z4.out hb)
                have D_z5 : Hid (DI z5 z5.heap.size AD ds) := Lib.hid (LI.step D_z4.out hb)
                have T_z5 : Hid (DI z5 z5.heap.size AT ts) := Lib.hid (LI.step T_z4.out hb)
                have R_z5 : Hid (DI z5 z5.heap.size AR rs) := Lib.hid (LI.step R_z4.out hb)
                have Q_z5 : Hid (DI z5 z5.heap.size A7 qs) := Lib.hid (LI.step Q_z4.out hb)
                have Z_z5 : Hid (DI z5 z5.heap.size AZ zs) := Lib.hid (LI.step Z_z4.out hb)
                clear V_z4 B_z4 O_z4 S_z4 P_z4 E_z4 D_z4 T_z4 R_z4 Q_z4 Z_z4
                clear hb
                go_wp2_with fail
                refine (CS.out z5 Z_z5.out R_z5.out).mono ?_
                rintro e z6 ⟨rfl, hb⟩
                have V_z6 : Hid (BK 29 z6 w.heap.size (wiC true d m am cm)) := Lib.hid (V_z5.out.step hb)
                have B_z6 : Hid (Below w.heap.size w z6) := Lib.hid (stepB B_z5.out hb)
                have O_z6 : Hid (S1.Okw z6) := Lib.hid (O_z5.out.step hb)
                have S_z6 : Hid (DI z6 z6.heap.size A xs) := Lib.hid (LI.step S_z5.out hb)
                have P_z6 : Hid (PL z6 z6.heap.size am m.props) := Lib.hid (GL.step P_z5.out hb)
                have E_z6 : Hid (DI z6 z6.heap.size AE es) := Lib.hid (LI.step E_z5.out hb)
                have D_z6 : Hid (DI z6 z6.heap.size AD ds) := Lib.hid (LI.step D_z5.out hb)
                have T_z6 : Hid (DI z6 z6.heap.size AT ts) := Lib.hid (LI.step T_z5.out hb)
                have R_z6 : Hid (DI z6 z6.heap.size AR rs) := Lib.hid (LI.step R_z5.out hb)
                have Q_z6 : Hid (DI z6 z6.heap.size A7 qs) := Lib.hid (LI.step Q_z5.out hb)
                have Z_z6 : Hid (DI z6 z6.heap.size AZ zs) := Lib.hid (LI.step Z_z5.out hb)
                clear V_z5 B_z5 O_z5 S_z5 P_z5 E_z5 D_z5 T_z5 R_z5 Q_z5 Z_z5
                clear hb
                go_wp2_with fail
                go_ret
                exact ⟨rfl, B_z6.out⟩
              | succ gk =>
                have hlt : k < ds.length := by omega
                have e3 : decide ((k : Int) < (ds.length : Int)) = true := decide_eq_true (by omega)
                have e3' : decide (k < ds.length) = true := decide_eq_true hlt
                obtain ⟨y, hy⟩ : ∃ y, ds[k]? = some y := ⟨_, List.getElem?_eq_getElem hlt⟩
                have hyd : L2[k]? = some y.d := by rw [← HD.out, List.getElem?_map, hy]; rfl
                obtain ⟨b, o, hA, hbB, hc, hpl⟩ := D_wr.out.at_ hy
                subst hA
                have z0 : wr.cell? ⟨b, o + k * 11, none⟩ = some (.string y.d.cl) := hc 0 _ rfl
                have C_wr : Hid (b < wr.heap.size ∧ ∀ i v, (gD y)[i]? = some v → wr.cell? ⟨b, o + k * 11 + i, none⟩ = some v) := Lib.hid ⟨hbB, hc⟩
                have W_wr : Hid (PL wr wr.heap.size y.a y.d.m.props) := Lib.hid hpl
                have hkb : k ≤ 100 := by have := HDL.out; omega
                have i1 : (0 : Int) ≤ (k : Int) := by omega
                have i2 : (k : Int) < (ds.length : Int) := by omega
                have q1 : (y.d.cl.toList == cl.toList) = isC cl y.d := str_eqb _ _
                have HTF := Lib.hid (take_filter (p := isC cl) hyd)
                have HYX : Hid (isC cl y.d = true → y.d = x) := Lib.hid (fun h => by
                  have : y.d ∈ L2.filter (isC cl) := List.mem_filter.2 ⟨List.mem_of_getElem? hyd, h⟩
                  rw [HON.out.one] at this
                  simpa using this)
                have HCB : Hid (((L2.take k).filter (isC cl)).length ≤ 61) := Lib.hid (by have h1 := List.length_filter_le (isC cl) (L2.take k); rw [List.length_take] at h1; have := HLE.out; omega)
                obtain ⟨n, hn⟩ : ∃ n, ((L2.take k).filter (isC cl)).length = n := ⟨_, rfl⟩
                rw [hn] at HTF HCB
                rw [hn]
                obtain ⟨bc, hbc⟩ : ∃ z, isC cl y.d = z := ⟨_, rfl⟩
                rw [hbc] at q1 HTF HYX
                clear hy hyd hc hbB hpl hkg hlt hn hbc
                cases bc with
                | false =>
                  have hcn : ((L2.take (k + 1)).filter (isC cl)).length = n := by rw [HTF.out]; simp
                  have HCN := Lib.hid hcn
                  clear hcn
                  go_wp2_with fail
                  go_roundg gk
                  case measure => omega
                  case rel => exact ⟨k + 1, by have := HG.out; omega, by go_num, by rw [HCN.out], V_wr.out, B_wr.out, O_wr.out, S_wr.out, P_wr.out, E_wr.out, D_wr.out, T_wr.out⟩
                | true =>
                  have hyx := HYX.out (by first | exact rfl | trivial)
                  have HTM : Hid (y.d.tm = at_) := Lib.hid (by rw [hyx]; exact HX0.out.2.1)
                  have HMM : Hid (y.d.m = m) := Lib.hid (by rw [hyx]; exact HX0.out.2.2)
                  have HCN : Hid (((L2.take (k + 1)).filter (isC cl)).length = n + 1) := Lib.hid (by rw [HTF.out]; simp)
                  have HSA := Lib.hid (fun w1 h1 h2 => rSame_any y.d.m m y.a am y.c cm w1 h1 h2 (by rw [HMM.out]; have := HMZ.out.1; omega))
                  have hsm : sameM y.d.m m = true := by rw [HMM.out]; simp [sameM]
                  rw [hsm] at HSA
                  have hnw : wrap64 ((n : Int) + 1) = ((n + 1 : Nat) : Int) := by rw [S2.wrap64_id _ (by have := HCB.out; omega) (by have := HCB.out; omega)]; omega
                  clear hyx hsm HYX
                  go_upto_region 15 with fail
                  obtain ⟨z1, hz1⟩ : ∃ z1, z1 = World.drew wr := ⟨_, rfl⟩
                  have hbD : Below wr.heap.size wr z1 := by rw [hz1]; exact (Below.refl _ _).drew
                  have V_z1 : Hid (BK 29 z1 w.heap.size (wiC true d m am cm)) := Lib.hid (V_wr.out.step hbD)
                  have B_z1 : Hid (Below w.heap.size w z1) := Lib.hid (stepB B_wr.out hbD)
                  have O_z1 : Hid (S1.Okw z1) := Lib.hid (O_wr.out.step hbD)
                  have S_z1 : Hid (DI z1 z1.heap.size A xs) := Lib.hid (LI.step S_wr.out hbD)
                  have P_z1 : Hid (PL z1 z1.heap.size am m.props) := Lib.hid (GL.step P_wr.out hbD)
                  have E_z1 : Hid (DI z1 z1.heap.size AE es) := Lib.hid (LI.step E_wr.out hbD)
                  have D_z1 : Hid (DI z1 z1.heap.size (some ⟨b, o, none⟩) ds) := Lib.hid (LI.step D_wr.out hbD)
                  have T_z1 : Hid (DI z1 z1.heap.size AT ts) := Lib.hid (LI.step T_wr.out hbD)
                  have C_z1 : Hid ((b < z1.heap.size ∧ ∀ i v, (gD y)[i]? = some v → z1.cell? ⟨b, o + k * 11 + i, none⟩ = some v)) := Lib.hid (⟨Nat.lt_of_lt_of_le C_wr.out.1 hbD.size, fun i u hu => (hbD.cell (p := ⟨b, o + k * 11 + i, none⟩) C_wr.out.1).trans (C_wr.out.2 i u hu)⟩)
                  have W_z1 : Hid (PL z1 z1.heap.size y.a y.d.m.props) := Lib.hid (GL.step W_wr.out hbD)
                  clear V_wr B_wr O_wr S_wr P_wr E_wr D_wr T_wr C_wr W_wr
                  have hbd : (fun w' => (b < w'.heap.size ∧ ∀ i v, (gD y)[i]? = some v → w'.cell? ⟨b, o + k * 11 + i, none⟩ = some v) ∧ BK 29 w' w.heap.size (wiC true d m am cm)) (World.drew wr) := by rw [← hz1]; exact ⟨C_z1.out, V_z1.out⟩
                  have hSD : (fun w' => (b < w'.heap.size ∧ ∀ i v, (gD y)[i]? = some v → w'.cell? ⟨b, o + k * 11 + i, none⟩ = some v) ∧ BK 29 w' w.heap.size (wiC true d m am cm)) z1 := ⟨C_z1.out, V_z1.out⟩
                  have HWD := Lib.hid hz1
                  clear hz1 hbD
                  refine wp_region_held_drew (S := fun w' => (b < w'.heap.size ∧ ∀ i v, (gD y)[i]? = some v → w'.cell? ⟨b, o + k * 11 + i, none⟩ = some v) ∧ BK 29 w' w.heap.size (wiC true d m am cm)) (by kernel_rfl) hbd (fun hHeld => ?_)
                  rw [← HWD.out]
                  clear hHeld
                  have hHeld := hSD
                  clear hSD hbd HWD
                  refine wpAnyH_take (i := 0) (v := .slice (some ⟨b, o, none⟩) ds.length cAD) (get_ops _ _ _ rfl) (by kernel_rfl) (by kernel_rfl) (by kernel_rfl) (fun _ _ _ h => h) (Or.inl ⟨by rfl, fun wS hSw => by (try dsimp only at hSw); go_simp⟩) hHeld ?_
                  try simp only [Act.put, List.setIfInBounds_toArray, List.set_cons_zero, List.set_cons_succ]
                  refine wpAnyH_take (i := 1) (v := .int .i64 k) (get_ops _ _ _ rfl) (by kernel_rfl) (by kernel_rfl) (by kernel_rfl) (fun _ _ _ h => h) (Or.inl ⟨by rfl, fun wS hSw => by (try dsimp only at hSw); go_simp⟩) hHeld ?_
                  try simp only [Act.put, List.setIfInBounds_toArray, List.set_cons_zero, List.set_cons_succ]
                  refine wpAnyH_take (i := 2) (v := .pointer (some ⟨b, o + k * 11, none⟩)) (get_ops _ _ _ rfl) (by kernel_rfl) (by kernel_rfl) (by kernel_rfl) (fun _ _ _ h => h) (Or.inl ⟨by rfl, fun wS hSw => by (try dsimp only at hSw); go_simp⟩) hHeld ?_
                  try simp only [Act.put, List.setIfInBounds_toArray, List.set_cons_zero, List.set_cons_succ]
                  refine wpAnyH_take (i := 3) (v := .pointer (some ⟨b, o + k * 11 + 1, none⟩)) (get_ops _ _ _ rfl) (by kernel_rfl) (by kernel_rfl) (by kernel_rfl) (fun _ _ _ h => h) (Or.inl ⟨by rfl, fun wS hSw => by (try dsimp only at hSw); go_simp⟩) hHeld ?_
                  try simp only [Act.put, List.setIfInBounds_toArray, List.set_cons_zero, List.set_cons_succ]
                  refine wpAnyH_take (i := 4) (v := .int .i64 at_) (get_ops _ _ _ rfl) (by kernel_rfl) (by kernel_rfl) (by kernel_rfl) (fun _ _ _ h => h) (Or.inl ⟨by rfl, fun wS hSw => by (try dsimp only at hSw); have cS : wS.cell? ⟨b, o + k * 11 + 1, none⟩ = some (.int .i64 at_) := (by have := hSw.1.2 1 _ rfl; rwa [HTM.out] at this); clear hSw; go_simp⟩) hHeld ?_
                  try simp only [Act.put, List.setIfInBounds_toArray, List.set_cons_zero, List.set_cons_succ]
                  refine wpAnyH_take (i := 5) (v := .int .i64 at_) (get_ops _ _ _ rfl) (by kernel_rfl) (by kernel_rfl) (by kernel_rfl) (fun _ _ _ h => h) (Or.inl ⟨by rfl, fun wS hSw => by (try dsimp only at hSw); go_simp⟩) hHeld ?_
                  try simp only [Act.put, List.setIfInBounds_toArray, List.set_cons_zero, List.set_cons_succ]
                  refine wpAnyH_take (i := 6) (v := .bool false) (get_ops _ _ _ rfl) (by kernel_rfl) (by kernel_rfl) (by kernel_rfl) (fun _ _ _ h => h) (Or.inl ⟨by rfl, fun wS hSw => by (try dsimp only at hSw); go_simp⟩) hHeld ?_
                  try simp only [Act.put, List.setIfInBounds_toArray, List.set_cons_zero, List.set_cons_succ]
                  refine wpAnyH_take (i := 7) (v := .bool false) (get_ops _ _ _ rfl) (by kernel_rfl) (by kernel_rfl) (by kernel_rfl) (fun _ _ _ h => h) (Or.inl ⟨by rfl, fun wS hSw => by (try dsimp only at hSw); go_simp⟩) hHeld ?_
                  try simp only [Act.put, List.setIfInBounds_toArray, List.set_cons_zero, List.set_cons_succ]
                  refine wpAnyH_take (i := 8) (v := .slice (some ⟨b, o, none⟩) ds.length cAD) (get_ops _ _ _ rfl) (by kernel_rfl) (by kernel_rfl) (by kernel_rfl) (fun _ _ _ h => h) (Or.inl ⟨by rfl, fun wS hSw => by (try dsimp only at hSw); go_simp⟩) hHeld ?_
                  try simp only [Act.put, List.setIfInBounds_toArray, List.set_cons_zero, List.set_cons_succ]
                  refine wpAnyH_take (i := 9) (v := .int .i64 k) (get_ops _ _ _ rfl) (by kernel_rfl) (by kernel_rfl) (by kernel_rfl) (fun _ _ _ h => h) (Or.inl ⟨by rfl, fun wS hSw => by (try dsimp only at hSw); go_simp⟩) hHeld ?_
                  try simp only [Act.put, List.setIfInBounds_toArray, List.set_cons_zero, List.set_cons_succ]
                  refine wpAnyH_take (i := 10) (v := .pointer (some ⟨b, o + k * 11, none⟩)) (get_ops _ _ _ rfl) (by kernel_rfl) (by kernel_rfl) (by kernel_rfl) (fun _ _ _ h => h) (Or.inl ⟨by rfl, fun wS hSw => by (try dsimp only at hSw); go_simp⟩) hHeld ?_
                  try simp only [Act.put, List.setIfInBounds_toArray, List.set_cons_zero, List.set_cons_succ]
                  refine wpAnyH_take (i := 11) (v := .pointer (some ⟨b, o + k * 11 + 2, none⟩)) (get_ops _ _ _ rfl) (by kernel_rfl) (by kernel_rfl) (by kernel_rfl) (fun _ _ _ h => h) (Or.inl ⟨by rfl, fun wS hSw => by (try dsimp only at hSw); go_simp⟩) hHeld ?_
                  try simp only [Act.put, List.setIfInBounds_toArray, List.set_cons_zero, List.set_cons_succ]
                  refine wpAnyH_take (i := 12) (v := (msgV y.d.m y.a y.c)) (get_ops _ _ _ rfl) (by kernel_rfl) (by kernel_rfl) (by kernel_rfl) (fun _ _ _ h => h) (Or.inl ⟨by rfl, fun wS hSw => by (try dsimp only at hSw); exact exec_load 27 _ rfl ⟨b, o + k * 11 + 2, none⟩ (by go_simp) _ (load_due_msg hSw.1.2)⟩) hHeld ?_
                  try simp only [Act.put, List.setIfInBounds_toArray, List.set_cons_zero, List.set_cons_succ]
                  refine wpAnyH_take (i := 13) (v := .pointer (some ⟨w.heap.size, 2, none⟩)) (get_ops _ _ _ rfl) (by kernel_rfl) (by kernel_rfl) (by kernel_rfl) (fun _ _ _ h => h) (Or.inl ⟨by rfl, fun wS hSw => by (try dsimp only at hSw); go_simp⟩) hHeld ?_
                  try simp only [Act.put, List.setIfInBounds_toArray, List.set_cons_zero, List.set_cons_succ]
                  refine wpAnyH_take (i := 14) (v := (msgV m am cm)) (get_ops _ _ _ rfl) (by kernel_rfl) (by kernel_rfl) (by kernel_rfl) (fun _ _ _ h => h) (Or.inl ⟨by rfl, fun wS hSw => by (try dsimp only at hSw); exact exec_load 27 _ rfl ⟨w.heap.size, 2, none⟩ (by go_simp) _ (load_wi_msg hSw.2)⟩) hHeld ?_
                  try simp only [Act.put, List.setIfInBounds_toArray, List.set_cons_zero, List.set_cons_succ]
                  refine wpAnyH_ready (rs := [15]) (by kernel_rfl) (by simp) ?_
                  refine (AllReadyH.cons (get_ops _ _ _ rfl) (fun K hK => ?_) AllReadyH.nil)
                  go_simp
                  refine (HSA.out z1 W_z1.out P_z1.out).mono ?_
                  rintro e z2 ⟨rfl, hb⟩
                  have V_z2 : Hid (BK 29 z2 w.heap.size (wiC true d m am cm)) := Lib.hid (V_z1.out.step hb)
                  have B_z2 : Hid (Below w.heap.size w z2) := Lib.hid (stepB B_z1.out hb)
                  have O_z2 : Hid (S1.Okw z2) := Lib.hid (O_z1.out.step hb)
                  have S_z2 : Hid (DI z2 z2.heap.size A xs) := Lib.hid (LI.step S_z1.out hb)
                  have P_z2 : Hid (PL z2 z2.heap.size am m.props) := Lib.hid (GL.step P_z1.out hb)
                  have E_z2 : Hid (DI z2 z2.heap.size AE es) := Lib.hid (LI.step E_z1.out hb)
                  have D_z2 : Hid (DI z2 z2.heap.size (some ⟨b, o, none⟩) ds) := Lib.hid (LI.step D_z1.out hb)
                  have T_z2 : Hid (DI z2 z2.heap.size AT ts) := Lib.hid (LI.step T_z1.out hb)
                  have C_z2 : Hid ((b < z2.heap.size ∧ ∀ i v, (gD y)[i]? = some v → z2.cell? ⟨b, o + k * 11 + i, none⟩ = some v)) := Lib.hid (⟨Nat.lt_of_lt_of_le C_z1.out.1 hb.size, fun i u hu => (hb.cell (p := ⟨b, o + k * 11 + i, none⟩) C_z1.out.1).trans (C_z1.out.2 i u hu)⟩)
                  have W_z2 : Hid (PL z2 z2.heap.size y.a y.d.m.props) := Lib.hid (GL.step W_z1.out hb)
                  clear V_z1 B_z1 O_z1 S_z1 P_z1 E_z1 D_z1 T_z1 C_z1 W_z1
                  clear hHeld hb
                  go_wp2_with fail
                  refine hK.out _ _ ⟨C_z2.out, V_z2.out⟩ (fun hHeld => ?_)
                  clear hK K
                  try simp only [Act.put, List.setIfInBounds_toArray, List.set_cons_zero, List.set_cons_succ]
                  refine wpAnyH_take (i := 16) (v := .bool false) (get_ops _ _ _ rfl) (by kernel_rfl) (by kernel_rfl) (by kernel_rfl) (fun _ _ _ h => h) (Or.inl ⟨by rfl, fun wS hSw => by (try dsimp only at hSw); go_simp⟩) hHeld ?_
                  try simp only [Act.put, List.setIfInBounds_toArray, List.set_cons_zero, List.set_cons_succ]
                  refine wpAnyH_take (i := 17) (v := .bool false) (get_ops _ _ _ rfl) (by kernel_rfl) (by kernel_rfl) (by kernel_rfl) (fun _ _ _ h => h) (Or.inl ⟨by rfl, fun wS hSw => by (try dsimp only at hSw); go_simp⟩) hHeld ?_
                  try simp only [Act.put, List.setIfInBounds_toArray, List.set_cons_zero, List.set_cons_succ]
                  refine wpAnyH_done (by kernel_rfl) ?_ _
                  go_wp2_with fail
                  go_roundg gk
                  case measure => omega
                  case rel => exact ⟨k + 1, by have := HG.out; omega, by go_num, by first | (rw [HCN.out]; done) | (rw [HCN.out]; rfl) | (rw [HCN.out]; congr 1; omega), V_z2.out, B_z2.out, O_z2.out, S_z2.out, P_z2.out, E_z2.out, D_z2.out, T_z2.out⟩
end Go.Proofs.YtoakhkiiefiebabDoor
