/-
  What equal and indexOf of exchange, and Same and has of brokerref24 answer: whether two bindings are one, and where a binding is. Conditions: the lists read as data; few elements, few properties.
-/
import Derived.Test.YtjkhfifnfgchgabGreatDoorEpB
namespace Go.Proofs.YtjkhfifnfgchgabGreatDoor
open Go.RowKit
open S2 (BK Put)

def bdB (b1 b2 b3 b4 b5 : Bool) : Bool := b1 && b2 && b3 && b4 && b5
theorem bd_dec (x y : Bd) : decide (x = y) = bdB (decide (x.ex = y.ex)) (decide (x.qu = y.qu)) (decide (x.ky = y.ky)) (x.all == y.all) (decide (x.ml = y.ml)) := by
  obtain ⟨a, b, c, d, e⟩ := x
  obtain ⟨a', b', c', d', e'⟩ := y
  unfold bdB
  rw [Bool.eq_iff_iff]
  simp [and_assoc]
/-- the memory of a binding that came in -/
def BIn (w : World) (x : BE) : Prop := PL w w.heap.size x.a x.d.ml ∧ x.d.ml.length ≤ 4398046511104
theorem BIn.step {w w' : World} {x : BE} (h : BIn w x) (hb : Below w.heap.size w w') : BIn w' x := ⟨h.1.step hb, h.2⟩

set_option maxRecDepth 20000 in
set_option maxHeartbeats 4000000 in
theorem xEqual_any (x y : BE) (w : World) (hx : BIn w x) (hy : BIn w y) :
    Calls Tryz.prog 70 #[bdV x, bdV y] w fun e w' => e = .returned (.bool (decide (x.d = y.d))) ∧ Below w.heap.size w w' := by
  have HE := Lib.hid (fun w1 h1 h2 => equalP_any x.a y.a x.c y.c x.d.ml y.d.ml w1 h1 h2 (by have := hx.2; omega))
  have HX := Lib.hid hx.1
  have HY := Lib.hid hy.1
  rw [bd_dec]
  have q1 : (x.d.ex.toList == y.d.ex.toList) = decide (x.d.ex = y.d.ex) := str_dec _ _
  have q2 : (x.d.qu.toList == y.d.qu.toList) = decide (x.d.qu = y.d.qu) := str_dec _ _
  have q3 : (x.d.ky.toList == y.d.ky.toList) = decide (x.d.ky = y.d.ky) := str_dec _ _
  generalize decide (x.d.ex = y.d.ex) = b1 at *
  generalize decide (x.d.qu = y.d.qu) = b2 at *
  generalize decide (x.d.ky = y.d.ky) = b3 at *
  generalize decide (x.d.ml = y.d.ml) = b5 at *
  clear hx hy
  have CX : gB x = [.string x.d.ex, .string x.d.qu, .string x.d.ky, .bool x.d.all, .slice x.a x.d.ml.length x.c] := rfl
  have CY : gB y = [.string y.d.ex, .string y.d.qu, .string y.d.ky, .bool y.d.all, .slice y.a y.d.ml.length y.c] := rfl
  have HCX := Lib.hid CX
  have HCY := Lib.hid CY
  unfold bdV
  rw [CX, CY]
  generalize x.d.ml = ml at *
  generalize y.d.ml = ml' at *
  clear CX CY HCX HCY
  generalize x.d.all = al at *
  generalize y.d.all = al' at *
  go_enter Tryz.func70, Tryz.ntmps70
  go_upto_region 1 with fail
  refine name_world (C := fun w1 => Code.wp _ _ _ _ w1) ((w.alloc (.cells [.string x.d.ex, .string x.d.qu, .string x.d.ky, .bool al, .slice x.a ml.length x.c].toArray 35)).alloc (.cells [.string y.d.ex, .string y.d.qu, .string y.d.ky, .bool al', .slice y.a ml'.length y.c].toArray 35)) ?_
  intro w1 hw1
  obtain ⟨t1, t2, hs0, hB0⟩ := S2.two_laid hw1
  have HB := Lib.hid hB0
  have HX1 := Lib.hid (HX.out.step hB0)
  have HY1 := Lib.hid (HY.out.step hB0)
  have d0 := t1.cell 0 rfl
  have d1 := t1.cell 1 rfl
  have d2 := t1.cell 2 rfl
  have d3 := t1.cell 3 rfl
  have d4 := t1.cell 4 rfl
  have c0 := t2.cell 0 rfl
  have c1 := t2.cell 1 rfl
  have c2 := t2.cell 2 rfl
  have c3 := t2.cell 3 rfl
  have c4 := t2.cell 4 rfl
  clear t1 t2 hs0 hB0 hw1 HX HY
  cases b1 with
  | false =>
    go_wp2_with fail
    go_ret
    exact ⟨rfl, HB.out⟩
  | true =>
    cases b2 with
    | false =>
      go_wp2_with fail
      go_ret
      exact ⟨rfl, HB.out⟩
    | true =>
      cases b3 with
      | false =>
        go_wp2_with fail
        go_ret
        exact ⟨rfl, HB.out⟩
      | true =>
        cases al <;> cases al'
        case false.true =>
          go_wp2_with fail
          go_ret
          exact ⟨rfl, HB.out⟩
        case true.false =>
          go_wp2_with fail
          go_ret
          exact ⟨rfl, HB.out⟩
        all_goals
          go_wp2_with fail
          refine (HE.out _ HX1.out HY1.out).mono ?_
          rintro e w2 ⟨rfl, hb⟩
          have HB2 := Lib.hid (stepB HB.out hb)
          clear hb
          cases b5
          all_goals
            go_wp2_with fail
            go_ret
            exact ⟨rfl, HB2.out⟩

set_option maxRecDepth 20000 in
set_option maxHeartbeats 4000000 in
theorem rSame_any (x y : BE) (w : World) (hx : BIn w x) (hy : BIn w y) :
    Calls Tryz.prog 26 #[bdV x, bdV y] w fun e w' => e = .returned (.bool (decide (x.d = y.d))) ∧ Below w.heap.size w w' := by
  have HE := Lib.hid (fun w1 h1 h2 => equalP_any x.a y.a x.c y.c x.d.ml y.d.ml w1 h1 h2 (by have := hx.2; omega))
  have HX := Lib.hid hx.1
  have HY := Lib.hid hy.1
  rw [bd_dec]
  have q1 : (x.d.ex.toList == y.d.ex.toList) = decide (x.d.ex = y.d.ex) := str_dec _ _
  have q2 : (x.d.qu.toList == y.d.qu.toList) = decide (x.d.qu = y.d.qu) := str_dec _ _
  have q3 : (x.d.ky.toList == y.d.ky.toList) = decide (x.d.ky = y.d.ky) := str_dec _ _
  generalize decide (x.d.ex = y.d.ex) = b1 at *
  generalize decide (x.d.qu = y.d.qu) = b2 at *
  generalize decide (x.d.ky = y.d.ky) = b3 at *
  generalize decide (x.d.ml = y.d.ml) = b5 at *
  clear hx hy
  have CX : gB x = [.string x.d.ex, .string x.d.qu, .string x.d.ky, .bool x.d.all, .slice x.a x.d.ml.length x.c] := rfl
  have CY : gB y = [.string y.d.ex, .string y.d.qu, .string y.d.ky, .bool y.d.all, .slice y.a y.d.ml.length y.c] := rfl
  have HCX := Lib.hid CX
  have HCY := Lib.hid CY
  unfold bdV
  rw [CX, CY]
  generalize x.d.ml = ml at *
  generalize y.d.ml = ml' at *
  clear CX CY HCX HCY
  generalize x.d.all = al at *
  generalize y.d.all = al' at *
  go_enter Tryz.func26, Tryz.ntmps26
  go_upto_region 1 with fail
  refine name_world (C := fun w1 => Code.wp _ _ _ _ w1) ((w.alloc (.cells [.string x.d.ex, .string x.d.qu, .string x.d.ky, .bool al, .slice x.a ml.length x.c].toArray 35)).alloc (.cells [.string y.d.ex, .string y.d.qu, .string y.d.ky, .bool al', .slice y.a ml'.length y.c].toArray 35)) ?_
  intro w1 hw1
  obtain ⟨t1, t2, hs0, hB0⟩ := S2.two_laid hw1
  have HB := Lib.hid hB0
  have HX1 := Lib.hid (HX.out.step hB0)
  have HY1 := Lib.hid (HY.out.step hB0)
  have d0 := t1.cell 0 rfl
  have d1 := t1.cell 1 rfl
  have d2 := t1.cell 2 rfl
  have d3 := t1.cell 3 rfl
  have d4 := t1.cell 4 rfl
  have c0 := t2.cell 0 rfl
  have c1 := t2.cell 1 rfl
  have c2 := t2.cell 2 rfl
  have c3 := t2.cell 3 rfl
  have c4 := t2.cell 4 rfl
  clear t1 t2 hs0 hB0 hw1 HX HY
  cases b1 with
  | false =>
    go_wp2_with fail
    go_ret
    exact ⟨rfl, HB.out⟩
  | true =>
    cases b2 with
    | false =>
      go_wp2_with fail
      go_ret
      exact ⟨rfl, HB.out⟩
    | true =>
      cases b3 with
      | false =>
        go_wp2_with fail
        go_ret
        exact ⟨rfl, HB.out⟩
      | true =>
        cases al <;> cases al'
        case false.true =>
          go_wp2_with fail
          go_ret
          exact ⟨rfl, HB.out⟩
        case true.false =>
          go_wp2_with fail
          go_ret
          exact ⟨rfl, HB.out⟩
        all_goals
          go_wp2_with fail
          refine (HE.out _ HX1.out HY1.out).mono ?_
          rintro e w2 ⟨rfl, hb⟩
          have HB2 := Lib.hid (stepB HB.out hb)
          clear hb
          cases b5
          all_goals
            go_wp2_with fail
            go_ret
            exact ⟨rfl, HB2.out⟩

/-- the closure of indexOf, its binding in block g -/
theorem idx1_any (x y : BE) (g : Nat) (T : TypeId) (w : World) (hx : BIn w x) (hy : BIn w y) (hg : BK T w g (gB y)) :
    Calls Tryz.prog 69 #[bdV x, .pointer (some ⟨g, 0, none⟩)] w fun e w' => e = .returned (.bool (decide (x.d = y.d))) ∧ Below w.heap.size w w' := by
  have HE := Lib.hid (fun w1 h1 h2 => xEqual_any x y w1 h1 h2)
  have HX := Lib.hid hx
  have HY := Lib.hid hy
  have HG := Lib.hid hg
  generalize decide (x.d = y.d) = R at *
  clear hx hy hg
  have HV : Hid (bdV x = .agg (gB x).toArray) := Lib.hid rfl
  rw [HV.out]
  generalize hgx : gB x = cx
  have HCX := Lib.hid hgx
  clear hgx
  go_enter Tryz.func69, Tryz.ntmps69
  go_upto_region 1 with fail
  refine name_world (C := fun w1 => Code.wp _ _ _ _ w1) (w.alloc (.cells cx.toArray 35)) ?_
  intro w1 hw1
  have hb : Below w.heap.size w w1 := by rw [hw1]; exact S2.below_new w _
  have hM : BK 35 w1 w.heap.size (gB x) := by rw [hw1, HCX.out]; exact BK.new w _ _
  have HB := Lib.hid hb
  have HX1 := Lib.hid (HX.out.step hb)
  have HY1 := Lib.hid (HY.out.step hb)
  have HL1 := Lib.hid (load_bd0 hM)
  have HL2 : Hid ((loadVar 35 ⟨g, 0, none⟩).run Tryz.prog w1 = .ok (bdV y) w1) := Lib.hid (S2.run_load_all (HG.out.step hb) Tryz.underlying35 rfl bdSize)
  clear hw1 hb hM
  go_wp2_with first
    | (refine wpList_load_v (by rfl) 35 (.tmp 2) rfl ⟨w.heap.size, 0, none⟩ rfl _ HL1.out ?_)
    | (refine wpList_load_v (by rfl) 35 (.tmp 1) rfl ⟨g, 0, none⟩ rfl _ HL2.out ?_)
  refine (HE.out _ HX1.out HY1.out).mono ?_
  rintro e w2 ⟨rfl, hb⟩
  have HB2 := Lib.hid (stepB HB.out hb)
  clear hb
  go_wp2_with fail
  go_ret
  exact ⟨rfl, HB2.out⟩
/-- few properties each -/
def Few (xs : List BE) : Prop := ∀ x ∈ xs, x.d.ml.length ≤ 4398046511104
theorem BI.inn {w : World} {A : Option Addr} {xs : List BE} (h : BI w w.heap.size A xs) (hf : Few xs) {x : BE} (hx : x ∈ xs) : BIn w x := ⟨h.2 x hx, hf x hx⟩
theorem fB_cons {b : Bd} {x : BE} {xs : List BE} {k : Nat} : fB b ((x :: xs).map BE.d) k = if x.d = b then (k : Int) else fB b (xs.map BE.d) (k + 1) := rfl

set_option maxRecDepth 20000 in
set_option maxHeartbeats 4000000 in
theorem idxF_any (A : Option Addr) (c : Nat) (xs : List BE) (y : BE) (g : Nat) (T : TypeId) (w : World) (h : BI w w.heap.size A xs) (hf : Few xs) (hn : xs.length ≤ 1000000) (hy : BIn w y) (hg : BK T w g (gB y)) :
    Calls Tryz.prog 68 #[.slice A xs.length c, .func (.func 69) #[] #[.pointer (some ⟨g, 0, none⟩)]] w fun e w' => e = .returned (.int .i64 (fB y.d (xs.map BE.d) 0)) ∧ Below w.heap.size w w' := by
  have HS := Lib.hid h
  have HF := Lib.hid hf
  have HY := Lib.hid hy
  have HGB := Lib.hid hg
  have HC := Lib.hid (fun x w1 h1 h2 h3 => idx1_any x y g T w1 h1 h2 h3)
  obtain ⟨R, hR⟩ : ∃ R, fB y.d (xs.map BE.d) 0 = R := ⟨_, rfl⟩
  have HR : Hid (R = fB y.d ((xs.drop 0).map BE.d) 0) := Lib.hid (by rw [← hR]; rfl)
  rw [hR]
  clear h hf hy hg hR
  go_enter Tryz.func68, Tryz.ntmps68
  go_wp2
  go_loopg [8] xs.length (fun n v wr => ∃ k : Nat, k + n = xs.length ∧ v = .int .i64 k ∧ R = fB y.d ((xs.drop k).map BE.d) k ∧ Below w.heap.size w wr)
  case atStart => exact ⟨0, by omega, rfl, HR.out, Below.refl _ _⟩
  case round =>
    obtain ⟨k, hkg, rfl, hrel, hb0⟩ := hrel
    have HREL := Lib.hid hrel
    have HB0 := Lib.hid hb0
    have HG := Lib.hid hkg
    clear hrel hb0 HR
    cases gk with
    | zero =>
      obtain rfl : k = xs.length := by omega
      have HV : Hid (R = -1) := Lib.hid (by rw [HREL.out, List.drop_length]; rfl)
      clear hkg
      go_wp2
      go_ret
      exact ⟨retI HV.out.symm, HB0.out⟩
    | succ n =>
      have hlt : k < xs.length := by omega
      have e3 : decide ((k : Int) < (xs.length : Int)) = true := decide_eq_true (by omega)
      obtain ⟨x, hx⟩ : ∃ x, xs[k]? = some x := ⟨_, List.getElem?_eq_getElem hlt⟩
      have hsr := HS.out.step HB0.out
      obtain ⟨b, o, hA, hbB, hcl, hpl⟩ := hsr.at_ hx
      have HLD := Lib.hid (load_bd hcl)
      have HXI := Lib.hid (BI.inn hsr HF.out (List.mem_of_getElem? hx))
      have HYI := Lib.hid (HY.out.step HB0.out)
      have HGI := Lib.hid (HGB.out.step HB0.out)
      have HD : Hid (R = if x.d = y.d then (k : Int) else fB y.d ((xs.drop (k + 1)).map BE.d) (k + 1)) := Lib.hid (by rw [HREL.out, dropC hx]; rfl)
      subst hA
      have j1 : (0 : Int) ≤ (k : Int) := by omega
      have j2 : (k : Int) < (xs.length : Int) := by omega
      clear hx hkg hlt hbB hcl hpl hsr HREL
      go_wp2_with first
        | (refine wpList_load_v (by rfl) 35 _ rfl ⟨b, o + k * 5, none⟩ (by go_simp) _ HLD.out ?_)
      refine (HC.out x _ HXI.out HYI.out HGI.out).mono ?_
      rintro e w1 ⟨rfl, hb⟩
      have HB1 := Lib.hid (stepB HB0.out hb)
      clear hb HLD
      by_cases hxy : x.d = y.d
      · have HV : Hid (R = (k : Int)) := Lib.hid (by rw [HD.out, if_pos hxy])
        rw [decide_eq_true hxy]
        clear hxy
        go_wp2_with fail
        go_ret
        exact ⟨retI HV.out.symm, HB1.out⟩
      · have HV : Hid (R = fB y.d ((xs.drop (k + 1)).map BE.d) (k + 1)) := Lib.hid (by rw [HD.out, if_neg hxy])
        rw [decide_eq_false hxy]
        clear hxy
        go_wp2_with fail
        go_roundg n
        case measure => omega
        case rel => exact ⟨k + 1, by have := HG.out; omega, by go_num, HV.out, HB1.out⟩
set_option maxRecDepth 20000 in
set_option maxHeartbeats 4000000 in
theorem indexOf_any (A : Option Addr) (c : Nat) (xs : List BE) (y : BE) (w : World) (h : BI w w.heap.size A xs) (hf : Few xs) (hn : xs.length ≤ 1000000) (hy : BIn w y) :
    Calls Tryz.prog 41 #[.slice A xs.length c, bdV y] w fun e w' => e = .returned (.int .i64 (fB y.d (xs.map BE.d) 0)) ∧ Below w.heap.size w w' := by
  have HS := Lib.hid h
  have HY := Lib.hid hy
  have HC := Lib.hid (fun g w1 h1 h2 h3 => idxF_any A c xs y g 35 w1 h1 hf hn h2 h3)
  generalize fB y.d (xs.map BE.d) 0 = R at *
  generalize xs.length = nx at *
  clear h hf hn hy
  have HV : Hid (bdV y = .agg (gB y).toArray) := Lib.hid rfl
  rw [HV.out]
  generalize hgy : gB y = cy
  have HCY := Lib.hid hgy
  clear hgy
  go_enter Tryz.func41, Tryz.ntmps41
  go_upto_region 1 with fail
  refine name_world (C := fun w1 => Code.wp _ _ _ _ w1) (w.alloc (.cells cy.toArray 35)) ?_
  intro w1 hw1
  have hb : Below w.heap.size w w1 := by rw [hw1]; exact S2.below_new w _
  have hM : BK 35 w1 w.heap.size (gB y) := by rw [hw1, HCY.out]; exact BK.new w _ _
  have HB := Lib.hid hb
  have HM := Lib.hid hM
  have HS1 := Lib.hid (HS.out.step hb)
  have HY1 := Lib.hid (HY.out.step hb)
  clear hw1 hb hM
  go_wp2_with fail
  refine (HC.out _ _ HS1.out HY1.out HM.out).mono ?_
  rintro e w2 ⟨rfl, hb⟩
  have HB2 := Lib.hid (stepB HB.out hb)
  clear hb
  go_wp2_with fail
  go_ret
  exact ⟨rfl, HB2.out⟩

set_option maxRecDepth 20000 in
set_option maxHeartbeats 4000000 in
theorem rhas_any (A : Option Addr) (c : Nat) (xs : List BE) (y : BE) (w : World) (h : BI w w.heap.size A xs) (hf : Few xs) (hn : xs.length ≤ 1000000) (hy : BIn w y) :
    Calls Tryz.prog 31 #[.slice A xs.length c, bdV y] w fun e w' => e = .returned (.int .i64 (fB y.d (xs.map BE.d) 0)) ∧ Below w.heap.size w w' := by
  have HS := Lib.hid h
  have HF := Lib.hid hf
  have HY := Lib.hid hy
  have HC := Lib.hid (fun x w1 h1 h2 => rSame_any x y w1 h1 h2)
  obtain ⟨R, hR⟩ : ∃ R, fB y.d (xs.map BE.d) 0 = R := ⟨_, rfl⟩
  have HR : Hid (R = fB y.d ((xs.drop 0).map BE.d) 0) := Lib.hid (by rw [← hR]; rfl)
  rw [hR]
  clear h hf hy hR
  have HV : Hid (bdV y = .agg (gB y).toArray) := Lib.hid rfl
  rw [HV.out]
  generalize hgy : gB y = cy
  have HCY := Lib.hid hgy
  clear hgy
  go_enter Tryz.func31, Tryz.ntmps31
  go_upto_region 1 with fail
  refine name_world (C := fun w1 => Code.wp _ _ _ _ w1) (w.alloc (.cells cy.toArray 35)) ?_
  intro w1 hw1
  have hb : Below w.heap.size w w1 := by rw [hw1]; exact S2.below_new w _
  have hM : BK 35 w1 w.heap.size (gB y) := by rw [hw1, HCY.out]; exact BK.new w _ _
  have HB := Lib.hid hb
  have HM := Lib.hid hM
  clear hw1 hb hM
  go_wp2_with fail
  go_loopg [9] xs.length (fun n v wr => ∃ k : Nat, k + n = xs.length ∧ v = .int .i64 k ∧ R = fB y.d ((xs.drop k).map BE.d) k ∧ BK 35 wr w.heap.size (gB y) ∧ Below w.heap.size w wr)
  case atStart => exact ⟨0, by omega, rfl, HR.out, HM.out, HB.out⟩
  case round =>
    obtain ⟨k, hkg, rfl, hrel, hm0, hb0⟩ := hrel
    have HREL := Lib.hid hrel
    have HM0 := Lib.hid hm0
    have HB0 := Lib.hid hb0
    have HG := Lib.hid hkg
    clear hrel hb0 hm0 HR HB HM
    cases gk with
    | zero =>
      obtain rfl : k = xs.length := by omega
      have HV2 : Hid (R = -1) := Lib.hid (by rw [HREL.out, List.drop_length]; rfl)
      clear hkg
      go_wp2
      go_ret
      exact ⟨retI HV2.out.symm, HB0.out⟩
    | succ n =>
      have hlt : k < xs.length := by omega
      have e3 : decide ((k : Int) < (xs.length : Int)) = true := decide_eq_true (by omega)
      obtain ⟨x, hx⟩ : ∃ x, xs[k]? = some x := ⟨_, List.getElem?_eq_getElem hlt⟩
      have hsr := HS.out.step HB0.out
      obtain ⟨b, o, hA, hbB, hcl, hpl⟩ := hsr.at_ hx
      have HLD := Lib.hid (load_bd hcl)
      have HXI := Lib.hid (BI.inn hsr HF.out (List.mem_of_getElem? hx))
      have HYI := Lib.hid (HY.out.step HB0.out)
      have HLT := Lib.hid HM0.out.lt
      have HD : Hid (R = if x.d = y.d then (k : Int) else fB y.d ((xs.drop (k + 1)).map BE.d) (k + 1)) := Lib.hid (by rw [HREL.out, dropC hx]; rfl)
      subst hA
      have j1 : (0 : Int) ≤ (k : Int) := by omega
      have j2 : (k : Int) < (xs.length : Int) := by omega
      clear hx hkg hlt hbB hcl hpl hsr HREL
      go_upto_region 4 with first
        | (refine wpList_load_v (by rfl) 35 (.tmp 12) rfl ⟨b, o + k * 5, none⟩ (by go_simp) _ HLD.out ?_)
        | (refine S2.wpList_store_all (by rfl) 35 (.tmp 6) (.tmp 13) rfl rfl wr.heap.size rfl (gB x) rfl 35 _ (BK.new wr _ _) bdSize rfl (gB_one _) ?_; intro w2 hM hP; have hb := hP.below (S2.below_new wr _) (Nat.le_refl _); have B_w2 := Lib.hid (stepB HB0.out hb); have X_w2 := Lib.hid hM; have Y_w2 := Lib.hid (HM0.out.step hb); have HXI2 := Lib.hid (HXI.out.step hb); have HYI2 := Lib.hid (HYI.out.step hb); clear hM hP hb)
      have HL1 := Lib.hid (load_bd0 X_w2.out)
      have HL2 := Lib.hid (load_bd0 Y_w2.out)
      go_wp2_with first
        | (refine wpList_load_v (by rfl) 35 (.tmp 6) rfl ⟨wr.heap.size, 0, none⟩ rfl _ HL1.out ?_)
        | (refine wpList_load_v (by rfl) 35 (.tmp 3) rfl ⟨w.heap.size, 0, none⟩ rfl _ HL2.out ?_)
      refine (HC.out x _ HXI2.out HYI2.out).mono ?_
      rintro e w3 ⟨rfl, hb⟩
      have HB1 := Lib.hid (stepB B_w2.out hb)
      have HM1 := Lib.hid (Y_w2.out.step hb)
      clear hb HLD HL1 HL2
      by_cases hxy : x.d = y.d
      · have HV2 : Hid (R = (k : Int)) := Lib.hid (by rw [HD.out, if_pos hxy])
        rw [decide_eq_true hxy]
        clear hxy
        go_wp2_with fail
        go_ret
        exact ⟨retI HV2.out.symm, HB1.out⟩
      · have HV2 : Hid (R = fB y.d ((xs.drop (k + 1)).map BE.d) (k + 1)) := Lib.hid (by rw [HD.out, if_neg hxy])
        rw [decide_eq_false hxy]
        clear hxy
        go_wp2_with fail
        go_roundg n
        case measure => omega
        case rel => exact ⟨k + 1, by have := HG.out; omega, by go_num, HV2.out, HM1.out, HB1.out⟩
end Go.Proofs.YtjkhfifnfgchgabGreatDoor
