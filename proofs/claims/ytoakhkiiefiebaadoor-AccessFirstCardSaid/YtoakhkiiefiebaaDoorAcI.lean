/-
  What hides of the specification of access answers. Conditions: each filter has at most 1000 bytes.
-/
import Derived.Test.YtoakhkiiefiebaaDoorAcC
namespace Go.Proofs.YtoakhkiiefiebaaDoor.S1
open Go.RowKit
open S2 (BK Put get_ops exec_load)


set_option maxRecDepth 20000 in
set_option maxHeartbeats 8000000 in
theorem hides_any (a b : Rl) (w : World) (ha : a.fi.size ≤ 1000) (hb : b.fi.size ≤ 1000) :
    Calls Tryd.prog 46 #[rlV a, rlV b] w fun e w' => e = .returned (.bool (hidR a b)) ∧ Below w.heap.size w w' := by
  have HFA := Lib.hid (fun w1 => plain20_any a.fi w1 ha)
  have HFB := Lib.hid (fun w1 => plain20_any b.fi w1 hb)
  have HCO := Lib.hid (fun w1 => sCov_any a.fi b.fi w1)
  obtain ⟨R, hR⟩ : ∃ R, hidR a b = R := ⟨_, rfl⟩
  have HR := Lib.hid hR
  rw [hR]
  have HRR : Hid (R = (((decide (a.us = starB) || decide (a.us = b.us)) && (decide (a.ac = 0) || decide (a.ac = b.ac))) && (decide (a.fi = b.fi) || fixB a.fi && fixB b.fi && coversL a.fi b.fi))) := Lib.hid hR.symm
  obtain ⟨f1, hf1⟩ : ∃ z, fixB a.fi = z := ⟨_, rfl⟩
  obtain ⟨f2, hf2⟩ : ∃ z, fixB b.fi = z := ⟨_, rfl⟩
  obtain ⟨bc, hbc⟩ : ∃ z, coversL a.fi b.fi = z := ⟨_, rfl⟩
  rw [hf1] at HFA HRR
  rw [hf2] at HFB HRR
  rw [hbc] at HCO HRR
  clear hf1 hf2 hbc ha hb hR HR
  obtain ⟨al, us, an, fi⟩ := a
  obtain ⟨bl, vs, bn, gi⟩ := b
  have q9 : (fi.toList == gi.toList) = decide (fi = gi) := str_dec fi gi
  obtain ⟨be, hbe⟩ : ∃ z, decide (fi = gi) = z := ⟨_, rfl⟩
  have HRS := HRR.out
  dsimp only at HRS
  rw [hbe] at q9 HRS
  clear HRR hbe
  have q1 : (us.toList == [42]) = decide (us = starB) := eqC us [42]
  have q2 : (us.toList == vs.toList) = decide (us = vs) := str_dec us vs
  have q3 : (an == 0) = decide (an = 0) := eqI an 0
  have q4 : (an == bn) = decide (an = bn) := eqI an bn
  generalize decide (us = starB) = b1 at *
  generalize decide (us = vs) = b2 at *
  generalize decide (an = 0) = b3 at *
  generalize decide (an = bn) = b4 at *
  have q3' : (an != 0) = !b3 := by show (!(an == 0)) = _; rw [q3]
  have q4' : (an != bn) = !b4 := by show (!(an == bn)) = _; rw [q4]
  have HRQ := Lib.hid HRS
  clear HRS
  unfold rlV gR
  go_enter Tryd.func46, Tryd.ntmps46
  go_upto_region 1 with fail
  refine name_world (C := fun w1 => Code.wp _ _ _ _ w1) ((w.alloc (.cells (gR ⟨al, us, an, fi⟩).toArray 42)).alloc (.cells (gR ⟨bl, vs, bn, gi⟩).toArray 42)) ?_
  intro w1 hw1
  obtain ⟨t1, t2, hs0, hb1⟩ := S2.two_laid (v1 := gR ⟨al, us, an, fi⟩) (v2 := gR ⟨bl, vs, bn, gi⟩) hw1
  have X_w1 := Lib.hid t1
  have Y_w1 := Lib.hid t2
  have B_w1 := Lib.hid hb1
  clear hw1 t1 t2 hs0 hb1
  have cx1 : w1.cell? ⟨w.heap.size, 1, none⟩ = some (.string us) := X_w1.out.cell 1 rfl
  have cx2 : w1.cell? ⟨w.heap.size, 2, none⟩ = some (.int .i64 an) := X_w1.out.cell 2 rfl
  have cx3 : w1.cell? ⟨w.heap.size, 3, none⟩ = some (.string fi) := X_w1.out.cell 3 rfl
  have cy1 : w1.cell? ⟨w.heap.size + 1, 1, none⟩ = some (.string vs) := Y_w1.out.cell 1 rfl
  have cy2 : w1.cell? ⟨w.heap.size + 1, 2, none⟩ = some (.int .i64 bn) := Y_w1.out.cell 2 rfl
  have cy3 : w1.cell? ⟨w.heap.size + 1, 3, none⟩ = some (.string gi) := Y_w1.out.cell 3 rfl
  clear q3 q4
  cases b1 with
  | false =>
    cases b2 with
    | false =>
      have HRQ2 : Hid (R = false) := Lib.hid (by rw [HRQ.out]; simp)
      clear HRQ
      have HRQ := HRQ2
      clear HRQ2
      go_wp2_with fail
      go_ret
      exact ⟨by rw [HRQ.out]; rfl, B_w1.out⟩
    | true =>
      cases b3 with
      | false =>
        replace q3' : (an != 0) = true := q3'
        cases b4 with
        | false =>
          replace q4' : (an != bn) = true := q4'
          have HRQ2 : Hid (R = false) := Lib.hid (by rw [HRQ.out]; simp)
          clear HRQ
          have HRQ := HRQ2
          clear HRQ2
          go_wp2_with fail
          go_ret
          exact ⟨by rw [HRQ.out]; rfl, B_w1.out⟩
        | true =>
          replace q4' : (an != bn) = false := q4'
          have HRQ2 : Hid (R = (be || f1 && f2 && bc)) := Lib.hid (by rw [HRQ.out]; simp)
          clear HRQ
          have HRQ := HRQ2
          clear HRQ2
          cases be with
          | false =>
            go_wp2_with fail
            refine (HFA.out w1).mono ?_
            rintro e x1 ⟨rfl, hb⟩
            clear cx1 cx2 cx3 cy1 cy2 cy3
            have X_x1 : Hid (BK 42 x1 w.heap.size (gR ⟨al, us, an, fi⟩)) := Lib.hid (X_w1.out.step hb)
            have Y_x1 : Hid (BK 42 x1 (w.heap.size + 1) (gR ⟨bl, vs, bn, gi⟩)) := Lib.hid (Y_w1.out.step hb)
            have B_x1 : Hid (Below w.heap.size w x1) := Lib.hid (stepB B_w1.out hb)
            clear X_w1 Y_w1 B_w1
            clear hb
            have cx1 : x1.cell? ⟨w.heap.size, 1, none⟩ = some (.string us) := X_x1.out.cell 1 rfl
            have cx2 : x1.cell? ⟨w.heap.size, 2, none⟩ = some (.int .i64 an) := X_x1.out.cell 2 rfl
            have cx3 : x1.cell? ⟨w.heap.size, 3, none⟩ = some (.string fi) := X_x1.out.cell 3 rfl
            have cy1 : x1.cell? ⟨w.heap.size + 1, 1, none⟩ = some (.string vs) := Y_x1.out.cell 1 rfl
            have cy2 : x1.cell? ⟨w.heap.size + 1, 2, none⟩ = some (.int .i64 bn) := Y_x1.out.cell 2 rfl
            have cy3 : x1.cell? ⟨w.heap.size + 1, 3, none⟩ = some (.string gi) := Y_x1.out.cell 3 rfl
            cases f1 with
            | false =>
              go_wp2_with fail
              go_ret
              exact ⟨by rw [HRQ.out]; rfl, B_x1.out⟩
            | true =>
              go_wp2_with fail
              refine (HFB.out x1).mono ?_
              rintro e x2 ⟨rfl, hb⟩
              clear cx1 cx2 cx3 cy1 cy2 cy3
              have X_x2 : Hid (BK 42 x2 w.heap.size (gR ⟨al, us, an, fi⟩)) := Lib.hid (X_x1.out.step hb)
              have Y_x2 : Hid (BK 42 x2 (w.heap.size + 1) (gR ⟨bl, vs, bn, gi⟩)) := Lib.hid (Y_x1.out.step hb)
              have B_x2 : Hid (Below w.heap.size w x2) := Lib.hid (stepB B_x1.out hb)
              clear X_x1 Y_x1 B_x1
              clear hb
              have cx1 : x2.cell? ⟨w.heap.size, 1, none⟩ = some (.string us) := X_x2.out.cell 1 rfl
              have cx2 : x2.cell? ⟨w.heap.size, 2, none⟩ = some (.int .i64 an) := X_x2.out.cell 2 rfl
              have cx3 : x2.cell? ⟨w.heap.size, 3, none⟩ = some (.string fi) := X_x2.out.cell 3 rfl
              have cy1 : x2.cell? ⟨w.heap.size + 1, 1, none⟩ = some (.string vs) := Y_x2.out.cell 1 rfl
              have cy2 : x2.cell? ⟨w.heap.size + 1, 2, none⟩ = some (.int .i64 bn) := Y_x2.out.cell 2 rfl
              have cy3 : x2.cell? ⟨w.heap.size + 1, 3, none⟩ = some (.string gi) := Y_x2.out.cell 3 rfl
              cases f2 with
              | false =>
                go_wp2_with fail
                go_ret
                exact ⟨by rw [HRQ.out]; rfl, B_x2.out⟩
              | true =>
                go_wp2_with fail
                refine (HCO.out x2).mono ?_
                rintro e x3 ⟨rfl, hb⟩
                clear cx1 cx2 cx3 cy1 cy2 cy3
                have X_x3 : Hid (BK 42 x3 w.heap.size (gR ⟨al, us, an, fi⟩)) := Lib.hid (X_x2.out.step hb)
                have Y_x3 : Hid (BK 42 x3 (w.heap.size + 1) (gR ⟨bl, vs, bn, gi⟩)) := Lib.hid (Y_x2.out.step hb)
                have B_x3 : Hid (Below w.heap.size w x3) := Lib.hid (stepB B_x2.out hb)
                clear X_x2 Y_x2 B_x2
                clear hb
                have cx1 : x3.cell? ⟨w.heap.size, 1, none⟩ = some (.string us) := X_x3.out.cell 1 rfl
                have cx2 : x3.cell? ⟨w.heap.size, 2, none⟩ = some (.int .i64 an) := X_x3.out.cell 2 rfl
                have cx3 : x3.cell? ⟨w.heap.size, 3, none⟩ = some (.string fi) := X_x3.out.cell 3 rfl
                have cy1 : x3.cell? ⟨w.heap.size + 1, 1, none⟩ = some (.string vs) := Y_x3.out.cell 1 rfl
                have cy2 : x3.cell? ⟨w.heap.size + 1, 2, none⟩ = some (.int .i64 bn) := Y_x3.out.cell 2 rfl
                have cy3 : x3.cell? ⟨w.heap.size + 1, 3, none⟩ = some (.string gi) := Y_x3.out.cell 3 rfl
                go_wp2_with fail
                go_ret
                exact ⟨by rw [HRQ.out]; rfl, B_x3.out⟩
          | true =>
            go_wp2_with fail
            go_ret
            exact ⟨by rw [HRQ.out]; rfl, B_w1.out⟩
      | true =>
        replace q3' : (an != 0) = false := q3'
        have HRQ2 : Hid (R = (be || f1 && f2 && bc)) := Lib.hid (by rw [HRQ.out]; simp)
        clear HRQ
        have HRQ := HRQ2
        clear HRQ2
        cases be with
        | false =>
          go_wp2_with fail
          refine (HFA.out w1).mono ?_
          rintro e x1 ⟨rfl, hb⟩
          clear cx1 cx2 cx3 cy1 cy2 cy3
          have X_x1 : Hid (BK 42 x1 w.heap.size (gR ⟨al, us, an, fi⟩)) := Lib.hid (X_w1.out.step hb)
          have Y_x1 : Hid (BK 42 x1 (w.heap.size + 1) (gR ⟨bl, vs, bn, gi⟩)) := Lib.hid (Y_w1.out.step hb)
          have B_x1 : Hid (Below w.heap.size w x1) := Lib.hid (stepB B_w1.out hb)
          clear X_w1 Y_w1 B_w1
          clear hb
          have cx1 : x1.cell? ⟨w.heap.size, 1, none⟩ = some (.string us) := X_x1.out.cell 1 rfl
          have cx2 : x1.cell? ⟨w.heap.size, 2, none⟩ = some (.int .i64 an) := X_x1.out.cell 2 rfl
          have cx3 : x1.cell? ⟨w.heap.size, 3, none⟩ = some (.string fi) := X_x1.out.cell 3 rfl
          have cy1 : x1.cell? ⟨w.heap.size + 1, 1, none⟩ = some (.string vs) := Y_x1.out.cell 1 rfl
          have cy2 : x1.cell? ⟨w.heap.size + 1, 2, none⟩ = some (.int .i64 bn) := Y_x1.out.cell 2 rfl
          have cy3 : x1.cell? ⟨w.heap.size + 1, 3, none⟩ = some (.string gi) := Y_x1.out.cell 3 rfl
          cases f1 with
          | false =>
            go_wp2_with fail
            go_ret
            exact ⟨by rw [HRQ.out]; rfl, B_x1.out⟩
          | true =>
            go_wp2_with fail
            refine (HFB.out x1).mono ?_
            rintro e x2 ⟨rfl, hb⟩
            clear cx1 cx2 cx3 cy1 cy2 cy3
            have X_x2 : Hid (BK 42 x2 w.heap.size (gR ⟨al, us, an, fi⟩)) := Lib.hid (X_x1.out.step hb)
            have Y_x2 : Hid (BK 42 x2 (w.heap.size + 1) (gR ⟨bl, vs, bn, gi⟩)) := Lib.hid (Y_x1.out.step hb)
            have B_x2 : Hid (Below w.heap.size w x2) := Lib.hid (stepB B_x1.out hb)
            clear X_x1 Y_x1 B_x1
            clear hb
            have cx1 : x2.cell? ⟨w.heap.size, 1, none⟩ = some (.string us) := X_x2.out.cell 1 rfl
            have cx2 : x2.cell? ⟨w.heap.size, 2, none⟩ = some (.int .i64 an) := X_x2.out.cell 2 rfl
            have cx3 : x2.cell? ⟨w.heap.size, 3, none⟩ = some (.string fi) := X_x2.out.cell 3 rfl
            have cy1 : x2.cell? ⟨w.heap.size + 1, 1, none⟩ = some (.string vs) := Y_x2.out.cell 1 rfl
            have cy2 : x2.cell? ⟨w.heap.size + 1, 2, none⟩ = some (.int .i64 bn) := Y_x2.out.cell 2 rfl
            have cy3 : x2.cell? ⟨w.heap.size + 1, 3, none⟩ = some (.string gi) := Y_x2.out.cell 3 rfl
            cases f2 with
            | false =>
              go_wp2_with fail
              go_ret
              exact ⟨by rw [HRQ.out]; rfl, B_x2.out⟩
            | true =>
              go_wp2_with fail
              refine (HCO.out x2).mono ?_
              rintro e x3 ⟨rfl, hb⟩
              clear cx1 cx2 cx3 cy1 cy2 cy3
              have X_x3 : Hid (BK 42 x3 w.heap.size (gR ⟨al, us, an, fi⟩)) := Lib.hid (X_x2.out.step hb)
              have Y_x3 : Hid (BK 42 x3 (w.heap.size + 1) (gR ⟨bl, vs, bn, gi⟩)) := Lib.hid (Y_x2.out.step hb)
              have B_x3 : Hid (Below w.heap.size w x3) := Lib.hid (stepB B_x2.out hb)
              clear X_x2 Y_x2 B_x2
              clear hb
              have cx1 : x3.cell? ⟨w.heap.size, 1, none⟩ = some (.string us) := X_x3.out.cell 1 rfl
              have cx2 : x3.cell? ⟨w.heap.size, 2, none⟩ = some (.int .i64 an) := X_x3.out.cell 2 rfl
              have cx3 : x3.cell? ⟨w.heap.size, 3, none⟩ = some (.string fi) := X_x3.out.cell 3 rfl
              have cy1 : x3.cell? ⟨w.heap.size + 1, 1, none⟩ = some (.string vs) := Y_x3.out.cell 1 rfl
              have cy2 : x3.cell? ⟨w.heap.size + 1, 2, none⟩ = some (.int .i64 bn) := Y_x3.out.cell 2 rfl
              have cy3 : x3.cell? ⟨w.heap.size + 1, 3, none⟩ = some (.string gi) := Y_x3.out.cell 3 rfl
              go_wp2_with fail
              go_ret
              exact ⟨by rw [HRQ.out]; rfl, B_x3.out⟩
        | true =>
          go_wp2_with fail
          go_ret
          exact ⟨by rw [HRQ.out]; rfl, B_w1.out⟩
  | true =>
    cases b3 with
    | false =>
      replace q3' : (an != 0) = true := q3'
      cases b4 with
      | false =>
        replace q4' : (an != bn) = true := q4'
        have HRQ2 : Hid (R = false) := Lib.hid (by rw [HRQ.out]; simp)
        clear HRQ
        have HRQ := HRQ2
        clear HRQ2
        go_wp2_with fail
        go_ret
        exact ⟨by rw [HRQ.out]; rfl, B_w1.out⟩
      | true =>
        replace q4' : (an != bn) = false := q4'
        have HRQ2 : Hid (R = (be || f1 && f2 && bc)) := Lib.hid (by rw [HRQ.out]; simp)
        clear HRQ
        have HRQ := HRQ2
        clear HRQ2
        cases be with
        | false =>
          go_wp2_with fail
          refine (HFA.out w1).mono ?_
          rintro e x1 ⟨rfl, hb⟩
          clear cx1 cx2 cx3 cy1 cy2 cy3
          have X_x1 : Hid (BK 42 x1 w.heap.size (gR ⟨al, us, an, fi⟩)) := Lib.hid (X_w1.out.step hb)
          have Y_x1 : Hid (BK 42 x1 (w.heap.size + 1) (gR ⟨bl, vs, bn, gi⟩)) := Lib.hid (Y_w1.out.step hb)
          have B_x1 : Hid (Below w.heap.size w x1) := Lib.hid (stepB B_w1.out hb)
          clear X_w1 Y_w1 B_w1
          clear hb
          have cx1 : x1.cell? ⟨w.heap.size, 1, none⟩ = some (.string us) := X_x1.out.cell 1 rfl
          have cx2 : x1.cell? ⟨w.heap.size, 2, none⟩ = some (.int .i64 an) := X_x1.out.cell 2 rfl
          have cx3 : x1.cell? ⟨w.heap.size, 3, none⟩ = some (.string fi) := X_x1.out.cell 3 rfl
          have cy1 : x1.cell? ⟨w.heap.size + 1, 1, none⟩ = some (.string vs) := Y_x1.out.cell 1 rfl
          have cy2 : x1.cell? ⟨w.heap.size + 1, 2, none⟩ = some (.int .i64 bn) := Y_x1.out.cell 2 rfl
          have cy3 : x1.cell? ⟨w.heap.size + 1, 3, none⟩ = some (.string gi) := Y_x1.out.cell 3 rfl
          cases f1 with
          | false =>
            go_wp2_with fail
            go_ret
            exact ⟨by rw [HRQ.out]; rfl, B_x1.out⟩
          | true =>
            go_wp2_with fail
            refine (HFB.out x1).mono ?_
            rintro e x2 ⟨rfl, hb⟩
            clear cx1 cx2 cx3 cy1 cy2 cy3
            have X_x2 : Hid (BK 42 x2 w.heap.size (gR ⟨al, us, an, fi⟩)) := Lib.hid (X_x1.out.step hb)
            have Y_x2 : Hid (BK 42 x2 (w.heap.size + 1) (gR ⟨bl, vs, bn, gi⟩)) := Lib.hid (Y_x1.out.step hb)
            have B_x2 : Hid (Below w.heap.size w x2) := Lib.hid (stepB B_x1.out hb)
            clear X_x1 Y_x1 B_x1
            clear hb
            have cx1 : x2.cell? ⟨w.heap.size, 1, none⟩ = some (.string us) := X_x2.out.cell 1 rfl
            have cx2 : x2.cell? ⟨w.heap.size, 2, none⟩ = some (.int .i64 an) := X_x2.out.cell 2 rfl
            have cx3 : x2.cell? ⟨w.heap.size, 3, none⟩ = some (.string fi) := X_x2.out.cell 3 rfl
            have cy1 : x2.cell? ⟨w.heap.size + 1, 1, none⟩ = some (.string vs) := Y_x2.out.cell 1 rfl
            have cy2 : x2.cell? ⟨w.heap.size + 1, 2, none⟩ = some (.int .i64 bn) := Y_x2.out.cell 2 rfl
            have cy3 : x2.cell? ⟨w.heap.size + 1, 3, none⟩ = some (.string gi) := Y_x2.out.cell 3 rfl
            cases f2 with
            | false =>
              go_wp2_with fail
              go_ret
              exact ⟨by rw [HRQ.out]; rfl, B_x2.out⟩
            | true =>
              go_wp2_with fail
              refine (HCO.out x2).mono ?_
              rintro e x3 ⟨rfl, hb⟩
              clear cx1 cx2 cx3 cy1 cy2 cy3
              have X_x3 : Hid (BK 42 x3 w.heap.size (gR ⟨al, us, an, fi⟩)) := Lib.hid (X_x2.out.step hb)
              have Y_x3 : Hid (BK 42 x3 (w.heap.size + 1) (gR ⟨bl, vs, bn, gi⟩)) := Lib.hid (Y_x2.out.step hb)
              have B_x3 : Hid (Below w.heap.size w x3) := Lib.hid (stepB B_x2.out hb)
              clear X_x2 Y_x2 B_x2
              clear hb
              have cx1 : x3.cell? ⟨w.heap.size, 1, none⟩ = some (.string us) := X_x3.out.cell 1 rfl
              have cx2 : x3.cell? ⟨w.heap.size, 2, none⟩ = some (.int .i64 an) := X_x3.out.cell 2 rfl
              have cx3 : x3.cell? ⟨w.heap.size, 3, none⟩ = some (.string fi) := X_x3.out.cell 3 rfl
              have cy1 : x3.cell? ⟨w.heap.size + 1, 1, none⟩ = some (.string vs) := Y_x3.out.cell 1 rfl
              have cy2 : x3.cell? ⟨w.heap.size + 1, 2, none⟩ = some (.int .i64 bn) := Y_x3.out.cell 2 rfl
              have cy3 : x3.cell? ⟨w.heap.size + 1, 3, none⟩ = some (.string gi) := Y_x3.out.cell 3 rfl
              go_wp2_with fail
              go_ret
              exact ⟨by rw [HRQ.out]; rfl, B_x3.out⟩
        | true =>
          go_wp2_with fail
          go_ret
          exact ⟨by rw [HRQ.out]; rfl, B_w1.out⟩
    | true =>
      replace q3' : (an != 0) = false := q3'
      have HRQ2 : Hid (R = (be || f1 && f2 && bc)) := Lib.hid (by rw [HRQ.out]; simp)
      clear HRQ
      have HRQ := HRQ2
      clear HRQ2
      cases be with
      | false =>
        go_wp2_with fail
        refine (HFA.out w1).mono ?_
        rintro e x1 ⟨rfl, hb⟩
        clear cx1 cx2 cx3 cy1 cy2 cy3
        have X_x1 : Hid (BK 42 x1 w.heap.size (gR ⟨al, us, an, fi⟩)) := Lib.hid (X_w1.out.step hb)
        have Y_x1 : Hid (BK 42 x1 (w.heap.size + 1) (gR ⟨bl, vs, bn, gi⟩)) := Lib.hid (Y_w1.out.step hb)
        have B_x1 : Hid (Below w.heap.size w x1) := Lib.hid (stepB B_w1.out hb)
        clear X_w1 Y_w1 B_w1
        clear hb
        have cx1 : x1.cell? ⟨w.heap.size, 1, none⟩ = some (.string us) := X_x1.out.cell 1 rfl
        have cx2 : x1.cell? ⟨w.heap.size, 2, none⟩ = some (.int .i64 an) := X_x1.out.cell 2 rfl
        have cx3 : x1.cell? ⟨w.heap.size, 3, none⟩ = some (.string fi) := X_x1.out.cell 3 rfl
        have cy1 : x1.cell? ⟨w.heap.size + 1, 1, none⟩ = some (.string vs) := Y_x1.out.cell 1 rfl
        have cy2 : x1.cell? ⟨w.heap.size + 1, 2, none⟩ = some (.int .i64 bn) := Y_x1.out.cell 2 rfl
        have cy3 : x1.cell? ⟨w.heap.size + 1, 3, none⟩ = some (.string gi) := Y_x1.out.cell 3 rfl
        cases f1 with
        | false =>
          go_wp2_with fail
          go_ret
          exact ⟨by rw [HRQ.out]; rfl, B_x1.out⟩
        | true =>
          go_wp2_with fail
          refine (HFB.out x1).mono ?_
          rintro e x2 ⟨rfl, hb⟩
          clear cx1 cx2 cx3 cy1 cy2 cy3
          have X_x2 : Hid (BK 42 x2 w.heap.size (gR ⟨al, us, an, fi⟩)) := Lib.hid (X_x1.out.step hb)
          have Y_x2 : Hid (BK 42 x2 (w.heap.size + 1) (gR ⟨bl, vs, bn, gi⟩)) := Lib.hid (Y_x1.out.step hb)
          have B_x2 : Hid (Below w.heap.size w x2) := Lib.hid (stepB B_x1.out hb)
          clear X_x1 Y_x1 B_x1
          clear hb
          have cx1 : x2.cell? ⟨w.heap.size, 1, none⟩ = some (.string us) := X_x2.out.cell 1 rfl
          have cx2 : x2.cell? ⟨w.heap.size, 2, none⟩ = some (.int .i64 an) := X_x2.out.cell 2 rfl
          have cx3 : x2.cell? ⟨w.heap.size, 3, none⟩ = some (.string fi) := X_x2.out.cell 3 rfl
          have cy1 : x2.cell? ⟨w.heap.size + 1, 1, none⟩ = some (.string vs) := Y_x2.out.cell 1 rfl
          have cy2 : x2.cell? ⟨w.heap.size + 1, 2, none⟩ = some (.int .i64 bn) := Y_x2.out.cell 2 rfl
          have cy3 : x2.cell? ⟨w.heap.size + 1, 3, none⟩ = some (.string gi) := Y_x2.out.cell 3 rfl
          cases f2 with
          | false =>
            go_wp2_with fail
            go_ret
            exact ⟨by rw [HRQ.out]; rfl, B_x2.out⟩
          | true =>
            go_wp2_with fail
            refine (HCO.out x2).mono ?_
            rintro e x3 ⟨rfl, hb⟩
            clear cx1 cx2 cx3 cy1 cy2 cy3
            have X_x3 : Hid (BK 42 x3 w.heap.size (gR ⟨al, us, an, fi⟩)) := Lib.hid (X_x2.out.step hb)
            have Y_x3 : Hid (BK 42 x3 (w.heap.size + 1) (gR ⟨bl, vs, bn, gi⟩)) := Lib.hid (Y_x2.out.step hb)
            have B_x3 : Hid (Below w.heap.size w x3) := Lib.hid (stepB B_x2.out hb)
            clear X_x2 Y_x2 B_x2
            clear hb
            have cx1 : x3.cell? ⟨w.heap.size, 1, none⟩ = some (.string us) := X_x3.out.cell 1 rfl
            have cx2 : x3.cell? ⟨w.heap.size, 2, none⟩ = some (.int .i64 an) := X_x3.out.cell 2 rfl
            have cx3 : x3.cell? ⟨w.heap.size, 3, none⟩ = some (.string fi) := X_x3.out.cell 3 rfl
            have cy1 : x3.cell? ⟨w.heap.size + 1, 1, none⟩ = some (.string vs) := Y_x3.out.cell 1 rfl
            have cy2 : x3.cell? ⟨w.heap.size + 1, 2, none⟩ = some (.int .i64 bn) := Y_x3.out.cell 2 rfl
            have cy3 : x3.cell? ⟨w.heap.size + 1, 3, none⟩ = some (.string gi) := Y_x3.out.cell 3 rfl
            go_wp2_with fail
            go_ret
            exact ⟨by rw [HRQ.out]; rfl, B_x3.out⟩
      | true =>
        go_wp2_with fail
        go_ret
        exact ⟨by rw [HRQ.out]; rfl, B_w1.out⟩
end Go.Proofs.YtoakhkiiefiebaaDoor.S1
