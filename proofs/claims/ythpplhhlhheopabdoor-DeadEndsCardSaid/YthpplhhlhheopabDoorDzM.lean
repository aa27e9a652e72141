/-
  What DeadReads and DeadEnds answer: true. Conditions: the properties read as data; texts fit; the library's tables and errors are laid.
-/
import Derived.Test.YthpplhhlhheopabDoorDzL
namespace Go.Proofs.YthpplhhlhheopabDoor
open Go.RowKit
open S2 (BK Put get_ops)

def ShUpto (l : List PR) (k : Nat) : Prop := ∀ j x, j < k → l[j]? = some x → x.1.size ≤ 300 ∧ x.2.size ≤ 300
theorem ShUpto.succ {l : List PR} {k : Nat} {x : PR} (h : ShUpto l k) (hx : l[k]? = some x) (h1 : x.1.size ≤ 300 ∧ x.2.size ≤ 300) : ShUpto l (k + 1) := fun j y hj hy => by
  rcases Nat.lt_succ_iff_lt_or_eq.1 hj with h' | h'
  · exact h j y h' hy
  · subst h'; rw [hx] at hy; rw [← Option.some.inj hy]; exact h1
theorem ShUpto.all {l : List PR} (h : ShUpto l l.length) : ∀ x ∈ l, x.2.size ≤ 1000000 := fun x hx => by
  obtain ⟨j, hj⟩ := List.mem_iff_getElem?.1 hx
  have := (h j x (List.getElem?_eq_some_iff.1 hj).1 hj).2
  omega

set_option maxRecDepth 20000 in
set_option maxHeartbeats 8000000 in
theorem deadReads_walk (m : Msg) (a : Option Addr) (c : Nat) (w : World) (hw : Okd w) (hsl : PL w w.heap.size a m.props) :
    Calls Tryd.prog 4 #[msgV m a c] w fun e w' => e = .returned (.bool true) ∧ Below w.heap.size w w' := by
  have HO := Lib.hid hw
  have HS := Lib.hid hsl
  have HX := Lib.hid (fun w1 h => exHolds_any w1 h)
  clear hw hsl
  have HV : Hid (msgV m a c = .agg (msgC m a c).toArray) := Lib.hid rfl
  have HF1 := Lib.hid (fun w1 h1 h2 h3 h4 => dFrom_any m a c w1 h1 h2 h3 h4)
  have HF2 := Lib.hid (fun w1 h1 h2 h3 h4 => rFrom_any m a c w1 h1 h2 h3 h4)
  have HD1 := Lib.hid (fun w1 h1 h2 h3 h4 => dDeaths_any m a c w1 h1 h2 h3 h4)
  have HD2 := Lib.hid (fun w1 h1 h2 h3 h4 => rDeaths_any m a c w1 h1 h2 h3 h4)
  have HA1 := Lib.hid (fun w1 h1 h2 h3 h4 => dAgain_any m a c w1 h1 h2 h3 h4)
  have HA2 := Lib.hid (fun w1 h1 h2 h3 h4 => rAgain_any m a c w1 h1 h2 h3 h4)
  generalize fromM m = F at HF1 HF2
  obtain ⟨FQ, FR⟩ := F
  generalize deathsM m = dn at HD1 HD2
  generalize againM m = bA at HA1 HA2
  rw [HV.out] at HF1 HF2 HD1 HD2 HA1 HA2 ⊢
  go_enter Tryd.func4, Tryd.ntmps4
  go_upto_region 1 with fail
  refine name_world (C := fun w1 => Code.wp _ _ _ _ w1) (w.alloc (.cells (msgC m a c).toArray 26)) ?_
  intro w1 hw1
  have hb1 : Below w.heap.size w w1 := by rw [hw1]; exact S2.below_new w _
  have B_w1 := Lib.hid hb1
  have P_w1 : Hid (PL w1 w1.heap.size a m.props) := Lib.hid (GL.step HS.out hb1)
  have V_w1 : Hid (BK 26 w1 w.heap.size (msgC m a c)) := Lib.hid (by rw [hw1]; exact BK.new w _ _)
  clear hw1 hb1
  have d8 : w1.cell? ⟨w.heap.size, 8, none⟩ = some (.slice a m.props.length c) := V_w1.out.cell 8 rfl
  by_cases h20 : 20 < m.props.length
  · have q0 : decide ((20 : Int) < (m.props.length : Int)) = true := decide_eq_true (by omega)
    clear h20
    go_wp2_with fail
    refine (HX.out w1 (HO.out.step B_w1.out)).mono ?_
    rintro e w3 ⟨rfl, hb⟩
    have B_w3 := Lib.hid (stepB B_w1.out hb)
    clear hb d8
    go_wp2
    go_ret
    exact ⟨rfl, B_w3.out⟩
  have q0 : decide ((20 : Int) < (m.props.length : Int)) = false := decide_eq_false (by omega)
  have H20 := Lib.hid h20
  clear h20
  go_wp2
  clear q0 d8
  go_loopg [17] m.props.length (fun g v wr => ∃ k : Nat, k + g = m.props.length ∧ v = .int .i64 k ∧ ShUpto m.props k ∧ Below w1.heap.size w1 wr)
  case atStart => exact ⟨0, by omega, rfl, fun _ _ h => absurd h (Nat.not_lt_zero _), Below.refl _ _⟩
  case round =>
    obtain ⟨k, hkg, rfl, hsh, hb⟩ := hrel
    have HSH := Lib.hid hsh
    have HB := Lib.hid hb
    have HG := Lib.hid hkg
    have B_wr := Lib.hid (stepB B_w1.out hb)
    clear hsh
    cases gk with
    | succ g =>
      have hlt : k < m.props.length := by omega
      have e3 : decide ((k : Int) < (m.props.length : Int)) = true := decide_eq_true (by omega)
      obtain ⟨x, hx⟩ : ∃ x, m.props[k]? = some x := ⟨_, List.getElem?_eq_getElem hlt⟩
      obtain ⟨b, o, hA, hbB, kk, kv⟩ := PL.at_ (GL.step P_w1.out hb) hx
      subst hA
      have j1 : (0 : Int) ≤ (k : Int) := by omega
      have j2 : (k : Int) < (m.props.length : Int) := by omega
      have hk21 : k < 21 := by have := H20.out; omega
      by_cases h1 : 300 < x.1.size
      · have q1 : decide ((300 : Int) < (x.1.size : Int)) = true := decide_eq_true (by omega)
        clear h1 hx hkg hb hbB hlt
        go_wp2_with fail
        refine (HX.out _ (HO.out.step (stepB B_wr.out (S2.below_new _ _)))).mono ?_
        rintro e w3 ⟨rfl, hb⟩
        have B_w3 := Lib.hid (stepB (stepB B_wr.out (S2.below_new _ _)) hb)
        clear hb kk kv
        go_wp2
        go_ret
        exact ⟨rfl, B_w3.out⟩
      have q1 : decide ((300 : Int) < (x.1.size : Int)) = false := decide_eq_false (by omega)
      by_cases h2 : 300 < x.2.size
      · have q2 : decide ((300 : Int) < (x.2.size : Int)) = true := decide_eq_true (by omega)
        clear h1 h2 hx hkg hb hbB hlt
        go_wp2_with fail
        refine (HX.out _ (HO.out.step (stepB B_wr.out (S2.below_new _ _)))).mono ?_
        rintro e w3 ⟨rfl, hb⟩
        have B_w3 := Lib.hid (stepB (stepB B_wr.out (S2.below_new _ _)) hb)
        clear hb kk kv
        go_wp2
        go_ret
        exact ⟨rfl, B_w3.out⟩
      have q2 : decide ((300 : Int) < (x.2.size : Int)) = false := decide_eq_false (by omega)
      have HN := Lib.hid (HSH.out.succ hx ⟨by omega, by omega⟩)
      clear h1 h2 hx hkg hb hbB hlt
      go_wp2
      go_roundg g
      case measure => omega
      case rel => exact ⟨k + 1, by have := HG.out; omega, by go_num, HN.out, stepB HB.out (S2.below_new _ _)⟩
    | zero =>
      obtain rfl : k = m.props.length := by omega
      have e3 : decide ((m.props.length : Int) < (m.props.length : Int)) = false := decide_eq_false (by omega)
      have HL : Hid (m.props.length ≤ 9223372036854775806) := Lib.hid (by have := H20.out; omega)
      have HZ := Lib.hid HSH.out.all
      have P_wr : Hid (PL wr wr.heap.size a m.props) := Lib.hid (GL.step P_w1.out hb)
      have V_wr : Hid (BK 26 wr w.heap.size (msgC m a c)) := Lib.hid (V_w1.out.step hb)
      have HLM := Lib.hid (load_ms V_wr.out)
      rw [HV.out] at HLM
      clear hkg hb
      go_wp2_with first
        | (refine wpList_load_v (by rfl) 26 _ rfl ⟨w.heap.size, 0, none⟩ (by first | rfl | go_simp) _ HLM.out ?_)
      refine (HF1.out wr (HO.out.step B_wr.out) P_wr.out HL.out HZ.out).mono ?_
      rintro e w3 ⟨rfl, hb⟩
      have B_w3 := Lib.hid (stepB B_wr.out hb)
      have P_w3 := Lib.hid (GL.step P_wr.out hb)
      have V_w3 := Lib.hid (V_wr.out.step hb)
      clear hb HLM
      have HLM := Lib.hid (load_ms V_w3.out)
      rw [HV.out] at HLM
      go_wp2_with first
        | (refine wpList_load_v (by rfl) 26 _ rfl ⟨w.heap.size, 0, none⟩ (by first | rfl | go_simp) _ HLM.out ?_)
      refine (HF2.out w3 (HO.out.step B_w3.out) P_w3.out HL.out HZ.out).mono ?_
      rintro e w4 ⟨rfl, hb⟩
      have B_w4 := Lib.hid (stepB B_w3.out hb)
      have P_w4 := Lib.hid (GL.step P_w3.out hb)
      have V_w4 := Lib.hid (V_w3.out.step hb)
      clear hb HLM P_wr V_wr P_w3 V_w3
      go_upto_region 11 with fail
      obtain ⟨y1, hy1⟩ : ∃ y1, y1 = World.drew w4 := ⟨_, rfl⟩
      have hbD : Below w4.heap.size w4 y1 := by rw [hy1]; exact (Below.refl _ _).drew
      have V_y1 : Hid (BK 26 y1 w.heap.size (msgC m a c)) := Lib.hid (V_w4.out.step hbD)
      have P_y1 : Hid (PL y1 y1.heap.size a m.props) := Lib.hid (GL.step P_w4.out hbD)
      have B_y1 : Hid (Below w.heap.size w y1) := Lib.hid (stepB B_w4.out hbD)
      clear V_w4 P_w4 B_w4
      have hbd : (fun w' => BK 26 w' w.heap.size (msgC m a c)) (World.drew w4) := by rw [← hy1]; exact V_y1.out
      have hSD : (fun w' => BK 26 w' w.heap.size (msgC m a c)) y1 := V_y1.out
      have HWD := Lib.hid hy1
      clear hy1 hbD
      refine wp_region_held_drew (S := fun w' => BK 26 w' w.heap.size (msgC m a c)) (by kernel_rfl) hbd (fun hHeld => ?_)
      rw [← HWD.out]
      clear hHeld
      have hHeld := hSD
      clear hSD hbd HWD
      refine wpAnyH_take (i := 0) (v := .string FQ) (get_ops _ _ _ rfl) (by kernel_rfl) (by kernel_rfl) (by kernel_rfl) (fun _ _ _ h => h) (Or.inl ⟨by rfl, fun wS hSw => by (try dsimp only at hSw); go_simp⟩) hHeld ?_
      try simp only [Act.put, List.setIfInBounds_toArray, List.set_cons_zero, List.set_cons_succ]
      refine wpAnyH_take (i := 1) (v := .string FQ) (get_ops _ _ _ rfl) (by kernel_rfl) (by kernel_rfl) (by kernel_rfl) (fun _ _ _ h => h) (Or.inl ⟨by rfl, fun wS hSw => by (try dsimp only at hSw); go_simp⟩) hHeld ?_
      try simp only [Act.put, List.setIfInBounds_toArray, List.set_cons_zero, List.set_cons_succ]
      refine wpAnyH_take (i := 2) (v := .bool true) (get_ops _ _ _ rfl) (by kernel_rfl) (by kernel_rfl) (by kernel_rfl) (fun _ _ _ h => h) (Or.inl ⟨by rfl, fun wS hSw => by (try dsimp only at hSw); go_simp⟩) hHeld ?_
      try simp only [Act.put, List.setIfInBounds_toArray, List.set_cons_zero, List.set_cons_succ]
      refine wpAnyH_take (i := 3) (v := .bool true) (get_ops _ _ _ rfl) (by kernel_rfl) (by kernel_rfl) (by kernel_rfl) (fun _ _ _ h => h) (Or.inl ⟨by rfl, fun wS hSw => by (try dsimp only at hSw); go_simp⟩) hHeld ?_
      try simp only [Act.put, List.setIfInBounds_toArray, List.set_cons_zero, List.set_cons_succ]
      refine wpAnyH_take (i := 4) (v := .int .i64 FR) (get_ops _ _ _ rfl) (by kernel_rfl) (by kernel_rfl) (by kernel_rfl) (fun _ _ _ h => h) (Or.inl ⟨by rfl, fun wS hSw => by (try dsimp only at hSw); go_simp⟩) hHeld ?_
      try simp only [Act.put, List.setIfInBounds_toArray, List.set_cons_zero, List.set_cons_succ]
      refine wpAnyH_take (i := 5) (v := .int .i64 FR) (get_ops _ _ _ rfl) (by kernel_rfl) (by kernel_rfl) (by kernel_rfl) (fun _ _ _ h => h) (Or.inl ⟨by rfl, fun wS hSw => by (try dsimp only at hSw); go_simp⟩) hHeld ?_
      try simp only [Act.put, List.setIfInBounds_toArray, List.set_cons_zero, List.set_cons_succ]
      refine wpAnyH_take (i := 6) (v := .bool true) (get_ops _ _ _ rfl) (by kernel_rfl) (by kernel_rfl) (by kernel_rfl) (fun _ _ _ h => h) (Or.inl ⟨by rfl, fun wS hSw => by (try dsimp only at hSw); go_simp⟩) hHeld ?_
      try simp only [Act.put, List.setIfInBounds_toArray, List.set_cons_zero, List.set_cons_succ]
      refine wpAnyH_take (i := 7) (v := .bool true) (get_ops _ _ _ rfl) (by kernel_rfl) (by kernel_rfl) (by kernel_rfl) (fun _ _ _ h => h) (Or.inl ⟨by rfl, fun wS hSw => by (try dsimp only at hSw); go_simp⟩) hHeld ?_
      try simp only [Act.put, List.setIfInBounds_toArray, List.set_cons_zero, List.set_cons_succ]
      refine wpAnyH_take (i := 8) (v := .bool true) (get_ops _ _ _ rfl) (by kernel_rfl) (by kernel_rfl) (by kernel_rfl) (fun _ _ _ h => h) (Or.inl ⟨by rfl, fun wS hSw => by (try dsimp only at hSw); go_simp⟩) hHeld ?_
      try simp only [Act.put, List.setIfInBounds_toArray, List.set_cons_zero, List.set_cons_succ]
      refine wpAnyH_take (i := 9) (v := (.agg (msgC m a c).toArray)) (get_ops _ _ _ rfl) (by kernel_rfl) (by kernel_rfl) (by kernel_rfl) (fun _ _ _ h => h) (Or.inl ⟨by rfl, fun wS hSw => by (try dsimp only at hSw); exact exec_load 26 _ rfl ⟨w.heap.size, 0, none⟩ (by go_simp) _ (load_ms hSw)⟩) hHeld ?_
      try simp only [Act.put, List.setIfInBounds_toArray, List.set_cons_zero, List.set_cons_succ]
      refine wpAnyH_take (i := 11) (v := (.agg (msgC m a c).toArray)) (get_ops _ _ _ rfl) (by kernel_rfl) (by kernel_rfl) (by kernel_rfl) (fun _ _ _ h => h) (Or.inl ⟨by rfl, fun wS hSw => by (try dsimp only at hSw); exact exec_load 26 _ rfl ⟨w.heap.size, 0, none⟩ (by go_simp) _ (load_ms hSw)⟩) hHeld ?_
      try simp only [Act.put, List.setIfInBounds_toArray, List.set_cons_zero, List.set_cons_succ]
      refine wpAnyH_ready (rs := [10]) (by kernel_rfl) (by simp) ?_
      refine (AllReadyH.cons (get_ops _ _ _ rfl) (fun K hK => ?_) AllReadyH.nil)
      go_simp
      refine (HD1.out y1 (HO.out.step B_y1.out) P_y1.out HL.out HZ.out).mono ?_
      rintro e y2 ⟨rfl, hb⟩
      have V_y2 : Hid (BK 26 y2 w.heap.size (msgC m a c)) := Lib.hid (V_y1.out.step hb)
      have P_y2 : Hid (PL y2 y2.heap.size a m.props) := Lib.hid (GL.step P_y1.out hb)
      have B_y2 : Hid (Below w.heap.size w y2) := Lib.hid (stepB B_y1.out hb)
      clear V_y1 P_y1 B_y1
      clear hHeld hb
      go_wp2_with fail
      refine hK.out _ _ V_y2.out (fun hHeld => ?_)
      clear hK K
      try simp only [Act.put, List.setIfInBounds_toArray, List.set_cons_zero, List.set_cons_succ]
      refine wpAnyH_ready (rs := [12]) (by kernel_rfl) (by simp) ?_
      refine (AllReadyH.cons (get_ops _ _ _ rfl) (fun K hK => ?_) AllReadyH.nil)
      go_simp
      refine (HD2.out y2 (HO.out.step B_y2.out) P_y2.out HL.out HZ.out).mono ?_
      rintro e y3 ⟨rfl, hb⟩
      have V_y3 : Hid (BK 26 y3 w.heap.size (msgC m a c)) := Lib.hid (V_y2.out.step hb)
      have P_y3 : Hid (PL y3 y3.heap.size a m.props) := Lib.hid (GL.step P_y2.out hb)
      have B_y3 : Hid (Below w.heap.size w y3) := Lib.hid (stepB B_y2.out hb)
      clear V_y2 P_y2 B_y2
      clear hHeld hb
      go_wp2_with fail
      refine hK.out _ _ V_y3.out (fun hHeld => ?_)
      clear hK K
      try simp only [Act.put, List.setIfInBounds_toArray, List.set_cons_zero, List.set_cons_succ]
      refine wpAnyH_take (i := 13) (v := .bool true) (get_ops _ _ _ rfl) (by kernel_rfl) (by kernel_rfl) (by kernel_rfl) (fun _ _ _ h => h) (Or.inl ⟨by rfl, fun wS hSw => by (try dsimp only at hSw); go_simp⟩) hHeld ?_
      try simp only [Act.put, List.setIfInBounds_toArray, List.set_cons_zero, List.set_cons_succ]
      refine wpAnyH_take (i := 14) (v := .bool true) (get_ops _ _ _ rfl) (by kernel_rfl) (by kernel_rfl) (by kernel_rfl) (fun _ _ _ h => h) (Or.inl ⟨by rfl, fun wS hSw => by (try dsimp only at hSw); go_simp⟩) hHeld ?_
      try simp only [Act.put, List.setIfInBounds_toArray, List.set_cons_zero, List.set_cons_succ]
      refine wpAnyH_take (i := 15) (v := .bool true) (get_ops _ _ _ rfl) (by kernel_rfl) (by kernel_rfl) (by kernel_rfl) (fun _ _ _ h => h) (Or.inl ⟨by rfl, fun wS hSw => by (try dsimp only at hSw); go_simp⟩) hHeld ?_
      try simp only [Act.put, List.setIfInBounds_toArray, List.set_cons_zero, List.set_cons_succ]
      refine wpAnyH_take (i := 16) (v := (.agg (msgC m a c).toArray)) (get_ops _ _ _ rfl) (by kernel_rfl) (by kernel_rfl) (by kernel_rfl) (fun _ _ _ h => h) (Or.inl ⟨by rfl, fun wS hSw => by (try dsimp only at hSw); exact exec_load 26 _ rfl ⟨w.heap.size, 0, none⟩ (by go_simp) _ (load_ms hSw)⟩) hHeld ?_
      try simp only [Act.put, List.setIfInBounds_toArray, List.set_cons_zero, List.set_cons_succ]
      refine wpAnyH_take (i := 18) (v := (.agg (msgC m a c).toArray)) (get_ops _ _ _ rfl) (by kernel_rfl) (by kernel_rfl) (by kernel_rfl) (fun _ _ _ h => h) (Or.inl ⟨by rfl, fun wS hSw => by (try dsimp only at hSw); exact exec_load 26 _ rfl ⟨w.heap.size, 0, none⟩ (by go_simp) _ (load_ms hSw)⟩) hHeld ?_
      try simp only [Act.put, List.setIfInBounds_toArray, List.set_cons_zero, List.set_cons_succ]
      refine wpAnyH_ready (rs := [17]) (by kernel_rfl) (by simp) ?_
      refine (AllReadyH.cons (get_ops _ _ _ rfl) (fun K hK => ?_) AllReadyH.nil)
      go_simp
      refine (HA1.out y3 (HO.out.step B_y3.out) P_y3.out HL.out HZ.out).mono ?_
      rintro e y4 ⟨rfl, hb⟩
      have V_y4 : Hid (BK 26 y4 w.heap.size (msgC m a c)) := Lib.hid (V_y3.out.step hb)
      have P_y4 : Hid (PL y4 y4.heap.size a m.props) := Lib.hid (GL.step P_y3.out hb)
      have B_y4 : Hid (Below w.heap.size w y4) := Lib.hid (stepB B_y3.out hb)
      clear V_y3 P_y3 B_y3
      clear hHeld hb
      go_wp2_with fail
      refine hK.out _ _ V_y4.out (fun hHeld => ?_)
      clear hK K
      try simp only [Act.put, List.setIfInBounds_toArray, List.set_cons_zero, List.set_cons_succ]
      refine wpAnyH_ready (rs := [19]) (by kernel_rfl) (by simp) ?_
      refine (AllReadyH.cons (get_ops _ _ _ rfl) (fun K hK => ?_) AllReadyH.nil)
      go_simp
      refine (HA2.out y4 (HO.out.step B_y4.out) P_y4.out HL.out HZ.out).mono ?_
      rintro e y5 ⟨rfl, hb⟩
      have V_y5 : Hid (BK 26 y5 w.heap.size (msgC m a c)) := Lib.hid (V_y4.out.step hb)
      have P_y5 : Hid (PL y5 y5.heap.size a m.props) := Lib.hid (GL.step P_y4.out hb)
      have B_y5 : Hid (Below w.heap.size w y5) := Lib.hid (stepB B_y4.out hb)
      clear V_y4 P_y4 B_y4
      clear hHeld hb
      go_wp2_with fail
      refine hK.out _ _ V_y5.out (fun hHeld => ?_)
      clear hK K
      try simp only [Act.put, List.setIfInBounds_toArray, List.set_cons_zero, List.set_cons_succ]
      refine wpAnyH_take (i := 20) (v := .bool true) (get_ops _ _ _ rfl) (by kernel_rfl) (by kernel_rfl) (by kernel_rfl) (fun _ _ _ h => h) (Or.inl ⟨by rfl, fun wS hSw => by (try dsimp only at hSw); go_simp⟩) hHeld ?_
      try simp only [Act.put, List.setIfInBounds_toArray, List.set_cons_zero, List.set_cons_succ]
      refine wpAnyH_take (i := 21) (v := .bool true) (get_ops _ _ _ rfl) (by kernel_rfl) (by kernel_rfl) (by kernel_rfl) (fun _ _ _ h => h) (Or.inl ⟨by rfl, fun wS hSw => by (try dsimp only at hSw); go_simp⟩) hHeld ?_
      try simp only [Act.put, List.setIfInBounds_toArray, List.set_cons_zero, List.set_cons_succ]
      refine wpAnyH_take (i := 22) (v := .bool true) (get_ops _ _ _ rfl) (by kernel_rfl) (by kernel_rfl) (by kernel_rfl) (fun _ _ _ h => h) (Or.inl ⟨by rfl, fun wS hSw => by (try dsimp only at hSw); go_simp⟩) hHeld ?_
      try simp only [Act.put, List.setIfInBounds_toArray, List.set_cons_zero, List.set_cons_succ]
      refine wpAnyH_ready (rs := [23]) (by kernel_rfl) (by simp) ?_
      refine (AllReadyH.cons (get_ops _ _ _ rfl) (fun K hK => ?_) AllReadyH.nil)
      go_simp
      refine (HX.out y5 (HO.out.step B_y5.out)).mono ?_
      rintro e y6 ⟨rfl, hb⟩
      have V_y6 : Hid (BK 26 y6 w.heap.size (msgC m a c)) := Lib.hid (V_y5.out.step hb)
      have P_y6 : Hid (PL y6 y6.heap.size a m.props) := Lib.hid (GL.step P_y5.out hb)
      have B_y6 : Hid (Below w.heap.size w y6) := Lib.hid (stepB B_y5.out hb)
      clear V_y5 P_y5 B_y5
      clear hHeld hb
      go_wp2_with fail
      refine hK.out _ _ V_y6.out (fun hHeld => ?_)
      clear hK K
      try simp only [Act.put, List.setIfInBounds_toArray, List.set_cons_zero, List.set_cons_succ]
      refine wpAnyH_take (i := 24) (v := .bool true) (get_ops _ _ _ rfl) (by kernel_rfl) (by kernel_rfl) (by kernel_rfl) (fun _ _ _ h => h) (Or.inl ⟨by rfl, fun wS hSw => by (try dsimp only at hSw); go_simp⟩) hHeld ?_
      try simp only [Act.put, List.setIfInBounds_toArray, List.set_cons_zero, List.set_cons_succ]
      refine wpAnyH_take (i := 25) (v := .bool true) (get_ops _ _ _ rfl) (by kernel_rfl) (by kernel_rfl) (by kernel_rfl) (fun _ _ _ h => h) (Or.inl ⟨by rfl, fun wS hSw => by (try dsimp only at hSw); go_simp⟩) hHeld ?_
      try simp only [Act.put, List.setIfInBounds_toArray, List.set_cons_zero, List.set_cons_succ]
      refine wpAnyH_done (by kernel_rfl) ?_ _
      go_wp2
      go_ret
      exact ⟨rfl, B_y6.out⟩

/-! ### DeadEnds -/
/-- a message that was marked k times -/
structure Mk (m : Msg) (k : Nat) (y : Msg) : Prop where
  ok : checkR y = 0
  n : deathsM y = deathsM m + k
theorem Mk.zero {m : Msg} (h : checkR m = 0) : Mk m 0 m := ⟨h, rfl⟩
theorem Mk.succ {m y : Msg} {k : Nat} {q : ByteArray} {r : Nat} (h : Mk m k y) (hq : nameR q = true) (hd : deathsM y < 8) : Mk m (k + 1) (markR q y r) :=
  ⟨markR_ok h.ok hq, by
    rw [deaths_mark h.ok]
    unfold nextD
    have := h.n
    omega⟩

set_option maxRecDepth 20000 in
set_option maxHeartbeats 16000000 in
theorem deadEnds_walk (m : Msg) (a : Option Addr) (c : Nat) (r : Int) (w : World) (hw : Okd w) (hsl : PL w w.heap.size a m.props) (ht : m.topic.size ≤ 9223372036854775807) (hf : m.frm.size ≤ 9223372036854775807) (hz : ∀ x ∈ m.props, x.1.size ≤ 9223372036854775807) :
    Calls Tryd.prog 6 #[msgV m a c, .int .i64 r] w fun e w' => e = .returned (.bool true) ∧ Below w.heap.size w w' := by
  have HO := Lib.hid hw
  have HS := Lib.hid hsl
  have HX := Lib.hid (fun w1 h => exHolds_any w1 h)
  have HFT := Lib.hid (fun w1 h => fits_any qB m r a c w1 h (show (1 : Nat) ≤ 9223372036854775807 by decide) ht hf hz)
  obtain ⟨bf, hbf⟩ : ∃ b, fitsR qB m r = b := ⟨_, rfl⟩
  rw [hbf] at HFT
  have HBF := Lib.hid hbf
  unfold qB at HFT
  clear hw hsl ht hf hz hbf
  have HV : Hid (∀ (m : Msg) a c, msgV m a c = .agg (msgC m a c).toArray) := Lib.hid (fun _ _ _ => rfl)
  rw [HV.out] at HFT ⊢
  go_enter Tryd.func6, Tryd.ntmps6
  go_upto_region 1 with fail
  refine name_world (C := fun w1 => Code.wp _ _ _ _ w1) (w.alloc (.cells (msgC m a c).toArray 26)) ?_
  intro w1 hw1
  have hb1 : Below w.heap.size w w1 := by rw [hw1]; exact S2.below_new w _
  have B_w1 := Lib.hid hb1
  have P_w1 : Hid (PL w1 w1.heap.size a m.props) := Lib.hid (GL.step HS.out hb1)
  have V_w1 : Hid (BK 26 w1 w.heap.size (msgC m a c)) := Lib.hid (by rw [hw1]; exact BK.new w _ _)
  clear hw1 hb1
  have HLM := Lib.hid (load_ms V_w1.out)
  rw [HV.out] at HLM
  go_wp2_with first
    | (refine wpList_load_v (by rfl) 26 _ rfl ⟨w.heap.size, 0, none⟩ (by first | rfl | go_simp) _ HLM.out ?_)
  refine (HFT.out w1 P_w1.out).mono ?_
  rintro e w2 ⟨rfl, hb⟩
  have B_w2 := Lib.hid (stepB B_w1.out hb)
  have P_w2 := Lib.hid (GL.step P_w1.out hb)
  have V_w2 := Lib.hid (V_w1.out.step hb)
  clear hb HLM B_w1 P_w1 V_w1
  cases bf with
  | false =>
    go_wp2_with fail
    refine (HX.out w2 (HO.out.step B_w2.out)).mono ?_
    rintro e w3 ⟨rfl, hb⟩
    have B_w3 := Lib.hid (stepB B_w2.out hb)
    clear hb
    go_wp2
    go_ret
    exact ⟨rfl, B_w3.out⟩
  | true =>
    obtain ⟨hnm, hck, rn, hr, hn1, hn4⟩ := fits_parts HBF.out
    subst hr
    have hl (y : Msg) (h : checkR y = 0) : y.props.length ≤ 9223372036854775806 := by have := (propsR_parts (checkR_parts h)).1; omega
    have HDT := Lib.hid (fun (y : Msg) (h : checkR y = 0) a c w1 h1 h2 => dDeaths_any y a c w1 h1 h2 (hl y h) (val160 (checkR_parts h)))
    have HAG := Lib.hid (fun (y : Msg) (h : checkR y = 0) a c w1 h1 h2 => dAgain_any y a c w1 h1 h2 (hl y h) (val160 (checkR_parts h)))
    obtain ⟨mkf, hmkf⟩ : ∃ f : Msg → Msg, ∀ y, f y = markR qB y rn := ⟨fun y => markR qB y rn, fun _ => rfl⟩
    have HMK : Hid (∀ (y : Msg) (_ : checkR y = 0) a c w1 (_ : Okd w1) (_ : PL w1 w1.heap.size a y.props), Calls Tryd.prog 19 #[.string ⟨#[113]⟩, msgV y a c, .int .i64 (rn : Int)] w1 (RetM (mkf y) w1)) := Lib.hid (fun y h a c w1 h1 h2 => by rw [hmkf]; exact dMark_any qB y rn a c w1 h1 h2 h qB_name (by omega))
    have HMF := Lib.hid hmkf
    clear hmkf
    have HCK := Lib.hid hck
    have HM0 := Lib.hid (Mk.zero hck)
    have hdle := deathsT_le (getR m.props kDeaths).1
    have hdle : deathsM m ≤ 1099511627776 := hdle
    obtain ⟨D, hD⟩ : ∃ D, deathsM m = D := ⟨_, rfl⟩
    rw [hD] at hdle
    have HDD := Lib.hid hD
    have q0 : wrap64 (8 - (D : Int)) = 8 - (D : Int) := wrap64_id _ (by omega) (by omega)
    obtain ⟨n, hn⟩ : ∃ n : Nat, max (8 - (D : Int)) 0 = (n : Int) := ⟨(8 - D : Nat), by omega⟩
    have HN : Hid (n = 8 - D) := Lib.hid (by omega)
    have HLM := Lib.hid (load_ms V_w2.out)
    rw [HV.out] at HLM
    clear HBF hnm hn1 hn4 hl hck hD hdle
    go_wp2_with first
      | (refine wpList_load_v (by rfl) 26 _ rfl ⟨w.heap.size, 0, none⟩ (by first | rfl | go_simp) _ HLM.out ?_)
    have HDT0 := Lib.hid (HDT.out m HCK.out a c w2 (HO.out.step B_w2.out) P_w2.out)
    rw [HV.out, HDD.out] at HDT0
    refine HDT0.out.mono ?_
    rintro e w3 ⟨rfl, hb⟩
    have B_w3 := Lib.hid (stepB B_w2.out hb)
    have P_w3 := Lib.hid (GL.step P_w2.out hb)
    have V_w3 := Lib.hid (V_w2.out.step hb)
    clear hb HLM B_w2 P_w2 V_w2 HDT0 HDT
    go_wp2
    clear q0 hn
    go_loopg [6] 9 (fun g v wr => ∃ (k : Nat) (y : Msg) (a : Option Addr) (c : Nat), k + g = 9 ∧ k ≤ 8 - D ∧ v = .int .i64 k ∧ Mk m k y ∧ BK 26 wr w.heap.size (msgC y a c) ∧ PL wr wr.heap.size a y.props ∧ Below w.heap.size w wr)
    case atStart => exact ⟨0, m, a, c, by omega, Nat.zero_le _, rfl, HM0.out, V_w3.out, P_w3.out, B_w3.out⟩
    case round =>
      obtain ⟨k, y, a', c', hkg, hkd, rfl, hmk, hV, hP, hB⟩ := hrel
      have HMKY := Lib.hid hmk
      have V_wr := Lib.hid hV
      have P_wr := Lib.hid hP
      have B_wr := Lib.hid hB
      have HG := Lib.hid hkg
      have HKD := Lib.hid hkd
      have hdy : deathsM y = D + k := by rw [hmk.n, HDD.out]
      clear hmk hV hP hB V_w3 P_w3 B_w3 HM0
      have hk8 : k ≤ 8 := by omega
      obtain ⟨g, rfl⟩ : ∃ g, gk = g + 1 := ⟨gk - 1, by omega⟩
      have e3 : decide ((k : Int) ≤ 8) = true := decide_eq_true (by omega)
      have HLM := Lib.hid (load_ms V_wr.out)
      rw [HV.out] at HLM
      have HA0 := Lib.hid (HAG.out y HMKY.out.ok a' c' wr (HO.out.step B_wr.out) P_wr.out)
      rw [HV.out] at HA0
      by_cases hag : deathsM y < 8
      · have hag1 : againM y = true := by unfold againM; exact decide_eq_true hag
        rw [hag1] at HA0
        have HM1 := Lib.hid (HMK.out y HMKY.out.ok a' c')
        rw [HV.out] at HM1
        have HNX := Lib.hid (HMKY.out.succ (r := rn) qB_name hag)
        rw [← HMF.out] at HNX
        have HKN : Hid (k + 1 ≤ 8 - D) := Lib.hid (by omega)
        generalize mkf y = my at HM1 HNX
        clear hag hag1 hdy hkg hkd
        go_wp2_with first
          | (refine wpList_load_v (by rfl) 26 _ rfl ⟨w.heap.size, 0, none⟩ (by first | rfl | go_simp) _ HLM.out ?_)
        refine HA0.out.mono ?_
        rintro e w4 ⟨rfl, hb⟩
        have B_w4 := Lib.hid (stepB B_wr.out hb)
        have P_w4 := Lib.hid (GL.step P_wr.out hb)
        have V_w4 := Lib.hid (V_wr.out.step hb)
        clear hb HLM
        have HLM := Lib.hid (load_ms V_w4.out)
        rw [HV.out] at HLM
        go_wp2_with first
          | (refine wpList_load_v (by rfl) 26 _ rfl ⟨w.heap.size, 0, none⟩ (by first | rfl | go_simp) _ HLM.out ?_)
        refine (HM1.out w4 (HO.out.step B_w4.out) P_w4.out).mono ?_
        rintro e w5 ⟨a5, c5, rfl, hpl, hnw, hb⟩
        have V_w5 := Lib.hid (V_w4.out.step hb)
        have B_w5 := Lib.hid (stepB B_w4.out hb)
        have P_w5 := Lib.hid hpl
        have N_w5 : Hid (∀ b o, a5 = some ⟨b, o, none⟩ → b ≠ w.heap.size) := Lib.hid (fun b o e => by have := hnw b o e; have := V_w4.out.lt; omega)
        clear hb hpl hnw HLM P_wr V_wr B_wr B_w4 P_w4 V_w4 HA0 HM1
        go_wp2_with first
          | (refine S2.wpList_store_all (by rfl) 26 (.tmp 2) (.tmp 31) rfl rfl w.heap.size rfl (msgC my a5 c5) rfl 26 _ V_w5.out msgSize rfl (msgC_one _ _ _) ?_; intro w6 hM hP; have V6 := Lib.hid hM; have P6 := Lib.hid hP; clear hM hP)
        go_roundg g
        case measure => omega
        case rel => exact ⟨k + 1, my, a5, c5, by have := HG.out; omega, HKN.out, by go_num, HNX.out, V6.out, by rw [P6.out.size]; exact PL.put P_w5.out P6.out N_w5.out, P6.out.below B_w5.out (Nat.le_refl _)⟩
      · have hag1 : againM y = false := by unfold againM; exact decide_eq_false hag
        rw [hag1] at HA0
        have hkn : (k : Int) = (n : Int) := by have := HN.out; omega
        have q5 : ((k : Int) == (n : Int)) = true := by rw [hkn]; exact beq_self_eq_true _
        clear hag hag1 hdy hkg hkd hkn
        go_wp2_with first
          | (refine wpList_load_v (by rfl) 26 _ rfl ⟨w.heap.size, 0, none⟩ (by first | rfl | go_simp) _ HLM.out ?_)
        refine HA0.out.mono ?_
        rintro e w4 ⟨rfl, hb⟩
        have B_w4 := Lib.hid (stepB B_wr.out hb)
        clear hb HLM
        go_wp2_with fail
        refine (HX.out w4 (HO.out.step B_w4.out)).mono ?_
        rintro e w5 ⟨rfl, hb⟩
        have B_w5 := Lib.hid (stepB B_w4.out hb)
        clear hb
        go_wp2
        go_ret
        exact ⟨rfl, B_w5.out⟩

end Go.Proofs.YthpplhhlhheopabDoor
