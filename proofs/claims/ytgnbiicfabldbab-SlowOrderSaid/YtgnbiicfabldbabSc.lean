/-
  What Push and Pop of slow answer. Conditions: the lists read as data; few messages, with few properties.
-/
import Derived.Test.YtgnbiicfabldbabSb0
namespace Go.Proofs.Ytgnbiicfabldbab
open Go.RowKit
open S2 (BK Put)

theorem mi_one {w : World} {b : Nat} {x : ME} (h : BK 25 w b (gM x)) (hp : PL w w.heap.size x.a x.m.props) : MI w w.heap.size (some ⟨b, 0, none⟩) [x] := by
  refine ⟨fun _ => ⟨b, 0, rfl, h.lt, fun j y i v hy hv => ?_⟩, fun y hy => by simp at hy; subst hy; exact hp⟩
  cases j with
  | zero =>
    simp at hy
    subst hy
    have := h.cell i hv
    simpa using this
  | succ j => simp at hy
theorem push_cases {q : List Msg} {m : Msg} {mx pol : Int} {R : List Msg × List Msg × Bool} (h : pushR q m mx pol = R) : ((q.length : Int) < mx → (q ++ [m], [], false) = R) ∧ (¬ (q.length : Int) < mx → pol = 1 → 1 ≤ mx → (q.drop 1 ++ [m], q.take 1, false) = R) ∧ (¬ (q.length : Int) < mx → ¬ (pol = 1 ∧ 1 ≤ mx) → (q, [m], pol == 3) = R) := by
  unfold pushR at h
  refine ⟨fun h1 => ?_, fun h1 h2 h3 => ?_, fun h1 h2 => ?_⟩
  · rw [if_pos h1] at h; exact h
  · rw [if_neg h1, if_pos ⟨h2, h3⟩] at h; exact h
  · rw [if_neg h1, if_neg h2] at h; exact h
/-- the same, the first queue in new memory -/
def RetPuN (r : List Msg × List Msg × Bool) (W : World) (E : Ending) (w' : World) : Prop := ∃ A1 c1 ys A2 c2 zs, E = .returned (.tuple #[.slice A1 (List.length (α := ME) ys) c1, .slice A2 (List.length (α := ME) zs) c2, .bool r.2.2]) ∧ ys.map ME.m = r.1 ∧ zs.map ME.m = r.2.1 ∧ ys.length ≤ c1 ∧ zs.length ≤ c2 ∧ MI w' w'.heap.size A1 ys ∧ MI w' w'.heap.size A2 zs ∧ Below W.heap.size W w' ∧ NewL W.heap.size A1
theorem RetPuN.weak {r : List Msg × List Msg × Bool} {W : World} {E : Ending} {w' : World} (h : RetPuN r W E w') : RetPu r W E w' := by
  obtain ⟨A1, c1, ys, A2, c2, zs, h1, h2, h3, h4, h5, h6, h7, h8, _⟩ := h
  exact ⟨A1, c1, ys, A2, c2, zs, h1, h2, h3, h4, h5, h6, h7, h8⟩
theorem lstMN {B : Nat} {w : World} {v : Value} {xs : List ME} (h : LstM B w v xs) : ∃ A c, v = .slice A xs.length c ∧ xs.length ≤ c ∧ MN w B A xs := LN.of gM_len h

set_option maxRecDepth 20000 in
set_option maxHeartbeats 4000000 in
theorem sPushN_any (A : Option Addr) (c : Nat) (xs : List ME) (m : Msg) (am : Option Addr) (cm : Nat) (mx pol : Int) (w : World) (hsl : MI w w.heap.size A xs) (hm : PL w w.heap.size am m.props) (hc : xs.length ≤ c) (hn : xs.length ≤ 90000) (hp : ∀ x ∈ xs, x.m.props.length ≤ 4398046511104) (hpm : m.props.length ≤ 4398046511104) :
    Calls Try.prog 11 #[.slice A xs.length c, msgV m am cm, .int .i64 mx, .int .i64 pol] w (RetPuN (pushR (xs.map ME.m) m mx pol) w) := by
  have HW := Lib.hid (fun A c ys w1 h h1 h2 h3 h4 h5 => sWith_any A c ys m am cm w1 h h1 h2 h3 h4 h5)
  have HCL := Lib.hid (fun A c ys w1 h h1 h2 => sClone_any A c ys w1 h h1 h2)
  have HCM := Lib.hid (fun w1 h h1 => sCloneMessage_any m am cm w1 h h1)
  have HS := Lib.hid hsl
  have HM := Lib.hid hm
  have HP := Lib.hid hp
  have HPM := Lib.hid hpm
  have HN := Lib.hid hn
  have HC := Lib.hid hc
  obtain ⟨R, hR⟩ : ∃ R, pushR (xs.map ME.m) m mx pol = R := ⟨_, rfl⟩
  rw [hR]
  have HPC := Lib.hid (push_cases hR)
  have hlm : (((xs.map ME.m).length : Nat) : Int) = (xs.length : Int) := by simp
  rw [hlm] at HPC
  have HPP := Lib.hid (fun (x : ME) (hx : x ∈ xs.drop 1) => hp x (List.mem_of_mem_drop hx))
  have HPT := Lib.hid (fun (x : ME) (hx : x ∈ xs.take 1) => hp x (List.mem_of_mem_take hx))
  clear hR hsl hm hp hpm hc hlm
  unfold msgV at HW HCM ⊢
  go_enter Try.func11, Try.ntmps11
  go_upto_region 1 with fail
  refine name_world (C := fun w1 => Code.wp _ _ _ _ w1) (w.alloc (.cells (msgC m am cm).toArray 25)) ?_
  intro w1 hw1
  have hb1 : Below w.heap.size w w1 := by rw [hw1]; exact S2.below_new w _
  have V_w1 : Hid (BK 25 w1 w.heap.size (msgC m am cm)) := Lib.hid (by rw [hw1]; exact BK.new w _ _)
  have B_w1 := Lib.hid hb1
  clear hw1 hb1
  by_cases hl : (xs.length : Int) < mx
  · have q1 : decide ((xs.length : Int) < mx) = true := decide_eq_true hl
    have HR : Hid ((xs.map ME.m ++ [m], [], false) = R) := Lib.hid (HPC.out.1 hl)
    clear hl HPC
    go_wp2_with first
      | (refine wpList_load_v (by rfl) 25 (.tmp 5) rfl ⟨w.heap.size, 0, none⟩ rfl (.agg #[.string m.topic, .string m.payload, .int .i64 m.level, .bool m.retain, .int .i64 m.prio, .int .i64 m.exps, .string m.frm, .int .i64 m.seq, .slice am m.props.length cm]) (S2.run_load_all V_w1.out Try.underlying25 rfl msgSize) ?_)
    refine (HW.out A c xs w1 (HS.out.step B_w1.out) (GL.step HM.out B_w1.out) HC.out HN.out HP.out HPM.out).mono ?_
    rintro e w2 ⟨v2, ys, rfl, hys, hl2, hb2⟩
    obtain ⟨A2, c2, rfl, hc2, hmn⟩ := lstMN hl2
    have hmi := hmn.1
    have HNW : Hid (NewL w.heap.size A2) := Lib.hid (fun b o e => by have := hmn.2.1 b o e; have := B_w1.out.size; omega)
    clear hmn
    have Y := Lib.hid (And.intro hys (And.intro hc2 hmi))
    have B_w2 := Lib.hid (stepB B_w1.out hb2)
    clear hl2 hb2 hys hc2 hmi
    go_wp2
    go_ret3
    exact ⟨A2, c2, ys, none, 0, [], by rw [← HR.out]; rfl, by rw [← HR.out]; exact Y.out.1, by rw [← HR.out]; rfl, Y.out.2.1, Nat.le_refl _, Y.out.2.2, LI.nil _ _ _, B_w2.out, HNW.out⟩
  have q1 : decide ((xs.length : Int) < mx) = false := decide_eq_false hl
  by_cases hpo : pol = 1 ∧ 1 ≤ mx
  · obtain ⟨rfl, hmx⟩ := hpo
    have q2 : decide ((1 : Int) ≤ mx) = true := decide_eq_true hmx
    have HR : Hid (((xs.map ME.m).drop 1 ++ [m], (xs.map ME.m).take 1, false) = R) := Lib.hid (HPC.out.2.1 hl rfl hmx)
    have s1 : (1 : Int) ≤ (xs.length : Int) := by omega
    have s2 : (1 : Int) ≤ (c : Int) := by have := HC.out; omega
    have HL1 : Hid (1 ≤ xs.length) := Lib.hid (by omega)
    clear hl hmx HPC
    obtain ⟨AD, hAD⟩ : ∃ AD, AD = (if c = 1 then A else A.map (·.add (1 * 9))) := ⟨_, rfl⟩
    obtain ⟨cd, hcd⟩ : ∃ cd, cd = c - 1 := ⟨_, rfl⟩
    obtain ⟨ds, hds⟩ : ∃ ds, ds = xs.drop 1 := ⟨_, rfl⟩
    obtain ⟨ts, hts⟩ : ∃ ts, ts = xs.take 1 := ⟨_, rfl⟩
    have HDE : Hid (Value.slice AD ds.length cd = .slice (if c = 1 then A else A.map (·.add (1 * 9))) (xs.length - 1) (c - 1)) := Lib.hid (by rw [hAD, hcd, hds, List.length_drop])
    have HTE : Hid (Value.slice A ts.length c = .slice A 1 c) := Lib.hid (by rw [hts, List.length_take, Nat.min_eq_left HL1.out])
    have HDS : Hid (∀ w1, MI w1 w1.heap.size A xs → MI w1 w1.heap.size AD ds) := Lib.hid (fun w1 h => by rw [hAD, hds]; exact LI.drop h HL1.out HC.out)
    have HTS : Hid (∀ w1, MI w1 w1.heap.size A xs → MI w1 w1.heap.size A ts) := Lib.hid (fun w1 h => by rw [hts]; exact LI.take h 1)
    have HDB : Hid (ds.length ≤ cd ∧ ds.length ≤ 90000 ∧ ts.length ≤ 100000) := Lib.hid (by rw [hcd, hds, hts, List.length_drop, List.length_take]; have := HC.out; omega)
    have HDP : Hid (∀ x ∈ ds, x.m.props.length ≤ 4398046511104) := Lib.hid (by rw [hds]; exact HPP.out)
    have HTP : Hid (∀ x ∈ ts, x.m.props.length ≤ 4398046511104) := Lib.hid (by rw [hts]; exact HPT.out)
    have HDM : Hid (ds.map ME.m = (xs.map ME.m).drop 1 ∧ ts.map ME.m = (xs.map ME.m).take 1) := Lib.hid (by rw [hds, hts, List.map_drop, List.map_take]; exact ⟨rfl, rfl⟩)
    clear hAD hcd hds hts HPP HPT
    go_upto_region 4 with fail
    clear q1 q2
    obtain ⟨x1, hx1⟩ : ∃ x1, x1 = World.drew w1 := ⟨_, rfl⟩
    have hbD : Below w1.heap.size w1 x1 := by rw [hx1]; exact (Below.refl _ _).drew
    have V_x1 : Hid (BK 25 x1 w.heap.size (msgC m am cm)) := Lib.hid (V_w1.out.step hbD)
    have B_x1 : Hid (Below w.heap.size w x1) := Lib.hid (stepB B_w1.out hbD)
    clear V_w1 B_w1
    have hbd : (fun w' => BK 25 w' w.heap.size (msgC m am cm)) (World.drew w1) := by rw [← hx1]; exact V_x1.out
    have hSD : (fun w' => BK 25 w' w.heap.size (msgC m am cm)) x1 := V_x1.out
    have HWD := Lib.hid hx1
    clear hx1 hbD
    refine wp_region_held_drew (S := fun w' => BK 25 w' w.heap.size (msgC m am cm)) (by kernel_rfl) hbd (fun hHeld => ?_)
    rw [← HWD.out]
    clear hHeld
    have hHeld := hSD
    clear hSD hbd HWD
    refine wpAnyH_take (i := 0) (v := .slice A xs.length c) (get_ops _ _ _ rfl) (by kernel_rfl) (by kernel_rfl) (by kernel_rfl) (fun _ _ _ h => h) (Or.inl ⟨by rfl, fun wS hSw => by (try dsimp only at hSw); go_simp⟩) hHeld ?_
    try simp only [Act.put, List.setIfInBounds_toArray, List.set_cons_zero, List.set_cons_succ]
    refine wpAnyH_take (i := 1) (v := (.slice AD ds.length cd)) (get_ops _ _ _ rfl) (by kernel_rfl) (by kernel_rfl) (by kernel_rfl) (fun _ _ _ h => h) (Or.inl ⟨by rfl, fun wS hSw => by (try dsimp only at hSw); rw [HDE.out]; go_simp⟩) hHeld ?_
    try simp only [Act.put, List.setIfInBounds_toArray, List.set_cons_zero, List.set_cons_succ]
    refine wpAnyH_take (i := 2) (v := (.agg #[.string m.topic, .string m.payload, .int .i64 m.level, .bool m.retain, .int .i64 m.prio, .int .i64 m.exps, .string m.frm, .int .i64 m.seq, .slice am m.props.length cm])) (get_ops _ _ _ rfl) (by kernel_rfl) (by kernel_rfl) (by kernel_rfl) (fun _ _ _ h => h) (Or.inl ⟨by rfl, fun wS hSw => by (try dsimp only at hSw); exact exec_load 25 _ rfl ⟨w.heap.size, 0, none⟩ (by go_simp) _ (S2.run_load_all hSw Try.underlying25 rfl msgSize)⟩) hHeld ?_
    try simp only [Act.put, List.setIfInBounds_toArray, List.set_cons_zero, List.set_cons_succ]
    refine wpAnyH_take (i := 4) (v := .slice A xs.length c) (get_ops _ _ _ rfl) (by kernel_rfl) (by kernel_rfl) (by kernel_rfl) (fun _ _ _ h => h) (Or.inl ⟨by rfl, fun wS hSw => by (try dsimp only at hSw); go_simp⟩) hHeld ?_
    try simp only [Act.put, List.setIfInBounds_toArray, List.set_cons_zero, List.set_cons_succ]
    refine wpAnyH_take (i := 5) (v := (.slice A ts.length c)) (get_ops _ _ _ rfl) (by kernel_rfl) (by kernel_rfl) (by kernel_rfl) (fun _ _ _ h => h) (Or.inl ⟨by rfl, fun wS hSw => by (try dsimp only at hSw); rw [HTE.out]; go_simp⟩) hHeld ?_
    try simp only [Act.put, List.setIfInBounds_toArray, List.set_cons_zero, List.set_cons_succ]
    refine wpAnyH_ready (rs := [3]) (by kernel_rfl) (by simp) ?_
    refine (AllReadyH.cons (get_ops _ _ _ rfl) (fun K hK => ?_) AllReadyH.nil)
    have hzo := B_x1.out.size
    go_simp
    refine (HW.out AD cd ds x1 (HDS.out x1 (HS.out.step B_x1.out)) (GL.step HM.out B_x1.out) HDB.out.1 HDB.out.2.1 HDP.out HPM.out).mono ?_
    rintro e x2 ⟨v1, ys, rfl, hys, hl1, hb⟩
    have V_x2 : Hid (BK 25 x2 w.heap.size (msgC m am cm)) := Lib.hid (V_x1.out.step hb)
    have B_x2 : Hid (Below w.heap.size w x2) := Lib.hid (stepB B_x1.out hb)
    clear V_x1 B_x1
    obtain ⟨A1, c1, hv1, hc1, hmn1⟩ := lstMN hl1
    subst hv1
    have hmi1 := hmn1.1
    have HY1N : Hid (NewL w.heap.size A1) := Lib.hid (fun b o e => by have := hmn1.2.1 b o e; omega)
    clear hmn1 hzo
    have HY1 := Lib.hid (And.intro hys hc1)
    have Y_x2 := Lib.hid hmi1
    clear hl1 hys hc1 hmi1
    clear hHeld hb
    go_wp2_with fail
    refine hK.out _ _ V_x2.out (fun hHeld => ?_)
    clear hK K
    try simp only [Act.put, List.setIfInBounds_toArray, List.set_cons_zero, List.set_cons_succ]
    refine wpAnyH_ready (rs := [6]) (by kernel_rfl) (by simp) ?_
    refine (AllReadyH.cons (get_ops _ _ _ rfl) (fun K hK => ?_) AllReadyH.nil)
    have hzo := B_x2.out.size
    go_simp
    refine (HCL.out A c ts x2 (HTS.out x2 (HS.out.step B_x2.out)) HDB.out.2.2 HTP.out).mono ?_
    rintro e x3 ⟨v1, zs, rfl, hys, hl1, hb⟩
    have V_x3 : Hid (BK 25 x3 w.heap.size (msgC m am cm)) := Lib.hid (V_x2.out.step hb)
    have B_x3 : Hid (Below w.heap.size w x3) := Lib.hid (stepB B_x2.out hb)
    have Y_x3 : Hid (MI x3 x3.heap.size A1 ys) := Lib.hid (Y_x2.out.step hb)
    clear V_x2 B_x2 Y_x2
    obtain ⟨A2, c2, hv1, hc1, hmn1⟩ := lstMN hl1
    subst hv1
    have hmi1 := hmn1.1
    have HZ1N : Hid (NewL w.heap.size A2) := Lib.hid (fun b o e => by have := hmn1.2.1 b o e; omega)
    clear hmn1 hzo
    have HZ1 := Lib.hid (And.intro hys hc1)
    have Z_x3 := Lib.hid hmi1
    clear hl1 hys hc1 hmi1
    clear hHeld hb
    go_wp2_with fail
    refine hK.out _ _ V_x3.out (fun hHeld => ?_)
    clear hK K
    try simp only [Act.put, List.setIfInBounds_toArray, List.set_cons_zero, List.set_cons_succ]
    refine wpAnyH_take (i := 7) (v := .slice A1 ys.length c1) (get_ops _ _ _ rfl) (by kernel_rfl) (by kernel_rfl) (by kernel_rfl) (fun _ _ _ h => h) (Or.inl ⟨by rfl, fun wS hSw => by (try dsimp only at hSw); go_simp⟩) hHeld ?_
    try simp only [Act.put, List.setIfInBounds_toArray, List.set_cons_zero, List.set_cons_succ]
    refine wpAnyH_take (i := 8) (v := .slice A2 zs.length c2) (get_ops _ _ _ rfl) (by kernel_rfl) (by kernel_rfl) (by kernel_rfl) (fun _ _ _ h => h) (Or.inl ⟨by rfl, fun wS hSw => by (try dsimp only at hSw); go_simp⟩) hHeld ?_
    try simp only [Act.put, List.setIfInBounds_toArray, List.set_cons_zero, List.set_cons_succ]
    refine wpAnyH_take (i := 9) (v := .bool false) (get_ops _ _ _ rfl) (by kernel_rfl) (by kernel_rfl) (by kernel_rfl) (fun _ _ _ h => h) (Or.inl ⟨by rfl, fun wS hSw => by (try dsimp only at hSw); go_simp⟩) hHeld ?_
    try simp only [Act.put, List.setIfInBounds_toArray, List.set_cons_zero, List.set_cons_succ]
    refine wpAnyH_done (by kernel_rfl) ?_ _
    go_wp2_with fail
    go_ret3
    exact ⟨A1, c1, ys, A2, c2, zs, by rw [← HR.out]; rfl, by rw [← HR.out, HY1.out.1, HDM.out.1], by rw [← HR.out, HZ1.out.1, HDM.out.2], HY1.out.2, HZ1.out.2, Y_x3.out, Z_x3.out, B_x3.out, HY1N.out⟩
  have HR : Hid ((xs.map ME.m, [m], pol == 3) = R) := Lib.hid (HPC.out.2.2 hl hpo)
  clear HPC
  by_cases h1 : pol = 1
  case pos =>
    have q2 : (pol == 1) = true := by simp [h1]
    have q3 : decide ((1 : Int) ≤ mx) = false := decide_eq_false (fun h3 => hpo ⟨h1, h3⟩)
    clear hl hpo h1
    go_upto_region 5 with fail
    clear q1 q2 q3
    obtain ⟨z1, hz1⟩ : ∃ z1, z1 = World.drew w1 := ⟨_, rfl⟩
    have hbD : Below w1.heap.size w1 z1 := by rw [hz1]; exact (Below.refl _ _).drew
    have V_z1 : Hid (BK 25 z1 w.heap.size (msgC m am cm)) := Lib.hid (V_w1.out.step hbD)
    have B_z1 : Hid (Below w.heap.size w z1) := Lib.hid (stepB B_w1.out hbD)
    clear V_w1 B_w1
    have hbd : (fun w' => BK 25 w' w.heap.size (msgC m am cm)) (World.drew w1) := by rw [← hz1]; exact V_z1.out
    have hSD : (fun w' => BK 25 w' w.heap.size (msgC m am cm)) z1 := V_z1.out
    have HWD := Lib.hid hz1
    clear hz1 hbD
    refine wp_region_held_drew (S := fun w' => BK 25 w' w.heap.size (msgC m am cm)) (by kernel_rfl) hbd (fun hHeld => ?_)
    rw [← HWD.out]
    clear hHeld
    have hHeld := hSD
    clear hSD hbd HWD
    refine wpAnyH_take (i := 0) (v := .slice A xs.length c) (get_ops _ _ _ rfl) (by kernel_rfl) (by kernel_rfl) (by kernel_rfl) (fun _ _ _ h => h) (Or.inl ⟨by rfl, fun wS hSw => by (try dsimp only at hSw); go_simp⟩) hHeld ?_
    try simp only [Act.put, List.setIfInBounds_toArray, List.set_cons_zero, List.set_cons_succ]
    refine wpAnyH_take (i := 2) (v := (.agg #[.string m.topic, .string m.payload, .int .i64 m.level, .bool m.retain, .int .i64 m.prio, .int .i64 m.exps, .string m.frm, .int .i64 m.seq, .slice am m.props.length cm])) (get_ops _ _ _ rfl) (by kernel_rfl) (by kernel_rfl) (by kernel_rfl) (fun _ _ _ h => h) (Or.inl ⟨by rfl, fun wS hSw => by (try dsimp only at hSw); exact exec_load 25 _ rfl ⟨w.heap.size, 0, none⟩ (by go_simp) _ (S2.run_load_all hSw Try.underlying25 rfl msgSize)⟩) hHeld ?_
    try simp only [Act.put, List.setIfInBounds_toArray, List.set_cons_zero, List.set_cons_succ]
    refine wpAnyH_take (i := 5) (v := .int .i64 pol) (get_ops _ _ _ rfl) (by kernel_rfl) (by kernel_rfl) (by kernel_rfl) (fun _ _ _ h => h) (Or.inl ⟨by rfl, fun wS hSw => by (try dsimp only at hSw); go_simp⟩) hHeld ?_
    try simp only [Act.put, List.setIfInBounds_toArray, List.set_cons_zero, List.set_cons_succ]
    refine wpAnyH_take (i := 6) (v := .bool (pol == 3)) (get_ops _ _ _ rfl) (by kernel_rfl) (by kernel_rfl) (by kernel_rfl) (fun _ _ _ h => h) (Or.inl ⟨by rfl, fun wS hSw => by (try dsimp only at hSw); go_simp⟩) hHeld ?_
    try simp only [Act.put, List.setIfInBounds_toArray, List.set_cons_zero, List.set_cons_succ]
    refine wpAnyH_ready (rs := [1]) (by kernel_rfl) (by simp) ?_
    refine (AllReadyH.cons (get_ops _ _ _ rfl) (fun K hK => ?_) AllReadyH.nil)
    have hzo := B_z1.out.size
    go_simp
    refine (HCL.out A c xs z1 (HS.out.step B_z1.out) (by have := HN.out; omega) HP.out).mono ?_
    rintro e z2 ⟨v1, ys, rfl, hys, hl1, hb⟩
    have V_z2 : Hid (BK 25 z2 w.heap.size (msgC m am cm)) := Lib.hid (V_z1.out.step hb)
    have B_z2 : Hid (Below w.heap.size w z2) := Lib.hid (stepB B_z1.out hb)
    clear V_z1 B_z1
    obtain ⟨A1, c1, hv1, hc1, hmn1⟩ := lstMN hl1
    subst hv1
    have hmi1 := hmn1.1
    have HY1N : Hid (NewL w.heap.size A1) := Lib.hid (fun b o e => by have := hmn1.2.1 b o e; omega)
    clear hmn1 hzo
    have HY1 := Lib.hid (And.intro hys hc1)
    have Y_z2 := Lib.hid hmi1
    clear hl1 hys hc1 hmi1
    clear hHeld hb
    go_wp2_with fail
    refine hK.out _ _ V_z2.out (fun hHeld => ?_)
    clear hK K
    try simp only [Act.put, List.setIfInBounds_toArray, List.set_cons_zero, List.set_cons_succ]
    refine wpAnyH_ready (rs := [3]) (by kernel_rfl) (by simp) ?_
    refine (AllReadyH.cons (get_ops _ _ _ rfl) (fun K hK => ?_) AllReadyH.nil)
    go_simp
    refine (HCM.out z2 (GL.step HM.out B_z2.out) HPM.out).mono ?_
    rintro e z3 ⟨a4, c4, rfl, hpl4, hn4, hb⟩
    have V_z3 : Hid (BK 25 z3 w.heap.size (msgC m am cm)) := Lib.hid (V_z2.out.step hb)
    have B_z3 : Hid (Below w.heap.size w z3) := Lib.hid (stepB B_z2.out hb)
    have Y_z3 : Hid (MI z3 z3.heap.size A1 ys) := Lib.hid (Y_z2.out.step hb)
    clear V_z2 B_z2 Y_z2
    have P_z3 := Lib.hid hpl4
    clear hpl4 hn4
    clear hHeld hb
    go_wp2_with fail
    refine hK.out _ _ V_z3.out (fun hHeld => ?_)
    clear hK K
    try simp only [Act.put, List.setIfInBounds_toArray, List.set_cons_zero, List.set_cons_succ]
    refine wpAnyH_take (i := 7) (v := .slice A1 ys.length c1) (get_ops _ _ _ rfl) (by kernel_rfl) (by kernel_rfl) (by kernel_rfl) (fun _ _ _ h => h) (Or.inl ⟨by rfl, fun wS hSw => by (try dsimp only at hSw); go_simp⟩) hHeld ?_
    try simp only [Act.put, List.setIfInBounds_toArray, List.set_cons_zero, List.set_cons_succ]
    refine wpAnyH_ready (rs := [4]) (by kernel_rfl) (by simp) ?_
    refine (AllReadyH.cons (get_ops _ _ _ rfl) (fun K hK => ?_) AllReadyH.nil)
    simp only [msgV]
    go_simp
    obtain ⟨vb, hvb⟩ : ∃ vb, vb = z3.heap.size := ⟨_, rfl⟩
    refine name_world (C := fun w9 => K _ w9) (z3.alloc (.cells (gM (⟨m, a4, c4⟩ : ME)).toArray 25)) ?_
    intro z4 hz4
    have hb : Below z3.heap.size z3 z4 := by rw [hz4]; exact S2.below_new _ _
    have hN : BK 25 z4 vb (gM (⟨m, a4, c4⟩ : ME)) := by rw [hz4, hvb]; exact BK.new _ _ _
    have V_z4 : Hid (BK 25 z4 w.heap.size (msgC m am cm)) := Lib.hid (V_z3.out.step hb)
    have B_z4 : Hid (Below w.heap.size w z4) := Lib.hid (stepB B_z3.out hb)
    have Y_z4 : Hid (MI z4 z4.heap.size A1 ys) := Lib.hid (Y_z3.out.step hb)
    have P_z4 : Hid (PL z4 z4.heap.size a4 m.props) := Lib.hid (GL.step P_z3.out hb)
    clear V_z3 B_z3 Y_z3 P_z3
    have X_z4 := Lib.hid hN
    try rw [← hvb]
    clear hHeld hb hN hz4 hvb
    refine hK.out _ _ V_z4.out (fun hHeld => ?_)
    clear hK K
    try simp only [Act.put, List.setIfInBounds_toArray, List.set_cons_zero, List.set_cons_succ]
    refine wpAnyH_take (i := 8) (v := .slice (some ⟨vb, 0, none⟩) 1 1) (get_ops _ _ _ rfl) (by kernel_rfl) (by kernel_rfl) (by kernel_rfl) (fun _ _ _ h => h) (Or.inl ⟨by rfl, fun wS hSw => by (try dsimp only at hSw); go_simp⟩) hHeld ?_
    try simp only [Act.put, List.setIfInBounds_toArray, List.set_cons_zero, List.set_cons_succ]
    refine wpAnyH_take (i := 9) (v := .bool (pol == 3)) (get_ops _ _ _ rfl) (by kernel_rfl) (by kernel_rfl) (by kernel_rfl) (fun _ _ _ h => h) (Or.inl ⟨by rfl, fun wS hSw => by (try dsimp only at hSw); go_simp⟩) hHeld ?_
    try simp only [Act.put, List.setIfInBounds_toArray, List.set_cons_zero, List.set_cons_succ]
    refine wpAnyH_done (by kernel_rfl) ?_ _
    go_wp2_with fail
    go_ret3
    exact ⟨A1, c1, ys, some ⟨vb, 0, none⟩, 1, [⟨m, a4, c4⟩], by rw [← HR.out]; simp, by rw [← HR.out, HY1.out.1], by rw [← HR.out]; rfl, HY1.out.2, by simp, Y_z4.out, mi_one X_z4.out P_z4.out, B_z4.out, HY1N.out⟩
  have q2 : (pol == 1) = false := by simp [h1]
  clear hl hpo h1
  go_upto_region 5 with fail
  clear q1 q2
  obtain ⟨z1, hz1⟩ : ∃ z1, z1 = World.drew w1 := ⟨_, rfl⟩
  have hbD : Below w1.heap.size w1 z1 := by rw [hz1]; exact (Below.refl _ _).drew
  have V_z1 : Hid (BK 25 z1 w.heap.size (msgC m am cm)) := Lib.hid (V_w1.out.step hbD)
  have B_z1 : Hid (Below w.heap.size w z1) := Lib.hid (stepB B_w1.out hbD)
  clear V_w1 B_w1
  have hbd : (fun w' => BK 25 w' w.heap.size (msgC m am cm)) (World.drew w1) := by rw [← hz1]; exact V_z1.out
  have hSD : (fun w' => BK 25 w' w.heap.size (msgC m am cm)) z1 := V_z1.out
  have HWD := Lib.hid hz1
  clear hz1 hbD
  refine wp_region_held_drew (S := fun w' => BK 25 w' w.heap.size (msgC m am cm)) (by kernel_rfl) hbd (fun hHeld => ?_)
  rw [← HWD.out]
  clear hHeld
  have hHeld := hSD
  clear hSD hbd HWD
  refine wpAnyH_take (i := 0) (v := .slice A xs.length c) (get_ops _ _ _ rfl) (by kernel_rfl) (by kernel_rfl) (by kernel_rfl) (fun _ _ _ h => h) (Or.inl ⟨by rfl, fun wS hSw => by (try dsimp only at hSw); go_simp⟩) hHeld ?_
  try simp only [Act.put, List.setIfInBounds_toArray, List.set_cons_zero, List.set_cons_succ]
  refine wpAnyH_take (i := 2) (v := (.agg #[.string m.topic, .string m.payload, .int .i64 m.level, .bool m.retain, .int .i64 m.prio, .int .i64 m.exps, .string m.frm, .int .i64 m.seq, .slice am m.props.length cm])) (get_ops _ _ _ rfl) (by kernel_rfl) (by kernel_rfl) (by kernel_rfl) (fun _ _ _ h => h) (Or.inl ⟨by rfl, fun wS hSw => by (try dsimp only at hSw); exact exec_load 25 _ rfl ⟨w.heap.size, 0, none⟩ (by go_simp) _ (S2.run_load_all hSw Try.underlying25 rfl msgSize)⟩) hHeld ?_
  try simp only [Act.put, List.setIfInBounds_toArray, List.set_cons_zero, List.set_cons_succ]
  refine wpAnyH_take (i := 5) (v := .int .i64 pol) (get_ops _ _ _ rfl) (by kernel_rfl) (by kernel_rfl) (by kernel_rfl) (fun _ _ _ h => h) (Or.inl ⟨by rfl, fun wS hSw => by (try dsimp only at hSw); go_simp⟩) hHeld ?_
  try simp only [Act.put, List.setIfInBounds_toArray, List.set_cons_zero, List.set_cons_succ]
  refine wpAnyH_take (i := 6) (v := .bool (pol == 3)) (get_ops _ _ _ rfl) (by kernel_rfl) (by kernel_rfl) (by kernel_rfl) (fun _ _ _ h => h) (Or.inl ⟨by rfl, fun wS hSw => by (try dsimp only at hSw); go_simp⟩) hHeld ?_
  try simp only [Act.put, List.setIfInBounds_toArray, List.set_cons_zero, List.set_cons_succ]
  refine wpAnyH_ready (rs := [1]) (by kernel_rfl) (by simp) ?_
  refine (AllReadyH.cons (get_ops _ _ _ rfl) (fun K hK => ?_) AllReadyH.nil)
  have hzo := B_z1.out.size
  go_simp
  refine (HCL.out A c xs z1 (HS.out.step B_z1.out) (by have := HN.out; omega) HP.out).mono ?_
  rintro e z2 ⟨v1, ys, rfl, hys, hl1, hb⟩
  have V_z2 : Hid (BK 25 z2 w.heap.size (msgC m am cm)) := Lib.hid (V_z1.out.step hb)
  have B_z2 : Hid (Below w.heap.size w z2) := Lib.hid (stepB B_z1.out hb)
  clear V_z1 B_z1
  obtain ⟨A1, c1, hv1, hc1, hmn1⟩ := lstMN hl1
  subst hv1
  have hmi1 := hmn1.1
  have HY1N : Hid (NewL w.heap.size A1) := Lib.hid (fun b o e => by have := hmn1.2.1 b o e; omega)
  clear hmn1 hzo
  have HY1 := Lib.hid (And.intro hys hc1)
  have Y_z2 := Lib.hid hmi1
  clear hl1 hys hc1 hmi1
  clear hHeld hb
  go_wp2_with fail
  refine hK.out _ _ V_z2.out (fun hHeld => ?_)
  clear hK K
  try simp only [Act.put, List.setIfInBounds_toArray, List.set_cons_zero, List.set_cons_succ]
  refine wpAnyH_ready (rs := [3]) (by kernel_rfl) (by simp) ?_
  refine (AllReadyH.cons (get_ops _ _ _ rfl) (fun K hK => ?_) AllReadyH.nil)
  go_simp
  refine (HCM.out z2 (GL.step HM.out B_z2.out) HPM.out).mono ?_
  rintro e z3 ⟨a4, c4, rfl, hpl4, hn4, hb⟩
  have V_z3 : Hid (BK 25 z3 w.heap.size (msgC m am cm)) := Lib.hid (V_z2.out.step hb)
  have B_z3 : Hid (Below w.heap.size w z3) := Lib.hid (stepB B_z2.out hb)
  have Y_z3 : Hid (MI z3 z3.heap.size A1 ys) := Lib.hid (Y_z2.out.step hb)
  clear V_z2 B_z2 Y_z2
  have P_z3 := Lib.hid hpl4
  clear hpl4 hn4
  clear hHeld hb
  go_wp2_with fail
  refine hK.out _ _ V_z3.out (fun hHeld => ?_)
  clear hK K
  try simp only [Act.put, List.setIfInBounds_toArray, List.set_cons_zero, List.set_cons_succ]
  refine wpAnyH_take (i := 7) (v := .slice A1 ys.length c1) (get_ops _ _ _ rfl) (by kernel_rfl) (by kernel_rfl) (by kernel_rfl) (fun _ _ _ h => h) (Or.inl ⟨by rfl, fun wS hSw => by (try dsimp only at hSw); go_simp⟩) hHeld ?_
  try simp only [Act.put, List.setIfInBounds_toArray, List.set_cons_zero, List.set_cons_succ]
  refine wpAnyH_ready (rs := [4]) (by kernel_rfl) (by simp) ?_
  refine (AllReadyH.cons (get_ops _ _ _ rfl) (fun K hK => ?_) AllReadyH.nil)
  simp only [msgV]
  go_simp
  obtain ⟨vb, hvb⟩ : ∃ vb, vb = z3.heap.size := ⟨_, rfl⟩
  refine name_world (C := fun w9 => K _ w9) (z3.alloc (.cells (gM (⟨m, a4, c4⟩ : ME)).toArray 25)) ?_
  intro z4 hz4
  have hb : Below z3.heap.size z3 z4 := by rw [hz4]; exact S2.below_new _ _
  have hN : BK 25 z4 vb (gM (⟨m, a4, c4⟩ : ME)) := by rw [hz4, hvb]; exact BK.new _ _ _
  have V_z4 : Hid (BK 25 z4 w.heap.size (msgC m am cm)) := Lib.hid (V_z3.out.step hb)
  have B_z4 : Hid (Below w.heap.size w z4) := Lib.hid (stepB B_z3.out hb)
  have Y_z4 : Hid (MI z4 z4.heap.size A1 ys) := Lib.hid (Y_z3.out.step hb)
  have P_z4 : Hid (PL z4 z4.heap.size a4 m.props) := Lib.hid (GL.step P_z3.out hb)
  clear V_z3 B_z3 Y_z3 P_z3
  have X_z4 := Lib.hid hN
  try rw [← hvb]
  clear hHeld hb hN hz4 hvb
  refine hK.out _ _ V_z4.out (fun hHeld => ?_)
  clear hK K
  try simp only [Act.put, List.setIfInBounds_toArray, List.set_cons_zero, List.set_cons_succ]
  refine wpAnyH_take (i := 8) (v := .slice (some ⟨vb, 0, none⟩) 1 1) (get_ops _ _ _ rfl) (by kernel_rfl) (by kernel_rfl) (by kernel_rfl) (fun _ _ _ h => h) (Or.inl ⟨by rfl, fun wS hSw => by (try dsimp only at hSw); go_simp⟩) hHeld ?_
  try simp only [Act.put, List.setIfInBounds_toArray, List.set_cons_zero, List.set_cons_succ]
  refine wpAnyH_take (i := 9) (v := .bool (pol == 3)) (get_ops _ _ _ rfl) (by kernel_rfl) (by kernel_rfl) (by kernel_rfl) (fun _ _ _ h => h) (Or.inl ⟨by rfl, fun wS hSw => by (try dsimp only at hSw); go_simp⟩) hHeld ?_
  try simp only [Act.put, List.setIfInBounds_toArray, List.set_cons_zero, List.set_cons_succ]
  refine wpAnyH_done (by kernel_rfl) ?_ _
  go_wp2_with fail
  go_ret3
  exact ⟨A1, c1, ys, some ⟨vb, 0, none⟩, 1, [⟨m, a4, c4⟩], by rw [← HR.out]; simp, by rw [← HR.out, HY1.out.1], by rw [← HR.out]; rfl, HY1.out.2, by simp, Y_z4.out, mi_one X_z4.out P_z4.out, B_z4.out, HY1N.out⟩
theorem sPush_any (A : Option Addr) (c : Nat) (xs : List ME) (m : Msg) (am : Option Addr) (cm : Nat) (mx pol : Int) (w : World) (hsl : MI w w.heap.size A xs) (hm : PL w w.heap.size am m.props) (hc : xs.length ≤ c) (hn : xs.length ≤ 90000) (hp : ∀ x ∈ xs, x.m.props.length ≤ 4398046511104) (hpm : m.props.length ≤ 4398046511104) :
    Calls Try.prog 11 #[.slice A xs.length c, msgV m am cm, .int .i64 mx, .int .i64 pol] w (RetPu (pushR (xs.map ME.m) m mx pol) w) := (sPushN_any A c xs m am cm mx pol w hsl hm hc hn hp hpm).mono fun _ _ h => h.weak
end Go.Proofs.Ytgnbiicfabldbab
