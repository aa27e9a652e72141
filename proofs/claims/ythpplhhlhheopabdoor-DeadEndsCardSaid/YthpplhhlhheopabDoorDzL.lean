/-
  What DeadReasons, DeadReads and DeadMarks answer: true. Conditions: the properties read as data; texts fit; the library's tables and errors are laid.
-/
import Derived.Test.YthpplhhlhheopabDoorDzK
namespace Go.Proofs.YthpplhhlhheopabDoor
open Go.RowKit
open S2 (BK Put get_ops)

/-- what a queue's name, a message and a reason must be for a mark -/
def fitsR (q : ByteArray) (m : Msg) (r : Int) : Bool := nameR q && decide (checkR m = 0) && decide (1 ≤ r) && decide (r ≤ 4)
theorem fits_parts {q : ByteArray} {m : Msg} {r : Int} (h : fitsR q m r = true) : nameR q = true ∧ checkR m = 0 ∧ ∃ n : Nat, r = (n : Int) ∧ 1 ≤ n ∧ n ≤ 4 := by
  unfold fitsR at h
  simp only [Bool.and_eq_true, decide_eq_true_eq] at h
  exact ⟨h.1.1.1, h.1.1.2, r.toNat, by omega, by omega, by omega⟩
set_option maxHeartbeats 4000000 in
theorem fits_any (q : ByteArray) (m : Msg) (r : Int) (A : Option Addr) (c : Nat) (w : World) (hsl : PL w w.heap.size A m.props) (hq : q.size ≤ 9223372036854775807) (ht : m.topic.size ≤ 9223372036854775807) (hf : m.frm.size ≤ 9223372036854775807) (hz : ∀ x ∈ m.props, x.1.size ≤ 9223372036854775807) :
    Calls Tryd.prog 17 #[.string q, msgV m A c, .int .i64 r] w fun e w' => e = .returned (.bool (fitsR q m r)) ∧ Below w.heap.size w w' := by
  have HN := Lib.hid (fun w1 => rName_b q w1 hq)
  have HC := Lib.hid (fun w1 h => rCheck_any m A c w1 h ht hf hz)
  have HS := Lib.hid hsl
  unfold fitsR nameR
  obtain ⟨b1, hb1⟩ : ∃ b, S1.T.nameL q.data.toList = b := ⟨_, rfl⟩
  obtain ⟨ck, hck⟩ : ∃ k, checkR m = k := ⟨_, rfl⟩
  rw [hb1] at HN
  rw [hck] at HC
  rw [hb1, hck]
  clear hsl hq ht hf hz hb1 hck
  have HV : Hid (msgV m A c = .agg (msgC m A c).toArray) := Lib.hid rfl
  rw [HV.out] at HC ⊢
  have g1 : ∀ x y : Int, decide (x ≥ y) = decide (y ≤ x) := fun _ _ => rfl
  go_enter Tryd.func17, Tryd.ntmps17
  go_upto_region 1 with fail
  refine name_world (C := fun w1 => Code.wp _ _ _ _ w1) (w.alloc (.cells (msgC m A c).toArray 26)) ?_
  intro w1 hw1
  have hb1 : Below w.heap.size w w1 := by rw [hw1]; exact S2.below_new w _
  have B_w1 := Lib.hid hb1
  have P_w1 : Hid (PL w1 w1.heap.size A m.props) := Lib.hid (GL.step HS.out hb1)
  have V_w1 : Hid (BK 26 w1 w.heap.size (msgC m A c)) := Lib.hid (by rw [hw1]; exact BK.new w _ _)
  clear hw1 hb1
  go_wp2_with fail
  refine (HN.out w1).mono ?_
  rintro e w2 ⟨rfl, hb⟩
  have B_w2 := Lib.hid (stepB B_w1.out hb)
  have P_w2 := Lib.hid (GL.step P_w1.out hb)
  have V_w2 := Lib.hid (V_w1.out.step hb)
  clear hb
  cases b1 with
  | false =>
    go_wp2
    go_ret
    exact ⟨by simp, B_w2.out⟩
  | true =>
    have HLM := Lib.hid (load_ms V_w2.out)
    rw [HV.out] at HLM
    go_wp2_with first
      | (refine wpList_load_v (by rfl) 26 _ rfl ⟨w.heap.size, 0, none⟩ (by first | rfl | go_simp) _ HLM.out ?_)
    refine (HC.out w2 P_w2.out).mono ?_
    rintro e w3 ⟨rfl, hb⟩
    have B_w3 := Lib.hid (stepB B_w2.out hb)
    clear hb HLM
    by_cases h0 : ck = 0
    · have q0 : ((ck : Int) == 0) = true := by simp [h0]
      by_cases h1 : 1 ≤ r
      · have q1 : decide (1 ≤ r) = true := decide_eq_true h1
        go_wp2
        go_ret
        exact ⟨by simp [h0, h1], B_w3.out⟩
      · have q1 : decide (1 ≤ r) = false := decide_eq_false h1
        go_wp2
        go_ret
        exact ⟨by simp [h0]; omega, B_w3.out⟩
    · have q0 : ((ck : Int) == 0) = false := by simp; omega
      go_wp2
      go_ret
      exact ⟨by simp [h0], B_w3.out⟩

set_option maxRecDepth 20000 in
set_option maxHeartbeats 8000000 in
theorem deadReasons_walk (s : Sp) (k r t : Int) (m : Msg) (a : Option Addr) (c : Nat) (now : Int) (w : World) (hw : Okd w) (hz : s.name.size ≤ 9223372036854775807 ∧ s.dead.size ≤ 9223372036854775807) :
    Calls Tryd.prog 3 #[spV s, enV k r t m a c, .int .i64 now] w fun e w' => e = .returned (.bool true) ∧ Below w.heap.size w w' := by
  have HO := Lib.hid hw
  have HX := Lib.hid (fun w1 h => exHolds_any w1 h)
  have HC := Lib.hid (fun w1 => rqCheck_any s w1 hz)
  have HSP := Lib.hid (@specR_parts s)
  have HDR := Lib.hid (fun w1 h1 h2 => dReason_any s k r t m a c now w1 h1 h2)
  have HRR := Lib.hid (fun w1 h1 h2 => rReason_any s k r t m a c now w1 h1 h2)
  obtain ⟨ck, hck⟩ : ∃ k, specR s = k := ⟨_, rfl⟩
  rw [hck] at HC HSP
  obtain ⟨R, hR⟩ : ∃ R, reasonR s r t m now = R := ⟨_, rfl⟩
  rw [hR] at HDR HRR
  clear hw hz hck hR
  have HSV : Hid (spV s = .agg (spC s).toArray) := Lib.hid rfl
  have HEV : Hid (enV k r t m a c = .agg (enC k r t m a c).toArray) := Lib.hid rfl
  rw [HSV.out] at HC HDR HRR ⊢
  rw [HEV.out] at HDR HRR ⊢
  go_enter Tryd.func3, Tryd.ntmps3
  go_upto_region 1 with fail
  refine name_world (C := fun w1 => Code.wp _ _ _ _ w1) ((w.alloc (.cells (spC s).toArray 23)).alloc (.cells (enC k r t m a c).toArray 28)) ?_
  intro w1 hw1
  have hb1 : Below w.heap.size w w1 := by rw [hw1]; exact stepB (S2.below_new w _) (S2.below_new _ _)
  have S_w1 : Hid (BK 23 w1 w.heap.size (spC s)) := Lib.hid (by rw [hw1]; exact BK.alloc (BK.new w _ _) _)
  have E_w1 : Hid (BK 28 w1 (w.heap.size + 1) (enC k r t m a c)) := Lib.hid (by rw [hw1]; exact bk_new1 w _ _ _)
  have B_w1 := Lib.hid hb1
  clear hw1 hb1
  have HL1 := Lib.hid (load_sp S_w1.out)
  rw [HSV.out] at HL1
  go_wp2_with first
    | (refine wpList_load_v (by rfl) 23 _ rfl ⟨w.heap.size, 0, none⟩ (by first | rfl | go_simp) _ HL1.out ?_)
  refine (HC.out w1).mono ?_
  rintro e w2 ⟨rfl, hb⟩
  have S_w2 := Lib.hid (S_w1.out.step hb)
  have E_w2 := Lib.hid (E_w1.out.step hb)
  have B_w2 := Lib.hid (stepB B_w1.out hb)
  have d1 : w2.cell? ⟨w.heap.size + 1, 1, none⟩ = some (.int .i64 r) := E_w2.out.cell 1 rfl
  clear hb HL1 S_w1 E_w1 B_w1
  by_cases h0 : ck = 0
  case neg =>
    have q0 : ((ck : Int) != 0) = true := by rw [bne_iff_ne]; omega
    clear h0 d1
    go_wp2_with fail
    refine (HX.out w2 (HO.out.step B_w2.out)).mono ?_
    rintro e w3 ⟨rfl, hb⟩
    have B_w3 := Lib.hid (stepB B_w2.out hb)
    clear hb
    go_wp2
    go_ret
    exact ⟨rfl, B_w3.out⟩
  have q0 : ((ck : Int) != 0) = false := by simp [h0]
  by_cases h1 : r < 0
  · have q1 : decide (r < 0) = true := decide_eq_true h1
    clear h0 h1
    go_wp2_with fail
    refine (HX.out w2 (HO.out.step B_w2.out)).mono ?_
    rintro e w3 ⟨rfl, hb⟩
    have B_w3 := Lib.hid (stepB B_w2.out hb)
    clear hb
    go_wp2
    go_ret
    exact ⟨rfl, B_w3.out⟩
  have q1 : decide (r < 0) = false := decide_eq_false h1
  by_cases h2 : 1099511627776 < r
  · have q2 : decide ((1099511627776 : Int) < r) = true := decide_eq_true h2
    clear h0 h1 h2
    go_wp2_with fail
    refine (HX.out w2 (HO.out.step B_w2.out)).mono ?_
    rintro e w3 ⟨rfl, hb⟩
    have B_w3 := Lib.hid (stepB B_w2.out hb)
    clear hb
    go_wp2
    go_ret
    exact ⟨rfl, B_w3.out⟩
  have q2 : decide ((1099511627776 : Int) < r) = false := decide_eq_false h2
  by_cases h3 : now < 0
  · have q3 : decide (now < 0) = true := decide_eq_true h3
    clear h0 h1 h2 h3
    go_wp2_with fail
    refine (HX.out w2 (HO.out.step B_w2.out)).mono ?_
    rintro e w3 ⟨rfl, hb⟩
    have B_w3 := Lib.hid (stepB B_w2.out hb)
    clear hb
    go_wp2
    go_ret
    exact ⟨rfl, B_w3.out⟩
  have q3 : decide (now < 0) = false := decide_eq_false h3
  by_cases h4 : 1099511627776 < now
  · have q4 : decide ((1099511627776 : Int) < now) = true := decide_eq_true h4
    clear h0 h1 h2 h3 h4
    go_wp2_with fail
    refine (HX.out w2 (HO.out.step B_w2.out)).mono ?_
    rintro e w3 ⟨rfl, hb⟩
    have B_w3 := Lib.hid (stepB B_w2.out hb)
    clear hb
    go_wp2
    go_ret
    exact ⟨rfl, B_w3.out⟩
  have q4 : decide ((1099511627776 : Int) < now) = false := decide_eq_false h4
  have HTB := Lib.hid (HSP.out h0).2.2.1
  have HRB : Hid (0 ≤ r ∧ r ≤ 1099511627776) := Lib.hid ⟨by omega, by omega⟩
  clear h0 h1 h2 h3 h4
  go_upto_region 3 with fail
  clear d1 q0 q1 q2 q3 q4
  obtain ⟨y1, hy1⟩ : ∃ y1, y1 = World.drew w2 := ⟨_, rfl⟩
  have hbD : Below w2.heap.size w2 y1 := by rw [hy1]; exact (Below.refl _ _).drew
  have S_y1 : Hid (BK 23 y1 w.heap.size (spC s)) := Lib.hid (S_w2.out.step hbD)
  have E_y1 : Hid (BK 28 y1 (w.heap.size + 1) (enC k r t m a c)) := Lib.hid (E_w2.out.step hbD)
  have B_y1 : Hid (Below w.heap.size w y1) := Lib.hid (stepB B_w2.out hbD)
  clear S_w2 E_w2 B_w2
  have hbd : (fun w' => BK 23 w' w.heap.size (spC s) ∧ BK 28 w' (w.heap.size + 1) (enC k r t m a c)) (World.drew w2) := by rw [← hy1]; exact ⟨S_y1.out, E_y1.out⟩
  have hSD : (fun w' => BK 23 w' w.heap.size (spC s) ∧ BK 28 w' (w.heap.size + 1) (enC k r t m a c)) y1 := ⟨S_y1.out, E_y1.out⟩
  have HWD := Lib.hid hy1
  clear hy1 hbD
  refine wp_region_held_drew (S := fun w' => BK 23 w' w.heap.size (spC s) ∧ BK 28 w' (w.heap.size + 1) (enC k r t m a c)) (by kernel_rfl) hbd (fun hHeld => ?_)
  rw [← HWD.out]
  clear hHeld
  have hHeld := hSD
  clear hSD hbd HWD
  refine wpAnyH_take (i := 0) (v := (.agg (spC s).toArray)) (get_ops _ _ _ rfl) (by kernel_rfl) (by kernel_rfl) (by kernel_rfl) (fun _ _ _ h => h) (Or.inl ⟨by rfl, fun wS hSw => by (try dsimp only at hSw); exact exec_load 23 _ rfl ⟨w.heap.size, 0, none⟩ (by go_simp) _ (load_sp hSw.1)⟩) hHeld ?_
  try simp only [Act.put, List.setIfInBounds_toArray, List.set_cons_zero, List.set_cons_succ]
  refine wpAnyH_take (i := 1) (v := (.agg (enC k r t m a c).toArray)) (get_ops _ _ _ rfl) (by kernel_rfl) (by kernel_rfl) (by kernel_rfl) (fun _ _ _ h => h) (Or.inl ⟨by rfl, fun wS hSw => by (try dsimp only at hSw); exact exec_load 28 _ rfl ⟨w.heap.size + 1, 0, none⟩ (by go_simp) _ (load_en hSw.2)⟩) hHeld ?_
  try simp only [Act.put, List.setIfInBounds_toArray, List.set_cons_zero, List.set_cons_succ]
  refine wpAnyH_take (i := 2) (v := .int .i64 now) (get_ops _ _ _ rfl) (by kernel_rfl) (by kernel_rfl) (by kernel_rfl) (fun _ _ _ h => h) (Or.inl ⟨by rfl, fun wS hSw => by (try dsimp only at hSw); go_simp⟩) hHeld ?_
  try simp only [Act.put, List.setIfInBounds_toArray, List.set_cons_zero, List.set_cons_succ]
  refine wpAnyH_take (i := 4) (v := (.agg (spC s).toArray)) (get_ops _ _ _ rfl) (by kernel_rfl) (by kernel_rfl) (by kernel_rfl) (fun _ _ _ h => h) (Or.inl ⟨by rfl, fun wS hSw => by (try dsimp only at hSw); exact exec_load 23 _ rfl ⟨w.heap.size, 0, none⟩ (by go_simp) _ (load_sp hSw.1)⟩) hHeld ?_
  try simp only [Act.put, List.setIfInBounds_toArray, List.set_cons_zero, List.set_cons_succ]
  refine wpAnyH_take (i := 5) (v := (.agg (enC k r t m a c).toArray)) (get_ops _ _ _ rfl) (by kernel_rfl) (by kernel_rfl) (by kernel_rfl) (fun _ _ _ h => h) (Or.inl ⟨by rfl, fun wS hSw => by (try dsimp only at hSw); exact exec_load 28 _ rfl ⟨w.heap.size + 1, 0, none⟩ (by go_simp) _ (load_en hSw.2)⟩) hHeld ?_
  try simp only [Act.put, List.setIfInBounds_toArray, List.set_cons_zero, List.set_cons_succ]
  refine wpAnyH_take (i := 6) (v := .int .i64 now) (get_ops _ _ _ rfl) (by kernel_rfl) (by kernel_rfl) (by kernel_rfl) (fun _ _ _ h => h) (Or.inl ⟨by rfl, fun wS hSw => by (try dsimp only at hSw); go_simp⟩) hHeld ?_
  try simp only [Act.put, List.setIfInBounds_toArray, List.set_cons_zero, List.set_cons_succ]
  refine wpAnyH_ready (rs := [3]) (by kernel_rfl) (by simp) ?_
  refine (AllReadyH.cons (get_ops _ _ _ rfl) (fun K hK => ?_) AllReadyH.nil)
  go_simp
  refine (HDR.out y1 HTB.out HRB.out).mono ?_
  rintro e y2 ⟨rfl, hb⟩
  have S_y2 : Hid (BK 23 y2 w.heap.size (spC s)) := Lib.hid (S_y1.out.step hb)
  have E_y2 : Hid (BK 28 y2 (w.heap.size + 1) (enC k r t m a c)) := Lib.hid (E_y1.out.step hb)
  have B_y2 : Hid (Below w.heap.size w y2) := Lib.hid (stepB B_y1.out hb)
  clear S_y1 E_y1 B_y1
  clear hHeld hb
  go_wp2_with fail
  refine hK.out _ _ ⟨S_y2.out, E_y2.out⟩ (fun hHeld => ?_)
  clear hK K
  try simp only [Act.put, List.setIfInBounds_toArray, List.set_cons_zero, List.set_cons_succ]
  refine wpAnyH_ready (rs := [7]) (by kernel_rfl) (by simp) ?_
  refine (AllReadyH.cons (get_ops _ _ _ rfl) (fun K hK => ?_) AllReadyH.nil)
  go_simp
  refine (HRR.out y2 HTB.out HRB.out).mono ?_
  rintro e y3 ⟨rfl, hb⟩
  have S_y3 : Hid (BK 23 y3 w.heap.size (spC s)) := Lib.hid (S_y2.out.step hb)
  have E_y3 : Hid (BK 28 y3 (w.heap.size + 1) (enC k r t m a c)) := Lib.hid (E_y2.out.step hb)
  have B_y3 : Hid (Below w.heap.size w y3) := Lib.hid (stepB B_y2.out hb)
  clear S_y2 E_y2 B_y2
  clear hHeld hb
  go_wp2_with fail
  refine hK.out _ _ ⟨S_y3.out, E_y3.out⟩ (fun hHeld => ?_)
  clear hK K
  try simp only [Act.put, List.setIfInBounds_toArray, List.set_cons_zero, List.set_cons_succ]
  refine wpAnyH_take (i := 8) (v := .bool true) (get_ops _ _ _ rfl) (by kernel_rfl) (by kernel_rfl) (by kernel_rfl) (fun _ _ _ h => h) (Or.inl ⟨by rfl, fun wS hSw => by (try dsimp only at hSw); go_simp⟩) hHeld ?_
  try simp only [Act.put, List.setIfInBounds_toArray, List.set_cons_zero, List.set_cons_succ]
  refine wpAnyH_take (i := 9) (v := .bool true) (get_ops _ _ _ rfl) (by kernel_rfl) (by kernel_rfl) (by kernel_rfl) (fun _ _ _ h => h) (Or.inl ⟨by rfl, fun wS hSw => by (try dsimp only at hSw); go_simp⟩) hHeld ?_
  try simp only [Act.put, List.setIfInBounds_toArray, List.set_cons_zero, List.set_cons_succ]
  refine wpAnyH_ready (rs := [10]) (by kernel_rfl) (by simp) ?_
  refine (AllReadyH.cons (get_ops _ _ _ rfl) (fun K hK => ?_) AllReadyH.nil)
  go_simp
  refine (HX.out y3 (HO.out.step B_y3.out)).mono ?_
  rintro e y4 ⟨rfl, hb⟩
  have S_y4 : Hid (BK 23 y4 w.heap.size (spC s)) := Lib.hid (S_y3.out.step hb)
  have E_y4 : Hid (BK 28 y4 (w.heap.size + 1) (enC k r t m a c)) := Lib.hid (E_y3.out.step hb)
  have B_y4 : Hid (Below w.heap.size w y4) := Lib.hid (stepB B_y3.out hb)
  clear S_y3 E_y3 B_y3
  clear hHeld hb
  go_wp2_with fail
  refine hK.out _ _ ⟨S_y4.out, E_y4.out⟩ (fun hHeld => ?_)
  clear hK K
  try simp only [Act.put, List.setIfInBounds_toArray, List.set_cons_zero, List.set_cons_succ]
  refine wpAnyH_take (i := 11) (v := .bool true) (get_ops _ _ _ rfl) (by kernel_rfl) (by kernel_rfl) (by kernel_rfl) (fun _ _ _ h => h) (Or.inl ⟨by rfl, fun wS hSw => by (try dsimp only at hSw); go_simp⟩) hHeld ?_
  try simp only [Act.put, List.setIfInBounds_toArray, List.set_cons_zero, List.set_cons_succ]
  refine wpAnyH_take (i := 12) (v := .bool true) (get_ops _ _ _ rfl) (by kernel_rfl) (by kernel_rfl) (by kernel_rfl) (fun _ _ _ h => h) (Or.inl ⟨by rfl, fun wS hSw => by (try dsimp only at hSw); go_simp⟩) hHeld ?_
  try simp only [Act.put, List.setIfInBounds_toArray, List.set_cons_zero, List.set_cons_succ]
  refine wpAnyH_done (by kernel_rfl) ?_ _
  go_wp2
  go_ret
  exact ⟨rfl, B_y4.out⟩

set_option maxRecDepth 20000 in
set_option maxHeartbeats 8000000 in
theorem deadMarks_walk (q : ByteArray) (m : Msg) (a : Option Addr) (c : Nat) (r : Int) (w : World) (hw : Okd w) (hsl : PL w w.heap.size a m.props) (hq : q.size ≤ 9223372036854775807) (ht : m.topic.size ≤ 9223372036854775807) (hf : m.frm.size ≤ 9223372036854775807) (hz : ∀ x ∈ m.props, x.1.size ≤ 9223372036854775807) :
    Calls Tryd.prog 5 #[.string q, msgV m a c, .int .i64 r] w fun e w' => e = .returned (.bool true) ∧ Below w.heap.size w w' := by
  have HO := Lib.hid hw
  have HS := Lib.hid hsl
  have HX := Lib.hid (fun w1 h => exHolds_any w1 h)
  have HFT := Lib.hid (fun w1 h => fits_any q m r a c w1 h hq ht hf hz)
  obtain ⟨bf, hbf⟩ : ∃ b, fitsR q m r = b := ⟨_, rfl⟩
  rw [hbf] at HFT
  have HBF := Lib.hid hbf
  clear hw hsl hq ht hf hz hbf
  have HV : Hid (msgV m a c = .agg (msgC m a c).toArray) := Lib.hid rfl
  rw [HV.out] at HFT ⊢
  go_enter Tryd.func5, Tryd.ntmps5
  go_upto_region 1 with fail
  refine name_world (C := fun w1 => Code.wp _ _ _ _ w1) (w.alloc (.cells (msgC m a c).toArray 26)) ?_
  intro w1 hw1
  have hb1 : Below w.heap.size w w1 := by rw [hw1]; exact S2.below_new w _
  have B_w1 := Lib.hid hb1
  have P_w1 : Hid (PL w1 w1.heap.size a m.props) := Lib.hid (GL.step HS.out hb1)
  have V_w1 : Hid (BK 26 w1 w.heap.size (msgC m a c)) := Lib.hid (by rw [hw1]; exact BK.new w _ _)
  clear hw1 hb1
  have HLM := Lib.hid (load_ms V_w1.out)
  rw [HV.out] at HLM
  go_wp2_with first
    | (refine wpList_load_v (by rfl) 26 _ rfl ⟨w.heap.size, 0, none⟩ (by first | rfl | go_simp) _ HLM.out ?_)
  refine (HFT.out w1 P_w1.out).mono ?_
  rintro e w2 ⟨rfl, hb⟩
  have B_w2 := Lib.hid (stepB B_w1.out hb)
  have P_w2 := Lib.hid (GL.step P_w1.out hb)
  have V_w2 := Lib.hid (V_w1.out.step hb)
  clear hb HLM B_w1 P_w1 V_w1
  cases bf with
  | false =>
    go_wp2_with fail
    refine (HX.out w2 (HO.out.step B_w2.out)).mono ?_
    rintro e w3 ⟨rfl, hb⟩
    have B_w3 := Lib.hid (stepB B_w2.out hb)
    clear hb
    go_wp2
    go_ret
    exact ⟨rfl, B_w3.out⟩
  | true =>
    obtain ⟨hnm, hck, n, hr, hn1, hn4⟩ := fits_parts HBF.out
    subst hr
    have HM1 := Lib.hid (fun w1 h h1 => dMark_any q m n a c w1 h h1 hck hnm (by omega))
    have HM2 := Lib.hid (fun w1 h h1 => rMark_any q m n a c w1 h h1 hck hnm (by omega))
    have hl8 := (propsR_parts (checkR_parts (markR_ok (r := n) hck hnm))).1
    have HSM := Lib.hid (fun a1 c1 a2 c2 w1 h1 h2 => rSame_any (markR q m n) (markR q m n) a1 a2 c1 c2 w1 h1 h2 (by omega))
    have HSE : Hid (sameM (markR q m n) (markR q m n) = true) := Lib.hid (by unfold sameM; exact decide_eq_true rfl)
    rw [HSE.out] at HSM
    generalize markR q m n = M at HM1 HM2 HSM
    rw [HV.out] at HM1 HM2
    clear HBF hnm hck hn1 hn4 hl8 HSE
    go_upto_region 3 with fail
    obtain ⟨y1, hy1⟩ : ∃ y1, y1 = World.drew w2 := ⟨_, rfl⟩
    have hbD : Below w2.heap.size w2 y1 := by rw [hy1]; exact (Below.refl _ _).drew
    have V_y1 : Hid (BK 26 y1 w.heap.size (msgC m a c)) := Lib.hid (V_w2.out.step hbD)
    have P_y1 : Hid (PL y1 y1.heap.size a m.props) := Lib.hid (GL.step P_w2.out hbD)
    have B_y1 : Hid (Below w.heap.size w y1) := Lib.hid (stepB B_w2.out hbD)
    clear V_w2 P_w2 B_w2
    have hbd : (fun w' => BK 26 w' w.heap.size (msgC m a c)) (World.drew w2) := by rw [← hy1]; exact V_y1.out
    have hSD : (fun w' => BK 26 w' w.heap.size (msgC m a c)) y1 := V_y1.out
    have HWD := Lib.hid hy1
    clear hy1 hbD
    refine wp_region_held_drew (S := fun w' => BK 26 w' w.heap.size (msgC m a c)) (by kernel_rfl) hbd (fun hHeld => ?_)
    rw [← HWD.out]
    clear hHeld
    have hHeld := hSD
    clear hSD hbd HWD
    refine wpAnyH_take (i := 0) (v := .string q) (get_ops _ _ _ rfl) (by kernel_rfl) (by kernel_rfl) (by kernel_rfl) (fun _ _ _ h => h) (Or.inl ⟨by rfl, fun wS hSw => by (try dsimp only at hSw); go_simp⟩) hHeld ?_
    try simp only [Act.put, List.setIfInBounds_toArray, List.set_cons_zero, List.set_cons_succ]
    refine wpAnyH_take (i := 1) (v := (.agg (msgC m a c).toArray)) (get_ops _ _ _ rfl) (by kernel_rfl) (by kernel_rfl) (by kernel_rfl) (fun _ _ _ h => h) (Or.inl ⟨by rfl, fun wS hSw => by (try dsimp only at hSw); exact exec_load 26 _ rfl ⟨w.heap.size, 0, none⟩ (by go_simp) _ (load_ms hSw)⟩) hHeld ?_
    try simp only [Act.put, List.setIfInBounds_toArray, List.set_cons_zero, List.set_cons_succ]
    refine wpAnyH_take (i := 2) (v := .int .i64 (n : Int)) (get_ops _ _ _ rfl) (by kernel_rfl) (by kernel_rfl) (by kernel_rfl) (fun _ _ _ h => h) (Or.inl ⟨by rfl, fun wS hSw => by (try dsimp only at hSw); go_simp⟩) hHeld ?_
    try simp only [Act.put, List.setIfInBounds_toArray, List.set_cons_zero, List.set_cons_succ]
    refine wpAnyH_take (i := 4) (v := .string q) (get_ops _ _ _ rfl) (by kernel_rfl) (by kernel_rfl) (by kernel_rfl) (fun _ _ _ h => h) (Or.inl ⟨by rfl, fun wS hSw => by (try dsimp only at hSw); go_simp⟩) hHeld ?_
    try simp only [Act.put, List.setIfInBounds_toArray, List.set_cons_zero, List.set_cons_succ]
    refine wpAnyH_take (i := 5) (v := (.agg (msgC m a c).toArray)) (get_ops _ _ _ rfl) (by kernel_rfl) (by kernel_rfl) (by kernel_rfl) (fun _ _ _ h => h) (Or.inl ⟨by rfl, fun wS hSw => by (try dsimp only at hSw); exact exec_load 26 _ rfl ⟨w.heap.size, 0, none⟩ (by go_simp) _ (load_ms hSw)⟩) hHeld ?_
    try simp only [Act.put, List.setIfInBounds_toArray, List.set_cons_zero, List.set_cons_succ]
    refine wpAnyH_take (i := 6) (v := .int .i64 (n : Int)) (get_ops _ _ _ rfl) (by kernel_rfl) (by kernel_rfl) (by kernel_rfl) (fun _ _ _ h => h) (Or.inl ⟨by rfl, fun wS hSw => by (try dsimp only at hSw); go_simp⟩) hHeld ?_
    try simp only [Act.put, List.setIfInBounds_toArray, List.set_cons_zero, List.set_cons_succ]
    refine wpAnyH_ready (rs := [3]) (by kernel_rfl) (by simp) ?_
    refine (AllReadyH.cons (get_ops _ _ _ rfl) (fun K hK => ?_) AllReadyH.nil)
    go_simp
    refine (HM1.out y1 (HO.out.step B_y1.out) P_y1.out).mono ?_
    rintro e y2 ⟨a1, c1, rfl, hpl, hnw, hb⟩
    have V_y2 : Hid (BK 26 y2 w.heap.size (msgC m a c)) := Lib.hid (V_y1.out.step hb)
    have P_y2 : Hid (PL y2 y2.heap.size a m.props) := Lib.hid (GL.step P_y1.out hb)
    have B_y2 : Hid (Below w.heap.size w y2) := Lib.hid (stepB B_y1.out hb)
    clear V_y1 P_y1 B_y1
    have Q1_y2 : Hid (PL y2 y2.heap.size a1 M.props) := Lib.hid hpl
    clear hpl hnw
    clear hHeld hb
    go_wp2_with fail
    refine hK.out _ _ V_y2.out (fun hHeld => ?_)
    clear hK K
    try simp only [Act.put, List.setIfInBounds_toArray, List.set_cons_zero, List.set_cons_succ]
    refine wpAnyH_ready (rs := [7]) (by kernel_rfl) (by simp) ?_
    refine (AllReadyH.cons (get_ops _ _ _ rfl) (fun K hK => ?_) AllReadyH.nil)
    go_simp
    refine (HM2.out y2 (HO.out.step B_y2.out) P_y2.out).mono ?_
    rintro e y3 ⟨a2, c2, rfl, hpl, hnw, hb⟩
    have V_y3 : Hid (BK 26 y3 w.heap.size (msgC m a c)) := Lib.hid (V_y2.out.step hb)
    have P_y3 : Hid (PL y3 y3.heap.size a m.props) := Lib.hid (GL.step P_y2.out hb)
    have B_y3 : Hid (Below w.heap.size w y3) := Lib.hid (stepB B_y2.out hb)
    have Q1_y3 : Hid (PL y3 y3.heap.size a1 M.props) := Lib.hid (GL.step Q1_y2.out hb)
    clear V_y2 P_y2 B_y2 Q1_y2
    have Q2_y3 : Hid (PL y3 y3.heap.size a2 M.props) := Lib.hid hpl
    clear hpl hnw
    clear hHeld hb
    go_wp2_with fail
    refine hK.out _ _ V_y3.out (fun hHeld => ?_)
    clear hK K
    try simp only [Act.put, List.setIfInBounds_toArray, List.set_cons_zero, List.set_cons_succ]
    refine wpAnyH_ready (rs := [8]) (by kernel_rfl) (by simp) ?_
    refine (AllReadyH.cons (get_ops _ _ _ rfl) (fun K hK => ?_) AllReadyH.nil)
    go_simp
    refine (HSM.out a1 c1 a2 c2 y3 Q1_y3.out Q2_y3.out).mono ?_
    rintro e y4 ⟨rfl, hb⟩
    have V_y4 : Hid (BK 26 y4 w.heap.size (msgC m a c)) := Lib.hid (V_y3.out.step hb)
    have P_y4 : Hid (PL y4 y4.heap.size a m.props) := Lib.hid (GL.step P_y3.out hb)
    have B_y4 : Hid (Below w.heap.size w y4) := Lib.hid (stepB B_y3.out hb)
    have Q1_y4 : Hid (PL y4 y4.heap.size a1 M.props) := Lib.hid (GL.step Q1_y3.out hb)
    have Q2_y4 : Hid (PL y4 y4.heap.size a2 M.props) := Lib.hid (GL.step Q2_y3.out hb)
    clear V_y3 P_y3 B_y3 Q1_y3 Q2_y3
    clear hHeld hb
    go_wp2_with fail
    refine hK.out _ _ V_y4.out (fun hHeld => ?_)
    clear hK K
    try simp only [Act.put, List.setIfInBounds_toArray, List.set_cons_zero, List.set_cons_succ]
    refine wpAnyH_take (i := 9) (v := .bool true) (get_ops _ _ _ rfl) (by kernel_rfl) (by kernel_rfl) (by kernel_rfl) (fun _ _ _ h => h) (Or.inl ⟨by rfl, fun wS hSw => by (try dsimp only at hSw); go_simp⟩) hHeld ?_
    try simp only [Act.put, List.setIfInBounds_toArray, List.set_cons_zero, List.set_cons_succ]
    refine wpAnyH_ready (rs := [10]) (by kernel_rfl) (by simp) ?_
    refine (AllReadyH.cons (get_ops _ _ _ rfl) (fun K hK => ?_) AllReadyH.nil)
    go_simp
    refine (HX.out y4 (HO.out.step B_y4.out)).mono ?_
    rintro e y5 ⟨rfl, hb⟩
    have V_y5 : Hid (BK 26 y5 w.heap.size (msgC m a c)) := Lib.hid (V_y4.out.step hb)
    have P_y5 : Hid (PL y5 y5.heap.size a m.props) := Lib.hid (GL.step P_y4.out hb)
    have B_y5 : Hid (Below w.heap.size w y5) := Lib.hid (stepB B_y4.out hb)
    have Q1_y5 : Hid (PL y5 y5.heap.size a1 M.props) := Lib.hid (GL.step Q1_y4.out hb)
    have Q2_y5 : Hid (PL y5 y5.heap.size a2 M.props) := Lib.hid (GL.step Q2_y4.out hb)
    clear V_y4 P_y4 B_y4 Q1_y4 Q2_y4
    clear hHeld hb
    go_wp2_with fail
    refine hK.out _ _ V_y5.out (fun hHeld => ?_)
    clear hK K
    try simp only [Act.put, List.setIfInBounds_toArray, List.set_cons_zero, List.set_cons_succ]
    refine wpAnyH_take (i := 11) (v := .bool true) (get_ops _ _ _ rfl) (by kernel_rfl) (by kernel_rfl) (by kernel_rfl) (fun _ _ _ h => h) (Or.inl ⟨by rfl, fun wS hSw => by (try dsimp only at hSw); go_simp⟩) hHeld ?_
    try simp only [Act.put, List.setIfInBounds_toArray, List.set_cons_zero, List.set_cons_succ]
    refine wpAnyH_take (i := 12) (v := .bool true) (get_ops _ _ _ rfl) (by kernel_rfl) (by kernel_rfl) (by kernel_rfl) (fun _ _ _ h => h) (Or.inl ⟨by rfl, fun wS hSw => by (try dsimp only at hSw); go_simp⟩) hHeld ?_
    try simp only [Act.put, List.setIfInBounds_toArray, List.set_cons_zero, List.set_cons_succ]
    refine wpAnyH_done (by kernel_rfl) ?_ _
    go_wp2
    go_ret
    exact ⟨rfl, B_y5.out⟩

end Go.Proofs.YthpplhhlhheopabDoor
