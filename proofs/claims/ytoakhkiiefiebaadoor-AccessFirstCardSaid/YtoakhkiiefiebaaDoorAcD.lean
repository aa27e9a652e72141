/-
  What the closures of access, IndexFunc of slices over rules, first, Allowed and Subscribes answer. Conditions: the list reads as data; the client and the user have at most 64 bytes, each filter at most 1000; the library's bound on short texts holds a number.
-/
import Derived.Test.YtoakhkiiefiebaaDoorAcC
namespace Go.Proofs.YtoakhkiiefiebaaDoor.S1
open Go.RowKit
open S2 (BK Put get_ops exec_load)

theorem al1_any (s o : ByteArray) (g : Nat) (w : World) (hw : Okw w) (hc : w.cell? ⟨g, 0, none⟩ = some (.string o)) :
    Calls Tryd.prog 35 #[.string s, .pointer (some ⟨g, 0, none⟩)] w fun e w' => e = .returned (.bool (matchesL s o)) ∧ Below w.heap.size w w' := by
  have HC := Lib.hid (mMatches_any s o w hw)
  generalize matchesL s o = R at *
  clear hw
  go_enter Tryd.func35, Tryd.ntmps35
  go_wp2_with fail
  refine HC.out.mono ?_
  rintro e w1 ⟨rfl, hb⟩
  have HB := Lib.hid hb
  clear hb
  go_wp2
  go_ret
  exact ⟨rfl, HB.out⟩
theorem su1_any (s o : ByteArray) (g : Nat) (w : World) (hw : Okw w) (hc : w.cell? ⟨g, 0, none⟩ = some (.string o)) :
    Calls Tryd.prog 38 #[.string s, .pointer (some ⟨g, 0, none⟩)] w fun e w' => e = .returned (.bool (cmRes s o).isSome) ∧ Below w.heap.size w w' := by
  have HC := Lib.hid (mMeets_any s o w hw)
  generalize (cmRes s o).isSome = R at *
  clear hw
  go_enter Tryd.func38, Tryd.ntmps38
  go_wp2_with fail
  refine HC.out.mono ?_
  rintro e w1 ⟨rfl, hb⟩
  have HB := Lib.hid hb
  clear hb
  go_wp2
  go_ret
  exact ⟨rfl, HB.out⟩
/-- what a rule that is searched for answers -/
def RetFi (r : Option Rl) (W : World) (E : Ending) (w' : World) : Prop := E = .returned (.tuple #[rlV (r.getD ⟨false, ByteArray.empty, 0, ByteArray.empty⟩), .bool r.isSome]) ∧ Below W.heap.size W w'
set_option maxRecDepth 20000 in
set_option maxHeartbeats 4000000 in
theorem first1A_any (x : Rl) (c u o : ByteArray) (ac : Int) (P Q Z Cb : Nat) (T1 T2 T3 T4 : TypeId) (w : World) (hw : Okw w) (hP : BK T1 w P [.string c, .string u]) (hQ : BK T2 w Q [.int .i64 ac]) (hZ : BK T3 w Z [.func (.func 35) #[] #[.pointer (some ⟨Cb, 0, none⟩)]]) (hC : BK T4 w Cb [.string o])
    (hc : c.size ≤ 64) (hu : u.size ≤ 64) (hf : x.fi.size ≤ 1000) :
    Calls Tryd.prog 58 #[rlV x, .pointer (some ⟨P, 0, none⟩), .pointer (some ⟨Q, 0, none⟩), .pointer (some ⟨Z, 0, none⟩)] w fun e w' => e = .returned (.bool (forR x u ac && matchesL (expB x.fi c u) o)) ∧ Below w.heap.size w w' := by
  have HO := Lib.hid hw
  have HIF := Lib.hid (fun w1 => isFor_any x u ac w1)
  have HEX := Lib.hid (fun w1 h => tExpand_any x.fi c u w1 h hc hu hf)
  have HAP := Lib.hid (fun w1 h h2 => al1_any (expB x.fi c u) o Cb w1 h h2)
  generalize forR x u ac = b1 at *
  generalize matchesL (expB x.fi c u) o = b2 at *
  generalize expB x.fi c u = ex at *
  obtain ⟨al, us, an, fi⟩ := x
  clear hw hc hu hf
  have P0 := Lib.hid hP
  have Q0 := Lib.hid hQ
  have Z0 := Lib.hid hZ
  have C0 := Lib.hid hC
  clear hP hQ hZ hC
  unfold rlV gR
  go_enter Tryd.func58, Tryd.ntmps58
  go_upto_region 1 with fail
  refine name_world (C := fun w1 => Code.wp _ _ _ _ w1) (w.alloc (.cells (gR ⟨al, us, an, fi⟩).toArray 42)) ?_
  intro w1 hw1
  have hb1 : Below w.heap.size w w1 := by rw [hw1]; exact S2.below_new w _
  have X_w1 : Hid (BK 42 w1 w.heap.size (gR ⟨al, us, an, fi⟩)) := Lib.hid (by rw [hw1]; exact BK.new w _ _)
  have B_w1 := Lib.hid hb1
  have O_w1 := Lib.hid (HO.out.step hb1)
  have P_w1 := Lib.hid (P0.out.step hb1)
  have Q_w1 := Lib.hid (Q0.out.step hb1)
  have Z_w1 := Lib.hid (Z0.out.step hb1)
  have C_w1 := Lib.hid (C0.out.step hb1)
  clear hw1 hb1 HO P0 Q0 Z0 C0
  cases b1 with
  | false =>
    obtain ⟨x1, hx1⟩ : ∃ x1, x1 = World.drew w1 := ⟨_, rfl⟩
    have hbD : Below w1.heap.size w1 x1 := by rw [hx1]; exact (Below.refl _ _).drew
    have X_x1 : Hid (BK 42 x1 w.heap.size (gR ⟨al, us, an, fi⟩)) := Lib.hid (X_w1.out.step hbD)
    have B_x1 : Hid (Below w.heap.size w x1) := Lib.hid (stepB B_w1.out hbD)
    have O_x1 : Hid (Okw x1) := Lib.hid (O_w1.out.step hbD)
    have P_x1 : Hid (BK T1 x1 P [.string c, .string u]) := Lib.hid (P_w1.out.step hbD)
    have Q_x1 : Hid (BK T2 x1 Q [.int .i64 ac]) := Lib.hid (Q_w1.out.step hbD)
    have Z_x1 : Hid (BK T3 x1 Z [.func (.func 35) #[] #[.pointer (some ⟨Cb, 0, none⟩)]]) := Lib.hid (Z_w1.out.step hbD)
    have C_x1 : Hid (BK T4 x1 Cb [.string o]) := Lib.hid (C_w1.out.step hbD)
    clear X_w1 B_w1 O_w1 P_w1 Q_w1 Z_w1 C_w1
    have hbd : (fun w' => BK 42 w' w.heap.size (gR ⟨al, us, an, fi⟩) ∧ BK T1 w' P [.string c, .string u] ∧ BK T2 w' Q [.int .i64 ac] ∧ BK T3 w' Z [.func (.func 35) #[] #[.pointer (some ⟨Cb, 0, none⟩)]] ∧ BK T4 w' Cb [.string o]) (World.drew w1) := by rw [← hx1]; exact ⟨X_x1.out, P_x1.out, Q_x1.out, Z_x1.out, C_x1.out⟩
    have hSD : (fun w' => BK 42 w' w.heap.size (gR ⟨al, us, an, fi⟩) ∧ BK T1 w' P [.string c, .string u] ∧ BK T2 w' Q [.int .i64 ac] ∧ BK T3 w' Z [.func (.func 35) #[] #[.pointer (some ⟨Cb, 0, none⟩)]] ∧ BK T4 w' Cb [.string o]) x1 := ⟨X_x1.out, P_x1.out, Q_x1.out, Z_x1.out, C_x1.out⟩
    have HWD := Lib.hid hx1
    clear hx1 hbD
    refine wp_region_held_drew (S := fun w' => BK 42 w' w.heap.size (gR ⟨al, us, an, fi⟩) ∧ BK T1 w' P [.string c, .string u] ∧ BK T2 w' Q [.int .i64 ac] ∧ BK T3 w' Z [.func (.func 35) #[] #[.pointer (some ⟨Cb, 0, none⟩)]] ∧ BK T4 w' Cb [.string o]) (by kernel_rfl) hbd (fun hHeld => ?_)
    rw [← HWD.out]
    clear hHeld
    have hHeld := hSD
    clear hSD hbd HWD
    refine wpAnyH_take (i := 0) (v := (.agg (gR ⟨al, us, an, fi⟩).toArray)) (get_ops _ _ _ rfl) (by kernel_rfl) (by kernel_rfl) (by kernel_rfl) (fun _ _ _ h => h) (Or.inl ⟨by rfl, fun wS hSw => by (try dsimp only at hSw); exact exec_load 42 _ rfl ⟨w.heap.size, 0, none⟩ (by go_simp) _ (load_rule0 hSw.1)⟩) hHeld ?_
    try simp only [Act.put, List.setIfInBounds_toArray, List.set_cons_zero, List.set_cons_succ]
    refine wpAnyH_take (i := 1) (v := .pointer (some ⟨P, 1, none⟩)) (get_ops _ _ _ rfl) (by kernel_rfl) (by kernel_rfl) (by kernel_rfl) (fun _ _ _ h => h) (Or.inl ⟨by rfl, fun wS hSw => by (try dsimp only at hSw); go_simp⟩) hHeld ?_
    try simp only [Act.put, List.setIfInBounds_toArray, List.set_cons_zero, List.set_cons_succ]
    refine wpAnyH_take (i := 2) (v := .string u) (get_ops _ _ _ rfl) (by kernel_rfl) (by kernel_rfl) (by kernel_rfl) (fun _ _ _ h => h) (Or.inl ⟨by rfl, fun wS hSw => by (try dsimp only at hSw); have cS : wS.cell? ⟨P, 1, none⟩ = some (.string u) := hSw.2.1.cell 1 rfl; clear hSw; go_simp⟩) hHeld ?_
    try simp only [Act.put, List.setIfInBounds_toArray, List.set_cons_zero, List.set_cons_succ]
    refine wpAnyH_take (i := 3) (v := .int .i64 ac) (get_ops _ _ _ rfl) (by kernel_rfl) (by kernel_rfl) (by kernel_rfl) (fun _ _ _ h => h) (Or.inl ⟨by rfl, fun wS hSw => by (try dsimp only at hSw); have cS : wS.cell? ⟨Q, 0, none⟩ = some (.int .i64 ac) := hSw.2.2.1.cell 0 rfl; clear hSw; go_simp⟩) hHeld ?_
    try simp only [Act.put, List.setIfInBounds_toArray, List.set_cons_zero, List.set_cons_succ]
    refine wpAnyH_ready (rs := [4]) (by kernel_rfl) (by simp) ?_
    refine (AllReadyH.cons (get_ops _ _ _ rfl) (fun K hK => ?_) AllReadyH.nil)
    go_simp
    refine (HIF.out x1).mono ?_
    rintro e x2 ⟨rfl, hb⟩
    have X_x2 : Hid (BK 42 x2 w.heap.size (gR ⟨al, us, an, fi⟩)) := Lib.hid (X_x1.out.step hb)
    have B_x2 : Hid (Below w.heap.size w x2) := Lib.hid (stepB B_x1.out hb)
    have O_x2 : Hid (Okw x2) := Lib.hid (O_x1.out.step hb)
    have P_x2 : Hid (BK T1 x2 P [.string c, .string u]) := Lib.hid (P_x1.out.step hb)
    have Q_x2 : Hid (BK T2 x2 Q [.int .i64 ac]) := Lib.hid (Q_x1.out.step hb)
    have Z_x2 : Hid (BK T3 x2 Z [.func (.func 35) #[] #[.pointer (some ⟨Cb, 0, none⟩)]]) := Lib.hid (Z_x1.out.step hb)
    have C_x2 : Hid (BK T4 x2 Cb [.string o]) := Lib.hid (C_x1.out.step hb)
    clear X_x1 B_x1 O_x1 P_x1 Q_x1 Z_x1 C_x1
    clear hHeld hb
    go_wp2_with fail
    refine hK.out _ _ ⟨X_x2.out, P_x2.out, Q_x2.out, Z_x2.out, C_x2.out⟩ (fun hHeld => ?_)
    clear hK K
    try simp only [Act.put, List.setIfInBounds_toArray, List.set_cons_zero, List.set_cons_succ]
    refine wpAnyH_take (i := 5) (v := .bool false) (get_ops _ _ _ rfl) (by kernel_rfl) (by kernel_rfl) (by kernel_rfl) (fun _ _ _ h => h) (Or.inl ⟨by rfl, fun wS hSw => by (try dsimp only at hSw); go_simp⟩) hHeld ?_
    try simp only [Act.put, List.setIfInBounds_toArray, List.set_cons_zero, List.set_cons_succ]
    refine wpAnyH_take (i := 6) (v := undef) (get_ops _ _ _ rfl) (by kernel_rfl) (by kernel_rfl) (by kernel_rfl) (fun _ _ _ h => h) (Or.inr ⟨by rfl, rfl⟩) hHeld ?_
    try simp only [Act.put, List.setIfInBounds_toArray, List.set_cons_zero, List.set_cons_succ]
    refine wpAnyH_take (i := 7) (v := undef) (get_ops _ _ _ rfl) (by kernel_rfl) (by kernel_rfl) (by kernel_rfl) (fun _ _ _ h => h) (Or.inr ⟨by rfl, rfl⟩) hHeld ?_
    try simp only [Act.put, List.setIfInBounds_toArray, List.set_cons_zero, List.set_cons_succ]
    refine wpAnyH_take (i := 8) (v := undef) (get_ops _ _ _ rfl) (by kernel_rfl) (by kernel_rfl) (by kernel_rfl) (fun _ _ _ h => h) (Or.inr ⟨by rfl, rfl⟩) hHeld ?_
    try simp only [Act.put, List.setIfInBounds_toArray, List.set_cons_zero, List.set_cons_succ]
    refine wpAnyH_take (i := 9) (v := undef) (get_ops _ _ _ rfl) (by kernel_rfl) (by kernel_rfl) (by kernel_rfl) (fun _ _ _ h => h) (Or.inr ⟨by rfl, rfl⟩) hHeld ?_
    try simp only [Act.put, List.setIfInBounds_toArray, List.set_cons_zero, List.set_cons_succ]
    refine wpAnyH_take (i := 10) (v := undef) (get_ops _ _ _ rfl) (by kernel_rfl) (by kernel_rfl) (by kernel_rfl) (fun _ _ _ h => h) (Or.inr ⟨by rfl, rfl⟩) hHeld ?_
    try simp only [Act.put, List.setIfInBounds_toArray, List.set_cons_zero, List.set_cons_succ]
    refine wpAnyH_take (i := 11) (v := undef) (get_ops _ _ _ rfl) (by kernel_rfl) (by kernel_rfl) (by kernel_rfl) (fun _ _ _ h => h) (Or.inr ⟨by rfl, rfl⟩) hHeld ?_
    try simp only [Act.put, List.setIfInBounds_toArray, List.set_cons_zero, List.set_cons_succ]
    refine wpAnyH_take (i := 12) (v := .bool false) (get_ops _ _ _ rfl) (by kernel_rfl) (by kernel_rfl) (by kernel_rfl) (fun _ _ _ h => h) (Or.inl ⟨by rfl, fun wS hSw => by (try dsimp only at hSw); go_simp⟩) hHeld ?_
    try simp only [Act.put, List.setIfInBounds_toArray, List.set_cons_zero, List.set_cons_succ]
    refine wpAnyH_take (i := 13) (v := .bool false) (get_ops _ _ _ rfl) (by kernel_rfl) (by kernel_rfl) (by kernel_rfl) (fun _ _ _ h => h) (Or.inl ⟨by rfl, fun wS hSw => by (try dsimp only at hSw); go_simp⟩) hHeld ?_
    try simp only [Act.put, List.setIfInBounds_toArray, List.set_cons_zero, List.set_cons_succ]
    refine wpAnyH_done (by kernel_rfl) ?_ _
    go_wp2_with fail
    go_ret
    exact ⟨rfl, B_x2.out⟩
  | true =>
    obtain ⟨x1, hx1⟩ : ∃ x1, x1 = World.drew w1 := ⟨_, rfl⟩
    have hbD : Below w1.heap.size w1 x1 := by rw [hx1]; exact (Below.refl _ _).drew
    have X_x1 : Hid (BK 42 x1 w.heap.size (gR ⟨al, us, an, fi⟩)) := Lib.hid (X_w1.out.step hbD)
    have B_x1 : Hid (Below w.heap.size w x1) := Lib.hid (stepB B_w1.out hbD)
    have O_x1 : Hid (Okw x1) := Lib.hid (O_w1.out.step hbD)
    have P_x1 : Hid (BK T1 x1 P [.string c, .string u]) := Lib.hid (P_w1.out.step hbD)
    have Q_x1 : Hid (BK T2 x1 Q [.int .i64 ac]) := Lib.hid (Q_w1.out.step hbD)
    have Z_x1 : Hid (BK T3 x1 Z [.func (.func 35) #[] #[.pointer (some ⟨Cb, 0, none⟩)]]) := Lib.hid (Z_w1.out.step hbD)
    have C_x1 : Hid (BK T4 x1 Cb [.string o]) := Lib.hid (C_w1.out.step hbD)
    clear X_w1 B_w1 O_w1 P_w1 Q_w1 Z_w1 C_w1
    have hbd : (fun w' => BK 42 w' w.heap.size (gR ⟨al, us, an, fi⟩) ∧ BK T1 w' P [.string c, .string u] ∧ BK T2 w' Q [.int .i64 ac] ∧ BK T3 w' Z [.func (.func 35) #[] #[.pointer (some ⟨Cb, 0, none⟩)]] ∧ BK T4 w' Cb [.string o]) (World.drew w1) := by rw [← hx1]; exact ⟨X_x1.out, P_x1.out, Q_x1.out, Z_x1.out, C_x1.out⟩
    have hSD : (fun w' => BK 42 w' w.heap.size (gR ⟨al, us, an, fi⟩) ∧ BK T1 w' P [.string c, .string u] ∧ BK T2 w' Q [.int .i64 ac] ∧ BK T3 w' Z [.func (.func 35) #[] #[.pointer (some ⟨Cb, 0, none⟩)]] ∧ BK T4 w' Cb [.string o]) x1 := ⟨X_x1.out, P_x1.out, Q_x1.out, Z_x1.out, C_x1.out⟩
    have HWD := Lib.hid hx1
    clear hx1 hbD
    refine wp_region_held_drew (S := fun w' => BK 42 w' w.heap.size (gR ⟨al, us, an, fi⟩) ∧ BK T1 w' P [.string c, .string u] ∧ BK T2 w' Q [.int .i64 ac] ∧ BK T3 w' Z [.func (.func 35) #[] #[.pointer (some ⟨Cb, 0, none⟩)]] ∧ BK T4 w' Cb [.string o]) (by kernel_rfl) hbd (fun hHeld => ?_)
    rw [← HWD.out]
    clear hHeld
    have hHeld := hSD
    clear hSD hbd HWD
    refine wpAnyH_take (i := 0) (v := (.agg (gR ⟨al, us, an, fi⟩).toArray)) (get_ops _ _ _ rfl) (by kernel_rfl) (by kernel_rfl) (by kernel_rfl) (fun _ _ _ h => h) (Or.inl ⟨by rfl, fun wS hSw => by (try dsimp only at hSw); exact exec_load 42 _ rfl ⟨w.heap.size, 0, none⟩ (by go_simp) _ (load_rule0 hSw.1)⟩) hHeld ?_
    try simp only [Act.put, List.setIfInBounds_toArray, List.set_cons_zero, List.set_cons_succ]
    refine wpAnyH_take (i := 1) (v := .pointer (some ⟨P, 1, none⟩)) (get_ops _ _ _ rfl) (by kernel_rfl) (by kernel_rfl) (by kernel_rfl) (fun _ _ _ h => h) (Or.inl ⟨by rfl, fun wS hSw => by (try dsimp only at hSw); go_simp⟩) hHeld ?_
    try simp only [Act.put, List.setIfInBounds_toArray, List.set_cons_zero, List.set_cons_succ]
    refine wpAnyH_take (i := 2) (v := .string u) (get_ops _ _ _ rfl) (by kernel_rfl) (by kernel_rfl) (by kernel_rfl) (fun _ _ _ h => h) (Or.inl ⟨by rfl, fun wS hSw => by (try dsimp only at hSw); have cS : wS.cell? ⟨P, 1, none⟩ = some (.string u) := hSw.2.1.cell 1 rfl; clear hSw; go_simp⟩) hHeld ?_
    try simp only [Act.put, List.setIfInBounds_toArray, List.set_cons_zero, List.set_cons_succ]
    refine wpAnyH_take (i := 3) (v := .int .i64 ac) (get_ops _ _ _ rfl) (by kernel_rfl) (by kernel_rfl) (by kernel_rfl) (fun _ _ _ h => h) (Or.inl ⟨by rfl, fun wS hSw => by (try dsimp only at hSw); have cS : wS.cell? ⟨Q, 0, none⟩ = some (.int .i64 ac) := hSw.2.2.1.cell 0 rfl; clear hSw; go_simp⟩) hHeld ?_
    try simp only [Act.put, List.setIfInBounds_toArray, List.set_cons_zero, List.set_cons_succ]
    refine wpAnyH_ready (rs := [4]) (by kernel_rfl) (by simp) ?_
    refine (AllReadyH.cons (get_ops _ _ _ rfl) (fun K hK => ?_) AllReadyH.nil)
    go_simp
    refine (HIF.out x1).mono ?_
    rintro e x2 ⟨rfl, hb⟩
    have X_x2 : Hid (BK 42 x2 w.heap.size (gR ⟨al, us, an, fi⟩)) := Lib.hid (X_x1.out.step hb)
    have B_x2 : Hid (Below w.heap.size w x2) := Lib.hid (stepB B_x1.out hb)
    have O_x2 : Hid (Okw x2) := Lib.hid (O_x1.out.step hb)
    have P_x2 : Hid (BK T1 x2 P [.string c, .string u]) := Lib.hid (P_x1.out.step hb)
    have Q_x2 : Hid (BK T2 x2 Q [.int .i64 ac]) := Lib.hid (Q_x1.out.step hb)
    have Z_x2 : Hid (BK T3 x2 Z [.func (.func 35) #[] #[.pointer (some ⟨Cb, 0, none⟩)]]) := Lib.hid (Z_x1.out.step hb)
    have C_x2 : Hid (BK T4 x2 Cb [.string o]) := Lib.hid (C_x1.out.step hb)
    clear X_x1 B_x1 O_x1 P_x1 Q_x1 Z_x1 C_x1
    clear hHeld hb
    go_wp2_with fail
    refine hK.out _ _ ⟨X_x2.out, P_x2.out, Q_x2.out, Z_x2.out, C_x2.out⟩ (fun hHeld => ?_)
    clear hK K
    try simp only [Act.put, List.setIfInBounds_toArray, List.set_cons_zero, List.set_cons_succ]
    refine wpAnyH_take (i := 5) (v := .bool true) (get_ops _ _ _ rfl) (by kernel_rfl) (by kernel_rfl) (by kernel_rfl) (fun _ _ _ h => h) (Or.inl ⟨by rfl, fun wS hSw => by (try dsimp only at hSw); go_simp⟩) hHeld ?_
    try simp only [Act.put, List.setIfInBounds_toArray, List.set_cons_zero, List.set_cons_succ]
    refine wpAnyH_take (i := 6) (v := .func (.func 35) #[] #[.pointer (some ⟨Cb, 0, none⟩)]) (get_ops _ _ _ rfl) (by kernel_rfl) (by kernel_rfl) (by kernel_rfl) (fun _ _ _ h => h) (Or.inl ⟨by rfl, fun wS hSw => by (try dsimp only at hSw); have cS : wS.cell? ⟨Z, 0, none⟩ = some (.func (.func 35) #[] #[.pointer (some ⟨Cb, 0, none⟩)]) := hSw.2.2.2.1.cell 0 rfl; clear hSw; go_simp⟩) hHeld ?_
    try simp only [Act.put, List.setIfInBounds_toArray, List.set_cons_zero, List.set_cons_succ]
    refine wpAnyH_take (i := 7) (v := .pointer (some ⟨w.heap.size, 3, none⟩)) (get_ops _ _ _ rfl) (by kernel_rfl) (by kernel_rfl) (by kernel_rfl) (fun _ _ _ h => h) (Or.inl ⟨by rfl, fun wS hSw => by (try dsimp only at hSw); go_simp⟩) hHeld ?_
    try simp only [Act.put, List.setIfInBounds_toArray, List.set_cons_zero, List.set_cons_succ]
    refine wpAnyH_take (i := 8) (v := .string fi) (get_ops _ _ _ rfl) (by kernel_rfl) (by kernel_rfl) (by kernel_rfl) (fun _ _ _ h => h) (Or.inl ⟨by rfl, fun wS hSw => by (try dsimp only at hSw); have cS : wS.cell? ⟨w.heap.size, 3, none⟩ = some (.string fi) := hSw.1.cell 3 rfl; clear hSw; go_simp⟩) hHeld ?_
    try simp only [Act.put, List.setIfInBounds_toArray, List.set_cons_zero, List.set_cons_succ]
    refine wpAnyH_take (i := 9) (v := (whV c u)) (get_ops _ _ _ rfl) (by kernel_rfl) (by kernel_rfl) (by kernel_rfl) (fun _ _ _ h => h) (Or.inl ⟨by rfl, fun wS hSw => by (try dsimp only at hSw); exact exec_load 28 _ rfl ⟨P, 0, none⟩ (by go_simp) _ (S2.run_load_all (vs := [.string c, .string u]) hSw.2.1 Tryd.underlying28 rfl whoSize)⟩) hHeld ?_
    try simp only [Act.put, List.setIfInBounds_toArray, List.set_cons_zero, List.set_cons_succ]
    refine wpAnyH_ready (rs := [10]) (by kernel_rfl) (by simp) ?_
    refine (AllReadyH.cons (get_ops _ _ _ rfl) (fun K hK => ?_) AllReadyH.nil)
    go_simp
    refine (HEX.out x2 O_x2.out).mono ?_
    rintro e x3 ⟨rfl, hb⟩
    have X_x3 : Hid (BK 42 x3 w.heap.size (gR ⟨al, us, an, fi⟩)) := Lib.hid (X_x2.out.step hb)
    have B_x3 : Hid (Below w.heap.size w x3) := Lib.hid (stepB B_x2.out hb)
    have O_x3 : Hid (Okw x3) := Lib.hid (O_x2.out.step hb)
    have P_x3 : Hid (BK T1 x3 P [.string c, .string u]) := Lib.hid (P_x2.out.step hb)
    have Q_x3 : Hid (BK T2 x3 Q [.int .i64 ac]) := Lib.hid (Q_x2.out.step hb)
    have Z_x3 : Hid (BK T3 x3 Z [.func (.func 35) #[] #[.pointer (some ⟨Cb, 0, none⟩)]]) := Lib.hid (Z_x2.out.step hb)
    have C_x3 : Hid (BK T4 x3 Cb [.string o]) := Lib.hid (C_x2.out.step hb)
    clear X_x2 B_x2 O_x2 P_x2 Q_x2 Z_x2 C_x2
    clear hHeld hb
    go_wp2_with fail
    refine hK.out _ _ ⟨X_x3.out, P_x3.out, Q_x3.out, Z_x3.out, C_x3.out⟩ (fun hHeld => ?_)
    clear hK K
    try simp only [Act.put, List.setIfInBounds_toArray, List.set_cons_zero, List.set_cons_succ]
    refine wpAnyH_ready (rs := [11]) (by kernel_rfl) (by simp) ?_
    refine (AllReadyH.cons (get_ops _ _ _ rfl) (fun K hK => ?_) AllReadyH.nil)
    go_simp
    refine (HAP.out x3 O_x3.out (C_x3.out.cell 0 rfl)).mono ?_
    rintro e x4 ⟨rfl, hb⟩
    have X_x4 : Hid (BK 42 x4 w.heap.size (gR ⟨al, us, an, fi⟩)) := Lib.hid (X_x3.out.step hb)
    have B_x4 : Hid (Below w.heap.size w x4) := Lib.hid (stepB B_x3.out hb)
    have O_x4 : Hid (Okw x4) := Lib.hid (O_x3.out.step hb)
    have P_x4 : Hid (BK T1 x4 P [.string c, .string u]) := Lib.hid (P_x3.out.step hb)
    have Q_x4 : Hid (BK T2 x4 Q [.int .i64 ac]) := Lib.hid (Q_x3.out.step hb)
    have Z_x4 : Hid (BK T3 x4 Z [.func (.func 35) #[] #[.pointer (some ⟨Cb, 0, none⟩)]]) := Lib.hid (Z_x3.out.step hb)
    have C_x4 : Hid (BK T4 x4 Cb [.string o]) := Lib.hid (C_x3.out.step hb)
    clear X_x3 B_x3 O_x3 P_x3 Q_x3 Z_x3 C_x3
    clear hHeld hb
    go_wp2_with fail
    refine hK.out _ _ ⟨X_x4.out, P_x4.out, Q_x4.out, Z_x4.out, C_x4.out⟩ (fun hHeld => ?_)
    clear hK K
    try simp only [Act.put, List.setIfInBounds_toArray, List.set_cons_zero, List.set_cons_succ]
    refine wpAnyH_take (i := 12) (v := .bool b2) (get_ops _ _ _ rfl) (by kernel_rfl) (by kernel_rfl) (by kernel_rfl) (fun _ _ _ h => h) (Or.inl ⟨by rfl, fun wS hSw => by (try dsimp only at hSw); go_simp⟩) hHeld ?_
    try simp only [Act.put, List.setIfInBounds_toArray, List.set_cons_zero, List.set_cons_succ]
    refine wpAnyH_take (i := 13) (v := .bool b2) (get_ops _ _ _ rfl) (by kernel_rfl) (by kernel_rfl) (by kernel_rfl) (fun _ _ _ h => h) (Or.inl ⟨by rfl, fun wS hSw => by (try dsimp only at hSw); go_simp⟩) hHeld ?_
    try simp only [Act.put, List.setIfInBounds_toArray, List.set_cons_zero, List.set_cons_succ]
    refine wpAnyH_done (by kernel_rfl) ?_ _
    go_wp2_with fail
    go_ret
    exact ⟨rfl, B_x4.out⟩
set_option maxRecDepth 20000 in
set_option maxHeartbeats 4000000 in
theorem first1S_any (x : Rl) (c u o : ByteArray) (ac : Int) (P Q Z Cb : Nat) (T1 T2 T3 T4 : TypeId) (w : World) (hw : Okw w) (hP : BK T1 w P [.string c, .string u]) (hQ : BK T2 w Q [.int .i64 ac]) (hZ : BK T3 w Z [.func (.func 38) #[] #[.pointer (some ⟨Cb, 0, none⟩)]]) (hC : BK T4 w Cb [.string o])
    (hc : c.size ≤ 64) (hu : u.size ≤ 64) (hf : x.fi.size ≤ 1000) :
    Calls Tryd.prog 58 #[rlV x, .pointer (some ⟨P, 0, none⟩), .pointer (some ⟨Q, 0, none⟩), .pointer (some ⟨Z, 0, none⟩)] w fun e w' => e = .returned (.bool (forR x u ac && (cmRes (expB x.fi c u) o).isSome)) ∧ Below w.heap.size w w' := by
  have HO := Lib.hid hw
  have HIF := Lib.hid (fun w1 => isFor_any x u ac w1)
  have HEX := Lib.hid (fun w1 h => tExpand_any x.fi c u w1 h hc hu hf)
  have HAP := Lib.hid (fun w1 h h2 => su1_any (expB x.fi c u) o Cb w1 h h2)
  generalize forR x u ac = b1 at *
  generalize (cmRes (expB x.fi c u) o).isSome = b2 at *
  generalize expB x.fi c u = ex at *
  obtain ⟨al, us, an, fi⟩ := x
  clear hw hc hu hf
  have P0 := Lib.hid hP
  have Q0 := Lib.hid hQ
  have Z0 := Lib.hid hZ
  have C0 := Lib.hid hC
  clear hP hQ hZ hC
  unfold rlV gR
  go_enter Tryd.func58, Tryd.ntmps58
  go_upto_region 1 with fail
  refine name_world (C := fun w1 => Code.wp _ _ _ _ w1) (w.alloc (.cells (gR ⟨al, us, an, fi⟩).toArray 42)) ?_
  intro w1 hw1
  have hb1 : Below w.heap.size w w1 := by rw [hw1]; exact S2.below_new w _
  have X_w1 : Hid (BK 42 w1 w.heap.size (gR ⟨al, us, an, fi⟩)) := Lib.hid (by rw [hw1]; exact BK.new w _ _)
  have B_w1 := Lib.hid hb1
  have O_w1 := Lib.hid (HO.out.step hb1)
  have P_w1 := Lib.hid (P0.out.step hb1)
  have Q_w1 := Lib.hid (Q0.out.step hb1)
  have Z_w1 := Lib.hid (Z0.out.step hb1)
  have C_w1 := Lib.hid (C0.out.step hb1)
  clear hw1 hb1 HO P0 Q0 Z0 C0
  cases b1 with
  | false =>
    obtain ⟨x1, hx1⟩ : ∃ x1, x1 = World.drew w1 := ⟨_, rfl⟩
    have hbD : Below w1.heap.size w1 x1 := by rw [hx1]; exact (Below.refl _ _).drew
    have X_x1 : Hid (BK 42 x1 w.heap.size (gR ⟨al, us, an, fi⟩)) := Lib.hid (X_w1.out.step hbD)
    have B_x1 : Hid (Below w.heap.size w x1) := Lib.hid (stepB B_w1.out hbD)
    have O_x1 : Hid (Okw x1) := Lib.hid (O_w1.out.step hbD)
    have P_x1 : Hid (BK T1 x1 P [.string c, .string u]) := Lib.hid (P_w1.out.step hbD)
    have Q_x1 : Hid (BK T2 x1 Q [.int .i64 ac]) := Lib.hid (Q_w1.out.step hbD)
    have Z_x1 : Hid (BK T3 x1 Z [.func (.func 38) #[] #[.pointer (some ⟨Cb, 0, none⟩)]]) := Lib.hid (Z_w1.out.step hbD)
    have C_x1 : Hid (BK T4 x1 Cb [.string o]) := Lib.hid (C_w1.out.step hbD)
    clear X_w1 B_w1 O_w1 P_w1 Q_w1 Z_w1 C_w1
    have hbd : (fun w' => BK 42 w' w.heap.size (gR ⟨al, us, an, fi⟩) ∧ BK T1 w' P [.string c, .string u] ∧ BK T2 w' Q [.int .i64 ac] ∧ BK T3 w' Z [.func (.func 38) #[] #[.pointer (some ⟨Cb, 0, none⟩)]] ∧ BK T4 w' Cb [.string o]) (World.drew w1) := by rw [← hx1]; exact ⟨X_x1.out, P_x1.out, Q_x1.out, Z_x1.out, C_x1.out⟩
    have hSD : (fun w' => BK 42 w' w.heap.size (gR ⟨al, us, an, fi⟩) ∧ BK T1 w' P [.string c, .string u] ∧ BK T2 w' Q [.int .i64 ac] ∧ BK T3 w' Z [.func (.func 38) #[] #[.pointer (some ⟨Cb, 0, none⟩)]] ∧ BK T4 w' Cb [.string o]) x1 := ⟨X_x1.out, P_x1.out, Q_x1.out, Z_x1.out, C_x1.out⟩
    have HWD := Lib.hid hx1
    clear hx1 hbD
    refine wp_region_held_drew (S := fun w' => BK 42 w' w.heap.size (gR ⟨al, us, an, fi⟩) ∧ BK T1 w' P [.string c, .string u] ∧ BK T2 w' Q [.int .i64 ac] ∧ BK T3 w' Z [.func (.func 38) #[] #[.pointer (some ⟨Cb, 0, none⟩)]] ∧ BK T4 w' Cb [.string o]) (by kernel_rfl) hbd (fun hHeld => ?_)
    rw [← HWD.out]
    clear hHeld
    have hHeld := hSD
    clear hSD hbd HWD
    refine wpAnyH_take (i := 0) (v := (.agg (gR ⟨al, us, an, fi⟩).toArray)) (get_ops _ _ _ rfl) (by kernel_rfl) (by kernel_rfl) (by kernel_rfl) (fun _ _ _ h => h) (Or.inl ⟨by rfl, fun wS hSw => by (try dsimp only at hSw); exact exec_load 42 _ rfl ⟨w.heap.size, 0, none⟩ (by go_simp) _ (load_rule0 hSw.1)⟩) hHeld ?_
    try simp only [Act.put, List.setIfInBounds_toArray, List.set_cons_zero, List.set_cons_succ]
    refine wpAnyH_take (i := 1) (v := .pointer (some ⟨P, 1, none⟩)) (get_ops _ _ _ rfl) (by kernel_rfl) (by kernel_rfl) (by kernel_rfl) (fun _ _ _ h => h) (Or.inl ⟨by rfl, fun wS hSw => by (try dsimp only at hSw); go_simp⟩) hHeld ?_
    try simp only [Act.put, List.setIfInBounds_toArray, List.set_cons_zero, List.set_cons_succ]
    refine wpAnyH_take (i := 2) (v := .string u) (get_ops _ _ _ rfl) (by kernel_rfl) (by kernel_rfl) (by kernel_rfl) (fun _ _ _ h => h) (Or.inl ⟨by rfl, fun wS hSw => by (try dsimp only at hSw); have cS : wS.cell? ⟨P, 1, none⟩ = some (.string u) := hSw.2.1.cell 1 rfl; clear hSw; go_simp⟩) hHeld ?_
    try simp only [Act.put, List.setIfInBounds_toArray, List.set_cons_zero, List.set_cons_succ]
    refine wpAnyH_take (i := 3) (v := .int .i64 ac) (get_ops _ _ _ rfl) (by kernel_rfl) (by kernel_rfl) (by kernel_rfl) (fun _ _ _ h => h) (Or.inl ⟨by rfl, fun wS hSw => by (try dsimp only at hSw); have cS : wS.cell? ⟨Q, 0, none⟩ = some (.int .i64 ac) := hSw.2.2.1.cell 0 rfl; clear hSw; go_simp⟩) hHeld ?_
    try simp only [Act.put, List.setIfInBounds_toArray, List.set_cons_zero, List.set_cons_succ]
    refine wpAnyH_ready (rs := [4]) (by kernel_rfl) (by simp) ?_
    refine (AllReadyH.cons (get_ops _ _ _ rfl) (fun K hK => ?_) AllReadyH.nil)
    go_simp
    refine (HIF.out x1).mono ?_
    rintro e x2 ⟨rfl, hb⟩
    have X_x2 : Hid (BK 42 x2 w.heap.size (gR ⟨al, us, an, fi⟩)) := Lib.hid (X_x1.out.step hb)
    have B_x2 : Hid (Below w.heap.size w x2) := Lib.hid (stepB B_x1.out hb)
    have O_x2 : Hid (Okw x2) := Lib.hid (O_x1.out.step hb)
    have P_x2 : Hid (BK T1 x2 P [.string c, .string u]) := Lib.hid (P_x1.out.step hb)
    have Q_x2 : Hid (BK T2 x2 Q [.int .i64 ac]) := Lib.hid (Q_x1.out.step hb)
    have Z_x2 : Hid (BK T3 x2 Z [.func (.func 38) #[] #[.pointer (some ⟨Cb, 0, none⟩)]]) := Lib.hid (Z_x1.out.step hb)
    have C_x2 : Hid (BK T4 x2 Cb [.string o]) := Lib.hid (C_x1.out.step hb)
    clear X_x1 B_x1 O_x1 P_x1 Q_x1 Z_x1 C_x1
    clear hHeld hb
    go_wp2_with fail
    refine hK.out _ _ ⟨X_x2.out, P_x2.out, Q_x2.out, Z_x2.out, C_x2.out⟩ (fun hHeld => ?_)
    clear hK K
    try simp only [Act.put, List.setIfInBounds_toArray, List.set_cons_zero, List.set_cons_succ]
    refine wpAnyH_take (i := 5) (v := .bool false) (get_ops _ _ _ rfl) (by kernel_rfl) (by kernel_rfl) (by kernel_rfl) (fun _ _ _ h => h) (Or.inl ⟨by rfl, fun wS hSw => by (try dsimp only at hSw); go_simp⟩) hHeld ?_
    try simp only [Act.put, List.setIfInBounds_toArray, List.set_cons_zero, List.set_cons_succ]
    refine wpAnyH_take (i := 6) (v := undef) (get_ops _ _ _ rfl) (by kernel_rfl) (by kernel_rfl) (by kernel_rfl) (fun _ _ _ h => h) (Or.inr ⟨by rfl, rfl⟩) hHeld ?_
    try simp only [Act.put, List.setIfInBounds_toArray, List.set_cons_zero, List.set_cons_succ]
    refine wpAnyH_take (i := 7) (v := undef) (get_ops _ _ _ rfl) (by kernel_rfl) (by kernel_rfl) (by kernel_rfl) (fun _ _ _ h => h) (Or.inr ⟨by rfl, rfl⟩) hHeld ?_
    try simp only [Act.put, List.setIfInBounds_toArray, List.set_cons_zero, List.set_cons_succ]
    refine wpAnyH_take (i := 8) (v := undef) (get_ops _ _ _ rfl) (by kernel_rfl) (by kernel_rfl) (by kernel_rfl) (fun _ _ _ h => h) (Or.inr ⟨by rfl, rfl⟩) hHeld ?_
    try simp only [Act.put, List.setIfInBounds_toArray, List.set_cons_zero, List.set_cons_succ]
    refine wpAnyH_take (i := 9) (v := undef) (get_ops _ _ _ rfl) (by kernel_rfl) (by kernel_rfl) (by kernel_rfl) (fun _ _ _ h => h) (Or.inr ⟨by rfl, rfl⟩) hHeld ?_
    try simp only [Act.put, List.setIfInBounds_toArray, List.set_cons_zero, List.set_cons_succ]
    refine wpAnyH_take (i := 10) (v := undef) (get_ops _ _ _ rfl) (by kernel_rfl) (by kernel_rfl) (by kernel_rfl) (fun _ _ _ h => h) (Or.inr ⟨by rfl, rfl⟩) hHeld ?_
    try simp only [Act.put, List.setIfInBounds_toArray, List.set_cons_zero, List.set_cons_succ]
    refine wpAnyH_take (i := 11) (v := undef) (get_ops _ _ _ rfl) (by kernel_rfl) (by kernel_rfl) (by kernel_rfl) (fun _ _ _ h => h) (Or.inr ⟨by rfl, rfl⟩) hHeld ?_
    try simp only [Act.put, List.setIfInBounds_toArray, List.set_cons_zero, List.set_cons_succ]
    refine wpAnyH_take (i := 12) (v := .bool false) (get_ops _ _ _ rfl) (by kernel_rfl) (by kernel_rfl) (by kernel_rfl) (fun _ _ _ h => h) (Or.inl ⟨by rfl, fun wS hSw => by (try dsimp only at hSw); go_simp⟩) hHeld ?_
    try simp only [Act.put, List.setIfInBounds_toArray, List.set_cons_zero, List.set_cons_succ]
    refine wpAnyH_take (i := 13) (v := .bool false) (get_ops _ _ _ rfl) (by kernel_rfl) (by kernel_rfl) (by kernel_rfl) (fun _ _ _ h => h) (Or.inl ⟨by rfl, fun wS hSw => by (try dsimp only at hSw); go_simp⟩) hHeld ?_
    try simp only [Act.put, List.setIfInBounds_toArray, List.set_cons_zero, List.set_cons_succ]
    refine wpAnyH_done (by kernel_rfl) ?_ _
    go_wp2_with fail
    go_ret
    exact ⟨rfl, B_x2.out⟩
  | true =>
    obtain ⟨x1, hx1⟩ : ∃ x1, x1 = World.drew w1 := ⟨_, rfl⟩
    have hbD : Below w1.heap.size w1 x1 := by rw [hx1]; exact (Below.refl _ _).drew
    have X_x1 : Hid (BK 42 x1 w.heap.size (gR ⟨al, us, an, fi⟩)) := Lib.hid (X_w1.out.step hbD)
    have B_x1 : Hid (Below w.heap.size w x1) := Lib.hid (stepB B_w1.out hbD)
    have O_x1 : Hid (Okw x1) := Lib.hid (O_w1.out.step hbD)
    have P_x1 : Hid (BK T1 x1 P [.string c, .string u]) := Lib.hid (P_w1.out.step hbD)
    have Q_x1 : Hid (BK T2 x1 Q [.int .i64 ac]) := Lib.hid (Q_w1.out.step hbD)
    have Z_x1 : Hid (BK T3 x1 Z [.func (.func 38) #[] #[.pointer (some ⟨Cb, 0, none⟩)]]) := Lib.hid (Z_w1.out.step hbD)
    have C_x1 : Hid (BK T4 x1 Cb [.string o]) := Lib.hid (C_w1.out.step hbD)
    clear X_w1 B_w1 O_w1 P_w1 Q_w1 Z_w1 C_w1
    have hbd : (fun w' => BK 42 w' w.heap.size (gR ⟨al, us, an, fi⟩) ∧ BK T1 w' P [.string c, .string u] ∧ BK T2 w' Q [.int .i64 ac] ∧ BK T3 w' Z [.func (.func 38) #[] #[.pointer (some ⟨Cb, 0, none⟩)]] ∧ BK T4 w' Cb [.string o]) (World.drew w1) := by rw [← hx1]; exact ⟨X_x1.out, P_x1.out, Q_x1.out, Z_x1.out, C_x1.out⟩
    have hSD : (fun w' => BK 42 w' w.heap.size (gR ⟨al, us, an, fi⟩) ∧ BK T1 w' P [.string c, .string u] ∧ BK T2 w' Q [.int .i64 ac] ∧ BK T3 w' Z [.func (.func 38) #[] #[.pointer (some ⟨Cb, 0, none⟩)]] ∧ BK T4 w' Cb [.string o]) x1 := ⟨X_x1.out, P_x1.out, Q_x1.out, Z_x1.out, C_x1.out⟩
    have HWD := Lib.hid hx1
    clear hx1 hbD
    refine wp_region_held_drew (S := fun w' => BK 42 w' w.heap.size (gR ⟨al, us, an, fi⟩) ∧ BK T1 w' P [.string c, .string u] ∧ BK T2 w' Q [.int .i64 ac] ∧ BK T3 w' Z [.func (.func 38) #[] #[.pointer (some ⟨Cb, 0, none⟩)]] ∧ BK T4 w' Cb [.string o]) (by kernel_rfl) hbd (fun hHeld => ?_)
    rw [← HWD.out]
    clear hHeld
    have hHeld := hSD
    clear hSD hbd HWD
    refine wpAnyH_take (i := 0) (v := (.agg (gR ⟨al, us, an, fi⟩).toArray)) (get_ops _ _ _ rfl) (by kernel_rfl) (by kernel_rfl) (by kernel_rfl) (fun _ _ _ h => h) (Or.inl ⟨by rfl, fun wS hSw => by (try dsimp only at hSw); exact exec_load 42 _ rfl ⟨w.heap.size, 0, none⟩ (by go_simp) _ (load_rule0 hSw.1)⟩) hHeld ?_
    try simp only [Act.put, List.setIfInBounds_toArray, List.set_cons_zero, List.set_cons_succ]
    refine wpAnyH_take (i := 1) (v := .pointer (some ⟨P, 1, none⟩)) (get_ops _ _ _ rfl) (by kernel_rfl) (by kernel_rfl) (by kernel_rfl) (fun _ _ _ h => h) (Or.inl ⟨by rfl, fun wS hSw => by (try dsimp only at hSw); go_simp⟩) hHeld ?_
    try simp only [Act.put, List.setIfInBounds_toArray, List.set_cons_zero, List.set_cons_succ]
    refine wpAnyH_take (i := 2) (v := .string u) (get_ops _ _ _ rfl) (by kernel_rfl) (by kernel_rfl) (by kernel_rfl) (fun _ _ _ h => h) (Or.inl ⟨by rfl, fun wS hSw => by (try dsimp only at hSw); have cS : wS.cell? ⟨P, 1, none⟩ = some (.string u) := hSw.2.1.cell 1 rfl; clear hSw; go_simp⟩) hHeld ?_
    try simp only [Act.put, List.setIfInBounds_toArray, List.set_cons_zero, List.set_cons_succ]
    refine wpAnyH_take (i := 3) (v := .int .i64 ac) (get_ops _ _ _ rfl) (by kernel_rfl) (by kernel_rfl) (by kernel_rfl) (fun _ _ _ h => h) (Or.inl ⟨by rfl, fun wS hSw => by (try dsimp only at hSw); have cS : wS.cell? ⟨Q, 0, none⟩ = some (.int .i64 ac) := hSw.2.2.1.cell 0 rfl; clear hSw; go_simp⟩) hHeld ?_
    try simp only [Act.put, List.setIfInBounds_toArray, List.set_cons_zero, List.set_cons_succ]
    refine wpAnyH_ready (rs := [4]) (by kernel_rfl) (by simp) ?_
    refine (AllReadyH.cons (get_ops _ _ _ rfl) (fun K hK => ?_) AllReadyH.nil)
    go_simp
    refine (HIF.out x1).mono ?_
    rintro e x2 ⟨rfl, hb⟩
    have X_x2 : Hid (BK 42 x2 w.heap.size (gR ⟨al, us, an, fi⟩)) := Lib.hid (X_x1.out.step hb)
    have B_x2 : Hid (Below w.heap.size w x2) := Lib.hid (stepB B_x1.out hb)
    have O_x2 : Hid (Okw x2) := Lib.hid (O_x1.out.step hb)
    have P_x2 : Hid (BK T1 x2 P [.string c, .string u]) := Lib.hid (P_x1.out.step hb)
    have Q_x2 : Hid (BK T2 x2 Q [.int .i64 ac]) := Lib.hid (Q_x1.out.step hb)
    have Z_x2 : Hid (BK T3 x2 Z [.func (.func 38) #[] #[.pointer (some ⟨Cb, 0, none⟩)]]) := Lib.hid (Z_x1.out.step hb)
    have C_x2 : Hid (BK T4 x2 Cb [.string o]) := Lib.hid (C_x1.out.step hb)
    clear X_x1 B_x1 O_x1 P_x1 Q_x1 Z_x1 C_x1
    clear hHeld hb
    go_wp2_with fail
    refine hK.out _ _ ⟨X_x2.out, P_x2.out, Q_x2.out, Z_x2.out, C_x2.out⟩ (fun hHeld => ?_)
    clear hK K
    try simp only [Act.put, List.setIfInBounds_toArray, List.set_cons_zero, List.set_cons_succ]
    refine wpAnyH_take (i := 5) (v := .bool true) (get_ops _ _ _ rfl) (by kernel_rfl) (by kernel_rfl) (by kernel_rfl) (fun _ _ _ h => h) (Or.inl ⟨by rfl, fun wS hSw => by (try dsimp only at hSw); go_simp⟩) hHeld ?_
    try simp only [Act.put, List.setIfInBounds_toArray, List.set_cons_zero, List.set_cons_succ]
    refine wpAnyH_take (i := 6) (v := .func (.func 38) #[] #[.pointer (some ⟨Cb, 0, none⟩)]) (get_ops _ _ _ rfl) (by kernel_rfl) (by kernel_rfl) (by kernel_rfl) (fun _ _ _ h => h) (Or.inl ⟨by rfl, fun wS hSw => by (try dsimp only at hSw); have cS : wS.cell? ⟨Z, 0, none⟩ = some (.func (.func 38) #[] #[.pointer (some ⟨Cb, 0, none⟩)]) := hSw.2.2.2.1.cell 0 rfl; clear hSw; go_simp⟩) hHeld ?_
    try simp only [Act.put, List.setIfInBounds_toArray, List.set_cons_zero, List.set_cons_succ]
    refine wpAnyH_take (i := 7) (v := .pointer (some ⟨w.heap.size, 3, none⟩)) (get_ops _ _ _ rfl) (by kernel_rfl) (by kernel_rfl) (by kernel_rfl) (fun _ _ _ h => h) (Or.inl ⟨by rfl, fun wS hSw => by (try dsimp only at hSw); go_simp⟩) hHeld ?_
    try simp only [Act.put, List.setIfInBounds_toArray, List.set_cons_zero, List.set_cons_succ]
    refine wpAnyH_take (i := 8) (v := .string fi) (get_ops _ _ _ rfl) (by kernel_rfl) (by kernel_rfl) (by kernel_rfl) (fun _ _ _ h => h) (Or.inl ⟨by rfl, fun wS hSw => by (try dsimp only at hSw); have cS : wS.cell? ⟨w.heap.size, 3, none⟩ = some (.string fi) := hSw.1.cell 3 rfl; clear hSw; go_simp⟩) hHeld ?_
    try simp only [Act.put, List.setIfInBounds_toArray, List.set_cons_zero, List.set_cons_succ]
    refine wpAnyH_take (i := 9) (v := (whV c u)) (get_ops _ _ _ rfl) (by kernel_rfl) (by kernel_rfl) (by kernel_rfl) (fun _ _ _ h => h) (Or.inl ⟨by rfl, fun wS hSw => by (try dsimp only at hSw); exact exec_load 28 _ rfl ⟨P, 0, none⟩ (by go_simp) _ (S2.run_load_all (vs := [.string c, .string u]) hSw.2.1 Tryd.underlying28 rfl whoSize)⟩) hHeld ?_
    try simp only [Act.put, List.setIfInBounds_toArray, List.set_cons_zero, List.set_cons_succ]
    refine wpAnyH_ready (rs := [10]) (by kernel_rfl) (by simp) ?_
    refine (AllReadyH.cons (get_ops _ _ _ rfl) (fun K hK => ?_) AllReadyH.nil)
    go_simp
    refine (HEX.out x2 O_x2.out).mono ?_
    rintro e x3 ⟨rfl, hb⟩
    have X_x3 : Hid (BK 42 x3 w.heap.size (gR ⟨al, us, an, fi⟩)) := Lib.hid (X_x2.out.step hb)
    have B_x3 : Hid (Below w.heap.size w x3) := Lib.hid (stepB B_x2.out hb)
    have O_x3 : Hid (Okw x3) := Lib.hid (O_x2.out.step hb)
    have P_x3 : Hid (BK T1 x3 P [.string c, .string u]) := Lib.hid (P_x2.out.step hb)
    have Q_x3 : Hid (BK T2 x3 Q [.int .i64 ac]) := Lib.hid (Q_x2.out.step hb)
    have Z_x3 : Hid (BK T3 x3 Z [.func (.func 38) #[] #[.pointer (some ⟨Cb, 0, none⟩)]]) := Lib.hid (Z_x2.out.step hb)
    have C_x3 : Hid (BK T4 x3 Cb [.string o]) := Lib.hid (C_x2.out.step hb)
    clear X_x2 B_x2 O_x2 P_x2 Q_x2 Z_x2 C_x2
    clear hHeld hb
    go_wp2_with fail
    refine hK.out _ _ ⟨X_x3.out, P_x3.out, Q_x3.out, Z_x3.out, C_x3.out⟩ (fun hHeld => ?_)
    clear hK K
    try simp only [Act.put, List.setIfInBounds_toArray, List.set_cons_zero, List.set_cons_succ]
    refine wpAnyH_ready (rs := [11]) (by kernel_rfl) (by simp) ?_
    refine (AllReadyH.cons (get_ops _ _ _ rfl) (fun K hK => ?_) AllReadyH.nil)
    go_simp
    refine (HAP.out x3 O_x3.out (C_x3.out.cell 0 rfl)).mono ?_
    rintro e x4 ⟨rfl, hb⟩
    have X_x4 : Hid (BK 42 x4 w.heap.size (gR ⟨al, us, an, fi⟩)) := Lib.hid (X_x3.out.step hb)
    have B_x4 : Hid (Below w.heap.size w x4) := Lib.hid (stepB B_x3.out hb)
    have O_x4 : Hid (Okw x4) := Lib.hid (O_x3.out.step hb)
    have P_x4 : Hid (BK T1 x4 P [.string c, .string u]) := Lib.hid (P_x3.out.step hb)
    have Q_x4 : Hid (BK T2 x4 Q [.int .i64 ac]) := Lib.hid (Q_x3.out.step hb)
    have Z_x4 : Hid (BK T3 x4 Z [.func (.func 38) #[] #[.pointer (some ⟨Cb, 0, none⟩)]]) := Lib.hid (Z_x3.out.step hb)
    have C_x4 : Hid (BK T4 x4 Cb [.string o]) := Lib.hid (C_x3.out.step hb)
    clear X_x3 B_x3 O_x3 P_x3 Q_x3 Z_x3 C_x3
    clear hHeld hb
    go_wp2_with fail
    refine hK.out _ _ ⟨X_x4.out, P_x4.out, Q_x4.out, Z_x4.out, C_x4.out⟩ (fun hHeld => ?_)
    clear hK K
    try simp only [Act.put, List.setIfInBounds_toArray, List.set_cons_zero, List.set_cons_succ]
    refine wpAnyH_take (i := 12) (v := .bool b2) (get_ops _ _ _ rfl) (by kernel_rfl) (by kernel_rfl) (by kernel_rfl) (fun _ _ _ h => h) (Or.inl ⟨by rfl, fun wS hSw => by (try dsimp only at hSw); go_simp⟩) hHeld ?_
    try simp only [Act.put, List.setIfInBounds_toArray, List.set_cons_zero, List.set_cons_succ]
    refine wpAnyH_take (i := 13) (v := .bool b2) (get_ops _ _ _ rfl) (by kernel_rfl) (by kernel_rfl) (by kernel_rfl) (fun _ _ _ h => h) (Or.inl ⟨by rfl, fun wS hSw => by (try dsimp only at hSw); go_simp⟩) hHeld ?_
    try simp only [Act.put, List.setIfInBounds_toArray, List.set_cons_zero, List.set_cons_succ]
    refine wpAnyH_done (by kernel_rfl) ?_ _
    go_wp2_with fail
    go_ret
    exact ⟨rfl, B_x4.out⟩
/-- a place that a search over rules answers -/
def RetIxR (p : Rl → Bool) (xs : List Rl) (w : World) (e : Ending) (w' : World) : Prop := ∃ k : Int, e = .returned (.int .i64 k) ∧ ((k = -1 ∧ xs.find? p = none) ∨ ∃ (j : Nat) (x : Rl), k = (j : Int) ∧ xs[j]? = some x ∧ xs.find? p = some x) ∧ Below w.heap.size w w'

set_option maxRecDepth 20000 in
set_option maxHeartbeats 2000000 in
theorem idxRF_any (A : Option Addr) (cc : Nat) (xs : List Rl) (a1 a2 a3 : Value) (p : Rl → Bool) (w : World) (h : RL w w.heap.size A xs) (hn : xs.length ≤ 140737488355328)
    (hp : ∀ x ∈ xs, ∀ w1, Below w.heap.size w w1 → Calls Tryd.prog 58 #[rlV x, a1, a2, a3] w1 fun e w' => e = .returned (.bool (p x)) ∧ Below w1.heap.size w1 w') :
    Calls Tryd.prog 57 #[.slice A xs.length cc, .func (.func 58) #[] #[a1, a2, a3]] w (RetIxR p xs w) := by
  have HS := Lib.hid h
  have HP := Lib.hid hp
  clear h hp
  go_enter Tryd.func57, Tryd.ntmps57
  go_wp2
  go_loopg [8] xs.length (fun g v wr => ∃ k : Nat, k + g = xs.length ∧ v = .int .i64 k ∧ (xs.take k).find? p = none ∧ Below w.heap.size w wr)
  case atStart => exact ⟨0, by omega, rfl, rfl, Below.refl _ _⟩
  case round =>
    obtain ⟨k, hkg, rfl, hrel, hb0⟩ := hrel
    have HREL := Lib.hid hrel
    have HB0 := Lib.hid hb0
    have HG := Lib.hid hkg
    clear hrel hb0
    cases gk with
    | zero =>
      obtain rfl : k = xs.length := by omega
      have HF : Hid (xs.find? p = none) := Lib.hid (by have := HREL.out; rwa [List.take_length] at this)
      clear hkg
      go_wp2
      go_ret
      exact ⟨_, rfl, .inl ⟨rfl, HF.out⟩, HB0.out⟩
    | succ g =>
      have hlt : k < xs.length := by omega
      have e3 : decide ((k : Int) < (xs.length : Int)) = true := decide_eq_true (by omega)
      obtain ⟨x, hx⟩ : ∃ x, xs[k]? = some x := ⟨_, List.getElem?_eq_getElem hlt⟩
      obtain ⟨b, o, hA, hbB, hc⟩ := RL.at_ (GL.step HS.out HB0.out) hx
      have HLD := Lib.hid (load_rule hc)
      subst hA
      have j1 : (0 : Int) ≤ (k : Int) := by omega
      have j2 : (k : Int) < (xs.length : Int) := by omega
      have HCL := Lib.hid (HP.out x (List.mem_of_getElem? hx) wr HB0.out)
      have HY := Lib.hid (@find_step p xs k x hx HREL.out)
      have HNN := Lib.hid (@find_no p xs k x hx HREL.out)
      have HX := Lib.hid hx
      obtain ⟨bp, hbp⟩ : ∃ z, p x = z := ⟨_, rfl⟩
      rw [hbp] at HCL HY HNN
      clear hx hc hbB hkg hbp
      cases bp with
      | true =>
        go_wp2_with first
          | (refine wpList_load_v (by rfl) 42 _ rfl ⟨b, o + k * 4, none⟩ (by go_simp) _ HLD.out ?_)
        refine HCL.out.mono ?_
        rintro e w1 ⟨rfl, hb⟩
        have HB1 := Lib.hid (stepB HB0.out hb)
        clear hb
        go_wp2
        go_ret
        exact ⟨_, rfl, .inr ⟨k, x, rfl, HX.out, HY.out (by simp)⟩, HB1.out⟩
      | false =>
        go_wp2_with first
          | (refine wpList_load_v (by rfl) 42 _ rfl ⟨b, o + k * 4, none⟩ (by go_simp) _ HLD.out ?_)
        refine HCL.out.mono ?_
        rintro e w1 ⟨rfl, hb⟩
        have HB1 := Lib.hid (stepB HB0.out hb)
        clear hb
        go_wp2
        go_roundg g
        case measure => omega
        case rel => exact ⟨k + 1, by have := HG.out; omega, by go_num, HNN.out (by simp), HB1.out⟩
end Go.Proofs.YtoakhkiiefiebaaDoor.S1
