/-
  TunnelPeeks and TunnelNews answer true, walked. Conditions: the bytes read as data; so many bytes fit a slice.
-/
import Derived.Test.YtaaginkafadhdabGreatDoorTunW
import Derived.Deep.RegionHeld3
import Derived.Laws.Rows
import Derived.Laws.CopyRow
namespace Go.Proofs.YtaaginkafadhdabGreatDoor
open Go.RowKit

theorem infoT : (Tryz.prog.info? 23).map (·.size) = some 4 := by kernel_rfl
theorem get_ops (l : List Oper) (i : Nat) (o : Oper) (h : l[i]? = some o) : l.toArray[i]? = some o := by rw [List.getElem?_toArray]; exact h
theorem exec_load {P : Program} {o : Oper} {ev : Operand → Value} {w : World} (ty : TypeId) (x : Operand) (ho : o.op = .load ty x) (p : Addr) (hx : ev x = .pointer (some p)) (v : Value) (h : (loadVar ty p).run P w = .ok v w) :
    (execOp ev o).run P w = .ok (.value v) w := by
  unfold execOp
  simp only [ho, hx, Instr.loadAt, Instr.sureAddr, Sem.run_bind, Sem.run_pure, Result.andThen_ok, h]
/-- a tunnel's block -/
def BT (w : World) (M : Nat) (vs : List Value) : Prop := w.heap[M]? = some (.cells vs.toArray 23 (0, 0))
theorem BT.cell {w : World} {M : Nat} {vs : List Value} (h : BT w M vs) (j : Nat) : w.cell? ⟨M, j, none⟩ = vs[j]? := by unfold BT at h; simp [World.cell?, h]
theorem BT.step {w w' : World} {M : Nat} {vs : List Value} (h : BT w M vs) (hb : Below w.heap.size w w') : BT w' M vs := (hb.block _ (Array.getElem?_eq_some_iff.1 h).1).trans h

set_option maxHeartbeats 2000000 in
theorem tunnelPeeks_walk (A : Option Addr) (c : Nat) (l : List UInt8) (w : World) (hsl : CL bv w w.heap.size A l) (hc : l.length ≤ c) (hn : l.length ≤ 140737488355328) :
    Calls Tryz.prog 4 #[.slice A l.length c] w fun e w' => e = .returned (.bool true) ∧ Below w.heap.size w w' := by
  have HP := Lib.hid (tPeek_any A c l w hsl hc hn)
  have HR := Lib.hid (fun w h => rPeek_any A c l w h hc hn)
  have HS := Lib.hid hsl
  by_cases h6 : 6000 < l.length
  · have q : decide ((6000 : Int) < (l.length : Int)) = true := decide_eq_true (by omega)
    have q' : decide (6000 < l.length) = true := decide_eq_true h6
    clear hsl hc hn h6 HP HR HS
    go_enter Tryz.func4, Tryz.ntmps4
    go_wp2_with fail
    refine (awake9_any _).mono ?_
    rintro e w1 ⟨rfl, hb⟩
    go_wp2_with fail
    go_ret
    exact ⟨rfl, hb⟩
  · have q : decide ((6000 : Int) < (l.length : Int)) = false := decide_eq_false (by omega)
    have q' : decide (6000 < l.length) = false := decide_eq_false h6
    generalize openT l = r at HP HR
    obtain ⟨n, m, T, e⟩ := r
    clear hsl hc hn h6
    go_enter Tryz.func4, Tryz.ntmps4
    go_wp2_with fail
    refine HP.out.mono ?_
    rintro e1 w1 ⟨rfl, hb1⟩
    have HB1 := Lib.hid hb1
    have HS1 := Lib.hid (HS.out.step hb1)
    clear hb1 HS HP
    go_wp2_with fail
    refine (HR.out _ HS1.out).mono ?_
    rintro e2 w2 ⟨rfl, hb2⟩
    have HB2 := Lib.hid (stepB HB1.out hb2)
    clear hb2 HB1 HS1 HR
    go_wp2_with fail
    refine (awake9_any _).mono ?_
    rintro e3 w3 ⟨rfl, hb3⟩
    have HB3 := Lib.hid (stepB HB2.out hb3)
    clear hb3 HB2
    go_wp2_with fail
    go_ret
    exact ⟨rfl, HB3.out⟩

set_option maxRecDepth 20000 in
set_option maxHeartbeats 8000000 in
theorem tunnelNews_walk (c s g : Int) (x : Bool) (w : World) : Calls Tryz.prog 3 #[tV c s g x] w fun e w' => e = .returned (.bool true) ∧ Below w.heap.size w w' := by
  unfold tV
  obtain ⟨w1, hw1⟩ : ∃ w1, w1 = w.alloc (.cells #[.int .i64 c, .int .i64 s, .int .i64 g, .bool x] 23) := ⟨_, rfl⟩
  have HBw1 : Hid (Below w.heap.size w w1) := Lib.hid (by rw [hw1]; exact (Below.refl _ _).alloc (Nat.le_refl _) _)
  have HMw1 : Hid (BT w1 w.heap.size (tC c s g x)) := Lib.hid (by rw [hw1]; exact heap_alloc_new w _)
  have HW1 := Lib.hid hw1
  clear hw1
  go_enter Tryz.func3, Tryz.ntmps3
  go_upto_region 1 with fail
  rw [← HW1.out]
  obtain ⟨v1, hv1⟩ : ∃ v1, v1 = World.drew w1 := ⟨_, rfl⟩
  have hbD : Below w1.heap.size w1 v1 := by rw [hv1]; exact (Below.refl _ _).drew
  have HBv1 : Hid (Below w.heap.size w v1) := Lib.hid (stepB HBw1.out hbD)
  have HMv1 : Hid (BT v1 w.heap.size (tC c s g x)) := Lib.hid (BT.step HMw1.out hbD)
  clear HBw1 HMw1
  have hbd : (fun w' => BT w' w.heap.size (tC c s g x)) (World.drew w1) := by rw [← hv1]; exact HMv1.out
  have hSD : (fun w' => BT w' w.heap.size (tC c s g x)) v1 := HMv1.out
  have HWD := Lib.hid hv1
  clear hv1 hbD
  refine wp_region_held_drew (S := fun w' => BT w' w.heap.size (tC c s g x)) (by kernel_rfl) hbd (fun hHeld => ?_)
  rw [← HWD.out]
  clear hHeld
  have hHeld := hSD
  clear hSD hbd HWD
  refine wpAnyH_take (i := 0) (v := .pointer (some ⟨w.heap.size, 0, none⟩)) (get_ops _ _ _ rfl) (by kernel_rfl) (by kernel_rfl) (by kernel_rfl) (fun _ _ _ h => h) (Or.inl ⟨by rfl, fun wS hSw => by (try dsimp only at hSw); go_simp⟩) hHeld ?_
  try simp only [Act.put, List.setIfInBounds_toArray, List.set_cons_zero, List.set_cons_succ]
  refine wpAnyH_take (i := 1) (v := .int .i64 c) (get_ops _ _ _ rfl) (by kernel_rfl) (by kernel_rfl) (by kernel_rfl) (fun _ _ _ h => h) (Or.inl ⟨by rfl, fun wS hSw => by (try dsimp only at hSw); have cS : wS.cell? ⟨w.heap.size, 0, none⟩ = some (.int .i64 c) := hSw.cell 0; clear hSw; go_simp⟩) hHeld ?_
  try simp only [Act.put, List.setIfInBounds_toArray, List.set_cons_zero, List.set_cons_succ]
  refine wpAnyH_take (i := 3) (v := .pointer (some ⟨w.heap.size, 0, none⟩)) (get_ops _ _ _ rfl) (by kernel_rfl) (by kernel_rfl) (by kernel_rfl) (fun _ _ _ h => h) (Or.inl ⟨by rfl, fun wS hSw => by (try dsimp only at hSw); go_simp⟩) hHeld ?_
  try simp only [Act.put, List.setIfInBounds_toArray, List.set_cons_zero, List.set_cons_succ]
  refine wpAnyH_take (i := 4) (v := .int .i64 c) (get_ops _ _ _ rfl) (by kernel_rfl) (by kernel_rfl) (by kernel_rfl) (fun _ _ _ h => h) (Or.inl ⟨by rfl, fun wS hSw => by (try dsimp only at hSw); have cS : wS.cell? ⟨w.heap.size, 0, none⟩ = some (.int .i64 c) := hSw.cell 0; clear hSw; go_simp⟩) hHeld ?_
  try simp only [Act.put, List.setIfInBounds_toArray, List.set_cons_zero, List.set_cons_succ]
  refine wpAnyH_ready (rs := [2]) (by kernel_rfl) (by simp) ?_
  refine (AllReadyH.cons (get_ops _ _ _ rfl) (fun K hK => ?_) AllReadyH.nil)
  go_simp
  go_at_call 5
  refine (tNew_any c v1).mono ?_
  rintro e v2 ⟨rfl, hb⟩
  have HBv2 : Hid (Below w.heap.size w v2) := Lib.hid (stepB HBv1.out hb)
  have HMv2 : Hid (BT v2 w.heap.size (tC c s g x)) := Lib.hid (BT.step HMv1.out hb)
  clear HBv1 HMv1
  clear hHeld hb
  go_wp2_with fail
  refine hK.out _ _ HMv2.out (fun hHeld => ?_)
  clear hK K
  try simp only [Act.put, List.setIfInBounds_toArray, List.set_cons_zero, List.set_cons_succ]
  refine wpAnyH_ready (rs := [5]) (by kernel_rfl) (by simp) ?_
  refine (AllReadyH.cons (get_ops _ _ _ rfl) (fun K hK => ?_) AllReadyH.nil)
  go_simp
  go_at_call 6
  refine (rNew_any c v2).mono ?_
  rintro e v3 ⟨rfl, hb⟩
  have HBv3 : Hid (Below w.heap.size w v3) := Lib.hid (stepB HBv2.out hb)
  have HMv3 : Hid (BT v3 w.heap.size (tC c s g x)) := Lib.hid (BT.step HMv2.out hb)
  clear HBv2 HMv2
  clear hHeld hb
  go_wp2_with fail
  refine hK.out _ _ HMv3.out (fun hHeld => ?_)
  clear hK K
  try simp only [Act.put, List.setIfInBounds_toArray, List.set_cons_zero, List.set_cons_succ]
  refine wpAnyH_take (i := 6) (v := .bool true) (get_ops _ _ _ rfl) (by kernel_rfl) (by kernel_rfl) (by kernel_rfl) (fun _ _ _ h => h) (Or.inl ⟨by rfl, fun wS hSw => by (try dsimp only at hSw); unfold tV; go_simp⟩) hHeld ?_
  try simp only [Act.put, List.setIfInBounds_toArray, List.set_cons_zero, List.set_cons_succ]
  refine wpAnyH_take (i := 7) (v := .bool true) (get_ops _ _ _ rfl) (by kernel_rfl) (by kernel_rfl) (by kernel_rfl) (fun _ _ _ h => h) (Or.inl ⟨by rfl, fun wS hSw => by (try dsimp only at hSw); go_simp⟩) hHeld ?_
  try simp only [Act.put, List.setIfInBounds_toArray, List.set_cons_zero, List.set_cons_succ]
  refine wpAnyH_take (i := 8) (v := .agg (tC c s g x).toArray) (get_ops _ _ _ rfl) (by kernel_rfl) (by kernel_rfl) (by kernel_rfl) (fun _ _ _ h => h) (Or.inl ⟨by rfl, fun wS hSw => by (try dsimp only at hSw); exact exec_load 23 _ rfl ⟨w.heap.size, 0, none⟩ (by go_simp) _ (run_loadVar_row wS w.heap.size 23 23 _ (0, 0) _ hSw Tryz.underlying23 rfl infoT)⟩) hHeld ?_
  try simp only [Act.put, List.setIfInBounds_toArray, List.set_cons_zero, List.set_cons_succ]
  refine wpAnyH_take (i := 10) (v := .agg (tC c s g x).toArray) (get_ops _ _ _ rfl) (by kernel_rfl) (by kernel_rfl) (by kernel_rfl) (fun _ _ _ h => h) (Or.inl ⟨by rfl, fun wS hSw => by (try dsimp only at hSw); exact exec_load 23 _ rfl ⟨w.heap.size, 0, none⟩ (by go_simp) _ (run_loadVar_row wS w.heap.size 23 23 _ (0, 0) _ hSw Tryz.underlying23 rfl infoT)⟩) hHeld ?_
  try simp only [Act.put, List.setIfInBounds_toArray, List.set_cons_zero, List.set_cons_succ]
  refine wpAnyH_ready (rs := [9]) (by kernel_rfl) (by simp) ?_
  refine (AllReadyH.cons (get_ops _ _ _ rfl) (fun K hK => ?_) AllReadyH.nil)
  go_simp
  go_at_call 7
  refine (tBreak_any c s g x v3).mono ?_
  rintro e v4 ⟨rfl, hb⟩
  have HBv4 : Hid (Below w.heap.size w v4) := Lib.hid (stepB HBv3.out hb)
  have HMv4 : Hid (BT v4 w.heap.size (tC c s g x)) := Lib.hid (BT.step HMv3.out hb)
  clear HBv3 HMv3
  clear hHeld hb
  go_wp2_with fail
  refine hK.out _ _ HMv4.out (fun hHeld => ?_)
  clear hK K
  try simp only [Act.put, List.setIfInBounds_toArray, List.set_cons_zero, List.set_cons_succ]
  refine wpAnyH_ready (rs := [11]) (by kernel_rfl) (by simp) ?_
  refine (AllReadyH.cons (get_ops _ _ _ rfl) (fun K hK => ?_) AllReadyH.nil)
  go_simp
  go_at_call 8
  refine (rBreak_any c s g x v4).mono ?_
  rintro e v5 ⟨rfl, hb⟩
  have HBv5 : Hid (Below w.heap.size w v5) := Lib.hid (stepB HBv4.out hb)
  have HMv5 : Hid (BT v5 w.heap.size (tC c s g x)) := Lib.hid (BT.step HMv4.out hb)
  clear HBv4 HMv4
  clear hHeld hb
  go_wp2_with fail
  refine hK.out _ _ HMv5.out (fun hHeld => ?_)
  clear hK K
  try simp only [Act.put, List.setIfInBounds_toArray, List.set_cons_zero, List.set_cons_succ]
  refine wpAnyH_take (i := 12) (v := .bool true) (get_ops _ _ _ rfl) (by kernel_rfl) (by kernel_rfl) (by kernel_rfl) (fun _ _ _ h => h) (Or.inl ⟨by rfl, fun wS hSw => by (try dsimp only at hSw); unfold tV; go_simp⟩) hHeld ?_
  try simp only [Act.put, List.setIfInBounds_toArray, List.set_cons_zero, List.set_cons_succ]
  refine wpAnyH_take (i := 13) (v := .bool true) (get_ops _ _ _ rfl) (by kernel_rfl) (by kernel_rfl) (by kernel_rfl) (fun _ _ _ h => h) (Or.inl ⟨by rfl, fun wS hSw => by (try dsimp only at hSw); go_simp⟩) hHeld ?_
  try simp only [Act.put, List.setIfInBounds_toArray, List.set_cons_zero, List.set_cons_succ]
  refine wpAnyH_take (i := 14) (v := .bool true) (get_ops _ _ _ rfl) (by kernel_rfl) (by kernel_rfl) (by kernel_rfl) (fun _ _ _ h => h) (Or.inl ⟨by rfl, fun wS hSw => by (try dsimp only at hSw); go_simp⟩) hHeld ?_
  try simp only [Act.put, List.setIfInBounds_toArray, List.set_cons_zero, List.set_cons_succ]
  refine wpAnyH_ready (rs := [15]) (by kernel_rfl) (by simp) ?_
  refine (AllReadyH.cons (get_ops _ _ _ rfl) (fun K hK => ?_) AllReadyH.nil)
  go_simp
  go_at_call 9
  refine (awake9_any v5).mono ?_
  rintro e v6 ⟨rfl, hb⟩
  have HBv6 : Hid (Below w.heap.size w v6) := Lib.hid (stepB HBv5.out hb)
  have HMv6 : Hid (BT v6 w.heap.size (tC c s g x)) := Lib.hid (BT.step HMv5.out hb)
  clear HBv5 HMv5
  clear hHeld hb
  go_wp2_with fail
  refine hK.out _ _ HMv6.out (fun hHeld => ?_)
  clear hK K
  try simp only [Act.put, List.setIfInBounds_toArray, List.set_cons_zero, List.set_cons_succ]
  refine wpAnyH_take (i := 16) (v := .bool true) (get_ops _ _ _ rfl) (by kernel_rfl) (by kernel_rfl) (by kernel_rfl) (fun _ _ _ h => h) (Or.inl ⟨by rfl, fun wS hSw => by (try dsimp only at hSw); go_simp⟩) hHeld ?_
  try simp only [Act.put, List.setIfInBounds_toArray, List.set_cons_zero, List.set_cons_succ]
  refine wpAnyH_take (i := 17) (v := .bool true) (get_ops _ _ _ rfl) (by kernel_rfl) (by kernel_rfl) (by kernel_rfl) (fun _ _ _ h => h) (Or.inl ⟨by rfl, fun wS hSw => by (try dsimp only at hSw); go_simp⟩) hHeld ?_
  try simp only [Act.put, List.setIfInBounds_toArray, List.set_cons_zero, List.set_cons_succ]
  refine wpAnyH_done (by kernel_rfl) ?_ _
  go_wp2
  go_ret
  exact ⟨rfl, HBv6.out⟩

end Go.Proofs.YtaaginkafadhdabGreatDoor
