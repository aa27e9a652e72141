/-
  MessageChecks answers true, walked: Check and Expired of the program and of the specification answer alike. Conditions: the tables of package unicode/utf8 are there; the properties lie below the heap's end.
-/
import Derived.Test.YtlkkdompcbdbeaaDoorAwake5
namespace Go.Proofs.YtlkkdompcbdbeaaDoor
open Go.RowKit

set_option maxRecDepth 50000 in
set_option maxHeartbeats 16000000 in
theorem messageChecks_walk (m : Msg) (A : Option Addr) (c : Nat) (now : Int) (w : World) (hw : S1.Okw w) (hsl : PL w w.heap.size A m.props) :
    Calls Tryd.prog 6 #[msgV m A c, .int .i64 now] w fun e w' => e = .returned (.bool true) ∧ Below w.heap.size w w' := by
  have HC1 : Hid (∀ w, S1.Okw w → PL w w.heap.size A m.props → Calls Tryd.prog 22 #[msgV m A c] w fun e w' => e = .returned (.int .i64 (checkR m)) ∧ Below w.heap.size w w') := Lib.hid (fun w h1 h2 => check_any m A c w h1 h2)
  have HC2 : Hid (smallR m = true → ∀ w, PL w w.heap.size A m.props → Calls Tryd.prog 23 #[msgV m A c] w fun e w' => e = .returned (.int .i64 (checkR m)) ∧ Below w.heap.size w w') := Lib.hid (fun hs w h2 => by
    obtain ⟨p1, _, p3, _, p5⟩ := small_parts hs
    exact rCheck_any m A c w h2 (by omega) (by omega) (fun x hx => by have := p5 x hx; omega))
  have HE1 : Hid (∀ w, Calls Tryd.prog 24 #[msgV m A c, .int .i64 now] w fun e w' => e = .returned (.bool (expiredR m now)) ∧ Below w.heap.size w w') := Lib.hid (fun w => expired_any m A c now w)
  have HE2 : Hid (∀ w, Calls Tryd.prog 25 #[msgV m A c, .int .i64 now] w fun e w' => e = .returned (.bool (expiredR m now)) ∧ Below w.heap.size w w') := Lib.hid (fun w => rExpired_any m A c now w)
  have HM : Hid (∀ w, PL w w.heap.size A m.props → Calls Tryd.prog 21 #[msgV m A c] w fun e w' => e = .returned (.bool (smallR m)) ∧ Below w.heap.size w w') := Lib.hid (fun w h => small_any m A c w h)
  unfold msgV at HC1 HC2 HE1 HE2 HM ⊢
  have HW := Lib.hid hw
  obtain ⟨w1, hw1⟩ : ∃ w1, w1 = w.alloc (.cells #[.string m.topic, .string m.payload, .int .i64 m.level, .bool m.retain, .int .i64 m.prio, .int .i64 m.exps, .string m.frm, .int .i64 m.seq, .slice A m.props.length c] 36) := ⟨_, rfl⟩
  have hb1 : Below w.heap.size w w1 := by rw [hw1]; exact (Below.refl _ _).alloc (Nat.le_refl _) _
  have HBw1 := Lib.hid hb1
  have HPw1 := Lib.hid (hsl.step hb1)
  have HQw1 : Hid (MB w1 w.heap.size [.string m.topic, .string m.payload, .int .i64 m.level, .bool m.retain, .int .i64 m.prio, .int .i64 m.exps, .string m.frm, .int .i64 m.seq, .slice A m.props.length c]) := Lib.hid (by rw [hw1]; exact heap_alloc_new w _)
  have HW1 := Lib.hid hw1
  clear hw hsl hb1 hw1
  generalize checkR m = k at HC1 HC2
  generalize expiredR m now = x at HE1 HE2
  cases hs : smallR m with
  | false =>
    rw [hs] at HM
    clear HC1 HC2 HE1 HE2
    go_enter Tryd.func6, Tryd.ntmps6
    go_wp2_with fail
    rw [← HW1.out]
    refine (HM.out w1 HPw1.out).mono ?_
    rintro e w2 ⟨rfl, hb⟩
    have HBw2 := Lib.hid (stepB HBw1.out hb)
    clear hb
    go_wp2_with fail
    refine (awake5_any w2 (HW.out.step HBw2.out)).mono ?_
    rintro e we ⟨rfl, hb⟩
    have HBe := Lib.hid (stepB HBw2.out hb)
    go_wp2_with fail
    go_ret
    exact ⟨rfl, HBe.out⟩
  | true =>
    rw [hs] at HM
    have HC3 := Lib.hid (HC2.out hs)
    clear HC2 hs
    go_enter Tryd.func6, Tryd.ntmps6
    go_wp2_with fail
    rw [← HW1.out]
    refine (HM.out w1 HPw1.out).mono ?_
    rintro e w2 ⟨rfl, hb⟩
    have HBw2 : Hid (Below w.heap.size w w2) := Lib.hid (stepB HBw1.out hb)
    have HQw2 : Hid (MB w2 w.heap.size [.string m.topic, .string m.payload, .int .i64 m.level, .bool m.retain, .int .i64 m.prio, .int .i64 m.exps, .string m.frm, .int .i64 m.seq, .slice A m.props.length c]) := Lib.hid (MB.step HQw1.out hb)
    have HPw2 : Hid (PL w2 w2.heap.size A m.props) := Lib.hid (HPw1.out.step hb)
    clear HBw1 HQw1 HPw1
    clear hb HM
    go_upto_region 3 with fail
    obtain ⟨wD, hwD⟩ : ∃ wD, wD = World.drew w2 := ⟨_, rfl⟩
    have hbD : Below w2.heap.size w2 wD := by rw [hwD]; exact (Below.refl _ _).drew
    have HBwD : Hid (Below w.heap.size w wD) := Lib.hid (stepB HBw2.out hbD)
    have HQwD : Hid (MB wD w.heap.size [.string m.topic, .string m.payload, .int .i64 m.level, .bool m.retain, .int .i64 m.prio, .int .i64 m.exps, .string m.frm, .int .i64 m.seq, .slice A m.props.length c]) := Lib.hid (MB.step HQw2.out hbD)
    have HPwD : Hid (PL wD wD.heap.size A m.props) := Lib.hid (HPw2.out.step hbD)
    clear HBw2 HQw2 HPw2
    have hbd : (fun w' => MB w' w.heap.size [.string m.topic, .string m.payload, .int .i64 m.level, .bool m.retain, .int .i64 m.prio, .int .i64 m.exps, .string m.frm, .int .i64 m.seq, .slice A m.props.length c]) (World.drew w2) := by rw [← hwD]; exact HQwD.out
    have hSD : (fun w' => MB w' w.heap.size [.string m.topic, .string m.payload, .int .i64 m.level, .bool m.retain, .int .i64 m.prio, .int .i64 m.exps, .string m.frm, .int .i64 m.seq, .slice A m.props.length c]) wD := HQwD.out
    have HWD := Lib.hid hwD
    clear hwD hbD
    refine wp_region_held_drew (S := fun w' => MB w' w.heap.size [.string m.topic, .string m.payload, .int .i64 m.level, .bool m.retain, .int .i64 m.prio, .int .i64 m.exps, .string m.frm, .int .i64 m.seq, .slice A m.props.length c]) (by kernel_rfl) hbd (fun hHeld => ?_)
    rw [← HWD.out]
    clear hHeld
    have hHeld := hSD
    clear hSD hbd HWD
    refine wpAnyH_take (i := 0) (v := .agg #[.string m.topic, .string m.payload, .int .i64 m.level, .bool m.retain, .int .i64 m.prio, .int .i64 m.exps, .string m.frm, .int .i64 m.seq, .slice A m.props.length c]) (get_ops _ _ _ rfl) (by kernel_rfl) (by kernel_rfl) (by kernel_rfl) (fun _ _ _ h => h) (Or.inl ⟨by rfl, fun w hSw => by (try dsimp only at hSw); obtain ⟨c0, c1, c2, c3, c4, c5, c6, c7, c8⟩ := mb9 hSw; clear hSw; go_simp⟩) hHeld ?_
    try simp only [Act.put, List.setIfInBounds_toArray, List.set_cons_zero, List.set_cons_succ]
    refine wpAnyH_take (i := 2) (v := .agg #[.string m.topic, .string m.payload, .int .i64 m.level, .bool m.retain, .int .i64 m.prio, .int .i64 m.exps, .string m.frm, .int .i64 m.seq, .slice A m.props.length c]) (get_ops _ _ _ rfl) (by kernel_rfl) (by kernel_rfl) (by kernel_rfl) (fun _ _ _ h => h) (Or.inl ⟨by rfl, fun w hSw => by (try dsimp only at hSw); obtain ⟨c0, c1, c2, c3, c4, c5, c6, c7, c8⟩ := mb9 hSw; clear hSw; go_simp⟩) hHeld ?_
    try simp only [Act.put, List.setIfInBounds_toArray, List.set_cons_zero, List.set_cons_succ]
    refine wpAnyH_ready (rs := [1]) (by kernel_rfl) (by simp) ?_
    refine (AllReadyH.cons (get_ops _ _ _ rfl) (fun K hK => ?_) AllReadyH.nil)
    go_simp
    go_at_call 22
    refine (HC1.out wD (HW.out.step HBwD.out) HPwD.out).mono ?_
    rintro e v1 ⟨rfl, hb⟩
    have HBv1 : Hid (Below w.heap.size w v1) := Lib.hid (stepB HBwD.out hb)
    have HQv1 : Hid (MB v1 w.heap.size [.string m.topic, .string m.payload, .int .i64 m.level, .bool m.retain, .int .i64 m.prio, .int .i64 m.exps, .string m.frm, .int .i64 m.seq, .slice A m.props.length c]) := Lib.hid (MB.step HQwD.out hb)
    have HPv1 : Hid (PL v1 v1.heap.size A m.props) := Lib.hid (HPwD.out.step hb)
    clear HBwD HQwD HPwD
    clear hHeld hb
    go_wp2_with fail
    refine hK.out _ _ HQv1.out (fun hHeld => ?_)
    clear hK K
    try simp only [Act.put, List.setIfInBounds_toArray, List.set_cons_zero, List.set_cons_succ]
    refine wpAnyH_ready (rs := [3]) (by kernel_rfl) (by simp) ?_
    refine (AllReadyH.cons (get_ops _ _ _ rfl) (fun K hK => ?_) AllReadyH.nil)
    go_simp
    go_at_call 23
    refine (HC3.out v1 HPv1.out).mono ?_
    rintro e v2 ⟨rfl, hb⟩
    have HBv2 : Hid (Below w.heap.size w v2) := Lib.hid (stepB HBv1.out hb)
    have HQv2 : Hid (MB v2 w.heap.size [.string m.topic, .string m.payload, .int .i64 m.level, .bool m.retain, .int .i64 m.prio, .int .i64 m.exps, .string m.frm, .int .i64 m.seq, .slice A m.props.length c]) := Lib.hid (MB.step HQv1.out hb)
    have HPv2 : Hid (PL v2 v2.heap.size A m.props) := Lib.hid (HPv1.out.step hb)
    clear HBv1 HQv1 HPv1
    clear hHeld hb
    go_wp2_with fail
    refine hK.out _ _ HQv2.out (fun hHeld => ?_)
    clear hK K
    try simp only [Act.put, List.setIfInBounds_toArray, List.set_cons_zero, List.set_cons_succ]
    refine wpAnyH_take (i := 4) (v := .bool true) (get_ops _ _ _ rfl) (by kernel_rfl) (by kernel_rfl) (by kernel_rfl) (fun _ _ _ h => h) (Or.inl ⟨by rfl, fun w hSw => by (try dsimp only at hSw); go_simp⟩) hHeld ?_
    try simp only [Act.put, List.setIfInBounds_toArray, List.set_cons_zero, List.set_cons_succ]
    refine wpAnyH_take (i := 5) (v := .bool true) (get_ops _ _ _ rfl) (by kernel_rfl) (by kernel_rfl) (by kernel_rfl) (fun _ _ _ h => h) (Or.inl ⟨by rfl, fun w hSw => by (try dsimp only at hSw); go_simp⟩) hHeld ?_
    try simp only [Act.put, List.setIfInBounds_toArray, List.set_cons_zero, List.set_cons_succ]
    refine wpAnyH_take (i := 6) (v := .agg #[.string m.topic, .string m.payload, .int .i64 m.level, .bool m.retain, .int .i64 m.prio, .int .i64 m.exps, .string m.frm, .int .i64 m.seq, .slice A m.props.length c]) (get_ops _ _ _ rfl) (by kernel_rfl) (by kernel_rfl) (by kernel_rfl) (fun _ _ _ h => h) (Or.inl ⟨by rfl, fun w hSw => by (try dsimp only at hSw); obtain ⟨c0, c1, c2, c3, c4, c5, c6, c7, c8⟩ := mb9 hSw; clear hSw; go_simp⟩) hHeld ?_
    try simp only [Act.put, List.setIfInBounds_toArray, List.set_cons_zero, List.set_cons_succ]
    refine wpAnyH_take (i := 7) (v := .int .i64 now) (get_ops _ _ _ rfl) (by kernel_rfl) (by kernel_rfl) (by kernel_rfl) (fun _ _ _ h => h) (Or.inl ⟨by rfl, fun w hSw => by (try dsimp only at hSw); go_simp⟩) hHeld ?_
    try simp only [Act.put, List.setIfInBounds_toArray, List.set_cons_zero, List.set_cons_succ]
    refine wpAnyH_take (i := 9) (v := .agg #[.string m.topic, .string m.payload, .int .i64 m.level, .bool m.retain, .int .i64 m.prio, .int .i64 m.exps, .string m.frm, .int .i64 m.seq, .slice A m.props.length c]) (get_ops _ _ _ rfl) (by kernel_rfl) (by kernel_rfl) (by kernel_rfl) (fun _ _ _ h => h) (Or.inl ⟨by rfl, fun w hSw => by (try dsimp only at hSw); obtain ⟨c0, c1, c2, c3, c4, c5, c6, c7, c8⟩ := mb9 hSw; clear hSw; go_simp⟩) hHeld ?_
    try simp only [Act.put, List.setIfInBounds_toArray, List.set_cons_zero, List.set_cons_succ]
    refine wpAnyH_take (i := 10) (v := .int .i64 now) (get_ops _ _ _ rfl) (by kernel_rfl) (by kernel_rfl) (by kernel_rfl) (fun _ _ _ h => h) (Or.inl ⟨by rfl, fun w hSw => by (try dsimp only at hSw); go_simp⟩) hHeld ?_
    try simp only [Act.put, List.setIfInBounds_toArray, List.set_cons_zero, List.set_cons_succ]
    refine wpAnyH_ready (rs := [8]) (by kernel_rfl) (by simp) ?_
    refine (AllReadyH.cons (get_ops _ _ _ rfl) (fun K hK => ?_) AllReadyH.nil)
    go_simp
    go_at_call 24
    refine (HE1.out v2).mono ?_
    rintro e v3 ⟨rfl, hb⟩
    have HBv3 : Hid (Below w.heap.size w v3) := Lib.hid (stepB HBv2.out hb)
    have HQv3 : Hid (MB v3 w.heap.size [.string m.topic, .string m.payload, .int .i64 m.level, .bool m.retain, .int .i64 m.prio, .int .i64 m.exps, .string m.frm, .int .i64 m.seq, .slice A m.props.length c]) := Lib.hid (MB.step HQv2.out hb)
    have HPv3 : Hid (PL v3 v3.heap.size A m.props) := Lib.hid (HPv2.out.step hb)
    clear HBv2 HQv2 HPv2
    clear hHeld hb
    go_wp2_with fail
    refine hK.out _ _ HQv3.out (fun hHeld => ?_)
    clear hK K
    try simp only [Act.put, List.setIfInBounds_toArray, List.set_cons_zero, List.set_cons_succ]
    refine wpAnyH_ready (rs := [11]) (by kernel_rfl) (by simp) ?_
    refine (AllReadyH.cons (get_ops _ _ _ rfl) (fun K hK => ?_) AllReadyH.nil)
    go_simp
    go_at_call 25
    refine (HE2.out v3).mono ?_
    rintro e v4 ⟨rfl, hb⟩
    have HBv4 : Hid (Below w.heap.size w v4) := Lib.hid (stepB HBv3.out hb)
    have HQv4 : Hid (MB v4 w.heap.size [.string m.topic, .string m.payload, .int .i64 m.level, .bool m.retain, .int .i64 m.prio, .int .i64 m.exps, .string m.frm, .int .i64 m.seq, .slice A m.props.length c]) := Lib.hid (MB.step HQv3.out hb)
    have HPv4 : Hid (PL v4 v4.heap.size A m.props) := Lib.hid (HPv3.out.step hb)
    clear HBv3 HQv3 HPv3
    clear hHeld hb
    go_wp2_with fail
    refine hK.out _ _ HQv4.out (fun hHeld => ?_)
    clear hK K
    try simp only [Act.put, List.setIfInBounds_toArray, List.set_cons_zero, List.set_cons_succ]
    refine wpAnyH_take (i := 12) (v := .bool true) (get_ops _ _ _ rfl) (by kernel_rfl) (by kernel_rfl) (by kernel_rfl) (fun _ _ _ h => h) (Or.inl ⟨by rfl, fun w hSw => by (try dsimp only at hSw); go_simp⟩) hHeld ?_
    try simp only [Act.put, List.setIfInBounds_toArray, List.set_cons_zero, List.set_cons_succ]
    refine wpAnyH_take (i := 13) (v := .bool true) (get_ops _ _ _ rfl) (by kernel_rfl) (by kernel_rfl) (by kernel_rfl) (fun _ _ _ h => h) (Or.inl ⟨by rfl, fun w hSw => by (try dsimp only at hSw); go_simp⟩) hHeld ?_
    try simp only [Act.put, List.setIfInBounds_toArray, List.set_cons_zero, List.set_cons_succ]
    refine wpAnyH_take (i := 14) (v := .bool true) (get_ops _ _ _ rfl) (by kernel_rfl) (by kernel_rfl) (by kernel_rfl) (fun _ _ _ h => h) (Or.inl ⟨by rfl, fun w hSw => by (try dsimp only at hSw); go_simp⟩) hHeld ?_
    try simp only [Act.put, List.setIfInBounds_toArray, List.set_cons_zero, List.set_cons_succ]
    refine wpAnyH_ready (rs := [15]) (by kernel_rfl) (by simp) ?_
    refine (AllReadyH.cons (get_ops _ _ _ rfl) (fun K hK => ?_) AllReadyH.nil)
    go_simp
    go_at_call 13
    refine (awake5_any v4 (HW.out.step HBv4.out)).mono ?_
    rintro e v5 ⟨rfl, hb⟩
    have HBv5 : Hid (Below w.heap.size w v5) := Lib.hid (stepB HBv4.out hb)
    have HQv5 : Hid (MB v5 w.heap.size [.string m.topic, .string m.payload, .int .i64 m.level, .bool m.retain, .int .i64 m.prio, .int .i64 m.exps, .string m.frm, .int .i64 m.seq, .slice A m.props.length c]) := Lib.hid (MB.step HQv4.out hb)
    have HPv5 : Hid (PL v5 v5.heap.size A m.props) := Lib.hid (HPv4.out.step hb)
    clear HBv4 HQv4 HPv4
    clear hHeld hb
    go_wp2_with fail
    refine hK.out _ _ HQv5.out (fun hHeld => ?_)
    clear hK K
    try simp only [Act.put, List.setIfInBounds_toArray, List.set_cons_zero, List.set_cons_succ]
    refine wpAnyH_take (i := 16) (v := .bool true) (get_ops _ _ _ rfl) (by kernel_rfl) (by kernel_rfl) (by kernel_rfl) (fun _ _ _ h => h) (Or.inl ⟨by rfl, fun w hSw => by (try dsimp only at hSw); go_simp⟩) hHeld ?_
    try simp only [Act.put, List.setIfInBounds_toArray, List.set_cons_zero, List.set_cons_succ]
    refine wpAnyH_take (i := 17) (v := .bool true) (get_ops _ _ _ rfl) (by kernel_rfl) (by kernel_rfl) (by kernel_rfl) (fun _ _ _ h => h) (Or.inl ⟨by rfl, fun w hSw => by (try dsimp only at hSw); go_simp⟩) hHeld ?_
    try simp only [Act.put, List.setIfInBounds_toArray, List.set_cons_zero, List.set_cons_succ]
    refine wpAnyH_done (by kernel_rfl) ?_ _
    go_wp2
    go_ret
    exact ⟨rfl, HBv5.out⟩

end Go.Proofs.YtlkkdompcbdbeaaDoor
