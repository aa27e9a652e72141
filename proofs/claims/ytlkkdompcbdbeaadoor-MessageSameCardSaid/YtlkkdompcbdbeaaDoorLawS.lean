/-
  MessageSame answers true, walked: Same of the program and of the specification answer alike; a message is the same as itself, and the order does not count. Conditions: the tables of package unicode/utf8 are there; the properties lie below the heap's end.
-/
import Derived.Test.YtlkkdompcbdbeaaDoorAwake5
namespace Go.Proofs.YtlkkdompcbdbeaaDoor
open Go.RowKit

theorem sameM_comm (a b : Msg) : sameM b a = sameM a b := by unfold sameM; exact decide_eq_decide.2 ⟨Eq.symm, Eq.symm⟩
theorem sameM_self (a : Msg) : sameM a a = true := by simp [sameM]
set_option maxRecDepth 50000 in
set_option maxHeartbeats 16000000 in
theorem messageSame_walk (a b : Msg) (A A' : Option Addr) (c c' : Nat) (w : World) (hw : S1.Okw w) (hsl : PL w w.heap.size A a.props) (hsl' : PL w w.heap.size A' b.props) :
    Calls Tryd.prog 7 #[msgV a A c, msgV b A' c'] w fun e w' => e = .returned (.bool true) ∧ Below w.heap.size w w' := by
  have HMa : Hid (∀ w, PL w w.heap.size A a.props → Calls Tryd.prog 21 #[msgV a A c] w fun e w' => e = .returned (.bool (smallR a)) ∧ Below w.heap.size w w') := Lib.hid (fun w h => small_any a A c w h)
  have HMb : Hid (∀ w, PL w w.heap.size A' b.props → Calls Tryd.prog 21 #[msgV b A' c'] w fun e w' => e = .returned (.bool (smallR b)) ∧ Below w.heap.size w w') := Lib.hid (fun w h => small_any b A' c' w h)
  cases hs : smallR a with
  | false =>
    rw [hs] at HMa
    clear hs
    unfold msgV at HMa HMb ⊢
    obtain ⟨w1, hw1⟩ : ∃ w1, w1 = (w.alloc (.cells #[.string a.topic, .string a.payload, .int .i64 a.level, .bool a.retain, .int .i64 a.prio, .int .i64 a.exps, .string a.frm, .int .i64 a.seq, .slice A a.props.length c] 36)).alloc (.cells #[.string b.topic, .string b.payload, .int .i64 b.level, .bool b.retain, .int .i64 b.prio, .int .i64 b.exps, .string b.frm, .int .i64 b.seq, .slice A' b.props.length c'] 36) := ⟨_, rfl⟩
    have hb0 : Below w.heap.size w (w.alloc (.cells #[.string a.topic, .string a.payload, .int .i64 a.level, .bool a.retain, .int .i64 a.prio, .int .i64 a.exps, .string a.frm, .int .i64 a.seq, .slice A a.props.length c] 36)) := (Below.refl _ _).alloc (Nat.le_refl _) _
    have hb1 : Below w.heap.size w w1 := by rw [hw1]; exact hb0.alloc (by simp) _
    have HBw1 := Lib.hid hb1
    have HPw1 := Lib.hid (hsl.step hb1)
    have HOw1 := Lib.hid (hsl'.step hb1)
    have HQw1 : Hid (MB w1 w.heap.size [.string a.topic, .string a.payload, .int .i64 a.level, .bool a.retain, .int .i64 a.prio, .int .i64 a.exps, .string a.frm, .int .i64 a.seq, .slice A a.props.length c]) := Lib.hid (by rw [hw1]; unfold MB; rw [heap_alloc_old _ _ (by simp)]; exact heap_alloc_new w _)
    have HRw1 : Hid (MB w1 (w.heap.size + 1) [.string b.topic, .string b.payload, .int .i64 b.level, .bool b.retain, .int .i64 b.prio, .int .i64 b.exps, .string b.frm, .int .i64 b.seq, .slice A' b.props.length c']) := Lib.hid (by rw [hw1]; have := heap_alloc_new (w.alloc (.cells #[.string a.topic, .string a.payload, .int .i64 a.level, .bool a.retain, .int .i64 a.prio, .int .i64 a.exps, .string a.frm, .int .i64 a.seq, .slice A a.props.length c] 36)) (.cells #[.string b.topic, .string b.payload, .int .i64 b.level, .bool b.retain, .int .i64 b.prio, .int .i64 b.exps, .string b.frm, .int .i64 b.seq, .slice A' b.props.length c'] 36); rw [show (w.alloc (.cells #[.string a.topic, .string a.payload, .int .i64 a.level, .bool a.retain, .int .i64 a.prio, .int .i64 a.exps, .string a.frm, .int .i64 a.seq, .slice A a.props.length c] 36)).heap.size = w.heap.size + 1 by simp] at this; exact this)
    have HW1 := Lib.hid hw1
    have HW := Lib.hid hw
    clear hw hsl hsl' hb0 hb1 hw1
    go_enter Tryd.func7, Tryd.ntmps7
    go_wp2_with fail
    rw [← HW1.out]
    refine (HMa.out w1 HPw1.out).mono ?_
    rintro e w2 ⟨rfl, hb⟩
    have HBw2 := Lib.hid (stepB HBw1.out hb)
    clear hb
    go_wp2_with fail
    refine (awake5_any w2 (HW.out.step HBw2.out)).mono ?_
    rintro e we ⟨rfl, hb⟩
    have HBe := Lib.hid (stepB HBw2.out hb)
    go_wp2_with fail
    go_ret
    exact ⟨rfl, HBe.out⟩
  | true =>
  rw [hs] at HMa
  cases hs2 : smallR b with
  | false =>
    rw [hs2] at HMb
    clear hs hs2
    unfold msgV at HMa HMb ⊢
    obtain ⟨w1, hw1⟩ : ∃ w1, w1 = (w.alloc (.cells #[.string a.topic, .string a.payload, .int .i64 a.level, .bool a.retain, .int .i64 a.prio, .int .i64 a.exps, .string a.frm, .int .i64 a.seq, .slice A a.props.length c] 36)).alloc (.cells #[.string b.topic, .string b.payload, .int .i64 b.level, .bool b.retain, .int .i64 b.prio, .int .i64 b.exps, .string b.frm, .int .i64 b.seq, .slice A' b.props.length c'] 36) := ⟨_, rfl⟩
    have hb0 : Below w.heap.size w (w.alloc (.cells #[.string a.topic, .string a.payload, .int .i64 a.level, .bool a.retain, .int .i64 a.prio, .int .i64 a.exps, .string a.frm, .int .i64 a.seq, .slice A a.props.length c] 36)) := (Below.refl _ _).alloc (Nat.le_refl _) _
    have hb1 : Below w.heap.size w w1 := by rw [hw1]; exact hb0.alloc (by simp) _
    have HBw1 := Lib.hid hb1
    have HPw1 := Lib.hid (hsl.step hb1)
    have HOw1 := Lib.hid (hsl'.step hb1)
    have HQw1 : Hid (MB w1 w.heap.size [.string a.topic, .string a.payload, .int .i64 a.level, .bool a.retain, .int .i64 a.prio, .int .i64 a.exps, .string a.frm, .int .i64 a.seq, .slice A a.props.length c]) := Lib.hid (by rw [hw1]; unfold MB; rw [heap_alloc_old _ _ (by simp)]; exact heap_alloc_new w _)
    have HRw1 : Hid (MB w1 (w.heap.size + 1) [.string b.topic, .string b.payload, .int .i64 b.level, .bool b.retain, .int .i64 b.prio, .int .i64 b.exps, .string b.frm, .int .i64 b.seq, .slice A' b.props.length c']) := Lib.hid (by rw [hw1]; have := heap_alloc_new (w.alloc (.cells #[.string a.topic, .string a.payload, .int .i64 a.level, .bool a.retain, .int .i64 a.prio, .int .i64 a.exps, .string a.frm, .int .i64 a.seq, .slice A a.props.length c] 36)) (.cells #[.string b.topic, .string b.payload, .int .i64 b.level, .bool b.retain, .int .i64 b.prio, .int .i64 b.exps, .string b.frm, .int .i64 b.seq, .slice A' b.props.length c'] 36); rw [show (w.alloc (.cells #[.string a.topic, .string a.payload, .int .i64 a.level, .bool a.retain, .int .i64 a.prio, .int .i64 a.exps, .string a.frm, .int .i64 a.seq, .slice A a.props.length c] 36)).heap.size = w.heap.size + 1 by simp] at this; exact this)
    have HW1 := Lib.hid hw1
    have HW := Lib.hid hw
    clear hw hsl hsl' hb0 hb1 hw1
    go_enter Tryd.func7, Tryd.ntmps7
    go_wp2_with fail
    rw [← HW1.out]
    refine (HMa.out w1 HPw1.out).mono ?_
    rintro e w2 ⟨rfl, hb⟩
    have HBw2 : Hid (Below w.heap.size w w2) := Lib.hid (stepB HBw1.out hb)
    have HQw2 : Hid (MB w2 w.heap.size [.string a.topic, .string a.payload, .int .i64 a.level, .bool a.retain, .int .i64 a.prio, .int .i64 a.exps, .string a.frm, .int .i64 a.seq, .slice A a.props.length c]) := Lib.hid (MB.step HQw1.out hb)
    have HRw2 : Hid (MB w2 (w.heap.size + 1) [.string b.topic, .string b.payload, .int .i64 b.level, .bool b.retain, .int .i64 b.prio, .int .i64 b.exps, .string b.frm, .int .i64 b.seq, .slice A' b.props.length c']) := Lib.hid (MB.step HRw1.out hb)
    have HPw2 : Hid (PL w2 w2.heap.size A a.props) := Lib.hid (HPw1.out.step hb)
    have HOw2 : Hid (PL w2 w2.heap.size A' b.props) := Lib.hid (HOw1.out.step hb)
    clear HBw1 HQw1 HRw1 HPw1 HOw1
    clear hb
    obtain ⟨c0, c1, c2, c3, c4, c5, c6, c7, c8⟩ := mb9 HRw2.out
    go_wp2_with fail
    clear c0 c1 c2 c3 c4 c5 c6 c7 c8
    refine (HMb.out w2 HOw2.out).mono ?_
    rintro e w3 ⟨rfl, hb⟩
    have HBw3 := Lib.hid (stepB HBw2.out hb)
    clear hb
    go_wp2_with fail
    refine (awake5_any w3 (HW.out.step HBw3.out)).mono ?_
    rintro e we ⟨rfl, hb⟩
    have HBe := Lib.hid (stepB HBw3.out hb)
    go_wp2_with fail
    go_ret
    exact ⟨rfl, HBe.out⟩
  | true =>
  rw [hs2] at HMb
  have ha20 : a.props.length ≤ 20 := (small_parts hs).2.2.2.1
  have hb20 : b.props.length ≤ 20 := (small_parts hs2).2.2.2.1
  clear hs hs2
  have H1 : Hid (∀ w, PL w w.heap.size A a.props → PL w w.heap.size A' b.props → Calls Tryd.prog 26 #[msgV a A c, msgV b A' c'] w fun e w' => e = .returned (.bool (sameM a b)) ∧ Below w.heap.size w w') := Lib.hid (fun w h1 h2 => by
    have h3 := same_any a b A A' c c' w h1 h2 (by omega)
    exact h3)
  have H2 : Hid (∀ w, PL w w.heap.size A a.props → PL w w.heap.size A' b.props → Calls Tryd.prog 27 #[msgV a A c, msgV b A' c'] w fun e w' => e = .returned (.bool (sameM a b)) ∧ Below w.heap.size w w') := Lib.hid (fun w h1 h2 => by
    have h3 := rSame_any a b A A' c c' w h1 h2 (by omega)
    exact h3)
  have H3 : Hid (∀ w, PL w w.heap.size A a.props → PL w w.heap.size A a.props → Calls Tryd.prog 26 #[msgV a A c, msgV a A c] w fun e w' => e = .returned (.bool true) ∧ Below w.heap.size w w') := Lib.hid (fun w h1 h2 => by
    have h3 := same_any a a A A c c w h1 h2 (by omega)
    rw [sameM_self] at h3
    exact h3)
  have H4 : Hid (∀ w, PL w w.heap.size A' b.props → PL w w.heap.size A a.props → Calls Tryd.prog 26 #[msgV b A' c', msgV a A c] w fun e w' => e = .returned (.bool (sameM a b)) ∧ Below w.heap.size w w') := Lib.hid (fun w h1 h2 => by
    have h3 := same_any b a A' A c' c w h1 h2 (by omega)
    rw [sameM_comm a b] at h3
    exact h3)
  clear ha20 hb20
  generalize sameM a b = x at H1 H2 H4
  unfold msgV at HMa HMb H1 H2 H3 H4 ⊢
  obtain ⟨w1, hw1⟩ : ∃ w1, w1 = (w.alloc (.cells #[.string a.topic, .string a.payload, .int .i64 a.level, .bool a.retain, .int .i64 a.prio, .int .i64 a.exps, .string a.frm, .int .i64 a.seq, .slice A a.props.length c] 36)).alloc (.cells #[.string b.topic, .string b.payload, .int .i64 b.level, .bool b.retain, .int .i64 b.prio, .int .i64 b.exps, .string b.frm, .int .i64 b.seq, .slice A' b.props.length c'] 36) := ⟨_, rfl⟩
  have hb0 : Below w.heap.size w (w.alloc (.cells #[.string a.topic, .string a.payload, .int .i64 a.level, .bool a.retain, .int .i64 a.prio, .int .i64 a.exps, .string a.frm, .int .i64 a.seq, .slice A a.props.length c] 36)) := (Below.refl _ _).alloc (Nat.le_refl _) _
  have hb1 : Below w.heap.size w w1 := by rw [hw1]; exact hb0.alloc (by simp) _
  have HBw1 := Lib.hid hb1
  have HPw1 := Lib.hid (hsl.step hb1)
  have HOw1 := Lib.hid (hsl'.step hb1)
  have HQw1 : Hid (MB w1 w.heap.size [.string a.topic, .string a.payload, .int .i64 a.level, .bool a.retain, .int .i64 a.prio, .int .i64 a.exps, .string a.frm, .int .i64 a.seq, .slice A a.props.length c]) := Lib.hid (by rw [hw1]; unfold MB; rw [heap_alloc_old _ _ (by simp)]; exact heap_alloc_new w _)
  have HRw1 : Hid (MB w1 (w.heap.size + 1) [.string b.topic, .string b.payload, .int .i64 b.level, .bool b.retain, .int .i64 b.prio, .int .i64 b.exps, .string b.frm, .int .i64 b.seq, .slice A' b.props.length c']) := Lib.hid (by rw [hw1]; have := heap_alloc_new (w.alloc (.cells #[.string a.topic, .string a.payload, .int .i64 a.level, .bool a.retain, .int .i64 a.prio, .int .i64 a.exps, .string a.frm, .int .i64 a.seq, .slice A a.props.length c] 36)) (.cells #[.string b.topic, .string b.payload, .int .i64 b.level, .bool b.retain, .int .i64 b.prio, .int .i64 b.exps, .string b.frm, .int .i64 b.seq, .slice A' b.props.length c'] 36); rw [show (w.alloc (.cells #[.string a.topic, .string a.payload, .int .i64 a.level, .bool a.retain, .int .i64 a.prio, .int .i64 a.exps, .string a.frm, .int .i64 a.seq, .slice A a.props.length c] 36)).heap.size = w.heap.size + 1 by simp] at this; exact this)
  have HW1 := Lib.hid hw1
  have HW := Lib.hid hw
  clear hw hsl hsl' hb0 hb1 hw1
  go_enter Tryd.func7, Tryd.ntmps7
  go_wp2_with fail
  rw [← HW1.out]
  refine (HMa.out w1 HPw1.out).mono ?_
  rintro e w2 ⟨rfl, hb⟩
  have HBw2 : Hid (Below w.heap.size w w2) := Lib.hid (stepB HBw1.out hb)
  have HQw2 : Hid (MB w2 w.heap.size [.string a.topic, .string a.payload, .int .i64 a.level, .bool a.retain, .int .i64 a.prio, .int .i64 a.exps, .string a.frm, .int .i64 a.seq, .slice A a.props.length c]) := Lib.hid (MB.step HQw1.out hb)
  have HRw2 : Hid (MB w2 (w.heap.size + 1) [.string b.topic, .string b.payload, .int .i64 b.level, .bool b.retain, .int .i64 b.prio, .int .i64 b.exps, .string b.frm, .int .i64 b.seq, .slice A' b.props.length c']) := Lib.hid (MB.step HRw1.out hb)
  have HPw2 : Hid (PL w2 w2.heap.size A a.props) := Lib.hid (HPw1.out.step hb)
  have HOw2 : Hid (PL w2 w2.heap.size A' b.props) := Lib.hid (HOw1.out.step hb)
  clear HBw1 HQw1 HRw1 HPw1 HOw1
  clear hb
  obtain ⟨c0, c1, c2, c3, c4, c5, c6, c7, c8⟩ := mb9 HRw2.out
  go_wp2_with fail
  clear c0 c1 c2 c3 c4 c5 c6 c7 c8
  refine (HMb.out w2 HOw2.out).mono ?_
  rintro e w3 ⟨rfl, hb⟩
  have HBw3 : Hid (Below w.heap.size w w3) := Lib.hid (stepB HBw2.out hb)
  have HQw3 : Hid (MB w3 w.heap.size [.string a.topic, .string a.payload, .int .i64 a.level, .bool a.retain, .int .i64 a.prio, .int .i64 a.exps, .string a.frm, .int .i64 a.seq, .slice A a.props.length c]) := Lib.hid (MB.step HQw2.out hb)
  have HRw3 : Hid (MB w3 (w.heap.size + 1) [.string b.topic, .string b.payload, .int .i64 b.level, .bool b.retain, .int .i64 b.prio, .int .i64 b.exps, .string b.frm, .int .i64 b.seq, .slice A' b.props.length c']) := Lib.hid (MB.step HRw2.out hb)
  have HPw3 : Hid (PL w3 w3.heap.size A a.props) := Lib.hid (HPw2.out.step hb)
  have HOw3 : Hid (PL w3 w3.heap.size A' b.props) := Lib.hid (HOw2.out.step hb)
  clear HBw2 HQw2 HRw2 HPw2 HOw2
  clear hb HMa HMb
  go_upto_region 3 with fail
  obtain ⟨wD, hwD⟩ : ∃ wD, wD = World.drew w3 := ⟨_, rfl⟩
  have hbD : Below w3.heap.size w3 wD := by rw [hwD]; exact (Below.refl _ _).drew
  have HBwD : Hid (Below w.heap.size w wD) := Lib.hid (stepB HBw3.out hbD)
  have HQwD : Hid (MB wD w.heap.size [.string a.topic, .string a.payload, .int .i64 a.level, .bool a.retain, .int .i64 a.prio, .int .i64 a.exps, .string a.frm, .int .i64 a.seq, .slice A a.props.length c]) := Lib.hid (MB.step HQw3.out hbD)
  have HRwD : Hid (MB wD (w.heap.size + 1) [.string b.topic, .string b.payload, .int .i64 b.level, .bool b.retain, .int .i64 b.prio, .int .i64 b.exps, .string b.frm, .int .i64 b.seq, .slice A' b.props.length c']) := Lib.hid (MB.step HRw3.out hbD)
  have HPwD : Hid (PL wD wD.heap.size A a.props) := Lib.hid (HPw3.out.step hbD)
  have HOwD : Hid (PL wD wD.heap.size A' b.props) := Lib.hid (HOw3.out.step hbD)
  clear HBw3 HQw3 HRw3 HPw3 HOw3
  have hbd : (fun w' => MB w' w.heap.size [.string a.topic, .string a.payload, .int .i64 a.level, .bool a.retain, .int .i64 a.prio, .int .i64 a.exps, .string a.frm, .int .i64 a.seq, .slice A a.props.length c] ∧ MB w' (w.heap.size + 1) [.string b.topic, .string b.payload, .int .i64 b.level, .bool b.retain, .int .i64 b.prio, .int .i64 b.exps, .string b.frm, .int .i64 b.seq, .slice A' b.props.length c']) (World.drew w3) := by rw [← hwD]; exact ⟨HQwD.out, HRwD.out⟩
  have hSD : (fun w' => MB w' w.heap.size [.string a.topic, .string a.payload, .int .i64 a.level, .bool a.retain, .int .i64 a.prio, .int .i64 a.exps, .string a.frm, .int .i64 a.seq, .slice A a.props.length c] ∧ MB w' (w.heap.size + 1) [.string b.topic, .string b.payload, .int .i64 b.level, .bool b.retain, .int .i64 b.prio, .int .i64 b.exps, .string b.frm, .int .i64 b.seq, .slice A' b.props.length c']) wD := ⟨HQwD.out, HRwD.out⟩
  have HWD := Lib.hid hwD
  clear hwD hbD
  refine wp_region_held_drew (S := fun w' => MB w' w.heap.size [.string a.topic, .string a.payload, .int .i64 a.level, .bool a.retain, .int .i64 a.prio, .int .i64 a.exps, .string a.frm, .int .i64 a.seq, .slice A a.props.length c] ∧ MB w' (w.heap.size + 1) [.string b.topic, .string b.payload, .int .i64 b.level, .bool b.retain, .int .i64 b.prio, .int .i64 b.exps, .string b.frm, .int .i64 b.seq, .slice A' b.props.length c']) (by kernel_rfl) hbd (fun hHeld => ?_)
  rw [← HWD.out]
  clear hHeld
  have hHeld := hSD
  clear hSD hbd HWD
  refine wpAnyH_take (i := 0) (v := .agg #[.string a.topic, .string a.payload, .int .i64 a.level, .bool a.retain, .int .i64 a.prio, .int .i64 a.exps, .string a.frm, .int .i64 a.seq, .slice A a.props.length c]) (get_ops _ _ _ rfl) (by kernel_rfl) (by kernel_rfl) (by kernel_rfl) (fun _ _ _ h => h) (Or.inl ⟨by rfl, fun w hSw => by (try dsimp only at hSw); obtain ⟨c0, c1, c2, c3, c4, c5, c6, c7, c8⟩ := mb9 hSw.1; clear hSw; go_simp⟩) hHeld ?_
  try simp only [Act.put, List.setIfInBounds_toArray, List.set_cons_zero, List.set_cons_succ]
  refine wpAnyH_take (i := 1) (v := .agg #[.string b.topic, .string b.payload, .int .i64 b.level, .bool b.retain, .int .i64 b.prio, .int .i64 b.exps, .string b.frm, .int .i64 b.seq, .slice A' b.props.length c']) (get_ops _ _ _ rfl) (by kernel_rfl) (by kernel_rfl) (by kernel_rfl) (fun _ _ _ h => h) (Or.inl ⟨by rfl, fun w hSw => by (try dsimp only at hSw); obtain ⟨c0, c1, c2, c3, c4, c5, c6, c7, c8⟩ := mb9 hSw.2; clear hSw; go_simp⟩) hHeld ?_
  try simp only [Act.put, List.setIfInBounds_toArray, List.set_cons_zero, List.set_cons_succ]
  refine wpAnyH_take (i := 3) (v := .agg #[.string a.topic, .string a.payload, .int .i64 a.level, .bool a.retain, .int .i64 a.prio, .int .i64 a.exps, .string a.frm, .int .i64 a.seq, .slice A a.props.length c]) (get_ops _ _ _ rfl) (by kernel_rfl) (by kernel_rfl) (by kernel_rfl) (fun _ _ _ h => h) (Or.inl ⟨by rfl, fun w hSw => by (try dsimp only at hSw); obtain ⟨c0, c1, c2, c3, c4, c5, c6, c7, c8⟩ := mb9 hSw.1; clear hSw; go_simp⟩) hHeld ?_
  try simp only [Act.put, List.setIfInBounds_toArray, List.set_cons_zero, List.set_cons_succ]
  refine wpAnyH_take (i := 4) (v := .agg #[.string b.topic, .string b.payload, .int .i64 b.level, .bool b.retain, .int .i64 b.prio, .int .i64 b.exps, .string b.frm, .int .i64 b.seq, .slice A' b.props.length c']) (get_ops _ _ _ rfl) (by kernel_rfl) (by kernel_rfl) (by kernel_rfl) (fun _ _ _ h => h) (Or.inl ⟨by rfl, fun w hSw => by (try dsimp only at hSw); obtain ⟨c0, c1, c2, c3, c4, c5, c6, c7, c8⟩ := mb9 hSw.2; clear hSw; go_simp⟩) hHeld ?_
  try simp only [Act.put, List.setIfInBounds_toArray, List.set_cons_zero, List.set_cons_succ]
  refine wpAnyH_ready (rs := [2]) (by kernel_rfl) (by simp) ?_
  refine (AllReadyH.cons (get_ops _ _ _ rfl) (fun K hK => ?_) AllReadyH.nil)
  go_simp
  go_at_call 26
  refine (H1.out wD HPwD.out HOwD.out).mono ?_
  rintro e v6 ⟨rfl, hb⟩
  have HBv6 : Hid (Below w.heap.size w v6) := Lib.hid (stepB HBwD.out hb)
  have HQv6 : Hid (MB v6 w.heap.size [.string a.topic, .string a.payload, .int .i64 a.level, .bool a.retain, .int .i64 a.prio, .int .i64 a.exps, .string a.frm, .int .i64 a.seq, .slice A a.props.length c]) := Lib.hid (MB.step HQwD.out hb)
  have HRv6 : Hid (MB v6 (w.heap.size + 1) [.string b.topic, .string b.payload, .int .i64 b.level, .bool b.retain, .int .i64 b.prio, .int .i64 b.exps, .string b.frm, .int .i64 b.seq, .slice A' b.props.length c']) := Lib.hid (MB.step HRwD.out hb)
  have HPv6 : Hid (PL v6 v6.heap.size A a.props) := Lib.hid (HPwD.out.step hb)
  have HOv6 : Hid (PL v6 v6.heap.size A' b.props) := Lib.hid (HOwD.out.step hb)
  clear HBwD HQwD HRwD HPwD HOwD
  clear hHeld hb
  go_wp2_with fail
  refine hK.out _ _ ⟨HQv6.out, HRv6.out⟩ (fun hHeld => ?_)
  clear hK K
  try simp only [Act.put, List.setIfInBounds_toArray, List.set_cons_zero, List.set_cons_succ]
  refine wpAnyH_ready (rs := [5]) (by kernel_rfl) (by simp) ?_
  refine (AllReadyH.cons (get_ops _ _ _ rfl) (fun K hK => ?_) AllReadyH.nil)
  go_simp
  go_at_call 27
  refine (H2.out v6 HPv6.out HOv6.out).mono ?_
  rintro e v7 ⟨rfl, hb⟩
  have HBv7 : Hid (Below w.heap.size w v7) := Lib.hid (stepB HBv6.out hb)
  have HQv7 : Hid (MB v7 w.heap.size [.string a.topic, .string a.payload, .int .i64 a.level, .bool a.retain, .int .i64 a.prio, .int .i64 a.exps, .string a.frm, .int .i64 a.seq, .slice A a.props.length c]) := Lib.hid (MB.step HQv6.out hb)
  have HRv7 : Hid (MB v7 (w.heap.size + 1) [.string b.topic, .string b.payload, .int .i64 b.level, .bool b.retain, .int .i64 b.prio, .int .i64 b.exps, .string b.frm, .int .i64 b.seq, .slice A' b.props.length c']) := Lib.hid (MB.step HRv6.out hb)
  have HPv7 : Hid (PL v7 v7.heap.size A a.props) := Lib.hid (HPv6.out.step hb)
  have HOv7 : Hid (PL v7 v7.heap.size A' b.props) := Lib.hid (HOv6.out.step hb)
  clear HBv6 HQv6 HRv6 HPv6 HOv6
  clear hHeld hb
  go_wp2_with fail
  refine hK.out _ _ ⟨HQv7.out, HRv7.out⟩ (fun hHeld => ?_)
  clear hK K
  try simp only [Act.put, List.setIfInBounds_toArray, List.set_cons_zero, List.set_cons_succ]
  refine wpAnyH_take (i := 6) (v := .bool true) (get_ops _ _ _ rfl) (by kernel_rfl) (by kernel_rfl) (by kernel_rfl) (fun _ _ _ h => h) (Or.inl ⟨by rfl, fun w hSw => by (try dsimp only at hSw); go_simp⟩) hHeld ?_
  try simp only [Act.put, List.setIfInBounds_toArray, List.set_cons_zero, List.set_cons_succ]
  refine wpAnyH_take (i := 7) (v := .bool true) (get_ops _ _ _ rfl) (by kernel_rfl) (by kernel_rfl) (by kernel_rfl) (fun _ _ _ h => h) (Or.inl ⟨by rfl, fun w hSw => by (try dsimp only at hSw); go_simp⟩) hHeld ?_
  try simp only [Act.put, List.setIfInBounds_toArray, List.set_cons_zero, List.set_cons_succ]
  refine wpAnyH_take (i := 8) (v := .agg #[.string a.topic, .string a.payload, .int .i64 a.level, .bool a.retain, .int .i64 a.prio, .int .i64 a.exps, .string a.frm, .int .i64 a.seq, .slice A a.props.length c]) (get_ops _ _ _ rfl) (by kernel_rfl) (by kernel_rfl) (by kernel_rfl) (fun _ _ _ h => h) (Or.inl ⟨by rfl, fun w hSw => by (try dsimp only at hSw); obtain ⟨c0, c1, c2, c3, c4, c5, c6, c7, c8⟩ := mb9 hSw.1; clear hSw; go_simp⟩) hHeld ?_
  try simp only [Act.put, List.setIfInBounds_toArray, List.set_cons_zero, List.set_cons_succ]
  refine wpAnyH_take (i := 9) (v := .agg #[.string a.topic, .string a.payload, .int .i64 a.level, .bool a.retain, .int .i64 a.prio, .int .i64 a.exps, .string a.frm, .int .i64 a.seq, .slice A a.props.length c]) (get_ops _ _ _ rfl) (by kernel_rfl) (by kernel_rfl) (by kernel_rfl) (fun _ _ _ h => h) (Or.inl ⟨by rfl, fun w hSw => by (try dsimp only at hSw); obtain ⟨c0, c1, c2, c3, c4, c5, c6, c7, c8⟩ := mb9 hSw.1; clear hSw; go_simp⟩) hHeld ?_
  try simp only [Act.put, List.setIfInBounds_toArray, List.set_cons_zero, List.set_cons_succ]
  refine wpAnyH_ready (rs := [10]) (by kernel_rfl) (by simp) ?_
  refine (AllReadyH.cons (get_ops _ _ _ rfl) (fun K hK => ?_) AllReadyH.nil)
  go_simp
  go_at_call 26
  refine (H3.out v7 HPv7.out HPv7.out).mono ?_
  rintro e v8 ⟨rfl, hb⟩
  have HBv8 : Hid (Below w.heap.size w v8) := Lib.hid (stepB HBv7.out hb)
  have HQv8 : Hid (MB v8 w.heap.size [.string a.topic, .string a.payload, .int .i64 a.level, .bool a.retain, .int .i64 a.prio, .int .i64 a.exps, .string a.frm, .int .i64 a.seq, .slice A a.props.length c]) := Lib.hid (MB.step HQv7.out hb)
  have HRv8 : Hid (MB v8 (w.heap.size + 1) [.string b.topic, .string b.payload, .int .i64 b.level, .bool b.retain, .int .i64 b.prio, .int .i64 b.exps, .string b.frm, .int .i64 b.seq, .slice A' b.props.length c']) := Lib.hid (MB.step HRv7.out hb)
  have HPv8 : Hid (PL v8 v8.heap.size A a.props) := Lib.hid (HPv7.out.step hb)
  have HOv8 : Hid (PL v8 v8.heap.size A' b.props) := Lib.hid (HOv7.out.step hb)
  clear HBv7 HQv7 HRv7 HPv7 HOv7
  clear hHeld hb
  go_wp2_with fail
  refine hK.out _ _ ⟨HQv8.out, HRv8.out⟩ (fun hHeld => ?_)
  clear hK K
  try simp only [Act.put, List.setIfInBounds_toArray, List.set_cons_zero, List.set_cons_succ]
  refine wpAnyH_take (i := 11) (v := .bool true) (get_ops _ _ _ rfl) (by kernel_rfl) (by kernel_rfl) (by kernel_rfl) (fun _ _ _ h => h) (Or.inl ⟨by rfl, fun w hSw => by (try dsimp only at hSw); go_simp⟩) hHeld ?_
  try simp only [Act.put, List.setIfInBounds_toArray, List.set_cons_zero, List.set_cons_succ]
  refine wpAnyH_take (i := 12) (v := .bool true) (get_ops _ _ _ rfl) (by kernel_rfl) (by kernel_rfl) (by kernel_rfl) (fun _ _ _ h => h) (Or.inl ⟨by rfl, fun w hSw => by (try dsimp only at hSw); go_simp⟩) hHeld ?_
  try simp only [Act.put, List.setIfInBounds_toArray, List.set_cons_zero, List.set_cons_succ]
  refine wpAnyH_take (i := 13) (v := .agg #[.string b.topic, .string b.payload, .int .i64 b.level, .bool b.retain, .int .i64 b.prio, .int .i64 b.exps, .string b.frm, .int .i64 b.seq, .slice A' b.props.length c']) (get_ops _ _ _ rfl) (by kernel_rfl) (by kernel_rfl) (by kernel_rfl) (fun _ _ _ h => h) (Or.inl ⟨by rfl, fun w hSw => by (try dsimp only at hSw); obtain ⟨c0, c1, c2, c3, c4, c5, c6, c7, c8⟩ := mb9 hSw.2; clear hSw; go_simp⟩) hHeld ?_
  try simp only [Act.put, List.setIfInBounds_toArray, List.set_cons_zero, List.set_cons_succ]
  refine wpAnyH_take (i := 14) (v := .agg #[.string a.topic, .string a.payload, .int .i64 a.level, .bool a.retain, .int .i64 a.prio, .int .i64 a.exps, .string a.frm, .int .i64 a.seq, .slice A a.props.length c]) (get_ops _ _ _ rfl) (by kernel_rfl) (by kernel_rfl) (by kernel_rfl) (fun _ _ _ h => h) (Or.inl ⟨by rfl, fun w hSw => by (try dsimp only at hSw); obtain ⟨c0, c1, c2, c3, c4, c5, c6, c7, c8⟩ := mb9 hSw.1; clear hSw; go_simp⟩) hHeld ?_
  try simp only [Act.put, List.setIfInBounds_toArray, List.set_cons_zero, List.set_cons_succ]
  refine wpAnyH_take (i := 16) (v := .agg #[.string a.topic, .string a.payload, .int .i64 a.level, .bool a.retain, .int .i64 a.prio, .int .i64 a.exps, .string a.frm, .int .i64 a.seq, .slice A a.props.length c]) (get_ops _ _ _ rfl) (by kernel_rfl) (by kernel_rfl) (by kernel_rfl) (fun _ _ _ h => h) (Or.inl ⟨by rfl, fun w hSw => by (try dsimp only at hSw); obtain ⟨c0, c1, c2, c3, c4, c5, c6, c7, c8⟩ := mb9 hSw.1; clear hSw; go_simp⟩) hHeld ?_
  try simp only [Act.put, List.setIfInBounds_toArray, List.set_cons_zero, List.set_cons_succ]
  refine wpAnyH_take (i := 17) (v := .agg #[.string b.topic, .string b.payload, .int .i64 b.level, .bool b.retain, .int .i64 b.prio, .int .i64 b.exps, .string b.frm, .int .i64 b.seq, .slice A' b.props.length c']) (get_ops _ _ _ rfl) (by kernel_rfl) (by kernel_rfl) (by kernel_rfl) (fun _ _ _ h => h) (Or.inl ⟨by rfl, fun w hSw => by (try dsimp only at hSw); obtain ⟨c0, c1, c2, c3, c4, c5, c6, c7, c8⟩ := mb9 hSw.2; clear hSw; go_simp⟩) hHeld ?_
  try simp only [Act.put, List.setIfInBounds_toArray, List.set_cons_zero, List.set_cons_succ]
  refine wpAnyH_ready (rs := [15]) (by kernel_rfl) (by simp) ?_
  refine (AllReadyH.cons (get_ops _ _ _ rfl) (fun K hK => ?_) AllReadyH.nil)
  go_simp
  go_at_call 26
  refine (H4.out v8 HOv8.out HPv8.out).mono ?_
  rintro e v9 ⟨rfl, hb⟩
  have HBv9 : Hid (Below w.heap.size w v9) := Lib.hid (stepB HBv8.out hb)
  have HQv9 : Hid (MB v9 w.heap.size [.string a.topic, .string a.payload, .int .i64 a.level, .bool a.retain, .int .i64 a.prio, .int .i64 a.exps, .string a.frm, .int .i64 a.seq, .slice A a.props.length c]) := Lib.hid (MB.step HQv8.out hb)
  have HRv9 : Hid (MB v9 (w.heap.size + 1) [.string b.topic, .string b.payload, .int .i64 b.level, .bool b.retain, .int .i64 b.prio, .int .i64 b.exps, .string b.frm, .int .i64 b.seq, .slice A' b.props.length c']) := Lib.hid (MB.step HRv8.out hb)
  have HPv9 : Hid (PL v9 v9.heap.size A a.props) := Lib.hid (HPv8.out.step hb)
  have HOv9 : Hid (PL v9 v9.heap.size A' b.props) := Lib.hid (HOv8.out.step hb)
  clear HBv8 HQv8 HRv8 HPv8 HOv8
  clear hHeld hb
  go_wp2_with fail
  refine hK.out _ _ ⟨HQv9.out, HRv9.out⟩ (fun hHeld => ?_)
  clear hK K
  try simp only [Act.put, List.setIfInBounds_toArray, List.set_cons_zero, List.set_cons_succ]
  refine wpAnyH_ready (rs := [18]) (by kernel_rfl) (by simp) ?_
  refine (AllReadyH.cons (get_ops _ _ _ rfl) (fun K hK => ?_) AllReadyH.nil)
  go_simp
  go_at_call 26
  refine (H1.out v9 HPv9.out HOv9.out).mono ?_
  rintro e v10 ⟨rfl, hb⟩
  have HBv10 : Hid (Below w.heap.size w v10) := Lib.hid (stepB HBv9.out hb)
  have HQv10 : Hid (MB v10 w.heap.size [.string a.topic, .string a.payload, .int .i64 a.level, .bool a.retain, .int .i64 a.prio, .int .i64 a.exps, .string a.frm, .int .i64 a.seq, .slice A a.props.length c]) := Lib.hid (MB.step HQv9.out hb)
  have HRv10 : Hid (MB v10 (w.heap.size + 1) [.string b.topic, .string b.payload, .int .i64 b.level, .bool b.retain, .int .i64 b.prio, .int .i64 b.exps, .string b.frm, .int .i64 b.seq, .slice A' b.props.length c']) := Lib.hid (MB.step HRv9.out hb)
  have HPv10 : Hid (PL v10 v10.heap.size A a.props) := Lib.hid (HPv9.out.step hb)
  have HOv10 : Hid (PL v10 v10.heap.size A' b.props) := Lib.hid (HOv9.out.step hb)
  clear HBv9 HQv9 HRv9 HPv9 HOv9
  clear hHeld hb
  go_wp2_with fail
  refine hK.out _ _ ⟨HQv10.out, HRv10.out⟩ (fun hHeld => ?_)
  clear hK K
  try simp only [Act.put, List.setIfInBounds_toArray, List.set_cons_zero, List.set_cons_succ]
  refine wpAnyH_take (i := 19) (v := .bool true) (get_ops _ _ _ rfl) (by kernel_rfl) (by kernel_rfl) (by kernel_rfl) (fun _ _ _ h => h) (Or.inl ⟨by rfl, fun w hSw => by (try dsimp only at hSw); go_simp⟩) hHeld ?_
  try simp only [Act.put, List.setIfInBounds_toArray, List.set_cons_zero, List.set_cons_succ]
  refine wpAnyH_take (i := 20) (v := .bool true) (get_ops _ _ _ rfl) (by kernel_rfl) (by kernel_rfl) (by kernel_rfl) (fun _ _ _ h => h) (Or.inl ⟨by rfl, fun w hSw => by (try dsimp only at hSw); go_simp⟩) hHeld ?_
  try simp only [Act.put, List.setIfInBounds_toArray, List.set_cons_zero, List.set_cons_succ]
  refine wpAnyH_take (i := 21) (v := .bool true) (get_ops _ _ _ rfl) (by kernel_rfl) (by kernel_rfl) (by kernel_rfl) (fun _ _ _ h => h) (Or.inl ⟨by rfl, fun w hSw => by (try dsimp only at hSw); go_simp⟩) hHeld ?_
  try simp only [Act.put, List.setIfInBounds_toArray, List.set_cons_zero, List.set_cons_succ]
  refine wpAnyH_ready (rs := [22]) (by kernel_rfl) (by simp) ?_
  refine (AllReadyH.cons (get_ops _ _ _ rfl) (fun K hK => ?_) AllReadyH.nil)
  go_simp
  go_at_call 13
  refine (awake5_any v10 (HW.out.step HBv10.out)).mono ?_
  rintro e v11 ⟨rfl, hb⟩
  have HBv11 : Hid (Below w.heap.size w v11) := Lib.hid (stepB HBv10.out hb)
  have HQv11 : Hid (MB v11 w.heap.size [.string a.topic, .string a.payload, .int .i64 a.level, .bool a.retain, .int .i64 a.prio, .int .i64 a.exps, .string a.frm, .int .i64 a.seq, .slice A a.props.length c]) := Lib.hid (MB.step HQv10.out hb)
  have HRv11 : Hid (MB v11 (w.heap.size + 1) [.string b.topic, .string b.payload, .int .i64 b.level, .bool b.retain, .int .i64 b.prio, .int .i64 b.exps, .string b.frm, .int .i64 b.seq, .slice A' b.props.length c']) := Lib.hid (MB.step HRv10.out hb)
  have HPv11 : Hid (PL v11 v11.heap.size A a.props) := Lib.hid (HPv10.out.step hb)
  have HOv11 : Hid (PL v11 v11.heap.size A' b.props) := Lib.hid (HOv10.out.step hb)
  clear HBv10 HQv10 HRv10 HPv10 HOv10
  clear hHeld hb
  go_wp2_with fail
  refine hK.out _ _ ⟨HQv11.out, HRv11.out⟩ (fun hHeld => ?_)
  clear hK K
  try simp only [Act.put, List.setIfInBounds_toArray, List.set_cons_zero, List.set_cons_succ]
  refine wpAnyH_take (i := 23) (v := .bool true) (get_ops _ _ _ rfl) (by kernel_rfl) (by kernel_rfl) (by kernel_rfl) (fun _ _ _ h => h) (Or.inl ⟨by rfl, fun w hSw => by (try dsimp only at hSw); go_simp⟩) hHeld ?_
  try simp only [Act.put, List.setIfInBounds_toArray, List.set_cons_zero, List.set_cons_succ]
  refine wpAnyH_take (i := 24) (v := .bool true) (get_ops _ _ _ rfl) (by kernel_rfl) (by kernel_rfl) (by kernel_rfl) (fun _ _ _ h => h) (Or.inl ⟨by rfl, fun w hSw => by (try dsimp only at hSw); go_simp⟩) hHeld ?_
  try simp only [Act.put, List.setIfInBounds_toArray, List.set_cons_zero, List.set_cons_succ]
  refine wpAnyH_done (by kernel_rfl) ?_ _
  go_wp2
  go_ret
  exact ⟨rfl, HBv11.out⟩

end Go.Proofs.YtlkkdompcbdbeaaDoor
