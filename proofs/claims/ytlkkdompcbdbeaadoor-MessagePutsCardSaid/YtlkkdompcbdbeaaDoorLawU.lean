/-
  MessagePuts answers true, walked: Put of the program and of the specification write the same bytes. Conditions: the tables of package unicode/utf8 are there; the properties and the bytes lie below the heap's end; the numbers fit an int.
-/
import Derived.Test.YtlkkdompcbdbeaaDoorAwake5
namespace Go.Proofs.YtlkkdompcbdbeaaDoor
open Go.RowKit

theorem same_below {A A' : Option Addr} (c c' : Nat) {T : List UInt8} {w : World} {B B' : Nat} (h : CL bv w B A T) (h' : CL bv w B' A' T) :
    Calls Tryd.prog 28 #[.slice A T.length c, .slice A' T.length c'] w fun e w' => e = .returned (.bool true) ∧ Below w.heap.size w w' :=
  (same_self h h').mono fun e w' hh => ⟨hh.1, by rw [← hh.2]; exact Below.refl _ _⟩
set_option maxRecDepth 50000 in
set_option maxHeartbeats 16000000 in
theorem messagePuts_walk (A0 : Option Addr) (c0 : Nat) (xs : List UInt8) (m : Msg) (A : Option Addr) (c : Nat) (w : World) (hw : S1.Okw w) (hx : CL bv w w.heap.size A0 xs) (hsl : PL w w.heap.size A m.props) (hf : m.fits) :
    Calls Tryd.prog 8 #[.slice A0 xs.length c0, msgV m A c] w fun e w' => e = .returned (.bool true) ∧ Below w.heap.size w w' := by
  have HM : Hid (∀ w, PL w w.heap.size A m.props → Calls Tryd.prog 21 #[msgV m A c] w fun e w' => e = .returned (.bool (smallR m)) ∧ Below w.heap.size w w') := Lib.hid (fun w h => small_any m A c w h)
  obtain ⟨T, hT⟩ : ∃ T, T = xs ++ encM m := ⟨_, rfl⟩
  obtain ⟨w1, hw1⟩ : ∃ w1, w1 = w.alloc (.cells #[.string m.topic, .string m.payload, .int .i64 m.level, .bool m.retain, .int .i64 m.prio, .int .i64 m.exps, .string m.frm, .int .i64 m.seq, .slice A m.props.length c] 36) := ⟨_, rfl⟩
  have hb1 : Below w.heap.size w w1 := by rw [hw1]; exact (Below.refl _ _).alloc (Nat.le_refl _) _
  have HBw1 := Lib.hid hb1
  have HPw1 := Lib.hid (hsl.step hb1)
  have HXw1 : Hid (CL bv w1 w1.heap.size A0 xs) := Lib.hid ((hx.below hb1).more hb1.size)
  have HQw1 : Hid (MB w1 w.heap.size [.string m.topic, .string m.payload, .int .i64 m.level, .bool m.retain, .int .i64 m.prio, .int .i64 m.exps, .string m.frm, .int .i64 m.seq, .slice A m.props.length c]) := Lib.hid (by rw [hw1]; exact heap_alloc_new w _)
  have HW1 := Lib.hid hw1
  have HW := Lib.hid hw
  clear hw hsl hx hb1 hw1
  by_cases hl : 2400 < xs.length
  · have d1 : decide ((2400 : Int) < (xs.length : Int)) = true := decide_eq_true (by omega)
    clear hl hT hf HM HXw1 HPw1
    unfold msgV
    go_enter Tryd.func8, Tryd.ntmps8
    go_wp2_with fail
    rw [← HW1.out]
    refine (awake5_any w1 (HW.out.step HBw1.out)).mono ?_
    rintro e we ⟨rfl, hb⟩
    have HBe := Lib.hid (stepB HBw1.out hb)
    go_wp2_with fail
    go_ret
    exact ⟨rfl, HBe.out⟩
  have d1 : decide ((2400 : Int) < (xs.length : Int)) = false := decide_eq_false (by omega)
  cases hs : smallR m with
  | false =>
    rw [hs] at HM
    unfold msgV at HM
    clear hs hl hT hf HXw1
    unfold msgV
    go_enter Tryd.func8, Tryd.ntmps8
    go_wp2_with fail
    rw [← HW1.out]
    refine (HM.out w1 HPw1.out).mono ?_
    rintro e w2 ⟨rfl, hb⟩
    have HBw2 := Lib.hid (stepB HBw1.out hb)
    clear hb
    go_wp2_with fail
    refine (awake5_any w2 (HW.out.step HBw2.out)).mono ?_
    rintro e we ⟨rfl, hb⟩
    have HBe := Lib.hid (stepB HBw2.out hb)
    go_wp2_with fail
    go_ret
    exact ⟨rfl, HBe.out⟩
  | true =>
  rw [hs] at HM
  obtain ⟨p1, p2, p3, p4, p5⟩ := small_parts hs
  have H1 : Hid (∀ w, CL bv w w.heap.size A0 xs → PL w w.heap.size A m.props → Calls Tryd.prog 29 #[.slice A0 xs.length c0, msgV m A c] w fun e w' => ∃ A1 c1, e = .returned (.slice A1 T.length c1) ∧ CL bv w' w'.heap.size A1 T ∧ Below w.heap.size w w') := Lib.hid (fun w h1 h2 => by
    refine (put_any A0 c0 xs m A c w h1 h2 hf ⟨by omega, by omega, by omega, by omega, fun x hx => by have := p5 x hx; omega⟩ (by omega)).mono ?_
    rintro e w' ⟨v, rfl, hown, hb⟩
    obtain ⟨A1, c1, rfl, _, h3⟩ := hown.ret
    rw [hT]
    exact ⟨A1, c1, rfl, h3, hb⟩)
  have H2 : Hid (∀ w, CL bv w w.heap.size A0 xs → PL w w.heap.size A m.props → Calls Tryd.prog 30 #[.slice A0 xs.length c0, msgV m A c] w fun e w' => ∃ A1 c1, e = .returned (.slice A1 T.length c1) ∧ CL bv w' w'.heap.size A1 T ∧ Below w.heap.size w w') := Lib.hid (fun w h1 h2 => by
    refine (rPut_any A0 c0 xs m A c w h1 h2 hf ⟨by omega, by omega, by omega, by omega, fun x hx => by have := p5 x hx; omega⟩ (by omega)).mono ?_
    rintro e w' ⟨v, rfl, hown, hb⟩
    obtain ⟨A1, c1, rfl, _, h3⟩ := hown.ret
    rw [hT]
    exact ⟨A1, c1, rfl, h3, hb⟩)
  clear hs hl hT hf p1 p2 p3 p4 p5
  unfold msgV at HM H1 H2
  unfold msgV
  go_enter Tryd.func8, Tryd.ntmps8
  go_wp2_with fail
  rw [← HW1.out]
  refine (HM.out w1 HPw1.out).mono ?_
  rintro e w2 ⟨rfl, hb⟩
  have HBw2 : Hid (Below w.heap.size w w2) := Lib.hid (stepB HBw1.out hb)
  have HQw2 : Hid (MB w2 w.heap.size [.string m.topic, .string m.payload, .int .i64 m.level, .bool m.retain, .int .i64 m.prio, .int .i64 m.exps, .string m.frm, .int .i64 m.seq, .slice A m.props.length c]) := Lib.hid (MB.step HQw1.out hb)
  have HPw2 : Hid (PL w2 w2.heap.size A m.props) := Lib.hid (HPw1.out.step hb)
  have HXw2 : Hid (CL bv w2 w2.heap.size A0 xs) := Lib.hid ((HXw1.out.below hb).more hb.size)
  clear HBw1 HQw1 HPw1 HXw1
  clear hb HM d1
  go_upto_region 3 with fail
  obtain ⟨wD, hwD⟩ : ∃ wD, wD = World.drew w2 := ⟨_, rfl⟩
  have hbD : Below w2.heap.size w2 wD := by rw [hwD]; exact (Below.refl _ _).drew
  have HBwD : Hid (Below w.heap.size w wD) := Lib.hid (stepB HBw2.out hbD)
  have HQwD : Hid (MB wD w.heap.size [.string m.topic, .string m.payload, .int .i64 m.level, .bool m.retain, .int .i64 m.prio, .int .i64 m.exps, .string m.frm, .int .i64 m.seq, .slice A m.props.length c]) := Lib.hid (MB.step HQw2.out hbD)
  have HPwD : Hid (PL wD wD.heap.size A m.props) := Lib.hid (HPw2.out.step hbD)
  have HXwD : Hid (CL bv wD wD.heap.size A0 xs) := Lib.hid ((HXw2.out.below hbD).more hbD.size)
  clear HBw2 HQw2 HPw2 HXw2
  have hbd : (fun w' => MB w' w.heap.size [.string m.topic, .string m.payload, .int .i64 m.level, .bool m.retain, .int .i64 m.prio, .int .i64 m.exps, .string m.frm, .int .i64 m.seq, .slice A m.props.length c]) (World.drew w2) := by rw [← hwD]; exact HQwD.out
  have hSD : (fun w' => MB w' w.heap.size [.string m.topic, .string m.payload, .int .i64 m.level, .bool m.retain, .int .i64 m.prio, .int .i64 m.exps, .string m.frm, .int .i64 m.seq, .slice A m.props.length c]) wD := HQwD.out
  have HWD := Lib.hid hwD
  clear hwD hbD
  refine wp_region_held_drew (S := fun w' => MB w' w.heap.size [.string m.topic, .string m.payload, .int .i64 m.level, .bool m.retain, .int .i64 m.prio, .int .i64 m.exps, .string m.frm, .int .i64 m.seq, .slice A m.props.length c]) (by kernel_rfl) hbd (fun hHeld => ?_)
  rw [← HWD.out]
  clear hHeld
  have hHeld := hSD
  clear hSD hbd HWD
  refine wpAnyH_take (i := 0) (v := .slice A0 xs.length c0) (get_ops _ _ _ rfl) (by kernel_rfl) (by kernel_rfl) (by kernel_rfl) (fun _ _ _ h => h) (Or.inl ⟨by rfl, fun w hSw => by (try dsimp only at hSw); go_simp⟩) hHeld ?_
  try simp only [Act.put, List.setIfInBounds_toArray, List.set_cons_zero, List.set_cons_succ]
  refine wpAnyH_take (i := 1) (v := .agg #[.string m.topic, .string m.payload, .int .i64 m.level, .bool m.retain, .int .i64 m.prio, .int .i64 m.exps, .string m.frm, .int .i64 m.seq, .slice A m.props.length c]) (get_ops _ _ _ rfl) (by kernel_rfl) (by kernel_rfl) (by kernel_rfl) (fun _ _ _ h => h) (Or.inl ⟨by rfl, fun w hSw => by (try dsimp only at hSw); obtain ⟨c0, c1, c2, c3, c4, c5, c6, c7, c8⟩ := mb9 hSw; clear hSw; go_simp⟩) hHeld ?_
  try simp only [Act.put, List.setIfInBounds_toArray, List.set_cons_zero, List.set_cons_succ]
  refine wpAnyH_take (i := 3) (v := .slice A0 xs.length c0) (get_ops _ _ _ rfl) (by kernel_rfl) (by kernel_rfl) (by kernel_rfl) (fun _ _ _ h => h) (Or.inl ⟨by rfl, fun w hSw => by (try dsimp only at hSw); go_simp⟩) hHeld ?_
  try simp only [Act.put, List.setIfInBounds_toArray, List.set_cons_zero, List.set_cons_succ]
  refine wpAnyH_take (i := 4) (v := .agg #[.string m.topic, .string m.payload, .int .i64 m.level, .bool m.retain, .int .i64 m.prio, .int .i64 m.exps, .string m.frm, .int .i64 m.seq, .slice A m.props.length c]) (get_ops _ _ _ rfl) (by kernel_rfl) (by kernel_rfl) (by kernel_rfl) (fun _ _ _ h => h) (Or.inl ⟨by rfl, fun w hSw => by (try dsimp only at hSw); obtain ⟨c0, c1, c2, c3, c4, c5, c6, c7, c8⟩ := mb9 hSw; clear hSw; go_simp⟩) hHeld ?_
  try simp only [Act.put, List.setIfInBounds_toArray, List.set_cons_zero, List.set_cons_succ]
  refine wpAnyH_ready (rs := [2]) (by kernel_rfl) (by simp) ?_
  refine (AllReadyH.cons (get_ops _ _ _ rfl) (fun K hK => ?_) AllReadyH.nil)
  go_simp
  go_at_call 29
  refine (H1.out wD HXwD.out HPwD.out).mono ?_
  rintro e v12 ⟨A1, c1, rfl, h3, hb⟩
  have HBv12 : Hid (Below w.heap.size w v12) := Lib.hid (stepB HBwD.out hb)
  have HQv12 : Hid (MB v12 w.heap.size [.string m.topic, .string m.payload, .int .i64 m.level, .bool m.retain, .int .i64 m.prio, .int .i64 m.exps, .string m.frm, .int .i64 m.seq, .slice A m.props.length c]) := Lib.hid (MB.step HQwD.out hb)
  have HPv12 : Hid (PL v12 v12.heap.size A m.props) := Lib.hid (HPwD.out.step hb)
  have HXv12 : Hid (CL bv v12 v12.heap.size A0 xs) := Lib.hid ((HXwD.out.below hb).more hb.size)
  clear HBwD HQwD HPwD HXwD
  have HT1v12 := Lib.hid h3
  clear h3
  clear hHeld hb
  go_wp2_with fail
  refine hK.out _ _ HQv12.out (fun hHeld => ?_)
  clear hK K
  try simp only [Act.put, List.setIfInBounds_toArray, List.set_cons_zero, List.set_cons_succ]
  refine wpAnyH_ready (rs := [5]) (by kernel_rfl) (by simp) ?_
  refine (AllReadyH.cons (get_ops _ _ _ rfl) (fun K hK => ?_) AllReadyH.nil)
  go_simp
  go_at_call 30
  refine (H2.out v12 HXv12.out HPv12.out).mono ?_
  rintro e v13 ⟨A2, c2, rfl, h3, hb⟩
  have HBv13 : Hid (Below w.heap.size w v13) := Lib.hid (stepB HBv12.out hb)
  have HQv13 : Hid (MB v13 w.heap.size [.string m.topic, .string m.payload, .int .i64 m.level, .bool m.retain, .int .i64 m.prio, .int .i64 m.exps, .string m.frm, .int .i64 m.seq, .slice A m.props.length c]) := Lib.hid (MB.step HQv12.out hb)
  have HPv13 : Hid (PL v13 v13.heap.size A m.props) := Lib.hid (HPv12.out.step hb)
  have HXv13 : Hid (CL bv v13 v13.heap.size A0 xs) := Lib.hid ((HXv12.out.below hb).more hb.size)
  have HT1v13 : Hid (CL bv v13 v13.heap.size A1 T) := Lib.hid ((HT1v12.out.below hb).more hb.size)
  clear HBv12 HQv12 HPv12 HXv12 HT1v12
  have HT2v13 := Lib.hid h3
  clear h3
  clear hHeld hb
  go_wp2_with fail
  refine hK.out _ _ HQv13.out (fun hHeld => ?_)
  clear hK K
  try simp only [Act.put, List.setIfInBounds_toArray, List.set_cons_zero, List.set_cons_succ]
  refine wpAnyH_ready (rs := [6]) (by kernel_rfl) (by simp) ?_
  refine (AllReadyH.cons (get_ops _ _ _ rfl) (fun K hK => ?_) AllReadyH.nil)
  go_simp
  go_at_call 28
  refine (same_below c1 c2 HT1v13.out HT2v13.out).mono ?_
  rintro e v14 ⟨rfl, hb⟩
  have HBv14 : Hid (Below w.heap.size w v14) := Lib.hid (stepB HBv13.out hb)
  have HQv14 : Hid (MB v14 w.heap.size [.string m.topic, .string m.payload, .int .i64 m.level, .bool m.retain, .int .i64 m.prio, .int .i64 m.exps, .string m.frm, .int .i64 m.seq, .slice A m.props.length c]) := Lib.hid (MB.step HQv13.out hb)
  have HPv14 : Hid (PL v14 v14.heap.size A m.props) := Lib.hid (HPv13.out.step hb)
  have HXv14 : Hid (CL bv v14 v14.heap.size A0 xs) := Lib.hid ((HXv13.out.below hb).more hb.size)
  have HT1v14 : Hid (CL bv v14 v14.heap.size A1 T) := Lib.hid ((HT1v13.out.below hb).more hb.size)
  have HT2v14 : Hid (CL bv v14 v14.heap.size A2 T) := Lib.hid ((HT2v13.out.below hb).more hb.size)
  clear HBv13 HQv13 HPv13 HXv13 HT1v13 HT2v13
  clear hHeld hb
  go_wp2_with fail
  refine hK.out _ _ HQv14.out (fun hHeld => ?_)
  clear hK K
  try simp only [Act.put, List.setIfInBounds_toArray, List.set_cons_zero, List.set_cons_succ]
  refine wpAnyH_take (i := 7) (v := .bool true) (get_ops _ _ _ rfl) (by kernel_rfl) (by kernel_rfl) (by kernel_rfl) (fun _ _ _ h => h) (Or.inl ⟨by rfl, fun w hSw => by (try dsimp only at hSw); go_simp⟩) hHeld ?_
  try simp only [Act.put, List.setIfInBounds_toArray, List.set_cons_zero, List.set_cons_succ]
  refine wpAnyH_ready (rs := [8]) (by kernel_rfl) (by simp) ?_
  refine (AllReadyH.cons (get_ops _ _ _ rfl) (fun K hK => ?_) AllReadyH.nil)
  go_simp
  go_at_call 13
  refine (awake5_any v14 (HW.out.step HBv14.out)).mono ?_
  rintro e v15 ⟨rfl, hb⟩
  have HBv15 : Hid (Below w.heap.size w v15) := Lib.hid (stepB HBv14.out hb)
  have HQv15 : Hid (MB v15 w.heap.size [.string m.topic, .string m.payload, .int .i64 m.level, .bool m.retain, .int .i64 m.prio, .int .i64 m.exps, .string m.frm, .int .i64 m.seq, .slice A m.props.length c]) := Lib.hid (MB.step HQv14.out hb)
  have HPv15 : Hid (PL v15 v15.heap.size A m.props) := Lib.hid (HPv14.out.step hb)
  have HXv15 : Hid (CL bv v15 v15.heap.size A0 xs) := Lib.hid ((HXv14.out.below hb).more hb.size)
  have HT1v15 : Hid (CL bv v15 v15.heap.size A1 T) := Lib.hid ((HT1v14.out.below hb).more hb.size)
  have HT2v15 : Hid (CL bv v15 v15.heap.size A2 T) := Lib.hid ((HT2v14.out.below hb).more hb.size)
  clear HBv14 HQv14 HPv14 HXv14 HT1v14 HT2v14
  clear hHeld hb
  go_wp2_with fail
  refine hK.out _ _ HQv15.out (fun hHeld => ?_)
  clear hK K
  try simp only [Act.put, List.setIfInBounds_toArray, List.set_cons_zero, List.set_cons_succ]
  refine wpAnyH_take (i := 9) (v := .bool true) (get_ops _ _ _ rfl) (by kernel_rfl) (by kernel_rfl) (by kernel_rfl) (fun _ _ _ h => h) (Or.inl ⟨by rfl, fun w hSw => by (try dsimp only at hSw); go_simp⟩) hHeld ?_
  try simp only [Act.put, List.setIfInBounds_toArray, List.set_cons_zero, List.set_cons_succ]
  refine wpAnyH_take (i := 10) (v := .bool true) (get_ops _ _ _ rfl) (by kernel_rfl) (by kernel_rfl) (by kernel_rfl) (fun _ _ _ h => h) (Or.inl ⟨by rfl, fun w hSw => by (try dsimp only at hSw); go_simp⟩) hHeld ?_
  try simp only [Act.put, List.setIfInBounds_toArray, List.set_cons_zero, List.set_cons_succ]
  refine wpAnyH_done (by kernel_rfl) ?_ _
  go_wp2
  go_ret
  exact ⟨rfl, HBv15.out⟩

end Go.Proofs.YtlkkdompcbdbeaaDoor
