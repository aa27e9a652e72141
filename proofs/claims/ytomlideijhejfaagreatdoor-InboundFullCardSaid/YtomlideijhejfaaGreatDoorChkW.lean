/-
  What checkWill, checkConnect, checkConnack, checkPublish and checkList of packet answer. Conditions: the packets read as data; texts fit a slice; the tables of package unicode/utf8 are there.
-/
import Derived.Test.YtomlideijhejfaaGreatDoorChk
import Derived.Test.YtomlideijhejfaaGreatDoorSamQ
namespace Go.Proofs.YtomlideijhejfaaGreatDoor
open Go.RowKit

theorem wlZ : msgV Msg.zero none 0 = .agg #[.string ⟨#[]⟩, .string ⟨#[]⟩, .int .i64 0, .bool false, .int .i64 0, .int .i64 0, .string ⟨#[]⟩, .int .i64 0, .slice none 0 0] := rfl
theorem natc {a b : Nat} (h : a = b) : (a : Int) = b := by rw [h]

set_option maxRecDepth 20000 in
set_option maxHeartbeats 4000000 in
theorem checkWill_any (p : Pkt) (a : PA) (w : World) (hw : S1.Okw w) (h : PL w w.heap.size a.v p.wmsg.props) (hn : p.wmsg.props.length ≤ 9223372036854775806) :
    Calls Tryz.prog 75 #[wlV p a] w fun e w' => e = .returned (.int .i64 (willR p.wset p.wdelay p.wmsg)) ∧ Below w.heap.size w w' := by
  unfold wlV
  have k0 : (wlC p a)[0]? = some (.bool p.wset) := rfl
  have k1 : (wlC p a)[1]? = some (.int .i64 p.wdelay) := rfl
  obtain ⟨w1, hw1⟩ : ∃ w1, w1 = w.alloc (.cells (wlC p a).toArray 29) := ⟨_, rfl⟩
  have hb1 : Below w.heap.size w w1 := by rw [hw1]; exact (Below.refl _ _).alloc (Nat.le_refl _) _
  have hm1 : MT 29 w1 w.heap.size (wlC p a) := by rw [hw1]; exact MT.new w _ _
  have C1 := same_any p.wmsg Msg.zero a.v none a.vc 0 w1 (h.step hb1) (GL.nil _ _ _) hn
  have C2 := fun w => within3_any p.wdelay 0 1099511627776 w
  have C3 := check_any p.wmsg a.v a.vc w1 (hw.step hb1) (h.step hb1)
  have c0 : w1.cell? ⟨w.heap.size, 0, none⟩ = some (.bool p.wset) := hm1.cell 0
  have c1 : w1.cell? ⟨w.heap.size, 1, none⟩ = some (.int .i64 p.wdelay) := hm1.cell 1
  have HM := Lib.hid hm1
  have HB := Lib.hid hb1
  have HW := Lib.hid hw1
  rw [wlZ] at C1
  unfold sameM at C1
  clear hw h hn hw1 hb1 hm1 k0 k1
  have HV : Hid (willR p.wset p.wdelay p.wmsg = if p.wset = false then (if p.wdelay ≠ 0 ∨ p.wmsg ≠ Msg.zero then 28 else 0) else if p.wdelay < 0 ∨ 1099511627776 < p.wdelay then 1 else checkR p.wmsg) := Lib.hid rfl
  generalize willR p.wset p.wdelay p.wmsg = r at HV ⊢
  generalize p.wset = s at *
  generalize p.wdelay = d at *
  generalize checkR p.wmsg = k at *
  cases s
  · by_cases hd : d = 0
    · have q0 : (d != 0) = false := by rw [hd]; rfl
      by_cases hz : p.wmsg = Msg.zero
      · have HV2 : Hid (r = 0) := Lib.hid (by rw [HV.out]; simp [hd, hz])
        rw [decide_eq_true hz] at C1
        have H1 := Lib.hid C1
        clear C1 C2 C3 HV hd hz
        go_enter Tryz.func75, Tryz.ntmps75
        go_upto_region 1 with fail
        rw [← HW.out]
        go_wp2_with (first | (refine wpList_load_part (by rfl) 27 _ rfl w.heap.size 2 9 rfl 29 (wlC p a) (0, 0) _ HM.out Tryz.underlying27 rfl info26 (by show 2 + 9 ≤ 11; decide) ?_) | (go_at_call 70; refine H1.out.mono ?_; rintro e w2 ⟨rfl, hb⟩; have HB2 := Lib.hid (stepB HB.out hb); clear hb))
        go_ret
        exact ⟨reti (natc HV2.out.symm), HB2.out⟩
      · have HV2 : Hid (r = 28) := Lib.hid (by rw [HV.out]; simp [hz])
        rw [decide_eq_false hz] at C1
        have H1 := Lib.hid C1
        clear C1 C2 C3 HV hd hz
        go_enter Tryz.func75, Tryz.ntmps75
        go_upto_region 1 with fail
        rw [← HW.out]
        go_wp2_with (first | (refine wpList_load_part (by rfl) 27 _ rfl w.heap.size 2 9 rfl 29 (wlC p a) (0, 0) _ HM.out Tryz.underlying27 rfl info26 (by show 2 + 9 ≤ 11; decide) ?_) | (go_at_call 70; refine H1.out.mono ?_; rintro e w2 ⟨rfl, hb⟩; have HB2 := Lib.hid (stepB HB.out hb); clear hb))
        go_ret
        exact ⟨reti (natc HV2.out.symm), HB2.out⟩
    · have HV2 : Hid (r = 28) := Lib.hid (by rw [HV.out]; simp [hd])
      have q0 : (d != 0) = true := by simp [hd]
      clear C1 C2 C3 HV hd
      go_enter Tryz.func75, Tryz.ntmps75
      go_upto_region 1 with fail
      rw [← HW.out]
      go_wp2
      go_ret
      exact ⟨reti (natc HV2.out.symm), HB.out⟩
  · by_cases hd : d < 0 ∨ 1099511627776 < d
    · have HV2 : Hid (r = 1) := Lib.hid (by rw [HV.out]; simp [hd])
      rw [w3_no hd] at C2
      have H2 := Lib.hid C2
      clear C1 C2 C3 HV hd
      go_enter Tryz.func75, Tryz.ntmps75
      go_upto_region 1 with fail
      rw [← HW.out]
      go_wp2_with (go_at_call 40; refine (H2.out _).mono ?_; rintro e w' ⟨rfl, rfl⟩)
      go_ret
      exact ⟨reti (natc HV2.out.symm), HB.out⟩
    · have HV2 : Hid (r = k) := Lib.hid (by rw [HV.out, if_neg (by decide), if_neg hd])
      rw [w3_yes hd] at C2
      have H2 := Lib.hid C2
      have H3 := Lib.hid C3
      clear C1 C2 C3 HV hd
      go_enter Tryz.func75, Tryz.ntmps75
      go_upto_region 1 with fail
      rw [← HW.out]
      go_wp2_with (first | (refine wpList_load_part (by rfl) 27 _ rfl w.heap.size 2 9 rfl 29 (wlC p a) (0, 0) _ HM.out Tryz.underlying27 rfl info26 (by show 2 + 9 ≤ 11; decide) ?_) | (go_at_call 40; refine (H2.out _).mono ?_; rintro e w' ⟨rfl, rfl⟩) | (go_at_call 76; refine H3.out.mono ?_; rintro e w2 ⟨rfl, hb⟩; have HB2 := Lib.hid (stepB HB.out hb); clear hb))
      go_ret
      exact ⟨reti (natc HV2.out.symm), HB2.out⟩

end Go.Proofs.YtomlideijhejfaaGreatDoor
