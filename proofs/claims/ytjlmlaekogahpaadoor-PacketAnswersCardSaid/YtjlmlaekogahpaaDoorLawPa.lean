/-
  PacketAnswers answers true, walked. Conditions: the tables of package unicode/utf8 are there; the packet reads as data.
-/
import Derived.Test.YtjlmlaekogahpaaDoorLawPs
namespace Go.Proofs.YtjlmlaekogahpaaDoor
open Go.RowKit

theorem ansP_lists (p : Pkt) : (ansP p).msg.props = [] ∧ (ansP p).wmsg.props = [] ∧ (ansP p).subs = [] ∧ (ansP p).filters = [] ∧ (ansP p).codes = [] := by
  unfold ansP
  split <;> exact ⟨rfl, rfl, rfl, rfl, rfl⟩
theorem pin_ans (w : World) (p : Pkt) : PIn w (ansP p) PA.zero := by
  obtain ⟨h1, h2, h3, h4, h5⟩ := ansP_lists p
  exact pin_zero w h1 h2 h3 h4 h5
theorem psz_ans (p : Pkt) : PSz (ansP p) := by
  obtain ⟨h1, h2, h3, h4, h5⟩ := ansP_lists p
  exact psz_zero h1 h2 h3 h4 h5
theorem ptx_ans (p : Pkt) : PTx (ansP p) := by
  obtain ⟨_, _, h3, h4, _⟩ := ansP_lists p
  exact ptx_zero h3 h4
set_option maxRecDepth 50000 in
set_option maxHeartbeats 16000000 in
theorem packetAnswers_walk (p : Pkt) (a : PA) (w : World) (hw : S1.Okw w) (hp : PIn w p a) :
    Calls Tryd.prog 5 #[pkV p a] w fun e w' => e = .returned (.bool true) ∧ Below w.heap.size w w' := by
  have HA : Hid (∀ w, PIn w p a → Calls Tryd.prog 13 #[pkV p a] w (SomeB (SmallP p) w)) := Lib.hid (fun w h => small6_any p a w h)
  have C1 := Lib.hid (fun w => answer_any p a w)
  have C2 := Lib.hid (fun w => rAnswer_any p a w)
  have C3 : Hid (∀ w, Calls Tryd.prog 15 #[pkV (ansP p) PA.zero, pkV (ansP p) PA.zero] w fun e w' => e = .returned (.bool true) ∧ Below w.heap.size w w') := Lib.hid (fun w => by
    have := rSameP_any (ansP p) (ansP p) PA.zero PA.zero w (pin_ans w p) (pin_ans w p) (psz_ans p) (psz_ans p)
    rw [sameP_self] at this; exact this)
  have C4 : Hid (SmallP p → ∀ w, S1.Okw w → PIn w p a → Calls Tryd.prog 18 #[pkV p a] w fun e w' => e = .returned (.int .i64 (checkP p)) ∧ Below w.heap.size w w') := Lib.hid (fun s w h1 h2 => check6_any p a w h1 h2 s.sz s.tx)
  have C5 : Hid (∀ w, S1.Okw w → Calls Tryd.prog 18 #[pkV (ansP p) PA.zero] w fun e w' => e = .returned (.int .i64 (checkP (ansP p))) ∧ Below w.heap.size w w') := Lib.hid (fun w h => check6_any (ansP p) PA.zero w h (pin_ans w p) (psz_ans p) (ptx_ans p))
  have C6 := Lib.hid (fun w => client_any p.kind w)
  have C7 := Lib.hid (fun w => broker_any (ansP p).kind w)
  have C8 := Lib.hid (fun w => broker_any p.kind w)
  have C9 := Lib.hid (fun w => client_any (ansP p).kind w)
  have V1 : Hid (ansK p ≠ 0 → checkP p = 0 → checkP (ansP p) = 0) := Lib.hid (fun h1 h2 => ans_valid h2 h1)
  have V2 : Hid (ansK p ≠ 0 → clientR p.kind = true → brokerR (ansP p).kind = true) := Lib.hid (fun h1 h2 => by rw [ans_kind h1]; exact (ans_roles h1).1 h2)
  have V3 : Hid (ansK p ≠ 0 → brokerR p.kind = true → clientR (ansP p).kind = true) := Lib.hid (fun h1 h2 => by rw [ans_kind h1]; exact (ans_roles h1).2 h2)
  generalize checkP (ansP p) = cr at C5 V1
  generalize checkP p = cp at C4 V1
  generalize clientR p.kind = cl at C6 V2
  generalize brokerR p.kind = br at C8 V3
  generalize brokerR (ansP p).kind = rb at C7 V2
  generalize clientR (ansP p).kind = rc at C9 V3
  generalize ansP p = r at C1 C2 C3 C5 C7 C9
  generalize ansK p = k at C1 C2 V1 V2 V3
  obtain ⟨x, hx⟩ : ∃ x, x = decide (k ≠ 0) := ⟨_, rfl⟩
  rw [← hx] at C1 C2
  have HX := Lib.hid hx
  clear hx
  unfold pkV at *
  obtain ⟨w1, hw1⟩ : ∃ w1, w1 = w.alloc (.cells (pkC p a).toArray 33) := ⟨_, rfl⟩
  have hb1 : Below w.heap.size w w1 := by rw [hw1]; exact (Below.refl _ _).alloc (Nat.le_refl _) _
  have hm1 : MT 33 w1 w.heap.size (pkC p a) := by rw [hw1]; exact MT.new w _ _
  have HB1 := Lib.hid hb1
  have HM1 := Lib.hid hm1
  have HW1 := Lib.hid hw1
  have HO := Lib.hid hw
  have HP := Lib.hid hp
  clear hw hp hb1 hm1 hw1
  go_enter Tryd.func5, Tryd.ntmps5
  go_upto_region 1 with fail
  rw [← HW1.out]
  go_wp2_with (refine wpList_load_all (by rfl) 33 (.tmp 1) rfl (w.heap.size) rfl 33 _ (0, 0) _ HM1.out Tryd.underlying33 rfl info33 ?_)
  refine (HA.out w1 (HP.out.step HB1.out)).mono ?_
  rintro e w2 ⟨s, rfl, hs, hb⟩
  have HB2 : Hid (Below w.heap.size w w2) := Lib.hid (stepB HB1.out hb)
  have HM2 := Lib.hid (MT.step HM1.out hb)
  clear hb
  have HS := Lib.hid hs
  clear hs
  cases s with
  | false =>
    go_wp2_with fail
    refine (awake6_any w2 (HO.out.step HB2.out)).mono ?_
    rintro e we ⟨rfl, hb⟩
    have HBe := Lib.hid (stepB HB2.out hb)
    clear hb
    go_wp2_with fail
    go_ret
    exact ⟨rfl, HBe.out⟩
  | true =>
    have HSm : Hid (SmallP p) := Lib.hid (HS.out rfl)
    clear HS
    go_wp2_with (refine wpList_load_all (by rfl) 33 (.tmp 1) rfl (w.heap.size) rfl 33 _ (0, 0) _ HM2.out Tryd.underlying33 rfl info33 ?_)
    refine (C1.out w2).mono ?_
    rintro e w3 ⟨rfl, hb⟩
    have HB3 : Hid (Below w.heap.size w w3) := Lib.hid (stepB HB2.out hb)
    have HM3 := Lib.hid (MT.step HM2.out hb)
    clear hb
    go_upto_region 4 with (refine wpList_store_blk (by rfl) 33 (.tmp 3) (.tmp 14) rfl rfl (w3.heap.size) 0 34 rfl (.agg (pkC r PA.zero).toArray) rfl 33 (pkC Pkt.zero PA.zero) (pkC r PA.zero) (zero_new w3) rfl rfl info33 (by rw [pkC_len]; decide) (all_one rfl) ?_; rintro w4 hM hoth hbel; have HM4 : Hid (MT 33 w4 w.heap.size (pkC p a)) := Lib.hid (hoth _ _ _ (Nat.ne_of_lt HM3.out.lt) (HM3.out.alloc _)); have HR4 : Hid (MT 33 w4 (w3.heap.size) (pkC r PA.zero)) := Lib.hid (by rw [putC_whole (pkC Pkt.zero PA.zero) (pkC r PA.zero) rfl] at hM; exact hM); have HB4 : Hid (Below w.heap.size w w4) := Lib.hid (hbel _ _ HB3.out.size (HB3.out.alloc HB3.out.size _)); clear hM hoth hbel)
    go_wp2_with (refine wpList_load_all (by rfl) 33 (.tmp 1) rfl (w.heap.size) rfl 33 _ (0, 0) _ HM4.out Tryd.underlying33 rfl info33 ?_)
    refine (C2.out w4).mono ?_
    rintro e w5 ⟨rfl, hb⟩
    have HB5 : Hid (Below w.heap.size w w5) := Lib.hid (stepB HB4.out hb)
    have HM5 := Lib.hid (MT.step HM4.out hb)
    have HR5 := Lib.hid (MT.step HR4.out hb)
    clear hb
    go_upto_region 5 with (refine wpList_store_blk (by rfl) 33 (.tmp 5) (.tmp 19) rfl rfl (w5.heap.size) 0 34 rfl (.agg (pkC r PA.zero).toArray) rfl 33 (pkC Pkt.zero PA.zero) (pkC r PA.zero) (zero_new w5) rfl rfl info33 (by rw [pkC_len]; decide) (all_one rfl) ?_; rintro w6 hM hoth hbel; have HM6 : Hid (MT 33 w6 w.heap.size (pkC p a)) := Lib.hid (hoth _ _ _ (Nat.ne_of_lt HM5.out.lt) (HM5.out.alloc _)); have HR6 : Hid (MT 33 w6 (w3.heap.size) (pkC r PA.zero)) := Lib.hid (hoth _ _ _ (Nat.ne_of_lt HR5.out.lt) (HR5.out.alloc _)); have HQ6 : Hid (MT 33 w6 (w5.heap.size) (pkC r PA.zero)) := Lib.hid (by rw [putC_whole (pkC Pkt.zero PA.zero) (pkC r PA.zero) rfl] at hM; exact hM); have HB6 : Hid (Below w.heap.size w w6) := Lib.hid (hbel _ _ HB5.out.size (HB5.out.alloc HB5.out.size _)); clear hM hoth hbel)
    go_wp2_with (first | (refine wpList_load_all (by rfl) 33 (.tmp 3) rfl (w3.heap.size) rfl 33 _ (0, 0) _ HR6.out Tryd.underlying33 rfl info33 ?_) | (refine wpList_load_all (by rfl) 33 (.tmp 5) rfl (w5.heap.size) rfl 33 _ (0, 0) _ HQ6.out Tryd.underlying33 rfl info33 ?_))
    refine (C3.out w6).mono ?_
    rintro e w7 ⟨rfl, hb⟩
    have HB7 : Hid (Below w.heap.size w w7) := Lib.hid (stepB HB6.out hb)
    have HM7 := Lib.hid (MT.step HM6.out hb)
    have HR7 := Lib.hid (MT.step HR6.out hb)
    clear hb
    cases x with
    | false =>
      go_wp2_with fail
      refine (awake6_any w7 (HO.out.step HB7.out)).mono ?_
      rintro e we ⟨rfl, hb⟩
      have HBe := Lib.hid (stepB HB7.out hb)
      clear hb
      go_wp2_with fail
      go_ret
      exact ⟨rfl, HBe.out⟩
    | true =>
      have hk : k ≠ 0 := of_decide_eq_true HX.out.symm
      have V1x := Lib.hid (V1.out hk)
      have V2x := Lib.hid (V2.out hk)
      have V3x := Lib.hid (V3.out hk)
      clear hk HX V1 V2 V3
      go_wp2_with (refine wpList_load_all (by rfl) 33 (.tmp 1) rfl (w.heap.size) rfl 33 _ (0, 0) _ HM7.out Tryd.underlying33 rfl info33 ?_)
      refine (C4.out HSm.out w7 (HO.out.step HB7.out) (HP.out.step HB7.out)).mono ?_
      rintro e w8 ⟨rfl, hb⟩
      have HB8 : Hid (Below w.heap.size w w8) := Lib.hid (stepB HB7.out hb)
      have HM8 := Lib.hid (MT.step HM7.out hb)
      have HR8 := Lib.hid (MT.step HR7.out hb)
      clear hb
      by_cases hc : cp = 0
      · have hr : cr = 0 := V1x.out hc
        subst hc hr
        clear V1x
        go_upto_region 9 with fail
        go_wp2_with (refine wpList_load_all (by rfl) 33 (.tmp 3) rfl (w3.heap.size) rfl 33 _ (0, 0) _ HR8.out Tryd.underlying33 rfl info33 ?_)
        refine (C5.out w8 (HO.out.step HB8.out)).mono ?_
        rintro e w9 ⟨rfl, hb⟩
        have HB9 : Hid (Below w.heap.size w w9) := Lib.hid (stepB HB8.out hb)
        have HM9 := Lib.hid (MT.step HM8.out hb)
        have HR9 := Lib.hid (MT.step HR8.out hb)
        clear hb
        have d0 : w9.cell? ⟨w.heap.size, 0, none⟩ = some (.int .i64 p.kind) := HM9.out.cell 0
        have d1 : w9.cell? ⟨w3.heap.size, 0, none⟩ = some (.int .i64 r.kind) := HR9.out.cell 0
        go_wp2_with fail
        refine (C6.out w9).mono ?_
        rintro e w' ⟨rfl, rfl⟩
        cases cl with
        | false =>
          go_wp2_with fail
          refine (C8.out w9).mono ?_
          rintro e w' ⟨rfl, rfl⟩
          cases br with
          | false =>
            go_wp2_with fail
            refine (awake6_any w9 (HO.out.step HB9.out)).mono ?_
            rintro e we ⟨rfl, hb⟩
            have HBe := Lib.hid (stepB HB9.out hb)
            clear hb
            go_wp2_with fail
            go_ret
            exact ⟨rfl, HBe.out⟩
          | true =>
            have hrc : rc = true := V3x.out rfl
            subst hrc
            go_wp2_with fail
            refine (C9.out w9).mono ?_
            rintro e w' ⟨rfl, rfl⟩
            go_wp2_with fail
            refine (awake6_any w9 (HO.out.step HB9.out)).mono ?_
            rintro e we ⟨rfl, hb⟩
            have HBe := Lib.hid (stepB HB9.out hb)
            clear hb
            go_wp2_with fail
            go_ret
            exact ⟨rfl, HBe.out⟩
        | true =>
          have hrb : rb = true := V2x.out rfl
          subst hrb
          go_wp2_with fail
          refine (C7.out w9).mono ?_
          rintro e w' ⟨rfl, rfl⟩
          go_wp2_with fail
          refine (C8.out w9).mono ?_
          rintro e w' ⟨rfl, rfl⟩
          cases br with
          | false =>
            go_wp2_with fail
            refine (awake6_any w9 (HO.out.step HB9.out)).mono ?_
            rintro e we ⟨rfl, hb⟩
            have HBe := Lib.hid (stepB HB9.out hb)
            clear hb
            go_wp2_with fail
            go_ret
            exact ⟨rfl, HBe.out⟩
          | true =>
            have hrc : rc = true := V3x.out rfl
            subst hrc
            go_wp2_with fail
            refine (C9.out w9).mono ?_
            rintro e w' ⟨rfl, rfl⟩
            go_wp2_with fail
            refine (awake6_any w9 (HO.out.step HB9.out)).mono ?_
            rintro e we ⟨rfl, hb⟩
            have HBe := Lib.hid (stepB HB9.out hb)
            clear hb
            go_wp2_with fail
            go_ret
            exact ⟨rfl, HBe.out⟩
      · have q0 : ((cp : Int) != 0) = true := by simp [hc]
        clear hc
        go_wp2_with fail
        refine (awake6_any w8 (HO.out.step HB8.out)).mono ?_
        rintro e we ⟨rfl, hb⟩
        have HBe := Lib.hid (stepB HB8.out hb)
        clear hb
        go_wp2_with fail
        go_ret
        exact ⟨rfl, HBe.out⟩

end Go.Proofs.YtjlmlaekogahpaaDoor
