/-
  What Answer of the specification hands back, and which kinds clients and brokers may send by the program and by the specification. Conditions: none.
-/
import Derived.Test.YtjlmlaekogahpaaDoorAns
namespace Go.Proofs.YtjlmlaekogahpaaDoor
open Go.RowKit

set_option maxRecDepth 20000 in
set_option maxHeartbeats 8000000 in
theorem rAnswer_any (p : Pkt) (a : PA) (w : World) :
    Calls Tryd.prog 17 #[pkV p a] w fun e w' => e = .returned (.tuple #[pkV (ansP p) PA.zero, .bool (decide (ansK p ≠ 0))]) ∧ Below w.heap.size w w' := by
  unfold pkV
  have HA := Lib.hid (@ansP_eq p)
  have HN := Lib.hid (@ansP_no p)
  have HK : Hid (ansK p = if p.kind = 3 ∧ p.msg.level = 1 then 4 else if p.kind = 3 ∧ p.msg.level = 2 then 5 else if p.kind = 5 then 6 else if p.kind = 6 then 7 else if p.kind = 12 then 13 else 0) := Lib.hid rfl
  generalize ansP p = q at HA HN ⊢
  generalize ansK p = k at HA HN HK ⊢
  obtain ⟨x, hx⟩ : ∃ x, x = decide (k ≠ 0) := ⟨_, rfl⟩
  rw [← hx]
  by_cases h3 : p.kind = 3
  · by_cases l1 : p.msg.level = 1
    · have hk : k = 4 := by rw [HK.out]; simp [h3, l1]
      have h0 : k ≠ 0 := by rw [hk]; decide
      have HQ : Hid (q = plainP 4 p.id) := Lib.hid (by rw [HA.out h0, hk])
      have HD : Hid (x = true) := Lib.hid (by rw [hx, hk]; rfl)
      clear h0
      have e3 : (p.kind == 3) = true := by rw [h3]; rfl
      have e5 : (p.kind == 5) = false := by simp [h3]
      have e6 : (p.kind == 6) = false := by simp [h3]
      have e12 : (p.kind == 12) = false := by simp [h3]
      have f1 : (p.msg.level == 1) = true := by rw [l1]; rfl
      have f2 : (p.msg.level == 2) = false := by simp [l1]
      clear HA HN HK hx hk h3 l1
      go_enter Tryd.func17, Tryd.ntmps17
      go_upto_region 1 with fail
      refine name_world (C := fun w1 => Code.wp _ _ _ _ w1) ((w.alloc (.cells (pkC p a).toArray 33)).alloc (.cells (pkC Pkt.zero PA.zero).toArray 33)) ?_
      rintro w1 hw1
      obtain ⟨b1, b2, b3⟩ := two hw1
      have hz1 : w.heap.size + 1 < w1.heap.size := b3.lt
      have HB1 := Lib.hid b1
      have HM1 := Lib.hid b2
      have HT1 := Lib.hid b3
      have c0 : w1.cell? ⟨w.heap.size, 0, none⟩ = some (.int .i64 p.kind) := b2.cell 0
      have c1 : w1.cell? ⟨w.heap.size, 1, none⟩ = some (.int .i64 p.id) := b2.cell 1
      have c5 : w1.cell? ⟨w.heap.size, 5, none⟩ = some (.int .i64 p.msg.level) := b2.cell 5
      clear b1 b2 b3 hw1
      go_wp2_with (refine wpList_store_blk (by rfl) 33 (.tmp 2) (.tmp 38) rfl rfl (w.heap.size + 1) 0 34 rfl (.agg (ansC 4 p.id).toArray) rfl 33 (pkC Pkt.zero PA.zero) (ansC 4 p.id) HT1.out rfl rfl info33 (by rw [pkC_len]; decide) (all_one rfl) ?_; rintro w9 hM _ hbel; have HM9 : Hid (MT 33 w9 (w.heap.size + 1) (ansC 4 p.id)) := Lib.hid (by rw [putC_whole (pkC Pkt.zero PA.zero) (ansC 4 p.id) rfl] at hM; exact hM); have HB9 := Lib.hid (hbel _ _ (by omega) HB1.out); clear hM hbel)
      exact bodyPost_ret (v := .tuple #[.agg (pkC q PA.zero).toArray, .bool x]) (results_two rfl _ _ (w.heap.size + 1) 33 _ (0, 0) _ (.bool x) rfl (by rw [HD.out]; rfl) (by have := HM9.out; rw [HQ.out]; exact this) Tryd.underlying33 rfl info33) rfl ⟨rfl, HB9.out⟩
    · by_cases l2 : p.msg.level = 2
      · have hk : k = 5 := by rw [HK.out]; simp [h3, l2]
        have h0 : k ≠ 0 := by rw [hk]; decide
        have HQ : Hid (q = plainP 5 p.id) := Lib.hid (by rw [HA.out h0, hk])
        have HD : Hid (x = true) := Lib.hid (by rw [hx, hk]; rfl)
        clear h0
        have e3 : (p.kind == 3) = true := by rw [h3]; rfl
        have e5 : (p.kind == 5) = false := by simp [h3]
        have e6 : (p.kind == 6) = false := by simp [h3]
        have e12 : (p.kind == 12) = false := by simp [h3]
        have f1 : (p.msg.level == 1) = false := by simp [l1]
        have f2 : (p.msg.level == 2) = true := by rw [l2]; rfl
        clear HA HN HK hx hk h3 l1 l2
        go_enter Tryd.func17, Tryd.ntmps17
        go_upto_region 1 with fail
        refine name_world (C := fun w1 => Code.wp _ _ _ _ w1) ((w.alloc (.cells (pkC p a).toArray 33)).alloc (.cells (pkC Pkt.zero PA.zero).toArray 33)) ?_
        rintro w1 hw1
        obtain ⟨b1, b2, b3⟩ := two hw1
        have hz1 : w.heap.size + 1 < w1.heap.size := b3.lt
        have HB1 := Lib.hid b1
        have HM1 := Lib.hid b2
        have HT1 := Lib.hid b3
        have c0 : w1.cell? ⟨w.heap.size, 0, none⟩ = some (.int .i64 p.kind) := b2.cell 0
        have c1 : w1.cell? ⟨w.heap.size, 1, none⟩ = some (.int .i64 p.id) := b2.cell 1
        have c5 : w1.cell? ⟨w.heap.size, 5, none⟩ = some (.int .i64 p.msg.level) := b2.cell 5
        clear b1 b2 b3 hw1
        go_wp2_with (refine wpList_store_blk (by rfl) 33 (.tmp 2) (.tmp 38) rfl rfl (w.heap.size + 1) 0 34 rfl (.agg (ansC 5 p.id).toArray) rfl 33 (pkC Pkt.zero PA.zero) (ansC 5 p.id) HT1.out rfl rfl info33 (by rw [pkC_len]; decide) (all_one rfl) ?_; rintro w9 hM _ hbel; have HM9 : Hid (MT 33 w9 (w.heap.size + 1) (ansC 5 p.id)) := Lib.hid (by rw [putC_whole (pkC Pkt.zero PA.zero) (ansC 5 p.id) rfl] at hM; exact hM); have HB9 := Lib.hid (hbel _ _ (by omega) HB1.out); clear hM hbel)
        exact bodyPost_ret (v := .tuple #[.agg (pkC q PA.zero).toArray, .bool x]) (results_two rfl _ _ (w.heap.size + 1) 33 _ (0, 0) _ (.bool x) rfl (by rw [HD.out]; rfl) (by have := HM9.out; rw [HQ.out]; exact this) Tryd.underlying33 rfl info33) rfl ⟨rfl, HB9.out⟩
      · have hk : k = 0 := by rw [HK.out]; simp [h3, l1, l2]
        have HQ := Lib.hid (HN.out hk)
        have HD : Hid (x = false) := Lib.hid (by rw [hx, hk]; rfl)
        have e3 : (p.kind == 3) = true := by rw [h3]; rfl
        have e5 : (p.kind == 5) = false := by simp [h3]
        have e6 : (p.kind == 6) = false := by simp [h3]
        have e12 : (p.kind == 12) = false := by simp [h3]
        have f1 : (p.msg.level == 1) = false := by simp [l1]
        have f2 : (p.msg.level == 2) = false := by simp [l2]
        clear HA HN HK hx hk h3 l1 l2
        go_enter Tryd.func17, Tryd.ntmps17
        go_upto_region 1 with fail
        refine name_world (C := fun w1 => Code.wp _ _ _ _ w1) ((w.alloc (.cells (pkC p a).toArray 33)).alloc (.cells (pkC Pkt.zero PA.zero).toArray 33)) ?_
        rintro w1 hw1
        obtain ⟨b1, b2, b3⟩ := two hw1
        have hz1 : w.heap.size + 1 < w1.heap.size := b3.lt
        have HB1 := Lib.hid b1
        have HM1 := Lib.hid b2
        have HT1 := Lib.hid b3
        have c0 : w1.cell? ⟨w.heap.size, 0, none⟩ = some (.int .i64 p.kind) := b2.cell 0
        have c1 : w1.cell? ⟨w.heap.size, 1, none⟩ = some (.int .i64 p.id) := b2.cell 1
        have c5 : w1.cell? ⟨w.heap.size, 5, none⟩ = some (.int .i64 p.msg.level) := b2.cell 5
        clear b1 b2 b3 hw1
        go_wp2_with (refine wpList_store_blk (by rfl) 33 (.tmp 2) (.tmp 34) rfl rfl (w.heap.size + 1) 0 34 rfl (.agg (pkC Pkt.zero PA.zero).toArray) rfl 33 (pkC Pkt.zero PA.zero) (pkC Pkt.zero PA.zero) HT1.out rfl rfl info33 (by rw [pkC_len]; decide) (all_one rfl) ?_; rintro w9 hM _ hbel; have HM9 : Hid (MT 33 w9 (w.heap.size + 1) (pkC Pkt.zero PA.zero)) := Lib.hid (by rw [putC_whole (pkC Pkt.zero PA.zero) (pkC Pkt.zero PA.zero) rfl] at hM; exact hM); have HB9 := Lib.hid (hbel _ _ (by omega) HB1.out); clear hM hbel)
        exact bodyPost_ret (v := .tuple #[.agg (pkC q PA.zero).toArray, .bool x]) (results_two rfl _ _ (w.heap.size + 1) 33 _ (0, 0) _ (.bool x) rfl (by rw [HD.out]; rfl) (by have := HM9.out; rw [HQ.out]; exact this) Tryd.underlying33 rfl info33) rfl ⟨rfl, HB9.out⟩
  · by_cases h5 : p.kind = 5
    · have hk : k = 6 := by rw [HK.out]; simp [h5]
      have h0 : k ≠ 0 := by rw [hk]; decide
      have HQ : Hid (q = plainP 6 p.id) := Lib.hid (by rw [HA.out h0, hk])
      have HD : Hid (x = true) := Lib.hid (by rw [hx, hk]; rfl)
      clear h0
      have e3 : (p.kind == 3) = false := by simp [h3]
      have e5 : (p.kind == 5) = true := by rw [h5]; rfl
      have e6 : (p.kind == 6) = false := by simp [h5]
      have e12 : (p.kind == 12) = false := by simp [h5]
      clear HA HN HK hx hk h3 h5
      go_enter Tryd.func17, Tryd.ntmps17
      go_upto_region 1 with fail
      refine name_world (C := fun w1 => Code.wp _ _ _ _ w1) ((w.alloc (.cells (pkC p a).toArray 33)).alloc (.cells (pkC Pkt.zero PA.zero).toArray 33)) ?_
      rintro w1 hw1
      obtain ⟨b1, b2, b3⟩ := two hw1
      have hz1 : w.heap.size + 1 < w1.heap.size := b3.lt
      have HB1 := Lib.hid b1
      have HM1 := Lib.hid b2
      have HT1 := Lib.hid b3
      have c0 : w1.cell? ⟨w.heap.size, 0, none⟩ = some (.int .i64 p.kind) := b2.cell 0
      have c1 : w1.cell? ⟨w.heap.size, 1, none⟩ = some (.int .i64 p.id) := b2.cell 1
      have c5 : w1.cell? ⟨w.heap.size, 5, none⟩ = some (.int .i64 p.msg.level) := b2.cell 5
      clear b1 b2 b3 hw1
      go_wp2_with (refine wpList_store_blk (by rfl) 33 (.tmp 2) (.tmp 38) rfl rfl (w.heap.size + 1) 0 34 rfl (.agg (ansC 6 p.id).toArray) rfl 33 (pkC Pkt.zero PA.zero) (ansC 6 p.id) HT1.out rfl rfl info33 (by rw [pkC_len]; decide) (all_one rfl) ?_; rintro w9 hM _ hbel; have HM9 : Hid (MT 33 w9 (w.heap.size + 1) (ansC 6 p.id)) := Lib.hid (by rw [putC_whole (pkC Pkt.zero PA.zero) (ansC 6 p.id) rfl] at hM; exact hM); have HB9 := Lib.hid (hbel _ _ (by omega) HB1.out); clear hM hbel)
      exact bodyPost_ret (v := .tuple #[.agg (pkC q PA.zero).toArray, .bool x]) (results_two rfl _ _ (w.heap.size + 1) 33 _ (0, 0) _ (.bool x) rfl (by rw [HD.out]; rfl) (by have := HM9.out; rw [HQ.out]; exact this) Tryd.underlying33 rfl info33) rfl ⟨rfl, HB9.out⟩
    · by_cases h6 : p.kind = 6
      · have hk : k = 7 := by rw [HK.out]; simp [h6]
        have h0 : k ≠ 0 := by rw [hk]; decide
        have HQ : Hid (q = plainP 7 p.id) := Lib.hid (by rw [HA.out h0, hk])
        have HD : Hid (x = true) := Lib.hid (by rw [hx, hk]; rfl)
        clear h0
        have e3 : (p.kind == 3) = false := by simp [h3]
        have e5 : (p.kind == 5) = false := by simp [h5]
        have e6 : (p.kind == 6) = true := by rw [h6]; rfl
        have e12 : (p.kind == 12) = false := by simp [h6]
        clear HA HN HK hx hk h3 h5 h6
        go_enter Tryd.func17, Tryd.ntmps17
        go_upto_region 1 with fail
        refine name_world (C := fun w1 => Code.wp _ _ _ _ w1) ((w.alloc (.cells (pkC p a).toArray 33)).alloc (.cells (pkC Pkt.zero PA.zero).toArray 33)) ?_
        rintro w1 hw1
        obtain ⟨b1, b2, b3⟩ := two hw1
        have hz1 : w.heap.size + 1 < w1.heap.size := b3.lt
        have HB1 := Lib.hid b1
        have HM1 := Lib.hid b2
        have HT1 := Lib.hid b3
        have c0 : w1.cell? ⟨w.heap.size, 0, none⟩ = some (.int .i64 p.kind) := b2.cell 0
        have c1 : w1.cell? ⟨w.heap.size, 1, none⟩ = some (.int .i64 p.id) := b2.cell 1
        have c5 : w1.cell? ⟨w.heap.size, 5, none⟩ = some (.int .i64 p.msg.level) := b2.cell 5
        clear b1 b2 b3 hw1
        go_wp2_with (refine wpList_store_blk (by rfl) 33 (.tmp 2) (.tmp 38) rfl rfl (w.heap.size + 1) 0 34 rfl (.agg (ansC 7 p.id).toArray) rfl 33 (pkC Pkt.zero PA.zero) (ansC 7 p.id) HT1.out rfl rfl info33 (by rw [pkC_len]; decide) (all_one rfl) ?_; rintro w9 hM _ hbel; have HM9 : Hid (MT 33 w9 (w.heap.size + 1) (ansC 7 p.id)) := Lib.hid (by rw [putC_whole (pkC Pkt.zero PA.zero) (ansC 7 p.id) rfl] at hM; exact hM); have HB9 := Lib.hid (hbel _ _ (by omega) HB1.out); clear hM hbel)
        exact bodyPost_ret (v := .tuple #[.agg (pkC q PA.zero).toArray, .bool x]) (results_two rfl _ _ (w.heap.size + 1) 33 _ (0, 0) _ (.bool x) rfl (by rw [HD.out]; rfl) (by have := HM9.out; rw [HQ.out]; exact this) Tryd.underlying33 rfl info33) rfl ⟨rfl, HB9.out⟩
      · by_cases h12 : p.kind = 12
        · have hk : k = 13 := by rw [HK.out]; simp [h12]
          have h0 : k ≠ 0 := by rw [hk]; decide
          have HQ : Hid (q = plainP 13 p.id) := Lib.hid (by rw [HA.out h0, hk])
          have HD : Hid (x = true) := Lib.hid (by rw [hx, hk]; rfl)
          clear h0
          have e3 : (p.kind == 3) = false := by simp [h3]
          have e5 : (p.kind == 5) = false := by simp [h5]
          have e6 : (p.kind == 6) = false := by simp [h6]
          have e12 : (p.kind == 12) = true := by rw [h12]; rfl
          clear HA HN HK hx hk h3 h5 h6 h12
          go_enter Tryd.func17, Tryd.ntmps17
          go_upto_region 1 with fail
          refine name_world (C := fun w1 => Code.wp _ _ _ _ w1) ((w.alloc (.cells (pkC p a).toArray 33)).alloc (.cells (pkC Pkt.zero PA.zero).toArray 33)) ?_
          rintro w1 hw1
          obtain ⟨b1, b2, b3⟩ := two hw1
          have hz1 : w.heap.size + 1 < w1.heap.size := b3.lt
          have HB1 := Lib.hid b1
          have HM1 := Lib.hid b2
          have HT1 := Lib.hid b3
          have c0 : w1.cell? ⟨w.heap.size, 0, none⟩ = some (.int .i64 p.kind) := b2.cell 0
          have c1 : w1.cell? ⟨w.heap.size, 1, none⟩ = some (.int .i64 p.id) := b2.cell 1
          have c5 : w1.cell? ⟨w.heap.size, 5, none⟩ = some (.int .i64 p.msg.level) := b2.cell 5
          clear b1 b2 b3 hw1
          go_wp2_with (refine wpList_store_blk (by rfl) 33 (.tmp 2) (.tmp 38) rfl rfl (w.heap.size + 1) 0 34 rfl (.agg (ansC 13 p.id).toArray) rfl 33 (pkC Pkt.zero PA.zero) (ansC 13 p.id) HT1.out rfl rfl info33 (by rw [pkC_len]; decide) (all_one rfl) ?_; rintro w9 hM _ hbel; have HM9 : Hid (MT 33 w9 (w.heap.size + 1) (ansC 13 p.id)) := Lib.hid (by rw [putC_whole (pkC Pkt.zero PA.zero) (ansC 13 p.id) rfl] at hM; exact hM); have HB9 := Lib.hid (hbel _ _ (by omega) HB1.out); clear hM hbel)
          exact bodyPost_ret (v := .tuple #[.agg (pkC q PA.zero).toArray, .bool x]) (results_two rfl _ _ (w.heap.size + 1) 33 _ (0, 0) _ (.bool x) rfl (by rw [HD.out]; rfl) (by have := HM9.out; rw [HQ.out]; exact this) Tryd.underlying33 rfl info33) rfl ⟨rfl, HB9.out⟩
        · have hk : k = 0 := by rw [HK.out]; simp [h3, h5, h6, h12]
          have HQ := Lib.hid (HN.out hk)
          have HD : Hid (x = false) := Lib.hid (by rw [hx, hk]; rfl)
          have e3 : (p.kind == 3) = false := by simp [h3]
          have e5 : (p.kind == 5) = false := by simp [h5]
          have e6 : (p.kind == 6) = false := by simp [h6]
          have e12 : (p.kind == 12) = false := by simp [h12]
          clear HA HN HK hx hk h3 h5 h6 h12
          go_enter Tryd.func17, Tryd.ntmps17
          go_upto_region 1 with fail
          refine name_world (C := fun w1 => Code.wp _ _ _ _ w1) ((w.alloc (.cells (pkC p a).toArray 33)).alloc (.cells (pkC Pkt.zero PA.zero).toArray 33)) ?_
          rintro w1 hw1
          obtain ⟨b1, b2, b3⟩ := two hw1
          have hz1 : w.heap.size + 1 < w1.heap.size := b3.lt
          have HB1 := Lib.hid b1
          have HM1 := Lib.hid b2
          have HT1 := Lib.hid b3
          have c0 : w1.cell? ⟨w.heap.size, 0, none⟩ = some (.int .i64 p.kind) := b2.cell 0
          have c1 : w1.cell? ⟨w.heap.size, 1, none⟩ = some (.int .i64 p.id) := b2.cell 1
          have c5 : w1.cell? ⟨w.heap.size, 5, none⟩ = some (.int .i64 p.msg.level) := b2.cell 5
          clear b1 b2 b3 hw1
          go_wp2_with (refine wpList_store_blk (by rfl) 33 (.tmp 2) (.tmp 34) rfl rfl (w.heap.size + 1) 0 34 rfl (.agg (pkC Pkt.zero PA.zero).toArray) rfl 33 (pkC Pkt.zero PA.zero) (pkC Pkt.zero PA.zero) HT1.out rfl rfl info33 (by rw [pkC_len]; decide) (all_one rfl) ?_; rintro w9 hM _ hbel; have HM9 : Hid (MT 33 w9 (w.heap.size + 1) (pkC Pkt.zero PA.zero)) := Lib.hid (by rw [putC_whole (pkC Pkt.zero PA.zero) (pkC Pkt.zero PA.zero) rfl] at hM; exact hM); have HB9 := Lib.hid (hbel _ _ (by omega) HB1.out); clear hM hbel)
          exact bodyPost_ret (v := .tuple #[.agg (pkC q PA.zero).toArray, .bool x]) (results_two rfl _ _ (w.heap.size + 1) 33 _ (0, 0) _ (.bool x) rfl (by rw [HD.out]; rfl) (by have := HM9.out; rw [HQ.out]; exact this) Tryd.underlying33 rfl info33) rfl ⟨rfl, HB9.out⟩

theorem either_any (k : Int) (w : World) : Calls Tryd.prog 20 #[.int .i64 k] w fun e w' => e = .returned (.bool (bothR k)) ∧ w = w' := by
  go_enter Tryd.func20, Tryd.ntmps20
  go_wp2
  all_goals
    go_ret
    refine ⟨retb ?_, rfl⟩
    simp only [beq_iff_eq, beq_eq_false_iff_ne, ne_eq] at *
    unfold bothR
    symm
    first | (rw [Bool.or_eq_true, decide_eq_true_eq, decide_eq_true_eq]; omega) | (rw [Bool.or_eq_false_iff, decide_eq_false_iff_not, decide_eq_false_iff_not]; omega)
theorem both_any (k : Int) (w : World) : Calls Tryd.prog 21 #[.int .i64 k] w fun e w' => e = .returned (.bool (bothR k)) ∧ w = w' := by
  by_cases h3 : 3 ≤ k
  · have q3 : decide (3 ≤ k) = true := decide_eq_true h3
    by_cases h7 : k ≤ 7
    · have q7 : decide (k ≤ 7) = true := decide_eq_true h7
      have HV : Hid (bothR k = true) := Lib.hid (by unfold bothR; simp [h3, h7])
      clear h3 h7
      go_enter Tryd.func21, Tryd.ntmps21
      go_wp2
      go_ret
      exact ⟨retb HV.out.symm, rfl⟩
    · have q7 : decide (k ≤ 7) = false := decide_eq_false h7
      have HV : Hid (bothR k = (k == 14)) := Lib.hid (by unfold bothR; simp [h7]; rfl)
      clear h3 h7
      go_enter Tryd.func21, Tryd.ntmps21
      go_wp2
      go_ret
      exact ⟨retb HV.out.symm, rfl⟩
  · have q3 : decide (3 ≤ k) = false := decide_eq_false h3
    have HV : Hid (bothR k = (k == 14)) := Lib.hid (by unfold bothR; simp [h3]; rfl)
    clear h3
    go_enter Tryd.func21, Tryd.ntmps21
    go_wp2
    go_ret
    exact ⟨retb HV.out.symm, rfl⟩
theorem client_any (k : Int) (w : World) : Calls Tryd.prog 8 #[.int .i64 k] w fun e w' => e = .returned (.bool (clientR k)) ∧ w = w' := by
  have HE := Lib.hid (fun w => either_any k w)
  have HV : Hid (clientR k = (bothR k || decide (k = 1) || decide (k = 8) || decide (k = 10) || decide (k = 12))) := Lib.hid rfl
  generalize clientR k = r at HV ⊢
  generalize bothR k = b at HE HV
  by_cases h0 : k = 1
  · have HV2 : Hid (r = true) := Lib.hid (by rw [HV.out]; simp [h0])
    have e0 : (k == 1) = true := by rw [h0]; rfl
    clear HV HE h0
    go_enter Tryd.func8, Tryd.ntmps8
    go_wp2_with fail
    go_ret
    exact ⟨retb HV2.out.symm, rfl⟩
  · by_cases h1 : k = 8
    · have HV2 : Hid (r = true) := Lib.hid (by rw [HV.out]; simp [h1])
      have e0 : (k == 1) = false := by simp [h0]
      have e1 : (k == 8) = true := by rw [h1]; rfl
      clear HV HE h0 h1
      go_enter Tryd.func8, Tryd.ntmps8
      go_wp2_with fail
      go_ret
      exact ⟨retb HV2.out.symm, rfl⟩
    · by_cases h2 : k = 10
      · have HV2 : Hid (r = true) := Lib.hid (by rw [HV.out]; simp [h2])
        have e0 : (k == 1) = false := by simp [h0]
        have e1 : (k == 8) = false := by simp [h1]
        have e2 : (k == 10) = true := by rw [h2]; rfl
        clear HV HE h0 h1 h2
        go_enter Tryd.func8, Tryd.ntmps8
        go_wp2_with fail
        go_ret
        exact ⟨retb HV2.out.symm, rfl⟩
      · by_cases h3 : k = 12
        · have HV2 : Hid (r = true) := Lib.hid (by rw [HV.out]; simp [h3])
          have e0 : (k == 1) = false := by simp [h0]
          have e1 : (k == 8) = false := by simp [h1]
          have e2 : (k == 10) = false := by simp [h2]
          have e3 : (k == 12) = true := by rw [h3]; rfl
          clear HV HE h0 h1 h2 h3
          go_enter Tryd.func8, Tryd.ntmps8
          go_wp2_with fail
          go_ret
          exact ⟨retb HV2.out.symm, rfl⟩
        · have HV2 : Hid (r = b) := Lib.hid (by rw [HV.out]; simp [h0, h1, h2, h3])
          have e0 : (k == 1) = false := by simp [h0]
          have e1 : (k == 8) = false := by simp [h1]
          have e2 : (k == 10) = false := by simp [h2]
          have e3 : (k == 12) = false := by simp [h3]
          clear HV h0 h1 h2 h3
          go_enter Tryd.func8, Tryd.ntmps8
          go_wp2_with fail
          refine (HE.out w).mono ?_
          rintro e w' ⟨rfl, rfl⟩
          go_wp2_with fail
          go_ret
          exact ⟨retb HV2.out.symm, rfl⟩
theorem broker_any (k : Int) (w : World) : Calls Tryd.prog 10 #[.int .i64 k] w fun e w' => e = .returned (.bool (brokerR k)) ∧ w = w' := by
  have HE := Lib.hid (fun w => either_any k w)
  have HV : Hid (brokerR k = (bothR k || decide (k = 2) || decide (k = 9) || decide (k = 11) || decide (k = 13))) := Lib.hid rfl
  generalize brokerR k = r at HV ⊢
  generalize bothR k = b at HE HV
  by_cases h0 : k = 2
  · have HV2 : Hid (r = true) := Lib.hid (by rw [HV.out]; simp [h0])
    have e0 : (k == 2) = true := by rw [h0]; rfl
    clear HV HE h0
    go_enter Tryd.func10, Tryd.ntmps10
    go_wp2_with fail
    go_ret
    exact ⟨retb HV2.out.symm, rfl⟩
  · by_cases h1 : k = 9
    · have HV2 : Hid (r = true) := Lib.hid (by rw [HV.out]; simp [h1])
      have e0 : (k == 2) = false := by simp [h0]
      have e1 : (k == 9) = true := by rw [h1]; rfl
      clear HV HE h0 h1
      go_enter Tryd.func10, Tryd.ntmps10
      go_wp2_with fail
      go_ret
      exact ⟨retb HV2.out.symm, rfl⟩
    · by_cases h2 : k = 11
      · have HV2 : Hid (r = true) := Lib.hid (by rw [HV.out]; simp [h2])
        have e0 : (k == 2) = false := by simp [h0]
        have e1 : (k == 9) = false := by simp [h1]
        have e2 : (k == 11) = true := by rw [h2]; rfl
        clear HV HE h0 h1 h2
        go_enter Tryd.func10, Tryd.ntmps10
        go_wp2_with fail
        go_ret
        exact ⟨retb HV2.out.symm, rfl⟩
      · by_cases h3 : k = 13
        · have HV2 : Hid (r = true) := Lib.hid (by rw [HV.out]; simp [h3])
          have e0 : (k == 2) = false := by simp [h0]
          have e1 : (k == 9) = false := by simp [h1]
          have e2 : (k == 11) = false := by simp [h2]
          have e3 : (k == 13) = true := by rw [h3]; rfl
          clear HV HE h0 h1 h2 h3
          go_enter Tryd.func10, Tryd.ntmps10
          go_wp2_with fail
          go_ret
          exact ⟨retb HV2.out.symm, rfl⟩
        · have HV2 : Hid (r = b) := Lib.hid (by rw [HV.out]; simp [h0, h1, h2, h3])
          have e0 : (k == 2) = false := by simp [h0]
          have e1 : (k == 9) = false := by simp [h1]
          have e2 : (k == 11) = false := by simp [h2]
          have e3 : (k == 13) = false := by simp [h3]
          clear HV h0 h1 h2 h3
          go_enter Tryd.func10, Tryd.ntmps10
          go_wp2_with fail
          refine (HE.out w).mono ?_
          rintro e w' ⟨rfl, rfl⟩
          go_wp2_with fail
          go_ret
          exact ⟨retb HV2.out.symm, rfl⟩
theorem rClient_any (k : Int) (w : World) : Calls Tryd.prog 9 #[.int .i64 k] w fun e w' => e = .returned (.bool (clientR k)) ∧ w = w' := by
  have HE := Lib.hid (fun w => both_any k w)
  have HV : Hid (clientR k = (bothR k || decide (k = 1) || decide (k = 8) || decide (k = 10) || decide (k = 12))) := Lib.hid rfl
  generalize clientR k = r at HV ⊢
  generalize bothR k = b at HE HV
  cases b with
  | true =>
    have HV2 : Hid (r = true) := Lib.hid (by rw [HV.out]; simp)
    clear HV
    go_enter Tryd.func9, Tryd.ntmps9
    go_wp2_with fail
    refine (HE.out w).mono ?_
    rintro e w' ⟨rfl, rfl⟩
    go_wp2_with fail
    go_ret
    exact ⟨retb HV2.out.symm, rfl⟩
  | false =>
    by_cases h0 : k = 1
    · have HV2 : Hid (r = true) := Lib.hid (by rw [HV.out]; simp [h0])
      have e0 : (k == 1) = true := by rw [h0]; rfl
      clear HV h0
      go_enter Tryd.func9, Tryd.ntmps9
      go_wp2_with fail
      refine (HE.out w).mono ?_
      rintro e w' ⟨rfl, rfl⟩
      go_wp2_with fail
      go_ret
      exact ⟨retb HV2.out.symm, rfl⟩
    · by_cases h1 : k = 8
      · have HV2 : Hid (r = true) := Lib.hid (by rw [HV.out]; simp [h1])
        have e0 : (k == 1) = false := by simp [h0]
        have e1 : (k == 8) = true := by rw [h1]; rfl
        clear HV h0 h1
        go_enter Tryd.func9, Tryd.ntmps9
        go_wp2_with fail
        refine (HE.out w).mono ?_
        rintro e w' ⟨rfl, rfl⟩
        go_wp2_with fail
        go_ret
        exact ⟨retb HV2.out.symm, rfl⟩
      · by_cases h2 : k = 10
        · have HV2 : Hid (r = true) := Lib.hid (by rw [HV.out]; simp [h2])
          have e0 : (k == 1) = false := by simp [h0]
          have e1 : (k == 8) = false := by simp [h1]
          have e2 : (k == 10) = true := by rw [h2]; rfl
          clear HV h0 h1 h2
          go_enter Tryd.func9, Tryd.ntmps9
          go_wp2_with fail
          refine (HE.out w).mono ?_
          rintro e w' ⟨rfl, rfl⟩
          go_wp2_with fail
          go_ret
          exact ⟨retb HV2.out.symm, rfl⟩
        · by_cases h3 : k = 12
          · have HV2 : Hid (r = true) := Lib.hid (by rw [HV.out]; simp [h3])
            have e0 : (k == 1) = false := by simp [h0]
            have e1 : (k == 8) = false := by simp [h1]
            have e2 : (k == 10) = false := by simp [h2]
            have e3 : (k == 12) = true := by rw [h3]; rfl
            clear HV h0 h1 h2 h3
            go_enter Tryd.func9, Tryd.ntmps9
            go_wp2_with fail
            refine (HE.out w).mono ?_
            rintro e w' ⟨rfl, rfl⟩
            go_wp2_with fail
            go_ret
            exact ⟨retb HV2.out.symm, rfl⟩
          · have HV2 : Hid (r = false) := Lib.hid (by rw [HV.out]; simp [h0, h1, h2, h3])
            have e0 : (k == 1) = false := by simp [h0]
            have e1 : (k == 8) = false := by simp [h1]
            have e2 : (k == 10) = false := by simp [h2]
            have e3 : (k == 12) = false := by simp [h3]
            clear HV h0 h1 h2 h3
            go_enter Tryd.func9, Tryd.ntmps9
            go_wp2_with fail
            refine (HE.out w).mono ?_
            rintro e w' ⟨rfl, rfl⟩
            go_wp2_with fail
            go_ret
            exact ⟨retb HV2.out.symm, rfl⟩
theorem rBroker_any (k : Int) (w : World) : Calls Tryd.prog 11 #[.int .i64 k] w fun e w' => e = .returned (.bool (brokerR k)) ∧ w = w' := by
  have HE := Lib.hid (fun w => both_any k w)
  have HV : Hid (brokerR k = (bothR k || decide (k = 2) || decide (k = 9) || decide (k = 11) || decide (k = 13))) := Lib.hid rfl
  generalize brokerR k = r at HV ⊢
  generalize bothR k = b at HE HV
  cases b with
  | true =>
    have HV2 : Hid (r = true) := Lib.hid (by rw [HV.out]; simp)
    clear HV
    go_enter Tryd.func11, Tryd.ntmps11
    go_wp2_with fail
    refine (HE.out w).mono ?_
    rintro e w' ⟨rfl, rfl⟩
    go_wp2_with fail
    go_ret
    exact ⟨retb HV2.out.symm, rfl⟩
  | false =>
    by_cases h0 : k = 2
    · have HV2 : Hid (r = true) := Lib.hid (by rw [HV.out]; simp [h0])
      have e0 : (k == 2) = true := by rw [h0]; rfl
      clear HV h0
      go_enter Tryd.func11, Tryd.ntmps11
      go_wp2_with fail
      refine (HE.out w).mono ?_
      rintro e w' ⟨rfl, rfl⟩
      go_wp2_with fail
      go_ret
      exact ⟨retb HV2.out.symm, rfl⟩
    · by_cases h1 : k = 9
      · have HV2 : Hid (r = true) := Lib.hid (by rw [HV.out]; simp [h1])
        have e0 : (k == 2) = false := by simp [h0]
        have e1 : (k == 9) = true := by rw [h1]; rfl
        clear HV h0 h1
        go_enter Tryd.func11, Tryd.ntmps11
        go_wp2_with fail
        refine (HE.out w).mono ?_
        rintro e w' ⟨rfl, rfl⟩
        go_wp2_with fail
        go_ret
        exact ⟨retb HV2.out.symm, rfl⟩
      · by_cases h2 : k = 11
        · have HV2 : Hid (r = true) := Lib.hid (by rw [HV.out]; simp [h2])
          have e0 : (k == 2) = false := by simp [h0]
          have e1 : (k == 9) = false := by simp [h1]
          have e2 : (k == 11) = true := by rw [h2]; rfl
          clear HV h0 h1 h2
          go_enter Tryd.func11, Tryd.ntmps11
          go_wp2_with fail
          refine (HE.out w).mono ?_
          rintro e w' ⟨rfl, rfl⟩
          go_wp2_with fail
          go_ret
          exact ⟨retb HV2.out.symm, rfl⟩
        · by_cases h3 : k = 13
          · have HV2 : Hid (r = true) := Lib.hid (by rw [HV.out]; simp [h3])
            have e0 : (k == 2) = false := by simp [h0]
            have e1 : (k == 9) = false := by simp [h1]
            have e2 : (k == 11) = false := by simp [h2]
            have e3 : (k == 13) = true := by rw [h3]; rfl
            clear HV h0 h1 h2 h3
            go_enter Tryd.func11, Tryd.ntmps11
            go_wp2_with fail
            refine (HE.out w).mono ?_
            rintro e w' ⟨rfl, rfl⟩
            go_wp2_with fail
            go_ret
            exact ⟨retb HV2.out.symm, rfl⟩
          · have HV2 : Hid (r = false) := Lib.hid (by rw [HV.out]; simp [h0, h1, h2, h3])
            have e0 : (k == 2) = false := by simp [h0]
            have e1 : (k == 9) = false := by simp [h1]
            have e2 : (k == 11) = false := by simp [h2]
            have e3 : (k == 13) = false := by simp [h3]
            clear HV h0 h1 h2 h3
            go_enter Tryd.func11, Tryd.ntmps11
            go_wp2_with fail
            refine (HE.out w).mono ?_
            rintro e w' ⟨rfl, rfl⟩
            go_wp2_with fail
            go_ret
            exact ⟨retb HV2.out.symm, rfl⟩

end Go.Proofs.YtjlmlaekogahpaaDoor
