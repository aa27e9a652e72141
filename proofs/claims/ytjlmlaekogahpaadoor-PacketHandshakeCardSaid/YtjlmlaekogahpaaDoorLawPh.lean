/-
  PacketHandshake answers true, walked. Conditions: the tables of package unicode/utf8 are there.
-/
import Derived.Test.YtjlmlaekogahpaaDoorLawPa
namespace Go.Proofs.YtjlmlaekogahpaaDoor
open Go.RowKit

theorem step_check {l id : Int} (h : checkP (pubP l id) = 0) {k : Nat} (hk : k < wantH l) (w : World) (hw : S1.Okw w) :
    Calls Tryd.prog 18 #[pkV (stepP l id (k + 1)) PA.zero] w fun e w' => e = .returned (.int .i64 0) ∧ Below w.heap.size w w' := by
  obtain ⟨_, h2, _, h4⟩ := step_ans h hk
  have := check6_any (ansP (stepP l id k)) PA.zero w hw (pin_ans w _) (psz_ans _) (ptx_ans _)
  rw [h2, h4] at this; exact this
theorem step_answer {l id : Int} (h : checkP (pubP l id) = 0) {k : Nat} (hk : k < wantH l) (w : World) :
    Calls Tryd.prog 16 #[pkV (stepP l id k) PA.zero] w fun e w' => e = .returned (.tuple #[pkV (stepP l id (k + 1)) PA.zero, .bool true]) ∧ Below w.heap.size w w' := by
  obtain ⟨h1, h2, _, _⟩ := step_ans h hk
  have := answer_any (stepP l id k) PA.zero w
  rw [h2, decide_eq_true h1] at this; exact this
theorem step_stop {l id : Int} (h : checkP (pubP l id) = 0) (w : World) :
    Calls Tryd.prog 16 #[pkV (stepP l id (wantH l)) PA.zero] w fun e w' => e = .returned (.tuple #[pkV Pkt.zero PA.zero, .bool false]) ∧ Below w.heap.size w w' := by
  have h1 := step_end h
  have := answer_any (stepP l id (wantH l)) PA.zero w
  rw [ansP_no h1, h1] at this; exact this
theorem step_id {l id : Int} (h : checkP (pubP l id) = 0) {k : Nat} (hk : k < wantH l) : (stepP l id (k + 1)).id = id := (step_ans h hk).2.2.1
set_option maxRecDepth 50000 in
set_option maxHeartbeats 16000000 in
theorem hand_0 (id : Int) (w : World) (hw : S1.Okw w) (hc : checkP (pubP 0 id) = 0) :
    Calls Tryd.prog 7 #[.int .i64 0, .int .i64 id] w fun e w' => e = .returned (.bool true) ∧ Below w.heap.size w w' := by
  have HO := Lib.hid hw
  have P1 := Lib.hid (fun w => publish_any 0 id w)
  have K1 := Lib.hid (fun w h => check_pubP 0 id w h)
  rw [hc] at K1
  have hwant : wantH 0 = 0 := rfl
  have A1 : Hid (∀ k, k < 0 → ∀ w, Calls Tryd.prog 16 #[pkV (stepP 0 id k) PA.zero] w fun e w' => e = .returned (.tuple #[pkV (stepP 0 id (k + 1)) PA.zero, .bool true]) ∧ Below w.heap.size w w') := Lib.hid (fun k hk w => step_answer hc hk w)
  have A2 : Hid (∀ w, Calls Tryd.prog 16 #[pkV (stepP 0 id 0) PA.zero] w fun e w' => e = .returned (.tuple #[pkV Pkt.zero PA.zero, .bool false]) ∧ Below w.heap.size w w') := Lib.hid (fun w => step_stop hc w)
  have K2 : Hid (∀ k, k < 0 → ∀ w, S1.Okw w → Calls Tryd.prog 18 #[pkV (stepP 0 id (k + 1)) PA.zero] w fun e w' => e = .returned (.int .i64 0) ∧ Below w.heap.size w w') := Lib.hid (fun k hk w h => step_check hc hk w h)
  have I1 : Hid (∀ k, k < 0 → (stepP 0 id (k + 1)).id = id) := Lib.hid (fun k hk => step_id hc hk)
  have S0 : Hid (pubP 0 id = stepP 0 id 0) := Lib.hid rfl
  clear hwant hc hw
  rw [S0.out] at P1 K1
  clear S0
  unfold pkV at *
  go_enter Tryd.func7, Tryd.ntmps7
  go_wp2_with fail
  refine (P1.out w).mono ?_
  rintro e w1 ⟨rfl, hb⟩
  have HB1 := Lib.hid hb
  clear hb
  go_wp2_with (first | (refine wpList_store_blk (by rfl) 33 (.tmp 5) (.tmp 13) rfl rfl (w1.heap.size) 0 34 rfl (.agg (pkC (stepP 0 id 0) PA.zero).toArray) rfl 33 (pkC Pkt.zero PA.zero) (pkC (stepP 0 id 0) PA.zero) (zero_new w1) rfl rfl info33 (by rw [pkC_len]; decide) (all_one rfl) ?_; rintro w2 hM hoth hbel; have HMw2 : Hid (MT 33 w2 (w1.heap.size) (pkC (stepP 0 id 0) PA.zero)) := Lib.hid (by rw [putC_whole (pkC Pkt.zero PA.zero) (pkC (stepP 0 id 0) PA.zero) rfl] at hM; exact hM); have HBw2 : Hid (Below w.heap.size w w2) := Lib.hid (hbel _ _ HB1.out.size (HB1.out.alloc HB1.out.size _)); clear hM hoth hbel) | (refine wpList_load_all (by rfl) 33 (.tmp 5) rfl (w1.heap.size) rfl 33 _ (0, 0) _ HMw2.out Tryd.underlying33 rfl info33 ?_))
  refine (K1.out w2 (HO.out.step HBw2.out)).mono ?_
  rintro e w3 ⟨rfl, hb⟩
  have HBw3 : Hid (Below w.heap.size w w3) := Lib.hid (stepB HBw2.out hb)
  have HMw3 := Lib.hid (MT.step HMw2.out hb)
  clear hb
  go_wp2_with fail
  go_loopg [6, 7] 0 (fun g vn vi wr => ∃ k : Nat, k + g = 0 ∧ vn = .int .i64 k ∧ vi = .int .i64 k ∧ MT 33 wr (w1.heap.size) (pkC (stepP 0 id k) PA.zero) ∧ Below w.heap.size w wr)
  case atStart => exact ⟨0, by omega, rfl, rfl, HMw3.out, HBw3.out⟩
  case round =>
    obtain ⟨k, hkg, rfl, rfl, hM, hb⟩ := hrel
    have HM := Lib.hid hM
    have HB := Lib.hid hb
    have HG := Lib.hid hkg
    clear hM hb
    have e5 : decide ((k : Int) < 5) = true := decide_eq_true (by omega)
    cases gk with
    | zero =>
      obtain rfl : k = 0 := by omega
      clear hkg e5
      go_wp2_with (refine wpList_load_all (by rfl) 33 (.tmp 5) rfl (w1.heap.size) rfl 33 _ (0, 0) _ HM.out Tryd.underlying33 rfl info33 ?_)
      refine (A2.out wr).mono ?_
      rintro e wa ⟨rfl, hb⟩
      have HBa : Hid (Below w.heap.size w wa) := Lib.hid (stepB HB.out hb)
      have HMa := Lib.hid (MT.step HM.out hb)
      clear hb
      go_wp2_with (refine wpList_store_blk (by rfl) 33 (.tmp 8) (.tmp 25) rfl rfl (wa.heap.size) 0 34 rfl (.agg (pkC Pkt.zero PA.zero).toArray) rfl 33 (pkC Pkt.zero PA.zero) (pkC Pkt.zero PA.zero) (zero_new wa) rfl rfl info33 (by rw [pkC_len]; decide) (all_one rfl) ?_; rintro wb hM hoth hbel; have HMwb : Hid (MT 33 wb (wa.heap.size) (pkC Pkt.zero PA.zero)) := Lib.hid (by rw [putC_whole (pkC Pkt.zero PA.zero) (pkC Pkt.zero PA.zero) rfl] at hM; exact hM); have HBwb : Hid (Below w.heap.size w wb) := Lib.hid (hbel _ _ HBa.out.size (HBa.out.alloc HBa.out.size _)); clear hM hoth hbel)
      refine (awake6_any wb (HO.out.step HBwb.out)).mono ?_
      rintro e we ⟨rfl, hb⟩
      have HBe := Lib.hid (stepB HBwb.out hb)
      clear hb
      go_wp2_with fail
      go_ret
      exact ⟨rfl, HBe.out⟩
    | succ g => omega
set_option maxRecDepth 50000 in
set_option maxHeartbeats 16000000 in
theorem hand_1 (id : Int) (w : World) (hw : S1.Okw w) (hc : checkP (pubP 1 id) = 0) :
    Calls Tryd.prog 7 #[.int .i64 1, .int .i64 id] w fun e w' => e = .returned (.bool true) ∧ Below w.heap.size w w' := by
  have HO := Lib.hid hw
  have P1 := Lib.hid (fun w => publish_any 1 id w)
  have K1 := Lib.hid (fun w h => check_pubP 1 id w h)
  rw [hc] at K1
  have hwant : wantH 1 = 1 := rfl
  have A1 : Hid (∀ k, k < 1 → ∀ w, Calls Tryd.prog 16 #[pkV (stepP 1 id k) PA.zero] w fun e w' => e = .returned (.tuple #[pkV (stepP 1 id (k + 1)) PA.zero, .bool true]) ∧ Below w.heap.size w w') := Lib.hid (fun k hk w => step_answer hc hk w)
  have A2 : Hid (∀ w, Calls Tryd.prog 16 #[pkV (stepP 1 id 1) PA.zero] w fun e w' => e = .returned (.tuple #[pkV Pkt.zero PA.zero, .bool false]) ∧ Below w.heap.size w w') := Lib.hid (fun w => step_stop hc w)
  have K2 : Hid (∀ k, k < 1 → ∀ w, S1.Okw w → Calls Tryd.prog 18 #[pkV (stepP 1 id (k + 1)) PA.zero] w fun e w' => e = .returned (.int .i64 0) ∧ Below w.heap.size w w') := Lib.hid (fun k hk w h => step_check hc hk w h)
  have I1 : Hid (∀ k, k < 1 → (stepP 1 id (k + 1)).id = id) := Lib.hid (fun k hk => step_id hc hk)
  have S0 : Hid (pubP 1 id = stepP 1 id 0) := Lib.hid rfl
  clear hwant hc hw
  rw [S0.out] at P1 K1
  clear S0
  unfold pkV at *
  go_enter Tryd.func7, Tryd.ntmps7
  go_wp2_with fail
  refine (P1.out w).mono ?_
  rintro e w1 ⟨rfl, hb⟩
  have HB1 := Lib.hid hb
  clear hb
  go_wp2_with (first | (refine wpList_store_blk (by rfl) 33 (.tmp 5) (.tmp 13) rfl rfl (w1.heap.size) 0 34 rfl (.agg (pkC (stepP 1 id 0) PA.zero).toArray) rfl 33 (pkC Pkt.zero PA.zero) (pkC (stepP 1 id 0) PA.zero) (zero_new w1) rfl rfl info33 (by rw [pkC_len]; decide) (all_one rfl) ?_; rintro w2 hM hoth hbel; have HMw2 : Hid (MT 33 w2 (w1.heap.size) (pkC (stepP 1 id 0) PA.zero)) := Lib.hid (by rw [putC_whole (pkC Pkt.zero PA.zero) (pkC (stepP 1 id 0) PA.zero) rfl] at hM; exact hM); have HBw2 : Hid (Below w.heap.size w w2) := Lib.hid (hbel _ _ HB1.out.size (HB1.out.alloc HB1.out.size _)); clear hM hoth hbel) | (refine wpList_load_all (by rfl) 33 (.tmp 5) rfl (w1.heap.size) rfl 33 _ (0, 0) _ HMw2.out Tryd.underlying33 rfl info33 ?_))
  refine (K1.out w2 (HO.out.step HBw2.out)).mono ?_
  rintro e w3 ⟨rfl, hb⟩
  have HBw3 : Hid (Below w.heap.size w w3) := Lib.hid (stepB HBw2.out hb)
  have HMw3 := Lib.hid (MT.step HMw2.out hb)
  clear hb
  go_wp2_with fail
  go_loopg [6, 7] 1 (fun g vn vi wr => ∃ k : Nat, k + g = 1 ∧ vn = .int .i64 k ∧ vi = .int .i64 k ∧ MT 33 wr (w1.heap.size) (pkC (stepP 1 id k) PA.zero) ∧ Below w.heap.size w wr)
  case atStart => exact ⟨0, by omega, rfl, rfl, HMw3.out, HBw3.out⟩
  case round =>
    obtain ⟨k, hkg, rfl, rfl, hM, hb⟩ := hrel
    have HM := Lib.hid hM
    have HB := Lib.hid hb
    have HG := Lib.hid hkg
    clear hM hb
    have e5 : decide ((k : Int) < 5) = true := decide_eq_true (by omega)
    cases gk with
    | zero =>
      obtain rfl : k = 1 := by omega
      clear hkg e5
      go_wp2_with (refine wpList_load_all (by rfl) 33 (.tmp 5) rfl (w1.heap.size) rfl 33 _ (0, 0) _ HM.out Tryd.underlying33 rfl info33 ?_)
      refine (A2.out wr).mono ?_
      rintro e wa ⟨rfl, hb⟩
      have HBa : Hid (Below w.heap.size w wa) := Lib.hid (stepB HB.out hb)
      have HMa := Lib.hid (MT.step HM.out hb)
      clear hb
      go_wp2_with (refine wpList_store_blk (by rfl) 33 (.tmp 8) (.tmp 25) rfl rfl (wa.heap.size) 0 34 rfl (.agg (pkC Pkt.zero PA.zero).toArray) rfl 33 (pkC Pkt.zero PA.zero) (pkC Pkt.zero PA.zero) (zero_new wa) rfl rfl info33 (by rw [pkC_len]; decide) (all_one rfl) ?_; rintro wb hM hoth hbel; have HMwb : Hid (MT 33 wb (wa.heap.size) (pkC Pkt.zero PA.zero)) := Lib.hid (by rw [putC_whole (pkC Pkt.zero PA.zero) (pkC Pkt.zero PA.zero) rfl] at hM; exact hM); have HBwb : Hid (Below w.heap.size w wb) := Lib.hid (hbel _ _ HBa.out.size (HBa.out.alloc HBa.out.size _)); clear hM hoth hbel)
      refine (awake6_any wb (HO.out.step HBwb.out)).mono ?_
      rintro e we ⟨rfl, hb⟩
      have HBe := Lib.hid (stepB HBwb.out hb)
      clear hb
      go_wp2_with fail
      go_ret
      exact ⟨rfl, HBe.out⟩
    | succ g =>
      have hlt : k < 1 := by omega
      have J := Lib.hid (I1.out k hlt)
      have A := Lib.hid (A1.out k hlt)
      have C := Lib.hid (K2.out k hlt)
      go_wp2_with (refine wpList_load_all (by rfl) 33 (.tmp 5) rfl (w1.heap.size) rfl 33 _ (0, 0) _ HM.out Tryd.underlying33 rfl info33 ?_)
      refine (A.out wr).mono ?_
      rintro e wa ⟨rfl, hb⟩
      have HBa : Hid (Below w.heap.size w wa) := Lib.hid (stepB HB.out hb)
      have HMa := Lib.hid (MT.step HM.out hb)
      clear hb
      go_upto_region 10 with (refine wpList_store_blk (by rfl) 33 (.tmp 8) (.tmp 25) rfl rfl (wa.heap.size) 0 34 rfl (.agg (pkC (stepP 1 id (k + 1)) PA.zero).toArray) rfl 33 (pkC Pkt.zero PA.zero) (pkC (stepP 1 id (k + 1)) PA.zero) (zero_new wa) rfl rfl info33 (by rw [pkC_len]; decide) (all_one rfl) ?_; rintro wb hM hoth hbel; have HMwb : Hid (MT 33 wb (wa.heap.size) (pkC (stepP 1 id (k + 1)) PA.zero)) := Lib.hid (by rw [putC_whole (pkC Pkt.zero PA.zero) (pkC (stepP 1 id (k + 1)) PA.zero) rfl] at hM; exact hM); have HBwb : Hid (Below w.heap.size w wb) := Lib.hid (hbel _ _ HBa.out.size (HBa.out.alloc HBa.out.size _)); have HQwb : Hid (MT 33 wb (w1.heap.size) (pkC (stepP 1 id k) PA.zero)) := Lib.hid (hoth _ _ _ (Nat.ne_of_lt HMa.out.lt) (HMa.out.alloc _)); clear hM hoth hbel)
      have d1 : wb.cell? ⟨wa.heap.size, 1, none⟩ = some (.int .i64 id) := by have := HMwb.out.cell 1; rw [this]; show some (Value.int .i64 (stepP _ id (k + 1)).id) = _; rw [J.out]
      go_wp2_with (refine wpList_load_all (by rfl) 33 (.tmp 8) rfl (wa.heap.size) rfl 33 _ (0, 0) _ HMwb.out Tryd.underlying33 rfl info33 ?_)
      refine (C.out wb (HO.out.step HBwb.out)).mono ?_
      rintro e wc ⟨rfl, hb⟩
      have HBwc : Hid (Below w.heap.size w wc) := Lib.hid (stepB HBwb.out hb)
      have HMwc := Lib.hid (MT.step HMwb.out hb)
      have HQwc := Lib.hid (MT.step HQwb.out hb)
      clear hb d1
      go_wp2_with (first | (refine wpList_load_all (by rfl) 33 (.tmp 8) rfl (wa.heap.size) rfl 33 _ (0, 0) _ HMwc.out Tryd.underlying33 rfl info33 ?_) | (refine wpList_store_blk (by rfl) 33 (.tmp 5) (.tmp 40) rfl rfl (w1.heap.size) 0 34 rfl (.agg (pkC (stepP 1 id (k + 1)) PA.zero).toArray) rfl 33 (pkC (stepP 1 id k) PA.zero) (pkC (stepP 1 id (k + 1)) PA.zero) (HQwc.out) rfl rfl info33 (by rw [pkC_len]; decide) (all_one rfl) ?_; rintro wd hM hoth hbel; have HMwd : Hid (MT 33 wd (w1.heap.size) (pkC (stepP 1 id (k + 1)) PA.zero)) := Lib.hid (by rw [putC_whole (pkC (stepP 1 id k) PA.zero) (pkC (stepP 1 id (k + 1)) PA.zero) rfl] at hM; exact hM); have HBwd : Hid (Below w.heap.size w wd) := Lib.hid (hbel _ _ HB1.out.size HBwc.out); clear hM hoth hbel))
      go_roundg g
      case measure => omega
      case rel => exact ⟨k + 1, by have := HG.out; omega, by go_num, by go_num, HMwd.out, HBwd.out⟩
set_option maxRecDepth 50000 in
set_option maxHeartbeats 16000000 in
theorem hand_2 (id : Int) (w : World) (hw : S1.Okw w) (hc : checkP (pubP 2 id) = 0) :
    Calls Tryd.prog 7 #[.int .i64 2, .int .i64 id] w fun e w' => e = .returned (.bool true) ∧ Below w.heap.size w w' := by
  have HO := Lib.hid hw
  have P1 := Lib.hid (fun w => publish_any 2 id w)
  have K1 := Lib.hid (fun w h => check_pubP 2 id w h)
  rw [hc] at K1
  have hwant : wantH 2 = 3 := rfl
  have A1 : Hid (∀ k, k < 3 → ∀ w, Calls Tryd.prog 16 #[pkV (stepP 2 id k) PA.zero] w fun e w' => e = .returned (.tuple #[pkV (stepP 2 id (k + 1)) PA.zero, .bool true]) ∧ Below w.heap.size w w') := Lib.hid (fun k hk w => step_answer hc hk w)
  have A2 : Hid (∀ w, Calls Tryd.prog 16 #[pkV (stepP 2 id 3) PA.zero] w fun e w' => e = .returned (.tuple #[pkV Pkt.zero PA.zero, .bool false]) ∧ Below w.heap.size w w') := Lib.hid (fun w => step_stop hc w)
  have K2 : Hid (∀ k, k < 3 → ∀ w, S1.Okw w → Calls Tryd.prog 18 #[pkV (stepP 2 id (k + 1)) PA.zero] w fun e w' => e = .returned (.int .i64 0) ∧ Below w.heap.size w w') := Lib.hid (fun k hk w h => step_check hc hk w h)
  have I1 : Hid (∀ k, k < 3 → (stepP 2 id (k + 1)).id = id) := Lib.hid (fun k hk => step_id hc hk)
  have S0 : Hid (pubP 2 id = stepP 2 id 0) := Lib.hid rfl
  clear hwant hc hw
  rw [S0.out] at P1 K1
  clear S0
  unfold pkV at *
  go_enter Tryd.func7, Tryd.ntmps7
  go_wp2_with fail
  refine (P1.out w).mono ?_
  rintro e w1 ⟨rfl, hb⟩
  have HB1 := Lib.hid hb
  clear hb
  go_wp2_with (first | (refine wpList_store_blk (by rfl) 33 (.tmp 5) (.tmp 13) rfl rfl (w1.heap.size) 0 34 rfl (.agg (pkC (stepP 2 id 0) PA.zero).toArray) rfl 33 (pkC Pkt.zero PA.zero) (pkC (stepP 2 id 0) PA.zero) (zero_new w1) rfl rfl info33 (by rw [pkC_len]; decide) (all_one rfl) ?_; rintro w2 hM hoth hbel; have HMw2 : Hid (MT 33 w2 (w1.heap.size) (pkC (stepP 2 id 0) PA.zero)) := Lib.hid (by rw [putC_whole (pkC Pkt.zero PA.zero) (pkC (stepP 2 id 0) PA.zero) rfl] at hM; exact hM); have HBw2 : Hid (Below w.heap.size w w2) := Lib.hid (hbel _ _ HB1.out.size (HB1.out.alloc HB1.out.size _)); clear hM hoth hbel) | (refine wpList_load_all (by rfl) 33 (.tmp 5) rfl (w1.heap.size) rfl 33 _ (0, 0) _ HMw2.out Tryd.underlying33 rfl info33 ?_))
  refine (K1.out w2 (HO.out.step HBw2.out)).mono ?_
  rintro e w3 ⟨rfl, hb⟩
  have HBw3 : Hid (Below w.heap.size w w3) := Lib.hid (stepB HBw2.out hb)
  have HMw3 := Lib.hid (MT.step HMw2.out hb)
  clear hb
  go_wp2_with fail
  go_loopg [6, 7] 3 (fun g vn vi wr => ∃ k : Nat, k + g = 3 ∧ vn = .int .i64 k ∧ vi = .int .i64 k ∧ MT 33 wr (w1.heap.size) (pkC (stepP 2 id k) PA.zero) ∧ Below w.heap.size w wr)
  case atStart => exact ⟨0, by omega, rfl, rfl, HMw3.out, HBw3.out⟩
  case round =>
    obtain ⟨k, hkg, rfl, rfl, hM, hb⟩ := hrel
    have HM := Lib.hid hM
    have HB := Lib.hid hb
    have HG := Lib.hid hkg
    clear hM hb
    have e5 : decide ((k : Int) < 5) = true := decide_eq_true (by omega)
    cases gk with
    | zero =>
      obtain rfl : k = 3 := by omega
      clear hkg e5
      go_wp2_with (refine wpList_load_all (by rfl) 33 (.tmp 5) rfl (w1.heap.size) rfl 33 _ (0, 0) _ HM.out Tryd.underlying33 rfl info33 ?_)
      refine (A2.out wr).mono ?_
      rintro e wa ⟨rfl, hb⟩
      have HBa : Hid (Below w.heap.size w wa) := Lib.hid (stepB HB.out hb)
      have HMa := Lib.hid (MT.step HM.out hb)
      clear hb
      go_wp2_with (refine wpList_store_blk (by rfl) 33 (.tmp 8) (.tmp 25) rfl rfl (wa.heap.size) 0 34 rfl (.agg (pkC Pkt.zero PA.zero).toArray) rfl 33 (pkC Pkt.zero PA.zero) (pkC Pkt.zero PA.zero) (zero_new wa) rfl rfl info33 (by rw [pkC_len]; decide) (all_one rfl) ?_; rintro wb hM hoth hbel; have HMwb : Hid (MT 33 wb (wa.heap.size) (pkC Pkt.zero PA.zero)) := Lib.hid (by rw [putC_whole (pkC Pkt.zero PA.zero) (pkC Pkt.zero PA.zero) rfl] at hM; exact hM); have HBwb : Hid (Below w.heap.size w wb) := Lib.hid (hbel _ _ HBa.out.size (HBa.out.alloc HBa.out.size _)); clear hM hoth hbel)
      refine (awake6_any wb (HO.out.step HBwb.out)).mono ?_
      rintro e we ⟨rfl, hb⟩
      have HBe := Lib.hid (stepB HBwb.out hb)
      clear hb
      go_wp2_with fail
      go_ret
      exact ⟨rfl, HBe.out⟩
    | succ g =>
      have hlt : k < 3 := by omega
      have J := Lib.hid (I1.out k hlt)
      have A := Lib.hid (A1.out k hlt)
      have C := Lib.hid (K2.out k hlt)
      go_wp2_with (refine wpList_load_all (by rfl) 33 (.tmp 5) rfl (w1.heap.size) rfl 33 _ (0, 0) _ HM.out Tryd.underlying33 rfl info33 ?_)
      refine (A.out wr).mono ?_
      rintro e wa ⟨rfl, hb⟩
      have HBa : Hid (Below w.heap.size w wa) := Lib.hid (stepB HB.out hb)
      have HMa := Lib.hid (MT.step HM.out hb)
      clear hb
      go_upto_region 10 with (refine wpList_store_blk (by rfl) 33 (.tmp 8) (.tmp 25) rfl rfl (wa.heap.size) 0 34 rfl (.agg (pkC (stepP 2 id (k + 1)) PA.zero).toArray) rfl 33 (pkC Pkt.zero PA.zero) (pkC (stepP 2 id (k + 1)) PA.zero) (zero_new wa) rfl rfl info33 (by rw [pkC_len]; decide) (all_one rfl) ?_; rintro wb hM hoth hbel; have HMwb : Hid (MT 33 wb (wa.heap.size) (pkC (stepP 2 id (k + 1)) PA.zero)) := Lib.hid (by rw [putC_whole (pkC Pkt.zero PA.zero) (pkC (stepP 2 id (k + 1)) PA.zero) rfl] at hM; exact hM); have HBwb : Hid (Below w.heap.size w wb) := Lib.hid (hbel _ _ HBa.out.size (HBa.out.alloc HBa.out.size _)); have HQwb : Hid (MT 33 wb (w1.heap.size) (pkC (stepP 2 id k) PA.zero)) := Lib.hid (hoth _ _ _ (Nat.ne_of_lt HMa.out.lt) (HMa.out.alloc _)); clear hM hoth hbel)
      have d1 : wb.cell? ⟨wa.heap.size, 1, none⟩ = some (.int .i64 id) := by have := HMwb.out.cell 1; rw [this]; show some (Value.int .i64 (stepP _ id (k + 1)).id) = _; rw [J.out]
      go_wp2_with (refine wpList_load_all (by rfl) 33 (.tmp 8) rfl (wa.heap.size) rfl 33 _ (0, 0) _ HMwb.out Tryd.underlying33 rfl info33 ?_)
      refine (C.out wb (HO.out.step HBwb.out)).mono ?_
      rintro e wc ⟨rfl, hb⟩
      have HBwc : Hid (Below w.heap.size w wc) := Lib.hid (stepB HBwb.out hb)
      have HMwc := Lib.hid (MT.step HMwb.out hb)
      have HQwc := Lib.hid (MT.step HQwb.out hb)
      clear hb d1
      go_wp2_with (first | (refine wpList_load_all (by rfl) 33 (.tmp 8) rfl (wa.heap.size) rfl 33 _ (0, 0) _ HMwc.out Tryd.underlying33 rfl info33 ?_) | (refine wpList_store_blk (by rfl) 33 (.tmp 5) (.tmp 40) rfl rfl (w1.heap.size) 0 34 rfl (.agg (pkC (stepP 2 id (k + 1)) PA.zero).toArray) rfl 33 (pkC (stepP 2 id k) PA.zero) (pkC (stepP 2 id (k + 1)) PA.zero) (HQwc.out) rfl rfl info33 (by rw [pkC_len]; decide) (all_one rfl) ?_; rintro wd hM hoth hbel; have HMwd : Hid (MT 33 wd (w1.heap.size) (pkC (stepP 2 id (k + 1)) PA.zero)) := Lib.hid (by rw [putC_whole (pkC (stepP 2 id k) PA.zero) (pkC (stepP 2 id (k + 1)) PA.zero) rfl] at hM; exact hM); have HBwd : Hid (Below w.heap.size w wd) := Lib.hid (hbel _ _ HB1.out.size HBwc.out); clear hM hoth hbel))
      go_roundg g
      case measure => omega
      case rel => exact ⟨k + 1, by have := HG.out; omega, by go_num, by go_num, HMwd.out, HBwd.out⟩
set_option maxRecDepth 50000 in
set_option maxHeartbeats 16000000 in
theorem packetHandshake_walk (l id : Int) (w : World) (hw : S1.Okw w) :
    Calls Tryd.prog 7 #[.int .i64 l, .int .i64 id] w fun e w' => e = .returned (.bool true) ∧ Below w.heap.size w w' := by
  by_cases hc : checkP (pubP l id) = 0
  · rcases pub_level hc with rfl | rfl | rfl
    · exact hand_0 id w hw hc
    · exact hand_1 id w hw hc
    · exact hand_2 id w hw hc
  have HO := Lib.hid hw
  have P1 := Lib.hid (fun w => publish_any l id w)
  have K1 := Lib.hid (fun w h => check_pubP l id w h)
  generalize checkP (pubP l id) = cp at K1 hc
  have q0 : ((cp : Int) != 0) = true := by simp [hc]
  clear hc hw
  unfold pkV at *
  go_enter Tryd.func7, Tryd.ntmps7
  go_wp2_with fail
  refine (P1.out w).mono ?_
  rintro e w1 ⟨rfl, hb⟩
  have HB1 := Lib.hid hb
  clear hb
  go_wp2_with (first | (refine wpList_store_blk (by rfl) 33 (.tmp 5) (.tmp 13) rfl rfl (w1.heap.size) 0 34 rfl (.agg (pkC (pubP l id) PA.zero).toArray) rfl 33 (pkC Pkt.zero PA.zero) (pkC (pubP l id) PA.zero) (zero_new w1) rfl rfl info33 (by rw [pkC_len]; decide) (all_one rfl) ?_; rintro w2 hM hoth hbel; have HMw2 : Hid (MT 33 w2 (w1.heap.size) (pkC (pubP l id) PA.zero)) := Lib.hid (by rw [putC_whole (pkC Pkt.zero PA.zero) (pkC (pubP l id) PA.zero) rfl] at hM; exact hM); have HBw2 : Hid (Below w.heap.size w w2) := Lib.hid (hbel _ _ HB1.out.size (HB1.out.alloc HB1.out.size _)); clear hM hoth hbel) | (refine wpList_load_all (by rfl) 33 (.tmp 5) rfl (w1.heap.size) rfl 33 _ (0, 0) _ HMw2.out Tryd.underlying33 rfl info33 ?_))
  refine (K1.out w2 (HO.out.step HBw2.out)).mono ?_
  rintro e w3 ⟨rfl, hb⟩
  have HBw3 : Hid (Below w.heap.size w w3) := Lib.hid (stepB HBw2.out hb)
  have HMw3 := Lib.hid (MT.step HMw2.out hb)
  clear hb
  go_wp2_with fail
  refine (awake6_any w3 (HO.out.step HBw3.out)).mono ?_
  rintro e we ⟨rfl, hb⟩
  have HBe := Lib.hid (stepB HBw3.out hb)
  clear hb
  go_wp2_with fail
  go_ret
  exact ⟨rfl, HBe.out⟩

end Go.Proofs.YtjlmlaekogahpaaDoor
