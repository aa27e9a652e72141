/-
What Used of the specification hands back: the packet with the fields alone that its kind uses. Conditions: none.
-/
import Derived.Test.YtdkegoaflabjoaaGreatDoorUsed
set_option maxHeartbeats 8000000
set_option maxRecDepth 50000
namespace Go.Proofs.YtdkegoaflabjoaaGreatDoor
open Go.RowKit

theorem rUsed5 (p : Pkt) (a : PA) (w : World) (hk0 : p.kind = 5) :
 Calls Tryz.prog 25 #[pkV p a] w fun e w' => e = .returned (pkV (usedP p) (usedA p a)) ∧ Below w.heap.size w w' := by
 unfold pkV
 have k0 : (pkC p a)[0]? = some (.int .i64 5) := by rw [← hk0]; rfl
 have k0z := Lib.hid k0
 have hk := Lib.hid hk0
 clear hk0
 go_enter Tryz.func25, Tryz.ntmps25
 go_upto_region 1 with fail
 refine name_world (C := fun w1 => Code.wp _ _ _ _ w1) ((w.alloc (.cells (pkC p a).toArray 38)).alloc (.cells (pkC Pkt.zero PA.zero).toArray 38)) ?_
 rintro w0 hw0
 obtain ⟨b1, b2, b3⟩ := two hw0
 have hU0 : w.heap.size + 1 < w0.heap.size := b3.lt
 have k0w : w0.cell? ⟨w.heap.size, 0, none⟩ = some (.int .i64 5) := (b2.cell 0).trans k0
 have HBw0 := Lib.hid b1
 have HQw0 := Lib.hid b2
 have HTw0 := Lib.hid b3
 clear b1 b2 b3 hw0 k0
 go_upto_region 2 with (refine wpList_store_blk (by rfl) 38 (.tmp 3) (.tmp 6) rfl rfl w0.heap.size 0 34 rfl (.agg (zC 5).toArray) rfl 38 (pkC Pkt.zero PA.zero) (zC 5) (zero_new w0) rfl rfl info33 (by rw [pkC_len]; decide) (one_cells rfl) ?_; rintro w1 hM hoth hbel; have HQw1 : Hid (MT 38 w1 (w.heap.size) (pkC p a)) := Lib.hid (hoth _ _ _ (by omega) (HQw0.out.alloc _)); have HTw1 : Hid (MT 38 w1 (w.heap.size + 1) (pkC Pkt.zero PA.zero)) := Lib.hid (hoth _ _ _ (by omega) (HTw0.out.alloc _)); have HUw1 : Hid (MT 38 w1 (w0.heap.size) (zC 5)) := Lib.hid (by rw [putC_all (pkC Pkt.zero PA.zero) (zC 5) rfl] at hM; exact hM); have HBw1 : Hid (Below w.heap.size w w1) := Lib.hid (hbel _ _ (by omega) (HBw0.out.alloc (by omega) _)); clear hM hoth hbel HQw0 HTw0 HBw0 k0w)
 have HLw1 := Lib.hid (zC_len 5)
 have c0w1 : w1.cell? ⟨w.heap.size, 0, none⟩ = some (.int .i64 5) := (HQw1.out.cell 0).trans k0z.out
 go_upto_region 3 with fail
 have c1w1 : w1.cell? ⟨w.heap.size, 1, none⟩ = some (.int .i64 p.id) := HQw1.out.cell 1
 go_upto_region 25 with (refine wpList_store_blk (by rfl) 3 (.tmp 22) (.tmp 21) rfl rfl (w0.heap.size) 1 1 rfl (.int .i64 p.id) rfl 38 (zC 5) ([.int .i64 p.id]) HUw1.out rfl rfl (oneSz _ (by simp)) (by rw [HLw1.out]; show 1 + 1 ≤ 34; decide) (one_cells rfl) ?_; rintro w2 hM hoth hbel; have HQw2 : Hid (MT 38 w2 (w.heap.size) (pkC p a)) := Lib.hid (hoth _ _ _ (by omega) HQw1.out); have HTw2 : Hid (MT 38 w2 (w.heap.size + 1) (pkC Pkt.zero PA.zero)) := Lib.hid (hoth _ _ _ (by omega) HTw1.out); have HUw2 : Hid (MT 38 w2 (w0.heap.size) (putC (zC 5) 1 ([.int .i64 p.id]))) := Lib.hid hM; have HLw2 : Hid ((putC (zC 5) 1 ([.int .i64 p.id])).length = 34) := Lib.hid ((putC_len (by rw [HLw1.out]; show 1 + 1 ≤ 34; decide)).trans HLw1.out); have HBw2 : Hid (Below w.heap.size w w2) := Lib.hid (hbel _ _ (by omega) HBw1.out); clear hM hoth hbel HQw1 HTw1 HUw1 HLw1 HBw1 c0w1 c1w1; have c0w2 : w2.cell? ⟨w.heap.size, 0, none⟩ = some (.int .i64 5) := (HQw2.out.cell 0).trans k0z.out)
 have HE : Hid (putC (zC 5) 1 ([.int .i64 p.id]) = pkC (usedP p) (usedA p a)) := Lib.hid (by unfold usedP usedA; simp only [hk.out]; rfl)
 have HU9 : Hid (MT 38 w2 (w0.heap.size) (pkC (usedP p) (usedA p a))) := Lib.hid (by have := HUw2.out; rw [HE.out] at this; exact this)
 go_wp2_with (first | (refine wpList_load_all (by rfl) 38 (.tmp 3) rfl (w0.heap.size) rfl 38 _ (0, 0) _ HU9.out Tryz.underlying38 rfl info33 ?_) | (refine wpList_store_blk (by rfl) 38 (.tmp 2) (.tmp 96) rfl rfl (w.heap.size + 1) 0 34 rfl (.agg (pkC (usedP p) (usedA p a)).toArray) rfl 38 (pkC Pkt.zero PA.zero) (pkC (usedP p) (usedA p a)) HTw2.out rfl rfl info33 (by rw [pkC_len]; decide) (one_cells rfl) ?_; rintro w9 hM _ hbel; have HM9 := Lib.hid hM; have HB9 := Lib.hid (hbel _ _ (by omega) HBw2.out); clear hM hbel))
 exact bodyPost_ret (v := .agg (pkC (usedP p) (usedA p a)).toArray) (results_cell_row rfl _ _ (w.heap.size + 1) 38 _ (0, 0) _ rfl (mtAll HM9.out) Tryz.underlying38 rfl info33) rfl ⟨rfl, HB9.out⟩
theorem rUsed6 (p : Pkt) (a : PA) (w : World) (hk0 : p.kind = 6) :
 Calls Tryz.prog 25 #[pkV p a] w fun e w' => e = .returned (pkV (usedP p) (usedA p a)) ∧ Below w.heap.size w w' := by
 unfold pkV
 have k0 : (pkC p a)[0]? = some (.int .i64 6) := by rw [← hk0]; rfl
 have k0z := Lib.hid k0
 have hk := Lib.hid hk0
 clear hk0
 go_enter Tryz.func25, Tryz.ntmps25
 go_upto_region 1 with fail
 refine name_world (C := fun w1 => Code.wp _ _ _ _ w1) ((w.alloc (.cells (pkC p a).toArray 38)).alloc (.cells (pkC Pkt.zero PA.zero).toArray 38)) ?_
 rintro w0 hw0
 obtain ⟨b1, b2, b3⟩ := two hw0
 have hU0 : w.heap.size + 1 < w0.heap.size := b3.lt
 have k0w : w0.cell? ⟨w.heap.size, 0, none⟩ = some (.int .i64 6) := (b2.cell 0).trans k0
 have HBw0 := Lib.hid b1
 have HQw0 := Lib.hid b2
 have HTw0 := Lib.hid b3
 clear b1 b2 b3 hw0 k0
 go_upto_region 2 with (refine wpList_store_blk (by rfl) 38 (.tmp 3) (.tmp 6) rfl rfl w0.heap.size 0 34 rfl (.agg (zC 6).toArray) rfl 38 (pkC Pkt.zero PA.zero) (zC 6) (zero_new w0) rfl rfl info33 (by rw [pkC_len]; decide) (one_cells rfl) ?_; rintro w1 hM hoth hbel; have HQw1 : Hid (MT 38 w1 (w.heap.size) (pkC p a)) := Lib.hid (hoth _ _ _ (by omega) (HQw0.out.alloc _)); have HTw1 : Hid (MT 38 w1 (w.heap.size + 1) (pkC Pkt.zero PA.zero)) := Lib.hid (hoth _ _ _ (by omega) (HTw0.out.alloc _)); have HUw1 : Hid (MT 38 w1 (w0.heap.size) (zC 6)) := Lib.hid (by rw [putC_all (pkC Pkt.zero PA.zero) (zC 6) rfl] at hM; exact hM); have HBw1 : Hid (Below w.heap.size w w1) := Lib.hid (hbel _ _ (by omega) (HBw0.out.alloc (by omega) _)); clear hM hoth hbel HQw0 HTw0 HBw0 k0w)
 have HLw1 := Lib.hid (zC_len 6)
 have c0w1 : w1.cell? ⟨w.heap.size, 0, none⟩ = some (.int .i64 6) := (HQw1.out.cell 0).trans k0z.out
 go_upto_region 3 with fail
 have c1w1 : w1.cell? ⟨w.heap.size, 1, none⟩ = some (.int .i64 p.id) := HQw1.out.cell 1
 go_upto_region 25 with (refine wpList_store_blk (by rfl) 3 (.tmp 22) (.tmp 21) rfl rfl (w0.heap.size) 1 1 rfl (.int .i64 p.id) rfl 38 (zC 6) ([.int .i64 p.id]) HUw1.out rfl rfl (oneSz _ (by simp)) (by rw [HLw1.out]; show 1 + 1 ≤ 34; decide) (one_cells rfl) ?_; rintro w2 hM hoth hbel; have HQw2 : Hid (MT 38 w2 (w.heap.size) (pkC p a)) := Lib.hid (hoth _ _ _ (by omega) HQw1.out); have HTw2 : Hid (MT 38 w2 (w.heap.size + 1) (pkC Pkt.zero PA.zero)) := Lib.hid (hoth _ _ _ (by omega) HTw1.out); have HUw2 : Hid (MT 38 w2 (w0.heap.size) (putC (zC 6) 1 ([.int .i64 p.id]))) := Lib.hid hM; have HLw2 : Hid ((putC (zC 6) 1 ([.int .i64 p.id])).length = 34) := Lib.hid ((putC_len (by rw [HLw1.out]; show 1 + 1 ≤ 34; decide)).trans HLw1.out); have HBw2 : Hid (Below w.heap.size w w2) := Lib.hid (hbel _ _ (by omega) HBw1.out); clear hM hoth hbel HQw1 HTw1 HUw1 HLw1 HBw1 c0w1 c1w1; have c0w2 : w2.cell? ⟨w.heap.size, 0, none⟩ = some (.int .i64 6) := (HQw2.out.cell 0).trans k0z.out)
 have HE : Hid (putC (zC 6) 1 ([.int .i64 p.id]) = pkC (usedP p) (usedA p a)) := Lib.hid (by unfold usedP usedA; simp only [hk.out]; rfl)
 have HU9 : Hid (MT 38 w2 (w0.heap.size) (pkC (usedP p) (usedA p a))) := Lib.hid (by have := HUw2.out; rw [HE.out] at this; exact this)
 go_wp2_with (first | (refine wpList_load_all (by rfl) 38 (.tmp 3) rfl (w0.heap.size) rfl 38 _ (0, 0) _ HU9.out Tryz.underlying38 rfl info33 ?_) | (refine wpList_store_blk (by rfl) 38 (.tmp 2) (.tmp 96) rfl rfl (w.heap.size + 1) 0 34 rfl (.agg (pkC (usedP p) (usedA p a)).toArray) rfl 38 (pkC Pkt.zero PA.zero) (pkC (usedP p) (usedA p a)) HTw2.out rfl rfl info33 (by rw [pkC_len]; decide) (one_cells rfl) ?_; rintro w9 hM _ hbel; have HM9 := Lib.hid hM; have HB9 := Lib.hid (hbel _ _ (by omega) HBw2.out); clear hM hbel))
 exact bodyPost_ret (v := .agg (pkC (usedP p) (usedA p a)).toArray) (results_cell_row rfl _ _ (w.heap.size + 1) 38 _ (0, 0) _ rfl (mtAll HM9.out) Tryz.underlying38 rfl info33) rfl ⟨rfl, HB9.out⟩
theorem rUsed7 (p : Pkt) (a : PA) (w : World) (hk0 : p.kind = 7) :
 Calls Tryz.prog 25 #[pkV p a] w fun e w' => e = .returned (pkV (usedP p) (usedA p a)) ∧ Below w.heap.size w w' := by
 unfold pkV
 have k0 : (pkC p a)[0]? = some (.int .i64 7) := by rw [← hk0]; rfl
 have k0z := Lib.hid k0
 have hk := Lib.hid hk0
 clear hk0
 go_enter Tryz.func25, Tryz.ntmps25
 go_upto_region 1 with fail
 refine name_world (C := fun w1 => Code.wp _ _ _ _ w1) ((w.alloc (.cells (pkC p a).toArray 38)).alloc (.cells (pkC Pkt.zero PA.zero).toArray 38)) ?_
 rintro w0 hw0
 obtain ⟨b1, b2, b3⟩ := two hw0
 have hU0 : w.heap.size + 1 < w0.heap.size := b3.lt
 have k0w : w0.cell? ⟨w.heap.size, 0, none⟩ = some (.int .i64 7) := (b2.cell 0).trans k0
 have HBw0 := Lib.hid b1
 have HQw0 := Lib.hid b2
 have HTw0 := Lib.hid b3
 clear b1 b2 b3 hw0 k0
 go_upto_region 2 with (refine wpList_store_blk (by rfl) 38 (.tmp 3) (.tmp 6) rfl rfl w0.heap.size 0 34 rfl (.agg (zC 7).toArray) rfl 38 (pkC Pkt.zero PA.zero) (zC 7) (zero_new w0) rfl rfl info33 (by rw [pkC_len]; decide) (one_cells rfl) ?_; rintro w1 hM hoth hbel; have HQw1 : Hid (MT 38 w1 (w.heap.size) (pkC p a)) := Lib.hid (hoth _ _ _ (by omega) (HQw0.out.alloc _)); have HTw1 : Hid (MT 38 w1 (w.heap.size + 1) (pkC Pkt.zero PA.zero)) := Lib.hid (hoth _ _ _ (by omega) (HTw0.out.alloc _)); have HUw1 : Hid (MT 38 w1 (w0.heap.size) (zC 7)) := Lib.hid (by rw [putC_all (pkC Pkt.zero PA.zero) (zC 7) rfl] at hM; exact hM); have HBw1 : Hid (Below w.heap.size w w1) := Lib.hid (hbel _ _ (by omega) (HBw0.out.alloc (by omega) _)); clear hM hoth hbel HQw0 HTw0 HBw0 k0w)
 have HLw1 := Lib.hid (zC_len 7)
 have c0w1 : w1.cell? ⟨w.heap.size, 0, none⟩ = some (.int .i64 7) := (HQw1.out.cell 0).trans k0z.out
 go_upto_region 3 with fail
 have c1w1 : w1.cell? ⟨w.heap.size, 1, none⟩ = some (.int .i64 p.id) := HQw1.out.cell 1
 go_upto_region 25 with (refine wpList_store_blk (by rfl) 3 (.tmp 22) (.tmp 21) rfl rfl (w0.heap.size) 1 1 rfl (.int .i64 p.id) rfl 38 (zC 7) ([.int .i64 p.id]) HUw1.out rfl rfl (oneSz _ (by simp)) (by rw [HLw1.out]; show 1 + 1 ≤ 34; decide) (one_cells rfl) ?_; rintro w2 hM hoth hbel; have HQw2 : Hid (MT 38 w2 (w.heap.size) (pkC p a)) := Lib.hid (hoth _ _ _ (by omega) HQw1.out); have HTw2 : Hid (MT 38 w2 (w.heap.size + 1) (pkC Pkt.zero PA.zero)) := Lib.hid (hoth _ _ _ (by omega) HTw1.out); have HUw2 : Hid (MT 38 w2 (w0.heap.size) (putC (zC 7) 1 ([.int .i64 p.id]))) := Lib.hid hM; have HLw2 : Hid ((putC (zC 7) 1 ([.int .i64 p.id])).length = 34) := Lib.hid ((putC_len (by rw [HLw1.out]; show 1 + 1 ≤ 34; decide)).trans HLw1.out); have HBw2 : Hid (Below w.heap.size w w2) := Lib.hid (hbel _ _ (by omega) HBw1.out); clear hM hoth hbel HQw1 HTw1 HUw1 HLw1 HBw1 c0w1 c1w1; have c0w2 : w2.cell? ⟨w.heap.size, 0, none⟩ = some (.int .i64 7) := (HQw2.out.cell 0).trans k0z.out)
 have HE : Hid (putC (zC 7) 1 ([.int .i64 p.id]) = pkC (usedP p) (usedA p a)) := Lib.hid (by unfold usedP usedA; simp only [hk.out]; rfl)
 have HU9 : Hid (MT 38 w2 (w0.heap.size) (pkC (usedP p) (usedA p a))) := Lib.hid (by have := HUw2.out; rw [HE.out] at this; exact this)
 go_wp2_with (first | (refine wpList_load_all (by rfl) 38 (.tmp 3) rfl (w0.heap.size) rfl 38 _ (0, 0) _ HU9.out Tryz.underlying38 rfl info33 ?_) | (refine wpList_store_blk (by rfl) 38 (.tmp 2) (.tmp 96) rfl rfl (w.heap.size + 1) 0 34 rfl (.agg (pkC (usedP p) (usedA p a)).toArray) rfl 38 (pkC Pkt.zero PA.zero) (pkC (usedP p) (usedA p a)) HTw2.out rfl rfl info33 (by rw [pkC_len]; decide) (one_cells rfl) ?_; rintro w9 hM _ hbel; have HM9 := Lib.hid hM; have HB9 := Lib.hid (hbel _ _ (by omega) HBw2.out); clear hM hbel))
 exact bodyPost_ret (v := .agg (pkC (usedP p) (usedA p a)).toArray) (results_cell_row rfl _ _ (w.heap.size + 1) 38 _ (0, 0) _ rfl (mtAll HM9.out) Tryz.underlying38 rfl info33) rfl ⟨rfl, HB9.out⟩
theorem rUsed8 (p : Pkt) (a : PA) (w : World) (hk0 : p.kind = 8) :
 Calls Tryz.prog 25 #[pkV p a] w fun e w' => e = .returned (pkV (usedP p) (usedA p a)) ∧ Below w.heap.size w w' := by
 unfold pkV
 have k0 : (pkC p a)[0]? = some (.int .i64 8) := by rw [← hk0]; rfl
 have k0z := Lib.hid k0
 have hk := Lib.hid hk0
 clear hk0
 go_enter Tryz.func25, Tryz.ntmps25
 go_upto_region 1 with fail
 refine name_world (C := fun w1 => Code.wp _ _ _ _ w1) ((w.alloc (.cells (pkC p a).toArray 38)).alloc (.cells (pkC Pkt.zero PA.zero).toArray 38)) ?_
 rintro w0 hw0
 obtain ⟨b1, b2, b3⟩ := two hw0
 have hU0 : w.heap.size + 1 < w0.heap.size := b3.lt
 have k0w : w0.cell? ⟨w.heap.size, 0, none⟩ = some (.int .i64 8) := (b2.cell 0).trans k0
 have HBw0 := Lib.hid b1
 have HQw0 := Lib.hid b2
 have HTw0 := Lib.hid b3
 clear b1 b2 b3 hw0 k0
 go_upto_region 2 with (refine wpList_store_blk (by rfl) 38 (.tmp 3) (.tmp 6) rfl rfl w0.heap.size 0 34 rfl (.agg (zC 8).toArray) rfl 38 (pkC Pkt.zero PA.zero) (zC 8) (zero_new w0) rfl rfl info33 (by rw [pkC_len]; decide) (one_cells rfl) ?_; rintro w1 hM hoth hbel; have HQw1 : Hid (MT 38 w1 (w.heap.size) (pkC p a)) := Lib.hid (hoth _ _ _ (by omega) (HQw0.out.alloc _)); have HTw1 : Hid (MT 38 w1 (w.heap.size + 1) (pkC Pkt.zero PA.zero)) := Lib.hid (hoth _ _ _ (by omega) (HTw0.out.alloc _)); have HUw1 : Hid (MT 38 w1 (w0.heap.size) (zC 8)) := Lib.hid (by rw [putC_all (pkC Pkt.zero PA.zero) (zC 8) rfl] at hM; exact hM); have HBw1 : Hid (Below w.heap.size w w1) := Lib.hid (hbel _ _ (by omega) (HBw0.out.alloc (by omega) _)); clear hM hoth hbel HQw0 HTw0 HBw0 k0w)
 have HLw1 := Lib.hid (zC_len 8)
 have c0w1 : w1.cell? ⟨w.heap.size, 0, none⟩ = some (.int .i64 8) := (HQw1.out.cell 0).trans k0z.out
 go_upto_region 3 with fail
 have c1w1 : w1.cell? ⟨w.heap.size, 1, none⟩ = some (.int .i64 p.id) := HQw1.out.cell 1
 go_upto_region 20 with (refine wpList_store_blk (by rfl) 3 (.tmp 22) (.tmp 21) rfl rfl (w0.heap.size) 1 1 rfl (.int .i64 p.id) rfl 38 (zC 8) ([.int .i64 p.id]) HUw1.out rfl rfl (oneSz _ (by simp)) (by rw [HLw1.out]; show 1 + 1 ≤ 34; decide) (one_cells rfl) ?_; rintro w2 hM hoth hbel; have HQw2 : Hid (MT 38 w2 (w.heap.size) (pkC p a)) := Lib.hid (hoth _ _ _ (by omega) HQw1.out); have HTw2 : Hid (MT 38 w2 (w.heap.size + 1) (pkC Pkt.zero PA.zero)) := Lib.hid (hoth _ _ _ (by omega) HTw1.out); have HUw2 : Hid (MT 38 w2 (w0.heap.size) (putC (zC 8) 1 ([.int .i64 p.id]))) := Lib.hid hM; have HLw2 : Hid ((putC (zC 8) 1 ([.int .i64 p.id])).length = 34) := Lib.hid ((putC_len (by rw [HLw1.out]; show 1 + 1 ≤ 34; decide)).trans HLw1.out); have HBw2 : Hid (Below w.heap.size w w2) := Lib.hid (hbel _ _ (by omega) HBw1.out); clear hM hoth hbel HQw1 HTw1 HUw1 HLw1 HBw1 c0w1 c1w1; have c0w2 : w2.cell? ⟨w.heap.size, 0, none⟩ = some (.int .i64 8) := (HQw2.out.cell 0).trans k0z.out)
 have c31w2 : w2.cell? ⟨w.heap.size, 31, none⟩ = some (.slice a.s p.subs.length a.sc) := HQw2.out.cell 31
 go_upto_region 25 with (refine wpList_store_blk (by rfl) 34 (.tmp 78) (.tmp 77) rfl rfl (w0.heap.size) 31 1 rfl (.slice a.s p.subs.length a.sc) rfl 38 (putC (zC 8) 1 ([.int .i64 p.id])) ([.slice a.s p.subs.length a.sc]) HUw2.out rfl rfl (oneSz _ (by simp)) (by rw [HLw2.out]; show 31 + 1 ≤ 34; decide) (one_cells rfl) ?_; rintro w3 hM hoth hbel; have HQw3 : Hid (MT 38 w3 (w.heap.size) (pkC p a)) := Lib.hid (hoth _ _ _ (by omega) HQw2.out); have HTw3 : Hid (MT 38 w3 (w.heap.size + 1) (pkC Pkt.zero PA.zero)) := Lib.hid (hoth _ _ _ (by omega) HTw2.out); have HUw3 : Hid (MT 38 w3 (w0.heap.size) (putC (putC (zC 8) 1 ([.int .i64 p.id])) 31 ([.slice a.s p.subs.length a.sc]))) := Lib.hid hM; have HLw3 : Hid ((putC (putC (zC 8) 1 ([.int .i64 p.id])) 31 ([.slice a.s p.subs.length a.sc])).length = 34) := Lib.hid ((putC_len (by rw [HLw2.out]; show 31 + 1 ≤ 34; decide)).trans HLw2.out); have HBw3 : Hid (Below w.heap.size w w3) := Lib.hid (hbel _ _ (by omega) HBw2.out); clear hM hoth hbel HQw2 HTw2 HUw2 HLw2 HBw2 c0w2 c31w2; have c0w3 : w3.cell? ⟨w.heap.size, 0, none⟩ = some (.int .i64 8) := (HQw3.out.cell 0).trans k0z.out)
 have HE : Hid (putC (putC (zC 8) 1 ([.int .i64 p.id])) 31 ([.slice a.s p.subs.length a.sc]) = pkC (usedP p) (usedA p a)) := Lib.hid (by unfold usedP usedA; simp only [hk.out]; rfl)
 have HU9 : Hid (MT 38 w3 (w0.heap.size) (pkC (usedP p) (usedA p a))) := Lib.hid (by have := HUw3.out; rw [HE.out] at this; exact this)
 go_wp2_with (first | (refine wpList_load_all (by rfl) 38 (.tmp 3) rfl (w0.heap.size) rfl 38 _ (0, 0) _ HU9.out Tryz.underlying38 rfl info33 ?_) | (refine wpList_store_blk (by rfl) 38 (.tmp 2) (.tmp 96) rfl rfl (w.heap.size + 1) 0 34 rfl (.agg (pkC (usedP p) (usedA p a)).toArray) rfl 38 (pkC Pkt.zero PA.zero) (pkC (usedP p) (usedA p a)) HTw3.out rfl rfl info33 (by rw [pkC_len]; decide) (one_cells rfl) ?_; rintro w9 hM _ hbel; have HM9 := Lib.hid hM; have HB9 := Lib.hid (hbel _ _ (by omega) HBw3.out); clear hM hbel))
 exact bodyPost_ret (v := .agg (pkC (usedP p) (usedA p a)).toArray) (results_cell_row rfl _ _ (w.heap.size + 1) 38 _ (0, 0) _ rfl (mtAll HM9.out) Tryz.underlying38 rfl info33) rfl ⟨rfl, HB9.out⟩

end Go.Proofs.YtdkegoaflabjoaaGreatDoor
