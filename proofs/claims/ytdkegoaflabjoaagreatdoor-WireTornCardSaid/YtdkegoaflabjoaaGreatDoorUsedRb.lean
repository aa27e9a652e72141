/-
What Used of the specification hands back: the packet with the fields alone that its kind uses. Conditions: none.
-/
import Derived.Test.YtdkegoaflabjoaaGreatDoorUsed
set_option maxHeartbeats 8000000
set_option maxRecDepth 50000
namespace Go.Proofs.YtdkegoaflabjoaaGreatDoor
open Go.RowKit

theorem rUsed2 (p : Pkt) (a : PA) (w : World) (hk0 : p.kind = 2) :
 Calls Tryz.prog 25 #[pkV p a] w fun e w' => e = .returned (pkV (usedP p) (usedA p a)) ∧ Below w.heap.size w w' := by
 unfold pkV
 have k0 : (pkC p a)[0]? = some (.int .i64 2) := by rw [← hk0]; rfl
 have k0z := Lib.hid k0
 have hk := Lib.hid hk0
 clear hk0
 go_enter Tryz.func25, Tryz.ntmps25
 go_upto_region 1 with fail
 refine name_world (C := fun w1 => Code.wp _ _ _ _ w1) ((w.alloc (.cells (pkC p a).toArray 38)).alloc (.cells (pkC Pkt.zero PA.zero).toArray 38)) ?_
 rintro w0 hw0
 obtain ⟨b1, b2, b3⟩ := two hw0
 have hU0 : w.heap.size + 1 < w0.heap.size := b3.lt
 have k0w : w0.cell? ⟨w.heap.size, 0, none⟩ = some (.int .i64 2) := (b2.cell 0).trans k0
 have HBw0 := Lib.hid b1
 have HQw0 := Lib.hid b2
 have HTw0 := Lib.hid b3
 clear b1 b2 b3 hw0 k0
 go_upto_region 2 with (refine wpList_store_blk (by rfl) 38 (.tmp 3) (.tmp 6) rfl rfl w0.heap.size 0 34 rfl (.agg (zC 2).toArray) rfl 38 (pkC Pkt.zero PA.zero) (zC 2) (zero_new w0) rfl rfl info33 (by rw [pkC_len]; decide) (one_cells rfl) ?_; rintro w1 hM hoth hbel; have HQw1 : Hid (MT 38 w1 (w.heap.size) (pkC p a)) := Lib.hid (hoth _ _ _ (by omega) (HQw0.out.alloc _)); have HTw1 : Hid (MT 38 w1 (w.heap.size + 1) (pkC Pkt.zero PA.zero)) := Lib.hid (hoth _ _ _ (by omega) (HTw0.out.alloc _)); have HUw1 : Hid (MT 38 w1 (w0.heap.size) (zC 2)) := Lib.hid (by rw [putC_all (pkC Pkt.zero PA.zero) (zC 2) rfl] at hM; exact hM); have HBw1 : Hid (Below w.heap.size w w1) := Lib.hid (hbel _ _ (by omega) (HBw0.out.alloc (by omega) _)); clear hM hoth hbel HQw0 HTw0 HBw0 k0w)
 have HLw1 := Lib.hid (zC_len 2)
 have c0w1 : w1.cell? ⟨w.heap.size, 0, none⟩ = some (.int .i64 2) := (HQw1.out.cell 0).trans k0z.out
 go_upto_region 13 with fail
 have c29w1 : w1.cell? ⟨w.heap.size, 29, none⟩ = some (.bool p.present) := HQw1.out.cell 29
 go_upto_region 15 with (refine wpList_store_blk (by rfl) 4 (.tmp 52) (.tmp 51) rfl rfl (w0.heap.size) 29 1 rfl (.bool p.present) rfl 38 (zC 2) ([.bool p.present]) HUw1.out rfl rfl (oneSz _ (by simp)) (by rw [HLw1.out]; show 29 + 1 ≤ 34; decide) (one_cells rfl) ?_; rintro w2 hM hoth hbel; have HQw2 : Hid (MT 38 w2 (w.heap.size) (pkC p a)) := Lib.hid (hoth _ _ _ (by omega) HQw1.out); have HTw2 : Hid (MT 38 w2 (w.heap.size + 1) (pkC Pkt.zero PA.zero)) := Lib.hid (hoth _ _ _ (by omega) HTw1.out); have HUw2 : Hid (MT 38 w2 (w0.heap.size) (putC (zC 2) 29 ([.bool p.present]))) := Lib.hid hM; have HLw2 : Hid ((putC (zC 2) 29 ([.bool p.present])).length = 34) := Lib.hid ((putC_len (by rw [HLw1.out]; show 29 + 1 ≤ 34; decide)).trans HLw1.out); have HBw2 : Hid (Below w.heap.size w w2) := Lib.hid (hbel _ _ (by omega) HBw1.out); clear hM hoth hbel HQw1 HTw1 HUw1 HLw1 HBw1 c0w1 c29w1; have c0w2 : w2.cell? ⟨w.heap.size, 0, none⟩ = some (.int .i64 2) := (HQw2.out.cell 0).trans k0z.out)
 have c30w2 : w2.cell? ⟨w.heap.size, 30, none⟩ = some (.int .i64 p.code) := HQw2.out.cell 30
 go_upto_region 25 with (refine wpList_store_blk (by rfl) 3 (.tmp 63) (.tmp 62) rfl rfl (w0.heap.size) 30 1 rfl (.int .i64 p.code) rfl 38 (putC (zC 2) 29 ([.bool p.present])) ([.int .i64 p.code]) HUw2.out rfl rfl (oneSz _ (by simp)) (by rw [HLw2.out]; show 30 + 1 ≤ 34; decide) (one_cells rfl) ?_; rintro w3 hM hoth hbel; have HQw3 : Hid (MT 38 w3 (w.heap.size) (pkC p a)) := Lib.hid (hoth _ _ _ (by omega) HQw2.out); have HTw3 : Hid (MT 38 w3 (w.heap.size + 1) (pkC Pkt.zero PA.zero)) := Lib.hid (hoth _ _ _ (by omega) HTw2.out); have HUw3 : Hid (MT 38 w3 (w0.heap.size) (putC (putC (zC 2) 29 ([.bool p.present])) 30 ([.int .i64 p.code]))) := Lib.hid hM; have HLw3 : Hid ((putC (putC (zC 2) 29 ([.bool p.present])) 30 ([.int .i64 p.code])).length = 34) := Lib.hid ((putC_len (by rw [HLw2.out]; show 30 + 1 ≤ 34; decide)).trans HLw2.out); have HBw3 : Hid (Below w.heap.size w w3) := Lib.hid (hbel _ _ (by omega) HBw2.out); clear hM hoth hbel HQw2 HTw2 HUw2 HLw2 HBw2 c0w2 c30w2; have c0w3 : w3.cell? ⟨w.heap.size, 0, none⟩ = some (.int .i64 2) := (HQw3.out.cell 0).trans k0z.out)
 have HE : Hid (putC (putC (zC 2) 29 ([.bool p.present])) 30 ([.int .i64 p.code]) = pkC (usedP p) (usedA p a)) := Lib.hid (by unfold usedP usedA; simp only [hk.out]; rfl)
 have HU9 : Hid (MT 38 w3 (w0.heap.size) (pkC (usedP p) (usedA p a))) := Lib.hid (by have := HUw3.out; rw [HE.out] at this; exact this)
 go_wp2_with (first | (refine wpList_load_all (by rfl) 38 (.tmp 3) rfl (w0.heap.size) rfl 38 _ (0, 0) _ HU9.out Tryz.underlying38 rfl info33 ?_) | (refine wpList_store_blk (by rfl) 38 (.tmp 2) (.tmp 96) rfl rfl (w.heap.size + 1) 0 34 rfl (.agg (pkC (usedP p) (usedA p a)).toArray) rfl 38 (pkC Pkt.zero PA.zero) (pkC (usedP p) (usedA p a)) HTw3.out rfl rfl info33 (by rw [pkC_len]; decide) (one_cells rfl) ?_; rintro w9 hM _ hbel; have HM9 := Lib.hid hM; have HB9 := Lib.hid (hbel _ _ (by omega) HBw3.out); clear hM hbel))
 exact bodyPost_ret (v := .agg (pkC (usedP p) (usedA p a)).toArray) (results_cell_row rfl _ _ (w.heap.size + 1) 38 _ (0, 0) _ rfl (mtAll HM9.out) Tryz.underlying38 rfl info33) rfl ⟨rfl, HB9.out⟩
theorem rUsed3 (p : Pkt) (a : PA) (w : World) (hk0 : p.kind = 3) :
 Calls Tryz.prog 25 #[pkV p a] w fun e w' => e = .returned (pkV (usedP p) (usedA p a)) ∧ Below w.heap.size w w' := by
 unfold pkV
 have k0 : (pkC p a)[0]? = some (.int .i64 3) := by rw [← hk0]; rfl
 have k0z := Lib.hid k0
 have hk := Lib.hid hk0
 clear hk0
 go_enter Tryz.func25, Tryz.ntmps25
 go_upto_region 1 with fail
 refine name_world (C := fun w1 => Code.wp _ _ _ _ w1) ((w.alloc (.cells (pkC p a).toArray 38)).alloc (.cells (pkC Pkt.zero PA.zero).toArray 38)) ?_
 rintro w0 hw0
 obtain ⟨b1, b2, b3⟩ := two hw0
 have hU0 : w.heap.size + 1 < w0.heap.size := b3.lt
 have k0w : w0.cell? ⟨w.heap.size, 0, none⟩ = some (.int .i64 3) := (b2.cell 0).trans k0
 have HBw0 := Lib.hid b1
 have HQw0 := Lib.hid b2
 have HTw0 := Lib.hid b3
 clear b1 b2 b3 hw0 k0
 go_upto_region 2 with (refine wpList_store_blk (by rfl) 38 (.tmp 3) (.tmp 6) rfl rfl w0.heap.size 0 34 rfl (.agg (zC 3).toArray) rfl 38 (pkC Pkt.zero PA.zero) (zC 3) (zero_new w0) rfl rfl info33 (by rw [pkC_len]; decide) (one_cells rfl) ?_; rintro w1 hM hoth hbel; have HQw1 : Hid (MT 38 w1 (w.heap.size) (pkC p a)) := Lib.hid (hoth _ _ _ (by omega) (HQw0.out.alloc _)); have HTw1 : Hid (MT 38 w1 (w.heap.size + 1) (pkC Pkt.zero PA.zero)) := Lib.hid (hoth _ _ _ (by omega) (HTw0.out.alloc _)); have HUw1 : Hid (MT 38 w1 (w0.heap.size) (zC 3)) := Lib.hid (by rw [putC_all (pkC Pkt.zero PA.zero) (zC 3) rfl] at hM; exact hM); have HBw1 : Hid (Below w.heap.size w w1) := Lib.hid (hbel _ _ (by omega) (HBw0.out.alloc (by omega) _)); clear hM hoth hbel HQw0 HTw0 HBw0 k0w)
 have HLw1 := Lib.hid (zC_len 3)
 have c0w1 : w1.cell? ⟨w.heap.size, 0, none⟩ = some (.int .i64 3) := (HQw1.out.cell 0).trans k0z.out
 go_upto_region 3 with fail
 have c1w1 : w1.cell? ⟨w.heap.size, 1, none⟩ = some (.int .i64 p.id) := HQw1.out.cell 1
 go_upto_region 17 with (refine wpList_store_blk (by rfl) 3 (.tmp 22) (.tmp 21) rfl rfl (w0.heap.size) 1 1 rfl (.int .i64 p.id) rfl 38 (zC 3) ([.int .i64 p.id]) HUw1.out rfl rfl (oneSz _ (by simp)) (by rw [HLw1.out]; show 1 + 1 ≤ 34; decide) (one_cells rfl) ?_; rintro w2 hM hoth hbel; have HQw2 : Hid (MT 38 w2 (w.heap.size) (pkC p a)) := Lib.hid (hoth _ _ _ (by omega) HQw1.out); have HTw2 : Hid (MT 38 w2 (w.heap.size + 1) (pkC Pkt.zero PA.zero)) := Lib.hid (hoth _ _ _ (by omega) HTw1.out); have HUw2 : Hid (MT 38 w2 (w0.heap.size) (putC (zC 3) 1 ([.int .i64 p.id]))) := Lib.hid hM; have HLw2 : Hid ((putC (zC 3) 1 ([.int .i64 p.id])).length = 34) := Lib.hid ((putC_len (by rw [HLw1.out]; show 1 + 1 ≤ 34; decide)).trans HLw1.out); have HBw2 : Hid (Below w.heap.size w w2) := Lib.hid (hbel _ _ (by omega) HBw1.out); clear hM hoth hbel HQw1 HTw1 HUw1 HLw1 HBw1 c0w1 c1w1; have c0w2 : w2.cell? ⟨w.heap.size, 0, none⟩ = some (.int .i64 3) := (HQw2.out.cell 0).trans k0z.out)
 have c2w2 : w2.cell? ⟨w.heap.size, 2, none⟩ = some (.bool p.dup) := HQw2.out.cell 2
 go_upto_region 18 with (refine wpList_store_blk (by rfl) 4 (.tmp 69) (.tmp 68) rfl rfl (w0.heap.size) 2 1 rfl (.bool p.dup) rfl 38 (putC (zC 3) 1 ([.int .i64 p.id])) ([.bool p.dup]) HUw2.out rfl rfl (oneSz _ (by simp)) (by rw [HLw2.out]; show 2 + 1 ≤ 34; decide) (one_cells rfl) ?_; rintro w3 hM hoth hbel; have HQw3 : Hid (MT 38 w3 (w.heap.size) (pkC p a)) := Lib.hid (hoth _ _ _ (by omega) HQw2.out); have HTw3 : Hid (MT 38 w3 (w.heap.size + 1) (pkC Pkt.zero PA.zero)) := Lib.hid (hoth _ _ _ (by omega) HTw2.out); have HUw3 : Hid (MT 38 w3 (w0.heap.size) (putC (putC (zC 3) 1 ([.int .i64 p.id])) 2 ([.bool p.dup]))) := Lib.hid hM; have HLw3 : Hid ((putC (putC (zC 3) 1 ([.int .i64 p.id])) 2 ([.bool p.dup])).length = 34) := Lib.hid ((putC_len (by rw [HLw2.out]; show 2 + 1 ≤ 34; decide)).trans HLw2.out); have HBw3 : Hid (Below w.heap.size w w3) := Lib.hid (hbel _ _ (by omega) HBw2.out); clear hM hoth hbel HQw2 HTw2 HUw2 HLw2 HBw2 c0w2 c2w2; have c0w3 : w3.cell? ⟨w.heap.size, 0, none⟩ = some (.int .i64 3) := (HQw3.out.cell 0).trans k0z.out)
 go_upto_region 25 with (first | (refine wpList_load_part (by rfl) 31 (.tmp 70) rfl w.heap.size 3 9 rfl 38 (pkC p a) (0, 0) _ HQw3.out Tryz.underlying31 rfl info26 (by show 3 + 9 ≤ 34; decide) ?_) | (refine wpList_store_blk (by rfl) 31 (.tmp 72) (.tmp 71) rfl rfl (w0.heap.size) 3 9 rfl (msgV p.msg a.m a.mc) rfl 38 (putC (putC (zC 3) 1 ([.int .i64 p.id])) 2 ([.bool p.dup])) (msgC p.msg a.m a.mc) HUw3.out rfl rfl info26 (by rw [HLw3.out]; show 3 + 9 ≤ 34; decide) (one_cells rfl) ?_; rintro w4 hM hoth hbel; have HQw4 : Hid (MT 38 w4 (w.heap.size) (pkC p a)) := Lib.hid (hoth _ _ _ (by omega) HQw3.out); have HTw4 : Hid (MT 38 w4 (w.heap.size + 1) (pkC Pkt.zero PA.zero)) := Lib.hid (hoth _ _ _ (by omega) HTw3.out); have HUw4 : Hid (MT 38 w4 (w0.heap.size) (putC (putC (putC (zC 3) 1 ([.int .i64 p.id])) 2 ([.bool p.dup])) 3 (msgC p.msg a.m a.mc))) := Lib.hid hM; have HLw4 : Hid ((putC (putC (putC (zC 3) 1 ([.int .i64 p.id])) 2 ([.bool p.dup])) 3 (msgC p.msg a.m a.mc)).length = 34) := Lib.hid ((putC_len (by rw [HLw3.out]; show 3 + 9 ≤ 34; decide)).trans HLw3.out); have HBw4 : Hid (Below w.heap.size w w4) := Lib.hid (hbel _ _ (by omega) HBw3.out); clear hM hoth hbel HQw3 HTw3 HUw3 HLw3 HBw3 c0w3; have c0w4 : w4.cell? ⟨w.heap.size, 0, none⟩ = some (.int .i64 3) := (HQw4.out.cell 0).trans k0z.out))
 have HE : Hid (putC (putC (putC (zC 3) 1 ([.int .i64 p.id])) 2 ([.bool p.dup])) 3 (msgC p.msg a.m a.mc) = pkC (usedP p) (usedA p a)) := Lib.hid (by unfold usedP usedA; simp only [hk.out]; rfl)
 have HU9 : Hid (MT 38 w4 (w0.heap.size) (pkC (usedP p) (usedA p a))) := Lib.hid (by have := HUw4.out; rw [HE.out] at this; exact this)
 go_wp2_with (first | (refine wpList_load_all (by rfl) 38 (.tmp 3) rfl (w0.heap.size) rfl 38 _ (0, 0) _ HU9.out Tryz.underlying38 rfl info33 ?_) | (refine wpList_store_blk (by rfl) 38 (.tmp 2) (.tmp 96) rfl rfl (w.heap.size + 1) 0 34 rfl (.agg (pkC (usedP p) (usedA p a)).toArray) rfl 38 (pkC Pkt.zero PA.zero) (pkC (usedP p) (usedA p a)) HTw4.out rfl rfl info33 (by rw [pkC_len]; decide) (one_cells rfl) ?_; rintro w9 hM _ hbel; have HM9 := Lib.hid hM; have HB9 := Lib.hid (hbel _ _ (by omega) HBw4.out); clear hM hbel))
 exact bodyPost_ret (v := .agg (pkC (usedP p) (usedA p a)).toArray) (results_cell_row rfl _ _ (w.heap.size + 1) 38 _ (0, 0) _ rfl (mtAll HM9.out) Tryz.underlying38 rfl info33) rfl ⟨rfl, HB9.out⟩
theorem rUsed14 (p : Pkt) (a : PA) (w : World) (hk0 : p.kind = 14) :
 Calls Tryz.prog 25 #[pkV p a] w fun e w' => e = .returned (pkV (usedP p) (usedA p a)) ∧ Below w.heap.size w w' := by
 unfold pkV
 have k0 : (pkC p a)[0]? = some (.int .i64 14) := by rw [← hk0]; rfl
 have k0z := Lib.hid k0
 have hk := Lib.hid hk0
 clear hk0
 go_enter Tryz.func25, Tryz.ntmps25
 go_upto_region 1 with fail
 refine name_world (C := fun w1 => Code.wp _ _ _ _ w1) ((w.alloc (.cells (pkC p a).toArray 38)).alloc (.cells (pkC Pkt.zero PA.zero).toArray 38)) ?_
 rintro w0 hw0
 obtain ⟨b1, b2, b3⟩ := two hw0
 have hU0 : w.heap.size + 1 < w0.heap.size := b3.lt
 have k0w : w0.cell? ⟨w.heap.size, 0, none⟩ = some (.int .i64 14) := (b2.cell 0).trans k0
 have HBw0 := Lib.hid b1
 have HQw0 := Lib.hid b2
 have HTw0 := Lib.hid b3
 clear b1 b2 b3 hw0 k0
 go_upto_region 2 with (refine wpList_store_blk (by rfl) 38 (.tmp 3) (.tmp 6) rfl rfl w0.heap.size 0 34 rfl (.agg (zC 14).toArray) rfl 38 (pkC Pkt.zero PA.zero) (zC 14) (zero_new w0) rfl rfl info33 (by rw [pkC_len]; decide) (one_cells rfl) ?_; rintro w1 hM hoth hbel; have HQw1 : Hid (MT 38 w1 (w.heap.size) (pkC p a)) := Lib.hid (hoth _ _ _ (by omega) (HQw0.out.alloc _)); have HTw1 : Hid (MT 38 w1 (w.heap.size + 1) (pkC Pkt.zero PA.zero)) := Lib.hid (hoth _ _ _ (by omega) (HTw0.out.alloc _)); have HUw1 : Hid (MT 38 w1 (w0.heap.size) (zC 14)) := Lib.hid (by rw [putC_all (pkC Pkt.zero PA.zero) (zC 14) rfl] at hM; exact hM); have HBw1 : Hid (Below w.heap.size w w1) := Lib.hid (hbel _ _ (by omega) (HBw0.out.alloc (by omega) _)); clear hM hoth hbel HQw0 HTw0 HBw0 k0w)
 have HLw1 := Lib.hid (zC_len 14)
 have c0w1 : w1.cell? ⟨w.heap.size, 0, none⟩ = some (.int .i64 14) := (HQw1.out.cell 0).trans k0z.out
 go_upto_region 15 with fail
 have c30w1 : w1.cell? ⟨w.heap.size, 30, none⟩ = some (.int .i64 p.code) := HQw1.out.cell 30
 go_upto_region 25 with (refine wpList_store_blk (by rfl) 3 (.tmp 63) (.tmp 62) rfl rfl (w0.heap.size) 30 1 rfl (.int .i64 p.code) rfl 38 (zC 14) ([.int .i64 p.code]) HUw1.out rfl rfl (oneSz _ (by simp)) (by rw [HLw1.out]; show 30 + 1 ≤ 34; decide) (one_cells rfl) ?_; rintro w2 hM hoth hbel; have HQw2 : Hid (MT 38 w2 (w.heap.size) (pkC p a)) := Lib.hid (hoth _ _ _ (by omega) HQw1.out); have HTw2 : Hid (MT 38 w2 (w.heap.size + 1) (pkC Pkt.zero PA.zero)) := Lib.hid (hoth _ _ _ (by omega) HTw1.out); have HUw2 : Hid (MT 38 w2 (w0.heap.size) (putC (zC 14) 30 ([.int .i64 p.code]))) := Lib.hid hM; have HLw2 : Hid ((putC (zC 14) 30 ([.int .i64 p.code])).length = 34) := Lib.hid ((putC_len (by rw [HLw1.out]; show 30 + 1 ≤ 34; decide)).trans HLw1.out); have HBw2 : Hid (Below w.heap.size w w2) := Lib.hid (hbel _ _ (by omega) HBw1.out); clear hM hoth hbel HQw1 HTw1 HUw1 HLw1 HBw1 c0w1 c30w1; have c0w2 : w2.cell? ⟨w.heap.size, 0, none⟩ = some (.int .i64 14) := (HQw2.out.cell 0).trans k0z.out)
 have HE : Hid (putC (zC 14) 30 ([.int .i64 p.code]) = pkC (usedP p) (usedA p a)) := Lib.hid (by unfold usedP usedA; simp only [hk.out]; rfl)
 have HU9 : Hid (MT 38 w2 (w0.heap.size) (pkC (usedP p) (usedA p a))) := Lib.hid (by have := HUw2.out; rw [HE.out] at this; exact this)
 go_wp2_with (first | (refine wpList_load_all (by rfl) 38 (.tmp 3) rfl (w0.heap.size) rfl 38 _ (0, 0) _ HU9.out Tryz.underlying38 rfl info33 ?_) | (refine wpList_store_blk (by rfl) 38 (.tmp 2) (.tmp 96) rfl rfl (w.heap.size + 1) 0 34 rfl (.agg (pkC (usedP p) (usedA p a)).toArray) rfl 38 (pkC Pkt.zero PA.zero) (pkC (usedP p) (usedA p a)) HTw2.out rfl rfl info33 (by rw [pkC_len]; decide) (one_cells rfl) ?_; rintro w9 hM _ hbel; have HM9 := Lib.hid hM; have HB9 := Lib.hid (hbel _ _ (by omega) HBw2.out); clear hM hbel))
 exact bodyPost_ret (v := .agg (pkC (usedP p) (usedA p a)).toArray) (results_cell_row rfl _ _ (w.heap.size + 1) 38 _ (0, 0) _ rfl (mtAll HM9.out) Tryz.underlying38 rfl info33) rfl ⟨rfl, HB9.out⟩
theorem rUsed4 (p : Pkt) (a : PA) (w : World) (hk0 : p.kind = 4) :
 Calls Tryz.prog 25 #[pkV p a] w fun e w' => e = .returned (pkV (usedP p) (usedA p a)) ∧ Below w.heap.size w w' := by
 unfold pkV
 have k0 : (pkC p a)[0]? = some (.int .i64 4) := by rw [← hk0]; rfl
 have k0z := Lib.hid k0
 have hk := Lib.hid hk0
 clear hk0
 go_enter Tryz.func25, Tryz.ntmps25
 go_upto_region 1 with fail
 refine name_world (C := fun w1 => Code.wp _ _ _ _ w1) ((w.alloc (.cells (pkC p a).toArray 38)).alloc (.cells (pkC Pkt.zero PA.zero).toArray 38)) ?_
 rintro w0 hw0
 obtain ⟨b1, b2, b3⟩ := two hw0
 have hU0 : w.heap.size + 1 < w0.heap.size := b3.lt
 have k0w : w0.cell? ⟨w.heap.size, 0, none⟩ = some (.int .i64 4) := (b2.cell 0).trans k0
 have HBw0 := Lib.hid b1
 have HQw0 := Lib.hid b2
 have HTw0 := Lib.hid b3
 clear b1 b2 b3 hw0 k0
 go_upto_region 2 with (refine wpList_store_blk (by rfl) 38 (.tmp 3) (.tmp 6) rfl rfl w0.heap.size 0 34 rfl (.agg (zC 4).toArray) rfl 38 (pkC Pkt.zero PA.zero) (zC 4) (zero_new w0) rfl rfl info33 (by rw [pkC_len]; decide) (one_cells rfl) ?_; rintro w1 hM hoth hbel; have HQw1 : Hid (MT 38 w1 (w.heap.size) (pkC p a)) := Lib.hid (hoth _ _ _ (by omega) (HQw0.out.alloc _)); have HTw1 : Hid (MT 38 w1 (w.heap.size + 1) (pkC Pkt.zero PA.zero)) := Lib.hid (hoth _ _ _ (by omega) (HTw0.out.alloc _)); have HUw1 : Hid (MT 38 w1 (w0.heap.size) (zC 4)) := Lib.hid (by rw [putC_all (pkC Pkt.zero PA.zero) (zC 4) rfl] at hM; exact hM); have HBw1 : Hid (Below w.heap.size w w1) := Lib.hid (hbel _ _ (by omega) (HBw0.out.alloc (by omega) _)); clear hM hoth hbel HQw0 HTw0 HBw0 k0w)
 have HLw1 := Lib.hid (zC_len 4)
 have c0w1 : w1.cell? ⟨w.heap.size, 0, none⟩ = some (.int .i64 4) := (HQw1.out.cell 0).trans k0z.out
 go_upto_region 3 with fail
 have c1w1 : w1.cell? ⟨w.heap.size, 1, none⟩ = some (.int .i64 p.id) := HQw1.out.cell 1
 go_upto_region 25 with (refine wpList_store_blk (by rfl) 3 (.tmp 22) (.tmp 21) rfl rfl (w0.heap.size) 1 1 rfl (.int .i64 p.id) rfl 38 (zC 4) ([.int .i64 p.id]) HUw1.out rfl rfl (oneSz _ (by simp)) (by rw [HLw1.out]; show 1 + 1 ≤ 34; decide) (one_cells rfl) ?_; rintro w2 hM hoth hbel; have HQw2 : Hid (MT 38 w2 (w.heap.size) (pkC p a)) := Lib.hid (hoth _ _ _ (by omega) HQw1.out); have HTw2 : Hid (MT 38 w2 (w.heap.size + 1) (pkC Pkt.zero PA.zero)) := Lib.hid (hoth _ _ _ (by omega) HTw1.out); have HUw2 : Hid (MT 38 w2 (w0.heap.size) (putC (zC 4) 1 ([.int .i64 p.id]))) := Lib.hid hM; have HLw2 : Hid ((putC (zC 4) 1 ([.int .i64 p.id])).length = 34) := Lib.hid ((putC_len (by rw [HLw1.out]; show 1 + 1 ≤ 34; decide)).trans HLw1.out); have HBw2 : Hid (Below w.heap.size w w2) := Lib.hid (hbel _ _ (by omega) HBw1.out); clear hM hoth hbel HQw1 HTw1 HUw1 HLw1 HBw1 c0w1 c1w1; have c0w2 : w2.cell? ⟨w.heap.size, 0, none⟩ = some (.int .i64 4) := (HQw2.out.cell 0).trans k0z.out)
 have HE : Hid (putC (zC 4) 1 ([.int .i64 p.id]) = pkC (usedP p) (usedA p a)) := Lib.hid (by unfold usedP usedA; simp only [hk.out]; rfl)
 have HU9 : Hid (MT 38 w2 (w0.heap.size) (pkC (usedP p) (usedA p a))) := Lib.hid (by have := HUw2.out; rw [HE.out] at this; exact this)
 go_wp2_with (first | (refine wpList_load_all (by rfl) 38 (.tmp 3) rfl (w0.heap.size) rfl 38 _ (0, 0) _ HU9.out Tryz.underlying38 rfl info33 ?_) | (refine wpList_store_blk (by rfl) 38 (.tmp 2) (.tmp 96) rfl rfl (w.heap.size + 1) 0 34 rfl (.agg (pkC (usedP p) (usedA p a)).toArray) rfl 38 (pkC Pkt.zero PA.zero) (pkC (usedP p) (usedA p a)) HTw2.out rfl rfl info33 (by rw [pkC_len]; decide) (one_cells rfl) ?_; rintro w9 hM _ hbel; have HM9 := Lib.hid hM; have HB9 := Lib.hid (hbel _ _ (by omega) HBw2.out); clear hM hbel))
 exact bodyPost_ret (v := .agg (pkC (usedP p) (usedA p a)).toArray) (results_cell_row rfl _ _ (w.heap.size + 1) 38 _ (0, 0) _ rfl (mtAll HM9.out) Tryz.underlying38 rfl info33) rfl ⟨rfl, HB9.out⟩

end Go.Proofs.YtdkegoaflabjoaaGreatDoor
