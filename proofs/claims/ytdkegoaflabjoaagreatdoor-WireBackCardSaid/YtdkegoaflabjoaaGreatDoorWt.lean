/-
What the writer of wire appends for a valid packet, kind by kind; what Encode answers. Conditions: the packet's lists read as data; the tables of package unicode/utf8 are there.
-/
import Derived.Test.YtdkegoaflabjoaaGreatDoorWs
import Derived.Test.YtdkegoaflabjoaaGreatDoorWx
set_option maxHeartbeats 8000000
set_option maxRecDepth 20000
namespace Go.Proofs.YtdkegoaflabjoaaGreatDoor
open Go.RowKit

theorem wPk_1_false (R : Nat) (K : Nat → Prop) (p : Pkt) (a : PA) (w : World) (h : WR w R K []) (hB : ∃ B, (∀ g, g < B → K g) ∧ PInB w B p a) (hc : bodyR p = 0) (hkd : p.kind = 1) (hws : p.wset = false) :
 Calls Tryz.prog 15 #[.pointer (some ⟨R, 0, none⟩), .agg (pkC p a).toArray] w (RetW R K (encPk p) w) := by
 have hmf := @hmfT Tryz.prog
 have HE : Hid (encPk p = enc 1 ++ (encConn p)) := Lib.hid (by unfold encPk encBody; simp [hkd])
 have hq : connR p = 0 := by unfold bodyR at hc; simpa [hkd] using hc
 have HQ := Lib.hid hq
 clear hq
 have l0 := (enc_len 1).2
 have l1 := (enc_len p.id).2
 have l2 := (enc_len p.code).2
 have l3 := (enc_len (b2i p.dup)).2
 have l4 := (enc_len (b2i p.present)).2
 have HWS := Lib.hid hws
 clear hws
 obtain ⟨B, hB1, hB2⟩ := hB
 have HKIND := Lib.hid hkd
 obtain ⟨w0, hw0⟩ : ∃ w0, w0 = w.alloc (.cells (pkC p a).toArray 38) := ⟨_, rfl⟩
 have hb0 : Below w.heap.size w w0 := by rw [hw0]; exact belA _ _
 have hm0 : MT 38 w0 w.heap.size (pkC p a) := by rw [hw0]; exact MT.new w _ _
 obtain ⟨KB, hKB, hKM, hr0, hk0⟩ := h.box hb0 (M := w.heap.size) ⟨Nat.le_refl _, hm0.lt⟩
 have HM0 := Lib.hid hm0
 have HR0 := Lib.hid hr0
 have HK0 := Lib.hid hk0
 have HKB := Lib.hid hKB
 have HKM := Lib.hid hKM
 have HW0 := Lib.hid hw0
 have HBX := Lib.hid hb0
 have HKP := Lib.hid h.kept
 have HBB : Hid (∀ wx, WK KB w0 wx → (∀ g, g < B → KB g) ∧ PInB wx B p a) := Lib.hid (fun wx hx => ⟨fun g hg => hKB g (hB1 g hg), (hB2.below (hk0.below hB1)).below (hx.below (fun g hg => hKB g (hB1 g hg)))⟩)
 have c0 : w0.cell? ⟨w.heap.size, 0, none⟩ = some (.int .i64 1) := by have := hm0.cell 0; rw [show (pkC p a)[0]? = some (.int .i64 p.kind) from rfl, hkd] at this; exact this
 clear hc hkd hB1 hB2
 clear hm0 hr0 hk0 hKB hKM hw0 hb0 h
 have HKK : Hid (WK KB w0 w0) := Lib.hid (WK.refl _ _)
 go_enter Tryz.func15, Tryz.ntmps15
 go_upto_region 1 with fail
 rw [← HW0.out]
 go_wp2_with fail
 refine (wNum_any R KB [] 1 w0 HR0.out (by simp) (by omega) (by omega)).mono ?_
 rintro e w1 ⟨rfl, hr, hk⟩
 have HM1 := Lib.hid (hk.mt HKM.out HM0.out)
 have HK1 := Lib.hid (HKK.out.trans hk)
 have HR1 := Lib.hid hr
 clear hr hk HM0 HKK HR0
 clear c0
 have c0 : w1.cell? ⟨w.heap.size, 0, none⟩ = some (.int .i64 1) := by have := HM1.out.cell 0; rw [show (pkC p a)[0]? = some (.int .i64 p.kind) from rfl, HKIND.out] at this; exact this
 go_wp2_with (refine wpList_load_all (by rfl) 38 _ rfl w.heap.size rfl 38 (pkC p a).toArray (0, 0) _ HM1.out Tryz.underlying38 rfl info33 ?_)
 refine (wConn_false R KB ([] ++ enc 1) p a w1 HR1.out (by simp only [List.length_append, List.length_nil]; omega) ⟨B, (HBB.out _ HK1.out).1, (HBB.out _ HK1.out).2.2.1⟩ HQ.out HWS.out).mono ?_
 rintro e w2 ⟨rfl, hr, hk⟩
 have HM2 := Lib.hid (hk.mt HKM.out HM1.out)
 have HK2 := Lib.hid (HK1.out.trans hk)
 have HR2 := Lib.hid hr
 clear hr hk HM1 HK1 HR1
 go_wp2_with fail
 go_end0
 rw [HE.out]
 exact ⟨rfl, by have := HR2.out.sub HKB.out; simpa only [List.append_assoc, List.nil_append, List.append_nil] using this, HK0.out.trans (HK2.out.sub HKB.out)⟩

theorem wPk_1_true (R : Nat) (K : Nat → Prop) (p : Pkt) (a : PA) (w : World) (h : WR w R K []) (hB : ∃ B, (∀ g, g < B → K g) ∧ PInB w B p a) (hc : bodyR p = 0) (hkd : p.kind = 1) (hws : p.wset = true) :
 Calls Tryz.prog 15 #[.pointer (some ⟨R, 0, none⟩), .agg (pkC p a).toArray] w (RetW R K (encPk p) w) := by
 have hmf := @hmfT Tryz.prog
 have HE : Hid (encPk p = enc 1 ++ (encConn p)) := Lib.hid (by unfold encPk encBody; simp [hkd])
 have hq : connR p = 0 := by unfold bodyR at hc; simpa [hkd] using hc
 have HQ := Lib.hid hq
 clear hq
 have l0 := (enc_len 1).2
 have l1 := (enc_len p.id).2
 have l2 := (enc_len p.code).2
 have l3 := (enc_len (b2i p.dup)).2
 have l4 := (enc_len (b2i p.present)).2
 have HWS := Lib.hid hws
 clear hws
 obtain ⟨B, hB1, hB2⟩ := hB
 have HKIND := Lib.hid hkd
 obtain ⟨w0, hw0⟩ : ∃ w0, w0 = w.alloc (.cells (pkC p a).toArray 38) := ⟨_, rfl⟩
 have hb0 : Below w.heap.size w w0 := by rw [hw0]; exact belA _ _
 have hm0 : MT 38 w0 w.heap.size (pkC p a) := by rw [hw0]; exact MT.new w _ _
 obtain ⟨KB, hKB, hKM, hr0, hk0⟩ := h.box hb0 (M := w.heap.size) ⟨Nat.le_refl _, hm0.lt⟩
 have HM0 := Lib.hid hm0
 have HR0 := Lib.hid hr0
 have HK0 := Lib.hid hk0
 have HKB := Lib.hid hKB
 have HKM := Lib.hid hKM
 have HW0 := Lib.hid hw0
 have HBX := Lib.hid hb0
 have HKP := Lib.hid h.kept
 have HBB : Hid (∀ wx, WK KB w0 wx → (∀ g, g < B → KB g) ∧ PInB wx B p a) := Lib.hid (fun wx hx => ⟨fun g hg => hKB g (hB1 g hg), (hB2.below (hk0.below hB1)).below (hx.below (fun g hg => hKB g (hB1 g hg)))⟩)
 have c0 : w0.cell? ⟨w.heap.size, 0, none⟩ = some (.int .i64 1) := by have := hm0.cell 0; rw [show (pkC p a)[0]? = some (.int .i64 p.kind) from rfl, hkd] at this; exact this
 clear hc hkd hB1 hB2
 clear hm0 hr0 hk0 hKB hKM hw0 hb0 h
 have HKK : Hid (WK KB w0 w0) := Lib.hid (WK.refl _ _)
 go_enter Tryz.func15, Tryz.ntmps15
 go_upto_region 1 with fail
 rw [← HW0.out]
 go_wp2_with fail
 refine (wNum_any R KB [] 1 w0 HR0.out (by simp) (by omega) (by omega)).mono ?_
 rintro e w1 ⟨rfl, hr, hk⟩
 have HM1 := Lib.hid (hk.mt HKM.out HM0.out)
 have HK1 := Lib.hid (HKK.out.trans hk)
 have HR1 := Lib.hid hr
 clear hr hk HM0 HKK HR0
 clear c0
 have c0 : w1.cell? ⟨w.heap.size, 0, none⟩ = some (.int .i64 1) := by have := HM1.out.cell 0; rw [show (pkC p a)[0]? = some (.int .i64 p.kind) from rfl, HKIND.out] at this; exact this
 go_wp2_with (refine wpList_load_all (by rfl) 38 _ rfl w.heap.size rfl 38 (pkC p a).toArray (0, 0) _ HM1.out Tryz.underlying38 rfl info33 ?_)
 refine (wConn_true R KB ([] ++ enc 1) p a w1 HR1.out (by simp only [List.length_append, List.length_nil]; omega) ⟨B, (HBB.out _ HK1.out).1, (HBB.out _ HK1.out).2.2.1⟩ HQ.out HWS.out).mono ?_
 rintro e w2 ⟨rfl, hr, hk⟩
 have HM2 := Lib.hid (hk.mt HKM.out HM1.out)
 have HK2 := Lib.hid (HK1.out.trans hk)
 have HR2 := Lib.hid hr
 clear hr hk HM1 HK1 HR1
 go_wp2_with fail
 go_end0
 rw [HE.out]
 exact ⟨rfl, by have := HR2.out.sub HKB.out; simpa only [List.append_assoc, List.nil_append, List.append_nil] using this, HK0.out.trans (HK2.out.sub HKB.out)⟩

theorem wPk_2 (R : Nat) (K : Nat → Prop) (p : Pkt) (a : PA) (w : World) (h : WR w R K []) (hB : ∃ B, (∀ g, g < B → K g) ∧ PInB w B p a) (hc : bodyR p = 0) (hkd : p.kind = 2) :
 Calls Tryz.prog 15 #[.pointer (some ⟨R, 0, none⟩), .agg (pkC p a).toArray] w (RetW R K (encPk p) w) := by
 have hmf := @hmfT Tryz.prog
 have HE : Hid (encPk p = enc 2 ++ (enc (b2i p.present) ++ enc p.code)) := Lib.hid (by unfold encPk encBody; simp [hkd])
 have hq : ackR p = 0 := by unfold bodyR at hc; simpa [hkd] using hc
 obtain ⟨b1, b2⟩ := ackR_parts hq
 clear hq
 have l0 := (enc_len 2).2
 have l1 := (enc_len p.id).2
 have l2 := (enc_len p.code).2
 have l3 := (enc_len (b2i p.dup)).2
 have l4 := (enc_len (b2i p.present)).2
 obtain ⟨B, hB1, hB2⟩ := hB
 have HKIND := Lib.hid hkd
 obtain ⟨w0, hw0⟩ : ∃ w0, w0 = w.alloc (.cells (pkC p a).toArray 38) := ⟨_, rfl⟩
 have hb0 : Below w.heap.size w w0 := by rw [hw0]; exact belA _ _
 have hm0 : MT 38 w0 w.heap.size (pkC p a) := by rw [hw0]; exact MT.new w _ _
 obtain ⟨KB, hKB, hKM, hr0, hk0⟩ := h.box hb0 (M := w.heap.size) ⟨Nat.le_refl _, hm0.lt⟩
 have HM0 := Lib.hid hm0
 have HR0 := Lib.hid hr0
 have HK0 := Lib.hid hk0
 have HKB := Lib.hid hKB
 have HKM := Lib.hid hKM
 have HW0 := Lib.hid hw0
 have HBX := Lib.hid hb0
 have HKP := Lib.hid h.kept
 have HBB : Hid (∀ wx, WK KB w0 wx → (∀ g, g < B → KB g) ∧ PInB wx B p a) := Lib.hid (fun wx hx => ⟨fun g hg => hKB g (hB1 g hg), (hB2.below (hk0.below hB1)).below (hx.below (fun g hg => hKB g (hB1 g hg)))⟩)
 have c0 : w0.cell? ⟨w.heap.size, 0, none⟩ = some (.int .i64 2) := by have := hm0.cell 0; rw [show (pkC p a)[0]? = some (.int .i64 p.kind) from rfl, hkd] at this; exact this
 clear hc hkd hB1 hB2
 clear hm0 hr0 hk0 hKB hKM hw0 hb0 h
 have HKK : Hid (WK KB w0 w0) := Lib.hid (WK.refl _ _)
 go_enter Tryz.func15, Tryz.ntmps15
 go_upto_region 1 with fail
 rw [← HW0.out]
 go_wp2_with fail
 refine (wNum_any R KB [] 2 w0 HR0.out (by simp) (by omega) (by omega)).mono ?_
 rintro e w1 ⟨rfl, hr, hk⟩
 have HM1 := Lib.hid (hk.mt HKM.out HM0.out)
 have HK1 := Lib.hid (HKK.out.trans hk)
 have HR1 := Lib.hid hr
 clear hr hk HM0 HKK HR0
 clear c0
 have c0 : w1.cell? ⟨w.heap.size, 0, none⟩ = some (.int .i64 2) := by have := HM1.out.cell 0; rw [show (pkC p a)[0]? = some (.int .i64 p.kind) from rfl, HKIND.out] at this; exact this
 have c29 : w1.cell? ⟨w.heap.size, 29, none⟩ = some (.bool p.present) := HM1.out.cell 29
 go_wp2_with fail
 refine (wFlag1_any R KB ([] ++ enc 2) p.present w1 HR1.out (by simp only [List.length_append, List.length_nil]; omega)).mono ?_
 rintro e w2 ⟨rfl, hr, hk⟩
 clear c29
 have HM2 := Lib.hid (hk.mt HKM.out HM1.out)
 have HK2 := Lib.hid (HK1.out.trans hk)
 have HR2 := Lib.hid hr
 clear hr hk HM1 HK1 HR1
 have c30 : w2.cell? ⟨w.heap.size, 30, none⟩ = some (.int .i64 p.code) := HM2.out.cell 30
 go_wp2_with fail
 refine (wNum_any R KB ([] ++ enc 2 ++ enc (b2i p.present)) p.code w2 HR2.out (by simp only [List.length_append, List.length_nil]; omega) (by omega) (by omega)).mono ?_
 rintro e w3 ⟨rfl, hr, hk⟩
 clear c30
 have HM3 := Lib.hid (hk.mt HKM.out HM2.out)
 have HK3 := Lib.hid (HK2.out.trans hk)
 have HR3 := Lib.hid hr
 clear hr hk HM2 HK2 HR2
 go_wp2_with fail
 go_end0
 rw [HE.out]
 exact ⟨rfl, by have := HR3.out.sub HKB.out; simpa only [List.append_assoc, List.nil_append, List.append_nil] using this, HK0.out.trans (HK3.out.sub HKB.out)⟩

theorem wPk_3 (R : Nat) (K : Nat → Prop) (p : Pkt) (a : PA) (w : World) (h : WR w R K []) (hB : ∃ B, (∀ g, g < B → K g) ∧ PInB w B p a) (hc : bodyR p = 0) (hkd : p.kind = 3) :
 Calls Tryz.prog 15 #[.pointer (some ⟨R, 0, none⟩), .agg (pkC p a).toArray] w (RetW R K (encPk p) w) := by
 have hmf := @hmfT Tryz.prog
 have HE : Hid (encPk p = enc 3 ++ (enc p.id ++ (enc (b2i p.dup) ++ encM p.msg))) := Lib.hid (by unfold encPk encBody; simp [hkd])
 have hq : pubR p = 0 := by unfold bodyR at hc; simpa [hkd] using hc
 obtain ⟨hcm, b1, b2⟩ := pubR_parts hq
 have HQ := Lib.hid hcm
 clear hcm hq
 have l0 := (enc_len 3).2
 have l1 := (enc_len p.id).2
 have l2 := (enc_len p.code).2
 have l3 := (enc_len (b2i p.dup)).2
 have l4 := (enc_len (b2i p.present)).2
 obtain ⟨B, hB1, hB2⟩ := hB
 have HKIND := Lib.hid hkd
 obtain ⟨w0, hw0⟩ : ∃ w0, w0 = w.alloc (.cells (pkC p a).toArray 38) := ⟨_, rfl⟩
 have hb0 : Below w.heap.size w w0 := by rw [hw0]; exact belA _ _
 have hm0 : MT 38 w0 w.heap.size (pkC p a) := by rw [hw0]; exact MT.new w _ _
 obtain ⟨KB, hKB, hKM, hr0, hk0⟩ := h.box hb0 (M := w.heap.size) ⟨Nat.le_refl _, hm0.lt⟩
 have HM0 := Lib.hid hm0
 have HR0 := Lib.hid hr0
 have HK0 := Lib.hid hk0
 have HKB := Lib.hid hKB
 have HKM := Lib.hid hKM
 have HW0 := Lib.hid hw0
 have HBX := Lib.hid hb0
 have HKP := Lib.hid h.kept
 have HBB : Hid (∀ wx, WK KB w0 wx → (∀ g, g < B → KB g) ∧ PInB wx B p a) := Lib.hid (fun wx hx => ⟨fun g hg => hKB g (hB1 g hg), (hB2.below (hk0.below hB1)).below (hx.below (fun g hg => hKB g (hB1 g hg)))⟩)
 have c0 : w0.cell? ⟨w.heap.size, 0, none⟩ = some (.int .i64 3) := by have := hm0.cell 0; rw [show (pkC p a)[0]? = some (.int .i64 p.kind) from rfl, hkd] at this; exact this
 clear hc hkd hB1 hB2
 clear hm0 hr0 hk0 hKB hKM hw0 hb0 h
 have HKK : Hid (WK KB w0 w0) := Lib.hid (WK.refl _ _)
 go_enter Tryz.func15, Tryz.ntmps15
 go_upto_region 1 with fail
 rw [← HW0.out]
 go_wp2_with fail
 refine (wNum_any R KB [] 3 w0 HR0.out (by simp) (by omega) (by omega)).mono ?_
 rintro e w1 ⟨rfl, hr, hk⟩
 have HM1 := Lib.hid (hk.mt HKM.out HM0.out)
 have HK1 := Lib.hid (HKK.out.trans hk)
 have HR1 := Lib.hid hr
 clear hr hk HM0 HKK HR0
 clear c0
 have c0 : w1.cell? ⟨w.heap.size, 0, none⟩ = some (.int .i64 3) := by have := HM1.out.cell 0; rw [show (pkC p a)[0]? = some (.int .i64 p.kind) from rfl, HKIND.out] at this; exact this
 have c1 : w1.cell? ⟨w.heap.size, 1, none⟩ = some (.int .i64 p.id) := HM1.out.cell 1
 go_wp2_with fail
 refine (wNum_any R KB ([] ++ enc 3) p.id w1 HR1.out (by simp only [List.length_append, List.length_nil]; omega) (by omega) (by omega)).mono ?_
 rintro e w2 ⟨rfl, hr, hk⟩
 clear c1
 have HM2 := Lib.hid (hk.mt HKM.out HM1.out)
 have HK2 := Lib.hid (HK1.out.trans hk)
 have HR2 := Lib.hid hr
 clear hr hk HM1 HK1 HR1
 have c2 : w2.cell? ⟨w.heap.size, 2, none⟩ = some (.bool p.dup) := HM2.out.cell 2
 go_wp2_with fail
 refine (wFlag1_any R KB ([] ++ enc 3 ++ enc p.id) p.dup w2 HR2.out (by simp only [List.length_append, List.length_nil]; omega)).mono ?_
 rintro e w3 ⟨rfl, hr, hk⟩
 clear c2
 have HM3 := Lib.hid (hk.mt HKM.out HM2.out)
 have HK3 := Lib.hid (HK2.out.trans hk)
 have HR3 := Lib.hid hr
 clear hr hk HM2 HK2 HR2
 go_wp2_with (refine wpList_load_part (by rfl) 31 _ rfl w.heap.size 3 9 rfl 38 (pkC p a) (0, 0) _ HM3.out Tryz.underlying31 rfl info26 (by show 3 + 9 ≤ 34; decide) ?_)
 refine (wMsgV_any R KB ([] ++ enc 3 ++ enc p.id ++ enc (b2i p.dup)) p.msg a.m a.mc w3 HR3.out (by simp only [List.length_append, List.length_nil]; omega) ⟨B, (HBB.out _ HK3.out).1, (HBB.out _ HK3.out).2.1⟩ HQ.out).mono ?_
 rintro e w4 ⟨rfl, hr, hk⟩
 have HM4 := Lib.hid (hk.mt HKM.out HM3.out)
 have HK4 := Lib.hid (HK3.out.trans hk)
 have HR4 := Lib.hid hr
 clear hr hk HM3 HK3 HR3
 go_wp2_with fail
 go_end0
 rw [HE.out]
 exact ⟨rfl, by have := HR4.out.sub HKB.out; simpa only [List.append_assoc, List.nil_append, List.append_nil] using this, HK0.out.trans (HK4.out.sub HKB.out)⟩

theorem wPk_4 (R : Nat) (K : Nat → Prop) (p : Pkt) (a : PA) (w : World) (h : WR w R K []) (hB : ∃ B, (∀ g, g < B → K g) ∧ PInB w B p a) (hc : bodyR p = 0) (hkd : p.kind = 4) :
 Calls Tryz.prog 15 #[.pointer (some ⟨R, 0, none⟩), .agg (pkC p a).toArray] w (RetW R K (encPk p) w) := by
 have hmf := @hmfT Tryz.prog
 have HE : Hid (encPk p = enc 4 ++ (enc p.id)) := Lib.hid (by unfold encPk encBody; simp [hkd])
 have hq : idR p.id = 0 := by unfold bodyR at hc; simpa [hkd] using hc
 obtain ⟨b1, b2⟩ := idR_in hq
 clear hq
 have l0 := (enc_len 4).2
 have l1 := (enc_len p.id).2
 have l2 := (enc_len p.code).2
 have l3 := (enc_len (b2i p.dup)).2
 have l4 := (enc_len (b2i p.present)).2
 obtain ⟨B, hB1, hB2⟩ := hB
 have HKIND := Lib.hid hkd
 obtain ⟨w0, hw0⟩ : ∃ w0, w0 = w.alloc (.cells (pkC p a).toArray 38) := ⟨_, rfl⟩
 have hb0 : Below w.heap.size w w0 := by rw [hw0]; exact belA _ _
 have hm0 : MT 38 w0 w.heap.size (pkC p a) := by rw [hw0]; exact MT.new w _ _
 obtain ⟨KB, hKB, hKM, hr0, hk0⟩ := h.box hb0 (M := w.heap.size) ⟨Nat.le_refl _, hm0.lt⟩
 have HM0 := Lib.hid hm0
 have HR0 := Lib.hid hr0
 have HK0 := Lib.hid hk0
 have HKB := Lib.hid hKB
 have HKM := Lib.hid hKM
 have HW0 := Lib.hid hw0
 have HBX := Lib.hid hb0
 have HKP := Lib.hid h.kept
 have HBB : Hid (∀ wx, WK KB w0 wx → (∀ g, g < B → KB g) ∧ PInB wx B p a) := Lib.hid (fun wx hx => ⟨fun g hg => hKB g (hB1 g hg), (hB2.below (hk0.below hB1)).below (hx.below (fun g hg => hKB g (hB1 g hg)))⟩)
 have c0 : w0.cell? ⟨w.heap.size, 0, none⟩ = some (.int .i64 4) := by have := hm0.cell 0; rw [show (pkC p a)[0]? = some (.int .i64 p.kind) from rfl, hkd] at this; exact this
 clear hc hkd hB1 hB2
 clear hm0 hr0 hk0 hKB hKM hw0 hb0 h
 have HKK : Hid (WK KB w0 w0) := Lib.hid (WK.refl _ _)
 go_enter Tryz.func15, Tryz.ntmps15
 go_upto_region 1 with fail
 rw [← HW0.out]
 go_wp2_with fail
 refine (wNum_any R KB [] 4 w0 HR0.out (by simp) (by omega) (by omega)).mono ?_
 rintro e w1 ⟨rfl, hr, hk⟩
 have HM1 := Lib.hid (hk.mt HKM.out HM0.out)
 have HK1 := Lib.hid (HKK.out.trans hk)
 have HR1 := Lib.hid hr
 clear hr hk HM0 HKK HR0
 clear c0
 have c0 : w1.cell? ⟨w.heap.size, 0, none⟩ = some (.int .i64 4) := by have := HM1.out.cell 0; rw [show (pkC p a)[0]? = some (.int .i64 p.kind) from rfl, HKIND.out] at this; exact this
 have c1 : w1.cell? ⟨w.heap.size, 1, none⟩ = some (.int .i64 p.id) := HM1.out.cell 1
 go_wp2_with fail
 refine (wNum_any R KB ([] ++ enc 4) p.id w1 HR1.out (by simp only [List.length_append, List.length_nil]; omega) (by omega) (by omega)).mono ?_
 rintro e w2 ⟨rfl, hr, hk⟩
 clear c1
 have HM2 := Lib.hid (hk.mt HKM.out HM1.out)
 have HK2 := Lib.hid (HK1.out.trans hk)
 have HR2 := Lib.hid hr
 clear hr hk HM1 HK1 HR1
 go_wp2_with fail
 go_end0
 rw [HE.out]
 exact ⟨rfl, by have := HR2.out.sub HKB.out; simpa only [List.append_assoc, List.nil_append, List.append_nil] using this, HK0.out.trans (HK2.out.sub HKB.out)⟩

theorem wPk_5 (R : Nat) (K : Nat → Prop) (p : Pkt) (a : PA) (w : World) (h : WR w R K []) (hB : ∃ B, (∀ g, g < B → K g) ∧ PInB w B p a) (hc : bodyR p = 0) (hkd : p.kind = 5) :
 Calls Tryz.prog 15 #[.pointer (some ⟨R, 0, none⟩), .agg (pkC p a).toArray] w (RetW R K (encPk p) w) := by
 have hmf := @hmfT Tryz.prog
 have HE : Hid (encPk p = enc 5 ++ (enc p.id)) := Lib.hid (by unfold encPk encBody; simp [hkd])
 have hq : idR p.id = 0 := by unfold bodyR at hc; simpa [hkd] using hc
 obtain ⟨b1, b2⟩ := idR_in hq
 clear hq
 have l0 := (enc_len 5).2
 have l1 := (enc_len p.id).2
 have l2 := (enc_len p.code).2
 have l3 := (enc_len (b2i p.dup)).2
 have l4 := (enc_len (b2i p.present)).2
 obtain ⟨B, hB1, hB2⟩ := hB
 have HKIND := Lib.hid hkd
 obtain ⟨w0, hw0⟩ : ∃ w0, w0 = w.alloc (.cells (pkC p a).toArray 38) := ⟨_, rfl⟩
 have hb0 : Below w.heap.size w w0 := by rw [hw0]; exact belA _ _
 have hm0 : MT 38 w0 w.heap.size (pkC p a) := by rw [hw0]; exact MT.new w _ _
 obtain ⟨KB, hKB, hKM, hr0, hk0⟩ := h.box hb0 (M := w.heap.size) ⟨Nat.le_refl _, hm0.lt⟩
 have HM0 := Lib.hid hm0
 have HR0 := Lib.hid hr0
 have HK0 := Lib.hid hk0
 have HKB := Lib.hid hKB
 have HKM := Lib.hid hKM
 have HW0 := Lib.hid hw0
 have HBX := Lib.hid hb0
 have HKP := Lib.hid h.kept
 have HBB : Hid (∀ wx, WK KB w0 wx → (∀ g, g < B → KB g) ∧ PInB wx B p a) := Lib.hid (fun wx hx => ⟨fun g hg => hKB g (hB1 g hg), (hB2.below (hk0.below hB1)).below (hx.below (fun g hg => hKB g (hB1 g hg)))⟩)
 have c0 : w0.cell? ⟨w.heap.size, 0, none⟩ = some (.int .i64 5) := by have := hm0.cell 0; rw [show (pkC p a)[0]? = some (.int .i64 p.kind) from rfl, hkd] at this; exact this
 clear hc hkd hB1 hB2
 clear hm0 hr0 hk0 hKB hKM hw0 hb0 h
 have HKK : Hid (WK KB w0 w0) := Lib.hid (WK.refl _ _)
 go_enter Tryz.func15, Tryz.ntmps15
 go_upto_region 1 with fail
 rw [← HW0.out]
 go_wp2_with fail
 refine (wNum_any R KB [] 5 w0 HR0.out (by simp) (by omega) (by omega)).mono ?_
 rintro e w1 ⟨rfl, hr, hk⟩
 have HM1 := Lib.hid (hk.mt HKM.out HM0.out)
 have HK1 := Lib.hid (HKK.out.trans hk)
 have HR1 := Lib.hid hr
 clear hr hk HM0 HKK HR0
 clear c0
 have c0 : w1.cell? ⟨w.heap.size, 0, none⟩ = some (.int .i64 5) := by have := HM1.out.cell 0; rw [show (pkC p a)[0]? = some (.int .i64 p.kind) from rfl, HKIND.out] at this; exact this
 have c1 : w1.cell? ⟨w.heap.size, 1, none⟩ = some (.int .i64 p.id) := HM1.out.cell 1
 go_wp2_with fail
 refine (wNum_any R KB ([] ++ enc 5) p.id w1 HR1.out (by simp only [List.length_append, List.length_nil]; omega) (by omega) (by omega)).mono ?_
 rintro e w2 ⟨rfl, hr, hk⟩
 clear c1
 have HM2 := Lib.hid (hk.mt HKM.out HM1.out)
 have HK2 := Lib.hid (HK1.out.trans hk)
 have HR2 := Lib.hid hr
 clear hr hk HM1 HK1 HR1
 go_wp2_with fail
 go_end0
 rw [HE.out]
 exact ⟨rfl, by have := HR2.out.sub HKB.out; simpa only [List.append_assoc, List.nil_append, List.append_nil] using this, HK0.out.trans (HK2.out.sub HKB.out)⟩

theorem wPk_6 (R : Nat) (K : Nat → Prop) (p : Pkt) (a : PA) (w : World) (h : WR w R K []) (hB : ∃ B, (∀ g, g < B → K g) ∧ PInB w B p a) (hc : bodyR p = 0) (hkd : p.kind = 6) :
 Calls Tryz.prog 15 #[.pointer (some ⟨R, 0, none⟩), .agg (pkC p a).toArray] w (RetW R K (encPk p) w) := by
 have hmf := @hmfT Tryz.prog
 have HE : Hid (encPk p = enc 6 ++ (enc p.id)) := Lib.hid (by unfold encPk encBody; simp [hkd])
 have hq : idR p.id = 0 := by unfold bodyR at hc; simpa [hkd] using hc
 obtain ⟨b1, b2⟩ := idR_in hq
 clear hq
 have l0 := (enc_len 6).2
 have l1 := (enc_len p.id).2
 have l2 := (enc_len p.code).2
 have l3 := (enc_len (b2i p.dup)).2
 have l4 := (enc_len (b2i p.present)).2
 obtain ⟨B, hB1, hB2⟩ := hB
 have HKIND := Lib.hid hkd
 obtain ⟨w0, hw0⟩ : ∃ w0, w0 = w.alloc (.cells (pkC p a).toArray 38) := ⟨_, rfl⟩
 have hb0 : Below w.heap.size w w0 := by rw [hw0]; exact belA _ _
 have hm0 : MT 38 w0 w.heap.size (pkC p a) := by rw [hw0]; exact MT.new w _ _
 obtain ⟨KB, hKB, hKM, hr0, hk0⟩ := h.box hb0 (M := w.heap.size) ⟨Nat.le_refl _, hm0.lt⟩
 have HM0 := Lib.hid hm0
 have HR0 := Lib.hid hr0
 have HK0 := Lib.hid hk0
 have HKB := Lib.hid hKB
 have HKM := Lib.hid hKM
 have HW0 := Lib.hid hw0
 have HBX := Lib.hid hb0
 have HKP := Lib.hid h.kept
 have HBB : Hid (∀ wx, WK KB w0 wx → (∀ g, g < B → KB g) ∧ PInB wx B p a) := Lib.hid (fun wx hx => ⟨fun g hg => hKB g (hB1 g hg), (hB2.below (hk0.below hB1)).below (hx.below (fun g hg => hKB g (hB1 g hg)))⟩)
 have c0 : w0.cell? ⟨w.heap.size, 0, none⟩ = some (.int .i64 6) := by have := hm0.cell 0; rw [show (pkC p a)[0]? = some (.int .i64 p.kind) from rfl, hkd] at this; exact this
 clear hc hkd hB1 hB2
 clear hm0 hr0 hk0 hKB hKM hw0 hb0 h
 have HKK : Hid (WK KB w0 w0) := Lib.hid (WK.refl _ _)
 go_enter Tryz.func15, Tryz.ntmps15
 go_upto_region 1 with fail
 rw [← HW0.out]
 go_wp2_with fail
 refine (wNum_any R KB [] 6 w0 HR0.out (by simp) (by omega) (by omega)).mono ?_
 rintro e w1 ⟨rfl, hr, hk⟩
 have HM1 := Lib.hid (hk.mt HKM.out HM0.out)
 have HK1 := Lib.hid (HKK.out.trans hk)
 have HR1 := Lib.hid hr
 clear hr hk HM0 HKK HR0
 clear c0
 have c0 : w1.cell? ⟨w.heap.size, 0, none⟩ = some (.int .i64 6) := by have := HM1.out.cell 0; rw [show (pkC p a)[0]? = some (.int .i64 p.kind) from rfl, HKIND.out] at this; exact this
 have c1 : w1.cell? ⟨w.heap.size, 1, none⟩ = some (.int .i64 p.id) := HM1.out.cell 1
 go_wp2_with fail
 refine (wNum_any R KB ([] ++ enc 6) p.id w1 HR1.out (by simp only [List.length_append, List.length_nil]; omega) (by omega) (by omega)).mono ?_
 rintro e w2 ⟨rfl, hr, hk⟩
 clear c1
 have HM2 := Lib.hid (hk.mt HKM.out HM1.out)
 have HK2 := Lib.hid (HK1.out.trans hk)
 have HR2 := Lib.hid hr
 clear hr hk HM1 HK1 HR1
 go_wp2_with fail
 go_end0
 rw [HE.out]
 exact ⟨rfl, by have := HR2.out.sub HKB.out; simpa only [List.append_assoc, List.nil_append, List.append_nil] using this, HK0.out.trans (HK2.out.sub HKB.out)⟩

theorem wPk_7 (R : Nat) (K : Nat → Prop) (p : Pkt) (a : PA) (w : World) (h : WR w R K []) (hB : ∃ B, (∀ g, g < B → K g) ∧ PInB w B p a) (hc : bodyR p = 0) (hkd : p.kind = 7) :
 Calls Tryz.prog 15 #[.pointer (some ⟨R, 0, none⟩), .agg (pkC p a).toArray] w (RetW R K (encPk p) w) := by
 have hmf := @hmfT Tryz.prog
 have HE : Hid (encPk p = enc 7 ++ (enc p.id)) := Lib.hid (by unfold encPk encBody; simp [hkd])
 have hq : idR p.id = 0 := by unfold bodyR at hc; simpa [hkd] using hc
 obtain ⟨b1, b2⟩ := idR_in hq
 clear hq
 have l0 := (enc_len 7).2
 have l1 := (enc_len p.id).2
 have l2 := (enc_len p.code).2
 have l3 := (enc_len (b2i p.dup)).2
 have l4 := (enc_len (b2i p.present)).2
 obtain ⟨B, hB1, hB2⟩ := hB
 have HKIND := Lib.hid hkd
 obtain ⟨w0, hw0⟩ : ∃ w0, w0 = w.alloc (.cells (pkC p a).toArray 38) := ⟨_, rfl⟩
 have hb0 : Below w.heap.size w w0 := by rw [hw0]; exact belA _ _
 have hm0 : MT 38 w0 w.heap.size (pkC p a) := by rw [hw0]; exact MT.new w _ _
 obtain ⟨KB, hKB, hKM, hr0, hk0⟩ := h.box hb0 (M := w.heap.size) ⟨Nat.le_refl _, hm0.lt⟩
 have HM0 := Lib.hid hm0
 have HR0 := Lib.hid hr0
 have HK0 := Lib.hid hk0
 have HKB := Lib.hid hKB
 have HKM := Lib.hid hKM
 have HW0 := Lib.hid hw0
 have HBX := Lib.hid hb0
 have HKP := Lib.hid h.kept
 have HBB : Hid (∀ wx, WK KB w0 wx → (∀ g, g < B → KB g) ∧ PInB wx B p a) := Lib.hid (fun wx hx => ⟨fun g hg => hKB g (hB1 g hg), (hB2.below (hk0.below hB1)).below (hx.below (fun g hg => hKB g (hB1 g hg)))⟩)
 have c0 : w0.cell? ⟨w.heap.size, 0, none⟩ = some (.int .i64 7) := by have := hm0.cell 0; rw [show (pkC p a)[0]? = some (.int .i64 p.kind) from rfl, hkd] at this; exact this
 clear hc hkd hB1 hB2
 clear hm0 hr0 hk0 hKB hKM hw0 hb0 h
 have HKK : Hid (WK KB w0 w0) := Lib.hid (WK.refl _ _)
 go_enter Tryz.func15, Tryz.ntmps15
 go_upto_region 1 with fail
 rw [← HW0.out]
 go_wp2_with fail
 refine (wNum_any R KB [] 7 w0 HR0.out (by simp) (by omega) (by omega)).mono ?_
 rintro e w1 ⟨rfl, hr, hk⟩
 have HM1 := Lib.hid (hk.mt HKM.out HM0.out)
 have HK1 := Lib.hid (HKK.out.trans hk)
 have HR1 := Lib.hid hr
 clear hr hk HM0 HKK HR0
 clear c0
 have c0 : w1.cell? ⟨w.heap.size, 0, none⟩ = some (.int .i64 7) := by have := HM1.out.cell 0; rw [show (pkC p a)[0]? = some (.int .i64 p.kind) from rfl, HKIND.out] at this; exact this
 have c1 : w1.cell? ⟨w.heap.size, 1, none⟩ = some (.int .i64 p.id) := HM1.out.cell 1
 go_wp2_with fail
 refine (wNum_any R KB ([] ++ enc 7) p.id w1 HR1.out (by simp only [List.length_append, List.length_nil]; omega) (by omega) (by omega)).mono ?_
 rintro e w2 ⟨rfl, hr, hk⟩
 clear c1
 have HM2 := Lib.hid (hk.mt HKM.out HM1.out)
 have HK2 := Lib.hid (HK1.out.trans hk)
 have HR2 := Lib.hid hr
 clear hr hk HM1 HK1 HR1
 go_wp2_with fail
 go_end0
 rw [HE.out]
 exact ⟨rfl, by have := HR2.out.sub HKB.out; simpa only [List.append_assoc, List.nil_append, List.append_nil] using this, HK0.out.trans (HK2.out.sub HKB.out)⟩

theorem wPk_8 (R : Nat) (K : Nat → Prop) (p : Pkt) (a : PA) (w : World) (h : WR w R K []) (hB : ∃ B, (∀ g, g < B → K g) ∧ PInB w B p a) (hc : bodyR p = 0) (hkd : p.kind = 8) :
 Calls Tryz.prog 15 #[.pointer (some ⟨R, 0, none⟩), .agg (pkC p a).toArray] w (RetW R K (encPk p) w) := by
 have hmf := @hmfT Tryz.prog
 have HE : Hid (encPk p = enc 8 ++ (enc p.id ++ (enc p.subs.length ++ encG encS p.subs))) := Lib.hid (by unfold encPk encBody; simp [hkd])
 have hq : listR p.id p.subs subR = 0 := by unfold bodyR at hc; simpa [hkd] using hc
 obtain ⟨⟨b1, b2⟩, b3, b4⟩ := listR_parts hq
 have HQ : Hid (∀ x ∈ p.subs, x.1.size ≤ 88 ∧ (0 ≤ x.2.1 ∧ x.2.1 ≤ 2)) := Lib.hid (fun x hx => subR_in (b4 x hx))
 clear b4 hq
 have l0 := (enc_len 8).2
 have l1 := (enc_len p.id).2
 have l2 := (enc_len p.code).2
 have l3 := (enc_len (b2i p.dup)).2
 have l4 := (enc_len (b2i p.present)).2
 obtain ⟨B, hB1, hB2⟩ := hB
 have HKIND := Lib.hid hkd
 obtain ⟨w0, hw0⟩ : ∃ w0, w0 = w.alloc (.cells (pkC p a).toArray 38) := ⟨_, rfl⟩
 have hb0 : Below w.heap.size w w0 := by rw [hw0]; exact belA _ _
 have hm0 : MT 38 w0 w.heap.size (pkC p a) := by rw [hw0]; exact MT.new w _ _
 obtain ⟨KB, hKB, hKM, hr0, hk0⟩ := h.box hb0 (M := w.heap.size) ⟨Nat.le_refl _, hm0.lt⟩
 have HM0 := Lib.hid hm0
 have HR0 := Lib.hid hr0
 have HK0 := Lib.hid hk0
 have HKB := Lib.hid hKB
 have HKM := Lib.hid hKM
 have HW0 := Lib.hid hw0
 have HBX := Lib.hid hb0
 have HKP := Lib.hid h.kept
 have HBB : Hid (∀ wx, WK KB w0 wx → (∀ g, g < B → KB g) ∧ PInB wx B p a) := Lib.hid (fun wx hx => ⟨fun g hg => hKB g (hB1 g hg), (hB2.below (hk0.below hB1)).below (hx.below (fun g hg => hKB g (hB1 g hg)))⟩)
 have c0 : w0.cell? ⟨w.heap.size, 0, none⟩ = some (.int .i64 8) := by have := hm0.cell 0; rw [show (pkC p a)[0]? = some (.int .i64 p.kind) from rfl, hkd] at this; exact this
 clear hc hkd hB1 hB2
 clear hm0 hr0 hk0 hKB hKM hw0 hb0 h
 have HKK : Hid (WK KB w0 w0) := Lib.hid (WK.refl _ _)
 go_enter Tryz.func15, Tryz.ntmps15
 go_upto_region 1 with fail
 rw [← HW0.out]
 go_wp2_with fail
 refine (wNum_any R KB [] 8 w0 HR0.out (by simp) (by omega) (by omega)).mono ?_
 rintro e w1 ⟨rfl, hr, hk⟩
 have HM1 := Lib.hid (hk.mt HKM.out HM0.out)
 have HK1 := Lib.hid (HKK.out.trans hk)
 have HR1 := Lib.hid hr
 clear hr hk HM0 HKK HR0
 clear c0
 have c0 : w1.cell? ⟨w.heap.size, 0, none⟩ = some (.int .i64 8) := by have := HM1.out.cell 0; rw [show (pkC p a)[0]? = some (.int .i64 p.kind) from rfl, HKIND.out] at this; exact this
 have c1 : w1.cell? ⟨w.heap.size, 1, none⟩ = some (.int .i64 p.id) := HM1.out.cell 1
 go_wp2_with fail
 refine (wNum_any R KB ([] ++ enc 8) p.id w1 HR1.out (by simp only [List.length_append, List.length_nil]; omega) (by omega) (by omega)).mono ?_
 rintro e w2 ⟨rfl, hr, hk⟩
 clear c1
 have HM2 := Lib.hid (hk.mt HKM.out HM1.out)
 have HK2 := Lib.hid (HK1.out.trans hk)
 have HR2 := Lib.hid hr
 clear hr hk HM1 HK1 HR1
 have c31 : w2.cell? ⟨w.heap.size, 31, none⟩ = some (.slice a.s p.subs.length a.sc) := HM2.out.cell 31
 go_wp2_with fail
 refine (wListS_any R KB ([] ++ enc 8 ++ enc p.id) a.s a.sc p.subs w2 HR2.out B (HBB.out _ HK2.out).1 (HBB.out _ HK2.out).2.2.2.1 (by simp only [List.length_append, List.length_nil]; omega) b3 HQ.out).mono ?_
 rintro e w3 ⟨rfl, hr, hk⟩
 clear c31
 have HM3 := Lib.hid (hk.mt HKM.out HM2.out)
 have HK3 := Lib.hid (HK2.out.trans hk)
 have HR3 := Lib.hid hr
 clear hr hk HM2 HK2 HR2
 go_wp2_with fail
 go_end0
 rw [HE.out]
 exact ⟨rfl, by have := HR3.out.sub HKB.out; simpa only [List.append_assoc, List.nil_append, List.append_nil] using this, HK0.out.trans (HK3.out.sub HKB.out)⟩

theorem wPk_9 (R : Nat) (K : Nat → Prop) (p : Pkt) (a : PA) (w : World) (h : WR w R K []) (hB : ∃ B, (∀ g, g < B → K g) ∧ PInB w B p a) (hc : bodyR p = 0) (hkd : p.kind = 9) :
 Calls Tryz.prog 15 #[.pointer (some ⟨R, 0, none⟩), .agg (pkC p a).toArray] w (RetW R K (encPk p) w) := by
 have hmf := @hmfT Tryz.prog
 have HE : Hid (encPk p = enc 9 ++ (enc p.id ++ (enc p.codes.length ++ encG enc p.codes))) := Lib.hid (by unfold encPk encBody; simp [hkd])
 have hq : listR p.id p.codes codR = 0 := by unfold bodyR at hc; simpa [hkd] using hc
 obtain ⟨⟨b1, b2⟩, b3, b4⟩ := listR_parts hq
 have HQ : Hid (∀ x ∈ p.codes, -9223372036854775808 ≤ x ∧ x ≤ 9223372036854775807) := Lib.hid (fun x hx => by have := codR_in (b4 x hx); omega)
 clear b4 hq
 have l0 := (enc_len 9).2
 have l1 := (enc_len p.id).2
 have l2 := (enc_len p.code).2
 have l3 := (enc_len (b2i p.dup)).2
 have l4 := (enc_len (b2i p.present)).2
 obtain ⟨B, hB1, hB2⟩ := hB
 have HKIND := Lib.hid hkd
 obtain ⟨w0, hw0⟩ : ∃ w0, w0 = w.alloc (.cells (pkC p a).toArray 38) := ⟨_, rfl⟩
 have hb0 : Below w.heap.size w w0 := by rw [hw0]; exact belA _ _
 have hm0 : MT 38 w0 w.heap.size (pkC p a) := by rw [hw0]; exact MT.new w _ _
 obtain ⟨KB, hKB, hKM, hr0, hk0⟩ := h.box hb0 (M := w.heap.size) ⟨Nat.le_refl _, hm0.lt⟩
 have HM0 := Lib.hid hm0
 have HR0 := Lib.hid hr0
 have HK0 := Lib.hid hk0
 have HKB := Lib.hid hKB
 have HKM := Lib.hid hKM
 have HW0 := Lib.hid hw0
 have HBX := Lib.hid hb0
 have HKP := Lib.hid h.kept
 have HBB : Hid (∀ wx, WK KB w0 wx → (∀ g, g < B → KB g) ∧ PInB wx B p a) := Lib.hid (fun wx hx => ⟨fun g hg => hKB g (hB1 g hg), (hB2.below (hk0.below hB1)).below (hx.below (fun g hg => hKB g (hB1 g hg)))⟩)
 have c0 : w0.cell? ⟨w.heap.size, 0, none⟩ = some (.int .i64 9) := by have := hm0.cell 0; rw [show (pkC p a)[0]? = some (.int .i64 p.kind) from rfl, hkd] at this; exact this
 clear hc hkd hB1 hB2
 clear hm0 hr0 hk0 hKB hKM hw0 hb0 h
 have HKK : Hid (WK KB w0 w0) := Lib.hid (WK.refl _ _)
 go_enter Tryz.func15, Tryz.ntmps15
 go_upto_region 1 with fail
 rw [← HW0.out]
 go_wp2_with fail
 refine (wNum_any R KB [] 9 w0 HR0.out (by simp) (by omega) (by omega)).mono ?_
 rintro e w1 ⟨rfl, hr, hk⟩
 have HM1 := Lib.hid (hk.mt HKM.out HM0.out)
 have HK1 := Lib.hid (HKK.out.trans hk)
 have HR1 := Lib.hid hr
 clear hr hk HM0 HKK HR0
 clear c0
 have c0 : w1.cell? ⟨w.heap.size, 0, none⟩ = some (.int .i64 9) := by have := HM1.out.cell 0; rw [show (pkC p a)[0]? = some (.int .i64 p.kind) from rfl, HKIND.out] at this; exact this
 have c1 : w1.cell? ⟨w.heap.size, 1, none⟩ = some (.int .i64 p.id) := HM1.out.cell 1
 go_wp2_with fail
 refine (wNum_any R KB ([] ++ enc 9) p.id w1 HR1.out (by simp only [List.length_append, List.length_nil]; omega) (by omega) (by omega)).mono ?_
 rintro e w2 ⟨rfl, hr, hk⟩
 clear c1
 have HM2 := Lib.hid (hk.mt HKM.out HM1.out)
 have HK2 := Lib.hid (HK1.out.trans hk)
 have HR2 := Lib.hid hr
 clear hr hk HM1 HK1 HR1
 have c33 : w2.cell? ⟨w.heap.size, 33, none⟩ = some (.slice a.c p.codes.length a.cc) := HM2.out.cell 33
 go_wp2_with fail
 refine (wListC_any R KB ([] ++ enc 9 ++ enc p.id) a.c a.cc p.codes w2 HR2.out B (HBB.out _ HK2.out).1 (HBB.out _ HK2.out).2.2.2.2.2 (by simp only [List.length_append, List.length_nil]; omega) b3 HQ.out).mono ?_
 rintro e w3 ⟨rfl, hr, hk⟩
 clear c33
 have HM3 := Lib.hid (hk.mt HKM.out HM2.out)
 have HK3 := Lib.hid (HK2.out.trans hk)
 have HR3 := Lib.hid hr
 clear hr hk HM2 HK2 HR2
 go_wp2_with fail
 go_end0
 rw [HE.out]
 exact ⟨rfl, by have := HR3.out.sub HKB.out; simpa only [List.append_assoc, List.nil_append, List.append_nil] using this, HK0.out.trans (HK3.out.sub HKB.out)⟩

theorem wPk_10 (R : Nat) (K : Nat → Prop) (p : Pkt) (a : PA) (w : World) (h : WR w R K []) (hB : ∃ B, (∀ g, g < B → K g) ∧ PInB w B p a) (hc : bodyR p = 0) (hkd : p.kind = 10) :
 Calls Tryz.prog 15 #[.pointer (some ⟨R, 0, none⟩), .agg (pkC p a).toArray] w (RetW R K (encPk p) w) := by
 have hmf := @hmfT Tryz.prog
 have HE : Hid (encPk p = enc 10 ++ (enc p.id ++ (enc p.filters.length ++ encG encT p.filters))) := Lib.hid (by unfold encPk encBody; simp [hkd])
 have hq : listR p.id p.filters filR = 0 := by unfold bodyR at hc; simpa [hkd] using hc
 obtain ⟨⟨b1, b2⟩, b3, b4⟩ := listR_parts hq
 have HQ : Hid (∀ x ∈ p.filters, x.size ≤ 88) := Lib.hid (fun x hx => filR_in (b4 x hx))
 clear b4 hq
 have l0 := (enc_len 10).2
 have l1 := (enc_len p.id).2
 have l2 := (enc_len p.code).2
 have l3 := (enc_len (b2i p.dup)).2
 have l4 := (enc_len (b2i p.present)).2
 obtain ⟨B, hB1, hB2⟩ := hB
 have HKIND := Lib.hid hkd
 obtain ⟨w0, hw0⟩ : ∃ w0, w0 = w.alloc (.cells (pkC p a).toArray 38) := ⟨_, rfl⟩
 have hb0 : Below w.heap.size w w0 := by rw [hw0]; exact belA _ _
 have hm0 : MT 38 w0 w.heap.size (pkC p a) := by rw [hw0]; exact MT.new w _ _
 obtain ⟨KB, hKB, hKM, hr0, hk0⟩ := h.box hb0 (M := w.heap.size) ⟨Nat.le_refl _, hm0.lt⟩
 have HM0 := Lib.hid hm0
 have HR0 := Lib.hid hr0
 have HK0 := Lib.hid hk0
 have HKB := Lib.hid hKB
 have HKM := Lib.hid hKM
 have HW0 := Lib.hid hw0
 have HBX := Lib.hid hb0
 have HKP := Lib.hid h.kept
 have HBB : Hid (∀ wx, WK KB w0 wx → (∀ g, g < B → KB g) ∧ PInB wx B p a) := Lib.hid (fun wx hx => ⟨fun g hg => hKB g (hB1 g hg), (hB2.below (hk0.below hB1)).below (hx.below (fun g hg => hKB g (hB1 g hg)))⟩)
 have c0 : w0.cell? ⟨w.heap.size, 0, none⟩ = some (.int .i64 10) := by have := hm0.cell 0; rw [show (pkC p a)[0]? = some (.int .i64 p.kind) from rfl, hkd] at this; exact this
 clear hc hkd hB1 hB2
 clear hm0 hr0 hk0 hKB hKM hw0 hb0 h
 have HKK : Hid (WK KB w0 w0) := Lib.hid (WK.refl _ _)
 go_enter Tryz.func15, Tryz.ntmps15
 go_upto_region 1 with fail
 rw [← HW0.out]
 go_wp2_with fail
 refine (wNum_any R KB [] 10 w0 HR0.out (by simp) (by omega) (by omega)).mono ?_
 rintro e w1 ⟨rfl, hr, hk⟩
 have HM1 := Lib.hid (hk.mt HKM.out HM0.out)
 have HK1 := Lib.hid (HKK.out.trans hk)
 have HR1 := Lib.hid hr
 clear hr hk HM0 HKK HR0
 clear c0
 have c0 : w1.cell? ⟨w.heap.size, 0, none⟩ = some (.int .i64 10) := by have := HM1.out.cell 0; rw [show (pkC p a)[0]? = some (.int .i64 p.kind) from rfl, HKIND.out] at this; exact this
 have c1 : w1.cell? ⟨w.heap.size, 1, none⟩ = some (.int .i64 p.id) := HM1.out.cell 1
 go_wp2_with fail
 refine (wNum_any R KB ([] ++ enc 10) p.id w1 HR1.out (by simp only [List.length_append, List.length_nil]; omega) (by omega) (by omega)).mono ?_
 rintro e w2 ⟨rfl, hr, hk⟩
 clear c1
 have HM2 := Lib.hid (hk.mt HKM.out HM1.out)
 have HK2 := Lib.hid (HK1.out.trans hk)
 have HR2 := Lib.hid hr
 clear hr hk HM1 HK1 HR1
 have c32 : w2.cell? ⟨w.heap.size, 32, none⟩ = some (.slice a.f p.filters.length a.fc) := HM2.out.cell 32
 go_wp2_with fail
 refine (wListF_any R KB ([] ++ enc 10 ++ enc p.id) a.f a.fc p.filters w2 HR2.out B (HBB.out _ HK2.out).1 (HBB.out _ HK2.out).2.2.2.2.1 (by simp only [List.length_append, List.length_nil]; omega) b3 HQ.out).mono ?_
 rintro e w3 ⟨rfl, hr, hk⟩
 clear c32
 have HM3 := Lib.hid (hk.mt HKM.out HM2.out)
 have HK3 := Lib.hid (HK2.out.trans hk)
 have HR3 := Lib.hid hr
 clear hr hk HM2 HK2 HR2
 go_wp2_with fail
 go_end0
 rw [HE.out]
 exact ⟨rfl, by have := HR3.out.sub HKB.out; simpa only [List.append_assoc, List.nil_append, List.append_nil] using this, HK0.out.trans (HK3.out.sub HKB.out)⟩

theorem wPk_11 (R : Nat) (K : Nat → Prop) (p : Pkt) (a : PA) (w : World) (h : WR w R K []) (hB : ∃ B, (∀ g, g < B → K g) ∧ PInB w B p a) (hc : bodyR p = 0) (hkd : p.kind = 11) :
 Calls Tryz.prog 15 #[.pointer (some ⟨R, 0, none⟩), .agg (pkC p a).toArray] w (RetW R K (encPk p) w) := by
 have hmf := @hmfT Tryz.prog
 have HE : Hid (encPk p = enc 11 ++ (enc p.id ++ (enc p.codes.length ++ encG enc p.codes))) := Lib.hid (by unfold encPk encBody; simp [hkd])
 have hq : listR p.id p.codes codR = 0 := by unfold bodyR at hc; simpa [hkd] using hc
 obtain ⟨⟨b1, b2⟩, b3, b4⟩ := listR_parts hq
 have HQ : Hid (∀ x ∈ p.codes, -9223372036854775808 ≤ x ∧ x ≤ 9223372036854775807) := Lib.hid (fun x hx => by have := codR_in (b4 x hx); omega)
 clear b4 hq
 have l0 := (enc_len 11).2
 have l1 := (enc_len p.id).2
 have l2 := (enc_len p.code).2
 have l3 := (enc_len (b2i p.dup)).2
 have l4 := (enc_len (b2i p.present)).2
 obtain ⟨B, hB1, hB2⟩ := hB
 have HKIND := Lib.hid hkd
 obtain ⟨w0, hw0⟩ : ∃ w0, w0 = w.alloc (.cells (pkC p a).toArray 38) := ⟨_, rfl⟩
 have hb0 : Below w.heap.size w w0 := by rw [hw0]; exact belA _ _
 have hm0 : MT 38 w0 w.heap.size (pkC p a) := by rw [hw0]; exact MT.new w _ _
 obtain ⟨KB, hKB, hKM, hr0, hk0⟩ := h.box hb0 (M := w.heap.size) ⟨Nat.le_refl _, hm0.lt⟩
 have HM0 := Lib.hid hm0
 have HR0 := Lib.hid hr0
 have HK0 := Lib.hid hk0
 have HKB := Lib.hid hKB
 have HKM := Lib.hid hKM
 have HW0 := Lib.hid hw0
 have HBX := Lib.hid hb0
 have HKP := Lib.hid h.kept
 have HBB : Hid (∀ wx, WK KB w0 wx → (∀ g, g < B → KB g) ∧ PInB wx B p a) := Lib.hid (fun wx hx => ⟨fun g hg => hKB g (hB1 g hg), (hB2.below (hk0.below hB1)).below (hx.below (fun g hg => hKB g (hB1 g hg)))⟩)
 have c0 : w0.cell? ⟨w.heap.size, 0, none⟩ = some (.int .i64 11) := by have := hm0.cell 0; rw [show (pkC p a)[0]? = some (.int .i64 p.kind) from rfl, hkd] at this; exact this
 clear hc hkd hB1 hB2
 clear hm0 hr0 hk0 hKB hKM hw0 hb0 h
 have HKK : Hid (WK KB w0 w0) := Lib.hid (WK.refl _ _)
 go_enter Tryz.func15, Tryz.ntmps15
 go_upto_region 1 with fail
 rw [← HW0.out]
 go_wp2_with fail
 refine (wNum_any R KB [] 11 w0 HR0.out (by simp) (by omega) (by omega)).mono ?_
 rintro e w1 ⟨rfl, hr, hk⟩
 have HM1 := Lib.hid (hk.mt HKM.out HM0.out)
 have HK1 := Lib.hid (HKK.out.trans hk)
 have HR1 := Lib.hid hr
 clear hr hk HM0 HKK HR0
 clear c0
 have c0 : w1.cell? ⟨w.heap.size, 0, none⟩ = some (.int .i64 11) := by have := HM1.out.cell 0; rw [show (pkC p a)[0]? = some (.int .i64 p.kind) from rfl, HKIND.out] at this; exact this
 have c1 : w1.cell? ⟨w.heap.size, 1, none⟩ = some (.int .i64 p.id) := HM1.out.cell 1
 go_wp2_with fail
 refine (wNum_any R KB ([] ++ enc 11) p.id w1 HR1.out (by simp only [List.length_append, List.length_nil]; omega) (by omega) (by omega)).mono ?_
 rintro e w2 ⟨rfl, hr, hk⟩
 clear c1
 have HM2 := Lib.hid (hk.mt HKM.out HM1.out)
 have HK2 := Lib.hid (HK1.out.trans hk)
 have HR2 := Lib.hid hr
 clear hr hk HM1 HK1 HR1
 have c33 : w2.cell? ⟨w.heap.size, 33, none⟩ = some (.slice a.c p.codes.length a.cc) := HM2.out.cell 33
 go_wp2_with fail
 refine (wListC_any R KB ([] ++ enc 11 ++ enc p.id) a.c a.cc p.codes w2 HR2.out B (HBB.out _ HK2.out).1 (HBB.out _ HK2.out).2.2.2.2.2 (by simp only [List.length_append, List.length_nil]; omega) b3 HQ.out).mono ?_
 rintro e w3 ⟨rfl, hr, hk⟩
 clear c33
 have HM3 := Lib.hid (hk.mt HKM.out HM2.out)
 have HK3 := Lib.hid (HK2.out.trans hk)
 have HR3 := Lib.hid hr
 clear hr hk HM2 HK2 HR2
 go_wp2_with fail
 go_end0
 rw [HE.out]
 exact ⟨rfl, by have := HR3.out.sub HKB.out; simpa only [List.append_assoc, List.nil_append, List.append_nil] using this, HK0.out.trans (HK3.out.sub HKB.out)⟩

theorem wPk_12 (R : Nat) (K : Nat → Prop) (p : Pkt) (a : PA) (w : World) (h : WR w R K []) (hB : ∃ B, (∀ g, g < B → K g) ∧ PInB w B p a) (_hc : bodyR p = 0) (hkd : p.kind = 12) :
 Calls Tryz.prog 15 #[.pointer (some ⟨R, 0, none⟩), .agg (pkC p a).toArray] w (RetW R K (encPk p) w) := by
 have hmf := @hmfT Tryz.prog
 have HE : Hid (encPk p = enc 12 ++ ([])) := Lib.hid (by unfold encPk encBody; simp [hkd])
 have l0 := (enc_len 12).2
 have l1 := (enc_len p.id).2
 have l2 := (enc_len p.code).2
 have l3 := (enc_len (b2i p.dup)).2
 have l4 := (enc_len (b2i p.present)).2
 obtain ⟨B, hB1, hB2⟩ := hB
 have HKIND := Lib.hid hkd
 obtain ⟨w0, hw0⟩ : ∃ w0, w0 = w.alloc (.cells (pkC p a).toArray 38) := ⟨_, rfl⟩
 have hb0 : Below w.heap.size w w0 := by rw [hw0]; exact belA _ _
 have hm0 : MT 38 w0 w.heap.size (pkC p a) := by rw [hw0]; exact MT.new w _ _
 obtain ⟨KB, hKB, hKM, hr0, hk0⟩ := h.box hb0 (M := w.heap.size) ⟨Nat.le_refl _, hm0.lt⟩
 have HM0 := Lib.hid hm0
 have HR0 := Lib.hid hr0
 have HK0 := Lib.hid hk0
 have HKB := Lib.hid hKB
 have HKM := Lib.hid hKM
 have HW0 := Lib.hid hw0
 have HBX := Lib.hid hb0
 have HKP := Lib.hid h.kept
 have HBB : Hid (∀ wx, WK KB w0 wx → (∀ g, g < B → KB g) ∧ PInB wx B p a) := Lib.hid (fun wx hx => ⟨fun g hg => hKB g (hB1 g hg), (hB2.below (hk0.below hB1)).below (hx.below (fun g hg => hKB g (hB1 g hg)))⟩)
 have c0 : w0.cell? ⟨w.heap.size, 0, none⟩ = some (.int .i64 12) := by have := hm0.cell 0; rw [show (pkC p a)[0]? = some (.int .i64 p.kind) from rfl, hkd] at this; exact this
 clear _hc hkd hB1 hB2
 clear hm0 hr0 hk0 hKB hKM hw0 hb0 h
 have HKK : Hid (WK KB w0 w0) := Lib.hid (WK.refl _ _)
 go_enter Tryz.func15, Tryz.ntmps15
 go_upto_region 1 with fail
 rw [← HW0.out]
 go_wp2_with fail
 refine (wNum_any R KB [] 12 w0 HR0.out (by simp) (by omega) (by omega)).mono ?_
 rintro e w1 ⟨rfl, hr, hk⟩
 have HM1 := Lib.hid (hk.mt HKM.out HM0.out)
 have HK1 := Lib.hid (HKK.out.trans hk)
 have HR1 := Lib.hid hr
 clear hr hk HM0 HKK HR0
 clear c0
 have c0 : w1.cell? ⟨w.heap.size, 0, none⟩ = some (.int .i64 12) := by have := HM1.out.cell 0; rw [show (pkC p a)[0]? = some (.int .i64 p.kind) from rfl, HKIND.out] at this; exact this
 go_wp2_with fail
 go_end0
 rw [HE.out]
 exact ⟨rfl, by have := HR1.out.sub HKB.out; simpa only [List.append_assoc, List.nil_append, List.append_nil] using this, HK0.out.trans (HK1.out.sub HKB.out)⟩

theorem wPk_13 (R : Nat) (K : Nat → Prop) (p : Pkt) (a : PA) (w : World) (h : WR w R K []) (hB : ∃ B, (∀ g, g < B → K g) ∧ PInB w B p a) (_hc : bodyR p = 0) (hkd : p.kind = 13) :
 Calls Tryz.prog 15 #[.pointer (some ⟨R, 0, none⟩), .agg (pkC p a).toArray] w (RetW R K (encPk p) w) := by
 have hmf := @hmfT Tryz.prog
 have HE : Hid (encPk p = enc 13 ++ ([])) := Lib.hid (by unfold encPk encBody; simp [hkd])
 have l0 := (enc_len 13).2
 have l1 := (enc_len p.id).2
 have l2 := (enc_len p.code).2
 have l3 := (enc_len (b2i p.dup)).2
 have l4 := (enc_len (b2i p.present)).2
 obtain ⟨B, hB1, hB2⟩ := hB
 have HKIND := Lib.hid hkd
 obtain ⟨w0, hw0⟩ : ∃ w0, w0 = w.alloc (.cells (pkC p a).toArray 38) := ⟨_, rfl⟩
 have hb0 : Below w.heap.size w w0 := by rw [hw0]; exact belA _ _
 have hm0 : MT 38 w0 w.heap.size (pkC p a) := by rw [hw0]; exact MT.new w _ _
 obtain ⟨KB, hKB, hKM, hr0, hk0⟩ := h.box hb0 (M := w.heap.size) ⟨Nat.le_refl _, hm0.lt⟩
 have HM0 := Lib.hid hm0
 have HR0 := Lib.hid hr0
 have HK0 := Lib.hid hk0
 have HKB := Lib.hid hKB
 have HKM := Lib.hid hKM
 have HW0 := Lib.hid hw0
 have HBX := Lib.hid hb0
 have HKP := Lib.hid h.kept
 have HBB : Hid (∀ wx, WK KB w0 wx → (∀ g, g < B → KB g) ∧ PInB wx B p a) := Lib.hid (fun wx hx => ⟨fun g hg => hKB g (hB1 g hg), (hB2.below (hk0.below hB1)).below (hx.below (fun g hg => hKB g (hB1 g hg)))⟩)
 have c0 : w0.cell? ⟨w.heap.size, 0, none⟩ = some (.int .i64 13) := by have := hm0.cell 0; rw [show (pkC p a)[0]? = some (.int .i64 p.kind) from rfl, hkd] at this; exact this
 clear _hc hkd hB1 hB2
 clear hm0 hr0 hk0 hKB hKM hw0 hb0 h
 have HKK : Hid (WK KB w0 w0) := Lib.hid (WK.refl _ _)
 go_enter Tryz.func15, Tryz.ntmps15
 go_upto_region 1 with fail
 rw [← HW0.out]
 go_wp2_with fail
 refine (wNum_any R KB [] 13 w0 HR0.out (by simp) (by omega) (by omega)).mono ?_
 rintro e w1 ⟨rfl, hr, hk⟩
 have HM1 := Lib.hid (hk.mt HKM.out HM0.out)
 have HK1 := Lib.hid (HKK.out.trans hk)
 have HR1 := Lib.hid hr
 clear hr hk HM0 HKK HR0
 clear c0
 have c0 : w1.cell? ⟨w.heap.size, 0, none⟩ = some (.int .i64 13) := by have := HM1.out.cell 0; rw [show (pkC p a)[0]? = some (.int .i64 p.kind) from rfl, HKIND.out] at this; exact this
 go_wp2_with fail
 go_end0
 rw [HE.out]
 exact ⟨rfl, by have := HR1.out.sub HKB.out; simpa only [List.append_assoc, List.nil_append, List.append_nil] using this, HK0.out.trans (HK1.out.sub HKB.out)⟩

theorem wPk_14 (R : Nat) (K : Nat → Prop) (p : Pkt) (a : PA) (w : World) (h : WR w R K []) (hB : ∃ B, (∀ g, g < B → K g) ∧ PInB w B p a) (hc : bodyR p = 0) (hkd : p.kind = 14) :
 Calls Tryz.prog 15 #[.pointer (some ⟨R, 0, none⟩), .agg (pkC p a).toArray] w (RetW R K (encPk p) w) := by
 have hmf := @hmfT Tryz.prog
 have HE : Hid (encPk p = enc 14 ++ (enc p.code)) := Lib.hid (by unfold encPk encBody; simp [hkd])
 have hq : codR p.code = 0 := by unfold bodyR at hc; simpa [hkd] using hc
 obtain ⟨b1, b2⟩ := codR_in hq
 clear hq
 have l0 := (enc_len 14).2
 have l1 := (enc_len p.id).2
 have l2 := (enc_len p.code).2
 have l3 := (enc_len (b2i p.dup)).2
 have l4 := (enc_len (b2i p.present)).2
 obtain ⟨B, hB1, hB2⟩ := hB
 have HKIND := Lib.hid hkd
 obtain ⟨w0, hw0⟩ : ∃ w0, w0 = w.alloc (.cells (pkC p a).toArray 38) := ⟨_, rfl⟩
 have hb0 : Below w.heap.size w w0 := by rw [hw0]; exact belA _ _
 have hm0 : MT 38 w0 w.heap.size (pkC p a) := by rw [hw0]; exact MT.new w _ _
 obtain ⟨KB, hKB, hKM, hr0, hk0⟩ := h.box hb0 (M := w.heap.size) ⟨Nat.le_refl _, hm0.lt⟩
 have HM0 := Lib.hid hm0
 have HR0 := Lib.hid hr0
 have HK0 := Lib.hid hk0
 have HKB := Lib.hid hKB
 have HKM := Lib.hid hKM
 have HW0 := Lib.hid hw0
 have HBX := Lib.hid hb0
 have HKP := Lib.hid h.kept
 have HBB : Hid (∀ wx, WK KB w0 wx → (∀ g, g < B → KB g) ∧ PInB wx B p a) := Lib.hid (fun wx hx => ⟨fun g hg => hKB g (hB1 g hg), (hB2.below (hk0.below hB1)).below (hx.below (fun g hg => hKB g (hB1 g hg)))⟩)
 have c0 : w0.cell? ⟨w.heap.size, 0, none⟩ = some (.int .i64 14) := by have := hm0.cell 0; rw [show (pkC p a)[0]? = some (.int .i64 p.kind) from rfl, hkd] at this; exact this
 clear hc hkd hB1 hB2
 clear hm0 hr0 hk0 hKB hKM hw0 hb0 h
 have HKK : Hid (WK KB w0 w0) := Lib.hid (WK.refl _ _)
 go_enter Tryz.func15, Tryz.ntmps15
 go_upto_region 1 with fail
 rw [← HW0.out]
 go_wp2_with fail
 refine (wNum_any R KB [] 14 w0 HR0.out (by simp) (by omega) (by omega)).mono ?_
 rintro e w1 ⟨rfl, hr, hk⟩
 have HM1 := Lib.hid (hk.mt HKM.out HM0.out)
 have HK1 := Lib.hid (HKK.out.trans hk)
 have HR1 := Lib.hid hr
 clear hr hk HM0 HKK HR0
 clear c0
 have c0 : w1.cell? ⟨w.heap.size, 0, none⟩ = some (.int .i64 14) := by have := HM1.out.cell 0; rw [show (pkC p a)[0]? = some (.int .i64 p.kind) from rfl, HKIND.out] at this; exact this
 have c30 : w1.cell? ⟨w.heap.size, 30, none⟩ = some (.int .i64 p.code) := HM1.out.cell 30
 go_wp2_with fail
 refine (wNum_any R KB ([] ++ enc 14) p.code w1 HR1.out (by simp only [List.length_append, List.length_nil]; omega) (by omega) (by omega)).mono ?_
 rintro e w2 ⟨rfl, hr, hk⟩
 clear c30
 have HM2 := Lib.hid (hk.mt HKM.out HM1.out)
 have HK2 := Lib.hid (HK1.out.trans hk)
 have HR2 := Lib.hid hr
 clear hr hk HM1 HK1 HR1
 go_wp2_with fail
 go_end0
 rw [HE.out]
 exact ⟨rfl, by have := HR2.out.sub HKB.out; simpa only [List.append_assoc, List.nil_append, List.append_nil] using this, HK0.out.trans (HK2.out.sub HKB.out)⟩

theorem wPk_any (R : Nat) (K : Nat → Prop) (p : Pkt) (a : PA) (w : World) (h : WR w R K []) (hB : ∃ B, (∀ g, g < B → K g) ∧ PInB w B p a) (hc : checkP p = 0) :
 Calls Tryz.prog 15 #[.pointer (some ⟨R, 0, none⟩), .agg (pkC p a).toArray] w (RetW R K (encPk p) w) := by
 have hk := checkP_kind hc
 have hb := checkP_body hc
 have hk : p.kind = 1 ∨ p.kind = 2 ∨ p.kind = 3 ∨ p.kind = 4 ∨ p.kind = 5 ∨ p.kind = 6 ∨ p.kind = 7 ∨ p.kind = 8 ∨ p.kind = 9 ∨ p.kind = 10 ∨ p.kind = 11 ∨ p.kind = 12 ∨ p.kind = 13 ∨ p.kind = 14 := by omega
 rcases hk with hk | hk | hk | hk | hk | hk | hk | hk | hk | hk | hk | hk | hk | hk
 · cases hws : p.wset with
   | false => exact wPk_1_false R K p a w h hB hb hk hws
   | true => exact wPk_1_true R K p a w h hB hb hk hws
 · exact wPk_2 R K p a w h hB hb hk
 · exact wPk_3 R K p a w h hB hb hk
 · exact wPk_4 R K p a w h hB hb hk
 · exact wPk_5 R K p a w h hB hb hk
 · exact wPk_6 R K p a w h hB hb hk
 · exact wPk_7 R K p a w h hB hb hk
 · exact wPk_8 R K p a w h hB hb hk
 · exact wPk_9 R K p a w h hB hb hk
 · exact wPk_10 R K p a w h hB hb hk
 · exact wPk_11 R K p a w h hB hb hk
 · exact wPk_12 R K p a w h hB hb hk
 · exact wPk_13 R K p a w h hB hb hk
 · exact wPk_14 R K p a w h hB hb hk

/-- the bytes and the error -/
def RetE (r : List UInt8 × Nat) (w : World) (e : Ending) (w' : World) : Prop := ∃ A c, e = .returned (.tuple #[.slice A r.1.length c, .int .i64 r.2]) ∧ CL bv w' w'.heap.size A r.1 ∧ r.1.length ≤ c ∧ Below w.heap.size w w'

theorem encode_any (p : Pkt) (a : PA) (w : World) (hw : S1.Okw w) (h : PIn w p a) (hz : PSz p) (ht : PTx p) :
 Calls Tryz.prog 7 #[pkV p a] w (RetE (encodeR p) w) := by
 have HC := Lib.hid (fun w h1 h2 => check6_any p a w h1 h2 hz ht)
 unfold pkV at HC ⊢
 obtain ⟨w0, hw0⟩ : ∃ w0, w0 = w.alloc (.cells (pkC p a).toArray 38) := ⟨_, rfl⟩
 have hb0 : Below w.heap.size w w0 := by rw [hw0]; exact belA _ _
 have hm0 : MT 38 w0 w.heap.size (pkC p a) := by rw [hw0]; exact MT.new w _ _
 have HM0 := Lib.hid hm0
 have HO0 := Lib.hid (hw.step hb0)
 have HP0 := Lib.hid (h.step hb0)
 have HB0 := Lib.hid hb0
 have HW0 := Lib.hid hw0
 unfold encodeR
 by_cases hc : checkP p = 0
 · rw [if_neg (by simpa using hc)]
   have HQ := Lib.hid hc
   rw [hc] at HC
   have HK := Lib.hid (fun R K w h hB => wPk_any R K p a w h hB HQ.out)
   clear hm0 hb0 hw0 hw h hz ht hc
   go_enter Tryz.func7, Tryz.ntmps7
   go_upto_region 1 with fail
   rw [← HW0.out]
   go_wp2_with (refine wpList_load_all (by rfl) 38 _ rfl w.heap.size rfl 38 (pkC p a).toArray (0, 0) _ HM0.out Tryz.underlying38 rfl info33 ?_)
   refine (HC.out w0 HO0.out HP0.out).mono ?_
   rintro e w1 ⟨rfl, hb⟩
   have HM1 := Lib.hid (MT.step HM0.out hb)
   have HP1 := Lib.hid (HP0.out.step hb)
   have HB1 := Lib.hid (stepB HB0.out hb)
   clear hb HM0 HP0 HB0 HC HO0 HW0
   go_upto_region 5 with fail
   obtain ⟨w2, hw2⟩ : ∃ w2, w2 = w1.alloc (.cells #[.slice none 0 0] 51) := ⟨_, rfl⟩
   have hb2 : Below w1.heap.size w1 w2 := by rw [hw2]; exact belA _ _
   have hr2 : WR w2 w1.heap.size (fun g => g < w1.heap.size) [] := ⟨.slice none 0 0, by rw [hw2]; exact heap_alloc_new _ _, Own.nil _ _, by omega, fun g hg => ⟨by rw [hw2]; simp; omega, by simp [Value.ownBlock]⟩⟩
   have HM2 := Lib.hid (MT.step HM1.out hb2)
   have HKW := Lib.hid (HK.out w1.heap.size (fun g => g < w1.heap.size) w2 hr2 ⟨w1.heap.size, fun g hg => hg, (PIn.at_ HP1.out).below hb2⟩)
   have HB2 := Lib.hid hb2
   rw [← hw2]
   clear hr2 hb2 hw2 HM1 HP1 HK
   go_wp2_with (refine wpList_load_all (by rfl) 38 _ rfl w.heap.size rfl 38 (pkC p a).toArray (0, 0) _ HM2.out Tryz.underlying38 rfl info33 ?_)
   refine HKW.out.mono ?_
   rintro e w3 ⟨rfl, hr, hk⟩
   obtain ⟨v, h1, h2, _, _⟩ := hr
   have k0 : w3.cell? ⟨w1.heap.size, 0, none⟩ = some v := cells_w h1
   obtain ⟨A, c, rfl, hc, hsl⟩ := h2.ret
   have HS := Lib.hid hsl
   have HCC := Lib.hid hc
   have HB3 : Hid (Below w.heap.size w w3) := Lib.hid (stepB HB1.out (HB2.out.trans (hk.below (fun g hg => hg))))
   clear h1 h2 hk hc hsl HKW HM2 HB1 HB2
   go_wp2_with fail
   go_ret2
   exact ⟨A, c, rfl, HS.out, HCC.out, HB3.out⟩
 · rw [if_pos (by simpa using hc)]
   have q : ((checkP p : Int) != 0) = true := by simp [hc]
   generalize checkP p = z at HC q ⊢
   clear hm0 hb0 hw0 hw h hz ht hc
   go_enter Tryz.func7, Tryz.ntmps7
   go_upto_region 1 with fail
   rw [← HW0.out]
   go_wp2_with (refine wpList_load_all (by rfl) 38 _ rfl w.heap.size rfl 38 (pkC p a).toArray (0, 0) _ HM0.out Tryz.underlying38 rfl info33 ?_)
   refine (HC.out w0 HO0.out HP0.out).mono ?_
   rintro e w1 ⟨rfl, hb⟩
   have HB1 := Lib.hid (stepB HB0.out hb)
   clear hb HM0 HP0 HB0 HC HO0 HW0
   go_wp2_with fail
   go_ret2
   exact ⟨none, 0, rfl, CL.nil _ _ _, Nat.le_refl _, HB1.out⟩

end Go.Proofs.YtdkegoaflabjoaaGreatDoor
