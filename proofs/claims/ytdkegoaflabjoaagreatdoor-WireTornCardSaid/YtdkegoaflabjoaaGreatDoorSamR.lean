/-
What SameWill and Same of the specification answer: whether two packets are one. Conditions: the packets read as data; lengths fit an int.
-/
import Derived.Test.YtdkegoaflabjoaaGreatDoorSamQ
import Derived.Test.YtdkegoaflabjoaaGreatDoorMbx2
import Derived.Test.YtdkegoaflabjoaaGreatDoorChkL
set_option maxHeartbeats 16000000
set_option maxRecDepth 50000
namespace Go.Proofs.YtdkegoaflabjoaaGreatDoor
open Go.RowKit

theorem bne_yes {α : Type} [BEq α] {a b : α} (h : (a == b) = true) : (a != b) = false := by simp [bne, h]
theorem bne_no {α : Type} [BEq α] {a b : α} (h : (a == b) = false) : (a != b) = true := by simp [bne, h]

theorem rSameWill_any (p q : Pkt) (a b : PA) (w : World) (ha : PL w w.heap.size a.v p.wmsg.props) (hb : PL w w.heap.size b.v q.wmsg.props) (hn : p.wmsg.props.length ≤ 9223372036854775806) :
 Calls Tryz.prog 19 #[wlV p a, wlV q b] w fun e w' => e = .returned (.bool ((p.wset == q.wset) && (p.wdelay == q.wdelay) && sameM p.wmsg q.wmsg)) ∧ Below w.heap.size w w' := by
 unfold wlV
 obtain ⟨w1, hw1⟩ : ∃ w1, w1 = (w.alloc (.cells (wlC p a).toArray 33)).alloc (.cells (wlC q b).toArray 33) := ⟨_, rfl⟩
 obtain ⟨b1, b2, b3⟩ := two hw1
 have C := rSame_any p.wmsg q.wmsg a.v b.v a.vc b.vc w1 (ha.step b1) (hb.step b1) hn
 generalize sameM p.wmsg q.wmsg = x at C ⊢
 have c0 : w1.cell? ⟨w.heap.size, 0, none⟩ = some (.bool p.wset) := b2.cell 0
 have c1 : w1.cell? ⟨w.heap.size, 1, none⟩ = some (.int .i64 p.wdelay) := b2.cell 1
 have d0 : w1.cell? ⟨w.heap.size + 1, 0, none⟩ = some (.bool q.wset) := b3.cell 0
 have d1 : w1.cell? ⟨w.heap.size + 1, 1, none⟩ = some (.int .i64 q.wdelay) := b3.cell 1
 have HB := Lib.hid b1
 have HM := Lib.hid b2
 have HN := Lib.hid b3
 have HC := Lib.hid C
 have HW := Lib.hid hw1
 clear b1 b2 b3 C ha hb hn hw1
 cases q0 : (p.wset == q.wset)
 case false =>
  go_enter Tryz.func19, Tryz.ntmps19
  go_upto_region 1 with fail
  rw [← HW.out]
  go_wp2_with fail
  go_ret
  exact ⟨retb (by simp), HB.out⟩
 cases q1 : (p.wdelay == q.wdelay)
 case false =>
  go_enter Tryz.func19, Tryz.ntmps19
  go_upto_region 1 with fail
  rw [← HW.out]
  go_wp2_with fail
  go_ret
  exact ⟨retb (by simp), HB.out⟩
 go_enter Tryz.func19, Tryz.ntmps19
 go_upto_region 1 with fail
 rw [← HW.out]
 go_wp2_with (first | (refine wpList_load_part (by rfl) 31 _ rfl (w.heap.size) 2 9 rfl 33 (wlC p a) (0, 0) _ HM.out Tryz.underlying31 rfl info26 (by show 2 + 9 ≤ 11; decide) ?_) | (refine wpList_load_part (by rfl) 31 _ rfl (w.heap.size + 1) 2 9 rfl 33 (wlC q b) (0, 0) _ HN.out Tryz.underlying31 rfl info26 (by show 2 + 9 ≤ 11; decide) ?_))
 refine HC.out.mono ?_
 rintro e w2 ⟨rfl, hb⟩
 have HB2 := Lib.hid (stepB HB.out hb)
 clear hb
 go_wp2_with fail
 go_ret
 exact ⟨retb (by simp), HB2.out⟩

theorem sameR_parts (p q : Pkt) : sameP p q = ((p.kind == q.kind) && (p.id == q.id) && (p.dup == q.dup) && sameM p.msg q.msg && (p.client.toList == q.client.toList) && (p.user.toList == q.user.toList) && (p.clean == q.clean) && (p.keep == q.keep) && (p.expiry == q.expiry) && (p.window == q.window) && ((p.wset == q.wset) && (p.wdelay == q.wdelay) && sameM p.wmsg q.wmsg) && (p.present == q.present) && (p.code == q.code) && decide (p.subs = q.subs) && decide (p.filters = q.filters) && decide (p.codes = q.codes)) := by
 rw [sameP_parts]
 unfold plainEq
 simp only [str_dec]
 rw [Bool.eq_iff_iff]
 simp only [Bool.and_eq_true, decide_eq_true_eq, beq_iff_eq]
 constructor <;> intro h <;> simp_all
theorem rSameP_any (p q : Pkt) (a b : PA) (w : World) (ha : PIn w p a) (hb : PIn w q b) (hz : PSz p) (hy : PSz q) :
 Calls Tryz.prog 9 #[pkV p a, pkV q b] w fun e w' => e = .returned (.bool (sameP p q)) ∧ Below w.heap.size w w' := by
 have C1 : Hid (∀ w, PIn w p a → PIn w q b → Calls Tryz.prog 18 #[msgV p.msg a.m a.mc, msgV q.msg b.m b.mc] w fun e w' => e = .returned (.bool (sameM p.msg q.msg)) ∧ Below w.heap.size w w') := Lib.hid (fun w h h' => rSame_any p.msg q.msg a.m b.m a.mc b.mc w h.m h'.m hz.m)
 have C2 : Hid (∀ w, PIn w p a → PIn w q b → Calls Tryz.prog 19 #[wlV p a, wlV q b] w fun e w' => e = .returned (.bool ((p.wset == q.wset) && (p.wdelay == q.wdelay) && sameM p.wmsg q.wmsg)) ∧ Below w.heap.size w w') := Lib.hid (fun w h h' => rSameWill_any p q a b w h.v h'.v hz.v)
 have C3 : Hid (∀ w, PIn w p a → PIn w q b → Calls Tryz.prog 20 #[.slice a.s p.subs.length a.sc, .slice b.s q.subs.length b.sc] w fun e w' => e = .returned (.bool (decide (p.subs = q.subs))) ∧ Below w.heap.size w w') := Lib.hid (fun w h h' => sameSubs_any a.s b.s a.sc b.sc p.subs q.subs w h.s h'.s hz.s)
 have C4 : Hid (∀ w, PIn w p a → PIn w q b → Calls Tryz.prog 21 #[.slice a.f p.filters.length a.fc, .slice b.f q.filters.length b.fc] w fun e w' => e = .returned (.bool (decide (p.filters = q.filters))) ∧ Below w.heap.size w w') := Lib.hid (fun w h h' => rSameT_any a.f b.f a.fc b.fc p.filters q.filters w h.f h'.f hz.f hy.f)
 have C5 : Hid (∀ w, PIn w p a → PIn w q b → Calls Tryz.prog 22 #[.slice a.c p.codes.length a.cc, .slice b.c q.codes.length b.cc] w fun e w' => e = .returned (.bool (decide (p.codes = q.codes))) ∧ Below w.heap.size w w') := Lib.hid (fun w h h' => sameNums_any a.c b.c a.cc b.cc p.codes q.codes w h.c h'.c hz.c)
 have HR := Lib.hid (sameR_parts p q)
 generalize sameP p q = r at HR ⊢
 generalize sameM p.msg q.msg = x1 at C1 HR
 generalize ((p.wset == q.wset) && (p.wdelay == q.wdelay) && sameM p.wmsg q.wmsg) = x2 at C2 HR
 generalize decide (p.subs = q.subs) = x3 at C3 HR
 generalize decide (p.filters = q.filters) = x4 at C4 HR
 generalize decide (p.codes = q.codes) = x5 at C5 HR
 unfold pkV wlV at *
 obtain ⟨w1, hw1⟩ : ∃ w1, w1 = (w.alloc (.cells (pkC p a).toArray 38)).alloc (.cells (pkC q b).toArray 38) := ⟨_, rfl⟩
 obtain ⟨b1, b2, b3⟩ := two hw1
 have HB1 := Lib.hid b1
 have HM1 := Lib.hid b2
 have HN1 := Lib.hid b3
 have HP := Lib.hid ha
 have HO := Lib.hid hb
 have hz1 : w.heap.size + 1 < w1.heap.size := b3.lt
 have hy1 : w.heap.size < w1.heap.size := b2.lt
 have c0 : w1.cell? ⟨w.heap.size, 0, none⟩ = some (.int .i64 p.kind) := b2.cell 0
 have d0 : w1.cell? ⟨w.heap.size + 1, 0, none⟩ = some (.int .i64 q.kind) := b3.cell 0
 have c1 : w1.cell? ⟨w.heap.size, 1, none⟩ = some (.int .i64 p.id) := b2.cell 1
 have d1 : w1.cell? ⟨w.heap.size + 1, 1, none⟩ = some (.int .i64 q.id) := b3.cell 1
 have c2 : w1.cell? ⟨w.heap.size, 2, none⟩ = some (.bool p.dup) := b2.cell 2
 have d2 : w1.cell? ⟨w.heap.size + 1, 2, none⟩ = some (.bool q.dup) := b3.cell 2
 have c12 : w1.cell? ⟨w.heap.size, 12, none⟩ = some (.string p.client) := b2.cell 12
 have d12 : w1.cell? ⟨w.heap.size + 1, 12, none⟩ = some (.string q.client) := b3.cell 12
 have c13 : w1.cell? ⟨w.heap.size, 13, none⟩ = some (.string p.user) := b2.cell 13
 have d13 : w1.cell? ⟨w.heap.size + 1, 13, none⟩ = some (.string q.user) := b3.cell 13
 have c14 : w1.cell? ⟨w.heap.size, 14, none⟩ = some (.bool p.clean) := b2.cell 14
 have d14 : w1.cell? ⟨w.heap.size + 1, 14, none⟩ = some (.bool q.clean) := b3.cell 14
 have c15 : w1.cell? ⟨w.heap.size, 15, none⟩ = some (.int .i64 p.keep) := b2.cell 15
 have d15 : w1.cell? ⟨w.heap.size + 1, 15, none⟩ = some (.int .i64 q.keep) := b3.cell 15
 have c16 : w1.cell? ⟨w.heap.size, 16, none⟩ = some (.int .i64 p.expiry) := b2.cell 16
 have d16 : w1.cell? ⟨w.heap.size + 1, 16, none⟩ = some (.int .i64 q.expiry) := b3.cell 16
 have c17 : w1.cell? ⟨w.heap.size, 17, none⟩ = some (.int .i64 p.window) := b2.cell 17
 have d17 : w1.cell? ⟨w.heap.size + 1, 17, none⟩ = some (.int .i64 q.window) := b3.cell 17
 have c29 : w1.cell? ⟨w.heap.size, 29, none⟩ = some (.bool p.present) := b2.cell 29
 have d29 : w1.cell? ⟨w.heap.size + 1, 29, none⟩ = some (.bool q.present) := b3.cell 29
 have c30 : w1.cell? ⟨w.heap.size, 30, none⟩ = some (.int .i64 p.code) := b2.cell 30
 have d30 : w1.cell? ⟨w.heap.size + 1, 30, none⟩ = some (.int .i64 q.code) := b3.cell 30
 have c31 : w1.cell? ⟨w.heap.size, 31, none⟩ = some (.slice a.s p.subs.length a.sc) := b2.cell 31
 have d31 : w1.cell? ⟨w.heap.size + 1, 31, none⟩ = some (.slice b.s q.subs.length b.sc) := b3.cell 31
 have c32 : w1.cell? ⟨w.heap.size, 32, none⟩ = some (.slice a.f p.filters.length a.fc) := b2.cell 32
 have d32 : w1.cell? ⟨w.heap.size + 1, 32, none⟩ = some (.slice b.f q.filters.length b.fc) := b3.cell 32
 have c33 : w1.cell? ⟨w.heap.size, 33, none⟩ = some (.slice a.c p.codes.length a.cc) := b2.cell 33
 have d33 : w1.cell? ⟨w.heap.size + 1, 33, none⟩ = some (.slice b.c q.codes.length b.cc) := b3.cell 33
 have HW := Lib.hid hw1
 clear b1 b2 b3 hw1 ha hb hz hy
 go_enter Tryz.func9, Tryz.ntmps9
 go_upto_region 1 with fail
 rw [← HW.out]
 cases q0 : (p.kind == q.kind)
 case false =>
  have q0n := bne_no q0
  replace HR : Hid (r = false) := Lib.hid (by rw [HR.out, q0]; simp)
  go_wp2_with fail
  go_ret
  exact ⟨retb HR.out.symm, HB1.out⟩
 have q0n := bne_yes q0
 cases q1 : (p.id == q.id)
 case false =>
  have q1n := bne_no q1
  replace HR : Hid (r = false) := Lib.hid (by rw [HR.out, q1]; simp)
  go_wp2_with fail
  go_ret
  exact ⟨retb HR.out.symm, HB1.out⟩
 have q1n := bne_yes q1
 cases q2 : (p.dup == q.dup)
 case false =>
  have q2n := bne_no q2
  replace HR : Hid (r = false) := Lib.hid (by rw [HR.out, q2]; simp)
  go_wp2_with fail
  go_ret
  exact ⟨retb HR.out.symm, HB1.out⟩
 have q2n := bne_yes q2
 cases x1
 case false =>
  replace HR : Hid (r = false) := Lib.hid (by rw [HR.out]; simp)
  go_wp2_with (first | (refine wpList_load_part (by rfl) 31 _ rfl (w.heap.size) 3 9 rfl 38 (pkC p a) (0, 0) _ HM1.out Tryz.underlying31 rfl info26 (by show 3 + 9 ≤ 34; decide) ?_) | (refine wpList_load_part (by rfl) 31 _ rfl (w.heap.size + 1) 3 9 rfl 38 (pkC q b) (0, 0) _ HN1.out Tryz.underlying31 rfl info26 (by show 3 + 9 ≤ 34; decide) ?_))
  refine (C1.out w1 (HP.out.step HB1.out) (HO.out.step HB1.out)).mono ?_
  rintro e w2 ⟨rfl, hb⟩
  obtain ⟨hc2, hf2⟩ := bcell hb
  have hz2 : w.heap.size + 1 < w2.heap.size := Nat.lt_of_lt_of_le hz1 hb.size
  have hy2 : w.heap.size < w2.heap.size := Nat.lt_of_lt_of_le hy1 hb.size
  have HM2 := Lib.hid (MT.step HM1.out hb)
  have HN2 := Lib.hid (MT.step HN1.out hb)
  have HB2 := Lib.hid (stepB HB1.out hb)
  clear hb
  go_wp2_with fail
  go_ret
  exact ⟨retb HR.out.symm, HB2.out⟩
 go_wp2_with (first | (refine wpList_load_part (by rfl) 31 _ rfl (w.heap.size) 3 9 rfl 38 (pkC p a) (0, 0) _ HM1.out Tryz.underlying31 rfl info26 (by show 3 + 9 ≤ 34; decide) ?_) | (refine wpList_load_part (by rfl) 31 _ rfl (w.heap.size + 1) 3 9 rfl 38 (pkC q b) (0, 0) _ HN1.out Tryz.underlying31 rfl info26 (by show 3 + 9 ≤ 34; decide) ?_))
 refine (C1.out w1 (HP.out.step HB1.out) (HO.out.step HB1.out)).mono ?_
 rintro e w2 ⟨rfl, hb⟩
 obtain ⟨hc2, hf2⟩ := bcell hb
 have hz2 : w.heap.size + 1 < w2.heap.size := Nat.lt_of_lt_of_le hz1 hb.size
 have hy2 : w.heap.size < w2.heap.size := Nat.lt_of_lt_of_le hy1 hb.size
 have HM2 := Lib.hid (MT.step HM1.out hb)
 have HN2 := Lib.hid (MT.step HN1.out hb)
 have HB2 := Lib.hid (stepB HB1.out hb)
 clear hb
 cases q4 : (p.client.toList == q.client.toList)
 case false =>
  have q4n := bne_no q4
  replace HR : Hid (r = false) := Lib.hid (by rw [HR.out, q4]; simp)
  go_wp2_with fail
  go_ret
  exact ⟨retb HR.out.symm, HB2.out⟩
 have q4n := bne_yes q4
 cases q5 : (p.user.toList == q.user.toList)
 case false =>
  have q5n := bne_no q5
  replace HR : Hid (r = false) := Lib.hid (by rw [HR.out, q5]; simp)
  go_wp2_with fail
  go_ret
  exact ⟨retb HR.out.symm, HB2.out⟩
 have q5n := bne_yes q5
 go_upto_region 3 with fail
 cases q6 : (p.clean == q.clean)
 case false =>
  have q6n := bne_no q6
  replace HR : Hid (r = false) := Lib.hid (by rw [HR.out, q6]; simp)
  go_wp2_with fail
  go_ret
  exact ⟨retb HR.out.symm, HB2.out⟩
 have q6n := bne_yes q6
 cases q7 : (p.keep == q.keep)
 case false =>
  have q7n := bne_no q7
  replace HR : Hid (r = false) := Lib.hid (by rw [HR.out, q7]; simp)
  go_wp2_with fail
  go_ret
  exact ⟨retb HR.out.symm, HB2.out⟩
 have q7n := bne_yes q7
 cases q8 : (p.expiry == q.expiry)
 case false =>
  have q8n := bne_no q8
  replace HR : Hid (r = false) := Lib.hid (by rw [HR.out, q8]; simp)
  go_wp2_with fail
  go_ret
  exact ⟨retb HR.out.symm, HB2.out⟩
 have q8n := bne_yes q8
 cases q9 : (p.window == q.window)
 case false =>
  have q9n := bne_no q9
  replace HR : Hid (r = false) := Lib.hid (by rw [HR.out, q9]; simp)
  go_wp2_with fail
  go_ret
  exact ⟨retb HR.out.symm, HB2.out⟩
 have q9n := bne_yes q9
 cases x2
 case false =>
  replace HR : Hid (r = false) := Lib.hid (by rw [HR.out]; simp)
  go_wp2_with (first | (refine wpList_load_part (by rfl) 33 _ rfl (w.heap.size) 18 11 rfl 38 (pkC p a) (0, 0) _ HM2.out Tryz.underlying33 rfl info28 (by show 18 + 11 ≤ 34; decide) ?_) | (refine wpList_load_part (by rfl) 33 _ rfl (w.heap.size + 1) 18 11 rfl 38 (pkC q b) (0, 0) _ HN2.out Tryz.underlying33 rfl info28 (by show 18 + 11 ≤ 34; decide) ?_))
  refine (C2.out w2 (HP.out.step HB2.out) (HO.out.step HB2.out)).mono ?_
  rintro e w3 ⟨rfl, hb⟩
  obtain ⟨hc3, hf3⟩ := bcell hb
  have hz3 : w.heap.size + 1 < w3.heap.size := Nat.lt_of_lt_of_le hz2 hb.size
  have hy3 : w.heap.size < w3.heap.size := Nat.lt_of_lt_of_le hy2 hb.size
  have HM3 := Lib.hid (MT.step HM2.out hb)
  have HN3 := Lib.hid (MT.step HN2.out hb)
  have HB3 := Lib.hid (stepB HB2.out hb)
  clear hb
  go_wp2_with fail
  go_ret
  exact ⟨retb HR.out.symm, HB3.out⟩
 go_wp2_with (first | (refine wpList_load_part (by rfl) 33 _ rfl (w.heap.size) 18 11 rfl 38 (pkC p a) (0, 0) _ HM2.out Tryz.underlying33 rfl info28 (by show 18 + 11 ≤ 34; decide) ?_) | (refine wpList_load_part (by rfl) 33 _ rfl (w.heap.size + 1) 18 11 rfl 38 (pkC q b) (0, 0) _ HN2.out Tryz.underlying33 rfl info28 (by show 18 + 11 ≤ 34; decide) ?_))
 refine (C2.out w2 (HP.out.step HB2.out) (HO.out.step HB2.out)).mono ?_
 rintro e w3 ⟨rfl, hb⟩
 obtain ⟨hc3, hf3⟩ := bcell hb
 have hz3 : w.heap.size + 1 < w3.heap.size := Nat.lt_of_lt_of_le hz2 hb.size
 have hy3 : w.heap.size < w3.heap.size := Nat.lt_of_lt_of_le hy2 hb.size
 have HM3 := Lib.hid (MT.step HM2.out hb)
 have HN3 := Lib.hid (MT.step HN2.out hb)
 have HB3 := Lib.hid (stepB HB2.out hb)
 clear hb
 go_upto_region 5 with fail
 cases q11 : (p.present == q.present)
 case false =>
  have q11n := bne_no q11
  replace HR : Hid (r = false) := Lib.hid (by rw [HR.out, q11]; simp)
  go_wp2_with fail
  go_ret
  exact ⟨retb HR.out.symm, HB3.out⟩
 have q11n := bne_yes q11
 cases q12 : (p.code == q.code)
 case false =>
  have q12n := bne_no q12
  replace HR : Hid (r = false) := Lib.hid (by rw [HR.out, q12]; simp)
  go_wp2_with fail
  go_ret
  exact ⟨retb HR.out.symm, HB3.out⟩
 have q12n := bne_yes q12
 cases x3
 case false =>
  replace HR : Hid (r = false) := Lib.hid (by rw [HR.out]; simp)
  go_wp2_with fail
  refine (C3.out w3 (HP.out.step HB3.out) (HO.out.step HB3.out)).mono ?_
  rintro e w4 ⟨rfl, hb⟩
  obtain ⟨hc4, hf4⟩ := bcell hb
  have hz4 : w.heap.size + 1 < w4.heap.size := Nat.lt_of_lt_of_le hz3 hb.size
  have hy4 : w.heap.size < w4.heap.size := Nat.lt_of_lt_of_le hy3 hb.size
  have HM4 := Lib.hid (MT.step HM3.out hb)
  have HN4 := Lib.hid (MT.step HN3.out hb)
  have HB4 := Lib.hid (stepB HB3.out hb)
  clear hb
  go_wp2_with fail
  go_ret
  exact ⟨retb HR.out.symm, HB4.out⟩
 go_wp2_with fail
 refine (C3.out w3 (HP.out.step HB3.out) (HO.out.step HB3.out)).mono ?_
 rintro e w4 ⟨rfl, hb⟩
 obtain ⟨hc4, hf4⟩ := bcell hb
 have hz4 : w.heap.size + 1 < w4.heap.size := Nat.lt_of_lt_of_le hz3 hb.size
 have hy4 : w.heap.size < w4.heap.size := Nat.lt_of_lt_of_le hy3 hb.size
 have HM4 := Lib.hid (MT.step HM3.out hb)
 have HN4 := Lib.hid (MT.step HN3.out hb)
 have HB4 := Lib.hid (stepB HB3.out hb)
 clear hb
 cases x4
 case false =>
  replace HR : Hid (r = false) := Lib.hid (by rw [HR.out]; simp)
  go_wp2_with fail
  refine (C4.out w4 (HP.out.step HB4.out) (HO.out.step HB4.out)).mono ?_
  rintro e w5 ⟨rfl, hb⟩
  obtain ⟨hc5, hf5⟩ := bcell hb
  have hz5 : w.heap.size + 1 < w5.heap.size := Nat.lt_of_lt_of_le hz4 hb.size
  have hy5 : w.heap.size < w5.heap.size := Nat.lt_of_lt_of_le hy4 hb.size
  have HM5 := Lib.hid (MT.step HM4.out hb)
  have HN5 := Lib.hid (MT.step HN4.out hb)
  have HB5 := Lib.hid (stepB HB4.out hb)
  clear hb
  go_wp2_with fail
  go_ret
  exact ⟨retb HR.out.symm, HB5.out⟩
 go_wp2_with fail
 refine (C4.out w4 (HP.out.step HB4.out) (HO.out.step HB4.out)).mono ?_
 rintro e w5 ⟨rfl, hb⟩
 obtain ⟨hc5, hf5⟩ := bcell hb
 have hz5 : w.heap.size + 1 < w5.heap.size := Nat.lt_of_lt_of_le hz4 hb.size
 have hy5 : w.heap.size < w5.heap.size := Nat.lt_of_lt_of_le hy4 hb.size
 have HM5 := Lib.hid (MT.step HM4.out hb)
 have HN5 := Lib.hid (MT.step HN4.out hb)
 have HB5 := Lib.hid (stepB HB4.out hb)
 clear hb
 go_wp2_with fail
 refine (C5.out w5 (HP.out.step HB5.out) (HO.out.step HB5.out)).mono ?_
 rintro e w6 ⟨rfl, hb⟩
 obtain ⟨hc6, hf6⟩ := bcell hb
 have hz6 : w.heap.size + 1 < w6.heap.size := Nat.lt_of_lt_of_le hz5 hb.size
 have hy6 : w.heap.size < w6.heap.size := Nat.lt_of_lt_of_le hy5 hb.size
 have HM6 := Lib.hid (MT.step HM5.out hb)
 have HN6 := Lib.hid (MT.step HN5.out hb)
 have HB6 := Lib.hid (stepB HB5.out hb)
 clear hb
 go_wp2_with fail
 go_ret
 exact ⟨retb (by rw [HR.out, q0, q1, q2, q4, q5, q6, q7, q8, q9, q11, q12]; simp), HB6.out⟩

end Go.Proofs.YtdkegoaflabjoaaGreatDoor
