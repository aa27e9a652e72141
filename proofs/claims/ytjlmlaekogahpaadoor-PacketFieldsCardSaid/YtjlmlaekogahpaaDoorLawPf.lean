/-
  PacketFields answers true, walked. Conditions: the tables of package unicode/utf8 are there; the packet reads as data.
-/
import Derived.Test.YtjlmlaekogahpaaDoorLawPs
namespace Go.Proofs.YtjlmlaekogahpaaDoor
open Go.RowKit

def setW (p : Pkt) : Pkt := { p with window := 1 }
def setC (p : Pkt) : Pkt := { p with codes := [0] }
def setF (p : Pkt) : Pkt := { p with present := true }
def setA (a : PA) (B : Nat) : PA := { a with c := some ⟨B, 0, none⟩, cc := 1 }
theorem il_one {w : World} {B : Nat} (h : MT 3 w B [.int .i64 0]) : IL w w.heap.size (some ⟨B, 0, none⟩) [0] := fun _ => ⟨B, 0, rfl, h.lt, fun j x hx => by
  cases j with
  | zero => simp at hx; subst hx; exact h.cell 0
  | succ j => simp at hx⟩
theorem cells_W (p : Pkt) (a : PA) : putC (pkC p a) 17 [.int .i64 1] = pkC (setW p) a := rfl
theorem cells_C (p : Pkt) (a : PA) (B : Nat) : putC (pkC p a) 33 [.slice (some ⟨B, 0, none⟩) 1 1] = pkC (setC p) (setA a B) := rfl
theorem cells_F (p : Pkt) (a : PA) : putC (pkC p a) 29 [.bool true] = pkC (setF p) a := rfl
theorem sz1 : ∀ (t : TypeId), t ∈ [3, 4, 31] → (Tryd.prog.info? t).map (·.size) = some 1 := by
  intro t ht
  simp only [List.mem_cons, List.not_mem_nil, or_false] at ht
  rcases ht with rfl | rfl | rfl <;> kernel_rfl
set_option maxRecDepth 50000 in
set_option maxHeartbeats 16000000 in
theorem fields_1 (p : Pkt) (a : PA) (w : World) (hw : S1.Okw w) (hp : PIn w p a) (hk : p.kind = 1) (hc : checkP p = 0) :
    Calls Tryd.prog 6 #[pkV p a] w fun e w' => e = .returned (.bool true) ∧ Below w.heap.size w w' := by
  have HA : Hid (∀ w, PIn w p a → Calls Tryd.prog 13 #[pkV p a] w (SomeB (SmallP p) w)) := Lib.hid (fun w h => small6_any p a w h)
  have C4 : Hid (SmallP p → ∀ w, S1.Okw w → PIn w p a → Calls Tryd.prog 18 #[pkV p a] w fun e w' => e = .returned (.int .i64 (checkP p)) ∧ Below w.heap.size w w') := Lib.hid (fun s w h1 h2 => check6_any p a w h1 h2 s.sz s.tx)
  have CC : Hid (SmallP p → ∀ B w, S1.Okw w → PIn w p a → MT 3 w B [.int .i64 0] → Calls Tryd.prog 18 #[pkV (setC p) (setA a B)] w fun e w' => e = .returned (.int .i64 28) ∧ Below w.heap.size w w') := Lib.hid (fun s B w h1 h2 h3 => by
    have := check6_any (setC p) (setA a B) w h1 ⟨h2.m, h2.v, h2.s, h2.f, il_one h3⟩ ⟨s.sz.m, s.sz.v, s.sz.s, s.sz.f, by show 1 ≤ 9223372036854775806; decide⟩ ⟨s.tx.s, s.tx.f⟩
    rw [show checkP (setC p) = 28 from field_codes hc (by omega)] at this; exact this)
  have CF : Hid (SmallP p → ∀ w, S1.Okw w → PIn w p a → Calls Tryd.prog 18 #[pkV (setF p) a] w fun e w' => e = .returned (.int .i64 28) ∧ Below w.heap.size w w') := Lib.hid (fun s w h1 h2 => by
    have := check6_any (setF p) a w h1 ⟨h2.m, h2.v, h2.s, h2.f, h2.c⟩ ⟨s.sz.m, s.sz.v, s.sz.s, s.sz.f, s.sz.c⟩ ⟨s.tx.s, s.tx.f⟩
    rw [show checkP (setF p) = 28 from field_present hc (by omega)] at this; exact this)
  rw [hc] at C4
  have e1 : (p.kind != 1) = false := by rw [show p.kind = 1 by omega]; rfl
  have e2 : (p.kind != 2) = true := by simp; omega
  have e9 : (p.kind != 9) = true := by simp; omega
  have e11 : (p.kind != 11) = true := by simp; omega
  clear hk hc
  unfold pkV at *
  obtain ⟨w1, hw1⟩ : ∃ w1, w1 = w.alloc (.cells (pkC p a).toArray 33) := ⟨_, rfl⟩
  have hb1 : Below w.heap.size w w1 := by rw [hw1]; exact (Below.refl _ _).alloc (Nat.le_refl _) _
  have hm1 : MT 33 w1 w.heap.size (pkC p a) := by rw [hw1]; exact MT.new w _ _
  have c0 : w1.cell? ⟨w.heap.size, 0, none⟩ = some (.int .i64 p.kind) := hm1.cell 0
  have HB1 := Lib.hid hb1
  have HM1 := Lib.hid hm1
  have HW1 := Lib.hid hw1
  have HO := Lib.hid hw
  have HP := Lib.hid hp
  clear hw hp hb1 hm1 hw1
  go_enter Tryd.func6, Tryd.ntmps6
  go_upto_region 1 with fail
  rw [← HW1.out]
  go_wp2_with (refine wpList_load_all (by rfl) 33 (.tmp 1) rfl (w.heap.size) rfl 33 _ (0, 0) _ HM1.out Tryd.underlying33 rfl info33 ?_)
  refine (HA.out w1 (HP.out.step HB1.out)).mono ?_
  rintro e w2 ⟨s, rfl, hs, hb⟩
  have HB2 : Hid (Below w.heap.size w w2) := Lib.hid (stepB HB1.out hb)
  have HM2 := Lib.hid (MT.step HM1.out hb)
  clear hb
  have HS := Lib.hid hs
  clear hs
  cases s with
  | false =>
    go_wp2_with fail
    refine (awake6_any w2 (HO.out.step HB2.out)).mono ?_
    rintro e we ⟨rfl, hb⟩
    have HBe := Lib.hid (stepB HB2.out hb)
    clear hb
    go_wp2_with fail
    go_ret
    exact ⟨rfl, HBe.out⟩
  | true =>
    have HSm : Hid (SmallP p) := Lib.hid (HS.out rfl)
    clear HS
    go_wp2_with (refine wpList_load_all (by rfl) 33 (.tmp 1) rfl (w.heap.size) rfl 33 _ (0, 0) _ HM2.out Tryd.underlying33 rfl info33 ?_)
    refine (C4.out HSm.out w2 (HO.out.step HB2.out) (HP.out.step HB2.out)).mono ?_
    rintro e w3 ⟨rfl, hb⟩
    have HB3 : Hid (Below w.heap.size w w3) := Lib.hid (stepB HB2.out hb)
    have HM3 := Lib.hid (MT.step HM2.out hb)
    clear hb
    have hne : w.heap.size ≠ w3.heap.size := Nat.ne_of_lt HM3.out.lt
    have HNE := Lib.hid hne
    clear hne
    go_upto_region 4 with (first | (refine wpList_load_all (by rfl) 33 (.tmp 1) rfl (w.heap.size) rfl 33 _ (0, 0) _ HM3.out Tryd.underlying33 rfl info33 ?_) | (refine wpList_store_blk (by rfl) 33 (.tmp 3) (.tmp 13) rfl rfl (w3.heap.size) 0 34 rfl (.agg (pkC p a).toArray) rfl 33 (pkC Pkt.zero PA.zero) (pkC p a) (zero_new w3) rfl rfl info33 (by rw [pkC_len]; decide) (all_one rfl) ?_; rintro w4 hM hoth hbel; have HM4 : Hid (MT 33 w4 w.heap.size (pkC p a)) := Lib.hid (hoth _ _ _ HNE.out (HM3.out.alloc _)); have HB4 : Hid (Below w.heap.size w w4) := Lib.hid (hbel _ _ HB3.out.size (HB3.out.alloc HB3.out.size _)); have HQ4 : Hid (MT 33 w4 (w3.heap.size) (pkC p a)) := Lib.hid (by rw [putC_whole (pkC Pkt.zero PA.zero) (pkC p a) rfl] at hM; exact hM); clear hM hoth hbel))
    have d0 : w4.cell? ⟨w.heap.size, 0, none⟩ = some (.int .i64 p.kind) := HM4.out.cell 0
    go_upto_region 9 with (first | (refine wpList_load_all (by rfl) 33 (.tmp 1) rfl (w.heap.size) rfl 33 _ (0, 0) _ HM4.out Tryd.underlying33 rfl info33 ?_) | (refine wpList_store_blk (by rfl) 33 (.tmp 3) (.tmp 21) rfl rfl (w3.heap.size) 0 34 rfl (.agg (pkC p a).toArray) rfl 33 (pkC p a) (pkC p a) (HQ4.out) rfl rfl info33 (by rw [pkC_len]; decide) (all_one rfl) ?_; rintro w5 hM hoth hbel; have HM5 : Hid (MT 33 w5 w.heap.size (pkC p a)) := Lib.hid (hoth _ _ _ HNE.out HM4.out); have HB5 : Hid (Below w.heap.size w w5) := Lib.hid (hbel _ _ HB3.out.size HB4.out); have HQ5 : Hid (MT 33 w5 (w3.heap.size) (pkC p a)) := Lib.hid (by rw [putC_whole (pkC p a) (pkC p a) rfl] at hM; exact hM); clear hM hoth hbel))
    have f5 : w5.cell? ⟨w.heap.size, 0, none⟩ = some (.int .i64 p.kind) := HM5.out.cell 0
    go_upto_region 11 with (refine wpList_store_blk (by rfl) 31 (.tmp 31) (.tmp 30) rfl rfl (w3.heap.size) 33 1 rfl (.slice (some ⟨w5.heap.size, 0, none⟩) 1 1) rfl 33 (pkC p a) ([.slice (some ⟨w5.heap.size, 0, none⟩) 1 1]) (HQ5.out.alloc _) rfl rfl (sz1 _ (by simp)) (by rw [pkC_len]; decide) (all_one rfl) ?_; rintro w6 hM hoth hbel; have HM6 : Hid (MT 33 w6 w.heap.size (pkC p a)) := Lib.hid (hoth _ _ _ HNE.out (HM5.out.alloc _)); have HB6 : Hid (Below w.heap.size w w6) := Lib.hid (hbel _ _ HB3.out.size (HB5.out.alloc HB5.out.size _)); have HI6 : Hid (MT 3 w6 (w5.heap.size) [.int .i64 0]) := Lib.hid (hoth _ _ _ (Nat.ne_of_gt HQ5.out.lt) (MT.new w5 _ [.int .i64 0])); have HQ6 : Hid (MT 33 w6 (w3.heap.size) (pkC (setC p) (setA a (w5.heap.size)))) := Lib.hid (by rw [cells_C] at hM; exact hM); clear hM hoth hbel)
    go_wp2_with (refine wpList_load_all (by rfl) 33 (.tmp 3) rfl (w3.heap.size) rfl 33 _ (0, 0) _ HQ6.out Tryd.underlying33 rfl info33 ?_)
    refine (CC.out HSm.out (w5.heap.size) w6 (HO.out.step HB6.out) (HP.out.step HB6.out) HI6.out).mono ?_
    rintro e w7 ⟨rfl, hb⟩
    have HB7 : Hid (Below w.heap.size w w7) := Lib.hid (stepB HB6.out hb)
    have HM7 := Lib.hid (MT.step HM6.out hb)
    have HQ7 := Lib.hid (MT.step HQ6.out hb)
    clear hb
    go_upto_region 14 with (first | (refine wpList_load_all (by rfl) 33 (.tmp 1) rfl (w.heap.size) rfl 33 _ (0, 0) _ HM7.out Tryd.underlying33 rfl info33 ?_) | (refine wpList_store_blk (by rfl) 33 (.tmp 3) (.tmp 35) rfl rfl (w3.heap.size) 0 34 rfl (.agg (pkC p a).toArray) rfl 33 (pkC (setC p) (setA a (w5.heap.size))) (pkC p a) (HQ7.out) rfl rfl info33 (by rw [pkC_len]; decide) (all_one rfl) ?_; rintro w8 hM hoth hbel; have HM8 : Hid (MT 33 w8 w.heap.size (pkC p a)) := Lib.hid (hoth _ _ _ HNE.out HM7.out); have HB8 : Hid (Below w.heap.size w w8) := Lib.hid (hbel _ _ HB3.out.size HB7.out); have HQ8 : Hid (MT 33 w8 (w3.heap.size) (pkC p a)) := Lib.hid (by rw [putC_whole (pkC (setC p) (setA a (w5.heap.size))) (pkC p a) rfl] at hM; exact hM); clear hM hoth hbel))
    have f8 : w8.cell? ⟨w.heap.size, 0, none⟩ = some (.int .i64 p.kind) := HM8.out.cell 0
    go_upto_region 16 with (refine wpList_store_blk (by rfl) 4 (.tmp 39) (.const (.bool true)) rfl rfl (w3.heap.size) 29 1 rfl (.bool true) rfl 33 (pkC p a) ([.bool true]) (HQ8.out) rfl rfl (sz1 _ (by simp)) (by rw [pkC_len]; decide) (all_one rfl) ?_; rintro w9 hM hoth hbel; have HM9 : Hid (MT 33 w9 w.heap.size (pkC p a)) := Lib.hid (hoth _ _ _ HNE.out HM8.out); have HB9 : Hid (Below w.heap.size w w9) := Lib.hid (hbel _ _ HB3.out.size HB8.out); have HQ9 : Hid (MT 33 w9 (w3.heap.size) (pkC (setF p) a)) := Lib.hid (by rw [cells_F] at hM; exact hM); clear hM hoth hbel)
    go_wp2_with (refine wpList_load_all (by rfl) 33 (.tmp 3) rfl (w3.heap.size) rfl 33 _ (0, 0) _ HQ9.out Tryd.underlying33 rfl info33 ?_)
    refine (CF.out HSm.out w9 (HO.out.step HB9.out) (HP.out.step HB9.out)).mono ?_
    rintro e w10 ⟨rfl, hb⟩
    have HB10 : Hid (Below w.heap.size w w10) := Lib.hid (stepB HB9.out hb)
    have HM10 := Lib.hid (MT.step HM9.out hb)
    have HQ10 := Lib.hid (MT.step HQ9.out hb)
    clear hb
    go_wp2_with fail
    refine (awake6_any w10 (HO.out.step HB10.out)).mono ?_
    rintro e we ⟨rfl, hb⟩
    have HBe := Lib.hid (stepB HB10.out hb)
    clear hb
    go_wp2_with fail
    go_ret
    exact ⟨rfl, HBe.out⟩
set_option maxRecDepth 50000 in
set_option maxHeartbeats 16000000 in
theorem fields_2 (p : Pkt) (a : PA) (w : World) (hw : S1.Okw w) (hp : PIn w p a) (hk : p.kind = 2) (hc : checkP p = 0) :
    Calls Tryd.prog 6 #[pkV p a] w fun e w' => e = .returned (.bool true) ∧ Below w.heap.size w w' := by
  have HA : Hid (∀ w, PIn w p a → Calls Tryd.prog 13 #[pkV p a] w (SomeB (SmallP p) w)) := Lib.hid (fun w h => small6_any p a w h)
  have C4 : Hid (SmallP p → ∀ w, S1.Okw w → PIn w p a → Calls Tryd.prog 18 #[pkV p a] w fun e w' => e = .returned (.int .i64 (checkP p)) ∧ Below w.heap.size w w') := Lib.hid (fun s w h1 h2 => check6_any p a w h1 h2 s.sz s.tx)
  have CW : Hid (SmallP p → ∀ w, S1.Okw w → PIn w p a → Calls Tryd.prog 18 #[pkV (setW p) a] w fun e w' => e = .returned (.int .i64 28) ∧ Below w.heap.size w w') := Lib.hid (fun s w h1 h2 => by
    have := check6_any (setW p) a w h1 ⟨h2.m, h2.v, h2.s, h2.f, h2.c⟩ ⟨s.sz.m, s.sz.v, s.sz.s, s.sz.f, s.sz.c⟩ ⟨s.tx.s, s.tx.f⟩
    rw [show checkP (setW p) = 28 from field_window hc (by omega)] at this; exact this)
  have CC : Hid (SmallP p → ∀ B w, S1.Okw w → PIn w p a → MT 3 w B [.int .i64 0] → Calls Tryd.prog 18 #[pkV (setC p) (setA a B)] w fun e w' => e = .returned (.int .i64 28) ∧ Below w.heap.size w w') := Lib.hid (fun s B w h1 h2 h3 => by
    have := check6_any (setC p) (setA a B) w h1 ⟨h2.m, h2.v, h2.s, h2.f, il_one h3⟩ ⟨s.sz.m, s.sz.v, s.sz.s, s.sz.f, by show 1 ≤ 9223372036854775806; decide⟩ ⟨s.tx.s, s.tx.f⟩
    rw [show checkP (setC p) = 28 from field_codes hc (by omega)] at this; exact this)
  rw [hc] at C4
  have e1 : (p.kind != 1) = true := by simp; omega
  have e2 : (p.kind != 2) = false := by rw [show p.kind = 2 by omega]; rfl
  have e9 : (p.kind != 9) = true := by simp; omega
  have e11 : (p.kind != 11) = true := by simp; omega
  clear hk hc
  unfold pkV at *
  obtain ⟨w1, hw1⟩ : ∃ w1, w1 = w.alloc (.cells (pkC p a).toArray 33) := ⟨_, rfl⟩
  have hb1 : Below w.heap.size w w1 := by rw [hw1]; exact (Below.refl _ _).alloc (Nat.le_refl _) _
  have hm1 : MT 33 w1 w.heap.size (pkC p a) := by rw [hw1]; exact MT.new w _ _
  have c0 : w1.cell? ⟨w.heap.size, 0, none⟩ = some (.int .i64 p.kind) := hm1.cell 0
  have HB1 := Lib.hid hb1
  have HM1 := Lib.hid hm1
  have HW1 := Lib.hid hw1
  have HO := Lib.hid hw
  have HP := Lib.hid hp
  clear hw hp hb1 hm1 hw1
  go_enter Tryd.func6, Tryd.ntmps6
  go_upto_region 1 with fail
  rw [← HW1.out]
  go_wp2_with (refine wpList_load_all (by rfl) 33 (.tmp 1) rfl (w.heap.size) rfl 33 _ (0, 0) _ HM1.out Tryd.underlying33 rfl info33 ?_)
  refine (HA.out w1 (HP.out.step HB1.out)).mono ?_
  rintro e w2 ⟨s, rfl, hs, hb⟩
  have HB2 : Hid (Below w.heap.size w w2) := Lib.hid (stepB HB1.out hb)
  have HM2 := Lib.hid (MT.step HM1.out hb)
  clear hb
  have HS := Lib.hid hs
  clear hs
  cases s with
  | false =>
    go_wp2_with fail
    refine (awake6_any w2 (HO.out.step HB2.out)).mono ?_
    rintro e we ⟨rfl, hb⟩
    have HBe := Lib.hid (stepB HB2.out hb)
    clear hb
    go_wp2_with fail
    go_ret
    exact ⟨rfl, HBe.out⟩
  | true =>
    have HSm : Hid (SmallP p) := Lib.hid (HS.out rfl)
    clear HS
    go_wp2_with (refine wpList_load_all (by rfl) 33 (.tmp 1) rfl (w.heap.size) rfl 33 _ (0, 0) _ HM2.out Tryd.underlying33 rfl info33 ?_)
    refine (C4.out HSm.out w2 (HO.out.step HB2.out) (HP.out.step HB2.out)).mono ?_
    rintro e w3 ⟨rfl, hb⟩
    have HB3 : Hid (Below w.heap.size w w3) := Lib.hid (stepB HB2.out hb)
    have HM3 := Lib.hid (MT.step HM2.out hb)
    clear hb
    have hne : w.heap.size ≠ w3.heap.size := Nat.ne_of_lt HM3.out.lt
    have HNE := Lib.hid hne
    clear hne
    go_upto_region 4 with (first | (refine wpList_load_all (by rfl) 33 (.tmp 1) rfl (w.heap.size) rfl 33 _ (0, 0) _ HM3.out Tryd.underlying33 rfl info33 ?_) | (refine wpList_store_blk (by rfl) 33 (.tmp 3) (.tmp 13) rfl rfl (w3.heap.size) 0 34 rfl (.agg (pkC p a).toArray) rfl 33 (pkC Pkt.zero PA.zero) (pkC p a) (zero_new w3) rfl rfl info33 (by rw [pkC_len]; decide) (all_one rfl) ?_; rintro w4 hM hoth hbel; have HM4 : Hid (MT 33 w4 w.heap.size (pkC p a)) := Lib.hid (hoth _ _ _ HNE.out (HM3.out.alloc _)); have HB4 : Hid (Below w.heap.size w w4) := Lib.hid (hbel _ _ HB3.out.size (HB3.out.alloc HB3.out.size _)); have HQ4 : Hid (MT 33 w4 (w3.heap.size) (pkC p a)) := Lib.hid (by rw [putC_whole (pkC Pkt.zero PA.zero) (pkC p a) rfl] at hM; exact hM); clear hM hoth hbel))
    have d0 : w4.cell? ⟨w.heap.size, 0, none⟩ = some (.int .i64 p.kind) := HM4.out.cell 0
    go_upto_region 6 with (refine wpList_store_blk (by rfl) 3 (.tmp 17) (.const (.int .i64 1)) rfl rfl (w3.heap.size) 17 1 rfl (.int .i64 1) rfl 33 (pkC p a) ([.int .i64 1]) (HQ4.out) rfl rfl (sz1 _ (by simp)) (by rw [pkC_len]; decide) (all_one rfl) ?_; rintro w5 hM hoth hbel; have HM5 : Hid (MT 33 w5 w.heap.size (pkC p a)) := Lib.hid (hoth _ _ _ HNE.out HM4.out); have HB5 : Hid (Below w.heap.size w w5) := Lib.hid (hbel _ _ HB3.out.size HB4.out); have HQ5 : Hid (MT 33 w5 (w3.heap.size) (pkC (setW p) a)) := Lib.hid (by rw [cells_W] at hM; exact hM); clear hM hoth hbel)
    go_wp2_with (refine wpList_load_all (by rfl) 33 (.tmp 3) rfl (w3.heap.size) rfl 33 _ (0, 0) _ HQ5.out Tryd.underlying33 rfl info33 ?_)
    refine (CW.out HSm.out w5 (HO.out.step HB5.out) (HP.out.step HB5.out)).mono ?_
    rintro e w6 ⟨rfl, hb⟩
    have HB6 : Hid (Below w.heap.size w w6) := Lib.hid (stepB HB5.out hb)
    have HM6 := Lib.hid (MT.step HM5.out hb)
    have HQ6 := Lib.hid (MT.step HQ5.out hb)
    clear hb
    go_upto_region 9 with (first | (refine wpList_load_all (by rfl) 33 (.tmp 1) rfl (w.heap.size) rfl 33 _ (0, 0) _ HM6.out Tryd.underlying33 rfl info33 ?_) | (refine wpList_store_blk (by rfl) 33 (.tmp 3) (.tmp 21) rfl rfl (w3.heap.size) 0 34 rfl (.agg (pkC p a).toArray) rfl 33 (pkC (setW p) a) (pkC p a) (HQ6.out) rfl rfl info33 (by rw [pkC_len]; decide) (all_one rfl) ?_; rintro w7 hM hoth hbel; have HM7 : Hid (MT 33 w7 w.heap.size (pkC p a)) := Lib.hid (hoth _ _ _ HNE.out HM6.out); have HB7 : Hid (Below w.heap.size w w7) := Lib.hid (hbel _ _ HB3.out.size HB6.out); have HQ7 : Hid (MT 33 w7 (w3.heap.size) (pkC p a)) := Lib.hid (by rw [putC_whole (pkC (setW p) a) (pkC p a) rfl] at hM; exact hM); clear hM hoth hbel))
    have f7 : w7.cell? ⟨w.heap.size, 0, none⟩ = some (.int .i64 p.kind) := HM7.out.cell 0
    go_upto_region 11 with (refine wpList_store_blk (by rfl) 31 (.tmp 31) (.tmp 30) rfl rfl (w3.heap.size) 33 1 rfl (.slice (some ⟨w7.heap.size, 0, none⟩) 1 1) rfl 33 (pkC p a) ([.slice (some ⟨w7.heap.size, 0, none⟩) 1 1]) (HQ7.out.alloc _) rfl rfl (sz1 _ (by simp)) (by rw [pkC_len]; decide) (all_one rfl) ?_; rintro w8 hM hoth hbel; have HM8 : Hid (MT 33 w8 w.heap.size (pkC p a)) := Lib.hid (hoth _ _ _ HNE.out (HM7.out.alloc _)); have HB8 : Hid (Below w.heap.size w w8) := Lib.hid (hbel _ _ HB3.out.size (HB7.out.alloc HB7.out.size _)); have HI8 : Hid (MT 3 w8 (w7.heap.size) [.int .i64 0]) := Lib.hid (hoth _ _ _ (Nat.ne_of_gt HQ7.out.lt) (MT.new w7 _ [.int .i64 0])); have HQ8 : Hid (MT 33 w8 (w3.heap.size) (pkC (setC p) (setA a (w7.heap.size)))) := Lib.hid (by rw [cells_C] at hM; exact hM); clear hM hoth hbel)
    go_wp2_with (refine wpList_load_all (by rfl) 33 (.tmp 3) rfl (w3.heap.size) rfl 33 _ (0, 0) _ HQ8.out Tryd.underlying33 rfl info33 ?_)
    refine (CC.out HSm.out (w7.heap.size) w8 (HO.out.step HB8.out) (HP.out.step HB8.out) HI8.out).mono ?_
    rintro e w9 ⟨rfl, hb⟩
    have HB9 : Hid (Below w.heap.size w w9) := Lib.hid (stepB HB8.out hb)
    have HM9 := Lib.hid (MT.step HM8.out hb)
    have HQ9 := Lib.hid (MT.step HQ8.out hb)
    clear hb
    go_upto_region 14 with (first | (refine wpList_load_all (by rfl) 33 (.tmp 1) rfl (w.heap.size) rfl 33 _ (0, 0) _ HM9.out Tryd.underlying33 rfl info33 ?_) | (refine wpList_store_blk (by rfl) 33 (.tmp 3) (.tmp 35) rfl rfl (w3.heap.size) 0 34 rfl (.agg (pkC p a).toArray) rfl 33 (pkC (setC p) (setA a (w7.heap.size))) (pkC p a) (HQ9.out) rfl rfl info33 (by rw [pkC_len]; decide) (all_one rfl) ?_; rintro w10 hM hoth hbel; have HM10 : Hid (MT 33 w10 w.heap.size (pkC p a)) := Lib.hid (hoth _ _ _ HNE.out HM9.out); have HB10 : Hid (Below w.heap.size w w10) := Lib.hid (hbel _ _ HB3.out.size HB9.out); have HQ10 : Hid (MT 33 w10 (w3.heap.size) (pkC p a)) := Lib.hid (by rw [putC_whole (pkC (setC p) (setA a (w7.heap.size))) (pkC p a) rfl] at hM; exact hM); clear hM hoth hbel))
    have f10 : w10.cell? ⟨w.heap.size, 0, none⟩ = some (.int .i64 p.kind) := HM10.out.cell 0
    go_wp2_with fail
    refine (awake6_any w10 (HO.out.step HB10.out)).mono ?_
    rintro e we ⟨rfl, hb⟩
    have HBe := Lib.hid (stepB HB10.out hb)
    clear hb
    go_wp2_with fail
    go_ret
    exact ⟨rfl, HBe.out⟩
set_option maxRecDepth 50000 in
set_option maxHeartbeats 16000000 in
theorem fields_9 (p : Pkt) (a : PA) (w : World) (hw : S1.Okw w) (hp : PIn w p a) (hk : p.kind = 9) (hc : checkP p = 0) :
    Calls Tryd.prog 6 #[pkV p a] w fun e w' => e = .returned (.bool true) ∧ Below w.heap.size w w' := by
  have HA : Hid (∀ w, PIn w p a → Calls Tryd.prog 13 #[pkV p a] w (SomeB (SmallP p) w)) := Lib.hid (fun w h => small6_any p a w h)
  have C4 : Hid (SmallP p → ∀ w, S1.Okw w → PIn w p a → Calls Tryd.prog 18 #[pkV p a] w fun e w' => e = .returned (.int .i64 (checkP p)) ∧ Below w.heap.size w w') := Lib.hid (fun s w h1 h2 => check6_any p a w h1 h2 s.sz s.tx)
  have CW : Hid (SmallP p → ∀ w, S1.Okw w → PIn w p a → Calls Tryd.prog 18 #[pkV (setW p) a] w fun e w' => e = .returned (.int .i64 28) ∧ Below w.heap.size w w') := Lib.hid (fun s w h1 h2 => by
    have := check6_any (setW p) a w h1 ⟨h2.m, h2.v, h2.s, h2.f, h2.c⟩ ⟨s.sz.m, s.sz.v, s.sz.s, s.sz.f, s.sz.c⟩ ⟨s.tx.s, s.tx.f⟩
    rw [show checkP (setW p) = 28 from field_window hc (by omega)] at this; exact this)
  have CF : Hid (SmallP p → ∀ w, S1.Okw w → PIn w p a → Calls Tryd.prog 18 #[pkV (setF p) a] w fun e w' => e = .returned (.int .i64 28) ∧ Below w.heap.size w w') := Lib.hid (fun s w h1 h2 => by
    have := check6_any (setF p) a w h1 ⟨h2.m, h2.v, h2.s, h2.f, h2.c⟩ ⟨s.sz.m, s.sz.v, s.sz.s, s.sz.f, s.sz.c⟩ ⟨s.tx.s, s.tx.f⟩
    rw [show checkP (setF p) = 28 from field_present hc (by omega)] at this; exact this)
  rw [hc] at C4
  have e1 : (p.kind != 1) = true := by simp; omega
  have e2 : (p.kind != 2) = true := by simp; omega
  have e9 : (p.kind != 9) = false := by rw [show p.kind = 9 by omega]; rfl
  have e11 : (p.kind != 11) = true := by simp; omega
  clear hk hc
  unfold pkV at *
  obtain ⟨w1, hw1⟩ : ∃ w1, w1 = w.alloc (.cells (pkC p a).toArray 33) := ⟨_, rfl⟩
  have hb1 : Below w.heap.size w w1 := by rw [hw1]; exact (Below.refl _ _).alloc (Nat.le_refl _) _
  have hm1 : MT 33 w1 w.heap.size (pkC p a) := by rw [hw1]; exact MT.new w _ _
  have c0 : w1.cell? ⟨w.heap.size, 0, none⟩ = some (.int .i64 p.kind) := hm1.cell 0
  have HB1 := Lib.hid hb1
  have HM1 := Lib.hid hm1
  have HW1 := Lib.hid hw1
  have HO := Lib.hid hw
  have HP := Lib.hid hp
  clear hw hp hb1 hm1 hw1
  go_enter Tryd.func6, Tryd.ntmps6
  go_upto_region 1 with fail
  rw [← HW1.out]
  go_wp2_with (refine wpList_load_all (by rfl) 33 (.tmp 1) rfl (w.heap.size) rfl 33 _ (0, 0) _ HM1.out Tryd.underlying33 rfl info33 ?_)
  refine (HA.out w1 (HP.out.step HB1.out)).mono ?_
  rintro e w2 ⟨s, rfl, hs, hb⟩
  have HB2 : Hid (Below w.heap.size w w2) := Lib.hid (stepB HB1.out hb)
  have HM2 := Lib.hid (MT.step HM1.out hb)
  clear hb
  have HS := Lib.hid hs
  clear hs
  cases s with
  | false =>
    go_wp2_with fail
    refine (awake6_any w2 (HO.out.step HB2.out)).mono ?_
    rintro e we ⟨rfl, hb⟩
    have HBe := Lib.hid (stepB HB2.out hb)
    clear hb
    go_wp2_with fail
    go_ret
    exact ⟨rfl, HBe.out⟩
  | true =>
    have HSm : Hid (SmallP p) := Lib.hid (HS.out rfl)
    clear HS
    go_wp2_with (refine wpList_load_all (by rfl) 33 (.tmp 1) rfl (w.heap.size) rfl 33 _ (0, 0) _ HM2.out Tryd.underlying33 rfl info33 ?_)
    refine (C4.out HSm.out w2 (HO.out.step HB2.out) (HP.out.step HB2.out)).mono ?_
    rintro e w3 ⟨rfl, hb⟩
    have HB3 : Hid (Below w.heap.size w w3) := Lib.hid (stepB HB2.out hb)
    have HM3 := Lib.hid (MT.step HM2.out hb)
    clear hb
    have hne : w.heap.size ≠ w3.heap.size := Nat.ne_of_lt HM3.out.lt
    have HNE := Lib.hid hne
    clear hne
    go_upto_region 4 with (first | (refine wpList_load_all (by rfl) 33 (.tmp 1) rfl (w.heap.size) rfl 33 _ (0, 0) _ HM3.out Tryd.underlying33 rfl info33 ?_) | (refine wpList_store_blk (by rfl) 33 (.tmp 3) (.tmp 13) rfl rfl (w3.heap.size) 0 34 rfl (.agg (pkC p a).toArray) rfl 33 (pkC Pkt.zero PA.zero) (pkC p a) (zero_new w3) rfl rfl info33 (by rw [pkC_len]; decide) (all_one rfl) ?_; rintro w4 hM hoth hbel; have HM4 : Hid (MT 33 w4 w.heap.size (pkC p a)) := Lib.hid (hoth _ _ _ HNE.out (HM3.out.alloc _)); have HB4 : Hid (Below w.heap.size w w4) := Lib.hid (hbel _ _ HB3.out.size (HB3.out.alloc HB3.out.size _)); have HQ4 : Hid (MT 33 w4 (w3.heap.size) (pkC p a)) := Lib.hid (by rw [putC_whole (pkC Pkt.zero PA.zero) (pkC p a) rfl] at hM; exact hM); clear hM hoth hbel))
    have d0 : w4.cell? ⟨w.heap.size, 0, none⟩ = some (.int .i64 p.kind) := HM4.out.cell 0
    go_upto_region 6 with (refine wpList_store_blk (by rfl) 3 (.tmp 17) (.const (.int .i64 1)) rfl rfl (w3.heap.size) 17 1 rfl (.int .i64 1) rfl 33 (pkC p a) ([.int .i64 1]) (HQ4.out) rfl rfl (sz1 _ (by simp)) (by rw [pkC_len]; decide) (all_one rfl) ?_; rintro w5 hM hoth hbel; have HM5 : Hid (MT 33 w5 w.heap.size (pkC p a)) := Lib.hid (hoth _ _ _ HNE.out HM4.out); have HB5 : Hid (Below w.heap.size w w5) := Lib.hid (hbel _ _ HB3.out.size HB4.out); have HQ5 : Hid (MT 33 w5 (w3.heap.size) (pkC (setW p) a)) := Lib.hid (by rw [cells_W] at hM; exact hM); clear hM hoth hbel)
    go_wp2_with (refine wpList_load_all (by rfl) 33 (.tmp 3) rfl (w3.heap.size) rfl 33 _ (0, 0) _ HQ5.out Tryd.underlying33 rfl info33 ?_)
    refine (CW.out HSm.out w5 (HO.out.step HB5.out) (HP.out.step HB5.out)).mono ?_
    rintro e w6 ⟨rfl, hb⟩
    have HB6 : Hid (Below w.heap.size w w6) := Lib.hid (stepB HB5.out hb)
    have HM6 := Lib.hid (MT.step HM5.out hb)
    have HQ6 := Lib.hid (MT.step HQ5.out hb)
    clear hb
    go_upto_region 9 with (first | (refine wpList_load_all (by rfl) 33 (.tmp 1) rfl (w.heap.size) rfl 33 _ (0, 0) _ HM6.out Tryd.underlying33 rfl info33 ?_) | (refine wpList_store_blk (by rfl) 33 (.tmp 3) (.tmp 21) rfl rfl (w3.heap.size) 0 34 rfl (.agg (pkC p a).toArray) rfl 33 (pkC (setW p) a) (pkC p a) (HQ6.out) rfl rfl info33 (by rw [pkC_len]; decide) (all_one rfl) ?_; rintro w7 hM hoth hbel; have HM7 : Hid (MT 33 w7 w.heap.size (pkC p a)) := Lib.hid (hoth _ _ _ HNE.out HM6.out); have HB7 : Hid (Below w.heap.size w w7) := Lib.hid (hbel _ _ HB3.out.size HB6.out); have HQ7 : Hid (MT 33 w7 (w3.heap.size) (pkC p a)) := Lib.hid (by rw [putC_whole (pkC (setW p) a) (pkC p a) rfl] at hM; exact hM); clear hM hoth hbel))
    have f7 : w7.cell? ⟨w.heap.size, 0, none⟩ = some (.int .i64 p.kind) := HM7.out.cell 0
    go_upto_region 14 with (first | (refine wpList_load_all (by rfl) 33 (.tmp 1) rfl (w.heap.size) rfl 33 _ (0, 0) _ HM7.out Tryd.underlying33 rfl info33 ?_) | (refine wpList_store_blk (by rfl) 33 (.tmp 3) (.tmp 35) rfl rfl (w3.heap.size) 0 34 rfl (.agg (pkC p a).toArray) rfl 33 (pkC p a) (pkC p a) (HQ7.out) rfl rfl info33 (by rw [pkC_len]; decide) (all_one rfl) ?_; rintro w8 hM hoth hbel; have HM8 : Hid (MT 33 w8 w.heap.size (pkC p a)) := Lib.hid (hoth _ _ _ HNE.out HM7.out); have HB8 : Hid (Below w.heap.size w w8) := Lib.hid (hbel _ _ HB3.out.size HB7.out); have HQ8 : Hid (MT 33 w8 (w3.heap.size) (pkC p a)) := Lib.hid (by rw [putC_whole (pkC p a) (pkC p a) rfl] at hM; exact hM); clear hM hoth hbel))
    have f8 : w8.cell? ⟨w.heap.size, 0, none⟩ = some (.int .i64 p.kind) := HM8.out.cell 0
    go_upto_region 16 with (refine wpList_store_blk (by rfl) 4 (.tmp 39) (.const (.bool true)) rfl rfl (w3.heap.size) 29 1 rfl (.bool true) rfl 33 (pkC p a) ([.bool true]) (HQ8.out) rfl rfl (sz1 _ (by simp)) (by rw [pkC_len]; decide) (all_one rfl) ?_; rintro w9 hM hoth hbel; have HM9 : Hid (MT 33 w9 w.heap.size (pkC p a)) := Lib.hid (hoth _ _ _ HNE.out HM8.out); have HB9 : Hid (Below w.heap.size w w9) := Lib.hid (hbel _ _ HB3.out.size HB8.out); have HQ9 : Hid (MT 33 w9 (w3.heap.size) (pkC (setF p) a)) := Lib.hid (by rw [cells_F] at hM; exact hM); clear hM hoth hbel)
    go_wp2_with (refine wpList_load_all (by rfl) 33 (.tmp 3) rfl (w3.heap.size) rfl 33 _ (0, 0) _ HQ9.out Tryd.underlying33 rfl info33 ?_)
    refine (CF.out HSm.out w9 (HO.out.step HB9.out) (HP.out.step HB9.out)).mono ?_
    rintro e w10 ⟨rfl, hb⟩
    have HB10 : Hid (Below w.heap.size w w10) := Lib.hid (stepB HB9.out hb)
    have HM10 := Lib.hid (MT.step HM9.out hb)
    have HQ10 := Lib.hid (MT.step HQ9.out hb)
    clear hb
    go_wp2_with fail
    refine (awake6_any w10 (HO.out.step HB10.out)).mono ?_
    rintro e we ⟨rfl, hb⟩
    have HBe := Lib.hid (stepB HB10.out hb)
    clear hb
    go_wp2_with fail
    go_ret
    exact ⟨rfl, HBe.out⟩
set_option maxRecDepth 50000 in
set_option maxHeartbeats 16000000 in
theorem fields_11 (p : Pkt) (a : PA) (w : World) (hw : S1.Okw w) (hp : PIn w p a) (hk : p.kind = 11) (hc : checkP p = 0) :
    Calls Tryd.prog 6 #[pkV p a] w fun e w' => e = .returned (.bool true) ∧ Below w.heap.size w w' := by
  have HA : Hid (∀ w, PIn w p a → Calls Tryd.prog 13 #[pkV p a] w (SomeB (SmallP p) w)) := Lib.hid (fun w h => small6_any p a w h)
  have C4 : Hid (SmallP p → ∀ w, S1.Okw w → PIn w p a → Calls Tryd.prog 18 #[pkV p a] w fun e w' => e = .returned (.int .i64 (checkP p)) ∧ Below w.heap.size w w') := Lib.hid (fun s w h1 h2 => check6_any p a w h1 h2 s.sz s.tx)
  have CW : Hid (SmallP p → ∀ w, S1.Okw w → PIn w p a → Calls Tryd.prog 18 #[pkV (setW p) a] w fun e w' => e = .returned (.int .i64 28) ∧ Below w.heap.size w w') := Lib.hid (fun s w h1 h2 => by
    have := check6_any (setW p) a w h1 ⟨h2.m, h2.v, h2.s, h2.f, h2.c⟩ ⟨s.sz.m, s.sz.v, s.sz.s, s.sz.f, s.sz.c⟩ ⟨s.tx.s, s.tx.f⟩
    rw [show checkP (setW p) = 28 from field_window hc (by omega)] at this; exact this)
  have CF : Hid (SmallP p → ∀ w, S1.Okw w → PIn w p a → Calls Tryd.prog 18 #[pkV (setF p) a] w fun e w' => e = .returned (.int .i64 28) ∧ Below w.heap.size w w') := Lib.hid (fun s w h1 h2 => by
    have := check6_any (setF p) a w h1 ⟨h2.m, h2.v, h2.s, h2.f, h2.c⟩ ⟨s.sz.m, s.sz.v, s.sz.s, s.sz.f, s.sz.c⟩ ⟨s.tx.s, s.tx.f⟩
    rw [show checkP (setF p) = 28 from field_present hc (by omega)] at this; exact this)
  rw [hc] at C4
  have e1 : (p.kind != 1) = true := by simp; omega
  have e2 : (p.kind != 2) = true := by simp; omega
  have e9 : (p.kind != 9) = true := by simp; omega
  have e11 : (p.kind != 11) = false := by rw [show p.kind = 11 by omega]; rfl
  clear hk hc
  unfold pkV at *
  obtain ⟨w1, hw1⟩ : ∃ w1, w1 = w.alloc (.cells (pkC p a).toArray 33) := ⟨_, rfl⟩
  have hb1 : Below w.heap.size w w1 := by rw [hw1]; exact (Below.refl _ _).alloc (Nat.le_refl _) _
  have hm1 : MT 33 w1 w.heap.size (pkC p a) := by rw [hw1]; exact MT.new w _ _
  have c0 : w1.cell? ⟨w.heap.size, 0, none⟩ = some (.int .i64 p.kind) := hm1.cell 0
  have HB1 := Lib.hid hb1
  have HM1 := Lib.hid hm1
  have HW1 := Lib.hid hw1
  have HO := Lib.hid hw
  have HP := Lib.hid hp
  clear hw hp hb1 hm1 hw1
  go_enter Tryd.func6, Tryd.ntmps6
  go_upto_region 1 with fail
  rw [← HW1.out]
  go_wp2_with (refine wpList_load_all (by rfl) 33 (.tmp 1) rfl (w.heap.size) rfl 33 _ (0, 0) _ HM1.out Tryd.underlying33 rfl info33 ?_)
  refine (HA.out w1 (HP.out.step HB1.out)).mono ?_
  rintro e w2 ⟨s, rfl, hs, hb⟩
  have HB2 : Hid (Below w.heap.size w w2) := Lib.hid (stepB HB1.out hb)
  have HM2 := Lib.hid (MT.step HM1.out hb)
  clear hb
  have HS := Lib.hid hs
  clear hs
  cases s with
  | false =>
    go_wp2_with fail
    refine (awake6_any w2 (HO.out.step HB2.out)).mono ?_
    rintro e we ⟨rfl, hb⟩
    have HBe := Lib.hid (stepB HB2.out hb)
    clear hb
    go_wp2_with fail
    go_ret
    exact ⟨rfl, HBe.out⟩
  | true =>
    have HSm : Hid (SmallP p) := Lib.hid (HS.out rfl)
    clear HS
    go_wp2_with (refine wpList_load_all (by rfl) 33 (.tmp 1) rfl (w.heap.size) rfl 33 _ (0, 0) _ HM2.out Tryd.underlying33 rfl info33 ?_)
    refine (C4.out HSm.out w2 (HO.out.step HB2.out) (HP.out.step HB2.out)).mono ?_
    rintro e w3 ⟨rfl, hb⟩
    have HB3 : Hid (Below w.heap.size w w3) := Lib.hid (stepB HB2.out hb)
    have HM3 := Lib.hid (MT.step HM2.out hb)
    clear hb
    have hne : w.heap.size ≠ w3.heap.size := Nat.ne_of_lt HM3.out.lt
    have HNE := Lib.hid hne
    clear hne
    go_upto_region 4 with (first | (refine wpList_load_all (by rfl) 33 (.tmp 1) rfl (w.heap.size) rfl 33 _ (0, 0) _ HM3.out Tryd.underlying33 rfl info33 ?_) | (refine wpList_store_blk (by rfl) 33 (.tmp 3) (.tmp 13) rfl rfl (w3.heap.size) 0 34 rfl (.agg (pkC p a).toArray) rfl 33 (pkC Pkt.zero PA.zero) (pkC p a) (zero_new w3) rfl rfl info33 (by rw [pkC_len]; decide) (all_one rfl) ?_; rintro w4 hM hoth hbel; have HM4 : Hid (MT 33 w4 w.heap.size (pkC p a)) := Lib.hid (hoth _ _ _ HNE.out (HM3.out.alloc _)); have HB4 : Hid (Below w.heap.size w w4) := Lib.hid (hbel _ _ HB3.out.size (HB3.out.alloc HB3.out.size _)); have HQ4 : Hid (MT 33 w4 (w3.heap.size) (pkC p a)) := Lib.hid (by rw [putC_whole (pkC Pkt.zero PA.zero) (pkC p a) rfl] at hM; exact hM); clear hM hoth hbel))
    have d0 : w4.cell? ⟨w.heap.size, 0, none⟩ = some (.int .i64 p.kind) := HM4.out.cell 0
    go_upto_region 6 with (refine wpList_store_blk (by rfl) 3 (.tmp 17) (.const (.int .i64 1)) rfl rfl (w3.heap.size) 17 1 rfl (.int .i64 1) rfl 33 (pkC p a) ([.int .i64 1]) (HQ4.out) rfl rfl (sz1 _ (by simp)) (by rw [pkC_len]; decide) (all_one rfl) ?_; rintro w5 hM hoth hbel; have HM5 : Hid (MT 33 w5 w.heap.size (pkC p a)) := Lib.hid (hoth _ _ _ HNE.out HM4.out); have HB5 : Hid (Below w.heap.size w w5) := Lib.hid (hbel _ _ HB3.out.size HB4.out); have HQ5 : Hid (MT 33 w5 (w3.heap.size) (pkC (setW p) a)) := Lib.hid (by rw [cells_W] at hM; exact hM); clear hM hoth hbel)
    go_wp2_with (refine wpList_load_all (by rfl) 33 (.tmp 3) rfl (w3.heap.size) rfl 33 _ (0, 0) _ HQ5.out Tryd.underlying33 rfl info33 ?_)
    refine (CW.out HSm.out w5 (HO.out.step HB5.out) (HP.out.step HB5.out)).mono ?_
    rintro e w6 ⟨rfl, hb⟩
    have HB6 : Hid (Below w.heap.size w w6) := Lib.hid (stepB HB5.out hb)
    have HM6 := Lib.hid (MT.step HM5.out hb)
    have HQ6 := Lib.hid (MT.step HQ5.out hb)
    clear hb
    go_upto_region 9 with (first | (refine wpList_load_all (by rfl) 33 (.tmp 1) rfl (w.heap.size) rfl 33 _ (0, 0) _ HM6.out Tryd.underlying33 rfl info33 ?_) | (refine wpList_store_blk (by rfl) 33 (.tmp 3) (.tmp 21) rfl rfl (w3.heap.size) 0 34 rfl (.agg (pkC p a).toArray) rfl 33 (pkC (setW p) a) (pkC p a) (HQ6.out) rfl rfl info33 (by rw [pkC_len]; decide) (all_one rfl) ?_; rintro w7 hM hoth hbel; have HM7 : Hid (MT 33 w7 w.heap.size (pkC p a)) := Lib.hid (hoth _ _ _ HNE.out HM6.out); have HB7 : Hid (Below w.heap.size w w7) := Lib.hid (hbel _ _ HB3.out.size HB6.out); have HQ7 : Hid (MT 33 w7 (w3.heap.size) (pkC p a)) := Lib.hid (by rw [putC_whole (pkC (setW p) a) (pkC p a) rfl] at hM; exact hM); clear hM hoth hbel))
    have f7 : w7.cell? ⟨w.heap.size, 0, none⟩ = some (.int .i64 p.kind) := HM7.out.cell 0
    go_upto_region 14 with (first | (refine wpList_load_all (by rfl) 33 (.tmp 1) rfl (w.heap.size) rfl 33 _ (0, 0) _ HM7.out Tryd.underlying33 rfl info33 ?_) | (refine wpList_store_blk (by rfl) 33 (.tmp 3) (.tmp 35) rfl rfl (w3.heap.size) 0 34 rfl (.agg (pkC p a).toArray) rfl 33 (pkC p a) (pkC p a) (HQ7.out) rfl rfl info33 (by rw [pkC_len]; decide) (all_one rfl) ?_; rintro w8 hM hoth hbel; have HM8 : Hid (MT 33 w8 w.heap.size (pkC p a)) := Lib.hid (hoth _ _ _ HNE.out HM7.out); have HB8 : Hid (Below w.heap.size w w8) := Lib.hid (hbel _ _ HB3.out.size HB7.out); have HQ8 : Hid (MT 33 w8 (w3.heap.size) (pkC p a)) := Lib.hid (by rw [putC_whole (pkC p a) (pkC p a) rfl] at hM; exact hM); clear hM hoth hbel))
    have f8 : w8.cell? ⟨w.heap.size, 0, none⟩ = some (.int .i64 p.kind) := HM8.out.cell 0
    go_upto_region 16 with (refine wpList_store_blk (by rfl) 4 (.tmp 39) (.const (.bool true)) rfl rfl (w3.heap.size) 29 1 rfl (.bool true) rfl 33 (pkC p a) ([.bool true]) (HQ8.out) rfl rfl (sz1 _ (by simp)) (by rw [pkC_len]; decide) (all_one rfl) ?_; rintro w9 hM hoth hbel; have HM9 : Hid (MT 33 w9 w.heap.size (pkC p a)) := Lib.hid (hoth _ _ _ HNE.out HM8.out); have HB9 : Hid (Below w.heap.size w w9) := Lib.hid (hbel _ _ HB3.out.size HB8.out); have HQ9 : Hid (MT 33 w9 (w3.heap.size) (pkC (setF p) a)) := Lib.hid (by rw [cells_F] at hM; exact hM); clear hM hoth hbel)
    go_wp2_with (refine wpList_load_all (by rfl) 33 (.tmp 3) rfl (w3.heap.size) rfl 33 _ (0, 0) _ HQ9.out Tryd.underlying33 rfl info33 ?_)
    refine (CF.out HSm.out w9 (HO.out.step HB9.out) (HP.out.step HB9.out)).mono ?_
    rintro e w10 ⟨rfl, hb⟩
    have HB10 : Hid (Below w.heap.size w w10) := Lib.hid (stepB HB9.out hb)
    have HM10 := Lib.hid (MT.step HM9.out hb)
    have HQ10 := Lib.hid (MT.step HQ9.out hb)
    clear hb
    go_wp2_with fail
    refine (awake6_any w10 (HO.out.step HB10.out)).mono ?_
    rintro e we ⟨rfl, hb⟩
    have HBe := Lib.hid (stepB HB10.out hb)
    clear hb
    go_wp2_with fail
    go_ret
    exact ⟨rfl, HBe.out⟩
set_option maxRecDepth 50000 in
set_option maxHeartbeats 16000000 in
theorem fields_0 (p : Pkt) (a : PA) (w : World) (hw : S1.Okw w) (hp : PIn w p a) (hk : p.kind ≠ 1 ∧ p.kind ≠ 2 ∧ p.kind ≠ 9 ∧ p.kind ≠ 11) (hc : checkP p = 0) :
    Calls Tryd.prog 6 #[pkV p a] w fun e w' => e = .returned (.bool true) ∧ Below w.heap.size w w' := by
  have HA : Hid (∀ w, PIn w p a → Calls Tryd.prog 13 #[pkV p a] w (SomeB (SmallP p) w)) := Lib.hid (fun w h => small6_any p a w h)
  have C4 : Hid (SmallP p → ∀ w, S1.Okw w → PIn w p a → Calls Tryd.prog 18 #[pkV p a] w fun e w' => e = .returned (.int .i64 (checkP p)) ∧ Below w.heap.size w w') := Lib.hid (fun s w h1 h2 => check6_any p a w h1 h2 s.sz s.tx)
  have CW : Hid (SmallP p → ∀ w, S1.Okw w → PIn w p a → Calls Tryd.prog 18 #[pkV (setW p) a] w fun e w' => e = .returned (.int .i64 28) ∧ Below w.heap.size w w') := Lib.hid (fun s w h1 h2 => by
    have := check6_any (setW p) a w h1 ⟨h2.m, h2.v, h2.s, h2.f, h2.c⟩ ⟨s.sz.m, s.sz.v, s.sz.s, s.sz.f, s.sz.c⟩ ⟨s.tx.s, s.tx.f⟩
    rw [show checkP (setW p) = 28 from field_window hc (by omega)] at this; exact this)
  have CC : Hid (SmallP p → ∀ B w, S1.Okw w → PIn w p a → MT 3 w B [.int .i64 0] → Calls Tryd.prog 18 #[pkV (setC p) (setA a B)] w fun e w' => e = .returned (.int .i64 28) ∧ Below w.heap.size w w') := Lib.hid (fun s B w h1 h2 h3 => by
    have := check6_any (setC p) (setA a B) w h1 ⟨h2.m, h2.v, h2.s, h2.f, il_one h3⟩ ⟨s.sz.m, s.sz.v, s.sz.s, s.sz.f, by show 1 ≤ 9223372036854775806; decide⟩ ⟨s.tx.s, s.tx.f⟩
    rw [show checkP (setC p) = 28 from field_codes hc (by omega)] at this; exact this)
  have CF : Hid (SmallP p → ∀ w, S1.Okw w → PIn w p a → Calls Tryd.prog 18 #[pkV (setF p) a] w fun e w' => e = .returned (.int .i64 28) ∧ Below w.heap.size w w') := Lib.hid (fun s w h1 h2 => by
    have := check6_any (setF p) a w h1 ⟨h2.m, h2.v, h2.s, h2.f, h2.c⟩ ⟨s.sz.m, s.sz.v, s.sz.s, s.sz.f, s.sz.c⟩ ⟨s.tx.s, s.tx.f⟩
    rw [show checkP (setF p) = 28 from field_present hc (by omega)] at this; exact this)
  rw [hc] at C4
  have e1 : (p.kind != 1) = true := by simp; omega
  have e2 : (p.kind != 2) = true := by simp; omega
  have e9 : (p.kind != 9) = true := by simp; omega
  have e11 : (p.kind != 11) = true := by simp; omega
  clear hk hc
  unfold pkV at *
  obtain ⟨w1, hw1⟩ : ∃ w1, w1 = w.alloc (.cells (pkC p a).toArray 33) := ⟨_, rfl⟩
  have hb1 : Below w.heap.size w w1 := by rw [hw1]; exact (Below.refl _ _).alloc (Nat.le_refl _) _
  have hm1 : MT 33 w1 w.heap.size (pkC p a) := by rw [hw1]; exact MT.new w _ _
  have c0 : w1.cell? ⟨w.heap.size, 0, none⟩ = some (.int .i64 p.kind) := hm1.cell 0
  have HB1 := Lib.hid hb1
  have HM1 := Lib.hid hm1
  have HW1 := Lib.hid hw1
  have HO := Lib.hid hw
  have HP := Lib.hid hp
  clear hw hp hb1 hm1 hw1
  go_enter Tryd.func6, Tryd.ntmps6
  go_upto_region 1 with fail
  rw [← HW1.out]
  go_wp2_with (refine wpList_load_all (by rfl) 33 (.tmp 1) rfl (w.heap.size) rfl 33 _ (0, 0) _ HM1.out Tryd.underlying33 rfl info33 ?_)
  refine (HA.out w1 (HP.out.step HB1.out)).mono ?_
  rintro e w2 ⟨s, rfl, hs, hb⟩
  have HB2 : Hid (Below w.heap.size w w2) := Lib.hid (stepB HB1.out hb)
  have HM2 := Lib.hid (MT.step HM1.out hb)
  clear hb
  have HS := Lib.hid hs
  clear hs
  cases s with
  | false =>
    go_wp2_with fail
    refine (awake6_any w2 (HO.out.step HB2.out)).mono ?_
    rintro e we ⟨rfl, hb⟩
    have HBe := Lib.hid (stepB HB2.out hb)
    clear hb
    go_wp2_with fail
    go_ret
    exact ⟨rfl, HBe.out⟩
  | true =>
    have HSm : Hid (SmallP p) := Lib.hid (HS.out rfl)
    clear HS
    go_wp2_with (refine wpList_load_all (by rfl) 33 (.tmp 1) rfl (w.heap.size) rfl 33 _ (0, 0) _ HM2.out Tryd.underlying33 rfl info33 ?_)
    refine (C4.out HSm.out w2 (HO.out.step HB2.out) (HP.out.step HB2.out)).mono ?_
    rintro e w3 ⟨rfl, hb⟩
    have HB3 : Hid (Below w.heap.size w w3) := Lib.hid (stepB HB2.out hb)
    have HM3 := Lib.hid (MT.step HM2.out hb)
    clear hb
    have hne : w.heap.size ≠ w3.heap.size := Nat.ne_of_lt HM3.out.lt
    have HNE := Lib.hid hne
    clear hne
    go_upto_region 4 with (first | (refine wpList_load_all (by rfl) 33 (.tmp 1) rfl (w.heap.size) rfl 33 _ (0, 0) _ HM3.out Tryd.underlying33 rfl info33 ?_) | (refine wpList_store_blk (by rfl) 33 (.tmp 3) (.tmp 13) rfl rfl (w3.heap.size) 0 34 rfl (.agg (pkC p a).toArray) rfl 33 (pkC Pkt.zero PA.zero) (pkC p a) (zero_new w3) rfl rfl info33 (by rw [pkC_len]; decide) (all_one rfl) ?_; rintro w4 hM hoth hbel; have HM4 : Hid (MT 33 w4 w.heap.size (pkC p a)) := Lib.hid (hoth _ _ _ HNE.out (HM3.out.alloc _)); have HB4 : Hid (Below w.heap.size w w4) := Lib.hid (hbel _ _ HB3.out.size (HB3.out.alloc HB3.out.size _)); have HQ4 : Hid (MT 33 w4 (w3.heap.size) (pkC p a)) := Lib.hid (by rw [putC_whole (pkC Pkt.zero PA.zero) (pkC p a) rfl] at hM; exact hM); clear hM hoth hbel))
    have d0 : w4.cell? ⟨w.heap.size, 0, none⟩ = some (.int .i64 p.kind) := HM4.out.cell 0
    go_upto_region 6 with (refine wpList_store_blk (by rfl) 3 (.tmp 17) (.const (.int .i64 1)) rfl rfl (w3.heap.size) 17 1 rfl (.int .i64 1) rfl 33 (pkC p a) ([.int .i64 1]) (HQ4.out) rfl rfl (sz1 _ (by simp)) (by rw [pkC_len]; decide) (all_one rfl) ?_; rintro w5 hM hoth hbel; have HM5 : Hid (MT 33 w5 w.heap.size (pkC p a)) := Lib.hid (hoth _ _ _ HNE.out HM4.out); have HB5 : Hid (Below w.heap.size w w5) := Lib.hid (hbel _ _ HB3.out.size HB4.out); have HQ5 : Hid (MT 33 w5 (w3.heap.size) (pkC (setW p) a)) := Lib.hid (by rw [cells_W] at hM; exact hM); clear hM hoth hbel)
    go_wp2_with (refine wpList_load_all (by rfl) 33 (.tmp 3) rfl (w3.heap.size) rfl 33 _ (0, 0) _ HQ5.out Tryd.underlying33 rfl info33 ?_)
    refine (CW.out HSm.out w5 (HO.out.step HB5.out) (HP.out.step HB5.out)).mono ?_
    rintro e w6 ⟨rfl, hb⟩
    have HB6 : Hid (Below w.heap.size w w6) := Lib.hid (stepB HB5.out hb)
    have HM6 := Lib.hid (MT.step HM5.out hb)
    have HQ6 := Lib.hid (MT.step HQ5.out hb)
    clear hb
    go_upto_region 9 with (first | (refine wpList_load_all (by rfl) 33 (.tmp 1) rfl (w.heap.size) rfl 33 _ (0, 0) _ HM6.out Tryd.underlying33 rfl info33 ?_) | (refine wpList_store_blk (by rfl) 33 (.tmp 3) (.tmp 21) rfl rfl (w3.heap.size) 0 34 rfl (.agg (pkC p a).toArray) rfl 33 (pkC (setW p) a) (pkC p a) (HQ6.out) rfl rfl info33 (by rw [pkC_len]; decide) (all_one rfl) ?_; rintro w7 hM hoth hbel; have HM7 : Hid (MT 33 w7 w.heap.size (pkC p a)) := Lib.hid (hoth _ _ _ HNE.out HM6.out); have HB7 : Hid (Below w.heap.size w w7) := Lib.hid (hbel _ _ HB3.out.size HB6.out); have HQ7 : Hid (MT 33 w7 (w3.heap.size) (pkC p a)) := Lib.hid (by rw [putC_whole (pkC (setW p) a) (pkC p a) rfl] at hM; exact hM); clear hM hoth hbel))
    have f7 : w7.cell? ⟨w.heap.size, 0, none⟩ = some (.int .i64 p.kind) := HM7.out.cell 0
    go_upto_region 11 with (refine wpList_store_blk (by rfl) 31 (.tmp 31) (.tmp 30) rfl rfl (w3.heap.size) 33 1 rfl (.slice (some ⟨w7.heap.size, 0, none⟩) 1 1) rfl 33 (pkC p a) ([.slice (some ⟨w7.heap.size, 0, none⟩) 1 1]) (HQ7.out.alloc _) rfl rfl (sz1 _ (by simp)) (by rw [pkC_len]; decide) (all_one rfl) ?_; rintro w8 hM hoth hbel; have HM8 : Hid (MT 33 w8 w.heap.size (pkC p a)) := Lib.hid (hoth _ _ _ HNE.out (HM7.out.alloc _)); have HB8 : Hid (Below w.heap.size w w8) := Lib.hid (hbel _ _ HB3.out.size (HB7.out.alloc HB7.out.size _)); have HI8 : Hid (MT 3 w8 (w7.heap.size) [.int .i64 0]) := Lib.hid (hoth _ _ _ (Nat.ne_of_gt HQ7.out.lt) (MT.new w7 _ [.int .i64 0])); have HQ8 : Hid (MT 33 w8 (w3.heap.size) (pkC (setC p) (setA a (w7.heap.size)))) := Lib.hid (by rw [cells_C] at hM; exact hM); clear hM hoth hbel)
    go_wp2_with (refine wpList_load_all (by rfl) 33 (.tmp 3) rfl (w3.heap.size) rfl 33 _ (0, 0) _ HQ8.out Tryd.underlying33 rfl info33 ?_)
    refine (CC.out HSm.out (w7.heap.size) w8 (HO.out.step HB8.out) (HP.out.step HB8.out) HI8.out).mono ?_
    rintro e w9 ⟨rfl, hb⟩
    have HB9 : Hid (Below w.heap.size w w9) := Lib.hid (stepB HB8.out hb)
    have HM9 := Lib.hid (MT.step HM8.out hb)
    have HQ9 := Lib.hid (MT.step HQ8.out hb)
    clear hb
    go_upto_region 14 with (first | (refine wpList_load_all (by rfl) 33 (.tmp 1) rfl (w.heap.size) rfl 33 _ (0, 0) _ HM9.out Tryd.underlying33 rfl info33 ?_) | (refine wpList_store_blk (by rfl) 33 (.tmp 3) (.tmp 35) rfl rfl (w3.heap.size) 0 34 rfl (.agg (pkC p a).toArray) rfl 33 (pkC (setC p) (setA a (w7.heap.size))) (pkC p a) (HQ9.out) rfl rfl info33 (by rw [pkC_len]; decide) (all_one rfl) ?_; rintro w10 hM hoth hbel; have HM10 : Hid (MT 33 w10 w.heap.size (pkC p a)) := Lib.hid (hoth _ _ _ HNE.out HM9.out); have HB10 : Hid (Below w.heap.size w w10) := Lib.hid (hbel _ _ HB3.out.size HB9.out); have HQ10 : Hid (MT 33 w10 (w3.heap.size) (pkC p a)) := Lib.hid (by rw [putC_whole (pkC (setC p) (setA a (w7.heap.size))) (pkC p a) rfl] at hM; exact hM); clear hM hoth hbel))
    have f10 : w10.cell? ⟨w.heap.size, 0, none⟩ = some (.int .i64 p.kind) := HM10.out.cell 0
    go_upto_region 16 with (refine wpList_store_blk (by rfl) 4 (.tmp 39) (.const (.bool true)) rfl rfl (w3.heap.size) 29 1 rfl (.bool true) rfl 33 (pkC p a) ([.bool true]) (HQ10.out) rfl rfl (sz1 _ (by simp)) (by rw [pkC_len]; decide) (all_one rfl) ?_; rintro w11 hM hoth hbel; have HM11 : Hid (MT 33 w11 w.heap.size (pkC p a)) := Lib.hid (hoth _ _ _ HNE.out HM10.out); have HB11 : Hid (Below w.heap.size w w11) := Lib.hid (hbel _ _ HB3.out.size HB10.out); have HQ11 : Hid (MT 33 w11 (w3.heap.size) (pkC (setF p) a)) := Lib.hid (by rw [cells_F] at hM; exact hM); clear hM hoth hbel)
    go_wp2_with (refine wpList_load_all (by rfl) 33 (.tmp 3) rfl (w3.heap.size) rfl 33 _ (0, 0) _ HQ11.out Tryd.underlying33 rfl info33 ?_)
    refine (CF.out HSm.out w11 (HO.out.step HB11.out) (HP.out.step HB11.out)).mono ?_
    rintro e w12 ⟨rfl, hb⟩
    have HB12 : Hid (Below w.heap.size w w12) := Lib.hid (stepB HB11.out hb)
    have HM12 := Lib.hid (MT.step HM11.out hb)
    have HQ12 := Lib.hid (MT.step HQ11.out hb)
    clear hb
    go_wp2_with fail
    refine (awake6_any w12 (HO.out.step HB12.out)).mono ?_
    rintro e we ⟨rfl, hb⟩
    have HBe := Lib.hid (stepB HB12.out hb)
    clear hb
    go_wp2_with fail
    go_ret
    exact ⟨rfl, HBe.out⟩
set_option maxRecDepth 50000 in
set_option maxHeartbeats 16000000 in
theorem packetFields_walk (p : Pkt) (a : PA) (w : World) (hw : S1.Okw w) (hp : PIn w p a) :
    Calls Tryd.prog 6 #[pkV p a] w fun e w' => e = .returned (.bool true) ∧ Below w.heap.size w w' := by
  have HA : Hid (∀ w, PIn w p a → Calls Tryd.prog 13 #[pkV p a] w (SomeB (SmallP p) w)) := Lib.hid (fun w h => small6_any p a w h)
  have C4 : Hid (SmallP p → ∀ w, S1.Okw w → PIn w p a → Calls Tryd.prog 18 #[pkV p a] w fun e w' => e = .returned (.int .i64 (checkP p)) ∧ Below w.heap.size w w') := Lib.hid (fun s w h1 h2 => check6_any p a w h1 h2 s.sz s.tx)
  by_cases hc : checkP p = 0
  · by_cases h1 : p.kind = 1
    · exact fields_1 p a w hw hp h1 hc
    by_cases h2 : p.kind = 2
    · exact fields_2 p a w hw hp h2 hc
    by_cases h9 : p.kind = 9
    · exact fields_9 p a w hw hp h9 hc
    by_cases h11 : p.kind = 11
    · exact fields_11 p a w hw hp h11 hc
    exact fields_0 p a w hw hp ⟨h1, h2, h9, h11⟩ hc
  generalize checkP p = cp at C4 hc
  have q0 : ((cp : Int) != 0) = true := by simp [hc]
  clear hc
  unfold pkV at *
  obtain ⟨w1, hw1⟩ : ∃ w1, w1 = w.alloc (.cells (pkC p a).toArray 33) := ⟨_, rfl⟩
  have hb1 : Below w.heap.size w w1 := by rw [hw1]; exact (Below.refl _ _).alloc (Nat.le_refl _) _
  have hm1 : MT 33 w1 w.heap.size (pkC p a) := by rw [hw1]; exact MT.new w _ _
  have c0 : w1.cell? ⟨w.heap.size, 0, none⟩ = some (.int .i64 p.kind) := hm1.cell 0
  have HB1 := Lib.hid hb1
  have HM1 := Lib.hid hm1
  have HW1 := Lib.hid hw1
  have HO := Lib.hid hw
  have HP := Lib.hid hp
  clear hw hp hb1 hm1 hw1
  go_enter Tryd.func6, Tryd.ntmps6
  go_upto_region 1 with fail
  rw [← HW1.out]
  go_wp2_with (refine wpList_load_all (by rfl) 33 (.tmp 1) rfl (w.heap.size) rfl 33 _ (0, 0) _ HM1.out Tryd.underlying33 rfl info33 ?_)
  refine (HA.out w1 (HP.out.step HB1.out)).mono ?_
  rintro e w2 ⟨s, rfl, hs, hb⟩
  have HB2 : Hid (Below w.heap.size w w2) := Lib.hid (stepB HB1.out hb)
  have HM2 := Lib.hid (MT.step HM1.out hb)
  clear hb
  have HS := Lib.hid hs
  clear hs
  cases s with
  | false =>
    go_wp2_with fail
    refine (awake6_any w2 (HO.out.step HB2.out)).mono ?_
    rintro e we ⟨rfl, hb⟩
    have HBe := Lib.hid (stepB HB2.out hb)
    clear hb
    go_wp2_with fail
    go_ret
    exact ⟨rfl, HBe.out⟩
  | true =>
    have HSm : Hid (SmallP p) := Lib.hid (HS.out rfl)
    clear HS
    go_wp2_with (refine wpList_load_all (by rfl) 33 (.tmp 1) rfl (w.heap.size) rfl 33 _ (0, 0) _ HM2.out Tryd.underlying33 rfl info33 ?_)
    refine (C4.out HSm.out w2 (HO.out.step HB2.out) (HP.out.step HB2.out)).mono ?_
    rintro e w3 ⟨rfl, hb⟩
    have HB3 : Hid (Below w.heap.size w w3) := Lib.hid (stepB HB2.out hb)
    have HM3 := Lib.hid (MT.step HM2.out hb)
    clear hb
    go_wp2_with fail
    refine (awake6_any w3 (HO.out.step HB3.out)).mono ?_
    rintro e we ⟨rfl, hb⟩
    have HBe := Lib.hid (stepB HB3.out hb)
    clear hb
    go_wp2_with fail
    go_ret
    exact ⟨rfl, HBe.out⟩

end Go.Proofs.YtjlmlaekogahpaaDoor
