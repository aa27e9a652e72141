/-
  What Answer of packet and of the specification hands back. Conditions: none.
-/
import Derived.Test.YtomlideijhejfaaGreatDoorMbx2
import Derived.Test.YtomlideijhejfaaGreatDoorSamQ
import Derived.Test.YtomlideijhejfaaGreatDoorPkt2
import Derived.Test.YtomlideijhejfaaGreatDoorChk
namespace Go.Proofs.YtomlideijhejfaaGreatDoor
open Go.RowKit

set_option maxRecDepth 20000 in
set_option maxHeartbeats 2000000 in
theorem answerKind_any (p : Pkt) (a : PA) (w : World) :
    Calls Tryz.prog 60 #[pkV p a] w fun e w' => e = .returned (.int .i64 (ansK p)) ∧ Below w.heap.size w w' := by
  unfold pkV
  have k0 : (pkC p a)[0]? = some (.int .i64 p.kind) := rfl
  have k5 : (pkC p a)[5]? = some (.int .i64 p.msg.level) := rfl
  go_enter Tryz.func60, Tryz.ntmps60
  go_wp2
  all_goals
    go_ret
    refine ⟨?_, (Below.refl _ _).alloc (Nat.le_refl _) _⟩
    simp only [beq_iff_eq, beq_eq_false_iff_ne, ne_eq] at *
    simp [ansK, *]

theorem putC_whole (vs cs : List Value) (h : cs.length = vs.length) : putC vs 0 cs = cs := by unfold putC; rw [Nat.zero_add, h, List.drop_length]; simp
theorem all_one {vs : List Value} (h : vs.all (fun v => v.oneCell') = true) : ∀ u ∈ vs, u.oneCell' = true := fun u hu => List.all_eq_true.1 h u hu
theorem results_two {P : Program} {fn : Func} {p q : Tmp} {ty : TypeId} (h : fn.results = #[.cell p ty, .tmp q]) (tmps : Array Value) (w : World) (g : Nat) (t : TypeId) (cs : Array Value) (fr : Nat × Nat) (d : TypeDesc) (v : Value)
    (hp : tmps.getD p undef = .pointer (some ⟨g, 0, none⟩)) (hq : tmps.getD q undef = v) (hg : w.heap[g]? = some (.cells cs t fr))
    (hu : P.underlying ty = some d) (hd : (match d with | .struct _ | .array _ _ => true | _ => false) = true) (hi : (P.info? ty).map (·.size) = some cs.size) :
    (results fn tmps).run P w = .ok (.tuple #[.agg cs, v]) w := by
  have hp' : tmps[p]?.getD undef = .pointer (some ⟨g, 0, none⟩) := by simpa using hp
  have hq' : tmps[q]?.getD undef = v := by simpa using hq
  simp [results, h, hp', hq', asAddr, run_loadVar_row w g t ty cs fr d hg hu hd hi]
def ansC (k n : Int) : List Value := pkC { Pkt.zero with kind := k, id := n } PA.zero
set_option maxRecDepth 20000 in
set_option maxHeartbeats 4000000 in
theorem answer_any (p : Pkt) (a : PA) (w : World) :
    Calls Tryz.prog 30 #[pkV p a] w fun e w' => e = .returned (.tuple #[pkV (ansP p) PA.zero, .bool (decide (ansK p ≠ 0))]) ∧ Below w.heap.size w w' := by
  have HC := Lib.hid (fun w => answerKind_any p a w)
  unfold pkV at HC ⊢
  have HA := Lib.hid (@ansP_eq p)
  have HN := Lib.hid (@ansP_no p)
  generalize ansP p = q at HA HN ⊢
  generalize ansK p = k at HC HA HN ⊢
  obtain ⟨x, hx⟩ : ∃ x, x = decide (k ≠ 0) := ⟨_, rfl⟩
  rw [← hx]
  by_cases h0 : k = 0
  · have HQ := Lib.hid (HN.out h0)
    have HD : Hid (x = false) := Lib.hid (by rw [hx, h0]; rfl)
    subst h0
    clear HA HN hx
    go_enter Tryz.func30, Tryz.ntmps30
    go_upto_region 1 with fail
    refine name_world (C := fun w1 => Code.wp _ _ _ _ w1) ((w.alloc (.cells (pkC p a).toArray 33)).alloc (.cells (pkC Pkt.zero PA.zero).toArray 33)) ?_
    rintro w1 hw1
    obtain ⟨b1, b2, b3⟩ := two hw1
    have hz1 : w.heap.size + 1 < w1.heap.size := b3.lt
    have HB1 := Lib.hid b1
    have HM1 := Lib.hid b2
    have HT1 := Lib.hid b3
    have c0 : w1.cell? ⟨w.heap.size, 0, none⟩ = some (.int .i64 p.kind) := b2.cell 0
    have c1 : w1.cell? ⟨w.heap.size, 1, none⟩ = some (.int .i64 p.id) := b2.cell 1
    have c5 : w1.cell? ⟨w.heap.size, 5, none⟩ = some (.int .i64 p.msg.level) := b2.cell 5
    clear b1 b2 b3 hw1
    go_wp2_with (refine wpList_load_all (by rfl) 33 (.tmp 1) rfl w.heap.size rfl 33 _ (0, 0) _ HM1.out Tryz.underlying33 rfl info33 ?_)
    refine (HC.out w1).mono ?_
    rintro e w2 ⟨rfl, hb⟩
    obtain ⟨hc2, hf2⟩ := bcell hb
    have hz2 : w.heap.size + 1 < w2.heap.size := Nat.lt_of_lt_of_le hz1 hb.size
    have hz3 : w.heap.size < w1.heap.size := by omega
    have HT2 : Hid (MT 33 w2 (w.heap.size + 1) (pkC Pkt.zero PA.zero)) := Lib.hid (MT.step HT1.out hb)
    have HB2 := Lib.hid (stepB HB1.out hb)
    clear hb
    go_wp2_with (refine wpList_store_blk (by rfl) 33 (.tmp 2) (.tmp 9) rfl rfl (w.heap.size + 1) 0 34 rfl (.agg (pkC Pkt.zero PA.zero).toArray) rfl 33 (pkC Pkt.zero PA.zero) (pkC Pkt.zero PA.zero) HT2.out rfl rfl info33 (by rw [pkC_len]; decide) (all_one rfl) ?_; rintro w9 hM _ hbel; have HM9 : Hid (MT 33 w9 (w.heap.size + 1) (pkC Pkt.zero PA.zero)) := Lib.hid (by rw [putC_whole (pkC Pkt.zero PA.zero) (pkC Pkt.zero PA.zero) rfl] at hM; exact hM); have HB9 := Lib.hid (hbel _ _ (by omega) HB2.out); clear hM hbel)
    exact bodyPost_ret (v := .tuple #[.agg (pkC q PA.zero).toArray, .bool x]) (results_two rfl _ _ (w.heap.size + 1) 33 _ (0, 0) _ (.bool x) rfl (by rw [HD.out]; rfl) (by have := HM9.out; rw [HQ.out]; exact this) Tryz.underlying33 rfl info33) rfl ⟨rfl, HB9.out⟩
  · have HQ := Lib.hid (HA.out h0)
    have HD : Hid (x = true) := Lib.hid (by rw [hx]; simp [h0])
    have q0 : (k == 0) = false := by simp [h0]
    clear HA HN hx h0
    go_enter Tryz.func30, Tryz.ntmps30
    go_upto_region 1 with fail
    refine name_world (C := fun w1 => Code.wp _ _ _ _ w1) ((w.alloc (.cells (pkC p a).toArray 33)).alloc (.cells (pkC Pkt.zero PA.zero).toArray 33)) ?_
    rintro w1 hw1
    obtain ⟨b1, b2, b3⟩ := two hw1
    have hz1 : w.heap.size + 1 < w1.heap.size := b3.lt
    have HB1 := Lib.hid b1
    have HM1 := Lib.hid b2
    have HT1 := Lib.hid b3
    have c0 : w1.cell? ⟨w.heap.size, 0, none⟩ = some (.int .i64 p.kind) := b2.cell 0
    have c1 : w1.cell? ⟨w.heap.size, 1, none⟩ = some (.int .i64 p.id) := b2.cell 1
    have c5 : w1.cell? ⟨w.heap.size, 5, none⟩ = some (.int .i64 p.msg.level) := b2.cell 5
    clear b1 b2 b3 hw1
    go_wp2_with (refine wpList_load_all (by rfl) 33 (.tmp 1) rfl w.heap.size rfl 33 _ (0, 0) _ HM1.out Tryz.underlying33 rfl info33 ?_)
    refine (HC.out w1).mono ?_
    rintro e w2 ⟨rfl, hb⟩
    obtain ⟨hc2, hf2⟩ := bcell hb
    have hz2 : w.heap.size + 1 < w2.heap.size := Nat.lt_of_lt_of_le hz1 hb.size
    have hz3 : w.heap.size < w1.heap.size := by omega
    have HT2 : Hid (MT 33 w2 (w.heap.size + 1) (pkC Pkt.zero PA.zero)) := Lib.hid (MT.step HT1.out hb)
    have HB2 := Lib.hid (stepB HB1.out hb)
    clear hb
    go_wp2_with (refine wpList_store_blk (by rfl) 33 (.tmp 2) (.tmp 13) rfl rfl (w.heap.size + 1) 0 34 rfl (.agg (ansC k p.id).toArray) rfl 33 (pkC Pkt.zero PA.zero) (ansC k p.id) HT2.out rfl rfl info33 (by rw [pkC_len]; decide) (all_one rfl) ?_; rintro w9 hM _ hbel; have HM9 : Hid (MT 33 w9 (w.heap.size + 1) (ansC k p.id)) := Lib.hid (by rw [putC_whole (pkC Pkt.zero PA.zero) (ansC k p.id) rfl] at hM; exact hM); have HB9 := Lib.hid (hbel _ _ (by omega) HB2.out); clear hM hbel)
    exact bodyPost_ret (v := .tuple #[.agg (pkC q PA.zero).toArray, .bool x]) (results_two rfl _ _ (w.heap.size + 1) 33 _ (0, 0) _ (.bool x) rfl (by rw [HD.out]; rfl) (by have := HM9.out; rw [HQ.out]; exact this) Tryz.underlying33 rfl info33) rfl ⟨rfl, HB9.out⟩

end Go.Proofs.YtomlideijhejfaaGreatDoor
