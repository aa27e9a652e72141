/-
  What Left, Messages, Pubrel, Publish and Resend of brokerref14 answer, and packets of brokerlaw14 for lists of the same packets. Conditions: the window, the item, the lists read as data; few elements.
-/
import Derived.Test.YtomlideijhejfaaDoorVs
import Derived.Test.YtomlideijhejfaaDoorSamR
namespace Go.Proofs.YtomlideijhejfaaDoor
open Go.RowKit
open S2 (BK Put)

set_option maxRecDepth 20000 in
set_option maxHeartbeats 1000000 in
theorem rleft_any (L : Int) (A : Option Addr) (c : Nat) (xs : List FE) (A2 : Option Addr) (c2 : Nat) (X : List Int) (l : Int) (w : World) (h0 : 0 ≤ L) (h1 : L ≤ 32) (h2 : xs.length ≤ 32) :
    Calls Tryd.prog 30 #[wv L A c xs A2 c2 X l] w fun e w' => e = .returned (.int .i64 (leftR L xs.length)) ∧ Below w.heap.size w w' := by
  by_cases h : L ≤ xs.length
  · have q : decide (L ≤ (xs.length : Int)) = true := decide_eq_true h
    have HR : Hid (0 = leftR L xs.length) := Lib.hid (by unfold leftR; rw [if_pos h])
    go_enter Tryd.func30, Tryd.ntmps30
    go_wp2_with fail
    go_ret
    exact ⟨S2.ret_i HR.out, S2.below_new w _⟩
  · have q : decide (L ≤ (xs.length : Int)) = false := decide_eq_false h
    have HR : Hid (L - xs.length = leftR L xs.length) := Lib.hid (by unfold leftR; rw [if_neg h])
    have e : wrap64 (L - xs.length) = L - xs.length := wrap64_id _ (by omega) (by omega)
    go_enter Tryd.func30, Tryd.ntmps30
    go_wp2_with fail
    go_ret
    exact ⟨S2.ret_i (by first | exact HR.out | (rw [e]; exact HR.out)), S2.below_new w _⟩

def mE (x : FE) : ME := ⟨x.f.m, x.a, x.c⟩
abbrev LstP (B : Nat) (w : World) (v : Value) (ks : List ME) : Prop := Lst 30 gM 9 (fun _ => none) (fun _ => []) B w v ks
abbrev LstQ (B : Nat) (w : World) (v : Value) (ks : List (Pkt × PA)) : Prop := Lst 40 gK 34 (fun _ => none) (fun _ => []) B w v ks

set_option maxRecDepth 20000 in
set_option maxHeartbeats 4000000 in
theorem rpublish_any (x : FE) (d : Bool) (w : World) : Calls Tryd.prog 33 #[fV x, .bool d] w fun e w' => e = .returned (pkV (pubP x.f d) (pubA x.a x.c)) ∧ Below w.heap.size w w' := by
  unfold fV
  go_enter Tryd.func33, Tryd.ntmps33
  go_upto_region 1 with fail
  refine name_world (C := fun w1 => Code.wp _ _ _ _ w1) ((w.alloc (.cells (gF x).toArray 71)).alloc (.cells zeroPk.toArray 40)) ?_
  intro w1 hw1
  obtain ⟨t1, t2, hs0, hB0⟩ := S2.two_laid (v1 := gF x) (v2 := zeroPk) hw1
  have M_w1 := Lib.hid t1
  have K_w1 := Lib.hid t2
  have B_w1 := Lib.hid hB0
  have d0 := t1.cell 0 rfl
  have HLD : Hid ((loadVar 30 ⟨w.heap.size, 2, none⟩).run Tryd.prog w1 = .ok (.agg #[.string x.f.m.topic, .string x.f.m.payload, .int .i64 x.f.m.level, .bool x.f.m.retain, .int .i64 x.f.m.prio, .int .i64 x.f.m.exps, .string x.f.m.frm, .int .i64 x.f.m.seq, .slice x.a x.f.m.props.length x.c]) w1) := Lib.hid (bk_msg t1)
  clear hw1 t1 t2 hs0 hB0
  go_wp2_with first
    | (refine wpList_load_v (by rfl) 30 _ rfl ⟨w.heap.size, 2, none⟩ rfl _ HLD.out ?_)
    | (refine S2.wpList_store_all (by rfl) 40 (.tmp 4) (.tmp 10) rfl rfl (w.heap.size + 1) rfl (pkC (pubP x.f d) (pubA x.a x.c)) rfl 40 zeroPk K_w1.out pktSize rfl (pkOnes _ _) ?_; intro w2 hM hP; have M2 := Lib.hid hM; have B2 := Lib.hid (hP.below B_w1.out (by omega)); clear hM hP)
  exact bodyPost_ret (v := pkV (pubP x.f d) (pubA x.a x.c)) (S2.res_cell rfl _ _ (w.heap.size + 1) 40 (pkC (pubP x.f d) (pubA x.a x.c)) _ rfl M2.out Tryd.underlying40 rfl pktSize) rfl ⟨rfl, B2.out⟩

def agA (x : FE) : PA := if x.f.st = 2 then PA.zero else pubA x.a x.c
def kE (x : FE) : Pkt × PA := (againP x.f, agA x)
theorem kE_plain (x : FE) (w : World) (B : Nat) (h : PL w B x.a x.f.m.props) : KP w B (kE x) := by
  unfold kE agA againP
  by_cases hs : x.f.st = 2
  · rw [if_pos hs, if_pos hs]; exact KP.rel _ _ _ _
  · rw [if_neg hs, if_neg hs]; exact KP.pub h
theorem kE_rel {x : FE} (h : x.f.st = 2) : kE x = (relP x.f.id, PA.zero) := by unfold kE agA againP; rw [if_pos h, if_pos h]
theorem kE_pub {x : FE} (h : ¬ x.f.st = 2) : kE x = (pubP x.f true, pubA x.a x.c) := by unfold kE agA againP; rw [if_neg h, if_neg h]

theorem KS.at_ {w : World} {B : Nat} {A : Option Addr} {xs : List (Pkt × PA)} (h : KS w B A xs) {j : Nat} {x : Pkt × PA} (hx : xs[j]? = some x) :
    ∃ b o, A = some ⟨b, o, none⟩ ∧ b < B ∧ (∀ i v, (gK x)[i]? = some v → w.cell? ⟨b, o + j * 34 + i, none⟩ = some v) ∧ KP w B x := by
  obtain ⟨b, o, e, hb, hc⟩ := h.1 (Nat.lt_of_le_of_lt (Nat.zero_le _) (List.getElem?_eq_some_iff.1 hx).1)
  exact ⟨b, o, e, hb, fun i v hv => hc j x i v hx hv, h.2 x (List.mem_of_getElem? hx)⟩
theorem load_pk {w : World} {b o : Nat} {x : Pkt × PA} (hc : ∀ i v, (gK x)[i]? = some v → w.cell? ⟨b, o + i, none⟩ = some v) : (loadVar 40 ⟨b, o, none⟩).run Tryd.prog w = .ok (pkV x.1 x.2) w :=
  run_load_cells w b o (gK x) 40 _ hc Tryd.underlying40 rfl pktSize
theorem cells_stepG {L : List Value} {w w' : World} {b k : Nat} (h : ∀ j v, L[j]? = some v → w.cell? ⟨b, k + j, none⟩ = some v) (hb : Below w.heap.size w w') : ∀ j v, L[j]? = some v → w'.cell? ⟨b, k + j, none⟩ = some v := fun j v hv => by
  have h1 := h j v hv
  have hl : b < w.heap.size := World.block_lt_of_cell? w ⟨b, k + j, none⟩ h1
  rw [hb.cell hl]; exact h1
theorem sameP_refl (p : Pkt) : sameP p p = true := by simp [sameP]
theorem sameM_refl (p : Msg) : sameM p p = true := by simp [sameM]
theorem KP.sz {w : World} {B : Nat} {x : Pkt × PA} (h : KP w B x) (hn : x.1.msg.props.length ≤ 100000) : PSz x.1 := ⟨by omega, by rw [h.2.1]; simp, by rw [h.2.2.1]; simp, by rw [h.2.2.2.1]; simp, by rw [h.2.2.2.2]; simp⟩

end Go.Proofs.YtomlideijhejfaaDoor
