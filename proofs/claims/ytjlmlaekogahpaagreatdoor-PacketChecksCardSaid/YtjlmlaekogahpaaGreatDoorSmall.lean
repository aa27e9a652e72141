/-
  What small and its helpers of brokerlaw06 answer: a truth value; if it is true, the lists are short and their texts too. Conditions: the packet reads as data; lengths fit an int.
-/
import Derived.Test.YtjlmlaekogahpaaGreatDoorChkL
namespace Go.Proofs.YtjlmlaekogahpaaGreatDoor
open Go.RowKit

def shortB (s : ByteArray) : Bool := decide (s.size ≤ 400)
theorem ztext_any (s : ByteArray) (w : World) : Calls Tryz.prog 29 #[.string s] w fun e w' => e = .returned (.bool (shortB s)) ∧ w = w' := by
  have HV : Hid (decide ((s.size : Int) ≤ 400) = shortB s) := Lib.hid (by unfold shortB; rw [decide_eq_decide]; omega)
  go_enter Tryz.func29, Tryz.ntmps29
  go_wp2
  go_ret
  exact ⟨retb HV.out, rfl⟩
/-- some truth value; if it is true, P holds -/
def SomeB (P : Prop) (w : World) (e : Ending) (w' : World) : Prop := ∃ b, e = .returned (.bool b) ∧ (b = true → P) ∧ Below w.heap.size w w'
theorem SomeB.no {P : Prop} {w w' : World} (hb : Below w.heap.size w w') : SomeB P w (.returned (.bool false)) w' := ⟨false, rfl, (fun h => by cases h), hb⟩
theorem SomeB.yes {P : Prop} {w w' : World} (hp : P) (hb : Below w.heap.size w w') : SomeB P w (.returned (.bool true)) w' := ⟨true, rfl, fun _ => hp, hb⟩
set_option maxRecDepth 20000 in
set_option maxHeartbeats 4000000 in
theorem zmessage_any (m : Msg) (A : Option Addr) (c : Nat) (w : World) (h : PL w w.heap.size A m.props) :
    Calls Tryz.prog 28 #[msgV m A c] w (SomeB (m.props.length ≤ 40) w) := by
  rw [show msgV m A c = .agg (msgC m A c).toArray from rfl]
  obtain ⟨w1, hw1⟩ : ∃ w1, w1 = w.alloc (.cells (msgC m A c).toArray 24) := ⟨_, rfl⟩
  have hb1 : Below w.heap.size w w1 := by rw [hw1]; exact (Below.refl _ _).alloc (Nat.le_refl _) _
  have hm1 : MT 24 w1 w.heap.size (msgC m A c) := by rw [hw1]; exact MT.new w _ _
  have hz1 : w.heap.size < w1.heap.size := hm1.lt
  have c0 : w1.cell? ⟨w.heap.size, 0, none⟩ = some (.string m.topic) := hm1.cell 0
  have c1 : w1.cell? ⟨w.heap.size, 1, none⟩ = some (.string m.payload) := hm1.cell 1
  have c6 : w1.cell? ⟨w.heap.size, 6, none⟩ = some (.string m.frm) := hm1.cell 6
  have c8 : w1.cell? ⟨w.heap.size, 8, none⟩ = some (.slice A m.props.length c) := hm1.cell 8
  have HM1 := Lib.hid hm1
  have HB1 := Lib.hid hb1
  have HW1 := Lib.hid hw1
  have HS1 := Lib.hid (h.step hb1)
  have H1 := Lib.hid (fun w => ztext_any m.topic w)
  have H2 := Lib.hid (fun w => ztext_any m.payload w)
  have H3 := Lib.hid (fun w => ztext_any m.frm w)
  have HT := Lib.hid (fun s w => ztext_any s w)
  generalize shortB m.topic = t1 at H1
  generalize shortB m.payload = t2 at H2
  generalize shortB m.frm = t3 at H3
  clear h hb1 hm1 hw1
  cases t1 with
  | false =>
    go_enter Tryz.func28, Tryz.ntmps28
    go_upto_region 1 with fail
    rw [← HW1.out]
    go_wp2_with fail
    refine (H1.out w1).mono ?_
    rintro e w' ⟨rfl, rfl⟩
    go_wp2_with fail
    go_ret
    exact SomeB.no HB1.out
  | true =>
    cases t2 with
    | false =>
      go_enter Tryz.func28, Tryz.ntmps28
      go_upto_region 1 with fail
      rw [← HW1.out]
      go_wp2_with fail
      refine (H1.out w1).mono ?_
      rintro e w' ⟨rfl, rfl⟩
      go_wp2_with fail
      refine (H2.out w1).mono ?_
      rintro e w' ⟨rfl, rfl⟩
      go_wp2_with fail
      go_ret
      exact SomeB.no HB1.out
    | true =>
      cases t3 with
      | false =>
        go_enter Tryz.func28, Tryz.ntmps28
        go_upto_region 1 with fail
        rw [← HW1.out]
        go_wp2_with fail
        refine (H1.out w1).mono ?_
        rintro e w' ⟨rfl, rfl⟩
        go_wp2_with fail
        refine (H2.out w1).mono ?_
        rintro e w' ⟨rfl, rfl⟩
        go_wp2_with fail
        refine (H3.out w1).mono ?_
        rintro e w' ⟨rfl, rfl⟩
        go_wp2_with fail
        go_ret
        exact SomeB.no HB1.out
      | true =>
        by_cases hl : 40 < m.props.length
        · have q4 : decide ((40 : Int) < (m.props.length : Int)) = true := decide_eq_true (by omega)
          clear hl
          go_enter Tryz.func28, Tryz.ntmps28
          go_upto_region 1 with fail
          rw [← HW1.out]
          go_wp2_with fail
          refine (H1.out w1).mono ?_
          rintro e w' ⟨rfl, rfl⟩
          go_wp2_with fail
          refine (H2.out w1).mono ?_
          rintro e w' ⟨rfl, rfl⟩
          go_wp2_with fail
          refine (H3.out w1).mono ?_
          rintro e w' ⟨rfl, rfl⟩
          go_wp2_with fail
          go_ret
          exact SomeB.no HB1.out
        · have q4 : decide ((40 : Int) < (m.props.length : Int)) = false := decide_eq_false (by omega)
          have HL : Hid (m.props.length ≤ 40) := Lib.hid (by omega)
          clear hl
          go_enter Tryz.func28, Tryz.ntmps28
          go_upto_region 1 with fail
          rw [← HW1.out]
          go_wp2_with fail
          refine (H1.out w1).mono ?_
          rintro e w' ⟨rfl, rfl⟩
          go_wp2_with fail
          refine (H2.out w1).mono ?_
          rintro e w' ⟨rfl, rfl⟩
          go_wp2_with fail
          refine (H3.out w1).mono ?_
          rintro e w' ⟨rfl, rfl⟩
          go_wp2_with fail
          go_loopg [3] m.props.length (fun g v wr => ∃ k : Nat, k + g = m.props.length ∧ v = .int .i64 k ∧ w1 = wr)
          case atStart => exact ⟨0, by omega, rfl, rfl⟩
          case round =>
            obtain ⟨k, hkg, rfl, rfl⟩ := hrel
            have HG := Lib.hid hkg
            cases gk with
            | zero =>
              obtain rfl : k = m.props.length := by omega
              clear hkg
              go_wp2_with fail
              go_ret
              exact SomeB.yes HL.out HB1.out
            | succ g =>
              have hlt : k < m.props.length := by omega
              have e3 : decide ((k : Int) < (m.props.length : Int)) = true := decide_eq_true (by omega)
              obtain ⟨x, hx⟩ : ∃ x, m.props[k]? = some x := ⟨_, List.getElem?_eq_getElem hlt⟩
              obtain ⟨b, o, hA, hbB, kk, kv⟩ := PL.at_ HS1.out hx
              subst hA
              have j1 : (0 : Int) ≤ (k : Int) := by omega
              have j2 : (k : Int) < (m.props.length : Int) := by omega
              have h63 : m.props.length ≤ 40 := HL.out
              have T1 := Lib.hid (fun w => HT.out x.1 w)
              have T2 := Lib.hid (fun w => HT.out x.2 w)
              generalize shortB x.1 = u1 at T1
              generalize shortB x.2 = u2 at T2
              clear hx hkg
              cases u1 with
              | false =>
                go_wp2_with fail
                refine (T1.out w1).mono ?_
                rintro e w' ⟨rfl, rfl⟩
                go_wp2_with fail
                go_ret
                exact SomeB.no HB1.out
              | true =>
                cases u2 with
                | false =>
                  go_wp2_with fail
                  refine (T1.out w1).mono ?_
                  rintro e w' ⟨rfl, rfl⟩
                  go_wp2_with fail
                  refine (T2.out w1).mono ?_
                  rintro e w' ⟨rfl, rfl⟩
                  go_wp2_with fail
                  go_ret
                  exact SomeB.no HB1.out
                | true =>
                  go_wp2_with fail
                  refine (T1.out w1).mono ?_
                  rintro e w' ⟨rfl, rfl⟩
                  go_wp2_with fail
                  refine (T2.out w1).mono ?_
                  rintro e w' ⟨rfl, rfl⟩
                  go_wp2_with fail
                  go_roundg g
                  case measure => omega
                  case rel => exact ⟨k + 1, by have := HG.out; omega, by go_num, rfl⟩

/-- what small tells -/
def SmallP (p : Pkt) : Prop := p.msg.props.length ≤ 40 ∧ p.wmsg.props.length ≤ 40 ∧ p.subs.length ≤ 40 ∧ p.filters.length ≤ 40 ∧ p.codes.length ≤ 40 ∧ (∀ x ∈ p.subs, x.1.size ≤ 400) ∧ (∀ x ∈ p.filters, x.size ≤ 400)
theorem zb_done {α : Type} {f : α → Nat} {l : List α} (h : ZUpto f l l.length) : ∀ x ∈ l, f x = 0 := fun x hx => by
  obtain ⟨j, hj⟩ := List.mem_iff_getElem?.1 hx
  exact h j x (List.getElem?_eq_some_iff.1 hj).1 hj
def sE (x : SB) : Nat := if x.1.size ≤ 400 then 0 else 1
def fE (x : ByteArray) : Nat := if x.size ≤ 400 then 0 else 1
theorem sE_le {x : SB} (h : sE x = 0) : x.1.size ≤ 400 := by unfold sE at h; split at h <;> simp_all
theorem fE_le {x : ByteArray} (h : fE x = 0) : x.size ≤ 400 := by unfold fE at h; split at h <;> simp_all
theorem shortB_s {x : SB} (h : shortB x.1 = true) : sE x = 0 := by unfold sE; rw [if_pos (of_decide_eq_true h)]
theorem shortB_f {x : ByteArray} (h : shortB x = true) : fE x = 0 := by unfold fE; rw [if_pos (of_decide_eq_true h)]
set_option maxRecDepth 50000 in
set_option maxHeartbeats 16000000 in
theorem small6_any (p : Pkt) (a : PA) (w : World) (h : PIn w p a) :
    Calls Tryz.prog 10 #[pkV p a] w (SomeB (SmallP p) w) := by
  unfold pkV
  obtain ⟨w1, hw1⟩ : ∃ w1, w1 = w.alloc (.cells (pkC p a).toArray 31) := ⟨_, rfl⟩
  have hb1 : Below w.heap.size w w1 := by rw [hw1]; exact (Below.refl _ _).alloc (Nat.le_refl _) _
  have hm1 : MT 31 w1 w.heap.size (pkC p a) := by rw [hw1]; exact MT.new w _ _
  have hz1 : w.heap.size < w1.heap.size := hm1.lt
  have c12 : w1.cell? ⟨w.heap.size, 12, none⟩ = some (.string p.client) := hm1.cell 12
  have c13 : w1.cell? ⟨w.heap.size, 13, none⟩ = some (.string p.user) := hm1.cell 13
  have c31 : w1.cell? ⟨w.heap.size, 31, none⟩ = some (.slice a.s p.subs.length a.sc) := hm1.cell 31
  have c32 : w1.cell? ⟨w.heap.size, 32, none⟩ = some (.slice a.f p.filters.length a.fc) := hm1.cell 32
  have c33 : w1.cell? ⟨w.heap.size, 33, none⟩ = some (.slice a.c p.codes.length a.cc) := hm1.cell 33
  have HM1 := Lib.hid hm1
  have HB1 := Lib.hid hb1
  have HW1 := Lib.hid hw1
  have HP := Lib.hid h
  have C1 : Hid (∀ w, PIn w p a → Calls Tryz.prog 28 #[msgV p.msg a.m a.mc] w (SomeB (p.msg.props.length ≤ 40) w)) := Lib.hid (fun w h => zmessage_any p.msg a.m a.mc w h.m)
  have C2 : Hid (∀ w, PIn w p a → Calls Tryz.prog 28 #[msgV p.wmsg a.v a.vc] w (SomeB (p.wmsg.props.length ≤ 40) w)) := Lib.hid (fun w h => zmessage_any p.wmsg a.v a.vc w h.v)
  have H3 := Lib.hid (fun w => ztext_any p.client w)
  have H4 := Lib.hid (fun w => ztext_any p.user w)
  have HT := Lib.hid (fun s w => ztext_any s w)
  generalize shortB p.client = t3 at H3
  generalize shortB p.user = t4 at H4
  clear h hb1 hm1 hw1
  go_enter Tryz.func10, Tryz.ntmps10
  go_upto_region 1 with fail
  rw [← HW1.out]
  go_wp2_with (refine wpList_load_part (by rfl) 24 _ rfl w.heap.size 3 9 rfl 31 (pkC p a) (0, 0) _ HM1.out Tryz.underlying24 rfl info26 (by show 3 + 9 ≤ 34; decide) ?_)
  refine (C1.out w1 (HP.out.step HB1.out)).mono ?_
  rintro e w2 ⟨b2, rfl, hB2, hb⟩
  obtain ⟨hc2, hf2⟩ := bcell hb
  have hz2 : w.heap.size < w2.heap.size := Nat.lt_of_lt_of_le hz1 hb.size
  have HM2 := Lib.hid (MT.step HM1.out hb)
  have HB2 := Lib.hid (stepB HB1.out hb)
  have HX2 := Lib.hid hB2
  clear hb hB2
  cases b2 with
  | false =>
    go_wp2_with fail
    go_ret
    exact SomeB.no HB2.out
  | true =>
    go_wp2_with (refine wpList_load_part (by rfl) 24 _ rfl w.heap.size 20 9 rfl 31 (pkC p a) (0, 0) _ HM2.out Tryz.underlying24 rfl info26 (by show 20 + 9 ≤ 34; decide) ?_)
    refine (C2.out w2 (HP.out.step HB2.out)).mono ?_
    rintro e w3 ⟨b3, rfl, hB3, hb⟩
    obtain ⟨hc3, hf3⟩ := bcell hb
    have hz3 : w.heap.size < w3.heap.size := Nat.lt_of_lt_of_le hz2 hb.size
    have HM3 := Lib.hid (MT.step HM2.out hb)
    have HB3 := Lib.hid (stepB HB2.out hb)
    have HX3 := Lib.hid hB3
    clear hb hB3
    cases b3 with
    | false =>
      go_wp2_with fail
      go_ret
      exact SomeB.no HB3.out
    | true =>
      cases t3 with
      | false =>
        go_wp2_with fail
        refine (H3.out w3).mono ?_
        rintro e w' ⟨rfl, rfl⟩
        go_wp2_with fail
        go_ret
        exact SomeB.no HB3.out
      | true =>
        cases t4 with
        | false =>
          go_wp2_with fail
          refine (H3.out w3).mono ?_
          rintro e w' ⟨rfl, rfl⟩
          go_wp2_with fail
          refine (H4.out w3).mono ?_
          rintro e w' ⟨rfl, rfl⟩
          go_wp2_with fail
          go_ret
          exact SomeB.no HB3.out
        | true =>
          by_cases l0 : 40 < p.subs.length
          · have q0 : decide ((40 : Int) < (p.subs.length : Int)) = true := decide_eq_true (by omega)
            clear l0
            go_wp2_with fail
            refine (H3.out w3).mono ?_
            rintro e w' ⟨rfl, rfl⟩
            go_wp2_with fail
            refine (H4.out w3).mono ?_
            rintro e w' ⟨rfl, rfl⟩
            go_wp2_with fail
            go_ret
            exact SomeB.no HB3.out
          · have q0 : decide ((40 : Int) < (p.subs.length : Int)) = false := decide_eq_false (by omega)
            have HL0 : Hid (p.subs.length ≤ 40) := Lib.hid (by omega)
            by_cases l1 : 40 < p.filters.length
            · have q1 : decide ((40 : Int) < (p.filters.length : Int)) = true := decide_eq_true (by omega)
              clear l0 l1
              go_wp2_with fail
              refine (H3.out w3).mono ?_
              rintro e w' ⟨rfl, rfl⟩
              go_wp2_with fail
              refine (H4.out w3).mono ?_
              rintro e w' ⟨rfl, rfl⟩
              go_wp2_with fail
              go_ret
              exact SomeB.no HB3.out
            · have q1 : decide ((40 : Int) < (p.filters.length : Int)) = false := decide_eq_false (by omega)
              have HL1 : Hid (p.filters.length ≤ 40) := Lib.hid (by omega)
              by_cases l2 : 40 < p.codes.length
              · have q2 : decide ((40 : Int) < (p.codes.length : Int)) = true := decide_eq_true (by omega)
                clear l0 l1 l2
                go_wp2_with fail
                refine (H3.out w3).mono ?_
                rintro e w' ⟨rfl, rfl⟩
                go_wp2_with fail
                refine (H4.out w3).mono ?_
                rintro e w' ⟨rfl, rfl⟩
                go_wp2_with fail
                go_ret
                exact SomeB.no HB3.out
              · have q2 : decide ((40 : Int) < (p.codes.length : Int)) = false := decide_eq_false (by omega)
                have HL2 : Hid (p.codes.length ≤ 40) := Lib.hid (by omega)
                clear l0 l1 l2
                go_wp2_with fail
                refine (H3.out w3).mono ?_
                rintro e w' ⟨rfl, rfl⟩
                go_wp2_with fail
                refine (H4.out w3).mono ?_
                rintro e w' ⟨rfl, rfl⟩
                go_wp2_with fail
                have e31 : w3.cell? ⟨w.heap.size, 31, none⟩ = some (.slice a.s p.subs.length a.sc) := HM3.out.cell 31
                have e32 : w3.cell? ⟨w.heap.size, 32, none⟩ = some (.slice a.f p.filters.length a.fc) := HM3.out.cell 32
                clear hc2 hc3 hf2 hf3 c31 c32 c33 c12 c13
                go_loopg [3] p.subs.length (fun g v wr => ∃ k : Nat, k + g = p.subs.length ∧ v = .int .i64 k ∧ ZUpto sE p.subs k ∧ w3 = wr)
                case atStart => exact ⟨0, by omega, rfl, ZUpto.zero _ _, rfl⟩
                case round =>
                  obtain ⟨k, hkg, rfl, hrel, rfl⟩ := hrel
                  have HG := Lib.hid hkg
                  have HR := Lib.hid hrel
                  clear hrel
                  cases gk with
                  | zero =>
                    obtain rfl : k = p.subs.length := by omega
                    have HD3 := Lib.hid (zb_done HR.out)
                    clear hkg HG HR
                    go_wp2_with fail
                    go_loopg [4] p.filters.length (fun g v wr => ∃ k : Nat, k + g = p.filters.length ∧ v = .int .i64 k ∧ ZUpto fE p.filters k ∧ w3 = wr)
                    case atStart => exact ⟨0, by omega, rfl, ZUpto.zero _ _, rfl⟩
                    case round =>
                      obtain ⟨k, hkg, rfl, hrel, rfl⟩ := hrel
                      have HG := Lib.hid hkg
                      have HR := Lib.hid hrel
                      clear hrel
                      cases gk with
                      | zero =>
                        obtain rfl : k = p.filters.length := by omega
                        have HD4 := Lib.hid (zb_done HR.out)
                        clear hkg HG HR
                        go_wp2_with fail
                        go_ret
                        exact SomeB.yes ⟨HX2.out (by simp), HX3.out (by simp), HL0.out, HL1.out, HL2.out, fun x hx => sE_le (HD3.out x hx), fun x hx => fE_le (HD4.out x hx)⟩ HB3.out
                      | succ g =>
                        have hlt : k < p.filters.length := by omega
                        have e3 : decide ((k : Int) < (p.filters.length : Int)) = true := decide_eq_true (by omega)
                        obtain ⟨x, hx⟩ : ∃ x, p.filters[k]? = some x := ⟨_, List.getElem?_eq_getElem hlt⟩
                        obtain ⟨b, o, hA, hbB, kk⟩ := SL.at_ ((HP.out.step HB3.out).f) hx
                        have h63 : p.filters.length ≤ 40 := HL1.out
                        have j1 : (0 : Int) ≤ (k : Int) := by omega
                        have j2 : (k : Int) < (p.filters.length : Int) := by omega
                        have T1 := Lib.hid (fun w => HT.out x w)
                        have HS := Lib.hid (fun h0 : shortB x = true => HR.out.succ hx (shortB_f h0))
                        generalize shortB x = u1 at T1 HS
                        rw [hA] at e32
                        clear hx hkg hA
                        cases u1 with
                        | false =>
                          go_wp2_with fail
                          refine (T1.out w3).mono ?_
                          rintro e w' ⟨rfl, rfl⟩
                          go_wp2_with fail
                          go_ret
                          exact SomeB.no HB3.out
                        | true =>
                          have HS2 := Lib.hid (HS.out rfl)
                          clear HS
                          go_wp2_with fail
                          refine (T1.out w3).mono ?_
                          rintro e w' ⟨rfl, rfl⟩
                          go_wp2_with fail
                          go_roundg g
                          case measure => omega
                          case rel => exact ⟨k + 1, by have := HG.out; omega, by go_num, HS2.out, rfl⟩
                  | succ g =>
                    have hlt : k < p.subs.length := by omega
                    have e3 : decide ((k : Int) < (p.subs.length : Int)) = true := decide_eq_true (by omega)
                    obtain ⟨x, hx⟩ : ∃ x, p.subs[k]? = some x := ⟨_, List.getElem?_eq_getElem hlt⟩
                    obtain ⟨b, o, hA, hbB, kk, kv, kz⟩ := BL.at_ ((HP.out.step HB3.out).s) hx
                    have h63 : p.subs.length ≤ 40 := HL0.out
                    have j1 : (0 : Int) ≤ (k : Int) := by omega
                    have j2 : (k : Int) < (p.subs.length : Int) := by omega
                    have T1 := Lib.hid (fun w => HT.out x.1 w)
                    have HS := Lib.hid (fun h0 : shortB x.1 = true => HR.out.succ hx (shortB_s h0))
                    generalize shortB x.1 = u1 at T1 HS
                    rw [hA] at e31
                    clear hx hkg hA
                    cases u1 with
                    | false =>
                      go_wp2_with fail
                      refine (T1.out w3).mono ?_
                      rintro e w' ⟨rfl, rfl⟩
                      go_wp2_with fail
                      go_ret
                      exact SomeB.no HB3.out
                    | true =>
                      have HS2 := Lib.hid (HS.out rfl)
                      clear HS
                      go_wp2_with fail
                      refine (T1.out w3).mono ?_
                      rintro e w' ⟨rfl, rfl⟩
                      go_wp2_with fail
                      go_roundg g
                      case measure => omega
                      case rel => exact ⟨k + 1, by have := HG.out; omega, by go_num, HS2.out, rfl⟩

end Go.Proofs.YtjlmlaekogahpaaGreatDoor
