/-
  What few and awake of brokerlaw17 answer. Conditions: none.
-/
import Derived.Test.YtgnbiicfabldbabSh
import Derived.Test.YtgnbiicfabldbabSf
namespace Go.Proofs.Ytgnbiicfabldbab
open Go.RowKit
open S2 (BK Put)

def exA : Msg := { Msg.zero with topic := ⟨#[97]⟩, exps := 5 }
def exB : Msg := { Msg.zero with topic := ⟨#[98]⟩, payload := ⟨#[120, 121]⟩ }
def exC : Msg := { Msg.zero with topic := ⟨#[99]⟩ }
theorem ex1 : pushR [exA, exB] exC 2 1 = ([exB, exC], [exA], false) := rfl
theorem ex2 : pushR [exA, exB] exC 2 3 = ([exA, exB], [exC], true) := rfl
theorem ex3 : atR [exA, exB] 5 = 1 := by decide
theorem ex4 : bytesR [exA, exB] = 2 := by decide
theorem two_of {ys : List ME} {a b : Msg} (h : ys.map ME.m = [a, b]) : ∃ y z : ME, ys = [y, z] ∧ y.m = a ∧ z.m = b := by
  rcases ys with _ | ⟨y, _ | ⟨z, _ | ⟨u, ys⟩⟩⟩ <;> simp at h
  exact ⟨y, z, rfl, h.1, h.2⟩
theorem one_of' {ys : List ME} {a : Msg} (h : ys.map ME.m = [a]) : ∃ y : ME, ys = [y] ∧ y.m = a := by
  rcases ys with _ | ⟨y, _ | ⟨z, ys⟩⟩ <;> simp at h
  exact ⟨y, rfl, h⟩
theorem none_of {ys : List ME} (h : ys.map ME.m = []) : ys = [] := by simpa using h
/-- where the topic of an element lies -/
theorem topic_at {w : World} {A : Option Addr} {xs : List ME} (h : MI w w.heap.size A xs) {x : ME} (hx : xs[0]? = some x) : ∃ b o, A = some ⟨b, o, none⟩ ∧ ∀ j y, xs[j]? = some y → w.cell? ⟨b, o + j * 9, none⟩ = some (.string y.m.topic) := by
  obtain ⟨b, o, e, hb, hc⟩ := h.1 (by have := (List.getElem?_eq_some_iff.1 hx).1; omega)
  exact ⟨b, o, e, fun j y hy => hc j y 0 _ hy rfl⟩
theorem few_any (A : Option Addr) (n c : Nat) (w : World) : Calls Try.prog 9 #[.slice A n c] w fun e w' => e = .returned (.bool (decide ((n : Int) ≤ 300))) ∧ Below w.heap.size w w' := by
  go_enter Try.func9, Try.ntmps9
  go_wp2
  go_ret
  exact ⟨rfl, Below.refl _ _⟩
def exL : List ME := [⟨exA, none, 0⟩, ⟨exB, none, 0⟩]
theorem exL_mi {w : World} {A : Option Addr} (h : GL gM 9 w w.heap.size A exL) : MI w w.heap.size A exL := ⟨h, fun x hx => by
  have : x.m.props = [] := by
    simp only [exL, List.mem_cons, List.not_mem_nil, or_false] at hx
    rcases hx with rfl | rfl <;> rfl
  rw [show mps x = [] from this]; exact GL.nil _ _ _⟩
theorem exL_p : ∀ x ∈ exL, x.m.props.length ≤ 4398046511104 := fun x hx => by
  simp only [exL, List.mem_cons, List.not_mem_nil, or_false] at hx
  rcases hx with rfl | rfl <;> decide

set_option maxRecDepth 20000 in
set_option maxHeartbeats 8000000 in
theorem awake17_any (w : World) : Calls Try.prog 10 #[] w fun e w' => e = .returned (.bool true) ∧ Below w.heap.size w w' := by
  have H1 : Hid (∀ A w1, MI w1 w1.heap.size A exL → Calls Try.prog 11 #[.slice A 2 2, msgV exC none 0, .int .i64 2, .int .i64 1] w1 (RetPu ([exB, exC], [exA], false) w1)) := Lib.hid (fun A w1 h => by
    have := sPush_any A 2 exL exC none 0 2 1 w1 h (GL.nil _ _ _) (by decide) (by decide) exL_p (by decide)
    rwa [show pushR (exL.map ME.m) exC 2 1 = _ from ex1] at this)
  have H2 : Hid (∀ A w1, MI w1 w1.heap.size A exL → Calls Try.prog 11 #[.slice A 2 2, msgV exC none 0, .int .i64 2, .int .i64 3] w1 (RetPu ([exA, exB], [exC], true) w1)) := Lib.hid (fun A w1 h => by
    have := sPush_any A 2 exL exC none 0 2 3 w1 h (GL.nil _ _ _) (by decide) (by decide) exL_p (by decide)
    rwa [show pushR (exL.map ME.m) exC 2 3 = _ from ex2] at this)
  have H3 : Hid (∀ A w1, MI w1 w1.heap.size A exL → Calls Try.prog 16 #[.slice A 2 2, .int .i64 5] w1 (RetPo [exA, exB] 5 w1)) := Lib.hid (fun A w1 h => sPop_any A 2 exL 5 w1 h (by decide) (by decide) exL_p)
  have H4 : Hid (∀ A c ys A' w1, ys.map ME.m = [exA, exB] → MI w1 w1.heap.size A ys → MI w1 w1.heap.size A' exL → Calls Try.prog 13 #[.slice A 2 c, .slice A' 2 2] w1 fun e w' => e = .returned (.bool true) ∧ Below w1.heap.size w1 w') := Lib.hid (fun A c ys A' w1 hy h1 h2 => by
    obtain ⟨y, z, rfl, hy1, hy2⟩ := two_of hy
    have := rSameQ_any A c [y, z] A' 2 exL w1 h1 h2 (by simp) (fun x hx => by
      simp only [List.mem_cons, List.not_mem_nil, or_false] at hx
      rcases hx with rfl | rfl
      · rw [hy1]; decide
      · rw [hy2]; decide)
    rwa [decide_eq_true (show [y, z].map ME.m = exL.map ME.m from hy)] at this)
  have H5 : Hid (∀ A w1, MI w1 w1.heap.size A exL → Calls Try.prog 19 #[.slice A 2 2] w1 fun e w' => e = .returned (.int .i64 2) ∧ Below w1.heap.size w1 w') := Lib.hid (fun A w1 h => by
    have := sBytes_any A 2 exL w1 h (by decide) (fun x hx => by
      simp only [exL, List.mem_cons, List.not_mem_nil, or_false] at hx
      rcases hx with rfl | rfl <;> decide)
    rwa [show ((bytesR (exL.map ME.m) : Nat) : Int) = 2 from by rw [show exL.map ME.m = [exA, exB] from rfl, ex4]; rfl] at this)
  unfold msgV at H1 H2
  go_enter Try.func10, Try.ntmps10
  go_upto_region 2 with fail
  refine name_world (C := fun w1 => Code.wp _ _ _ _ w1) (w.alloc (.cells (exL.flatMap gM).toArray 25)) ?_
  intro w1 hw1
  have hb1 : Below w.heap.size w w1 := by rw [hw1]; exact S2.below_new w _
  have Q_w1 : Hid (MI w1 w1.heap.size (some ⟨w.heap.size, 0, none⟩) exL) := Lib.hid (exL_mi (by rw [hw1]; exact GL.new gM_len))
  have B_w1 := Lib.hid hb1
  clear hw1 hb1
  go_wp2_with fail
  refine (H1.out (some ⟨w.heap.size, 0, none⟩) w1 Q_w1.out).mono ?_
  rintro e w2 ⟨A1, c1, ys, A2, c2, zs, rfl, hys, hzs, _, _, hl1, hl2, hb⟩
  obtain ⟨y1, y2, rfl, hy1, hy2⟩ := two_of hys
  obtain ⟨z1, rfl, hz1⟩ := one_of' hzs
  have Q_w2 := Lib.hid (Q_w1.out.step hb)
  have B_w2 := Lib.hid (stepB B_w1.out hb)
  have Y_w2 := Lib.hid hl1
  have Z_w2 := Lib.hid hl2
  have HY := Lib.hid (And.intro hy1 (And.intro hy2 hz1))
  clear hb hl1 hl2 hys hzs hy1 hy2 hz1 Q_w1 B_w1 H1
  go_wp2_with fail
  refine (H2.out (some ⟨w.heap.size, 0, none⟩) w2 Q_w2.out).mono ?_
  rintro e w3 ⟨A3, c3, ys, A4, c4, zs, rfl, hys, hzs, _, _, hl1, hl2, hb⟩
  have HYS := Lib.hid hys
  obtain ⟨y3, y4, rfl, hy1, hy2⟩ := two_of hys
  obtain ⟨z2, rfl, hz1⟩ := one_of' hzs
  have Q_w3 := Lib.hid (Q_w2.out.step hb)
  have B_w3 := Lib.hid (stepB B_w2.out hb)
  have Y_w3 := Lib.hid (Y_w2.out.step hb)
  have Z_w3 := Lib.hid (Z_w2.out.step hb)
  have U_w3 := Lib.hid hl1
  have V_w3 := Lib.hid hl2
  have HZ := Lib.hid hz1
  clear hb hl1 hl2 hys hzs hy1 hy2 hz1 Q_w2 B_w2 Y_w2 Z_w2 H2
  go_wp2_with fail
  refine (H3.out (some ⟨w.heap.size, 0, none⟩) w3 Q_w3.out).mono ?_
  rintro e w4 ⟨m, am, cm, A5, c5, ys, A6, c6, zs, bb, rfl, hcs, _, _, hpl, hl1, hl2, hb⟩
  rw [ex3] at hcs
  rcases hcs with ⟨_, rfl, hm, hys, hzs⟩ | ⟨hbad, _⟩
  case inr => exact absurd hbad (by decide)
  obtain rfl : m = exB := by simpa using hm.symm
  obtain rfl := none_of hys
  obtain ⟨z3, rfl, hz3⟩ := one_of' hzs
  have Q_w4 := Lib.hid (Q_w3.out.step hb)
  have B_w4 := Lib.hid (stepB B_w3.out hb)
  have Y_w4 := Lib.hid (Y_w3.out.step hb)
  have Z_w4 := Lib.hid (Z_w3.out.step hb)
  have U_w4 := Lib.hid (U_w3.out.step hb)
  have V_w4 := Lib.hid (V_w3.out.step hb)
  clear hb hl1 hl2 hys hzs hpl hm hz3 Q_w3 B_w3 Y_w3 Z_w3 U_w3 V_w3 H3
  unfold msgV
  go_upto_region 5 with first
    | (refine S2.wpList_store_all (by rfl) 25 (.tmp 8) (.tmp 32) rfl rfl w4.heap.size rfl (msgC exB am cm) rfl 25 (msgC Msg.zero none 0) (BK.new w4 _ _) msgSize rfl (msgC_one _ _ _) ?_; intro w5 hM hP; have M_w5 : Hid (BK 25 w5 w4.heap.size (msgC exB am cm)) := Lib.hid hM; have hb : Below w4.heap.size w4 w5 := hP.below (S2.below_new w4 _) (Nat.le_refl _); have Q_w5 := Lib.hid (Q_w4.out.step hb); have B_w5 := Lib.hid (stepB B_w4.out hb); have Y_w5 := Lib.hid (Y_w4.out.step hb); have Z_w5 := Lib.hid (Z_w4.out.step hb); have U_w5 := Lib.hid (U_w4.out.step hb); have V_w5 := Lib.hid (V_w4.out.step hb); clear hM hP hb Q_w4 B_w4 Y_w4 Z_w4 U_w4 V_w4)
  obtain ⟨b1, o1, rfl, t1⟩ := topic_at Y_w5.out rfl
  obtain ⟨b2, o2, rfl, t2⟩ := topic_at Z_w5.out rfl
  obtain ⟨b4, o4, rfl, t4⟩ := topic_at V_w5.out rfl
  have HT4 := Lib.hid (fun w1 (h : Below w5.heap.size w5 w1) => (topic_at (V_w5.out.step h) rfl))
  have d1 : w5.cell? ⟨b1, o1, none⟩ = some (.string ⟨#[98]⟩) := by have := t1 0 y1 rfl; rw [HY.out.1] at this; simpa [exB] using this
  have d2 : w5.cell? ⟨b1, o1 + 9, none⟩ = some (.string ⟨#[99]⟩) := by have := t1 1 y2 rfl; rw [HY.out.2.1] at this; simpa [exC] using this
  have d3 : w5.cell? ⟨b2, o2, none⟩ = some (.string ⟨#[97]⟩) := by have := t2 0 z1 rfl; rw [HY.out.2.2] at this; simpa [exA] using this
  clear t1 t2 t4
  go_wp2_with fail
  refine (H4.out A3 c3 [y3, y4] (some ⟨w.heap.size, 0, none⟩) w5 HYS.out U_w5.out Q_w5.out).mono ?_
  rintro e w6 ⟨rfl, hb⟩
  have Q_w6 := Lib.hid (Q_w5.out.step hb)
  have B_w6 := Lib.hid (stepB B_w5.out hb)
  obtain ⟨b4', o4', e4, t4⟩ := HT4.out w6 hb
  simp only [Option.some.injEq, Addr.mk.injEq, and_true] at e4
  obtain ⟨rfl, rfl⟩ := e4
  have d4 : w6.cell? ⟨b4, o4, none⟩ = some (.string ⟨#[99]⟩) := by have := t4 0 z2 rfl; rw [HZ.out] at this; simpa [exC] using this
  have d5 : w6.cell? ⟨w4.heap.size, 0, none⟩ = some (.string ⟨#[98]⟩) := (M_w5.out.step hb).cell 0 rfl
  clear d1 d2 d3 t4 hb H4
  go_wp2_with fail
  refine (H5.out (some ⟨w.heap.size, 0, none⟩) w6 Q_w6.out).mono ?_
  rintro e w7 ⟨rfl, hb⟩
  have B_w7 := Lib.hid (stepB B_w6.out hb)
  clear hb d4 d5
  go_wp2
  go_ret
  exact ⟨rfl, B_w7.out⟩
end Go.Proofs.Ytgnbiicfabldbab
