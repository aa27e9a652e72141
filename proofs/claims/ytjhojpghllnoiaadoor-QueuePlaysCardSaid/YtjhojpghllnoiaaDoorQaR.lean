/-
  What a valid queue is, and what small of brokerlaw25 answers. Conditions: the list reads as data; texts fit.
-/
import Derived.Test.YtjhojpghllnoiaaDoorQaO
namespace Go.Proofs.YtjhojpghllnoiaaDoor
open Go.RowKit
open S2 (BK Put get_ops)

abbrev DistQ (l : List En) : Prop := l.Pairwise (fun a b => a.k ≠ b.k)
theorem hasQ_false {l : List En} {k : Int} (h : hasQ l k = false) : ∀ a ∈ l, a.k ≠ k := fun a ha e => by
  unfold hasQ at h
  rw [List.any_eq_false] at h
  exact h a ha (by simp [e])
theorem sort_snoc {pre : List En} {x : En} (hs : SortQ pre) (ha : afterR pre x = true) : SortQ (pre ++ [x]) := by
  refine List.pairwise_append.2 ⟨hs, List.pairwise_singleton _ _, fun a ha' b hb => ?_⟩
  rw [List.mem_singleton] at hb
  subst hb
  unfold afterR at ha
  cases hg : pre.getLast? with
  | none =>
    rw [List.getLast?_eq_none_iff] at hg
    subst hg
    cases ha'
  | some p =>
    rw [hg] at ha
    obtain ⟨ys, rfl⟩ := List.getLast?_eq_some_iff.1 hg
    rcases List.mem_append.1 ha' with h | h
    · exact precR_trans ((List.pairwise_append.1 hs).2.2 a h p (List.mem_singleton.2 rfl)) ha
    · rw [List.mem_singleton] at h
      subst h
      exact ha
theorem dist_snoc {pre : List En} {x : En} (hs : DistQ pre) (ha : hasQ pre x.k = false) : DistQ (pre ++ [x]) := by
  refine List.pairwise_append.2 ⟨hs, List.pairwise_singleton _ _, fun a ha' b hb => ?_⟩
  rw [List.mem_singleton] at hb
  subst hb
  exact hasQ_false ha a ha'
theorem vloop_parts (n : Int) : ∀ (r pre : List En), SortQ pre → DistQ pre → vloop n pre r = 0 → (∀ x ∈ r, entR x n = 0) ∧ SortQ (pre ++ r) ∧ DistQ (pre ++ r)
  | [], pre, hs, hd, _ => ⟨(fun x hx => by cases hx), (by rw [List.append_nil]; exact hs), (by rw [List.append_nil]; exact hd)⟩
  | x :: r, pre, hs, hd, h => by
    unfold vloop at h
    by_cases h1 : entR x n ≠ 0
    · rw [if_pos h1] at h
      exact absurd h h1
    rw [if_neg h1] at h
    by_cases h2 : hasQ pre x.k = true
    · rw [if_pos h2] at h
      cases h
    rw [if_neg h2] at h
    by_cases h3 : afterR pre x = false
    · rw [if_pos h3] at h
      cases h
    rw [if_neg h3] at h
    obtain ⟨a, b, c⟩ := vloop_parts n r (pre ++ [x]) (sort_snoc hs (by simpa using h3)) (dist_snoc hd (by simpa using h2)) h
    rw [List.append_assoc] at b c
    refine ⟨fun y hy => ?_, b, c⟩
    rcases List.mem_cons.1 hy with rfl | hy
    · exact Decidable.not_not.1 h1
    · exact a y hy
/-- a valid queue -/
theorem validR_parts {s : Sp} {n : Int} {l : List En} (h : validR s n l = 0) : specR s = 0 ∧ (1 ≤ n ∧ n ≤ 1099511627776) ∧ l.length ≤ 4352 ∧ (∀ x ∈ l, entR x n = 0) ∧ SortQ l ∧ DistQ l := by
  unfold validR at h
  by_cases h1 : specR s ≠ 0
  · rw [if_pos h1] at h
    exact absurd (by exact_mod_cast h) h1
  rw [if_neg h1] at h
  by_cases h2 : inR n 1 1099511627776 = false
  · rw [if_pos h2] at h
    cases h
  rw [if_neg h2] at h
  by_cases h3 : 4352 < (l.length : Int)
  · rw [if_pos h3] at h
    cases h
  rw [if_neg h3] at h
  obtain ⟨a, b, c⟩ := vloop_parts n l [] List.Pairwise.nil List.Pairwise.nil h
  exact ⟨Decidable.not_not.1 h1, inR_iff.1 (by simpa using h2), by omega, a, b, c⟩

set_option maxRecDepth 20000 in
set_option maxHeartbeats 8000000 in
theorem small_any (s : Sp) (n : Int) (A : Option Addr) (c : Nat) (l : List EE) (w : World) (hz : s.name.size ≤ 9223372036854775807 ∧ s.dead.size ≤ 9223372036854775807) (hsl : EI w w.heap.size A l) (hc : l.length ≤ c) (hzp : ∀ y ∈ l, y.x.m.topic.size ≤ 9223372036854775807 ∧ y.x.m.frm.size ≤ 9223372036854775807 ∧ ∀ z ∈ y.x.m.props, z.1.size ≤ 9223372036854775807) :
    Calls Tryd.prog 8 #[quV s n (.slice A l.length c)] w fun e w' => e = .returned (.bool (decide (l.length ≤ 60 ∧ validR s n (l.map EE.x) = 0))) ∧ Below w.heap.size w w' := by
  have HV := Lib.hid (fun w1 h2 (h3 : l.length ≤ 1000000) => rValid_any s n A c l w1 h2 hz h3 hc hzp)
  have HS := Lib.hid hsl
  obtain ⟨V, hV⟩ : ∃ V, decide (l.length ≤ 60 ∧ validR s n (l.map EE.x) = 0) = V := ⟨_, rfl⟩
  rw [hV]
  have HN0 : Hid (¬ l.length ≤ 60 → V = false) := Lib.hid (fun h => by rw [← hV]; exact decide_eq_false (fun e => h e.1))
  have HN1 : Hid (l.length ≤ 60 → decide (validR s n (l.map EE.x) = 0) = V) := Lib.hid (fun h => by rw [← hV]; simp [h])
  generalize validR s n (l.map EE.x) = R at HV HN1
  clear hV hz hsl hc hzp
  unfold quV at HV ⊢
  go_enter Tryd.func8, Tryd.ntmps8
  go_upto_region 1 with fail
  refine name_world (C := fun w1 => Code.wp _ _ _ _ w1) (w.alloc (.cells (quC s n (.slice A l.length c)).toArray 26)) ?_
  intro w1 hw1
  have hb1 : Below w.heap.size w w1 := by rw [hw1]; exact S2.below_new w _
  have Q_w1 : Hid (BK 26 w1 w.heap.size (quC s n (.slice A l.length c))) := Lib.hid (by rw [hw1]; exact BK.new w _ _)
  have B_w1 := Lib.hid hb1
  clear hw1 hb1
  have d6 := Q_w1.out.cell 6 rfl
  by_cases h0 : l.length ≤ 60
  · have q1 : decide ((l.length : Int) ≤ 60) = true := decide_eq_true (by omega)
    have hq := HN1.out h0
    have HN6 : Hid (l.length ≤ 1000000) := Lib.hid (by omega)
    have HL1 := Lib.hid (load_qu Q_w1.out)
    unfold quV at HL1
    clear h0
    go_wp2_with first
      | (refine wpList_load_v (by rfl) 26 _ rfl ⟨w.heap.size, 0, none⟩ (by first | rfl | go_simp) _ HL1.out ?_)
    refine (HV.out w1 (HS.out.step B_w1.out) HN6.out).mono ?_
    rintro e w2 ⟨rfl, hb⟩
    have B_w2 := Lib.hid (stepB B_w1.out hb)
    have q2 : (R == 0) = V := by rw [← hq]; by_cases h : R = 0 <;> simp [h]
    clear hb d6 hq
    go_wp2
    go_ret
    exact ⟨by first | rfl | rw [q2], B_w2.out⟩
  · have q1 : decide ((l.length : Int) ≤ 60) = false := decide_eq_false (by omega)
    obtain rfl := HN0.out h0
    clear h0
    go_wp2
    go_ret
    exact ⟨rfl, B_w1.out⟩
end Go.Proofs.YtjhojpghllnoiaaDoor
