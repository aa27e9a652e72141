/-
  What Check of message and of the specification answers. Conditions: the message reads as data; lengths fit an int; the library's bound on short texts holds a number.
-/
import Derived.Test.YtjhojpghllnoiaaDoorPropP
import Derived.Test.YtjhojpghllnoiaaDoorTopic
namespace Go.Proofs.YtjhojpghllnoiaaDoor
open Go.RowKit

theorem size_zero {s : ByteArray} (h : s.size = 0) : s = ⟨#[]⟩ := dl_inj ((List.eq_nil_of_length_eq_zero (l := dl s) (by rw [← size_dl]; exact h)).trans rfl)
theorem str_some {s : ByteArray} (h : s ≠ ⟨#[]⟩) : s.toList.isEmpty = false := S1.nonempty_of s (by
  rcases Nat.eq_zero_or_pos s.size with h0 | h0
  · exact absurd (size_zero h0) h
  · exact h0)
theorem str_none {s : ByteArray} (h : s = ⟨#[]⟩) : s.toList.isEmpty = true := S1.empty_of s (by rw [h]; rfl)

/-- the cells of a message that a call boxes -/
theorem box_msg (w : World) (v0 v1 v2 v3 v4 v5 v6 v7 v8 : Value) (t : TypeId) (w1 : World) (hb : Below (w.alloc (.cells #[v0, v1, v2, v3, v4, v5, v6, v7, v8] t)).heap.size (w.alloc (.cells #[v0, v1, v2, v3, v4, v5, v6, v7, v8] t)) w1) :
    w1.cell? ⟨w.heap.size, 0, none⟩ = some v0 ∧ w1.cell? ⟨w.heap.size, 1, none⟩ = some v1 ∧ w1.cell? ⟨w.heap.size, 2, none⟩ = some v2 ∧ w1.cell? ⟨w.heap.size, 3, none⟩ = some v3 ∧ w1.cell? ⟨w.heap.size, 4, none⟩ = some v4 ∧ w1.cell? ⟨w.heap.size, 5, none⟩ = some v5 ∧ w1.cell? ⟨w.heap.size, 6, none⟩ = some v6 ∧ w1.cell? ⟨w.heap.size, 7, none⟩ = some v7 ∧ w1.cell? ⟨w.heap.size, 8, none⟩ = some v8 := by
  refine ⟨?_, ?_, ?_, ?_, ?_, ?_, ?_, ?_, ?_⟩ <;>
  · rw [hb.cell (by simp), World.cell?_alloc_at _ _ _ _ (by rfl)]; rfl

def withinR (n last : Int) : Bool := decide (0 ≤ n) && decide (n ≤ last)
theorem within_yes {n last : Int} (h : ¬ (n < 0 ∨ last < n)) : withinR n last = true := by unfold withinR; simp; omega
theorem within_no {n last : Int} (h : n < 0 ∨ last < n) : withinR n last = false := by unfold withinR; rw [Bool.eq_false_iff]; simp; omega
set_option maxHeartbeats 1000000 in
theorem within_any (n last : Int) (w : World) : Calls Tryd.prog 50 #[.int .i64 n, .int .i64 last] w fun e w' => e = .returned (.bool (withinR n last)) ∧ w = w' := by
  by_cases h : 0 ≤ n
  · have q : decide (0 ≤ n) = true := decide_eq_true h
    have HV : Hid (withinR n last = decide (n ≤ last)) := Lib.hid (by unfold withinR; rw [q]; rfl)
    clear h
    go_enter Tryd.func50, Tryd.ntmps50
    go_wp2
    go_ret
    exact ⟨retb HV.out.symm, rfl⟩
  · have q : decide (0 ≤ n) = false := decide_eq_false h
    have HV : Hid (withinR n last = false) := Lib.hid (by unfold withinR; rw [q]; rfl)
    clear h
    go_enter Tryd.func50, Tryd.ntmps50
    go_wp2
    go_ret
    exact ⟨retb HV.out.symm, rfl⟩

set_option maxRecDepth 20000 in
set_option maxHeartbeats 8000000 in
theorem rCheck_any (m : Msg) (A : Option Addr) (c : Nat) (w : World) (hsl : PL w w.heap.size A m.props) (ht : m.topic.size ≤ 9223372036854775807) (hf : m.frm.size ≤ 9223372036854775807) (hz : ∀ x ∈ m.props, x.1.size ≤ 9223372036854775807) :
    Calls Tryd.prog 44 #[msgV m A c] w fun e w' => e = .returned (.int .i64 (checkR m)) ∧ Below w.heap.size w w' := by
  unfold msgV
  have hbn : Below w.heap.size w (w.alloc (.cells #[.string m.topic, .string m.payload, .int .i64 m.level, .bool m.retain, .int .i64 m.prio, .int .i64 m.exps, .string m.frm, .int .i64 m.seq, .slice A m.props.length c] 32)) := (Below.refl _ _).alloc (Nat.le_refl _) _
  have CV : ∀ w, Calls Tryd.prog 62 #[.string m.topic] w fun e w' => e = .returned (.bool (validT m.topic)) ∧ Below w.heap.size w w' := fun w => S1.rValid_any m.topic w ht
  have CN : ∀ w, Calls Tryd.prog 42 #[.string m.frm] w fun e w' => e = .returned (.bool (nameR m.frm)) ∧ w = w' := fun w => S1.rName_any m.frm w hf
  have CP := Lib.hid (fun w h => vProps_any A c m.props w h hz)
  have HV := Lib.hid (CV (w.alloc (.cells #[.string m.topic, .string m.payload, .int .i64 m.level, .bool m.retain, .int .i64 m.prio, .int .i64 m.exps, .string m.frm, .int .i64 m.seq, .slice A m.props.length c] 32)))
  have HN := Lib.hid CN
  have HSL := Lib.hid hsl
  have HB0 := Lib.hid hbn
  clear CV CN hsl hbn ht hf hz
  by_cases h0 : validT m.topic = false
  case pos =>
    have HR : Hid (checkR m = 12) := Lib.hid (by unfold checkR; rw [if_pos h0])
    rw [h0] at HV
    clear h0
    go_enter Tryd.func44, Tryd.ntmps44
    go_wp2_with fail
    refine HV.out.mono ?_
    rintro e w1 ⟨rfl, hb⟩
    have HB1 := Lib.hid (stepB HB0.out hb)
    clear hb
    go_wp2
    go_ret
    exact ⟨ret_i2 (by rw [HR.out]; rfl), HB1.out⟩
  by_cases h1 : 256 < m.payload.size
  case pos =>
    have HR : Hid (checkR m = 5) := Lib.hid (by unfold checkR; rw [if_neg h0, if_pos h1])
    have hv : validT m.topic = true := by simpa using h0
    rw [hv] at HV
    clear hv
    have q_p : decide ((256 : Int) < (m.payload.size : Int)) = true := decide_eq_true (by omega)
    clear h0 h1
    go_enter Tryd.func44, Tryd.ntmps44
    go_wp2_with fail
    refine HV.out.mono ?_
    rintro e w1 ⟨rfl, hb⟩
    obtain ⟨k0, k1, k2, k3, k4, k5, k6, k7, k8⟩ := box_msg w _ _ _ _ _ _ _ _ _ _ w1 hb
    have HB1 := Lib.hid (stepB HB0.out hb)
    have HX1 := Lib.hid hb
    clear hb
    go_wp2
    go_ret
    exact ⟨ret_i2 (by rw [HR.out]; rfl), HB1.out⟩
  by_cases h2 : m.level < 0 ∨ 2 < m.level
  case pos =>
    have HR : Hid (checkR m = 14) := Lib.hid (by unfold checkR; rw [if_neg h0, if_neg h1, if_pos h2])
    have hv : validT m.topic = true := by simpa using h0
    rw [hv] at HV
    clear hv
    have q_p : decide ((256 : Int) < (m.payload.size : Int)) = false := decide_eq_false (by omega)
    by_cases hs : m.level < 0
    · have q_level0 : decide (m.level < 0) = true := decide_eq_true (by omega)
      clear h0 h1 h2
      clear hs
      go_enter Tryd.func44, Tryd.ntmps44
      go_wp2_with fail
      refine HV.out.mono ?_
      rintro e w1 ⟨rfl, hb⟩
      obtain ⟨k0, k1, k2, k3, k4, k5, k6, k7, k8⟩ := box_msg w _ _ _ _ _ _ _ _ _ _ w1 hb
      have HB1 := Lib.hid (stepB HB0.out hb)
      have HX1 := Lib.hid hb
      clear hb
      go_wp2
      go_ret
      exact ⟨ret_i2 (by rw [HR.out]; rfl), HB1.out⟩
    · have q_level0 : decide (m.level < 0) = false := decide_eq_false (by omega)
      have q_level1 : decide ((2 : Int) < m.level) = true := decide_eq_true (by omega)
      clear h0 h1 h2
      clear hs
      go_enter Tryd.func44, Tryd.ntmps44
      go_wp2_with fail
      refine HV.out.mono ?_
      rintro e w1 ⟨rfl, hb⟩
      obtain ⟨k0, k1, k2, k3, k4, k5, k6, k7, k8⟩ := box_msg w _ _ _ _ _ _ _ _ _ _ w1 hb
      have HB1 := Lib.hid (stepB HB0.out hb)
      have HX1 := Lib.hid hb
      clear hb
      go_wp2
      go_ret
      exact ⟨ret_i2 (by rw [HR.out]; rfl), HB1.out⟩
  by_cases h3 : m.prio < 0 ∨ 9 < m.prio ∨ m.exps < 0 ∨ 1099511627776 < m.exps
  case pos =>
    have HR : Hid (checkR m = 1) := Lib.hid (by unfold checkR; rw [if_neg h0, if_neg h1, if_neg h2, if_pos h3])
    have hv : validT m.topic = true := by simpa using h0
    rw [hv] at HV
    clear hv
    have q_p : decide ((256 : Int) < (m.payload.size : Int)) = false := decide_eq_false (by omega)
    have q_level0 : decide (m.level < 0) = false := decide_eq_false (by omega)
    have q_level1 : decide ((2 : Int) < m.level) = false := decide_eq_false (by omega)
    rcases (by omega : m.prio < 0 ∨ (¬ m.prio < 0 ∧ 9 < m.prio) ∨ (¬ m.prio < 0 ∧ ¬ 9 < m.prio ∧ m.exps < 0) ∨ (¬ m.prio < 0 ∧ ¬ 9 < m.prio ∧ ¬ m.exps < 0 ∧ 1099511627776 < m.exps)) with hs | hs | hs | hs
    · have q_prio0 : decide (m.prio < 0) = true := decide_eq_true (by omega)
      clear h0 h1 h2 h3
      clear hs
      go_enter Tryd.func44, Tryd.ntmps44
      go_wp2_with fail
      refine HV.out.mono ?_
      rintro e w1 ⟨rfl, hb⟩
      obtain ⟨k0, k1, k2, k3, k4, k5, k6, k7, k8⟩ := box_msg w _ _ _ _ _ _ _ _ _ _ w1 hb
      have HB1 := Lib.hid (stepB HB0.out hb)
      have HX1 := Lib.hid hb
      clear hb
      go_wp2
      go_ret
      exact ⟨ret_i2 (by rw [HR.out]; rfl), HB1.out⟩
    · have q_prio0 : decide (m.prio < 0) = false := decide_eq_false (by omega)
      have q_prio1 : decide ((9 : Int) < m.prio) = true := decide_eq_true (by omega)
      clear h0 h1 h2 h3
      clear hs
      go_enter Tryd.func44, Tryd.ntmps44
      go_wp2_with fail
      refine HV.out.mono ?_
      rintro e w1 ⟨rfl, hb⟩
      obtain ⟨k0, k1, k2, k3, k4, k5, k6, k7, k8⟩ := box_msg w _ _ _ _ _ _ _ _ _ _ w1 hb
      have HB1 := Lib.hid (stepB HB0.out hb)
      have HX1 := Lib.hid hb
      clear hb
      go_wp2
      go_ret
      exact ⟨ret_i2 (by rw [HR.out]; rfl), HB1.out⟩
    · have q_prio0 : decide (m.prio < 0) = false := decide_eq_false (by omega)
      have q_prio1 : decide ((9 : Int) < m.prio) = false := decide_eq_false (by omega)
      have q_exps0 : decide (m.exps < 0) = true := decide_eq_true (by omega)
      clear h0 h1 h2 h3
      clear hs
      go_enter Tryd.func44, Tryd.ntmps44
      go_wp2_with fail
      refine HV.out.mono ?_
      rintro e w1 ⟨rfl, hb⟩
      obtain ⟨k0, k1, k2, k3, k4, k5, k6, k7, k8⟩ := box_msg w _ _ _ _ _ _ _ _ _ _ w1 hb
      have HB1 := Lib.hid (stepB HB0.out hb)
      have HX1 := Lib.hid hb
      clear hb
      go_wp2
      go_ret
      exact ⟨ret_i2 (by rw [HR.out]; rfl), HB1.out⟩
    · have q_prio0 : decide (m.prio < 0) = false := decide_eq_false (by omega)
      have q_prio1 : decide ((9 : Int) < m.prio) = false := decide_eq_false (by omega)
      have q_exps0 : decide (m.exps < 0) = false := decide_eq_false (by omega)
      have q_exps1 : decide ((1099511627776 : Int) < m.exps) = true := decide_eq_true (by omega)
      clear h0 h1 h2 h3
      clear hs
      go_enter Tryd.func44, Tryd.ntmps44
      go_wp2_with fail
      refine HV.out.mono ?_
      rintro e w1 ⟨rfl, hb⟩
      obtain ⟨k0, k1, k2, k3, k4, k5, k6, k7, k8⟩ := box_msg w _ _ _ _ _ _ _ _ _ _ w1 hb
      have HB1 := Lib.hid (stepB HB0.out hb)
      have HX1 := Lib.hid hb
      clear hb
      go_wp2
      go_ret
      exact ⟨ret_i2 (by rw [HR.out]; rfl), HB1.out⟩
  by_cases h4 : m.frm ≠ ⟨#[]⟩ ∧ nameR m.frm = false
  case pos =>
    have HR : Hid (checkR m = 11) := Lib.hid (by unfold checkR; rw [if_neg h0, if_neg h1, if_neg h2, if_neg h3, if_pos h4])
    have hv : validT m.topic = true := by simpa using h0
    rw [hv] at HV
    clear hv
    have q_p : decide ((256 : Int) < (m.payload.size : Int)) = false := decide_eq_false (by omega)
    have q_level0 : decide (m.level < 0) = false := decide_eq_false (by omega)
    have q_level1 : decide ((2 : Int) < m.level) = false := decide_eq_false (by omega)
    have q_prio0 : decide (m.prio < 0) = false := decide_eq_false (by omega)
    have q_prio1 : decide ((9 : Int) < m.prio) = false := decide_eq_false (by omega)
    have q_exps0 : decide (m.exps < 0) = false := decide_eq_false (by omega)
    have q_exps1 : decide ((1099511627776 : Int) < m.exps) = false := decide_eq_false (by omega)
    have q_n := str_some h4.1
    have hnm := h4.2
    rw [hnm] at HN
    clear hnm
    clear h0 h1 h2 h3 h4
    go_enter Tryd.func44, Tryd.ntmps44
    go_wp2_with fail
    refine HV.out.mono ?_
    rintro e w1 ⟨rfl, hb⟩
    obtain ⟨k0, k1, k2, k3, k4, k5, k6, k7, k8⟩ := box_msg w _ _ _ _ _ _ _ _ _ _ w1 hb
    have HB1 := Lib.hid (stepB HB0.out hb)
    have HX1 := Lib.hid hb
    clear hb
    go_wp2_with fail
    refine (HN.out _).mono ?_
    rintro e wz ⟨rfl, rfl⟩
    go_wp2
    go_ret
    exact ⟨ret_i2 (by rw [HR.out]; rfl), HB1.out⟩
  by_cases h5 : m.seq < 0 ∨ 1099511627776 < m.seq
  case pos =>
    have HR : Hid (checkR m = 1) := Lib.hid (by unfold checkR; rw [if_neg h0, if_neg h1, if_neg h2, if_neg h3, if_neg h4, if_pos h5])
    have hv : validT m.topic = true := by simpa using h0
    rw [hv] at HV
    clear hv
    have q_p : decide ((256 : Int) < (m.payload.size : Int)) = false := decide_eq_false (by omega)
    have q_level0 : decide (m.level < 0) = false := decide_eq_false (by omega)
    have q_level1 : decide ((2 : Int) < m.level) = false := decide_eq_false (by omega)
    have q_prio0 : decide (m.prio < 0) = false := decide_eq_false (by omega)
    have q_prio1 : decide ((9 : Int) < m.prio) = false := decide_eq_false (by omega)
    have q_exps0 : decide (m.exps < 0) = false := decide_eq_false (by omega)
    have q_exps1 : decide ((1099511627776 : Int) < m.exps) = false := decide_eq_false (by omega)
    by_cases hf : m.frm = ⟨#[]⟩
    case pos =>
      have q_n := str_none hf
      by_cases hs : m.seq < 0
      · have q_seq0 : decide (m.seq < 0) = true := decide_eq_true (by omega)
        clear h0 h1 h2 h3 h4 h5
        clear hs hf
        go_enter Tryd.func44, Tryd.ntmps44
        go_wp2_with fail
        refine HV.out.mono ?_
        rintro e w1 ⟨rfl, hb⟩
        obtain ⟨k0, k1, k2, k3, k4, k5, k6, k7, k8⟩ := box_msg w _ _ _ _ _ _ _ _ _ _ w1 hb
        have HB1 := Lib.hid (stepB HB0.out hb)
        have HX1 := Lib.hid hb
        clear hb
        go_wp2
        go_ret
        exact ⟨ret_i2 (by rw [HR.out]; rfl), HB1.out⟩
      · have q_seq0 : decide (m.seq < 0) = false := decide_eq_false (by omega)
        have q_seq1 : decide ((1099511627776 : Int) < m.seq) = true := decide_eq_true (by omega)
        clear h0 h1 h2 h3 h4 h5
        clear hs hf
        go_enter Tryd.func44, Tryd.ntmps44
        go_wp2_with fail
        refine HV.out.mono ?_
        rintro e w1 ⟨rfl, hb⟩
        obtain ⟨k0, k1, k2, k3, k4, k5, k6, k7, k8⟩ := box_msg w _ _ _ _ _ _ _ _ _ _ w1 hb
        have HB1 := Lib.hid (stepB HB0.out hb)
        have HX1 := Lib.hid hb
        clear hb
        go_wp2
        go_ret
        exact ⟨ret_i2 (by rw [HR.out]; rfl), HB1.out⟩
    case neg =>
      have q_n := str_some hf
      have hnm : nameR m.frm = true := by
        cases hb : nameR m.frm
        · exact absurd ⟨hf, hb⟩ h4
        · rfl
      rw [hnm] at HN
      clear hnm
      by_cases hs : m.seq < 0
      · have q_seq0 : decide (m.seq < 0) = true := decide_eq_true (by omega)
        clear h0 h1 h2 h3 h4 h5
        clear hs hf
        go_enter Tryd.func44, Tryd.ntmps44
        go_wp2_with fail
        refine HV.out.mono ?_
        rintro e w1 ⟨rfl, hb⟩
        obtain ⟨k0, k1, k2, k3, k4, k5, k6, k7, k8⟩ := box_msg w _ _ _ _ _ _ _ _ _ _ w1 hb
        have HB1 := Lib.hid (stepB HB0.out hb)
        have HX1 := Lib.hid hb
        clear hb
        go_wp2_with fail
        refine (HN.out _).mono ?_
        rintro e wz ⟨rfl, rfl⟩
        go_wp2
        go_ret
        exact ⟨ret_i2 (by rw [HR.out]; rfl), HB1.out⟩
      · have q_seq0 : decide (m.seq < 0) = false := decide_eq_false (by omega)
        have q_seq1 : decide ((1099511627776 : Int) < m.seq) = true := decide_eq_true (by omega)
        clear h0 h1 h2 h3 h4 h5
        clear hs hf
        go_enter Tryd.func44, Tryd.ntmps44
        go_wp2_with fail
        refine HV.out.mono ?_
        rintro e w1 ⟨rfl, hb⟩
        obtain ⟨k0, k1, k2, k3, k4, k5, k6, k7, k8⟩ := box_msg w _ _ _ _ _ _ _ _ _ _ w1 hb
        have HB1 := Lib.hid (stepB HB0.out hb)
        have HX1 := Lib.hid hb
        clear hb
        go_wp2_with fail
        refine (HN.out _).mono ?_
        rintro e wz ⟨rfl, rfl⟩
        go_wp2
        go_ret
        exact ⟨ret_i2 (by rw [HR.out]; rfl), HB1.out⟩
  have HR : Hid (checkR m = propsR m.props) := Lib.hid (by unfold checkR; rw [if_neg h0, if_neg h1, if_neg h2, if_neg h3, if_neg h4, if_neg h5])
  have hv : validT m.topic = true := by simpa using h0
  rw [hv] at HV
  clear hv
  have q_p : decide ((256 : Int) < (m.payload.size : Int)) = false := decide_eq_false (by omega)
  have q_level0 : decide (m.level < 0) = false := decide_eq_false (by omega)
  have q_level1 : decide ((2 : Int) < m.level) = false := decide_eq_false (by omega)
  have q_prio0 : decide (m.prio < 0) = false := decide_eq_false (by omega)
  have q_prio1 : decide ((9 : Int) < m.prio) = false := decide_eq_false (by omega)
  have q_exps0 : decide (m.exps < 0) = false := decide_eq_false (by omega)
  have q_exps1 : decide ((1099511627776 : Int) < m.exps) = false := decide_eq_false (by omega)
  have q_seq0 : decide (m.seq < 0) = false := decide_eq_false (by omega)
  have q_seq1 : decide ((1099511627776 : Int) < m.seq) = false := decide_eq_false (by omega)
  by_cases hf : m.frm = ⟨#[]⟩
  case pos =>
    have q_n := str_none hf
    clear h0 h1 h2 h3 h4 h5
    clear hf
    go_enter Tryd.func44, Tryd.ntmps44
    go_wp2_with fail
    refine HV.out.mono ?_
    rintro e w1 ⟨rfl, hb⟩
    obtain ⟨k0, k1, k2, k3, k4, k5, k6, k7, k8⟩ := box_msg w _ _ _ _ _ _ _ _ _ _ w1 hb
    have HB1 := Lib.hid (stepB HB0.out hb)
    have HX1 := Lib.hid hb
    clear hb
    go_wp2_with fail
    refine (CP.out _ (HSL.out.step HB1.out)).mono ?_
    rintro e w3 ⟨rfl, hb⟩
    have HB3 := Lib.hid (stepB HB1.out hb)
    clear hb
    go_wp2
    go_ret
    exact ⟨ret_i2 (by rw [HR.out]), HB3.out⟩
  case neg =>
    have q_n := str_some hf
    have hnm : nameR m.frm = true := by
      cases hb : nameR m.frm
      · exact absurd ⟨hf, hb⟩ h4
      · rfl
    rw [hnm] at HN
    clear hnm
    clear h0 h1 h2 h3 h4 h5
    clear hf
    go_enter Tryd.func44, Tryd.ntmps44
    go_wp2_with fail
    refine HV.out.mono ?_
    rintro e w1 ⟨rfl, hb⟩
    obtain ⟨k0, k1, k2, k3, k4, k5, k6, k7, k8⟩ := box_msg w _ _ _ _ _ _ _ _ _ _ w1 hb
    have HB1 := Lib.hid (stepB HB0.out hb)
    have HX1 := Lib.hid hb
    clear hb
    go_wp2_with fail
    refine (HN.out _).mono ?_
    rintro e wz ⟨rfl, rfl⟩
    go_wp2_with fail
    refine (CP.out _ (HSL.out.step HB1.out)).mono ?_
    rintro e w3 ⟨rfl, hb⟩
    have HB3 := Lib.hid (stepB HB1.out hb)
    clear hb
    go_wp2
    go_ret
    exact ⟨ret_i2 (by rw [HR.out]), HB3.out⟩

set_option maxRecDepth 20000 in
set_option maxHeartbeats 8000000 in
theorem check_any (m : Msg) (A : Option Addr) (c : Nat) (w : World) (hw : S1.Okw w) (hsl : PL w w.heap.size A m.props) :
    Calls Tryd.prog 28 #[msgV m A c] w fun e w' => e = .returned (.int .i64 (checkR m)) ∧ Below w.heap.size w w' := by
  unfold msgV
  have hbn : Below w.heap.size w (w.alloc (.cells #[.string m.topic, .string m.payload, .int .i64 m.level, .bool m.retain, .int .i64 m.prio, .int .i64 m.exps, .string m.frm, .int .i64 m.seq, .slice A m.props.length c] 32)) := (Below.refl _ _).alloc (Nat.le_refl _) _
  have CV : ∀ w, S1.Okw w → Calls Tryd.prog 49 #[.string m.topic] w fun e w' => e = .returned (.bool (validT m.topic)) ∧ Below w.heap.size w w' := fun w hw => S1.tValid_any m.topic w hw
  have CN : ∀ w, Calls Tryd.prog 51 #[.string m.frm] w fun e w' => e = .returned (.bool (nameR m.frm)) ∧ Below w.heap.size w w' := fun w => S1.tName_any m.frm w
  have CP := Lib.hid (fun w h => props_any A c m.props w h)
  have HV := Lib.hid (CV (w.alloc (.cells #[.string m.topic, .string m.payload, .int .i64 m.level, .bool m.retain, .int .i64 m.prio, .int .i64 m.exps, .string m.frm, .int .i64 m.seq, .slice A m.props.length c] 32)) (hw.step hbn))
  have HN := Lib.hid CN
  have HSL := Lib.hid hsl
  have HB0 := Lib.hid hbn
  clear CV CN hsl hbn hw
  by_cases h0 : validT m.topic = false
  case pos =>
    have HR : Hid (checkR m = 12) := Lib.hid (by unfold checkR; rw [if_pos h0])
    rw [h0] at HV
    clear h0
    go_enter Tryd.func28, Tryd.ntmps28
    go_wp2_with fail
    refine HV.out.mono ?_
    rintro e w1 ⟨rfl, hb⟩
    have HB1 := Lib.hid (stepB HB0.out hb)
    clear hb
    go_wp2
    go_ret
    exact ⟨ret_i2 (by rw [HR.out]; rfl), HB1.out⟩
  by_cases h1 : 256 < m.payload.size
  case pos =>
    have HR : Hid (checkR m = 5) := Lib.hid (by unfold checkR; rw [if_neg h0, if_pos h1])
    have hv : validT m.topic = true := by simpa using h0
    rw [hv] at HV
    clear hv
    have q_p : decide ((256 : Int) < (m.payload.size : Int)) = true := decide_eq_true (by omega)
    clear h0 h1
    go_enter Tryd.func28, Tryd.ntmps28
    go_wp2_with fail
    refine HV.out.mono ?_
    rintro e w1 ⟨rfl, hb⟩
    obtain ⟨k0, k1, k2, k3, k4, k5, k6, k7, k8⟩ := box_msg w _ _ _ _ _ _ _ _ _ _ w1 hb
    have HB1 := Lib.hid (stepB HB0.out hb)
    have HX1 := Lib.hid hb
    clear hb
    go_wp2
    go_ret
    exact ⟨ret_i2 (by rw [HR.out]; rfl), HB1.out⟩
  by_cases h2 : m.level < 0 ∨ 2 < m.level
  case pos =>
    have HR : Hid (checkR m = 14) := Lib.hid (by unfold checkR; rw [if_neg h0, if_neg h1, if_pos h2])
    have hv : validT m.topic = true := by simpa using h0
    rw [hv] at HV
    clear hv
    have q_p : decide ((256 : Int) < (m.payload.size : Int)) = false := decide_eq_false (by omega)
    have q_level : withinR m.level 2 = false := within_no (by omega)
    clear h0 h1 h2
    go_enter Tryd.func28, Tryd.ntmps28
    go_wp2_with fail
    refine HV.out.mono ?_
    rintro e w1 ⟨rfl, hb⟩
    obtain ⟨k0, k1, k2, k3, k4, k5, k6, k7, k8⟩ := box_msg w _ _ _ _ _ _ _ _ _ _ w1 hb
    have HB1 := Lib.hid (stepB HB0.out hb)
    have HX1 := Lib.hid hb
    clear hb
    go_wp2_with fail
    refine (within_any _ _ _).mono ?_
    rintro e wz ⟨rfl, rfl⟩
    go_wp2
    go_ret
    exact ⟨ret_i2 (by rw [HR.out]; rfl), HB1.out⟩
  by_cases h3 : m.prio < 0 ∨ 9 < m.prio ∨ m.exps < 0 ∨ 1099511627776 < m.exps
  case pos =>
    have HR : Hid (checkR m = 1) := Lib.hid (by unfold checkR; rw [if_neg h0, if_neg h1, if_neg h2, if_pos h3])
    have hv : validT m.topic = true := by simpa using h0
    rw [hv] at HV
    clear hv
    have q_p : decide ((256 : Int) < (m.payload.size : Int)) = false := decide_eq_false (by omega)
    have q_level : withinR m.level 2 = true := within_yes (by omega)
    by_cases hs : m.prio < 0 ∨ 9 < m.prio
    · have q_prio : withinR m.prio 9 = false := within_no (by omega)
      clear h0 h1 h2 h3
      clear hs
      go_enter Tryd.func28, Tryd.ntmps28
      go_wp2_with fail
      refine HV.out.mono ?_
      rintro e w1 ⟨rfl, hb⟩
      obtain ⟨k0, k1, k2, k3, k4, k5, k6, k7, k8⟩ := box_msg w _ _ _ _ _ _ _ _ _ _ w1 hb
      have HB1 := Lib.hid (stepB HB0.out hb)
      have HX1 := Lib.hid hb
      clear hb
      go_wp2_with fail
      refine (within_any _ _ _).mono ?_
      rintro e wz ⟨rfl, rfl⟩
      go_wp2_with fail
      refine (within_any _ _ _).mono ?_
      rintro e wz ⟨rfl, rfl⟩
      go_wp2
      go_ret
      exact ⟨ret_i2 (by rw [HR.out]; rfl), HB1.out⟩
    · have q_prio : withinR m.prio 9 = true := within_yes (by omega)
      have q_exps : withinR m.exps 1099511627776 = false := within_no (by omega)
      clear h0 h1 h2 h3
      clear hs
      go_enter Tryd.func28, Tryd.ntmps28
      go_wp2_with fail
      refine HV.out.mono ?_
      rintro e w1 ⟨rfl, hb⟩
      obtain ⟨k0, k1, k2, k3, k4, k5, k6, k7, k8⟩ := box_msg w _ _ _ _ _ _ _ _ _ _ w1 hb
      have HB1 := Lib.hid (stepB HB0.out hb)
      have HX1 := Lib.hid hb
      clear hb
      go_wp2_with fail
      refine (within_any _ _ _).mono ?_
      rintro e wz ⟨rfl, rfl⟩
      go_wp2_with fail
      refine (within_any _ _ _).mono ?_
      rintro e wz ⟨rfl, rfl⟩
      go_wp2_with fail
      refine (within_any _ _ _).mono ?_
      rintro e wz ⟨rfl, rfl⟩
      go_wp2
      go_ret
      exact ⟨ret_i2 (by rw [HR.out]; rfl), HB1.out⟩
  by_cases h4 : m.frm ≠ ⟨#[]⟩ ∧ nameR m.frm = false
  case pos =>
    have HR : Hid (checkR m = 11) := Lib.hid (by unfold checkR; rw [if_neg h0, if_neg h1, if_neg h2, if_neg h3, if_pos h4])
    have hv : validT m.topic = true := by simpa using h0
    rw [hv] at HV
    clear hv
    have q_p : decide ((256 : Int) < (m.payload.size : Int)) = false := decide_eq_false (by omega)
    have q_level : withinR m.level 2 = true := within_yes (by omega)
    have q_prio : withinR m.prio 9 = true := within_yes (by omega)
    have q_exps : withinR m.exps 1099511627776 = true := within_yes (by omega)
    have q_n := str_some h4.1
    have hnm := h4.2
    rw [hnm] at HN
    clear hnm
    clear h0 h1 h2 h3 h4
    go_enter Tryd.func28, Tryd.ntmps28
    go_wp2_with fail
    refine HV.out.mono ?_
    rintro e w1 ⟨rfl, hb⟩
    obtain ⟨k0, k1, k2, k3, k4, k5, k6, k7, k8⟩ := box_msg w _ _ _ _ _ _ _ _ _ _ w1 hb
    have HB1 := Lib.hid (stepB HB0.out hb)
    have HX1 := Lib.hid hb
    clear hb
    go_wp2_with fail
    refine (within_any _ _ _).mono ?_
    rintro e wz ⟨rfl, rfl⟩
    go_wp2_with fail
    refine (within_any _ _ _).mono ?_
    rintro e wz ⟨rfl, rfl⟩
    go_wp2_with fail
    refine (within_any _ _ _).mono ?_
    rintro e wz ⟨rfl, rfl⟩
    go_wp2_with fail
    refine (HN.out _).mono ?_
    rintro e w2 ⟨rfl, hb⟩
    have HB2 := Lib.hid (stepB HB1.out hb)
    clear hb
    go_wp2
    go_ret
    exact ⟨ret_i2 (by rw [HR.out]; rfl), HB2.out⟩
  by_cases h5 : m.seq < 0 ∨ 1099511627776 < m.seq
  case pos =>
    have HR : Hid (checkR m = 1) := Lib.hid (by unfold checkR; rw [if_neg h0, if_neg h1, if_neg h2, if_neg h3, if_neg h4, if_pos h5])
    have hv : validT m.topic = true := by simpa using h0
    rw [hv] at HV
    clear hv
    have q_p : decide ((256 : Int) < (m.payload.size : Int)) = false := decide_eq_false (by omega)
    have q_level : withinR m.level 2 = true := within_yes (by omega)
    have q_prio : withinR m.prio 9 = true := within_yes (by omega)
    have q_exps : withinR m.exps 1099511627776 = true := within_yes (by omega)
    by_cases hf : m.frm = ⟨#[]⟩
    case pos =>
      have q_n := str_none hf
      have q_seq : withinR m.seq 1099511627776 = false := within_no (by omega)
      clear h0 h1 h2 h3 h4 h5
      clear hf
      go_enter Tryd.func28, Tryd.ntmps28
      go_wp2_with fail
      refine HV.out.mono ?_
      rintro e w1 ⟨rfl, hb⟩
      obtain ⟨k0, k1, k2, k3, k4, k5, k6, k7, k8⟩ := box_msg w _ _ _ _ _ _ _ _ _ _ w1 hb
      have HB1 := Lib.hid (stepB HB0.out hb)
      have HX1 := Lib.hid hb
      clear hb
      go_wp2_with fail
      refine (within_any _ _ _).mono ?_
      rintro e wz ⟨rfl, rfl⟩
      go_wp2_with fail
      refine (within_any _ _ _).mono ?_
      rintro e wz ⟨rfl, rfl⟩
      go_wp2_with fail
      refine (within_any _ _ _).mono ?_
      rintro e wz ⟨rfl, rfl⟩
      go_wp2_with fail
      refine (within_any _ _ _).mono ?_
      rintro e wz ⟨rfl, rfl⟩
      go_wp2
      go_ret
      exact ⟨ret_i2 (by rw [HR.out]; rfl), HB1.out⟩
    case neg =>
      have q_n := str_some hf
      have hnm : nameR m.frm = true := by
        cases hb : nameR m.frm
        · exact absurd ⟨hf, hb⟩ h4
        · rfl
      rw [hnm] at HN
      clear hnm
      have q_seq : withinR m.seq 1099511627776 = false := within_no (by omega)
      clear h0 h1 h2 h3 h4 h5
      clear hf
      go_enter Tryd.func28, Tryd.ntmps28
      go_wp2_with fail
      refine HV.out.mono ?_
      rintro e w1 ⟨rfl, hb⟩
      obtain ⟨k0, k1, k2, k3, k4, k5, k6, k7, k8⟩ := box_msg w _ _ _ _ _ _ _ _ _ _ w1 hb
      have HB1 := Lib.hid (stepB HB0.out hb)
      have HX1 := Lib.hid hb
      clear hb
      go_wp2_with fail
      refine (within_any _ _ _).mono ?_
      rintro e wz ⟨rfl, rfl⟩
      go_wp2_with fail
      refine (within_any _ _ _).mono ?_
      rintro e wz ⟨rfl, rfl⟩
      go_wp2_with fail
      refine (within_any _ _ _).mono ?_
      rintro e wz ⟨rfl, rfl⟩
      go_wp2_with fail
      refine (HN.out _).mono ?_
      rintro e w2 ⟨rfl, hb⟩
      have HB2 := Lib.hid (stepB HB1.out hb)
      have HX2 := Lib.hid (stepB HX1.out hb)
      clear k0 k1 k2 k3 k4 k5 k6 k7 k8
      obtain ⟨k0, k1, k2, k3, k4, k5, k6, k7, k8⟩ := box_msg w _ _ _ _ _ _ _ _ _ _ w2 HX2.out
      clear hb
      go_wp2_with fail
      refine (within_any _ _ _).mono ?_
      rintro e wz ⟨rfl, rfl⟩
      go_wp2
      go_ret
      exact ⟨ret_i2 (by rw [HR.out]; rfl), HB2.out⟩
  have HR : Hid (checkR m = propsR m.props) := Lib.hid (by unfold checkR; rw [if_neg h0, if_neg h1, if_neg h2, if_neg h3, if_neg h4, if_neg h5])
  have hv : validT m.topic = true := by simpa using h0
  rw [hv] at HV
  clear hv
  have q_p : decide ((256 : Int) < (m.payload.size : Int)) = false := decide_eq_false (by omega)
  have q_level : withinR m.level 2 = true := within_yes (by omega)
  have q_prio : withinR m.prio 9 = true := within_yes (by omega)
  have q_exps : withinR m.exps 1099511627776 = true := within_yes (by omega)
  have q_seq : withinR m.seq 1099511627776 = true := within_yes (by omega)
  by_cases hf : m.frm = ⟨#[]⟩
  case pos =>
    have q_n := str_none hf
    clear h0 h1 h2 h3 h4 h5
    clear hf
    go_enter Tryd.func28, Tryd.ntmps28
    go_wp2_with fail
    refine HV.out.mono ?_
    rintro e w1 ⟨rfl, hb⟩
    obtain ⟨k0, k1, k2, k3, k4, k5, k6, k7, k8⟩ := box_msg w _ _ _ _ _ _ _ _ _ _ w1 hb
    have HB1 := Lib.hid (stepB HB0.out hb)
    have HX1 := Lib.hid hb
    clear hb
    go_wp2_with fail
    refine (within_any _ _ _).mono ?_
    rintro e wz ⟨rfl, rfl⟩
    go_wp2_with fail
    refine (within_any _ _ _).mono ?_
    rintro e wz ⟨rfl, rfl⟩
    go_wp2_with fail
    refine (within_any _ _ _).mono ?_
    rintro e wz ⟨rfl, rfl⟩
    go_wp2_with fail
    refine (within_any _ _ _).mono ?_
    rintro e wz ⟨rfl, rfl⟩
    go_wp2_with fail
    refine (CP.out _ (HSL.out.step HB1.out)).mono ?_
    rintro e w3 ⟨rfl, hb⟩
    have HB3 := Lib.hid (stepB HB1.out hb)
    clear hb
    go_wp2
    go_ret
    exact ⟨ret_i2 (by rw [HR.out]), HB3.out⟩
  case neg =>
    have q_n := str_some hf
    have hnm : nameR m.frm = true := by
      cases hb : nameR m.frm
      · exact absurd ⟨hf, hb⟩ h4
      · rfl
    rw [hnm] at HN
    clear hnm
    clear h0 h1 h2 h3 h4 h5
    clear hf
    go_enter Tryd.func28, Tryd.ntmps28
    go_wp2_with fail
    refine HV.out.mono ?_
    rintro e w1 ⟨rfl, hb⟩
    obtain ⟨k0, k1, k2, k3, k4, k5, k6, k7, k8⟩ := box_msg w _ _ _ _ _ _ _ _ _ _ w1 hb
    have HB1 := Lib.hid (stepB HB0.out hb)
    have HX1 := Lib.hid hb
    clear hb
    go_wp2_with fail
    refine (within_any _ _ _).mono ?_
    rintro e wz ⟨rfl, rfl⟩
    go_wp2_with fail
    refine (within_any _ _ _).mono ?_
    rintro e wz ⟨rfl, rfl⟩
    go_wp2_with fail
    refine (within_any _ _ _).mono ?_
    rintro e wz ⟨rfl, rfl⟩
    go_wp2_with fail
    refine (HN.out _).mono ?_
    rintro e w2 ⟨rfl, hb⟩
    have HB2 := Lib.hid (stepB HB1.out hb)
    have HX2 := Lib.hid (stepB HX1.out hb)
    clear k0 k1 k2 k3 k4 k5 k6 k7 k8
    obtain ⟨k0, k1, k2, k3, k4, k5, k6, k7, k8⟩ := box_msg w _ _ _ _ _ _ _ _ _ _ w2 HX2.out
    clear hb
    go_wp2_with fail
    refine (within_any _ _ _).mono ?_
    rintro e wz ⟨rfl, rfl⟩
    go_wp2_with fail
    refine (CP.out _ (HSL.out.step HB2.out)).mono ?_
    rintro e w3 ⟨rfl, hb⟩
    have HB3 := Lib.hid (stepB HB2.out hb)
    clear hb
    go_wp2
    go_ret
    exact ⟨ret_i2 (by rw [HR.out]), HB3.out⟩

end Go.Proofs.YtjhojpghllnoiaaDoor
