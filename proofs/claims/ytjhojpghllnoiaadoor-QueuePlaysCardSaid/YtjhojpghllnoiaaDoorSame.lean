/-
  What Same and Expired of message and of the specification answer. Conditions: the messages read as data; lengths fit an int.
-/
import Derived.Test.YtjhojpghllnoiaaDoorSameP
namespace Go.Proofs.YtjhojpghllnoiaaDoor
open Go.RowKit

theorem same_no {a b : Msg} (h : a ≠ b) : sameM a b = false := decide_eq_false h
theorem same_last {a b : Msg} (h0 : a.topic = b.topic) (h1 : a.payload = b.payload) (h2 : a.level = b.level) (h3 : a.retain = b.retain) (h4 : a.prio = b.prio) (h5 : a.exps = b.exps) (h6 : a.frm = b.frm) (h7 : a.seq = b.seq) : sameM a b = decide (a.props = b.props) := by
  unfold sameM
  rw [Bool.eq_iff_iff, decide_eq_true_eq, decide_eq_true_eq]
  constructor
  · intro h; rw [h]
  · intro h; cases a; cases b; simp_all
theorem int_yes {a b : Int} (h : a = b) : (a == b) = true := by rw [h]; exact beq_self_eq_true _
theorem int_no {a b : Int} (h : a ≠ b) : (a == b) = false := beq_eq_false_iff_ne.2 h
theorem boo_yes {a b : Bool} (h : a = b) : (a == b) = true := by rw [h]; exact beq_self_eq_true _
theorem boo_no {a b : Bool} (h : a ≠ b) : (a == b) = false := beq_eq_false_iff_ne.2 h

set_option maxRecDepth 20000 in
set_option maxHeartbeats 4000000 in
theorem rSame_any (a b : Msg) (A A' : Option Addr) (c c' : Nat) (w : World) (ha : PL w w.heap.size A a.props) (hb : PL w w.heap.size A' b.props) (hn : a.props.length ≤ 9223372036854775806) :
    Calls Tryd.prog 41 #[msgV a A c, msgV b A' c'] w fun e w' => e = .returned (.bool (sameM a b)) ∧ Below w.heap.size w w' := by
  unfold msgV
  have hw : Below w.heap.size w ((w.alloc (.cells #[.string a.topic, .string a.payload, .int .i64 a.level, .bool a.retain, .int .i64 a.prio, .int .i64 a.exps, .string a.frm, .int .i64 a.seq, .slice A a.props.length c] 32)).alloc (.cells #[.string b.topic, .string b.payload, .int .i64 b.level, .bool b.retain, .int .i64 b.prio, .int .i64 b.exps, .string b.frm, .int .i64 b.seq, .slice A' b.props.length c'] 32)) := ((Below.refl _ _).alloc (Nat.le_refl _) _).alloc (by simp) _
  have HB := Lib.hid hw
  have HC := Lib.hid (sameProps_any A A' c c' a.props b.props _ (ha.step hw) (hb.step hw) hn)
  have HS := Lib.hid (@same_last a b)
  have HN := fun h => Lib.hid (@same_no a b h)
  generalize sameM a b = r at HS HN ⊢
  obtain ⟨a0, a1, a2, a3, a4, a5, a6, a7, a8⟩ := a
  obtain ⟨b0, b1, b2, b3, b4, b5, b6, b7, b8⟩ := b
  dsimp only at HC HS HN HB ⊢
  generalize a8.length = na at HC HB ⊢
  generalize b8.length = nb at HC HB ⊢
  clear hw ha hb hn
  by_cases h0 : a0 = b0
  case neg =>
    have HR := HN (fun e => h0 (congrArg Msg.topic e))
    have q0 := streq_no h0
    clear HS HN HC h0
    go_enter Tryd.func41, Tryd.ntmps41
    go_wp2
    go_ret
    exact ⟨retb HR.out.symm, HB.out⟩
  by_cases h1 : a1 = b1
  case neg =>
    have HR := HN (fun e => h1 (congrArg Msg.payload e))
    have q0 := streq_yes h0
    have q1 := streq_no h1
    clear HS HN HC h0 h1
    go_enter Tryd.func41, Tryd.ntmps41
    go_wp2
    go_ret
    exact ⟨retb HR.out.symm, HB.out⟩
  by_cases h2 : a2 = b2
  case neg =>
    have HR := HN (fun e => h2 (congrArg Msg.level e))
    have q0 := streq_yes h0
    have q1 := streq_yes h1
    have q2 := int_no h2
    clear HS HN HC h0 h1 h2
    go_enter Tryd.func41, Tryd.ntmps41
    go_wp2
    go_ret
    exact ⟨retb HR.out.symm, HB.out⟩
  by_cases h3 : a3 = b3
  case neg =>
    have HR := HN (fun e => h3 (congrArg Msg.retain e))
    have q0 := streq_yes h0
    have q1 := streq_yes h1
    have q2 := int_yes h2
    have q3 := boo_no h3
    clear HS HN HC h0 h1 h2 h3
    go_enter Tryd.func41, Tryd.ntmps41
    go_wp2
    go_ret
    exact ⟨retb HR.out.symm, HB.out⟩
  by_cases h4 : a4 = b4
  case neg =>
    have HR := HN (fun e => h4 (congrArg Msg.prio e))
    have q0 := streq_yes h0
    have q1 := streq_yes h1
    have q2 := int_yes h2
    have q3 := boo_yes h3
    have q4 := int_no h4
    clear HS HN HC h0 h1 h2 h3 h4
    go_enter Tryd.func41, Tryd.ntmps41
    go_wp2
    go_ret
    exact ⟨retb HR.out.symm, HB.out⟩
  by_cases h5 : a5 = b5
  case neg =>
    have HR := HN (fun e => h5 (congrArg Msg.exps e))
    have q0 := streq_yes h0
    have q1 := streq_yes h1
    have q2 := int_yes h2
    have q3 := boo_yes h3
    have q4 := int_yes h4
    have q5 := int_no h5
    clear HS HN HC h0 h1 h2 h3 h4 h5
    go_enter Tryd.func41, Tryd.ntmps41
    go_wp2
    go_ret
    exact ⟨retb HR.out.symm, HB.out⟩
  by_cases h6 : a6 = b6
  case neg =>
    have HR := HN (fun e => h6 (congrArg Msg.frm e))
    have q0 := streq_yes h0
    have q1 := streq_yes h1
    have q2 := int_yes h2
    have q3 := boo_yes h3
    have q4 := int_yes h4
    have q5 := int_yes h5
    have q6 := streq_no h6
    clear HS HN HC h0 h1 h2 h3 h4 h5 h6
    go_enter Tryd.func41, Tryd.ntmps41
    go_wp2
    go_ret
    exact ⟨retb HR.out.symm, HB.out⟩
  by_cases h7 : a7 = b7
  case neg =>
    have HR := HN (fun e => h7 (congrArg Msg.seq e))
    have q0 := streq_yes h0
    have q1 := streq_yes h1
    have q2 := int_yes h2
    have q3 := boo_yes h3
    have q4 := int_yes h4
    have q5 := int_yes h5
    have q6 := streq_yes h6
    have q7 := int_no h7
    clear HS HN HC h0 h1 h2 h3 h4 h5 h6 h7
    go_enter Tryd.func41, Tryd.ntmps41
    go_wp2
    go_ret
    exact ⟨retb HR.out.symm, HB.out⟩
  have HR := Lib.hid (HS.out h0 h1 h2 h3 h4 h5 h6 h7)
  have q0 := streq_yes h0
  have q1 := streq_yes h1
  have q2 := int_yes h2
  have q3 := boo_yes h3
  have q4 := int_yes h4
  have q5 := int_yes h5
  have q6 := streq_yes h6
  have q7 := int_yes h7
  clear HS HN h0 h1 h2 h3 h4 h5 h6 h7
  generalize decide (a8 = b8) = d at HC HR
  go_enter Tryd.func41, Tryd.ntmps41
  go_wp2_with fail
  refine HC.out.mono ?_
  rintro e w' ⟨rfl, hb⟩
  have HB2 := Lib.hid (stepB HB.out hb)
  clear hb
  go_wp2
  go_ret
  exact ⟨retb HR.out.symm, HB2.out⟩

set_option maxHeartbeats 1000000 in
theorem rExpired_any (a : Msg) (A : Option Addr) (c : Nat) (now : Int) (w : World) :
    Calls Tryd.prog 64 #[msgV a A c, .int .i64 now] w fun e w' => e = .returned (.bool (expiredR a now)) ∧ Below w.heap.size w w' := by
  unfold msgV expiredR
  generalize a.exps = x
  generalize a.props.length = na
  by_cases h0 : x = 0
  · have q0 : (x != 0) = false := by rw [h0]; rfl
    have HV : Hid ((decide (x ≠ 0) && decide (x ≤ now)) = false) := Lib.hid (by rw [h0]; simp)
    clear h0
    go_enter Tryd.func64, Tryd.ntmps64
    go_wp2
    go_ret
    exact ⟨retb HV.out.symm, (Below.refl _ _).alloc (Nat.le_refl _) _⟩
  · have q0 : (x != 0) = true := by simp [h0]
    have HV : Hid ((decide (x ≠ 0) && decide (x ≤ now)) = decide (x ≤ now)) := Lib.hid (by simp [h0])
    clear h0
    go_enter Tryd.func64, Tryd.ntmps64
    go_wp2
    go_ret
    exact ⟨retb HV.out.symm, (Below.refl _ _).alloc (Nat.le_refl _) _⟩

set_option maxHeartbeats 1000000 in
theorem expired_any (a : Msg) (A : Option Addr) (c : Nat) (now : Int) (w : World) :
    Calls Tryd.prog 56 #[msgV a A c, .int .i64 now] w fun e w' => e = .returned (.bool (expiredR a now)) ∧ Below w.heap.size w w' := by
  unfold msgV expiredR
  generalize a.exps = x
  generalize a.props.length = na
  by_cases h0 : x = 0
  · have q0 : (x != 0) = false := by rw [h0]; rfl
    have HV : Hid ((decide (x ≠ 0) && decide (x ≤ now)) = false) := Lib.hid (by rw [h0]; simp)
    clear h0
    go_enter Tryd.func56, Tryd.ntmps56
    go_wp2
    go_ret
    exact ⟨retb HV.out.symm, (Below.refl _ _).alloc (Nat.le_refl _) _⟩
  · have q0 : (x != 0) = true := by simp [h0]
    have HV : Hid ((decide (x ≠ 0) && decide (x ≤ now)) = decide (x ≤ now)) := Lib.hid (by simp [h0])
    clear h0
    go_enter Tryd.func56, Tryd.ntmps56
    go_wp2
    go_ret
    exact ⟨retb HV.out.symm, (Below.refl _ _).alloc (Nat.le_refl _) _⟩

end Go.Proofs.YtjhojpghllnoiaaDoor
