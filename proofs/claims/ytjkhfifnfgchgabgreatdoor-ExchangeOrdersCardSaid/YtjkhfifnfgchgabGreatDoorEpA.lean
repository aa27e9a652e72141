/-
  Small functions of exchange and of its specification: routing keys, kinds, exchanges by themselves, the place of a name. Conditions: names fit an int; lists read as data, their names ascend.
-/
import Derived.Test.YtjkhfifnfgchgabGreatDoorEpG
import Derived.Test.YtjkhfifnfgchgabGreatDoorShelf
namespace Go.Proofs.YtjkhfifnfgchgabGreatDoor
open Go.RowKit
open S2 (BK Put)

set_option maxHeartbeats 1000000 in
theorem checkKey_any (s : ByteArray) (w : World) : Calls Tryz.prog 48 #[.string s] w fun e w' => e = .returned (.int .i64 (txR s)) ∧ w' = w := by
  have HC := Lib.hid (fun w1 => Tryz.strings_Contains_one s 0 w1)
  unfold txR
  have hk : (dl s).contains 0 = decide (0 ≤ Lib.indexByte s.data.toList 0) := Lib.contains_iff_indexByte _ _
  rw [hk]
  by_cases h1 : 64 < s.size
  · have q1 : decide ((64 : Int) < (s.size : Int)) = true := decide_eq_true (by omega)
    rw [if_pos h1]
    clear h1 hk
    go_enter Tryz.func48, Tryz.ntmps48
    go_wp2
    go_ret
    exact ⟨rfl, rfl⟩
  · have q1 : decide ((64 : Int) < (s.size : Int)) = false := decide_eq_false (by omega)
    rw [if_neg h1]
    generalize decide (0 ≤ Lib.indexByte s.data.toList 0) = b at *
    clear h1 hk
    cases b
    all_goals
      go_enter Tryz.func48, Tryz.ntmps48
      go_wp2_with fail
      refine (HC.out _).mono ?_
      rintro e w1 ⟨rfl, rfl⟩
      go_wp2
      go_ret
      exact ⟨rfl, rfl⟩
set_option maxHeartbeats 1000000 in
theorem xText_any (s : ByteArray) (w : World) : Calls Tryz.prog 54 #[.string s] w fun e w' => e = .returned (.int .i64 (txR s)) ∧ w' = w := by
  have HC := Lib.hid (fun w1 => Tryz.strings_Contains_one s 0 w1)
  unfold txR
  have hk : (dl s).contains 0 = decide (0 ≤ Lib.indexByte s.data.toList 0) := Lib.contains_iff_indexByte _ _
  rw [hk]
  by_cases h1 : 64 < s.size
  · have q1 : decide ((64 : Int) < (s.size : Int)) = true := decide_eq_true (by omega)
    rw [if_pos h1]
    clear h1 hk
    go_enter Tryz.func54, Tryz.ntmps54
    go_wp2
    go_ret
    exact ⟨rfl, rfl⟩
  · have q1 : decide ((64 : Int) < (s.size : Int)) = false := decide_eq_false (by omega)
    rw [if_neg h1]
    generalize decide (0 ≤ Lib.indexByte s.data.toList 0) = b at *
    clear h1 hk
    cases b
    all_goals
      go_enter Tryz.func54, Tryz.ntmps54
      go_wp2_with fail
      refine (HC.out _).mono ?_
      rintro e w1 ⟨rfl, rfl⟩
      go_wp2
      go_ret
      exact ⟨rfl, rfl⟩
/-- a kind's value -/
def kdV (k : Int) : Value := if k = 1 then .iface 107 (.agg #[]) else if k = 2 then .iface 108 (.agg #[]) else if k = 3 then .iface 109 (.agg #[]) else .iface 110 (.agg #[])
def kdN (k : Int) : Value := if kdR k = true then kdV k else .nilIface
set_option maxHeartbeats 1000000 in
theorem kindOf_any (k : Int) (w : World) : Calls Tryz.prog 62 #[.int .i64 k] w fun e w' => e = .returned (.tuple #[kdN k, .bool (kdR k)]) ∧ w' = w := by
  by_cases h1 : k = 1
  · subst h1
    go_enter Tryz.func62, Tryz.ntmps62
    go_wp2
    go_ret2
    exact ⟨rfl, rfl⟩
  by_cases h2 : k = 2
  · subst h2
    go_enter Tryz.func62, Tryz.ntmps62
    go_wp2
    go_ret2
    exact ⟨rfl, rfl⟩
  by_cases h3 : k = 3
  · subst h3
    go_enter Tryz.func62, Tryz.ntmps62
    go_wp2
    go_ret2
    exact ⟨rfl, rfl⟩
  by_cases h4 : k = 4
  · subst h4
    go_enter Tryz.func62, Tryz.ntmps62
    go_wp2
    go_ret2
    exact ⟨rfl, rfl⟩
  have e1 : (k == 1) = false := beq_eq_false_iff_ne.2 h1
  have e2 : (k == 2) = false := beq_eq_false_iff_ne.2 h2
  have e3 : (k == 3) = false := beq_eq_false_iff_ne.2 h3
  have e4 : (k == 4) = false := beq_eq_false_iff_ne.2 h4
  have hr : kdR k = false := by
    unfold kdR
    rw [Bool.eq_false_iff]
    intro h
    simp only [Bool.and_eq_true, decide_eq_true_eq] at h
    omega
  have HR := Lib.hid hr
  clear h1 h2 h3 h4 hr
  go_enter Tryz.func62, Tryz.ntmps62
  go_wp2
  go_ret2
  exact ⟨by unfold kdN; rw [HR.out]; rfl, rfl⟩
theorem nm_beq (a : ByteArray) : (a.toList != ([] : List UInt8)) = !decide (a = ⟨#[]⟩) := by
  have h := str_dec a ⟨#[]⟩
  have e : (⟨#[]⟩ : ByteArray).toList = [] := by rw [Lib.toList_data]
  rw [e] at h
  rw [← h]; rfl
theorem nm_emp (a : ByteArray) : a.toList.isEmpty = decide (a = ⟨#[]⟩) := by
  have h := nm_beq a
  cases e : a.toList with
  | nil =>
    rw [e] at h
    have h2 : decide (a = ⟨#[]⟩) = true := by
      cases h3 : decide (a = ⟨#[]⟩) with
      | true => rfl
      | false => rw [h3] at h; cases h
    rw [h2]; rfl
  | cons x r =>
    rw [e] at h
    have h2 : decide (a = ⟨#[]⟩) = false := by
      cases h3 : decide (a = ⟨#[]⟩) with
      | false => rfl
      | true => rw [h3] at h; cases h
    rw [h2]; rfl

set_option maxRecDepth 20000 in
set_option maxHeartbeats 4000000 in
theorem checkExchange_any (x : Ex) (w : World) : Calls Tryz.prog 34 #[exV x] w fun e w' => e = .returned (.int .i64 (exR x)) ∧ Below w.heap.size w w' := by
  obtain ⟨n, k, a⟩ := x
  unfold exV gE exR
  dsimp only
  have CN : ∀ s w, Calls Tryz.prog 24 #[.string s] w fun e w' => e = .returned (.bool (nameR s)) ∧ Below w.heap.size w w' := fun s w => S1.tName_any s w
  have HN1 := Lib.hid (fun w1 => CN n w1)
  have HN2 := Lib.hid (fun w1 => CN a w1)
  have HK := Lib.hid (fun w1 => kindOf_any k w1)
  have q1 := nm_beq a
  have q2 := nm_emp a
  have HB1 := Lib.hid (S2.below_new w (.cells #[.string n, .int .i64 k, .string a] 32))
  generalize nameR n = b1 at HN1 ⊢
  generalize nameR a = b2 at HN2 ⊢
  generalize kdR k = b3 at HK ⊢
  generalize kdN k = v3 at HK
  generalize decide (a = ⟨#[]⟩) = b4 at q1 q2 ⊢
  clear CN
  obtain ⟨w1, hw1⟩ : ∃ w1, w1 = w.alloc (.cells #[.string n, .int .i64 k, .string a] 32) := ⟨_, rfl⟩
  have V_w1 : Hid (BK 32 w1 w.heap.size [.string n, .int .i64 k, .string a]) := Lib.hid (by rw [hw1]; exact BK.new w _ _)
  have HW := Lib.hid hw1
  rw [← hw1] at HB1
  clear hw1
  go_enter Tryz.func34, Tryz.ntmps34
  go_upto_region 1 with fail
  rw [← HW.out]
  have d0 := V_w1.out.cell 0 rfl
  go_wp2_with fail
  refine (HN1.out _).mono ?_
  rintro e w2 ⟨rfl, hb⟩
  have V_w2 := Lib.hid (V_w1.out.step hb)
  have B_w2 := Lib.hid (stepB HB1.out hb)
  clear hb d0 V_w1 HB1 HW
  cases b1 with
  | false =>
    go_wp2_with fail
    go_ret
    exact ⟨rfl, B_w2.out⟩
  | true =>
    have d1 := V_w2.out.cell 1 rfl
    go_wp2_with fail
    refine (HK.out _).mono ?_
    rintro e w3 ⟨rfl, rfl⟩
    clear d1
    cases b3 with
    | false =>
      go_wp2_with fail
      go_ret
      exact ⟨rfl, B_w2.out⟩
    | true =>
      have d2 := V_w2.out.cell 2 rfl
      cases b4 with
      | true =>
        go_wp2_with fail
        go_ret
        exact ⟨rfl, B_w2.out⟩
      | false =>
        go_wp2_with fail
        refine (HN2.out _).mono ?_
        rintro e w4 ⟨rfl, hb⟩
        have B_w4 := Lib.hid (stepB B_w2.out hb)
        clear hb d2
        cases b2
        all_goals
          go_wp2_with fail
          go_ret
          exact ⟨rfl, B_w4.out⟩
end Go.Proofs.YtjkhfifnfgchgabGreatDoor
