/-
  What Answer of the specification hands back, and which kinds clients and brokers may send by the program and by the specification. Conditions: none.
-/
import Derived.Test.YtjlmlaekogahpaaGreatDoorAns
namespace Go.Proofs.YtjlmlaekogahpaaGreatDoor
open Go.RowKit

theorem either_any (k : Int) (w : World) : Calls Tryz.prog 80 #[.int .i64 k] w fun e w' => e = .returned (.bool (bothR k)) ∧ w = w' := by
  go_enter Tryz.func80, Tryz.ntmps80
  go_wp2
  all_goals
    go_ret
    refine ⟨retb ?_, rfl⟩
    simp only [beq_iff_eq, beq_eq_false_iff_ne, ne_eq] at *
    unfold bothR
    symm
    first | (rw [Bool.or_eq_true, decide_eq_true_eq, decide_eq_true_eq]; omega) | (rw [Bool.or_eq_false_iff, decide_eq_false_iff_not, decide_eq_false_iff_not]; omega)
theorem client_any (k : Int) (w : World) : Calls Tryz.prog 33 #[.int .i64 k] w fun e w' => e = .returned (.bool (clientR k)) ∧ w = w' := by
  have HE := Lib.hid (fun w => either_any k w)
  have HV : Hid (clientR k = (bothR k || decide (k = 1) || decide (k = 8) || decide (k = 10) || decide (k = 12))) := Lib.hid rfl
  generalize clientR k = r at HV ⊢
  generalize bothR k = b at HE HV
  by_cases h0 : k = 1
  · have HV2 : Hid (r = true) := Lib.hid (by rw [HV.out]; simp [h0])
    have e0 : (k == 1) = true := by rw [h0]; rfl
    clear HV HE h0
    go_enter Tryz.func33, Tryz.ntmps33
    go_wp2_with fail
    go_ret
    exact ⟨retb HV2.out.symm, rfl⟩
  · by_cases h1 : k = 8
    · have HV2 : Hid (r = true) := Lib.hid (by rw [HV.out]; simp [h1])
      have e0 : (k == 1) = false := by simp [h0]
      have e1 : (k == 8) = true := by rw [h1]; rfl
      clear HV HE h0 h1
      go_enter Tryz.func33, Tryz.ntmps33
      go_wp2_with fail
      go_ret
      exact ⟨retb HV2.out.symm, rfl⟩
    · by_cases h2 : k = 10
      · have HV2 : Hid (r = true) := Lib.hid (by rw [HV.out]; simp [h2])
        have e0 : (k == 1) = false := by simp [h0]
        have e1 : (k == 8) = false := by simp [h1]
        have e2 : (k == 10) = true := by rw [h2]; rfl
        clear HV HE h0 h1 h2
        go_enter Tryz.func33, Tryz.ntmps33
        go_wp2_with fail
        go_ret
        exact ⟨retb HV2.out.symm, rfl⟩
      · by_cases h3 : k = 12
        · have HV2 : Hid (r = true) := Lib.hid (by rw [HV.out]; simp [h3])
          have e0 : (k == 1) = false := by simp [h0]
          have e1 : (k == 8) = false := by simp [h1]
          have e2 : (k == 10) = false := by simp [h2]
          have e3 : (k == 12) = true := by rw [h3]; rfl
          clear HV HE h0 h1 h2 h3
          go_enter Tryz.func33, Tryz.ntmps33
          go_wp2_with fail
          go_ret
          exact ⟨retb HV2.out.symm, rfl⟩
        · have HV2 : Hid (r = b) := Lib.hid (by rw [HV.out]; simp [h0, h1, h2, h3])
          have e0 : (k == 1) = false := by simp [h0]
          have e1 : (k == 8) = false := by simp [h1]
          have e2 : (k == 10) = false := by simp [h2]
          have e3 : (k == 12) = false := by simp [h3]
          clear HV h0 h1 h2 h3
          go_enter Tryz.func33, Tryz.ntmps33
          go_wp2_with fail
          refine (HE.out w).mono ?_
          rintro e w' ⟨rfl, rfl⟩
          go_wp2_with fail
          go_ret
          exact ⟨retb HV2.out.symm, rfl⟩
theorem broker_any (k : Int) (w : World) : Calls Tryz.prog 34 #[.int .i64 k] w fun e w' => e = .returned (.bool (brokerR k)) ∧ w = w' := by
  have HE := Lib.hid (fun w => either_any k w)
  have HV : Hid (brokerR k = (bothR k || decide (k = 2) || decide (k = 9) || decide (k = 11) || decide (k = 13))) := Lib.hid rfl
  generalize brokerR k = r at HV ⊢
  generalize bothR k = b at HE HV
  by_cases h0 : k = 2
  · have HV2 : Hid (r = true) := Lib.hid (by rw [HV.out]; simp [h0])
    have e0 : (k == 2) = true := by rw [h0]; rfl
    clear HV HE h0
    go_enter Tryz.func34, Tryz.ntmps34
    go_wp2_with fail
    go_ret
    exact ⟨retb HV2.out.symm, rfl⟩
  · by_cases h1 : k = 9
    · have HV2 : Hid (r = true) := Lib.hid (by rw [HV.out]; simp [h1])
      have e0 : (k == 2) = false := by simp [h0]
      have e1 : (k == 9) = true := by rw [h1]; rfl
      clear HV HE h0 h1
      go_enter Tryz.func34, Tryz.ntmps34
      go_wp2_with fail
      go_ret
      exact ⟨retb HV2.out.symm, rfl⟩
    · by_cases h2 : k = 11
      · have HV2 : Hid (r = true) := Lib.hid (by rw [HV.out]; simp [h2])
        have e0 : (k == 2) = false := by simp [h0]
        have e1 : (k == 9) = false := by simp [h1]
        have e2 : (k == 11) = true := by rw [h2]; rfl
        clear HV HE h0 h1 h2
        go_enter Tryz.func34, Tryz.ntmps34
        go_wp2_with fail
        go_ret
        exact ⟨retb HV2.out.symm, rfl⟩
      · by_cases h3 : k = 13
        · have HV2 : Hid (r = true) := Lib.hid (by rw [HV.out]; simp [h3])
          have e0 : (k == 2) = false := by simp [h0]
          have e1 : (k == 9) = false := by simp [h1]
          have e2 : (k == 11) = false := by simp [h2]
          have e3 : (k == 13) = true := by rw [h3]; rfl
          clear HV HE h0 h1 h2 h3
          go_enter Tryz.func34, Tryz.ntmps34
          go_wp2_with fail
          go_ret
          exact ⟨retb HV2.out.symm, rfl⟩
        · have HV2 : Hid (r = b) := Lib.hid (by rw [HV.out]; simp [h0, h1, h2, h3])
          have e0 : (k == 2) = false := by simp [h0]
          have e1 : (k == 9) = false := by simp [h1]
          have e2 : (k == 11) = false := by simp [h2]
          have e3 : (k == 13) = false := by simp [h3]
          clear HV h0 h1 h2 h3
          go_enter Tryz.func34, Tryz.ntmps34
          go_wp2_with fail
          refine (HE.out w).mono ?_
          rintro e w' ⟨rfl, rfl⟩
          go_wp2_with fail
          go_ret
          exact ⟨retb HV2.out.symm, rfl⟩
end Go.Proofs.YtjlmlaekogahpaaGreatDoor
