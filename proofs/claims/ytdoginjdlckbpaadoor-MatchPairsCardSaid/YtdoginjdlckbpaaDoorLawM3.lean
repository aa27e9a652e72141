/-
  MatchPairs answers true: the walk of its function, from the contracts. Conditions: MaxLen holds a number.
-/
import Derived.Test.YtdoginjdlckbpaaDoorSpecCom
import Derived.Test.YtdoginjdlckbpaaDoorAwake2
namespace Go.Proofs.YtdoginjdlckbpaaDoor
open Go.RowKit

/-- to meet is mutual -/
theorem met_comm : ∀ (a b : List ByteArray), metB a b = metB b a
  | [], [] => rfl
  | [], y :: b => by rw [met_left, met_right]
  | x :: a, [] => by rw [met_left, met_right]
  | x :: a, y :: b => by
    rw [met_both, met_both, met_comm a b]
    by_cases h : x = hashB ∨ y = hashB
    · rw [if_pos h, if_pos h.symm]
    · rw [if_neg h, if_neg (fun q => h q.symm)]
      congr 1
      have e : decide (x = y) = decide (y = x) := by
        by_cases h : x = y
        · rw [decide_eq_true h, decide_eq_true h.symm]
        · rw [decide_eq_false h, decide_eq_false (fun q => h q.symm)]
      rw [e, Bool.or_assoc, Bool.or_assoc, Bool.or_comm (decide (x = plusB))]
theorem meets_comm (a b : ByteArray) : (cmRes a b).isSome = (cmRes b a).isSome := by
  cases hfa : T.filterL (dl a)
  · rw [met_no (.inl hfa), met_no (.inr hfa)]
  · cases hfb : T.filterL (dl b)
    · rw [met_no (.inr hfb), met_no (.inl hfb)]
    · rw [met_res hfa hfb, met_res hfb hfa, met_comm (lvB b), ← Bool.and_assoc, ← Bool.and_assoc, Bool.and_comm (!(hdW (lvB b) && sysL (dl a)))]

set_option maxHeartbeats 4000000 in
theorem matchPairs_walk (a b : ByteArray) (w : World) (hw : Okw w) (_ : a.size ≤ 140737488355328) (_ : b.size ≤ 140737488355328) :
    Calls Tryd.prog 10 #[.string a, .string b] w fun e w' => e = .returned (.bool true) ∧ Below w.heap.size w w' := by
  have c1 := fun w hw => mCom_x a b w hw
  have c2 := fun w => sCom_any a b w
  have c3 := fun w hw => mCov_any a b w hw
  have c4 := fun w => sCov_any a b w
  have c5 := fun w hw => mCov_any b a w hw
  have c6 := fun w => sCov_any b a w
  have c7 := fun w hw => mMeets_any a b w hw
  have c8 := fun w => sMet_any a b w
  have c9 := fun w hw => mMeets_any b a w hw
  rw [← meets_comm a b] at c9
  generalize (cmRes a b).getD ⟨#[]⟩ = s at *
  generalize (cmRes a b).isSome = v at *
  generalize coversL a b = x at *
  generalize coversL b a = y at *
  have HQ := Lib.hid (Qk.refl hw)
  have C1 := Lib.hid c1
  have C2 := Lib.hid c2
  have C3 := Lib.hid c3
  have C4 := Lib.hid c4
  have C5 := Lib.hid c5
  have C6 := Lib.hid c6
  have C7 := Lib.hid c7
  have C8 := Lib.hid c8
  have C9 := Lib.hid c9
  clear c1 c2 c3 c4 c5 c6 c7 c8 c9
  have hq := HQ.out
  go_enter Tryd.func10, Tryd.ntmps10
  go_wp2_with fail
  refine (C1.out _ hq.ok).mono ?_
  rintro e w1 ⟨rfl, hb⟩
  have hq := hq.step hb
  clear hb
  go_wp2_with fail
  refine (C2.out _).mono ?_
  rintro e w1 ⟨rfl, hb⟩
  have hq := hq.step hb
  clear hb
  go_wp2_with fail
  refine (awake2_any _ hq.ok).mono ?_
  rintro e w1 ⟨rfl, hb⟩
  have hq := hq.step hb
  clear hb
  go_wp2_with fail
  refine (C3.out _ hq.ok).mono ?_
  rintro e w1 ⟨rfl, hb⟩
  have hq := hq.step hb
  clear hb
  go_wp2_with fail
  refine (C4.out _).mono ?_
  rintro e w1 ⟨rfl, hb⟩
  have hq := hq.step hb
  clear hb
  go_wp2_with fail
  refine (C5.out _ hq.ok).mono ?_
  rintro e w1 ⟨rfl, hb⟩
  have hq := hq.step hb
  clear hb
  go_wp2_with fail
  refine (C6.out _).mono ?_
  rintro e w1 ⟨rfl, hb⟩
  have hq := hq.step hb
  clear hb
  go_wp2_with fail
  refine (C7.out _ hq.ok).mono ?_
  rintro e w1 ⟨rfl, hb⟩
  have hq := hq.step hb
  clear hb
  go_wp2_with fail
  refine (C8.out _).mono ?_
  rintro e w1 ⟨rfl, hb⟩
  have hq := hq.step hb
  clear hb
  go_wp2_with fail
  refine (C9.out _ hq.ok).mono ?_
  rintro e w1 ⟨rfl, hb⟩
  have hq := hq.step hb
  clear hb
  go_wp2_with fail
  refine (C7.out _ hq.ok).mono ?_
  rintro e w1 ⟨rfl, hb⟩
  have hq := hq.step hb
  clear hb
  go_wp2_with fail
  go_ret
  exact ⟨retb (by simp), hq.1⟩

end Go.Proofs.YtdoginjdlckbpaaDoor
