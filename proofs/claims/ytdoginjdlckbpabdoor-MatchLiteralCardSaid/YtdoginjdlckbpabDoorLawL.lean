/-
  MatchLiteral answers true: the walk of its function, from the contracts. Conditions: MaxLen holds a number.
-/
import Derived.Test.YtdoginjdlckbpabDoorPure4
import Derived.Test.YtdoginjdlckbpabDoorAwake2
namespace Go.Proofs.YtdoginjdlckbpabDoor
open Go.RowKit

theorem strTL {x y : ByteArray} (h : x = y) : (x.toList == y.toList) = true := beq_iff_eq.2 (by rw [h])
theorem strFL {x y : ByteArray} (h : x ≠ y) : (x.toList == y.toList) = false := beq_eq_false_iff_ne.2 (fun e => h (str_eq.1 (beq_iff_eq.2 e)))

set_option maxHeartbeats 2000000 in
theorem matchLiteral_walk (a b : ByteArray) (w : World) (hw : Okw w) (_ : a.size ≤ 140737488355328) (_ : b.size ≤ 140737488355328) :
    Calls Tryd.prog 3 #[.string a, .string b] w fun e w' => e = .returned (.bool true) ∧ Below w.heap.size w w' := by
  have c1 := fun w hw => tValid_any a w hw
  have HQ := Lib.hid (Qk.refl hw)
  cases hv : T.validL (dl a)
  · rw [hv] at c1
    have C1 := Lib.hid c1
    clear c1 hv
    go_enter Tryd.func3, Tryd.ntmps3
    go_wp2_with fail
    refine (awake2_any _ hw).mono ?_
    rintro e w1 ⟨rfl, hb⟩
    have hq := HQ.out.step hb
    clear hb
    go_wp2_with fail
    refine (C1.out _ hq.ok).mono ?_
    rintro e w1 ⟨rfl, hb⟩
    have hq := hq.step hb
    clear hb
    go_wp2_with fail
    refine (C1.out _ hq.ok).mono ?_
    rintro e w1 ⟨rfl, hb⟩
    have hq := hq.step hb
    clear hb
    go_wp2_with fail
    go_ret
    exact ⟨rfl, hq.1⟩
  · rw [hv] at c1
    have c2 := fun w hw => mMatches_any a a w hw
    rw [lit_self hv] at c2
    have C1 := Lib.hid c1
    have C2 := Lib.hid c2
    by_cases hab : a = b
    · have q := strTL hab
      clear c1 c2 hv hab
      go_enter Tryd.func3, Tryd.ntmps3
      go_wp2_with fail
      refine (awake2_any _ hw).mono ?_
      rintro e w1 ⟨rfl, hb⟩
      have hq := HQ.out.step hb
      clear hb
      go_wp2_with fail
      refine (C1.out _ hq.ok).mono ?_
      rintro e w1 ⟨rfl, hb⟩
      have hq := hq.step hb
      clear hb
      go_wp2_with fail
      refine (C2.out _ hq.ok).mono ?_
      rintro e w1 ⟨rfl, hb⟩
      have hq := hq.step hb
      clear hb
      go_wp2_with fail
      refine (C1.out _ hq.ok).mono ?_
      rintro e w1 ⟨rfl, hb⟩
      have hq := hq.step hb
      clear hb
      go_wp2_with fail
      go_ret
      exact ⟨rfl, hq.1⟩
    · have q := strFL hab
      have c3 := fun w hw => mMatches_any a b w hw
      rw [lit_other hv hab] at c3
      have C3 := Lib.hid c3
      clear c1 c2 c3 hv hab
      go_enter Tryd.func3, Tryd.ntmps3
      go_wp2_with fail
      refine (awake2_any _ hw).mono ?_
      rintro e w1 ⟨rfl, hb⟩
      have hq := HQ.out.step hb
      clear hb
      go_wp2_with fail
      refine (C1.out _ hq.ok).mono ?_
      rintro e w1 ⟨rfl, hb⟩
      have hq := hq.step hb
      clear hb
      go_wp2_with fail
      refine (C2.out _ hq.ok).mono ?_
      rintro e w1 ⟨rfl, hb⟩
      have hq := hq.step hb
      clear hb
      go_wp2_with fail
      refine (C1.out _ hq.ok).mono ?_
      rintro e w1 ⟨rfl, hb⟩
      have hq := hq.step hb
      clear hb
      go_wp2_with fail
      refine (C3.out _ hq.ok).mono ?_
      rintro e w1 ⟨rfl, hb⟩
      have hq := hq.step hb
      clear hb
      go_wp2_with fail
      go_ret
      exact ⟨rfl, hq.1⟩

end Go.Proofs.YtdoginjdlckbpabDoor
