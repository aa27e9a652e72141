/-
  MatchTells answers true: the walk of its function, from the contracts. Conditions: MaxLen holds a number; each text has at most 2^47 bytes.
-/
import Derived.Test.YtdoginjdlckbpaaDoorSpecMat
import Derived.Test.YtdoginjdlckbpaaDoorAwake2
namespace Go.Proofs.YtdoginjdlckbpaaDoor
open Go.RowKit

set_option maxHeartbeats 2000000 in
theorem matchTells_walk (f n : ByteArray) (w : World) (hw : Okw w) (_ : f.size ≤ 140737488355328) (hn : n.size ≤ 140737488355328) :
    Calls Tryd.prog 9 #[.string f, .string n] w fun e w' => e = .returned (.bool true) ∧ Below w.heap.size w w' := by
  have c1 := fun w hw => mMatches_any f n w hw
  have c2 := fun w => sMat_any f n w hn
  generalize matchesL f n = x at *
  have HQ := Lib.hid (Qk.refl hw)
  have C1 := Lib.hid c1
  have C2 := Lib.hid c2
  clear c1 c2
  cases x
  all_goals
    go_enter Tryd.func9, Tryd.ntmps9
    go_wp2_with fail
    refine (awake2_any _ hw).mono ?_
    rintro e w1 ⟨rfl, hb1⟩
    have hq := HQ.out.step hb1
    go_wp2_with fail
    refine (C1.out _ hq.ok).mono ?_
    rintro e w2 ⟨rfl, hb2⟩
    have hq := hq.step hb2
    go_wp2_with fail
    refine (C2.out _).mono ?_
    rintro e w2 ⟨rfl, hb2⟩
    have hq := hq.step hb2
    go_wp2_with fail
    go_ret
    exact ⟨rfl, hq.1⟩

end Go.Proofs.YtdoginjdlckbpaaDoor
