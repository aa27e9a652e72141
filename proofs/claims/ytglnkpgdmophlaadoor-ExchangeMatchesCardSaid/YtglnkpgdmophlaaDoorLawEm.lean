/-
  The law ExchangeMatches: it answers true. Conditions: the library's bound on short texts holds a number.
-/
import Derived.Test.YtglnkpgdmophlaaDoorEpX
namespace Go.Proofs.YtglnkpgdmophlaaDoor
open Go.RowKit
open S2 (BK Put)

set_option maxRecDepth 20000 in
set_option maxHeartbeats 4000000 in
theorem exchangeMatches_walk (p k : ByteArray) (w : World) (ho : S1.Okw w) (_ : p.size ≤ 140737488355328) (_ : k.size ≤ 140737488355328) :
    Calls Tryd.prog 3 #[.string p, .string k] w fun e w' => e = .returned (.bool true) ∧ Below w.heap.size w w' := by
  have HX := Lib.hid (fun w1 h => exHolds_any w1 h)
  have HM := Lib.hid (fun w1 h => xMatches_any p k w1 h)
  have HR := Lib.hid (fun w1 h => rMatches24_any p k w1 h)
  have HO := Lib.hid ho
  clear ho
  generalize mtR p k = b at *
  by_cases h1 : 200 < p.size
  · clear HM HR
    go_enter Tryd.func3, Tryd.ntmps3
    go_wp2_with fail
    refine (HX.out _ HO.out).mono ?_
    rintro e w1 ⟨rfl, hb⟩
    have HB := Lib.hid hb
    clear hb
    go_wp2_with fail
    go_ret
    exact ⟨rfl, HB.out⟩
  · by_cases h2 : 200 < k.size
    · clear HM HR
      go_enter Tryd.func3, Tryd.ntmps3
      go_wp2_with fail
      refine (HX.out _ HO.out).mono ?_
      rintro e w1 ⟨rfl, hb⟩
      have HB := Lib.hid hb
      clear hb
      go_wp2_with fail
      go_ret
      exact ⟨rfl, HB.out⟩
    · go_enter Tryd.func3, Tryd.ntmps3
      go_wp2_with fail
      refine (HM.out _ HO.out).mono ?_
      rintro e w1 ⟨rfl, hb⟩
      have B_w1 := Lib.hid hb
      have O_w1 := Lib.hid (HO.out.step hb)
      clear hb HM HO
      go_wp2_with fail
      refine (HR.out _ O_w1.out).mono ?_
      rintro e w2 ⟨rfl, hb⟩
      have B_w2 := Lib.hid (stepB B_w1.out hb)
      have O_w2 := Lib.hid (O_w1.out.step hb)
      clear hb HR O_w1 B_w1
      cases b
      all_goals
        go_wp2_with fail
        refine (HX.out _ O_w2.out).mono ?_
        rintro e w3 ⟨rfl, hb⟩
        have B_w3 := Lib.hid (stepB B_w2.out hb)
        clear hb
        go_wp2_with fail
        go_ret
        exact ⟨rfl, B_w3.out⟩
end Go.Proofs.YtglnkpgdmophlaaDoor
