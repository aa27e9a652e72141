/-
  PacketKinds answers true, walked. Conditions: the tables of package unicode/utf8 are there.
-/
import Derived.Test.YtjlmlaekogahpaaDoorAwake6
namespace Go.Proofs.YtjlmlaekogahpaaDoor
open Go.RowKit

set_option maxHeartbeats 4000000 in
theorem packetKinds_walk (k : Int) (w : World) (hw : S1.Okw w) : Calls Tryd.prog 3 #[.int .i64 k] w fun e w' => e = .returned (.bool true) ∧ Below w.heap.size w w' := by
  have HO := Lib.hid hw
  have C1 := Lib.hid (fun w => client_any k w)
  have C2 := Lib.hid (fun w => rClient_any k w)
  have C3 := Lib.hid (fun w => broker_any k w)
  have C4 := Lib.hid (fun w => rBroker_any k w)
  generalize clientR k = x at C1 C2
  generalize brokerR k = y at C3 C4
  clear hw
  go_enter Tryd.func3, Tryd.ntmps3
  go_wp2_with fail
  refine (C1.out w).mono ?_
  rintro e w' ⟨rfl, rfl⟩
  go_wp2_with fail
  refine (C2.out w).mono ?_
  rintro e w' ⟨rfl, rfl⟩
  go_wp2_with fail
  refine (C3.out w).mono ?_
  rintro e w' ⟨rfl, rfl⟩
  go_wp2_with fail
  refine (C4.out w).mono ?_
  rintro e w' ⟨rfl, rfl⟩
  go_wp2_with fail
  refine (awake6_any w HO.out).mono ?_
  rintro e w2 ⟨rfl, hb⟩
  have HB := Lib.hid hb
  clear hb
  go_wp2_with fail
  go_ret
  exact ⟨rfl, HB.out⟩

end Go.Proofs.YtjlmlaekogahpaaDoor
