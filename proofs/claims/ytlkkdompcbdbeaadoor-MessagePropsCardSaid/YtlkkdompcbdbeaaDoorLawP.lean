/-
  MessageProps answers true, walked: the program and the specification judge a list of properties alike. Conditions: the tables of package unicode/utf8 are there; the properties lie below the heap's end.
-/
import Derived.Test.YtlkkdompcbdbeaaDoorAwake5
namespace Go.Proofs.YtlkkdompcbdbeaaDoor
open Go.RowKit

theorem messageProps_walk (A : Option Addr) (c : Nat) (xs : List PR) (w : World) (hw : S1.Okw w) (hsl : PL w w.heap.size A xs) :
    Calls Tryd.prog 3 #[.slice A xs.length c] w fun e w' => e = .returned (.bool true) ∧ Below w.heap.size w w' := by
  have HW := Lib.hid hw
  have HS := Lib.hid hsl
  clear hw hsl
  cases hf : fewR xs with
  | false =>
    go_enter Tryd.func3, Tryd.ntmps3
    go_wp2_with fail
    refine (few_any A c xs w HS.out).mono ?_
    rintro e w1 ⟨rfl, rfl⟩
    rw [hf]
    go_wp2_with fail
    refine (awake5_any w HW.out).mono ?_
    rintro e w1 ⟨rfl, hb⟩
    go_wp2_with fail
    go_ret
    exact ⟨rfl, hb⟩
  | true =>
    obtain ⟨h20, hz⟩ := few_parts hf
    have HZ : Hid (∀ x ∈ xs, x.1.size ≤ 9223372036854775807) := Lib.hid (fun x hx => by have := hz x hx; omega)
    go_enter Tryd.func3, Tryd.ntmps3
    go_wp2_with fail
    refine (few_any A c xs w HS.out).mono ?_
    rintro e w1 ⟨rfl, rfl⟩
    rw [hf]
    go_wp2_with fail
    refine (few_any A c xs w HS.out).mono ?_
    rintro e w1 ⟨rfl, rfl⟩
    rw [hf]
    go_wp2_with fail
    refine (props_any A c xs w HS.out).mono ?_
    rintro e w1 ⟨rfl, hb1⟩
    have HB1 := Lib.hid hb1
    have HS1 := Lib.hid (HS.out.step hb1)
    clear hb1
    go_wp2_with fail
    refine (vProps_any A c xs w1 HS1.out HZ.out).mono ?_
    rintro e w2 ⟨rfl, hb2⟩
    have HB2 := Lib.hid (stepB HB1.out hb2)
    clear hb2
    go_wp2_with fail
    refine (awake5_any w2 (HW.out.step HB2.out)).mono ?_
    rintro e w3 ⟨rfl, hb3⟩
    have HB3 := Lib.hid (stepB HB2.out hb3)
    go_wp2_with fail
    go_ret
    exact ⟨rfl, HB3.out⟩

end Go.Proofs.YtlkkdompcbdbeaaDoor
