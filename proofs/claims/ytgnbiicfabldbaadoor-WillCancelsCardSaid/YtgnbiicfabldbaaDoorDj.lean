/-
  What valid of brokerlaw18 answers, and the walk of WillNext. Conditions: the list reads as data; its texts and lists fit a machine; the library's bound on short texts holds a number.
-/
import Derived.Test.YtgnbiicfabldbaaDoorDi
namespace Go.Proofs.YtgnbiicfabldbaaDoor
open Go.RowKit
open S2 (BK Put)

/-- whether a list is short and valid, that a call answers -/
def RetLV (l : List Du) (W : World) (e : Ending) (w' : World) : Prop := ∃ b, e = .returned (.bool b) ∧ (b = true ↔ (l.length ≤ 60 ∧ ValidD l)) ∧ Below W.heap.size W w'
set_option maxRecDepth 20000 in
set_option maxHeartbeats 4000000 in
theorem lvalid_any (A : Option Addr) (c : Nat) (xs : List DE) (w : World) (hsl : DI w w.heap.size A xs) :
    Calls Tryd.prog 13 #[.slice A xs.length c] w (RetLV (xs.map DE.d) w) := by
  have HV := Lib.hid (fun w1 h h1 => rValid_any A c xs w1 h h1)
  have HS := Lib.hid hsl
  clear hsl
  by_cases hf : xs.length ≤ 60
  · have q1 : decide ((xs.length : Int) ≤ 60) = true := decide_eq_true (by omega)
    have HF := Lib.hid hf
    clear hf
    go_enter Tryd.func13, Tryd.ntmps13
    go_wp2_with fail
    refine (HV.out w HS.out (by have := HF.out; omega)).mono ?_
    rintro e w2 ⟨b, rfl, hb, hbl⟩
    have HB := Lib.hid (And.intro hb hbl)
    clear hb hbl
    go_wp2
    go_ret
    exact ⟨b, rfl, ⟨fun h => ⟨by rw [List.length_map]; exact HF.out, HB.out.1.1 h⟩, fun h => HB.out.1.2 h.2⟩, HB.out.2⟩
  · have q1 : decide ((xs.length : Int) ≤ 60) = false := decide_eq_false (by omega)
    have HF := Lib.hid hf
    clear hf
    go_enter Tryd.func13, Tryd.ntmps13
    go_wp2
    go_ret
    exact ⟨false, rfl, ⟨(fun h => by cases h), fun h => absurd h.1 (by rw [List.length_map]; exact HF.out)⟩, Below.refl _ _⟩

set_option maxRecDepth 20000 in
set_option maxHeartbeats 4000000 in
theorem willNext_walk18 (A : Option Addr) (c : Nat) (xs : List DE) (w : World) (hok : S1.Okw w) (sl : DI w w.heap.size A xs) :
    Calls Tryd.prog 7 #[.slice A xs.length c] w fun e w' => e = .returned (.bool true) ∧ Below w.heap.size w w' := by
  have HO := Lib.hid hok
  have HS := Lib.hid sl
  have HAW := Lib.hid (fun w1 h => awake18_any w1 h)
  have HLV := Lib.hid (fun w1 h => lvalid_any A c xs w1 h)
  have HN1 := Lib.hid (fun w1 h => next_any A c xs w1 h)
  have HN2 := Lib.hid (fun w1 h => rNext_any A c xs w1 h)
  generalize (nextD (xs.map DE.d)).1 = r1 at HN1 HN2
  generalize (nextD (xs.map DE.d)).2 = r2 at HN1 HN2
  obtain ⟨v1, hv1⟩ : ∃ v, Value.int .i64 r1 = v := ⟨_, rfl⟩
  obtain ⟨v2, hv2⟩ : ∃ v, Value.bool r2 = v := ⟨_, rfl⟩
  rw [hv1, hv2] at HN1 HN2
  have HVV := Lib.hid (And.intro hv1 hv2)
  clear hv1 hv2
  clear hok sl
  go_enter Tryd.func7, Tryd.ntmps7
  go_wp2_with fail
  refine (HLV.out w HS.out).mono ?_
  rintro e w2 ⟨b, rfl, hvv, hb⟩
  clear hvv
  have B_w2 := Lib.hid hb
  have O_w2 := Lib.hid (HO.out.step hb)
  clear hb
  cases b with
  | false =>
    go_wp2_with fail
    refine (HAW.out w2 O_w2.out).mono ?_
    rintro e w3 ⟨rfl, hb⟩
    have B_w3 := Lib.hid (stepB B_w2.out hb)
    clear hb
    go_wp2
    go_ret
    exact ⟨rfl, B_w3.out⟩
  | true =>
    go_wp2_with fail
    refine (HN1.out w2 (HS.out.step B_w2.out)).mono ?_
    rintro e w3 ⟨he3, hb⟩
    subst he3
    have B_w3 := Lib.hid (stepB B_w2.out hb)
    have O_w3 := Lib.hid (O_w2.out.step hb)
    clear hb
    go_wp2_with fail
    refine (HN2.out w3 (HS.out.step B_w3.out)).mono ?_
    rintro e w4 ⟨rfl, hb⟩
    have B_w4 := Lib.hid (stepB B_w3.out hb)
    have O_w4 := Lib.hid (O_w3.out.step hb)
    clear hb
    go_wp2_with fail
    refine (HAW.out w4 O_w4.out).mono ?_
    rintro e w5 ⟨rfl, hb⟩
    have B_w5 := Lib.hid (stepB B_w4.out hb)
    obtain ⟨rfl, rfl⟩ := HVV.out
    have q1 : (r1 == r1) = true := by simp
    have q2 : (r2 == r2) = true := by simp
    clear hb
    go_wp2
    go_ret
    exact ⟨rfl, B_w5.out⟩
end Go.Proofs.YtgnbiicfabldbaaDoor
