/-
  What Set of the specification answers, errors too; few and small of brokerlaw05. Conditions: the list reads as data; lengths fit an int.
-/
import Derived.Test.YtlkkdompcbdbeaaDoorSetR
import Derived.Test.YtlkkdompcbdbeaaDoorCheck
namespace Go.Proofs.YtlkkdompcbdbeaaDoor
open Go.RowKit

set_option maxRecDepth 20000 in
set_option maxHeartbeats 8000000 in
theorem rSet_any (A : Option Addr) (c : Nat) (l : List PR) (key value : ByteArray) (w : World) (hsl : PL w w.heap.size A l) (hz : ∀ x ∈ l, x.1.size ≤ 9223372036854775807) (hk : key.size ≤ 9223372036854775807) :
    Calls Tryd.prog 19 #[.slice A l.length c, .string key, .string value] w (RetSet (setR l key value) w) := by
  have HS := Lib.hid hsl
  have CP := Lib.hid (vProps_any A c l w hsl hz)
  have CK := Lib.hid (fun w => vKey_any key w hk)
  by_cases h0 : propsR l ≠ 0
  · unfold setR
    rw [if_pos h0]
    generalize propsR l = pr at h0 CP ⊢
    have q0 : ((pr : Int) != 0) = true := by simp; omega
    clear h0 CK hsl hz hk
    go_enter Tryd.func19, Tryd.ntmps19
    go_wp2_with fail
    refine CP.out.mono ?_
    rintro e w1 ⟨rfl, hb1⟩
    have HB1 := Lib.hid hb1
    clear hb1
    go_wp2
    go_ret2
    exact ⟨_, rfl, OwnG.nil _ _, HB1.out⟩
  have h0' : propsR l = 0 := by omega
  by_cases h1 : keyR key = false
  · unfold setR
    rw [if_neg h0, if_pos h1]
    rw [h0'] at CP
    rw [h1] at CK
    clear h0 h0' h1 hsl hz hk
    go_enter Tryd.func19, Tryd.ntmps19
    go_wp2_with fail
    refine CP.out.mono ?_
    rintro e w1 ⟨rfl, hb1⟩
    have HB1 := Lib.hid hb1
    clear hb1
    go_wp2_with fail
    refine (CK.out _).mono ?_
    rintro e wz ⟨rfl, rfl⟩
    go_wp2
    go_ret2
    exact ⟨_, rfl, OwnG.nil _ _, HB1.out⟩
  by_cases h2 : 160 < value.size ∨ (l.length = 8 ∧ (getR l key).2 = false)
  · unfold setR
    rw [if_neg h0, if_neg h1, if_pos h2]
    obtain ⟨hl8, _, _⟩ := propsR_parts h0'
    have CG := Lib.hid (fun w h => rGet_any A c l key w h (by omega))
    unfold retG at CG
    rw [h0'] at CP
    rw [show keyR key = true by simpa using h1] at CK
    generalize getR l key = gr at CG h2
    obtain ⟨gv, gb⟩ := gr
    dsimp only at CG h2
    by_cases hv : 160 < value.size
    case' pos => have q2 : decide ((160 : Int) < (value.size : Int)) = true := decide_eq_true (by omega)
    case' neg =>
      have q2 : decide ((160 : Int) < (value.size : Int)) = false := decide_eq_false (by omega)
      have h3 : l.length = 8 ∧ gb = false := by
        rcases h2 with h | h
        · exact absurd h hv
        · exact h
      obtain ⟨h4, rfl⟩ := h3
      have q8 : ((l.length : Int) == 8) = true := by rw [h4]; rfl
      have q8' : (l.length == 8) = true := by rw [h4]; rfl
      clear h4
    all_goals
      clear h0 h0' h1 h2 hsl hz hk hv
      go_enter Tryd.func19, Tryd.ntmps19
      go_wp2_with fail
      refine CP.out.mono ?_
      rintro e w1 ⟨rfl, hb1⟩
      have HB1 := Lib.hid hb1
      clear hb1
      go_wp2_with fail
      refine (CK.out _).mono ?_
      rintro e wz ⟨rfl, rfl⟩
      go_wp2_with fail
      refine (CG.out _ (HS.out.step HB1.out)).mono ?_
      rintro e w2 ⟨rfl, hb2⟩
      have HB2 := Lib.hid (stepB HB1.out hb2)
      clear hb2
      go_wp2
      go_ret2
      exact ⟨_, rfl, OwnG.nil _ _, HB2.out⟩
  · have e : setR l key value = (setL l key value, 0) := by
      unfold setR
      rw [if_neg h0, if_neg h1, if_neg h2]
    rw [e]
    exact rSet_tail A c l key value w hsl h0' (by simpa using h1) (fun h => h2 (.inl h)) (fun h => h2 (.inr h)) hz hk

/-! ### few, small -/
def fewR (l : List PR) : Bool := decide (l.length ≤ 20) && l.all fun x => decide (x.1.size ≤ 2400) && decide (x.2.size ≤ 2400)
def FewUpto (l : List PR) (i : Nat) : Prop := ∀ (j : Nat) (x : PR), j < i → l[j]? = some x → x.1.size ≤ 2400 ∧ x.2.size ≤ 2400
theorem FewUpto.succ {l : List PR} {i : Nat} {x : PR} (h : FewUpto l i) (hx : l[i]? = some x) (hs : x.1.size ≤ 2400 ∧ x.2.size ≤ 2400) : FewUpto l (i + 1) := fun j y hj hy => by
  rcases Nat.lt_succ_iff_lt_or_eq.1 hj with h' | h'
  · exact h j y h' hy
  · subst h'
    rw [hx] at hy
    rw [← Option.some.inj hy]; exact hs
theorem few_done {l : List PR} (h : FewUpto l l.length) (hl : l.length ≤ 20) : fewR l = true := by
  unfold fewR
  rw [decide_eq_true hl, Bool.true_and, List.all_eq_true]
  intro x hx
  obtain ⟨j, hj⟩ := List.mem_iff_getElem?.1 hx
  obtain ⟨h1, h2⟩ := h j x (List.getElem?_eq_some_iff.1 hj).1 hj
  rw [decide_eq_true h1, decide_eq_true h2]; rfl
theorem few_long {l : List PR} (h : 20 < l.length) : fewR l = false := by
  unfold fewR
  rw [decide_eq_false (by omega : ¬ l.length ≤ 20)]; rfl
theorem few_bad {l : List PR} {i : Nat} {x : PR} (hx : l[i]? = some x) (h : 2400 < x.1.size ∨ 2400 < x.2.size) : fewR l = false := by
  unfold fewR
  have : (l.all fun x => decide (x.1.size ≤ 2400) && decide (x.2.size ≤ 2400)) = false := by
    rw [List.all_eq_false]
    refine ⟨x, List.mem_of_getElem? hx, ?_⟩
    simp
    omega
  rw [this]; simp
theorem few_parts {l : List PR} (h : fewR l = true) : l.length ≤ 20 ∧ ∀ x ∈ l, x.1.size ≤ 2400 ∧ x.2.size ≤ 2400 := by
  unfold fewR at h
  simp only [Bool.and_eq_true, decide_eq_true_eq, List.all_eq_true] at h
  exact h
set_option maxHeartbeats 2000000 in
theorem few_any (A : Option Addr) (c : Nat) (l : List PR) (w : World) (hsl : PL w w.heap.size A l) :
    Calls Tryd.prog 12 #[.slice A l.length c] w fun e w' => e = .returned (.bool (fewR l)) ∧ w = w' := by
  by_cases h20 : 20 < l.length
  · have HV := Lib.hid (few_long h20)
    have hd : decide ((20 : Int) < (l.length : Int)) = true := decide_eq_true (by omega)
    clear h20 hsl
    go_enter Tryd.func12, Tryd.ntmps12
    go_wp2
    go_ret
    exact ⟨retb HV.out.symm, rfl⟩
  have hd : decide ((20 : Int) < (l.length : Int)) = false := decide_eq_false (by omega)
  have HS := Lib.hid hsl
  have H20 := Lib.hid h20
  clear hsl h20
  go_enter Tryd.func12, Tryd.ntmps12
  go_wp2
  go_loop [3] (fun v => ∃ k : Nat, k ≤ l.length ∧ v = .int .i64 k ∧ FewUpto l k) (fun v => l.length - (intOf v).toNat)
  case atStart => exact ⟨0, Nat.zero_le _, rfl, fun _ _ h => absurd h (Nat.not_lt_zero _)⟩
  case round =>
    obtain ⟨k, hk, rfl, hrel⟩ := hrel
    have HR := Lib.hid hrel
    clear hrel
    by_cases hlt : k < l.length
    · have e3 : decide ((k : Int) < (l.length : Int)) = true := decide_eq_true (by omega)
      obtain ⟨x, hx⟩ : ∃ x, l[k]? = some x := ⟨_, List.getElem?_eq_getElem hlt⟩
      obtain ⟨b, o, hA, hbB, kk, kv⟩ := PL.at_ HS.out hx
      subst hA
      have j1 : (0 : Int) ≤ (k : Int) := by omega
      have j2 : (k : Int) < (l.length : Int) := by omega
      have h63 : l.length ≤ 20 := by have := H20.out; omega
      have HX := Lib.hid hx
      clear hx
      by_cases h1 : 2400 < x.1.size
      · have q1 : decide ((2400 : Int) < (x.1.size : Int)) = true := decide_eq_true (by omega)
        have HV := Lib.hid (few_bad HX.out (.inl h1))
        clear h1
        go_wp2
        go_ret
        exact ⟨retb HV.out.symm, rfl⟩
      · have q1 : decide ((2400 : Int) < (x.1.size : Int)) = false := decide_eq_false (by omega)
        by_cases h2 : 2400 < x.2.size
        · have q2 : decide ((2400 : Int) < (x.2.size : Int)) = true := decide_eq_true (by omega)
          have HV := Lib.hid (few_bad HX.out (.inr h2))
          clear h1 h2
          go_wp2
          go_ret
          exact ⟨retb HV.out.symm, rfl⟩
        · have q2 : decide ((2400 : Int) < (x.2.size : Int)) = false := decide_eq_false (by omega)
          have HN := Lib.hid (HR.out.succ HX.out ⟨by omega, by omega⟩)
          clear h1 h2
          go_wp2
          go_round
          case rel => exact ⟨k + 1, by omega, by go_num, HN.out⟩
          case measure => simp [intOf]; omega
    · obtain rfl : k = l.length := by omega
      have HV := Lib.hid (few_done HR.out (by have := H20.out; omega))
      have e3 : decide ((l.length : Int) < (l.length : Int)) = false := decide_eq_false (by omega)
      go_wp2
      go_ret
      exact ⟨retb HV.out.symm, rfl⟩

def smallR (m : Msg) : Bool := decide (m.topic.size ≤ 2400) && decide (m.payload.size ≤ 2400) && decide (m.frm.size ≤ 2400) && fewR m.props
theorem small_parts {m : Msg} (h : smallR m = true) : m.topic.size ≤ 2400 ∧ m.payload.size ≤ 2400 ∧ m.frm.size ≤ 2400 ∧ m.props.length ≤ 20 ∧ ∀ x ∈ m.props, x.1.size ≤ 2400 ∧ x.2.size ≤ 2400 := by
  unfold smallR at h
  simp only [Bool.and_eq_true, decide_eq_true_eq] at h
  obtain ⟨h4, h5⟩ := few_parts h.2
  exact ⟨h.1.1.1, h.1.1.2, h.1.2, h4, h5⟩
set_option maxRecDepth 20000 in
set_option maxHeartbeats 4000000 in
theorem small_any (m : Msg) (A : Option Addr) (c : Nat) (w : World) (hsl : PL w w.heap.size A m.props) :
    Calls Tryd.prog 21 #[msgV m A c] w fun e w' => e = .returned (.bool (smallR m)) ∧ Below w.heap.size w w' := by
  unfold msgV
  have hbn : Below w.heap.size w (w.alloc (.cells #[.string m.topic, .string m.payload, .int .i64 m.level, .bool m.retain, .int .i64 m.prio, .int .i64 m.exps, .string m.frm, .int .i64 m.seq, .slice A m.props.length c] 36)) := (Below.refl _ _).alloc (Nat.le_refl _) _
  have HB := Lib.hid hbn
  have HF := Lib.hid (few_any A c m.props _ (hsl.step hbn))
  have HU : Hid (smallR m = (decide (m.topic.size ≤ 2400) && decide (m.payload.size ≤ 2400) && decide (m.frm.size ≤ 2400) && fewR m.props)) := Lib.hid rfl
  generalize smallR m = r at HU ⊢
  generalize fewR m.props = fw at HF HU
  clear hsl hbn
  by_cases h1 : m.topic.size ≤ 2400
  case neg =>
    have q1 : decide ((m.topic.size : Int) ≤ 2400) = false := decide_eq_false (by omega)
    have HV : Hid (r = false) := Lib.hid (by rw [HU.out, decide_eq_false h1]; rfl)
    clear h1 HU HF
    go_enter Tryd.func21, Tryd.ntmps21
    go_wp2
    go_ret
    exact ⟨retb HV.out.symm, HB.out⟩
  by_cases h2 : m.payload.size ≤ 2400
  case neg =>
    have q1 : decide ((m.topic.size : Int) ≤ 2400) = true := decide_eq_true (by omega)
    have q2 : decide ((m.payload.size : Int) ≤ 2400) = false := decide_eq_false (by omega)
    have HV : Hid (r = false) := Lib.hid (by rw [HU.out, decide_eq_false h2]; simp)
    clear h1 h2 HU HF
    go_enter Tryd.func21, Tryd.ntmps21
    go_wp2
    go_ret
    exact ⟨retb HV.out.symm, HB.out⟩
  by_cases h3 : m.frm.size ≤ 2400
  case neg =>
    have q1 : decide ((m.topic.size : Int) ≤ 2400) = true := decide_eq_true (by omega)
    have q2 : decide ((m.payload.size : Int) ≤ 2400) = true := decide_eq_true (by omega)
    have q3 : decide ((m.frm.size : Int) ≤ 2400) = false := decide_eq_false (by omega)
    have HV : Hid (r = false) := Lib.hid (by rw [HU.out, decide_eq_false h3]; simp)
    clear h1 h2 h3 HU HF
    go_enter Tryd.func21, Tryd.ntmps21
    go_wp2
    go_ret
    exact ⟨retb HV.out.symm, HB.out⟩
  have q1 : decide ((m.topic.size : Int) ≤ 2400) = true := decide_eq_true (by omega)
  have q2 : decide ((m.payload.size : Int) ≤ 2400) = true := decide_eq_true (by omega)
  have q3 : decide ((m.frm.size : Int) ≤ 2400) = true := decide_eq_true (by omega)
  have HV : Hid (r = fw) := Lib.hid (by rw [HU.out, decide_eq_true h1, decide_eq_true h2, decide_eq_true h3]; rfl)
  clear h1 h2 h3 HU
  go_enter Tryd.func21, Tryd.ntmps21
  go_wp2_with fail
  refine HF.out.mono ?_
  rintro e wz ⟨rfl, rfl⟩
  go_wp2
  go_ret
  exact ⟨retb HV.out.symm, HB.out⟩

end Go.Proofs.YtlkkdompcbdbeaaDoor
