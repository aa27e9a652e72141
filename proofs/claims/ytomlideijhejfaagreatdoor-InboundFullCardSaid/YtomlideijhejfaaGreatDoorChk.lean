/-
  What the small checks of packet answer. Conditions: texts fit a slice; the tables of package unicode/utf8 are there.
-/
import Derived.Test.YtomlideijhejfaaGreatDoorMbx
import Derived.Test.YtomlideijhejfaaGreatDoorCheck
import Derived.Test.YtomlideijhejfaaGreatDoorSame
namespace Go.Proofs.YtomlideijhejfaaGreatDoor
open Go.RowKit

theorem reti {a b : Int} (h : a = b) : Ending.returned (.int .i64 a) = .returned (.int .i64 b) := by rw [h]
theorem bcell {W w1 : World} (hb : Below W.heap.size W w1) : (∀ b o, b < W.heap.size → w1.cell? ⟨b, o, none⟩ = W.cell? ⟨b, o, none⟩) ∧ (∀ b o, b < W.heap.size → w1.frozen? ⟨b, o, none⟩ = W.frozen? ⟨b, o, none⟩) :=
  ⟨fun b o h => hb.cell (p := ⟨b, o, none⟩) h, fun b o h => hb.frozen (p := ⟨b, o, none⟩) h⟩
def within3 (n first last : Int) : Bool := decide (first ≤ n) && decide (n ≤ last)
theorem within3_any (n first last : Int) (w : World) : Calls Tryz.prog 40 #[.int .i64 n, .int .i64 first, .int .i64 last] w fun e w' => e = .returned (.bool (within3 n first last)) ∧ w = w' := by
  by_cases h : first ≤ n
  · have q : decide (first ≤ n) = true := decide_eq_true h
    have HV : Hid (within3 n first last = decide (n ≤ last)) := Lib.hid (by unfold within3; rw [q]; rfl)
    clear h
    go_enter Tryz.func40, Tryz.ntmps40
    go_wp2
    go_ret
    exact ⟨retb HV.out.symm, rfl⟩
  · have q : decide (first ≤ n) = false := decide_eq_false h
    have HV : Hid (within3 n first last = false) := Lib.hid (by unfold within3; rw [q]; rfl)
    clear h
    go_enter Tryz.func40, Tryz.ntmps40
    go_wp2
    go_ret
    exact ⟨retb HV.out.symm, rfl⟩
theorem w3_yes {n first last : Int} (h : ¬ (n < first ∨ last < n)) : within3 n first last = true := by unfold within3; simp; omega
theorem w3_no {n first last : Int} (h : n < first ∨ last < n) : within3 n first last = false := by unfold within3; rw [Bool.eq_false_iff]; simp; omega
theorem checkID_any (n : Int) (w : World) : Calls Tryz.prog 46 #[.int .i64 n] w fun e w' => e = .returned (.int .i64 (idR n)) ∧ w = w' := by
  have C := fun w => within3_any n 1 65535 w
  by_cases h : n < 1 ∨ 65535 < n
  · have HV : Hid (((idR n : Nat) : Int) = 15) := Lib.hid (by unfold idR; rw [if_pos h]; rfl)
    rw [w3_no h] at C
    have HC := Lib.hid C
    clear h C
    go_enter Tryz.func46, Tryz.ntmps46
    go_wp2_with (go_at_call 40; refine (HC.out _).mono ?_; rintro e w' ⟨rfl, rfl⟩)
    go_ret
    exact ⟨reti HV.out.symm, rfl⟩
  · have HV : Hid (((idR n : Nat) : Int) = 0) := Lib.hid (by unfold idR; rw [if_neg h]; rfl)
    rw [w3_yes h] at C
    have HC := Lib.hid C
    clear h C
    go_enter Tryz.func46, Tryz.ntmps46
    go_wp2_with (go_at_call 40; refine (HC.out _).mono ?_; rintro e w' ⟨rfl, rfl⟩)
    go_ret
    exact ⟨reti HV.out.symm, rfl⟩
theorem checkCode_any (n : Int) (w : World) : Calls Tryz.prog 52 #[.int .i64 n] w fun e w' => e = .returned (.int .i64 (codR n)) ∧ w = w' := by
  have C := fun w => within3_any n 0 29 w
  by_cases h : n < 0 ∨ 29 < n
  · have HV : Hid (((codR n : Nat) : Int) = 1) := Lib.hid (by unfold codR; rw [if_pos h]; rfl)
    rw [w3_no h] at C
    have HC := Lib.hid C
    clear h C
    go_enter Tryz.func52, Tryz.ntmps52
    go_wp2_with (go_at_call 40; refine (HC.out _).mono ?_; rintro e w' ⟨rfl, rfl⟩)
    go_ret
    exact ⟨reti HV.out.symm, rfl⟩
  · have HV : Hid (((codR n : Nat) : Int) = 0) := Lib.hid (by unfold codR; rw [if_neg h]; rfl)
    rw [w3_yes h] at C
    have HC := Lib.hid C
    clear h C
    go_enter Tryz.func52, Tryz.ntmps52
    go_wp2_with (go_at_call 40; refine (HC.out _).mono ?_; rintro e w' ⟨rfl, rfl⟩)
    go_ret
    exact ⟨reti HV.out.symm, rfl⟩
theorem hasSh_any (s : ByteArray) (w : World) : Calls Tryz.prog 78 #[.string s, .string ⟨#[36, 115, 104, 97, 114, 101, 47]⟩] w fun e w' => e = .returned (.bool (hasSh s)) ∧ w = w' :=
  (Tryz.strings_HasPrefix s ⟨#[36, 115, 104, 97, 114, 101, 47]⟩ w).mono fun _ _ h => ⟨h.1, h.2.symm⟩
set_option maxHeartbeats 1000000 in
theorem wanted_any (s : ByteArray) (w : World) (hw : S1.Okw w) (hz : s.size ≤ 140737488355328) : Calls Tryz.prog 77 #[.string s] w fun e w' => e = .returned (.bool (wantedR s)) ∧ Below w.heap.size w w' := by
  have C1 := fun w => hasSh_any s w
  have C2 := S1.tShared_any s w hw hz
  have C3 := S1.tFilter_any s w hw
  cases h : hasSh s with
  | true =>
    rw [h] at C1
    have HV : Hid (wantedR s = shOkB s) := Lib.hid (by unfold wantedR; rw [h]; rfl)
    unfold S1.shRet at C2
    have e3 : S1.shOk (S1.dl s) = shOkB s := rfl
    rw [e3] at C2
    generalize S1.bs (S1.shG (S1.dl s)) = g at C2
    generalize S1.bs (S1.shF (S1.dl s)) = f at C2
    generalize shOkB s = o at C2 HV
    have H1 := Lib.hid C1
    have H2 := Lib.hid C2
    clear C1 C2 C3 h e3 hw hz
    go_enter Tryz.func77, Tryz.ntmps77
    go_wp2_with (first | (go_at_call 78; refine (H1.out _).mono ?_; rintro e w' ⟨rfl, rfl⟩) | (go_at_call 94; refine H2.out.mono ?_; rintro e w' ⟨rfl, hb⟩; have HB := Lib.hid hb; clear hb))
    go_ret
    exact ⟨retb HV.out.symm, HB.out⟩
  | false =>
    rw [h] at C1
    have HV : Hid (wantedR s = S1.T.filterL (S1.dl s)) := Lib.hid (by unfold wantedR; rw [h]; rfl)
    generalize S1.T.filterL (S1.dl s) = o at C3 HV
    have H1 := Lib.hid C1
    have H3 := Lib.hid C3
    clear C1 C2 C3 h hw hz
    go_enter Tryz.func77, Tryz.ntmps77
    go_wp2_with (first | (go_at_call 78; refine (H1.out _).mono ?_; rintro e w' ⟨rfl, rfl⟩) | (go_at_call 95; refine H3.out.mono ?_; rintro e w' ⟨rfl, hb⟩; have HB := Lib.hid hb; clear hb))
    go_ret
    exact ⟨retb HV.out.symm, HB.out⟩
theorem checkFilter_any (s : ByteArray) (w : World) (hw : S1.Okw w) (hz : s.size ≤ 140737488355328) : Calls Tryz.prog 50 #[.string s] w fun e w' => e = .returned (.int .i64 (filR s)) ∧ Below w.heap.size w w' := by
  have C := wanted_any s w hw hz
  have HV : Hid (((filR s : Nat) : Int) = if wantedR s = false then 13 else 0) := Lib.hid (by unfold filR; split <;> rfl)
  cases h : wantedR s with
  | true =>
    rw [h] at C HV
    have H := Lib.hid C
    clear C h hw hz
    go_enter Tryz.func50, Tryz.ntmps50
    go_wp2_with (go_at_call 77; refine H.out.mono ?_; rintro e w' ⟨rfl, hb⟩; have HB := Lib.hid hb; clear hb)
    go_ret
    exact ⟨reti HV.out.symm, HB.out⟩
  | false =>
    rw [h] at C HV
    have H := Lib.hid C
    clear C h hw hz
    go_enter Tryz.func50, Tryz.ntmps50
    go_wp2_with (go_at_call 77; refine H.out.mono ?_; rintro e w' ⟨rfl, hb⟩; have HB := Lib.hid hb; clear hb)
    go_ret
    exact ⟨reti HV.out.symm, HB.out⟩
set_option maxHeartbeats 2000000 in
theorem checkSub_any (x : SB) (w : World) (hw : S1.Okw w) (hz : x.1.size ≤ 140737488355328) : Calls Tryz.prog 48 #[.agg #[.string x.1, .int .i64 x.2.1, .bool x.2.2]] w fun e w' => e = .returned (.int .i64 (subR x)) ∧ Below w.heap.size w w' := by
  obtain ⟨s, l, nl⟩ := x
  dsimp only at hz ⊢
  have hb0 : Below w.heap.size w (w.alloc (.cells #[.string s, .int .i64 l, .bool nl] 73)) := (Below.refl _ _).alloc (Nat.le_refl _) _
  have C := wanted_any s (w.alloc (.cells #[.string s, .int .i64 l, .bool nl] 73)) (hw.step hb0) hz
  have C2 := fun w => within3_any l 0 2 w
  have C3 := fun w => hasSh_any s w
  have HB0 := Lib.hid hb0
  clear hw hz hb0
  have H3 := Lib.hid C3
  clear C3
  cases h : wantedR s with
  | false =>
    have HV : Hid (((subR (s, l, nl) : Nat) : Int) = 13) := Lib.hid (by unfold subR; rw [if_pos h]; rfl)
    rw [h] at C
    have H := Lib.hid C
    clear C C2 h
    go_enter Tryz.func48, Tryz.ntmps48
    go_wp2_with (go_at_call 77; refine H.out.mono ?_; rintro e w' ⟨rfl, hb⟩; have HB := Lib.hid (stepB HB0.out hb); clear hb)
    go_ret
    exact ⟨reti HV.out.symm, HB.out⟩
  | true =>
    rw [h] at C
    have H := Lib.hid C
    clear C
    by_cases hl : l < 0 ∨ 2 < l
    · have HV : Hid (((subR (s, l, nl) : Nat) : Int) = 14) := Lib.hid (by unfold subR; rw [if_neg (by rw [h]; decide), if_pos hl]; rfl)
      rw [w3_no hl] at C2
      have H2 := Lib.hid C2
      clear C2 h hl
      go_enter Tryz.func48, Tryz.ntmps48
      go_wp2_with (first | (go_at_call 77; refine H.out.mono ?_; rintro e w' ⟨rfl, hb⟩; obtain ⟨hc, hf⟩ := bcell hb; have HB := Lib.hid (stepB HB0.out hb); clear hb) | (go_at_call 40; refine (H2.out _).mono ?_; rintro e w' ⟨rfl, rfl⟩))
      go_ret
      exact ⟨reti HV.out.symm, HB.out⟩
    · have HV : Hid (((subR (s, l, nl) : Nat) : Int) = if nl = true ∧ hasSh s = true then 28 else 0) := Lib.hid (by unfold subR; rw [if_neg (by rw [h]; decide), if_neg hl]; split <;> rfl)
      rw [w3_yes hl] at C2
      have H2 := Lib.hid C2
      clear C2 h hl
      generalize hasSh s = sh at H3 HV
      cases nl
      · go_enter Tryz.func48, Tryz.ntmps48
        go_wp2_with (first | (go_at_call 77; refine H.out.mono ?_; rintro e w' ⟨rfl, hb⟩; obtain ⟨hc, hf⟩ := bcell hb; have HB := Lib.hid (stepB HB0.out hb); clear hb) | (go_at_call 40; refine (H2.out _).mono ?_; rintro e w' ⟨rfl, rfl⟩))
        go_ret
        exact ⟨reti (by rw [HV.out]; simp), HB.out⟩
      · cases sh
        all_goals
          go_enter Tryz.func48, Tryz.ntmps48
          go_wp2_with (first | (go_at_call 77; refine H.out.mono ?_; rintro e w' ⟨rfl, hb⟩; obtain ⟨hc, hf⟩ := bcell hb; have HB := Lib.hid (stepB HB0.out hb); clear hb) | (go_at_call 40; refine (H2.out _).mono ?_; rintro e w' ⟨rfl, rfl⟩) | (go_at_call 78; refine (H3.out _).mono ?_; rintro e w' ⟨rfl, rfl⟩))
          go_ret
          exact ⟨reti (by rw [HV.out]; simp), HB.out⟩

end Go.Proofs.YtomlideijhejfaaGreatDoor
