/-
  What the laws of layer 6 want of packets as plain data: a changed field that the kind does not use; the packet that acknowledges a valid one; the chain of acknowledgements. No function of the program is walked here.
-/
import Derived.Test.YtomlideijhejfaaGreatDoorPkt
namespace Go.Proofs.YtomlideijhejfaaGreatDoor
open Go.RowKit

theorem checkP_kind {p : Pkt} (h : checkP p = 0) : 1 ≤ p.kind ∧ p.kind ≤ 14 := by
  unfold checkP at h
  split at h
  · cases h
  · omega
theorem checkP_used {p : Pkt} (h : checkP p = 0) : p = usedP p := by
  unfold checkP at h
  split at h
  · cases h
  · split at h
    · cases h
    · next h2 => exact Decidable.not_not.1 h2
theorem checkP_body {p : Pkt} (h : checkP p = 0) : bodyR p = 0 := by
  unfold checkP at h
  split at h
  · cases h
  · split at h
    · cases h
    · exact h
theorem checkP_field {q : Pkt} (hk : 1 ≤ q.kind ∧ q.kind ≤ 14) (h : q ≠ usedP q) : checkP q = 28 := by
  unfold checkP
  rw [if_neg (by omega), if_pos h]
theorem field_window {p : Pkt} (h : checkP p = 0) (hk : p.kind ≠ 1) : checkP { p with window := 1 } = 28 := by
  refine checkP_field (show 1 ≤ p.kind ∧ p.kind ≤ 14 from checkP_kind h) fun e => ?_
  have := congrArg Pkt.window e
  simp [usedP, hk] at this
theorem field_codes {p : Pkt} (h : checkP p = 0) (hk : ¬ (p.kind = 9 ∨ p.kind = 11)) : checkP { p with codes := [0] } = 28 := by
  refine checkP_field (show 1 ≤ p.kind ∧ p.kind ≤ 14 from checkP_kind h) fun e => ?_
  have := congrArg Pkt.codes e
  simp [usedP, hk] at this
theorem field_present {p : Pkt} (h : checkP p = 0) (hk : p.kind ≠ 2) : checkP { p with present := true } = 28 := by
  refine checkP_field (show 1 ≤ p.kind ∧ p.kind ≤ 14 from checkP_kind h) fun e => ?_
  have := congrArg Pkt.present e
  simp [usedP, hk] at this

/-- a packet that has a kind and an identifier alone -/
def plainP (k n : Int) : Pkt := { Pkt.zero with kind := k, id := n }
theorem ansP_eq {p : Pkt} (h : ansK p ≠ 0) : ansP p = plainP (ansK p) p.id := by unfold ansP plainP; rw [if_neg h]
theorem ansP_no {p : Pkt} (h : ansK p = 0) : ansP p = Pkt.zero := by unfold ansP; rw [if_pos h]
theorem plain_used {k n : Int} (hk : 4 ≤ k ∧ k ≤ 7) : plainP k n = usedP (plainP k n) := by
  have h1 : 3 ≤ k ∧ k ≤ 11 := by omega
  have e1 : k ≠ 1 := by omega
  have e2 : k ≠ 2 := by omega
  have e3 : k ≠ 3 := by omega
  have e8 : k ≠ 8 := by omega
  have e9 : k ≠ 9 := by omega
  have e10 : k ≠ 10 := by omega
  have e11 : k ≠ 11 := by omega
  have e14 : k ≠ 14 := by omega
  simp [plainP, usedP, Pkt.zero, h1, e1, e2, e3, e8, e9, e10, e11, e14]
theorem plain_check {k n : Int} (hk : 4 ≤ k ∧ k ≤ 7) : checkP (plainP k n) = idR n := by
  unfold checkP
  rw [if_neg (by show ¬ (k < 1 ∨ 14 < k); omega), if_neg (by rw [Decidable.not_not]; exact plain_used hk)]
  unfold bodyR
  show (if k = 1 then _ else if k = 2 then _ else if k = 3 then _ else if k = 4 ∨ k = 5 ∨ k = 6 ∨ k = 7 then idR n else _) = _
  rw [if_neg (by omega), if_neg (by omega), if_neg (by omega), if_pos (by omega)]
theorem pong_check : checkP (plainP 13 0) = 0 := by
  have h : plainP 13 0 = usedP (plainP 13 0) := by simp [plainP, usedP, Pkt.zero]
  unfold checkP
  rw [if_neg (by show ¬ ((13 : Int) < 1 ∨ (14 : Int) < 13); omega), if_neg (by rw [Decidable.not_not]; exact h)]
  rfl
theorem ansK_cases (p : Pkt) : ansK p = 0 ∨ (ansK p = 4 ∧ p.kind = 3 ∧ p.msg.level = 1) ∨ (ansK p = 5 ∧ p.kind = 3 ∧ p.msg.level = 2) ∨ (ansK p = 6 ∧ p.kind = 5) ∨ (ansK p = 7 ∧ p.kind = 6) ∨ (ansK p = 13 ∧ p.kind = 12) := by
  unfold ansK
  split
  · next h => exact .inr (.inl ⟨rfl, h⟩)
  split
  · next h => exact .inr (.inr (.inl ⟨rfl, h⟩))
  split
  · next h => exact .inr (.inr (.inr (.inl ⟨rfl, h⟩)))
  split
  · next h => exact .inr (.inr (.inr (.inr (.inl ⟨rfl, h⟩))))
  split
  · next h => exact .inr (.inr (.inr (.inr (.inr ⟨rfl, h⟩))))
  · exact .inl rfl
theorem check_id {p : Pkt} (h : checkP p = 0) (hk : p.kind = 5 ∨ p.kind = 6) : idR p.id = 0 := by
  have := checkP_body h
  unfold bodyR at this
  rw [if_neg (by omega), if_neg (by omega), if_neg (by omega), if_pos (by omega)] at this
  exact this
theorem check_pub {p : Pkt} (h : checkP p = 0) (hk : p.kind = 3) (hl : 0 < p.msg.level) : idR p.id = 0 := by
  have := checkP_body h
  unfold bodyR at this
  rw [if_neg (by omega), if_neg (by omega), if_pos hk] at this
  unfold pubR at this
  split at this
  · next h2 => exact absurd this h2
  · simpa [hl] using this
theorem ans_valid {p : Pkt} (h : checkP p = 0) (ha : ansK p ≠ 0) : checkP (ansP p) = 0 := by
  rw [ansP_eq ha]
  rcases ansK_cases p with e | ⟨e, hk, hl⟩ | ⟨e, hk, hl⟩ | ⟨e, hk⟩ | ⟨e, hk⟩ | ⟨e, hk⟩
  · exact absurd e ha
  · rw [e, plain_check (by omega)]; exact check_pub h hk (by omega)
  · rw [e, plain_check (by omega)]; exact check_pub h hk (by omega)
  · rw [e, plain_check (by omega)]; exact check_id h (by omega)
  · rw [e, plain_check (by omega)]; exact check_id h (by omega)
  · have hu := congrArg Pkt.id (checkP_used h)
    have : p.id = 0 := by rw [hu]; unfold usedP; exact if_neg (by omega)
    rw [e, this]; exact pong_check
theorem ans_kind {p : Pkt} (ha : ansK p ≠ 0) : (ansP p).kind = ansK p := by rw [ansP_eq ha]; rfl
theorem ans_roles {p : Pkt} (ha : ansK p ≠ 0) : (clientR p.kind = true → brokerR (ansK p) = true) ∧ (brokerR p.kind = true → clientR (ansK p) = true) := by
  rcases ansK_cases p with e | ⟨e, hk, hl⟩ | ⟨e, hk, hl⟩ | ⟨e, hk⟩ | ⟨e, hk⟩ | ⟨e, hk⟩
  · exact absurd e ha
  all_goals (rw [e, hk]; decide)

def pubP (level id : Int) : Pkt := { Pkt.zero with kind := 3, id := id, msg := { Msg.zero with topic := ⟨#[97]⟩, level := level } }
def wantH (level : Int) : Nat := if level = 2 then 3 else level.toNat
/-- the packet before round k -/
def stepP (level id : Int) (k : Nat) : Pkt :=
  if k = 0 then pubP level id else if level = 1 then plainP 4 id else plainP (4 + k) id
theorem pub_level {level id : Int} (h : checkP (pubP level id) = 0) : level = 0 ∨ level = 1 ∨ level = 2 := by
  have := checkP_body h
  unfold bodyR at this
  rw [if_neg (by show ¬ ((3 : Int) = 1); omega), if_neg (by show ¬ ((3 : Int) = 2); omega), if_pos (by rfl)] at this
  unfold pubR at this
  split at this
  · next h2 => exact absurd this h2
  · next h2 =>
    have h3 : checkR (pubP level id).msg = 0 := Decidable.not_not.1 h2
    unfold checkR at h3
    split at h3
    · cases h3
    split at h3
    · cases h3
    split at h3
    · cases h3
    · next h4 =>
      have h5 : ¬ (level < 0 ∨ 2 < level) := h4
      omega
theorem pub_id {level id : Int} (h : checkP (pubP level id) = 0) (hl : 0 < level) : idR id = 0 := check_pub h rfl hl
theorem step_ans {level id : Int} (h : checkP (pubP level id) = 0) {k : Nat} (hk : k < wantH level) :
    ansK (stepP level id k) ≠ 0 ∧ ansP (stepP level id k) = stepP level id (k + 1) ∧ (stepP level id (k + 1)).id = id ∧ checkP (stepP level id (k + 1)) = 0 := by
  rcases pub_level h with rfl | rfl | rfl
  · simp [wantH] at hk
  · have : k = 0 := by simp [wantH] at hk; omega
    subst this
    have hi := pub_id h (by omega)
    refine ⟨by simp [stepP, ansK, pubP], ?_, rfl, ?_⟩
    · rw [ansP_eq (by simp [stepP, ansK, pubP])]; rfl
    · show checkP (plainP 4 id) = 0
      rw [plain_check (by omega)]; exact hi
  · have hi := pub_id h (by omega)
    have : k = 0 ∨ k = 1 ∨ k = 2 := by simp [wantH] at hk; omega
    rcases this with rfl | rfl | rfl
    · refine ⟨by simp [stepP, ansK, pubP], ?_, rfl, ?_⟩
      · rw [ansP_eq (by simp [stepP, ansK, pubP])]; rfl
      · show checkP (plainP (4 + (1 : Nat)) id) = 0
        rw [plain_check (by omega)]; exact hi
    · refine ⟨by simp [stepP, ansK, plainP], ?_, rfl, ?_⟩
      · rw [ansP_eq (by simp [stepP, ansK, plainP])]; rfl
      · show checkP (plainP (4 + (2 : Nat)) id) = 0
        rw [plain_check (by omega)]; exact hi
    · refine ⟨by simp [stepP, ansK, plainP], ?_, rfl, ?_⟩
      · rw [ansP_eq (by simp [stepP, ansK, plainP])]; rfl
      · show checkP (plainP (4 + (3 : Nat)) id) = 0
        rw [plain_check (by omega)]; exact hi
theorem step_end {level id : Int} (h : checkP (pubP level id) = 0) : ansK (stepP level id (wantH level)) = 0 := by
  rcases pub_level h with rfl | rfl | rfl
  · simp [wantH, stepP, ansK, pubP]
  · simp [wantH, stepP, ansK, plainP]
  · simp [wantH, stepP, ansK, plainP]
theorem want_lt {level id : Int} (h : checkP (pubP level id) = 0) : wantH level < 5 := by
  rcases pub_level h with rfl | rfl | rfl <;> decide

end Go.Proofs.YtomlideijhejfaaGreatDoor
