/-
  What compareKey of message and BinarySearchFunc of slices with it answer: the place of the first key that is not less, and whether it is the key. Conditions: the list reads as data, its keys ascend; lengths fit an int.
-/
import Derived.Test.YtjhojpghllnoiaaDoorKeyP
namespace Go.Proofs.YtjhojpghllnoiaaDoor
open Go.RowKit

/-- the order of two texts as a number -/
def cmpS (a b : ByteArray) : Int := if ltS a b = true then -1 else if a = b then 0 else 1
theorem cmpB : ∀ x y : List UInt8, Lib.compareBytes x y = if Op.bytesLess x y = true then -1 else if x = y then 0 else 1 := by
  intro x
  induction x with
  | nil => intro y; cases y <;> simp [Lib.compareBytes, Op.bytesLess]
  | cons a x ih =>
    intro y
    cases y with
    | nil => simp [Lib.compareBytes, Op.bytesLess]
    | cons b y =>
      rw [Lib.compareBytes, ih y]
      by_cases h1 : a < b
      · rw [if_pos h1, if_pos (by simp [Op.bytesLess, h1])]
      · rw [if_neg h1]
        by_cases h2 : b < a
        · rw [if_pos h2]
          have hne : a ≠ b := fun e => by subst e; exact absurd h2 (by simp)
          rw [if_neg (by simp [Op.bytesLess, h1, hne]), if_neg (by simp [hne])]
        · rw [if_neg h2]
          have hab : a = b := by
            rw [UInt8.lt_iff_toNat_lt] at h1 h2
            exact UInt8.toNat_inj.1 (by omega)
          subst hab
          simp [Op.bytesLess]
theorem cmpS_eq (a b : ByteArray) : Lib.compareBytes a.data.toList b.data.toList = cmpS a b := by
  rw [cmpB]
  unfold cmpS ltS
  have : (a.data.toList = b.data.toList) ↔ a = b := ⟨fun h => dl_inj h, fun h => by rw [h]⟩
  simp only [this]
  rfl
/-- the keys ascend -/
def Asc (l : List PR) : Prop := ∀ (i j : Nat) (x y : PR), l[i]? = some x → l[j]? = some y → i < j → ltS x.1 y.1 = true
/-- the place of a key -/
def posK (l : List PR) (key : ByteArray) : Nat := (l.filter fun x => ltS x.1 key).length
def foundK (l : List PR) (key : ByteArray) : Bool := match l[posK l key]? with
  | some x => decide (x.1 = key)
  | none => false
/-- everything below i is less, everything from j on is not -/
def BsRel (l : List PR) (key : ByteArray) (i j : Nat) : Prop := i ≤ j ∧ j ≤ l.length ∧ (∀ k x, k < i → l[k]? = some x → ltS x.1 key = true) ∧ ∀ k x, j ≤ k → l[k]? = some x → ltS x.1 key = false
theorem BsRel.start (l : List PR) (key : ByteArray) : BsRel l key 0 l.length := ⟨Nat.zero_le _, Nat.le_refl _, fun _ _ h => absurd h (Nat.not_lt_zero _), fun k x h hx => by
  have := (List.getElem?_eq_some_iff.1 hx).1; omega⟩
theorem BsRel.less {l : List PR} {key : ByteArray} {i j h : Nat} {x : PR} (hr : BsRel l key i j) (ha : Asc l) (hih : i ≤ h) (hhj : h < j) (hx : l[h]? = some x) (hl : ltS x.1 key = true) : BsRel l key (h + 1) j :=
  ⟨by omega, hr.2.1, fun k y hk hy => by
    by_cases e : k = h
    · subst e
      rw [hx] at hy
      rw [← Option.some.inj hy]; exact hl
    · exact ltS_trans (ha k h y x hy hx (by omega)) hl, hr.2.2.2⟩
theorem BsRel.notless {l : List PR} {key : ByteArray} {i j h : Nat} {x : PR} (hr : BsRel l key i j) (ha : Asc l) (hih : i ≤ h) (hhj : h < j) (hx : l[h]? = some x) (hl : ltS x.1 key = false) : BsRel l key i h :=
  ⟨hih, by have := hr.2.1; omega, hr.2.2.1, fun k y hk hy => by
    by_cases e : k = h
    · subst e
      rw [hx] at hy
      rw [← Option.some.inj hy]; exact hl
    · cases h' : ltS y.1 key
      · rfl
      · have := ltS_trans (ha h k x y hx hy (by omega)) h'
        rw [hl] at this; exact this.symm⟩
theorem filter_pre {α : Type} (p : α → Bool) : ∀ (l : List α) (i : Nat), i ≤ l.length → (∀ k x, k < i → l[k]? = some x → p x = true) → (∀ k x, i ≤ k → l[k]? = some x → p x = false) → l.filter p = l.take i := by
  intro l
  induction l with
  | nil => intro i _ _ _; simp
  | cons a l ih =>
    intro i hi h1 h2
    cases i with
    | zero =>
      rw [List.take_zero, List.filter_eq_nil_iff]
      intro x hx
      obtain ⟨k, hk⟩ := List.mem_iff_getElem?.1 hx
      rw [h2 k x (Nat.zero_le _) hk]; simp
    | succ i =>
      have ha : p a = true := h1 0 a (by omega) rfl
      rw [List.filter_cons_of_pos ha, List.take_succ_cons, ih i (by simpa using hi) (fun k x hk hx => h1 (k + 1) x (by omega) hx) (fun k x hk hx => h2 (k + 1) x (by omega) hx)]
theorem BsRel.pos {l : List PR} {key : ByteArray} {i : Nat} (hr : BsRel l key i i) : posK l key = i := by
  unfold posK
  rw [filter_pre _ l i hr.2.1 hr.2.2.1 hr.2.2.2, List.length_take]
  have := hr.2.1
  omega
def retS (i : Nat) (b : Bool) : Ending := .returned (.tuple #[.int .i64 i, .bool b])
theorem found_at {l : List PR} {key : ByteArray} {i : Nat} (hr : BsRel l key i i) {x : PR} (hx : l[i]? = some x) : foundK l key = decide (x.1 = key) := by
  unfold foundK
  rw [hr.pos, hx]
theorem found_end {l : List PR} {key : ByteArray} {i : Nat} (hr : BsRel l key i i) (hx : l.length ≤ i) : foundK l key = false := by
  unfold foundK
  rw [hr.pos, List.getElem?_eq_none hx]
theorem cmpS_lt {a b : ByteArray} (h : ltS a b = true) : cmpS a b = -1 := by unfold cmpS; rw [if_pos h]
theorem cmpS_eq0 {a b : ByteArray} (h : a = b) : cmpS a b = 0 := by unfold cmpS; rw [h, ltS_irrefl, if_neg (by simp), if_pos rfl]
theorem cmpS_gt {a b : ByteArray} (h : ltS a b = false) (hne : a ≠ b) : cmpS a b = 1 := by unfold cmpS; rw [h, if_neg (by simp), if_neg hne]

end Go.Proofs.YtjhojpghllnoiaaDoor
