/-
  Plain lists of bytes: what a name, a filter, the levels of a text are, and how they behave (no program, no run). Conditions: none.
-/
import Derived.Lib.IndexAny
import Derived.Lib.Join
import Derived.Lib.RuneCount
import Derived.Lib.SplitLaws
namespace Go.Proofs.YtaaginkafadhdaaGreatDoor.S1.T

def low (c : UInt8) : Bool := decide (97 ≤ c.toNat) && decide (c.toNat ≤ 122)
def dig (c : UInt8) : Bool := decide (48 ≤ c.toNat) && decide (c.toNat ≤ 57)
def nok (c : UInt8) : Bool := low c || dig c || decide (c.toNat = 45)
/-- is the byte at place i one that a name may have there? -/
def nokAt (i : Nat) (c : UInt8) : Bool := if i = 0 then low c else nok c
def nameL (l : List UInt8) : Bool := decide (1 ≤ l.length) && decide (l.length ≤ 16) && (List.range l.length).all fun i => nokAt i (l.getD i 0)

theorem nameL_false_at {l : List UInt8} {i : Nat} (hi : i < l.length) (h : nokAt i (l.getD i 0) = false) : nameL l = false := by
  have : ((List.range l.length).all fun i => nokAt i (l.getD i 0)) = false := by
    rw [List.all_eq_false]
    exact ⟨i, List.mem_range.2 hi, by simp only [h]; decide⟩
  unfold nameL
  rw [this]; simp
theorem nameL_true {l : List UInt8} (h1 : 1 ≤ l.length) (h2 : l.length ≤ 16) (h : ∀ i, i < l.length → nokAt i (l.getD i 0) = true) : nameL l = true := by
  have : ((List.range l.length).all fun i => nokAt i (l.getD i 0)) = true := by
    rw [List.all_eq_true]
    intro i hi
    exact h i (List.mem_range.1 hi)
  unfold nameL
  rw [this]; simp [h1, h2]
theorem nameL_size {l : List UInt8} (h : l.length < 1 ∨ 16 < l.length) : nameL l = false := by
  unfold nameL
  rcases h with h | h
  · rw [decide_eq_false (show ¬ 1 ≤ l.length by omega)]; simp
  · rw [decide_eq_false (show ¬ l.length ≤ 16 by omega)]; simp

theorem nokAt_high (i : Nat) {c : UInt8} (h : 128 ≤ c.toNat) : nokAt i c = false := by
  have h1 : low c = false := by simp [low]; omega
  have h2 : nok c = false := by simp [nok, dig, h1]; omega
  unfold nokAt
  split <;> assumption

theorem nokAt_iff (i : Nat) (c : UInt8) : nokAt i c = true ↔ (97 ≤ c.toNat ∧ c.toNat ≤ 122) ∨ (0 < i ∧ ((48 ≤ c.toNat ∧ c.toNat ≤ 57) ∨ c.toNat = 45)) := by
  unfold nokAt
  split
  · next h => subst h; simp [low]
  · next h =>
    have : 0 < i := by omega
    simp [nok, dig, low, this, or_assoc]

def glue (c : UInt8) : List (List UInt8) → List (List UInt8)
  | [] => [[c]]
  | x :: r => (c :: x) :: r
def lv : List UInt8 → List (List UInt8)
  | [] => [[]]
  | c :: r => if c = 47 then [] :: lv r else glue c (lv r)

theorem lv_ne (l : List UInt8) : lv l ≠ [] := by
  cases l with
  | nil => simp [lv]
  | cons c r =>
    unfold lv
    split
    · simp
    · cases lv r <;> simp [glue]

theorem glue_length (c : UInt8) (a : List (List UInt8)) (h : a ≠ []) : (glue c a).length = a.length := by
  cases a with
  | nil => exact absurd rfl h
  | cons x r => rfl

theorem lv_length (l : List UInt8) : (lv l).length = l.count 47 + 1 := by
  induction l with
  | nil => rfl
  | cons c r ih =>
    unfold lv
    split
    · next h => subst h; simp [ih]
    · next h => rw [glue_length _ _ (lv_ne r), ih, List.count_cons_of_ne h]

/-- A text that holds no slash has one level. -/
theorem lv_plain (l : List UInt8) (h : 47 ∉ l) : lv l = [l] := by
  induction l with
  | nil => rfl
  | cons c r ih =>
    have hc : ¬ c = 47 := fun e => h (by simp [e])
    have hr : 47 ∉ r := fun e => h (by simp [e])
    unfold lv
    rw [if_neg hc, ih hr]; rfl

theorem lv_append (a r : List UInt8) (h : 47 ∉ a) : lv (a ++ 47 :: r) = a :: lv r := by
  induction a with
  | nil => simp [lv]
  | cons c a ih =>
    have hc : ¬ c = 47 := fun e => h (by simp [e])
    have hr : 47 ∉ a := fun e => h (by simp [e])
    rw [List.cons_append, lv, if_neg hc, ih hr]; rfl

theorem lv_snoc (l : List UInt8) (c : UInt8) (h : c ≠ 47) (out : List (List UInt8)) (x : List UInt8) (e : lv l = out ++ [x]) : lv (l ++ [c]) = out ++ [x ++ [c]] := by
  induction l generalizing out x with
  | nil =>
    cases out with
    | nil =>
      simp only [lv, List.nil_append, List.cons.injEq, and_true] at e
      subst e
      simp [lv, h, glue]
    | cons y r => simp [lv] at e
  | cons d r ih =>
    rw [List.cons_append, lv]
    rw [lv] at e
    split
    · next hd =>
      rw [if_pos hd] at e
      cases out with
      | nil =>
        have := lv_ne r
        simp at e
        exact absurd e.2 this
      | cons y o =>
        simp only [List.cons_append, List.cons.injEq] at e
        rw [ih o x e.2, ← e.1]; rfl
    · next hd =>
      rw [if_neg hd] at e
      cases hr : lv r with
      | nil => exact absurd hr (lv_ne r)
      | cons y t =>
        rw [hr] at e
        simp only [glue] at e
        cases out with
        | nil =>
          simp only [List.nil_append, List.cons.injEq] at e
          have := ih [] y (by rw [hr, e.2]; rfl)
          rw [this]
          simp only [List.nil_append, glue, ← e.1, List.cons_append]
        | cons z o =>
          simp only [List.cons_append, List.cons.injEq] at e
          have := ih (y :: o) x (by rw [hr, e.2]; rfl)
          rw [this]
          simp only [List.cons_append, glue, e.1]

def wildFree (l : List UInt8) : Bool := l.all fun c => decide (c ≠ 43) && decide (c ≠ 35)
def clean (l : List UInt8) : Bool := l.all fun c => decide (c ≠ 0) && decide (c ≠ 43) && decide (c ≠ 35)
/-- may this be a level of a filter (the last one, or another)? -/
def lok (last : Bool) (x : List UInt8) : Bool := decide (x = [43]) || (decide (x = [35]) && last) || clean x
def okAt (a : List (List UInt8)) (i : Nat) : Bool := lok (decide (i + 1 = a.length)) (a.getD i [])
def levelsOk (a : List (List UInt8)) : Bool := (List.range a.length).all fun i => okAt a i
def filterL (l : List UInt8) : Bool := decide (1 ≤ l.length) && decide (l.length ≤ 64) && decide ((lv l).length ≤ 8) && levelsOk (lv l)
def validL (l : List UInt8) : Bool := filterL l && wildFree l

theorem levelsOk_true {a : List (List UInt8)} (h : ∀ i, i < a.length → okAt a i = true) : levelsOk a = true := by
  unfold levelsOk
  rw [List.all_eq_true]
  intro i hi
  exact h i (List.mem_range.1 hi)
theorem levelsOk_at {a : List (List UInt8)} (h : levelsOk a = true) {i : Nat} (hi : i < a.length) : okAt a i = true := by
  unfold levelsOk at h
  rw [List.all_eq_true] at h
  exact h i (List.mem_range.2 hi)
theorem levelsOk_false {a : List (List UInt8)} {i : Nat} (hi : i < a.length) (h : okAt a i = false) : levelsOk a = false := by
  cases e : levelsOk a with
  | false => rfl
  | true => rw [levelsOk_at e hi] at h; cases h

theorem filterL_true {l : List UInt8} (h1 : 1 ≤ l.length) (h2 : l.length ≤ 64) (h3 : (lv l).length ≤ 8) (h : ∀ i, i < (lv l).length → okAt (lv l) i = true) : filterL l = true := by
  unfold filterL
  rw [levelsOk_true h]; simp [h1, h2, h3]
theorem filterL_size {l : List UInt8} (h : l.length < 1 ∨ 64 < l.length) : filterL l = false := by
  unfold filterL
  rcases h with h | h
  · rw [decide_eq_false (show ¬ 1 ≤ l.length by omega)]; simp
  · rw [decide_eq_false (show ¬ l.length ≤ 64 by omega)]; simp
theorem filterL_many {l : List UInt8} (h : 8 < (lv l).length) : filterL l = false := by
  unfold filterL
  rw [decide_eq_false (show ¬ (lv l).length ≤ 8 by omega)]; simp
theorem filterL_at {l : List UInt8} {i : Nat} (hi : i < (lv l).length) (h : okAt (lv l) i = false) : filterL l = false := by
  unfold filterL
  rw [levelsOk_false hi h]; simp
theorem filterL_parts {l : List UInt8} (h : filterL l = true) : 1 ≤ l.length ∧ l.length ≤ 64 ∧ (lv l).length ≤ 8 ∧ ∀ i, i < (lv l).length → okAt (lv l) i = true := by
  unfold filterL at h
  simp only [Bool.and_eq_true, decide_eq_true_eq] at h
  exact ⟨h.1.1.1, h.1.1.2, h.1.2, fun i hi => levelsOk_at h.2 hi⟩

theorem getD_mem {α : Type} (a : List α) (i : Nat) (d : α) (h : i < a.length) : a.getD i d ∈ a := by
  rw [List.getD_eq_getElem?_getD, List.getElem?_eq_getElem h]
  exact List.getElem_mem h
theorem mem_getD {α : Type} {a : List α} {x : α} (d : α) (h : x ∈ a) : ∃ i, i < a.length ∧ a.getD i d = x := by
  obtain ⟨i, hi, e⟩ := List.getElem_of_mem h
  exact ⟨i, hi, by rw [List.getD_eq_getElem?_getD, List.getElem?_eq_getElem hi]; exact e⟩

end Go.Proofs.YtaaginkafadhdaaGreatDoor.S1.T
