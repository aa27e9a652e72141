/-
  Exchanges, bindings and routes as plain values: what is valid, and what each change answers. No program is named here.
-/
import Derived.Test.YtjkhfifnfgchgabGreatDoorMsg
import Derived.Test.YtjkhfifnfgchgabGreatDoorEpM
namespace Go.Proofs.YtjkhfifnfgchgabGreatDoor

structure Ex where
  nm : ByteArray
  kd : Int
  alt : ByteArray
deriving DecidableEq
structure Bd where
  ex : ByteArray
  qu : ByteArray
  ky : ByteArray
  all : Bool
  ml : List PR
deriving DecidableEq
/-- the error of a routing key or pattern -/
def txR (s : ByteArray) : Int := if 64 < s.size then 5 else if (dl s).contains 0 then 2 else 0
def kdR (k : Int) : Bool := decide (1 ≤ k) && decide (k ≤ 4)
/-- by what is known of its fields: the name, the kind, whether there is no alternate, the alternate -/
def exE (b1 b3 b4 b2 : Bool) : Int := if b1 = false then 11 else if b3 = false then 10 else if (!b4 && !b2) = true then 11 else 0
def exR (x : Ex) : Int := exE (nameR x.nm) (kdR x.kd) (decide (x.alt = ⟨#[]⟩)) (nameR x.alt)
def getE (l : List Ex) (n : ByteArray) : Option Ex := l.find? (fun x => decide (x.nm = n))
def posE (l : List Ex) (n : ByteArray) : Nat := (l.filter fun x => ltS x.nm n).length
/-- the names ascend -/
def AscE (l : List Ex) : Prop := ∀ (i j : Nat) (x y : Ex), l[i]? = some x → l[j]? = some y → i < j → ltS x.nm y.nm = true
def ofE (o : Option Ex) (b : Bd) : Int := match o with
  | none => 8
  | some x => if x.kd = 4 then (propsR b.ml : Int) else if b.all then 28 else if 0 < b.ml.length then 28 else 0
def bdR (l : List Ex) (b : Bd) : Int := if nameR b.ex = false then 11 else if nameR b.qu = false then 11 else if txR b.ky ≠ 0 then txR b.ky else ofE (getE l b.ex) b
def notLt (p : Option ByteArray) (n : ByteArray) : Bool := match p with
  | none => false
  | some q => !ltS q n
/-- the first error of the exchanges behind this name -/
def chkE : Option ByteArray → List Ex → Int
  | _, [] => 0
  | p, x :: r => if exR x ≠ 0 then exR x else if notLt p x.nm = true then 22 else chkE (some x.nm) r
def chkB (l : List Ex) : List Bd → List Bd → Int
  | _, [] => 0
  | p, b :: r => if bdR l b ≠ 0 then bdR l b else if b ∈ p then 26 else chkB l (p ++ [b]) r
def ckR (l : List Ex) (bs : List Bd) : Int := if 32 < l.length then 5 else if 256 < bs.length then 5 else if chkE none l ≠ 0 then chkE none l else chkB l [] bs
/-- the index of a binding, from k on, or -1 -/
def fB (b : Bd) : List Bd → Nat → Int
  | [], _ => -1
  | x :: r, k => if x = b then (k : Int) else fB b r (k + 1)
def insE (l : List Ex) (x : Ex) : List Ex := l.take (posE l x.nm) ++ x :: l.drop (posE l x.nm)
def declR (l : List Ex) (x : Ex) : List Ex × Int := if exR x ≠ 0 then ([], exR x) else match getE l x.nm with
  | some y => if y = x then (l, 0) else ([], 7)
  | none => if 32 ≤ l.length then ([], 6) else (insE l x, 0)
def bindR (l : List Ex) (bs : List Bd) (b : Bd) : List Bd × Int := if bdR l b ≠ 0 then ([], bdR l b) else if 0 ≤ fB b bs 0 then (bs, 0) else if 256 ≤ bs.length then ([], 6) else (bs ++ [b], 0)
def unbR (bs : List Bd) (b : Bd) : List Bd × Int := if fB b bs 0 < 0 then ([], 8) else (bs.eraseIdx (fB b bs 0).toNat, 0)
def dropR (bs : List Bd) (q : ByteArray) : List Bd := bs.filter (fun b => !decide (b.qu = q))

/-! ### Positions -/
theorem fB_ge (b : Bd) : ∀ (r : List Bd) (k : Nat), fB b r k = -1 ∨ (k : Int) ≤ fB b r k
  | [], k => Or.inl rfl
  | x :: r, k => by
    unfold fB
    split
    · exact Or.inr (Int.le_refl _)
    · rcases fB_ge b r (k + 1) with h | h
      · exact Or.inl h
      · exact Or.inr (by omega)
theorem fB_mem (b : Bd) : ∀ (r : List Bd) (k : Nat), 0 ≤ fB b r k ↔ b ∈ r
  | [], k => by simp [fB]
  | x :: r, k => by
    unfold fB
    by_cases h : x = b
    · rw [if_pos h]
      exact ⟨fun _ => by simp [h], fun _ => by omega⟩
    · rw [if_neg h, fB_mem b r (k + 1), List.mem_cons]
      exact ⟨fun h2 => Or.inr h2, fun h2 => h2.resolve_left (fun e => h e.symm)⟩
theorem fB_lt (b : Bd) : ∀ (r : List Bd) (k : Nat), fB b r k < (k : Int) + r.length ∨ r = []
  | [], k => Or.inr rfl
  | x :: r, k => Or.inl (by
    unfold fB
    split
    · rw [List.length_cons]; omega
    · rcases fB_lt b r (k + 1) with h | h
      · rw [List.length_cons]; omega
      · subst h; simp [fB]; omega)
theorem fB_at (b : Bd) (r : List Bd) (h : 0 ≤ fB b r 0) : ∃ i : Nat, fB b r 0 = (i : Int) ∧ i < r.length := by
  refine ⟨(fB b r 0).toNat, by omega, ?_⟩
  rcases fB_lt b r 0 with h2 | h2
  · omega
  · subst h2; simp [fB] at h
theorem fB_neg (b : Bd) (r : List Bd) (k : Nat) (h : fB b r k < 0) : fB b r k = -1 := by
  rcases fB_ge b r k with h2 | h2 <;> omega

/-! ### Names in order -/
theorem filter_preE {α : Type} (p : α → Bool) : ∀ (l : List α) (i : Nat), i ≤ l.length → (∀ k x, k < i → l[k]? = some x → p x = true) → (∀ k x, i ≤ k → l[k]? = some x → p x = false) → l.filter p = l.take i := by
  intro l
  induction l with
  | nil => intro i _ _ _; simp
  | cons a l ih =>
    intro i hi h1 h2
    cases i with
    | zero =>
      rw [List.take_zero, List.filter_eq_nil_iff]
      intro x hx
      obtain ⟨k, hk⟩ := List.mem_iff_getElem?.1 hx
      rw [h2 k x (Nat.zero_le _) hk]; simp
    | succ i =>
      have ha : p a = true := h1 0 a (by omega) rfl
      rw [List.filter_cons_of_pos ha, List.take_succ_cons, ih i (by simpa using hi) (fun k x hk hx => h1 (k + 1) x (by omega) hx) (fun k x hk hx => h2 (k + 1) x (by omega) hx)]
/-- everything below i is less, everything from j on is not -/
def BsE (l : List Ex) (n : ByteArray) (i j : Nat) : Prop := i ≤ j ∧ j ≤ l.length ∧ (∀ k x, k < i → l[k]? = some x → ltS x.nm n = true) ∧ ∀ k x, j ≤ k → l[k]? = some x → ltS x.nm n = false
theorem BsE.start (l : List Ex) (n : ByteArray) : BsE l n 0 l.length := ⟨Nat.zero_le _, Nat.le_refl _, fun _ _ h => absurd h (Nat.not_lt_zero _), fun k x h hx => by
  have := (List.getElem?_eq_some_iff.1 hx).1; omega⟩
theorem BsE.less {l : List Ex} {n : ByteArray} {i j h : Nat} {x : Ex} (hr : BsE l n i j) (ha : AscE l) (hih : i ≤ h) (hhj : h < j) (hx : l[h]? = some x) (hl : ltS x.nm n = true) : BsE l n (h + 1) j :=
  ⟨by omega, hr.2.1, fun k y hk hy => by
    by_cases e : k = h
    · subst e
      rw [hx] at hy
      rw [← Option.some.inj hy]; exact hl
    · exact ltS_trans (ha k h y x hy hx (by omega)) hl, hr.2.2.2⟩
theorem BsE.notless {l : List Ex} {n : ByteArray} {i j h : Nat} {x : Ex} (hr : BsE l n i j) (ha : AscE l) (hih : i ≤ h) (hhj : h < j) (hx : l[h]? = some x) (hl : ltS x.nm n = false) : BsE l n i h :=
  ⟨hih, by have := hr.2.1; omega, hr.2.2.1, fun k y hk hy => by
    by_cases e : k = h
    · subst e
      rw [hx] at hy
      rw [← Option.some.inj hy]; exact hl
    · cases h' : ltS y.nm n
      · rfl
      · have := ltS_trans (ha h k x y hx hy (by omega)) h'
        rw [hl] at this; exact this.symm⟩
theorem BsE.pos {l : List Ex} {n : ByteArray} {i : Nat} (hr : BsE l n i i) : posE l n = i := by
  unfold posE
  rw [filter_preE _ l i hr.2.1 hr.2.2.1 hr.2.2.2, List.length_take]
  have := hr.2.1
  omega
theorem posE_le (l : List Ex) (n : ByteArray) : posE l n ≤ l.length := List.length_filter_le _ _
theorem getE_some {l : List Ex} {n : ByteArray} {x : Ex} (h : getE l n = some x) : x.nm = n ∧ x ∈ l := by
  unfold getE at h
  exact ⟨by simpa using List.find?_some h, List.mem_of_find?_eq_some h⟩
theorem getE_none {l : List Ex} {n : ByteArray} : getE l n = none ↔ ∀ x ∈ l, x.nm ≠ n := by
  unfold getE
  simp [List.find?_eq_none]
/-- the one place of a name -/
theorem asc_one {l : List Ex} (ha : AscE l) {i j : Nat} {x y : Ex} (hx : l[i]? = some x) (hy : l[j]? = some y) (h : x.nm = y.nm) : i = j := by
  rcases Nat.lt_trichotomy i j with h1 | h1 | h1
  · have := ha i j x y hx hy h1
    rw [h, ltS_irrefl] at this; cases this
  · exact h1
  · have := ha j i y x hy hx h1
    rw [h, ltS_irrefl] at this; cases this
theorem posE_bs {l : List Ex} (ha : AscE l) (n : ByteArray) : BsE l n (posE l n) (posE l n) := by
  have hs : ∀ (k : Nat), (∀ j, j < k → ∀ x, l[j]? = some x → ltS x.nm n = true) → k ≤ l.length → (k = l.length ∨ (∃ x, l[k]? = some x ∧ ltS x.nm n = false) ∨ ∃ x, l[k]? = some x ∧ ltS x.nm n = true) := fun k _ hk => by
    by_cases h : k = l.length
    · exact Or.inl h
    · obtain ⟨x, hx⟩ : ∃ x, l[k]? = some x := ⟨_, List.getElem?_eq_getElem (by omega)⟩
      cases hl : ltS x.nm n
      · exact Or.inr (Or.inl ⟨x, hx, hl⟩)
      · exact Or.inr (Or.inr ⟨x, hx, hl⟩)
  have go : ∀ (g k : Nat), k + g = l.length → (∀ j, j < k → ∀ x, l[j]? = some x → ltS x.nm n = true) → ∃ i, BsE l n i i := by
    intro g
    induction g with
    | zero =>
      intro k hk hb
      exact ⟨k, Nat.le_refl _, by omega, fun j x hj hx => hb j hj x hx, fun j x hj hx => by have := (List.getElem?_eq_some_iff.1 hx).1; omega⟩
    | succ g ih =>
      intro k hk hb
      rcases hs k hb (by omega) with h | ⟨x, hx, hl⟩ | ⟨x, hx, hl⟩
      · omega
      · refine ⟨k, Nat.le_refl _, by omega, fun j y hj hy => hb j hj y hy, fun j y hj hy => ?_⟩
        by_cases e : j = k
        · subst e; rw [hx] at hy; rw [← Option.some.inj hy]; exact hl
        · cases h' : ltS y.nm n
          · rfl
          · have := ltS_trans (ha k j x y hx hy (by omega)) h'
            rw [hl] at this; exact this.symm
      · refine ih (k + 1) (by omega) (fun j hj y hy => ?_)
        by_cases e : j = k
        · subst e; rw [hx] at hy; rw [← Option.some.inj hy]; exact hl
        · exact hb j (by omega) y hy
  obtain ⟨i, hi⟩ := go l.length 0 (by omega) (fun j hj => absurd hj (Nat.not_lt_zero _))
  rw [hi.pos]; exact hi
theorem getE_pos {l : List Ex} (ha : AscE l) {n : ByteArray} {x : Ex} (h : getE l n = some x) : l[posE l n]? = some x := by
  obtain ⟨h1, h2⟩ := getE_some h
  obtain ⟨i, hi⟩ := List.mem_iff_getElem?.1 h2
  have hb := posE_bs ha n
  have : i = posE l n := by
    rcases Nat.lt_trichotomy i (posE l n) with h3 | h3 | h3
    · have := hb.2.2.1 i x h3 hi
      rw [h1, ltS_irrefl] at this; cases this
    · exact h3
    · obtain ⟨y, hy⟩ : ∃ y, l[posE l n]? = some y := ⟨_, List.getElem?_eq_getElem (by have := (List.getElem?_eq_some_iff.1 hi).1; omega)⟩
      have h4 := hb.2.2.2 _ y (Nat.le_refl _) hy
      have h5 := ha _ i y x hy hi h3
      rw [h1] at h5
      rw [h4] at h5; cases h5
  rw [← this]; exact hi
/-- what the search finds -/
theorem getE_at {l : List Ex} (ha : AscE l) (n : ByteArray) : getE l n = (match l[posE l n]? with | some x => if x.nm = n then some x else none | none => none) := by
  cases h : getE l n with
  | some x =>
    rw [getE_pos ha h]
    simp [(getE_some h).1]
  | none =>
    rw [getE_none] at h
    cases hp : l[posE l n]? with
    | none => rfl
    | some x => simp [h x (List.mem_of_getElem? hp)]
end Go.Proofs.YtjkhfifnfgchgabGreatDoor
