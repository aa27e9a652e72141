/-
  Plain lists of bytes: what a name, a filter, the levels of a text are, and how they behave (no program, no run). Conditions: none.
-/
import Derived.Lib.SplitLaws
import Derived.Lib.RuneCount
import Derived.Lib.IndexAny
import Derived.Lib.Join
namespace Go.Proofs.YtjhojpghllnoiaaDoor.S1.T

/-! ### Names -/
def low (c : UInt8) : Bool := decide (97 ≤ c.toNat) && decide (c.toNat ≤ 122)
def dig (c : UInt8) : Bool := decide (48 ≤ c.toNat) && decide (c.toNat ≤ 57)
def nok (c : UInt8) : Bool := low c || dig c || decide (c.toNat = 45)
/-- is the byte at place i one that a name may have there? -/
def nokAt (i : Nat) (c : UInt8) : Bool := if i = 0 then low c else nok c
def nameL (l : List UInt8) : Bool := decide (1 ≤ l.length) && decide (l.length ≤ 16) && (List.range l.length).all fun i => nokAt i (l.getD i 0)

theorem nokAt_nok {i : Nat} {c : UInt8} (h : nokAt i c = true) : nok c = true := by
  unfold nokAt at h
  split at h
  · simp [nok, h]
  · exact h

theorem nameL_false_at {l : List UInt8} {i : Nat} (hi : i < l.length) (h : nokAt i (l.getD i 0) = false) : nameL l = false := by
  have : ((List.range l.length).all fun i => nokAt i (l.getD i 0)) = false := by
    rw [List.all_eq_false]
    exact ⟨i, List.mem_range.2 hi, by simp only [h]; decide⟩
  unfold nameL
  rw [this]; simp
theorem nameL_true {l : List UInt8} (h1 : 1 ≤ l.length) (h2 : l.length ≤ 16) (h : ∀ i, i < l.length → nokAt i (l.getD i 0) = true) : nameL l = true := by
  have : ((List.range l.length).all fun i => nokAt i (l.getD i 0)) = true := by
    rw [List.all_eq_true]
    intro i hi
    exact h i (List.mem_range.1 hi)
  unfold nameL
  rw [this]; simp [h1, h2]
theorem nameL_size {l : List UInt8} (h : l.length < 1 ∨ 16 < l.length) : nameL l = false := by
  unfold nameL
  rcases h with h | h
  · rw [decide_eq_false (show ¬ 1 ≤ l.length by omega)]; simp
  · rw [decide_eq_false (show ¬ l.length ≤ 16 by omega)]; simp

theorem nokAt_high (i : Nat) {c : UInt8} (h : 128 ≤ c.toNat) : nokAt i c = false := by
  have h1 : low c = false := by simp [low]; omega
  have h2 : nok c = false := by simp [nok, dig, h1]; omega
  unfold nokAt
  split <;> assumption

theorem nokAt_iff (i : Nat) (c : UInt8) : nokAt i c = true ↔ (97 ≤ c.toNat ∧ c.toNat ≤ 122) ∨ (0 < i ∧ ((48 ≤ c.toNat ∧ c.toNat ≤ 57) ∨ c.toNat = 45)) := by
  unfold nokAt
  split
  · next h => subst h; simp [low]
  · next h =>
    have : 0 < i := by omega
    simp [nok, dig, low, this, or_assoc]

theorem nok_eq (c : UInt8) : nok c = (low c || dig c || !((c.toNat : Int) != 45)) := by
  unfold nok
  congr 1
  rw [Bool.eq_iff_iff]
  simp
  omega

/-! ### Levels -/
def glue (c : UInt8) : List (List UInt8) → List (List UInt8)
  | [] => [[c]]
  | x :: r => (c :: x) :: r
def lv : List UInt8 → List (List UInt8)
  | [] => [[]]
  | c :: r => if c = 47 then [] :: lv r else glue c (lv r)

theorem lv_ne (l : List UInt8) : lv l ≠ [] := by
  cases l with
  | nil => simp [lv]
  | cons c r =>
    unfold lv
    split
    · simp
    · cases lv r <;> simp [glue]

theorem glue_append (c : UInt8) (a b : List (List UInt8)) (h : a ≠ []) : glue c (a ++ b) = glue c a ++ b := by
  cases a with
  | nil => exact absurd rfl h
  | cons x r => rfl

theorem glue_length (c : UInt8) (a : List (List UInt8)) (h : a ≠ []) : (glue c a).length = a.length := by
  cases a with
  | nil => exact absurd rfl h
  | cons x r => rfl

theorem lv_length (l : List UInt8) : (lv l).length = l.count 47 + 1 := by
  induction l with
  | nil => rfl
  | cons c r ih =>
    unfold lv
    split
    · next h => subst h; simp [ih]
    · next h => rw [glue_length _ _ (lv_ne r), ih, List.count_cons_of_ne h]

/-- A text that holds no slash has one level. -/
theorem lv_plain (l : List UInt8) (h : 47 ∉ l) : lv l = [l] := by
  induction l with
  | nil => rfl
  | cons c r ih =>
    have hc : ¬ c = 47 := fun e => h (by simp [e])
    have hr : 47 ∉ r := fun e => h (by simp [e])
    unfold lv
    rw [if_neg hc, ih hr]; rfl

theorem lv_append (a r : List UInt8) (h : 47 ∉ a) : lv (a ++ 47 :: r) = a :: lv r := by
  induction a with
  | nil => simp [lv]
  | cons c a ih =>
    have hc : ¬ c = 47 := fun e => h (by simp [e])
    have hr : 47 ∉ a := fun e => h (by simp [e])
    rw [List.cons_append, lv, if_neg hc, ih hr]; rfl

theorem lv_snoc_slash (l : List UInt8) : lv (l ++ [47]) = lv l ++ [[]] := by
  induction l with
  | nil => rfl
  | cons c r ih =>
    rw [List.cons_append, lv, lv, ih]
    split
    · rfl
    · rw [glue_append _ _ _ (lv_ne r)]

theorem lv_snoc (l : List UInt8) (c : UInt8) (h : c ≠ 47) (out : List (List UInt8)) (x : List UInt8) (e : lv l = out ++ [x]) : lv (l ++ [c]) = out ++ [x ++ [c]] := by
  induction l generalizing out x with
  | nil =>
    cases out with
    | nil =>
      simp only [lv, List.nil_append, List.cons.injEq, and_true] at e
      subst e
      simp [lv, h, glue]
    | cons y r => simp [lv] at e
  | cons d r ih =>
    rw [List.cons_append, lv]
    rw [lv] at e
    split
    · next hd =>
      rw [if_pos hd] at e
      cases out with
      | nil =>
        have := lv_ne r
        simp at e
        exact absurd e.2 this
      | cons y o =>
        simp only [List.cons_append, List.cons.injEq] at e
        rw [ih o x e.2, ← e.1]; rfl
    · next hd =>
      rw [if_neg hd] at e
      cases hr : lv r with
      | nil => exact absurd hr (lv_ne r)
      | cons y t =>
        rw [hr] at e
        simp only [glue] at e
        cases out with
        | nil =>
          simp only [List.nil_append, List.cons.injEq] at e
          have := ih [] y (by rw [hr, e.2]; rfl)
          rw [this]
          simp only [List.nil_append, glue, ← e.1, List.cons_append]
        | cons z o =>
          simp only [List.cons_append, List.cons.injEq] at e
          have := ih (y :: o) x (by rw [hr, e.2]; rfl)
          rw [this]
          simp only [List.cons_append, glue, e.1]

/-- Levels hold no slash. -/
theorem lv_noslash (l : List UInt8) : ∀ x ∈ lv l, (47 : UInt8) ∉ x := by
  induction l with
  | nil => simp [lv]
  | cons c r ih =>
    unfold lv
    split
    · intro x hx
      rcases List.mem_cons.1 hx with rfl | hx
      · simp
      · exact ih x hx
    · next hc =>
      cases hr : lv r with
      | nil => exact absurd hr (lv_ne r)
      | cons y t =>
        rw [hr] at ih
        intro x hx
        rcases List.mem_cons.1 hx with rfl | hx
        · intro hm
          rcases List.mem_cons.1 hm with e | hm
          · exact hc e.symm
          · exact ih y (by simp) hm
        · exact ih x (by simp [hx])

/-- the levels, joined -/
def jn : List (List UInt8) → List UInt8
  | [] => []
  | [x] => x
  | x :: y :: r => x ++ 47 :: jn (y :: r)

theorem jn_cons (x : List UInt8) (r : List (List UInt8)) (h : r ≠ []) : jn (x :: r) = x ++ 47 :: jn r := by
  cases r with
  | nil => exact absurd rfl h
  | cons y t => rfl

theorem jn_glue (c : UInt8) (a : List (List UInt8)) (h : a ≠ []) : jn (glue c a) = c :: jn a := by
  cases a with
  | nil => exact absurd rfl h
  | cons x r =>
    cases r with
    | nil => rfl
    | cons y t => simp [glue, jn]

theorem jn_lv (l : List UInt8) : jn (lv l) = l := by
  induction l with
  | nil => rfl
  | cons c r ih =>
    unfold lv
    split
    · next h => subst h; rw [jn_cons _ _ (lv_ne r), ih]; rfl
    · rw [jn_glue _ _ (lv_ne r), ih]

theorem lv_jn (a : List (List UInt8)) (h : a ≠ []) (hs : ∀ x ∈ a, (47 : UInt8) ∉ x) : lv (jn a) = a := by
  induction a with
  | nil => exact absurd rfl h
  | cons x r ih =>
    cases r with
    | nil => exact lv_plain x (hs x (by simp))
    | cons y t =>
      rw [jn_cons _ _ (by simp), lv_append _ _ (hs x (by simp)), ih (by simp) (fun z hz => hs z (by simp [hz]))]

theorem join_jn (a : List (List UInt8)) : Lib.join a [47] = jn a := by
  cases a with
  | nil => rfl
  | cons x r =>
    rw [Lib.join_cons]
    induction r generalizing x with
    | nil => simp [Lib.joinTail, jn]
    | cons y t ih =>
      rw [jn_cons _ _ (by simp), ← ih y]
      simp [Lib.joinTail]


/-! ### Filters -/
def wildFree (l : List UInt8) : Bool := l.all fun c => decide (c ≠ 43) && decide (c ≠ 35)
def clean (l : List UInt8) : Bool := l.all fun c => decide (c ≠ 0) && decide (c ≠ 43) && decide (c ≠ 35)
/-- may this be a level of a filter (the last one, or another)? -/
def lok (last : Bool) (x : List UInt8) : Bool := decide (x = [43]) || (decide (x = [35]) && last) || clean x
def okAt (a : List (List UInt8)) (i : Nat) : Bool := lok (decide (i + 1 = a.length)) (a.getD i [])
def sizedL (l : List UInt8) : Bool := decide (1 ≤ l.length) && decide (l.length ≤ 64) && !l.contains 0 && decide ((lv l).length ≤ 8)
def levelsOk (a : List (List UInt8)) : Bool := (List.range a.length).all fun i => okAt a i
def filterL (l : List UInt8) : Bool := decide (1 ≤ l.length) && decide (l.length ≤ 64) && decide ((lv l).length ≤ 8) && levelsOk (lv l)
def validL (l : List UInt8) : Bool := filterL l && wildFree l

theorem levelsOk_true {a : List (List UInt8)} (h : ∀ i, i < a.length → okAt a i = true) : levelsOk a = true := by
  unfold levelsOk
  rw [List.all_eq_true]
  intro i hi
  exact h i (List.mem_range.1 hi)
theorem levelsOk_at {a : List (List UInt8)} (h : levelsOk a = true) {i : Nat} (hi : i < a.length) : okAt a i = true := by
  unfold levelsOk at h
  rw [List.all_eq_true] at h
  exact h i (List.mem_range.2 hi)
theorem levelsOk_false {a : List (List UInt8)} {i : Nat} (hi : i < a.length) (h : okAt a i = false) : levelsOk a = false := by
  cases e : levelsOk a with
  | false => rfl
  | true => rw [levelsOk_at e hi] at h; cases h

theorem filterL_true {l : List UInt8} (h1 : 1 ≤ l.length) (h2 : l.length ≤ 64) (h3 : (lv l).length ≤ 8) (h : ∀ i, i < (lv l).length → okAt (lv l) i = true) : filterL l = true := by
  unfold filterL
  rw [levelsOk_true h]; simp [h1, h2, h3]
theorem filterL_size {l : List UInt8} (h : l.length < 1 ∨ 64 < l.length) : filterL l = false := by
  unfold filterL
  rcases h with h | h
  · rw [decide_eq_false (show ¬ 1 ≤ l.length by omega)]; simp
  · rw [decide_eq_false (show ¬ l.length ≤ 64 by omega)]; simp
theorem filterL_many {l : List UInt8} (h : 8 < (lv l).length) : filterL l = false := by
  unfold filterL
  rw [decide_eq_false (show ¬ (lv l).length ≤ 8 by omega)]; simp
theorem filterL_at {l : List UInt8} {i : Nat} (hi : i < (lv l).length) (h : okAt (lv l) i = false) : filterL l = false := by
  unfold filterL
  rw [levelsOk_false hi h]; simp
theorem filterL_parts {l : List UInt8} (h : filterL l = true) : 1 ≤ l.length ∧ l.length ≤ 64 ∧ (lv l).length ≤ 8 ∧ ∀ i, i < (lv l).length → okAt (lv l) i = true := by
  unfold filterL at h
  simp only [Bool.and_eq_true, decide_eq_true_eq] at h
  exact ⟨h.1.1.1, h.1.1.2, h.1.2, fun i hi => levelsOk_at h.2 hi⟩

theorem mem_lv {l : List UInt8} {c : UInt8} (hc : c ≠ 47) : c ∈ l ↔ ∃ x ∈ lv l, c ∈ x := by
  induction l with
  | nil => simp [lv]
  | cons d r ih =>
    unfold lv
    split
    · next h =>
      subst h
      simp only [List.mem_cons, exists_eq_or_imp, List.not_mem_nil, false_or]
      rw [ih]
      constructor
      · rintro (h | h)
        · exact absurd h hc
        · exact h
      · exact .inr
    · next h =>
      cases hr : lv r with
      | nil => exact absurd hr (lv_ne r)
      | cons y t =>
        rw [hr] at ih
        simp only [glue, List.mem_cons, exists_eq_or_imp] at ih ⊢
        rw [ih]
        constructor
        · rintro (h | h | h)
          · exact .inl (.inl h)
          · exact .inl (.inr h)
          · exact .inr h
        · rintro ((h | h) | h)
          · exact .inl h
          · exact .inr (.inl h)
          · exact .inr (.inr h)

theorem lok_no0 {b : Bool} {x : List UInt8} (h : lok b x = true) : (0 : UInt8) ∉ x := by
  unfold lok at h
  simp only [Bool.or_eq_true, Bool.and_eq_true, decide_eq_true_eq] at h
  rcases h with (h | h) | h
  · subst h; decide
  · rw [h.1]; decide
  · intro hm
    unfold clean at h
    rw [List.all_eq_true] at h
    have := h 0 hm
    simp at this

theorem getD_mem {α : Type} (a : List α) (i : Nat) (d : α) (h : i < a.length) : a.getD i d ∈ a := by
  rw [List.getD_eq_getElem?_getD, List.getElem?_eq_getElem h]
  exact List.getElem_mem h
theorem mem_getD {α : Type} {a : List α} {x : α} (d : α) (h : x ∈ a) : ∃ i, i < a.length ∧ a.getD i d = x := by
  obtain ⟨i, hi, e⟩ := List.getElem_of_mem h
  exact ⟨i, hi, by rw [List.getD_eq_getElem?_getD, List.getElem?_eq_getElem hi]; exact e⟩

/-- a filter holds no byte 0 -/
theorem filterL_no0 {l : List UInt8} (h : filterL l = true) : (0 : UInt8) ∉ l := by
  intro hm
  obtain ⟨x, hx, h0⟩ := (mem_lv (by decide)).1 hm
  obtain ⟨i, hi, e⟩ := mem_getD [] hx
  have := (filterL_parts h).2.2.2 i hi
  unfold okAt at this
  rw [e] at this
  exact lok_no0 this h0

theorem filterL_sized {l : List UInt8} (h : filterL l = true) : sizedL l = true := by
  obtain ⟨h1, h2, h3, _⟩ := filterL_parts h
  have h0 := filterL_no0 h
  unfold sizedL
  simp [h1, h2, h3, h0]

/-- what the specification asks of a level, given that the text holds no byte 0 -/
theorem okAt_spec {l : List UInt8} (h0 : (0 : UInt8) ∉ l) (i : Nat) (hi : i < (lv l).length) :
    okAt (lv l) i = (!(((lv l).getD i []).contains 43 && !decide ((lv l).getD i [] = [43])) && !(((lv l).getD i []).contains 35 && (!decide ((lv l).getD i [] = [35]) || !decide (i + 1 = (lv l).length)))) := by
  unfold okAt lok
  have hx0 : (0 : UInt8) ∉ (lv l).getD i [] := fun hm => h0 ((mem_lv (by decide)).2 ⟨_, getD_mem _ _ _ hi, hm⟩)
  generalize (lv l).getD i [] = x at hx0
  by_cases e1 : x = [43]
  · subst e1; simp
  by_cases e2 : x = [35]
  · subst e2
    cases decide (i + 1 = (lv l).length) <;> simp [clean]
  have hc : clean x = (!x.contains 43 && !x.contains 35) := by
    unfold clean
    rw [Bool.eq_iff_iff]
    simp only [List.all_eq_true, Bool.and_eq_true, decide_eq_true_eq, Bool.not_eq_true', List.contains_eq_mem, decide_eq_false_iff_not]
    constructor
    · intro h
      exact ⟨fun hm => (h _ hm).1.2 rfl, fun hm => (h _ hm).2 rfl⟩
    · rintro ⟨ha, hb⟩ c hc
      exact ⟨⟨fun e => hx0 (e ▸ hc), fun e => ha (e ▸ hc)⟩, fun e => hb (e ▸ hc)⟩
  rw [hc]
  simp [e1, e2]

/-- a sized text without wildcards is a filter -/
theorem sized_free {l : List UInt8} (h : sizedL l = true) (hf : wildFree l = true) : filterL l = true := by
  unfold sizedL at h
  simp only [Bool.and_eq_true, decide_eq_true_eq, Bool.not_eq_true', List.contains_eq_mem, decide_eq_false_iff_not] at h
  obtain ⟨⟨⟨h1, h2⟩, h0⟩, h3⟩ := h
  unfold wildFree at hf
  rw [List.all_eq_true] at hf
  refine filterL_true h1 h2 h3 fun i hi => ?_
  unfold okAt lok
  have : clean ((lv l).getD i []) = true := by
    unfold clean
    rw [List.all_eq_true]
    intro c hc
    have hm := getD_mem (lv l) i [] hi
    have hc47 : c ≠ 47 := fun e => lv_noslash l _ hm (e ▸ hc)
    have hl : c ∈ l := (mem_lv hc47).2 ⟨_, hm, hc⟩
    have hw := hf c hl
    have hz : c ≠ 0 := fun e => h0 (e ▸ hl)
    simpa [hz] using hw
  rw [this]; simp

theorem validL_eq (l : List UInt8) : validL l = (sizedL l && wildFree l) := by
  unfold validL
  cases hw : wildFree l with
  | false => simp
  | true =>
    cases hs : sizedL l with
    | true => rw [sized_free hs hw]
    | false =>
      cases hf : filterL l with
      | false => rfl
      | true => rw [filterL_sized hf] at hs; cases hs

theorem wildFree_eq (l : List UInt8) : wildFree l = (!l.contains 43 && !l.contains 35) := by
  unfold wildFree
  rw [Bool.eq_iff_iff]
  simp only [List.all_eq_true, Bool.and_eq_true, decide_eq_true_eq, Bool.not_eq_true', List.contains_eq_mem, decide_eq_false_iff_not]
  constructor
  · intro h
    exact ⟨fun hm => (h _ hm).1 rfl, fun hm => (h _ hm).2 rfl⟩
  · rintro ⟨ha, hb⟩ c hc
    exact ⟨fun e => ha (e ▸ hc), fun e => hb (e ▸ hc)⟩

end Go.Proofs.YtjhojpghllnoiaaDoor.S1.T
