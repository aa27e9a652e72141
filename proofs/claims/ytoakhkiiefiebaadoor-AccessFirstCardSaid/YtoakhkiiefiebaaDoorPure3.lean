/-
  What covering, meeting and narrowing mean for the topic names that are matched (no run). Conditions: as in each theorem.
-/
import Derived.Test.YtoakhkiiefiebaaDoorCommonN
namespace Go.Proofs.YtoakhkiiefiebaaDoor.S1

def sysH : List ByteArray → Bool
  | x :: _ => sysL (dl x)
  | [] => false
theorem sys_head (s : ByteArray) : sysL (dl s) = sysH (lvB s) := by
  unfold lvB
  cases h : dl s with
  | nil => rfl
  | cons c r =>
    rw [T.lv]
    by_cases hc : c = 47
    · rw [if_pos hc, hc]; rfl
    · rw [if_neg hc]
      cases hr : T.lv r with
      | nil => exact absurd hr (T.lv_ne r)
      | cons y t =>
        show sysL (c :: r) = sysL (dl (bs (c :: y)))
        rw [dl_bs]; rfl

theorem valid_filter {n : ByteArray} (h : T.validL (dl n) = true) : T.filterL (dl n) = true := by
  unfold T.validL at h
  rw [Bool.and_eq_true] at h
  exact h.1
theorem cov_parts {a b : ByteArray} (h : coversL a b = true) : T.filterL (dl a) = true ∧ T.filterL (dl b) = true ∧ blB a b = false ∧ covB (lvB a) (lvB b) = true := by
  unfold coversL at h
  simp only [Bool.and_eq_true, Bool.not_eq_true'] at h
  exact ⟨h.1.1.1, h.1.1.2, h.1.2, h.2⟩
theorem cov_mk {a b : ByteArray} (h1 : T.filterL (dl a) = true) (h2 : T.filterL (dl b) = true) (h3 : blB a b = false) (h4 : covB (lvB a) (lvB b) = true) : coversL a b = true := by
  unfold coversL
  rw [h1, h2, h3, h4]; rfl
theorem mat_parts {a n : ByteArray} (h : matchesL a n = true) : T.validL (dl n) = true ∧ coversL a n = true := by
  unfold matchesL at h
  rw [Bool.and_eq_true] at h
  exact h
theorem mat_mk {a n : ByteArray} (h1 : T.validL (dl n) = true) (h2 : coversL a n = true) : matchesL a n = true := by
  unfold matchesL
  rw [h1, h2]; rfl

/-- a list that covers another one and does not begin with a wildcard begins as the other one -/
theorem head_same {a b : List ByteArray} (h : covB a b = true) (hw : hdW a = false) (hp : a ≠ []) : sysH a = sysH b := by
  cases a with
  | nil => exact absurd rfl hp
  | cons x a =>
    unfold hdW at hw
    simp only [Bool.or_eq_false_iff, decide_eq_false_iff_not] at hw
    cases b with
    | nil => rw [cov_nil _ hw.2] at h; cases h
    | cons y b =>
      rw [covB, if_neg hw.2, if_neg hw.1, Bool.and_eq_true] at h
      rw [of_decide_eq_true h.1]; rfl
theorem lvB_ne (s : ByteArray) : lvB s ≠ [] := fun e => by have := lvB_pos s; rw [e] at this; simp at this

theorem cov_match {a b n : ByteArray} (h1 : coversL a b = true) (h2 : coversL b n = true) : coversL a n = true := by
  obtain ⟨fa, fb, bab, cab⟩ := cov_parts h1
  obtain ⟨_, fn, bbn, cbn⟩ := cov_parts h2
  refine cov_mk fa fn ?_ (cov_trans _ _ _ (filOk_of fa) (filOk_of fb) cab cbn)
  cases e : blB a n with
  | false => rfl
  | true =>
    unfold blB at e bab bbn
    rw [Bool.and_eq_true] at e
    rw [e.1, Bool.true_and] at bbn
    have := head_same cbn bbn (lvB_ne b)
    rw [← sys_head, ← sys_head, e.1] at this
    rw [this, e.2] at bab
    cases bab
theorem match_covers {a b n : ByteArray} (h1 : coversL a b = true) (h2 : matchesL b n = true) : matchesL a n = true := by
  obtain ⟨v, c⟩ := mat_parts h2
  exact mat_mk v (cov_match h1 c)

/-! ### Names -/
def NamOk (xs : List ByteArray) : Prop := ∀ x ∈ xs, T.wildFree (dl x) = true
theorem namOk_of {n : ByteArray} (h : T.validL (dl n) = true) : NamOk (lvB n) := by
  intro x hx
  unfold T.validL at h
  rw [Bool.and_eq_true] at h
  unfold lvB at hx
  obtain ⟨y, hy, rfl⟩ := List.mem_map.1 hx
  rw [dl_bs]
  have hw := h.2
  rw [wildFree_all, List.all_eq_true] at hw ⊢
  intro c hc
  have hc47 : c ≠ 47 := fun e => T.lv_noslash _ y hy (e ▸ hc)
  exact hw c ((T.mem_lv hc47).2 ⟨y, hy, hc⟩)
theorem nam_ne {xs : List ByteArray} (h : NamOk xs) {x : ByteArray} (hx : x ∈ xs) : x ≠ plusB ∧ x ≠ hashB :=
  ⟨fun e => by have := h x hx; rw [e] at this; exact absurd this (by decide +kernel), fun e => by have := h x hx; rw [e] at this; exact absurd this (by decide +kernel)⟩

theorem met_of : ∀ (a b n : List ByteArray), covB a n = true → covB b n = true → metB a b = true
  | [], [], _, _, _ => rfl
  | [], y :: b, n, h1, h2 => by
    have : n = [] := List.isEmpty_iff.1 (by unfold covB at h1; exact h1)
    subst this
    by_cases hy : y = hashB
    · simp [metB, hy]
    · rw [cov_nil _ hy] at h2; cases h2
  | x :: a, [], n, h1, h2 => by
    have : n = [] := List.isEmpty_iff.1 (by unfold covB at h2; exact h2)
    subst this
    by_cases hx : x = hashB
    · simp [metB, hx]
    · rw [cov_nil _ hx] at h1; cases h1
  | x :: a, y :: b, n, h1, h2 => by
    rw [metB]
    by_cases h : x = hashB ∨ y = hashB
    · rw [if_pos h]
    · rw [if_neg h]
      have hx : x ≠ hashB := fun e => h (.inl e)
      have hy : y ≠ hashB := fun e => h (.inr e)
      cases n with
      | nil => rw [cov_nil _ hx] at h1; cases h1
      | cons z n =>
        rw [covB, if_neg hx, Bool.and_eq_true] at h1
        rw [covB, if_neg hy, Bool.and_eq_true] at h2
        rw [met_of a b n h1.2 h2.2, Bool.and_true]
        by_cases hxp : x = plusB
        · simp [hxp]
        · by_cases hyp : y = plusB
          · simp [hyp]
          · rw [if_neg hxp] at h1
            rw [if_neg hyp] at h2
            rw [of_decide_eq_true h1.1, of_decide_eq_true h2.1]; simp

theorem no_blind {a b n : ByteArray} (h1 : coversL a n = true) (h2 : coversL b n = true) : blB a b = false := by
  obtain ⟨_, _, ban, _⟩ := cov_parts h1
  obtain ⟨_, _, _, cbn⟩ := cov_parts h2
  cases e : blB a b with
  | false => rfl
  | true =>
    unfold blB at e ban
    rw [Bool.and_eq_true] at e
    have hw : hdW (lvB b) = false := by
      have hs := e.1
      rw [sys_head] at hs
      cases hb : lvB b with
      | nil => rfl
      | cons x r =>
        rw [hb] at hs
        have hs : sysL (dl x) = true := hs
        unfold hdW
        have h43 : x ≠ plusB := fun e => by rw [e] at hs; exact absurd hs (by decide +kernel)
        have h35 : x ≠ hashB := fun e => by rw [e] at hs; exact absurd hs (by decide +kernel)
        simp [h43, h35]
    have := head_same cbn hw (lvB_ne b)
    rw [← sys_head, ← sys_head, e.1] at this
    rw [← this, e.2] at ban
    cases ban
theorem meets_of {a b n : ByteArray} (h1 : matchesL a n = true) (h2 : matchesL b n = true) : (cmRes a b).isSome = true := by
  obtain ⟨_, c1⟩ := mat_parts h1
  obtain ⟨_, c2⟩ := mat_parts h2
  obtain ⟨fa, _, _, d1⟩ := cov_parts c1
  obtain ⟨fb, _, _, d2⟩ := cov_parts c2
  have hg : cmGate a b = true := by
    unfold cmGate
    rw [fa, fb, no_blind c1 c2, no_blind c2 c1]; rfl
  unfold cmRes
  rw [if_pos hg, Option.isSome_map, com_met _ _ (filOk_of fa) (filOk_of fb)]
  exact met_of _ _ _ d1 d2

/-! ### What Common returns -/
theorem cov_plain : ∀ (b : List ByteArray), FilOk b → covB b (plainB b) = true
  | [], _ => rfl
  | y :: b, h => by
    by_cases hy : y = hashB
    · exact cov_hash _ _ hy
    · have e : plainB (y :: b) = (if y = plusB then exB else y) :: plainB b := by
        unfold plainB
        rw [List.filter_cons, if_pos (by simpa using hy)]
        rfl
      rw [e, covB, if_neg hy, cov_plain b h.2.2, Bool.and_true]
      by_cases hp : y = plusB
      · rw [if_pos hp, if_pos hp]; decide +kernel
      · rw [if_neg hp, if_neg hp]; simp
theorem tail_cov {a b zs : List ByteArray} (ha : FilOk a) (hb : FilOk b) (hab : a = [] ∨ b = [] ∨ openB a = true ∨ openB b = true) (h : tailB a b = some zs) : covB a zs = true ∧ covB b zs = true := by
  unfold tailB at h
  split at h
  · cases h
  next hc =>
    cases h
    simp only [Bool.and_eq_true, Bool.not_eq_true', decide_eq_true_eq, not_and] at hc
    by_cases h1 : openB a = true
    · cases a with
      | nil => cases h1
      | cons x r =>
        have hx : x = hashB := of_decide_eq_true h1
        have hr := ha.2.1 hx
        subst hr
        have e : plainB [x] = [] := by unfold plainB; simp [hx]
        rw [e, List.nil_append]
        exact ⟨cov_hash _ _ hx, cov_plain b hb⟩
    · by_cases h2 : openB b = true
      · cases b with
        | nil => cases h2
        | cons y r =>
          have hy : y = hashB := of_decide_eq_true h2
          have hr := hb.2.1 hy
          subst hr
          have e : plainB [y] = [] := by unfold plainB; simp [hy]
          rw [e, List.append_nil]
          exact ⟨cov_plain a ha, cov_hash _ _ hy⟩
      · have h1' : openB a = false := by simpa using h1
        have h2' : openB b = false := by simpa using h2
        have hl : a.length = b.length := by
          rcases Nat.decEq a.length b.length with hn | hn
          · exact absurd hn (by
              intro hn
              simp [h1', h2', hn] at hc)
          · exact hn
        have ha0 : a = [] ∧ b = [] := by
          rcases hab with h | h | h | h
          · subst h; exact ⟨rfl, List.eq_nil_of_length_eq_zero hl.symm⟩
          · subst h; exact ⟨List.eq_nil_of_length_eq_zero hl, rfl⟩
          · exact absurd h h1
          · exact absurd h h2
        rw [ha0.1, ha0.2]
        exact ⟨rfl, rfl⟩
theorem com_cov : ∀ (a b : List ByteArray) {zs : List ByteArray}, FilOk a → FilOk b → comB a b = some zs → covB a zs = true ∧ covB b zs = true
  | [], b, zs, ha, hb, h => by
    rw [com_left] at h
    exact tail_cov ha hb (.inl rfl) h
  | x :: a, [], zs, ha, hb, h => by
    rw [com_right] at h
    exact tail_cov ha hb (.inr (.inl rfl)) h
  | x :: a, y :: b, zs, ha, hb, h => by
    by_cases h1 : x = hashB ∨ y = hashB
    · rw [com_hash h1] at h
      refine tail_cov ha hb (.inr (.inr ?_)) h
      rcases h1 with h1 | h1
      · exact .inl (decide_eq_true h1)
      · exact .inr (decide_eq_true h1)
    · have hx : x ≠ hashB := fun e => h1 (.inl e)
      have hy : y ≠ hashB := fun e => h1 (.inr e)
      by_cases h2 : x ≠ plusB ∧ y ≠ plusB ∧ x ≠ y
      · rw [com_none h1 h2] at h; cases h
      · rw [com_step h1 h2] at h
        cases hc : comB a b with
        | none => rw [hc] at h; cases h
        | some ws =>
          rw [hc] at h
          simp only [Option.map_some, Option.some.injEq] at h
          obtain ⟨g1, g2⟩ := com_cov a b ha.2.2 hb.2.2 hc
          rw [← h]
          have hex : exB ≠ hashB := by decide +kernel
          constructor
          · rw [covB, if_neg hx, g1, Bool.and_true]
            by_cases hp : x = plusB
            · rw [if_pos hp]
              unfold pick
              rw [if_neg (by simp [hp])]
              split
              · simpa using hy
              · simpa using hex
            · rw [if_neg hp]
              unfold pick
              rw [if_pos hp]; simp
          · rw [covB, if_neg hy, g2, Bool.and_true]
            by_cases hp : y = plusB
            · rw [if_pos hp]
              unfold pick
              split
              · simpa using hx
              · rw [if_neg (by simp [hp])]
                simpa using hex
            · rw [if_neg hp]
              unfold pick
              by_cases hxp : x = plusB
              · rw [if_neg (by simp [hxp]), if_pos hp]; simp
              · rw [if_pos hxp]
                have : x = y := Classical.byContradiction fun e => h2 ⟨hxp, hp, e⟩
                simp [this]

end Go.Proofs.YtoakhkiiefiebaaDoor.S1
