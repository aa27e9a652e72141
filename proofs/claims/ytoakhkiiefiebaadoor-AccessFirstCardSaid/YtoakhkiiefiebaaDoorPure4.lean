/-
  What Common returns is matched by both, if it is a topic name; Narrow keeps what is matched; a topic name matches itself alone (no run). Conditions: as in each theorem.
-/
import Derived.Test.YtoakhkiiefiebaaDoorPure3
namespace Go.Proofs.YtoakhkiiefiebaaDoor.S1

/-! ### No level of a common name holds a slash -/
def NoSl (xs : List ByteArray) : Prop := ∀ x ∈ xs, (47 : UInt8) ∉ dl x
theorem noSl_lv (s : ByteArray) : NoSl (lvB s) := by
  intro x hx
  unfold lvB at hx
  obtain ⟨y, hy, rfl⟩ := List.mem_map.1 hx
  rw [dl_bs]
  exact T.lv_noslash _ y hy
theorem noSl_ex : (47 : UInt8) ∉ dl exB := by decide +kernel
theorem noSl_plain {a : List ByteArray} (h : NoSl a) : NoSl (plainB a) := by
  intro z hz
  unfold plainB at hz
  obtain ⟨x, hx, rfl⟩ := List.mem_map.1 hz
  have hx' := (List.mem_filter.1 hx).1
  split
  · exact noSl_ex
  · exact h x hx'
theorem noSl_tail {a b zs : List ByteArray} (ha : NoSl a) (hb : NoSl b) (h : tailB a b = some zs) : NoSl zs := by
  unfold tailB at h
  split at h
  · cases h
  · cases h
    intro z hz
    rcases List.mem_append.1 hz with hz | hz
    · exact noSl_plain ha z hz
    · exact noSl_plain hb z hz
theorem noSl_com : ∀ (a b : List ByteArray) {zs : List ByteArray}, NoSl a → NoSl b → comB a b = some zs → NoSl zs
  | [], b, zs, ha, hb, h => by
    rw [com_left] at h
    exact noSl_tail ha hb h
  | x :: a, [], zs, ha, hb, h => by
    rw [com_right] at h
    exact noSl_tail ha hb h
  | x :: a, y :: b, zs, ha, hb, h => by
    by_cases h1 : x = hashB ∨ y = hashB
    · rw [com_hash h1] at h
      exact noSl_tail ha hb h
    · by_cases h2 : x ≠ plusB ∧ y ≠ plusB ∧ x ≠ y
      · rw [com_none h1 h2] at h; cases h
      · rw [com_step h1 h2] at h
        cases hc : comB a b with
        | none => rw [hc] at h; cases h
        | some ws =>
          rw [hc] at h
          simp only [Option.map_some, Option.some.injEq] at h
          have g := noSl_com a b (fun z hz => ha z (by simp [hz])) (fun z hz => hb z (by simp [hz])) hc
          rw [← h]
          intro z hz
          rcases List.mem_cons.1 hz with rfl | hz
          · unfold pick
            split
            · exact ha x (by simp)
            split
            · exact hb y (by simp)
            · exact noSl_ex
          · exact g z hz
theorem lvB_jnB {zs : List ByteArray} (h : NoSl zs) (hp : zs ≠ []) : lvB (jnB zs) = zs := by
  unfold lvB jnB
  rw [dl_bs, T.lv_jn _ (by simpa using hp) (fun y hy => by
    obtain ⟨x, hx, rfl⟩ := List.mem_map.1 hy
    exact h x hx), map_bs_dl]
theorem fill_ne (zs : List ByteArray) : fillB zs ≠ [] := by
  unfold fillB
  split
  · simp
  · assumption
theorem noSl_fill {zs : List ByteArray} (h : NoSl zs) : NoSl (fillB zs) := by
  unfold fillB
  split
  · intro z hz
    rw [List.mem_singleton.1 hz]
    exact noSl_ex
  · exact h

theorem sys_ex : sysL (dl exB) = false := by decide +kernel
theorem plain_head {b : List ByteArray} (h : sysH (plainB b) = true) (hb : FilOk b) : sysH b = true := by
  cases b with
  | nil => exact h
  | cons y r =>
    by_cases hy : y = hashB
    · have hr := hb.2.1 hy
      subst hr
      have e : plainB [y] = [] := by unfold plainB; simp [hy]
      rw [e] at h; cases h
    · have e : plainB (y :: r) = (if y = plusB then exB else y) :: plainB r := by
        unfold plainB
        rw [List.filter_cons, if_pos (by simpa using hy)]
        rfl
      rw [e] at h
      have h' : sysL (dl (if y = plusB then exB else y)) = true := h
      by_cases hp : y = plusB
      · rw [if_pos hp, sys_ex] at h'; cases h'
      · rw [if_neg hp] at h'; exact h'
/-- a common name that begins with a dollar sign, though the one filter begins with a wildcard: the other begins with a dollar sign -/
theorem com_sys {a b zs : List ByteArray} (ha : FilOk a) (hb : FilOk b) (hpa : a ≠ []) (hpb : b ≠ []) (hw : hdW a = true) (h : comB a b = some zs) (hs : sysH (fillB zs) = true) : sysH b = true := by
  have hz : zs ≠ [] := by
    intro e
    rw [e] at hs
    unfold fillB at hs
    rw [if_pos rfl] at hs
    have : sysL (dl exB) = true := hs
    rw [sys_ex] at this; cases this
  have hs' : sysH zs = true := by
    unfold fillB at hs
    rw [if_neg hz] at hs
    exact hs
  cases a with
  | nil => exact absurd rfl hpa
  | cons x a =>
    cases b with
    | nil => exact absurd rfl hpb
    | cons y b =>
      by_cases h1 : x = hashB ∨ y = hashB
      · rw [com_hash h1] at h
        unfold tailB at h
        split at h
        · cases h
        cases h
        by_cases hx : x = hashB
        · have hr := ha.2.1 hx
          subst hr
          have e : plainB [x] = [] := by unfold plainB; simp [hx]
          rw [e, List.nil_append] at hs'
          exact plain_head hs' hb
        · have hy : y = hashB := by
            rcases h1 with h1 | h1
            · exact absurd h1 hx
            · exact h1
          have hxp : x = plusB := by
            unfold hdW at hw
            simp only [Bool.or_eq_true, decide_eq_true_eq] at hw
            rcases hw with hw | hw
            · exact hw
            · exact absurd hw hx
          have e : plainB (x :: a) = exB :: plainB a := by
            unfold plainB
            rw [List.filter_cons, if_pos (by simpa using hx), List.map_cons, if_pos hxp]
          rw [e] at hs'
          have : sysL (dl exB) = true := hs'
          rw [sys_ex] at this; cases this
      · by_cases h2 : x ≠ plusB ∧ y ≠ plusB ∧ x ≠ y
        · rw [com_none h1 h2] at h; cases h
        · rw [com_step h1 h2] at h
          cases hc : comB a b with
          | none => rw [hc] at h; cases h
          | some ws =>
            rw [hc] at h
            simp only [Option.map_some, Option.some.injEq] at h
            rw [← h] at hs'
            have hs2 : sysL (dl (pick x y)) = true := hs'
            have hxp : x = plusB := by
              unfold hdW at hw
              simp only [Bool.or_eq_true, decide_eq_true_eq] at hw
              rcases hw with hw | hw
              · exact hw
              · exact absurd (.inl hw) h1
            unfold pick at hs2
            rw [if_neg (by simp [hxp])] at hs2
            by_cases hyp : y = plusB
            · rw [if_neg (by simp [hyp]), sys_ex] at hs2; cases hs2
            · rw [if_pos hyp] at hs2; exact hs2

theorem cov_fill {a b zs : List ByteArray} (ha : FilOk a) (hb : FilOk b) (hpa : a ≠ []) (h : comB a b = some zs) : covB a (fillB zs) = true := by
  obtain ⟨h1, _⟩ := com_cov a b ha hb h
  unfold fillB
  split
  · next e =>
    rw [e] at h1
    cases a with
    | nil => exact absurd rfl hpa
    | cons x a =>
      by_cases hx : x = hashB
      · exact cov_hash _ _ hx
      · rw [cov_nil _ hx] at h1; cases h1
  · exact h1

theorem com_swap : ∀ (a b : List ByteArray) {zs : List ByteArray}, FilOk a → FilOk b → comB a b = some zs → covB b zs = true := fun a b _ ha hb h => (com_cov a b ha hb h).2
theorem cov_fill' {a b zs : List ByteArray} (ha : FilOk a) (hb : FilOk b) (hpb : b ≠ []) (h : comB a b = some zs) : covB b (fillB zs) = true := by
  obtain ⟨_, h1⟩ := com_cov a b ha hb h
  unfold fillB
  split
  · next e =>
    rw [e] at h1
    cases b with
    | nil => exact absurd rfl hpb
    | cons x b =>
      by_cases hx : x = hashB
      · exact cov_hash _ _ hx
      · rw [cov_nil _ hx] at h1; cases h1
  · exact h1
theorem pick_comm {x y : ByteArray} (h : ¬ (x ≠ plusB ∧ y ≠ plusB ∧ x ≠ y)) : pick x y = pick y x := by
  unfold pick
  by_cases hx : x = plusB
  · by_cases hy : y = plusB
    · simp [hx, hy]
    · simp [hx, hy]
  · by_cases hy : y = plusB
    · simp [hx, hy]
    · have : x = y := Classical.byContradiction fun e => h ⟨hx, hy, e⟩
      simp [this]
theorem com_sys' {a b zs : List ByteArray} (ha : FilOk a) (hb : FilOk b) (hpa : a ≠ []) (hpb : b ≠ []) (hw : hdW b = true) (h : comB a b = some zs) (hs : sysH (fillB zs) = true) : sysH a = true := by
  have hz : zs ≠ [] := by
    intro e
    rw [e] at hs
    unfold fillB at hs
    rw [if_pos rfl] at hs
    have : sysL (dl exB) = true := hs
    rw [sys_ex] at this; cases this
  have hs' : sysH zs = true := by
    unfold fillB at hs
    rw [if_neg hz] at hs
    exact hs
  cases a with
  | nil => exact absurd rfl hpa
  | cons x a =>
    cases b with
    | nil => exact absurd rfl hpb
    | cons y b =>
      by_cases h1 : x = hashB ∨ y = hashB
      · rw [com_hash h1] at h
        unfold tailB at h
        split at h
        · cases h
        cases h
        by_cases hy : y = hashB
        · have hr := hb.2.1 hy
          subst hr
          have e : plainB [y] = [] := by unfold plainB; simp [hy]
          rw [e, List.append_nil] at hs'
          exact plain_head hs' ha
        · have hx : x = hashB := by
            rcases h1 with h1 | h1
            · exact h1
            · exact absurd h1 hy
          have hr := ha.2.1 hx
          subst hr
          have hyp : y = plusB := by
            unfold hdW at hw
            simp only [Bool.or_eq_true, decide_eq_true_eq] at hw
            rcases hw with hw | hw
            · exact hw
            · exact absurd hw hy
          have e0 : plainB [x] = [] := by unfold plainB; simp [hx]
          have e : plainB (y :: b) = exB :: plainB b := by
            unfold plainB
            rw [List.filter_cons, if_pos (by simpa using hy), List.map_cons, if_pos hyp]
          rw [e0, e, List.nil_append] at hs'
          have : sysL (dl exB) = true := hs'
          rw [sys_ex] at this; cases this
      · by_cases h2 : x ≠ plusB ∧ y ≠ plusB ∧ x ≠ y
        · rw [com_none h1 h2] at h; cases h
        · rw [com_step h1 h2] at h
          cases hc : comB a b with
          | none => rw [hc] at h; cases h
          | some ws =>
            rw [hc] at h
            simp only [Option.map_some, Option.some.injEq] at h
            rw [← h] at hs'
            have hs2 : sysL (dl (pick x y)) = true := hs'
            rw [pick_comm h2] at hs2
            have hyp : y = plusB := by
              unfold hdW at hw
              simp only [Bool.or_eq_true, decide_eq_true_eq] at hw
              rcases hw with hw | hw
              · exact hw
              · exact absurd (.inr hw) h1
            unfold pick at hs2
            rw [if_neg (by simp [hyp])] at hs2
            by_cases hxp : x = plusB
            · rw [if_neg (by simp [hxp]), sys_ex] at hs2; cases hs2
            · rw [if_pos hxp] at hs2; exact hs2

theorem com_matched {a b c : ByteArray} (h : cmRes a b = some c) (hv : T.validL (dl c) = true) : matchesL a c = true ∧ matchesL b c = true := by
  unfold cmRes at h
  split at h
  next hg =>
    obtain ⟨fa, fb, bab, bba⟩ := gate_parts hg
    cases hc : comB (lvB a) (lvB b) with
    | none => rw [hc] at h; cases h
    | some zs =>
      rw [hc] at h
      simp only [Option.map_some, Option.some.injEq] at h
      have hlv : lvB c = fillB zs := by
        rw [← h]
        exact lvB_jnB (noSl_fill (noSl_com _ _ (noSl_lv a) (noSl_lv b) hc)) (fill_ne zs)
      have oa := filOk_of fa
      have ob := filOk_of fb
      have fc := valid_filter hv
      refine ⟨mat_mk hv (cov_mk fa fc ?_ (by rw [hlv]; exact cov_fill oa ob (lvB_ne a) hc)), mat_mk hv (cov_mk fb fc ?_ (by rw [hlv]; exact cov_fill' oa ob (lvB_ne b) hc))⟩
      · cases e : blB a c with
        | false => rfl
        | true =>
          unfold blB at e bab
          rw [Bool.and_eq_true, sys_head c, hlv] at e
          have := com_sys oa ob (lvB_ne a) (lvB_ne b) e.2 hc e.1
          rw [← sys_head] at this
          rw [this, e.2] at bab; cases bab
      · cases e : blB b c with
        | false => rfl
        | true =>
          unfold blB at e bba
          rw [Bool.and_eq_true, sys_head c, hlv] at e
          have := com_sys' oa ob (lvB_ne a) (lvB_ne b) e.2 hc e.1
          rw [← sys_head] at this
          rw [this, e.2] at bba; cases bba
  · cases h

/-! ### Literals -/
theorem bl_self (a : ByteArray) : blB a a = false := by
  unfold blB
  cases hs : sysL (dl a) with
  | false => rfl
  | true =>
    rw [sys_head] at hs
    cases hb : lvB a with
    | nil => rfl
    | cons x r =>
      rw [hb] at hs
      have hs : sysL (dl x) = true := hs
      have h43 : x ≠ plusB := fun e => by rw [e] at hs; exact absurd hs (by decide +kernel)
      have h35 : x ≠ hashB := fun e => by rw [e] at hs; exact absurd hs (by decide +kernel)
      unfold hdW
      simp [h43, h35]
theorem lit_self {a : ByteArray} (h : T.validL (dl a) = true) : matchesL a a = true := by
  have hf := valid_filter h
  exact mat_mk h (cov_mk hf hf (bl_self a) (cov_refl _ (filOk_of hf)))
theorem cov_lit : ∀ (a b : List ByteArray), NamOk a → covB a b = true → a = b
  | [], b, _, h => (List.isEmpty_iff.1 (by unfold covB at h; exact h)).symm
  | x :: a, b, ha, h => by
    have hx := nam_ne ha (x := x) (by simp)
    cases b with
    | nil => rw [cov_nil _ hx.2] at h; cases h
    | cons y b =>
      rw [covB, if_neg hx.2, if_neg hx.1, Bool.and_eq_true] at h
      rw [of_decide_eq_true h.1, cov_lit a b (fun z hz => ha z (by simp [hz])) h.2]
theorem lvB_inj {a b : ByteArray} (h : lvB a = lvB b) : a = b := by
  have e : ∀ s : ByteArray, jnB (lvB s) = s := fun s => by
    unfold jnB
    rw [lvB_dl, T.jn_lv, bs_dl]
  rw [← e a, ← e b, h]
theorem lit_other {a b : ByteArray} (h : T.validL (dl a) = true) (hab : a ≠ b) : matchesL a b = false := by
  cases e : matchesL a b with
  | false => rfl
  | true =>
    obtain ⟨_, c⟩ := mat_parts e
    obtain ⟨_, _, _, d⟩ := cov_parts c
    exact absurd (lvB_inj (cov_lit _ _ (namOk_of h) d)) hab

/-! ### Narrow keeps what is matched -/
theorem cov_self {a : ByteArray} (h : T.filterL (dl a) = true) : coversL a a = true := cov_mk h h (bl_self a) (cov_refl _ (filOk_of h))
theorem cov_tr {a b c : ByteArray} (h1 : coversL a b = true) (h2 : coversL b c = true) : coversL a c = true := cov_match h1 h2
theorem cov_anti {a b : ByteArray} (h1 : coversL a b = true) (h2 : coversL b a = true) : a = b := by
  obtain ⟨fa, fb, _, c1⟩ := cov_parts h1
  obtain ⟨_, _, _, c2⟩ := cov_parts h2
  exact lvB_inj (cov_antisymm _ _ (filOk_of fa) (filOk_of fb) c1 c2)

/-- how many places of the list cover the text a and are not it -/
def above (xs : List ByteArray) (a : ByteArray) : Nat := (xs.filter fun x => decide (x ≠ a) && coversL x a).length
theorem filter_lt {p q : ByteArray → Bool} : ∀ {xs : List ByteArray} {y : ByteArray}, (∀ x, p x = true → q x = true) → y ∈ xs → p y = false → q y = true → (xs.filter p).length < (xs.filter q).length
  | [], _, _, h, _, _ => by cases h
  | x :: xs, y, hpq, hm, hp, hq => by
    have hle : (xs.filter p).length ≤ (xs.filter q).length := by
      clear hm
      induction xs with
      | nil => exact Nat.le_refl _
      | cons z zs ih =>
        rw [List.filter_cons, List.filter_cons]
        cases hz : p z with
        | true => rw [hpq z hz]; simpa using ih
        | false =>
          cases q z
          · simpa using ih
          · simp; omega
    rcases List.mem_cons.1 hm with rfl | hm
    · rw [List.filter_cons, List.filter_cons, hp, hq]
      simp; omega
    · have := filter_lt hpq hm hp hq
      rw [List.filter_cons, List.filter_cons]
      cases hz : p x with
      | true => rw [hpq x hz]; simpa using this
      | false =>
        cases q x
        · simpa using this
        · simp; omega
theorem above_lt {xs : List ByteArray} {a b : ByteArray} (hb : b ∈ xs) (hne : b ≠ a) (h : coversL b a = true) : above xs b < above xs a := by
  refine filter_lt (y := b) (fun x hx => ?_) hb (by simp) (by simp [hne, h])
  simp only [Bool.and_eq_true, decide_eq_true_eq] at hx ⊢
  refine ⟨fun e => ?_, cov_tr hx.2 h⟩
  subst e
  exact hne (cov_anti h hx.2)

/-- a filter of the list is covered by one that stays -/
theorem kept_above (xs : List ByteArray) : ∀ (n i : Nat), i < xs.length → above xs (xs.getD i ByteArray.empty) * (xs.length + 1) + i ≤ n → T.filterL (dl (xs.getD i ByteArray.empty)) = true →
    ∃ k, k < xs.length ∧ keepB xs k = true ∧ coversL (xs.getD k ByteArray.empty) (xs.getD i ByteArray.empty) = true
  | n, i, hi, hn, hf => by
    cases hd : dispB xs i with
    | false => exact ⟨i, hi, by unfold keepB; rw [hf, hd]; rfl, cov_self hf⟩
    | true =>
      unfold dispB at hd
      rw [List.any_eq_true] at hd
      obtain ⟨j, hj, hda⟩ := hd
      have hj := List.mem_range.1 hj
      unfold dispAt at hda
      rw [Bool.and_eq_true] at hda
      have hfj := (cov_parts hda.2).1
      have hlt : above xs (xs.getD j ByteArray.empty) * (xs.length + 1) + j < above xs (xs.getD i ByteArray.empty) * (xs.length + 1) + i := by
        by_cases he : xs.getD j ByteArray.empty = xs.getD i ByteArray.empty
        · have h1 := hda.1
          rw [show decide (xs.getD j ByteArray.empty ≠ xs.getD i ByteArray.empty) = false from decide_eq_false (fun h => h he), Bool.or_false] at h1
          have := of_decide_eq_true h1
          rw [he]; omega
        · have h1 := above_lt (T.getD_mem xs j ByteArray.empty hj) he hda.2
          have h2 : (above xs (xs.getD j ByteArray.empty) + 1) * (xs.length + 1) ≤ above xs (xs.getD i ByteArray.empty) * (xs.length + 1) := Nat.mul_le_mul h1 (Nat.le_refl _)
          rw [Nat.succ_mul] at h2
          omega
      match n, hn with
      | 0, hn => omega
      | n + 1, hn =>
        obtain ⟨k, hk, hkk, hkc⟩ := kept_above xs n j hj (by omega) hfj
        exact ⟨k, hk, hkk, cov_tr hkc hda.2⟩

def anyM (xs : List ByteArray) (n : ByteArray) : Bool := xs.any fun x => matchesL x n
theorem narrow_any (xs : List ByteArray) (n : ByteArray) : anyM (narrowB xs xs.length) n = anyM xs n := by
  unfold anyM
  rw [Bool.eq_iff_iff, List.any_eq_true, List.any_eq_true]
  constructor
  · rintro ⟨x, hx, hm⟩
    unfold narrowB at hx
    obtain ⟨i, hi, rfl⟩ := List.mem_map.1 hx
    have := List.mem_range.1 (List.mem_filter.1 hi).1
    exact ⟨_, T.getD_mem xs i ByteArray.empty this, hm⟩
  · rintro ⟨x, hx, hm⟩
    obtain ⟨i, hi, rfl⟩ := T.mem_getD ByteArray.empty hx
    obtain ⟨_, c⟩ := mat_parts hm
    obtain ⟨k, hk, hkk, hkc⟩ := kept_above xs _ i hi (Nat.le_refl _) (cov_parts c).1
    refine ⟨xs.getD k ByteArray.empty, ?_, match_covers hkc hm⟩
    unfold narrowB
    exact List.mem_map.2 ⟨k, List.mem_filter.2 ⟨List.mem_range.2 hk, hkk⟩, rfl⟩

end Go.Proofs.YtoakhkiiefiebaaDoor.S1
