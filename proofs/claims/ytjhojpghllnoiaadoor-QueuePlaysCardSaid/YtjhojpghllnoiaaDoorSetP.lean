/-
  Properties in order as plain data: what a list without error is, where a key stands, what setting makes of it. No function of the program is walked here.
-/
import Derived.Test.YtjhojpghllnoiaaDoorSearch
import Derived.Test.YtjhojpghllnoiaaDoorInsert
namespace Go.Proofs.YtjhojpghllnoiaaDoor
open Go.RowKit

abbrev PW (l : List PR) : Prop := l.Pairwise fun x y => ltS x.1 y.1 = true
def okP (x : PR) : Prop := keyR x.1 = true ∧ ¬ 160 < x.2.size
theorem propsF_parts : ∀ (l : List PR) (p : Option ByteArray), propsF p l = 0 → (∀ q, p = some q → ∀ x ∈ l, ltS q x.1 = true) ∧ PW l ∧ ∀ x ∈ l, okP x := by
  intro l
  induction l with
  | nil => intro p _; exact ⟨fun _ _ _ h => (by cases h), List.Pairwise.nil, fun _ h => (by cases h)⟩
  | cons x r ih =>
    intro p h
    rw [propsF_cons] at h
    by_cases h1 : keyR x.1 = false
    · rw [if_pos h1] at h; cases h
    rw [if_neg h1] at h
    by_cases h2 : 160 < x.2.size
    · rw [if_pos h2] at h; cases h
    rw [if_neg h2] at h
    have hh : (∀ q, p = some q → ltS q x.1 = true) ∧ propsF (some x.1) r = 0 := by
      cases p with
      | none => exact ⟨(fun _ h => by cases h), by simpa using h⟩
      | some q =>
        dsimp only at h
        cases hq : ltS q x.1
        · simp [hq] at h
        · exact ⟨(fun q' e => by rw [← Option.some.inj e]; exact hq), by simpa [hq] using h⟩
    obtain ⟨h3, h4⟩ := hh
    obtain ⟨i1, i2, i3⟩ := ih _ h4
    have i1' := i1 x.1 rfl
    refine ⟨fun q hq y hy => ?_, List.Pairwise.cons i1' i2, fun y hy => ?_⟩
    · subst hq
      have hqx : ltS q x.1 = true := h3 q rfl
      rcases List.mem_cons.1 hy with rfl | hy
      · exact hqx
      · exact ltS_trans hqx (i1' y hy)
    · rcases List.mem_cons.1 hy with rfl | hy
      · exact ⟨by simpa using h1, h2⟩
      · exact i3 y hy
theorem propsF_ok : ∀ (l : List PR) (p : Option ByteArray), (∀ q, p = some q → ∀ x ∈ l, ltS q x.1 = true) → PW l → (∀ x ∈ l, okP x) → propsF p l = 0 := by
  intro l
  induction l with
  | nil => intro p _ _ _; exact propsF_nil p
  | cons x r ih =>
    intro p h1 h2 h3
    obtain ⟨hk, hv⟩ := h3 x (by simp)
    rw [propsF_cons, if_neg (by rw [hk]; simp), if_neg hv]
    obtain ⟨h4, h5⟩ := List.pairwise_cons.1 h2
    have hr := ih _ (fun q hq y hy => by rw [← Option.some.inj hq]; exact h4 y hy) h5 (fun y hy => h3 y (by simp [hy]))
    cases p with
    | none => simpa using hr
    | some q =>
      have hq := h1 q rfl x (by simp)
      simpa [hq] using hr
theorem propsR_parts {l : List PR} (h : propsR l = 0) : l.length ≤ 8 ∧ PW l ∧ ∀ x ∈ l, okP x := by
  unfold propsR at h
  by_cases h8 : 8 < l.length
  · rw [if_pos h8] at h; cases h
  · rw [if_neg h8] at h
    obtain ⟨_, h2, h3⟩ := propsF_parts l none h
    exact ⟨by omega, h2, h3⟩
theorem propsR_ok {l : List PR} (h8 : l.length ≤ 8) (h2 : PW l) (h3 : ∀ x ∈ l, okP x) : propsR l = 0 := by
  unfold propsR
  rw [if_neg (by omega)]
  exact propsF_ok l none (fun _ h => by cases h) h2 h3
theorem PW.asc {l : List PR} (h : PW l) : Asc l := fun i j x y hx hy hij => by
  obtain ⟨hi, rfl⟩ := List.getElem?_eq_some_iff.1 hx
  obtain ⟨hj, rfl⟩ := List.getElem?_eq_some_iff.1 hy
  exact List.pairwise_iff_getElem.1 h i j hi hj hij

theorem posK_cons_lt {x : PR} {r : List PR} {key : ByteArray} (h : ltS x.1 key = true) : posK (x :: r) key = posK r key + 1 := by
  unfold posK
  rw [List.filter_cons_of_pos (by simpa using h)]
  rfl
theorem posK_zero {l : List PR} {key : ByteArray} (h : ∀ x ∈ l, ltS x.1 key = false) : posK l key = 0 := by
  unfold posK
  rw [List.filter_eq_nil_iff.2 (fun x hx => by rw [h x hx]; simp)]
  rfl
/-- what stands ahead of the place is less, what stands from it on is not -/
theorem pos_parts (key : ByteArray) : ∀ (l : List PR), PW l → l.filter (fun x => ltS x.1 key) = l.take (posK l key) ∧ (∀ x ∈ l.drop (posK l key), ltS x.1 key = false) ∧ posK l key ≤ l.length := by
  intro l
  induction l with
  | nil => intro _; exact ⟨rfl, fun _ h => (by cases h), Nat.le_refl _⟩
  | cons x r ih =>
    intro h
    obtain ⟨h4, h5⟩ := List.pairwise_cons.1 h
    by_cases hx : ltS x.1 key = true
    · obtain ⟨i1, i2, i3⟩ := ih h5
      rw [posK_cons_lt hx, List.filter_cons_of_pos (by simpa using hx), i1, List.take_succ_cons, List.drop_succ_cons]
      exact ⟨rfl, i2, by simpa using i3⟩
    · have hx' : ltS x.1 key = false := by simpa using hx
      have hall : ∀ y ∈ x :: r, ltS y.1 key = false := fun y hy => by
        rcases List.mem_cons.1 hy with rfl | hy
        · exact hx'
        · cases hc : ltS y.1 key
          · rfl
          · rw [ltS_trans (h4 y hy) hc] at hx'; exact hx'
      rw [posK_zero hall, List.filter_eq_nil_iff.2 (fun y hy => by rw [hall y hy]; simp)]
      exact ⟨rfl, fun y hy => hall y (by simpa using hy), Nat.zero_le _⟩
theorem filter_gt {l : List PR} {key : ByteArray} (h : ∀ x ∈ l, ltS key x.1 = true) : l.filter (fun x => ltS key x.1) = l := List.filter_eq_self.2 fun x hx => by simpa using h x hx
theorem filter_gt_none {l : List PR} {key : ByteArray} (h : ∀ x ∈ l, ltS key x.1 = false) : l.filter (fun x => ltS key x.1) = [] := List.filter_eq_nil_iff.2 fun x hx => by rw [h x hx]; simp
theorem take_lt {l : List PR} {key : ByteArray} (h : PW l) : ∀ x ∈ l.take (posK l key), ltS x.1 key = true := fun x hx => by
  rw [← (pos_parts key l h).1] at hx
  simpa using (List.mem_filter.1 hx).2
theorem drop_split {l : List PR} {i : Nat} {x : PR} (hx : l[i]? = some x) : l = l.take i ++ x :: l.drop (i + 1) := by
  obtain ⟨h, rfl⟩ := List.getElem?_eq_some_iff.1 hx
  rw [← List.drop_eq_getElem_cons h, List.take_append_drop]
theorem after_gt {l : List PR} {i : Nat} {x : PR} (h : PW l) (hx : l[i]? = some x) : ∀ y ∈ l.drop (i + 1), ltS x.1 y.1 = true := fun y hy => by
  obtain ⟨k, hk⟩ := List.mem_iff_getElem?.1 hy
  rw [List.getElem?_drop] at hk
  exact h.asc i (i + 1 + k) x y hx hk (by omega)
theorem setL_found {l : List PR} {key value : ByteArray} {x : PR} (h : PW l) (hx : l[posK l key]? = some x) (he : x.1 = key) : setL l key value = l.take (posK l key) ++ [(key, value)] ++ l.drop (posK l key + 1) := by
  unfold setL
  rw [(pos_parts key l h).1]
  congr 1
  conv => lhs; rw [drop_split hx]
  rw [List.filter_append, filter_gt_none (fun y hy => ltS_asymm (take_lt h y hy)), List.nil_append, List.filter_cons_of_neg (by rw [he, ltS_irrefl]; simp)]
  exact filter_gt (fun y hy => by rw [← he]; exact after_gt h hx y hy)
theorem foundK_some {l : List PR} {key : ByteArray} (h : foundK l key = true) : ∃ x, l[posK l key]? = some x ∧ x.1 = key := by
  unfold foundK at h
  split at h
  · next x hx => exact ⟨x, hx, of_decide_eq_true h⟩
  · cases h
theorem setL_new {l : List PR} {key value : ByteArray} (h : PW l) (hf : foundK l key = false) : setL l key value = insP l (posK l key) (key, value) := by
  obtain ⟨h1, h2, h3⟩ := pos_parts key l h
  unfold setL insP
  rw [h1]
  congr 1
  conv => lhs; rw [← List.take_append_drop (posK l key) l]
  rw [List.filter_append, filter_gt_none (fun y hy => ltS_asymm (take_lt h y hy)), List.nil_append]
  refine filter_gt (fun y hy => ?_)
  by_cases hlt : posK l key < l.length
  · obtain ⟨x, hx⟩ : ∃ x, l[posK l key]? = some x := ⟨_, List.getElem?_eq_getElem hlt⟩
    have hxn : x.1 ≠ key := by
      unfold foundK at hf
      rw [hx] at hf
      exact of_decide_eq_false hf
    have hxm : x ∈ l.drop (posK l key) := List.mem_iff_getElem?.2 ⟨0, by rw [List.getElem?_drop]; exact hx⟩
    have hkx : ltS key x.1 = true := by
      cases hc : ltS key x.1
      · exact absurd (ltS_total (h2 x hxm) hc) hxn
      · rfl
    obtain ⟨hlt', rfl⟩ := List.getElem?_eq_some_iff.1 hx
    rw [List.drop_eq_getElem_cons hlt'] at hy
    rcases List.mem_cons.1 hy with rfl | hy
    · exact hkx
    · exact ltS_trans hkx (after_gt h hx y hy)
  · rw [List.drop_eq_nil_of_le (by omega)] at hy
    cases hy
theorem getR_mem {l : List PR} {key : ByteArray} : (getR l key).2 = true ↔ ∃ x ∈ l, x.1 = key := by
  induction l with
  | nil => simp [getR_nil]
  | cons y r ih =>
    rw [getR_cons]
    by_cases he : y.1 = key
    · rw [if_pos he]; exact ⟨fun _ => ⟨y, by simp, he⟩, fun _ => rfl⟩
    · rw [if_neg he, ih]
      constructor
      · rintro ⟨x, hx, h⟩; exact ⟨x, by simp [hx], h⟩
      · rintro ⟨x, hx, h⟩
        rcases List.mem_cons.1 hx with rfl | hx
        · exact absurd h he
        · exact ⟨x, hx, h⟩
theorem getR_found {l : List PR} {key : ByteArray} (h : PW l) : (getR l key).2 = foundK l key := by
  rw [Bool.eq_iff_iff, getR_mem]
  constructor
  · rintro ⟨y, hy, he⟩
    rw [← List.take_append_drop (posK l key) l] at hy
    rcases List.mem_append.1 hy with hy | hy
    · have := take_lt h y hy
      rw [he, ltS_irrefl] at this; cases this
    · by_cases hlt : posK l key < l.length
      · obtain ⟨x, hx⟩ : ∃ x, l[posK l key]? = some x := ⟨_, List.getElem?_eq_getElem hlt⟩
        have hxm : x ∈ l.drop (posK l key) := List.mem_iff_getElem?.2 ⟨0, by rw [List.getElem?_drop]; exact hx⟩
        have hnl := (pos_parts key l h).2.1 x hxm
        unfold foundK
        rw [hx]
        obtain ⟨hlt', rfl⟩ := List.getElem?_eq_some_iff.1 hx
        rw [List.drop_eq_getElem_cons hlt'] at hy
        rcases List.mem_cons.1 hy with rfl | hy
        · exact decide_eq_true he
        · have := after_gt h hx y hy
          rw [he, hnl] at this; cases this
      · rw [List.drop_eq_nil_of_le (by omega)] at hy
        cases hy
  · intro hf
    obtain ⟨x, hx, he⟩ := foundK_some hf
    exact ⟨x, List.mem_of_getElem? hx, he⟩
theorem flat_set : ∀ (xs : List PR) (i : Nat) (x : PR) (v : ByteArray), xs[i]? = some x → (xs.flatMap gP).set (i * 2 + 1) (.string v) = (xs.set i (x.1, v)).flatMap gP := by
  intro xs
  induction xs with
  | nil => intro i x v h; simp at h
  | cons y r ih =>
    intro i x v h
    cases i with
    | zero =>
      simp at h
      subst h
      rfl
    | succ i =>
      have := ih i x v (by simpa using h)
      rw [List.flatMap_cons, List.set_cons_succ, List.flatMap_cons, ← this]
      show (gP y ++ r.flatMap gP).set ((i + 1) * 2 + 1) (.string v) = gP y ++ (r.flatMap gP).set (i * 2 + 1) (.string v)
      rw [List.set_append_right _ _ (by rw [gP_len]; omega)]
      congr 2
      rw [gP_len]; omega
theorem set_eq {l : List PR} {i : Nat} {x y : PR} (hx : l[i]? = some x) : l.set i y = l.take i ++ [y] ++ l.drop (i + 1) := by
  have hi := (List.getElem?_eq_some_iff.1 hx).1
  rw [List.set_eq_take_append_cons_drop, if_pos hi]
  simp

end Go.Proofs.YtjhojpghllnoiaaDoor
