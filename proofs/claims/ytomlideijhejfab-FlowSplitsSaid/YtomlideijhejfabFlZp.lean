/-
  What FlowSplits compares. Conditions: the rounds are those of FlP.
-/
import Derived.Test.YtomlideijhejfabFlX
namespace Go.Proofs.Ytomlideijhejfab
open Go.RowKit

theorem rdF_last : ∀ (f : Nat) (m : List (Int × Int)) (out : List Int) (last : Int), (rdF f m out last).2 = last ∨ ∃ i : Nat, i < m.length ∧ (rdF f m out last).2 = (i : Int) := by
  intro f
  induction f with
  | zero => intro m out last; exact .inl rfl
  | succ f ih =>
    intro m out last
    rw [rdF]
    cases h : nxC m last with
    | none => exact .inl rfl
    | some i =>
      have hi := nxC_lt h
      dsimp only
      rcases ih (useAt m i) (addAt out i) (i : Int) with e | ⟨j, hj, e⟩
      · exact .inr ⟨i, hi, e⟩
      · exact .inr ⟨j, by rw [use_len] at hj; exact hj, e⟩
theorem rdC_last {l : List (Int × Int)} {last n : Int} (h1 : -9223372036854775808 ≤ last) (h2 : last ≤ 9223372036854775807) (hl : l.length ≤ 1000000) : -9223372036854775808 ≤ (rdC l last n).2 ∧ (rdC l last n).2 ≤ 9223372036854775807 := by
  unfold rdC
  rcases rdF_last (min n 1024).toNat l (List.replicate l.length 0) last with e | ⟨i, hi, e⟩
  · rw [e]; exact ⟨h1, h2⟩
  · rw [e]; omega
theorem ok_used {X : List (Int × Int)} {G : List Int} {n : Int} (h : FairG X G n) (hok : ∀ x ∈ X, okC x = true) : ∀ x ∈ usedC X G, okC x = true := fun x hx => by
  obtain ⟨i, hi, e⟩ := List.getElem_of_mem hx
  have hl := used_len h.len
  have hiX : i < X.length := by rw [← hl]; exact hi
  have ha := at_used h.len i
  have e1 : atC (usedC X G) i = x := atC_of (by rw [List.getElem?_eq_getElem hi, e])
  have e2 : atC X i = X[i] := atC_of (List.getElem?_eq_getElem hiX)
  have ho := okC_iff.1 (hok _ (List.getElem_mem hiX))
  have hg := h.ok i hiX
  rw [e1] at ha
  rw [ha]
  rw [e2] at hg ⊢
  refine okC_iff.2 ?_
  unfold lfC at hg
  dsimp only
  split at hg <;> omega
/-- the list of which the first k have got their units -/
def usK (X : List (Int × Int)) (G : List Int) (k : Nat) : List (Int × Int) := (usedC X G).take k ++ X.drop k
theorem usK_zero (X : List (Int × Int)) (G : List Int) : usK X G 0 = X := rfl
theorem usK_all {X : List (Int × Int)} {G : List Int} (h : G.length = X.length) : usK X G X.length = usedC X G := by
  unfold usK
  have := used_len h
  rw [List.drop_length, List.append_nil, ← this, List.take_length]
theorem usK_len {X : List (Int × Int)} {G : List Int} (h : G.length = X.length) (k : Nat) : (usK X G k).length = X.length := by
  unfold usK
  rw [List.length_append, List.length_take, List.length_drop, used_len h]
  omega
theorem usK_at {X : List (Int × Int)} {G : List Int} (h : G.length = X.length) {k : Nat} {x : Int × Int} (hx : X[k]? = some x) : (usK X G k)[k]? = some x := by
  have hk := (List.getElem?_eq_some_iff.1 hx).1
  have hl := used_len h
  unfold usK
  rw [List.getElem?_append_right (by rw [List.length_take]; omega), List.length_take, List.getElem?_drop]
  rw [show k + (k - min k (usedC X G).length) = k by omega]
  exact hx
theorem usK_succ {X : List (Int × Int)} {G : List Int} (h : G.length = X.length) {k : Nat} {m u g : Int} (hx : X[k]? = some (m, u)) (hg : G[k]? = some g) : (usK X G k).set k (m, u + g) = usK X G (k + 1) := by
  have hk := (List.getElem?_eq_some_iff.1 hx).1
  have hl := used_len h
  have hu : (usedC X G)[k]? = some (m, u + g) := by
    unfold usedC
    rw [List.getElem?_zipWith, hx, hg]
  unfold usK
  rw [List.set_append_right _ _ (by rw [List.length_take]; omega), List.length_take, show k - min k (usedC X G).length = 0 by omega, List.take_add_one, hu]
  rw [List.drop_eq_getElem_cons hk, List.set_cons_zero]
  simp
theorem flat_set1 (m : List (Int × Int)) : ∀ (i : Nat) (a b u : Int), m[i]? = some (a, b) → (m.flatMap gC).set (i * 2 + 1) (.int .i64 u) = (m.set i (a, u)).flatMap gC := by
  induction m with
  | nil => intro i a b u h; simp at h
  | cons y ys ih =>
    intro i a b u h
    cases i with
    | zero =>
      obtain rfl := Option.some.inj h
      rfl
    | succ i =>
      have := ih i a b u h
      rw [List.set_cons_succ, List.flatMap_cons, List.flatMap_cons, ← this]
      have e1 : (i + 1) * 2 + 1 = i * 2 + 1 + 1 + 1 := by omega
      rw [e1]
      rfl
theorem RowC.set1 {w : World} {g : Nat} {m : List (Int × Int)} (h : RowC w g m) {i : Nat} {a b : Int} (hx : m[i]? = some (a, b)) (u : Int) : RowC (w.setCell ⟨g, i * 2 + 1, none⟩ (.int .i64 u)) g (m.set i (a, u)) := by
  obtain ⟨vs, h1, h2⟩ := h
  refine ⟨_, h1.set (i * 2 + 1) _, ?_⟩
  rw [List.length_set, List.take_set, h2, flat_set1 m i a b u hx]
theorem RowC.len_eq {w : World} {g : Nat} {m m' : List (Int × Int)} (h : RowC w g m) (e : m = m') : RowC w g m' := e ▸ h
theorem FairG.small {X : List (Int × Int)} {G : List Int} {n : Int} (h : FairG X G n) (hok : ∀ x ∈ X, okC x = true) : ∀ x ∈ G, 0 ≤ x ∧ x ≤ 1099511627776 := fun x hx => by
  obtain ⟨i, hi, e⟩ := List.getElem_of_mem hx
  have hiX : i < X.length := by rw [← h.len]; exact hi
  have e1 : G.getD i 0 = x := getD_of (by rw [List.getElem?_eq_getElem hi, e])
  have e2 : atC X i = X[i] := atC_of (List.getElem?_eq_getElem hiX)
  have ho := okC_iff.1 (hok _ (List.getElem_mem hiX))
  have hg := h.ok i hiX
  rw [e1, e2] at hg
  unfold lfC at hg
  split at hg <;> omega
theorem sum_len {a b : List Int} (h : a.length = b.length) : (sumL a b).length = a.length := by unfold sumL; simp [h]

end Go.Proofs.Ytomlideijhejfab
