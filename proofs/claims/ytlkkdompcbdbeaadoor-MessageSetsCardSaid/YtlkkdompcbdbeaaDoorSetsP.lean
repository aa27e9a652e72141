/-
  What Set's list holds: the value at the key, and every other property as it was. Conditions: the list and the pair keep the rules.
-/
import Derived.Test.YtlkkdompcbdbeaaDoorAwake5
namespace Go.Proofs.YtlkkdompcbdbeaaDoor
open Go.RowKit

theorem getR_uniq : ∀ {l : List PR} {x : PR}, PW l → x ∈ l → getR l x.1 = (x.2, true) := by
  intro l
  induction l with
  | nil => intro x _ h; cases h
  | cons y r ih =>
    intro x h hx
    obtain ⟨h1, h2⟩ := List.pairwise_cons.1 h
    rw [getR_cons]
    rcases List.mem_cons.1 hx with rfl | hx
    · rw [if_pos rfl]
    · rw [if_neg (ltS_ne (h1 x hx)), ih h2 hx]
theorem setL_pw {l : List PR} {key value : ByteArray} (h : PW l) : PW (setL l key value) := by
  unfold setL PW
  refine List.pairwise_append.2 ⟨List.pairwise_append.2 ⟨h.filter _, List.pairwise_singleton _ _, ?_⟩, h.filter _, ?_⟩
  · intro a ha b hb
    obtain rfl := List.mem_singleton.1 hb
    exact (List.mem_filter.1 ha).2
  · intro a ha b hb
    have h2 : ltS key b.1 = true := (List.mem_filter.1 hb).2
    rcases List.mem_append.1 ha with ha | ha
    · exact ltS_trans (by simpa using (List.mem_filter.1 ha).2) h2
    · obtain rfl := List.mem_singleton.1 ha
      exact h2
theorem setL_key (l : List PR) (key value : ByteArray) : (key, value) ∈ setL l key value := by unfold setL; simp
theorem setL_other {l : List PR} {key value : ByteArray} {x : PR} (hx : x ∈ l) (hne : x.1 ≠ key) : x ∈ setL l key value := by
  unfold setL
  cases h1 : ltS x.1 key with
  | true => exact List.mem_append_left _ (List.mem_append_left _ (List.mem_filter.2 ⟨hx, by simpa using h1⟩))
  | false =>
    cases h2 : ltS key x.1 with
    | true => exact List.mem_append_right _ (List.mem_filter.2 ⟨hx, by simpa using h2⟩)
    | false => exact absurd (ltS_total h1 h2) hne
theorem setL_ok {l : List PR} {key value : ByteArray} (h : ∀ x ∈ l, okP x) (hk : keyR key = true) (hv : ¬ 160 < value.size) : ∀ x ∈ setL l key value, okP x := by
  intro x hx
  unfold setL at hx
  rcases List.mem_append.1 hx with hx | hx
  · rcases List.mem_append.1 hx with hx | hx
    · exact h x (List.mem_filter.1 hx).1
    · obtain rfl := List.mem_singleton.1 hx
      exact ⟨hk, hv⟩
  · exact h x (List.mem_filter.1 hx).1
theorem setL_length {l : List PR} {key value : ByteArray} (h : PW l) : (setL l key value).length = l.length + (if (getR l key).2 = true then 0 else 1) := by
  rw [getR_found h]
  cases hf : foundK l key with
  | true =>
    obtain ⟨x, hx, he⟩ := foundK_some hf
    have := (List.getElem?_eq_some_iff.1 hx).1
    rw [setL_found h hx he]
    simp only [List.length_append, List.length_take, List.length_drop, List.length_cons, List.length_nil, if_true]
    omega
  | false =>
    have := (pos_parts key l h).2.2
    rw [setL_new h hf]
    unfold insP
    simp only [List.length_append, List.length_take, List.length_drop, List.length_cons, List.length_nil]
    rw [if_neg (by simp)]
    omega
/-- all that MessageSets asks of Set's list -/
theorem setR_cases (l : List PR) (key value : ByteArray) : (∃ e : Nat, setR l key value = ([], e) ∧ e ≠ 0) ∨ ∃ ys, setR l key value = (ys, 0) ∧ getR ys key = (value, true) ∧ propsR ys = 0 ∧ propsR l = 0 ∧
    (∀ x ∈ l, (getR ys x.1).2 = true ∧ (x.1 ≠ key → (getR ys x.1).1 = x.2)) ∧ ys.length = l.length + (if (getR l key).2 = true then 0 else 1) := by
  unfold setR
  by_cases h0 : propsR l ≠ 0
  · exact Or.inl ⟨_, by rw [if_pos h0], h0⟩
  rw [if_neg h0]
  by_cases h1 : keyR key = false
  · exact Or.inl ⟨16, by rw [if_pos h1], by omega⟩
  rw [if_neg h1]
  by_cases h2 : 160 < value.size ∨ (l.length = 8 ∧ (getR l key).2 = false)
  · exact Or.inl ⟨5, by rw [if_pos h2], by omega⟩
  rw [if_neg h2]
  have hp : propsR l = 0 := by omega
  obtain ⟨p1, p2, p3⟩ := propsR_parts hp
  have hpw := setL_pw (key := key) (value := value) p2
  have hk : keyR key = true := by simpa using h1
  have hlen := setL_length (key := key) (value := value) p2
  refine Or.inr ⟨_, rfl, getR_uniq hpw (setL_key l key value), propsR_ok ?_ hpw (setL_ok p3 hk (fun h => h2 (Or.inl h))), hp, fun x hx => ?_, hlen⟩
  · rw [hlen]
    cases hg : (getR l key).2 with
    | true => rw [if_pos rfl]; omega
    | false =>
      rw [if_neg (by simp)]
      have : l.length ≠ 8 := fun h => h2 (Or.inr ⟨h, hg⟩)
      omega
  · by_cases hx1 : x.1 = key
    · rw [hx1, getR_uniq hpw (setL_key l key value)]
      exact ⟨rfl, fun h => absurd rfl h⟩
    · rw [getR_uniq hpw (setL_other hx hx1)]
      exact ⟨rfl, fun _ => rfl⟩

end Go.Proofs.YtlkkdompcbdbeaaDoor
