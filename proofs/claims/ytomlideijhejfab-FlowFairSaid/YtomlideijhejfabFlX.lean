/-
  FlowFair answers true, walked. Conditions: the numbers fit an int; the list reads as data.
-/
import Derived.Test.YtomlideijhejfabFlW
namespace Go.Proofs.Ytomlideijhejfab
open Go.RowKit

theorem run_load_pair {P : Program} {w : World} {b o : Nat} {ty : TypeId} {x y : Value} {d : TypeDesc} (h0 : w.cell? ⟨b, o, none⟩ = some x) (h1 : w.cell? ⟨b, o + 1, none⟩ = some y)
    (hu : P.underlying ty = some d) (hd : (match d with | .struct _ | .array _ _ => true | _ => false) = true) (hi : (P.info? ty).map (·.size) = some 2) :
    (loadVar ty ⟨b, o, none⟩).run P w = .ok (.agg #[x, y]) w := by
  have hl : (loadCells ⟨b, o, none⟩ 2).run P w = .ok #[x, y] w :=
    run_loadCells_list (P := P) w ⟨b, o, none⟩ [x, y] (fun j v hv => by
      have hadd : (⟨b, o, none⟩ : Addr).add j = ⟨b, o + j, none⟩ := by unfold Addr.add; split <;> simp_all
      rw [hadd]
      match j, hv with
      | 0, hv => obtain rfl := Option.some.inj hv; exact h0
      | 1, hv => obtain rfl := Option.some.inj hv; exact h1)
  cases hq : P.info? ty with
  | none => simp [hq] at hi
  | some i =>
    have hs : i.size = 2 := by simpa [hq] using hi
    have hagg : (isAgg ty).run P w = .ok true w := by
      unfold isAgg
      rw [Sem.run_bind, run_underlying hu w]
      cases d <;> simp_all
    simp [loadVar, Sem.run_bind, hagg, sizeOf, typeInfo, hq, hs, hl]

/-- the units that are given, and whether something is left, up to an index -/
def leftAny (X : List (Int × Int)) (G : List Int) (k : Nat) : Bool := (List.range k).any fun i => decide (G.getD i 0 < lfC (atC X i))
theorem leftAny_succ (X : List (Int × Int)) (G : List Int) (k : Nat) : leftAny X G (k + 1) = (leftAny X G k || decide (G.getD k 0 < lfC (atC X k))) := by
  unfold leftAny
  rw [List.range_succ, List.any_append]
  simp
theorem leftAny_none {X : List (Int × Int)} {G : List Int} {k : Nat} (h : ∀ i, i < k → lfC (atC X i) ≤ G.getD i 0) : leftAny X G k = false := by
  unfold leftAny
  rw [List.any_eq_false]
  intro i hi
  have := h i (List.mem_range.1 hi)
  exact fun e => absurd (of_decide_eq_true e) (by omega)
theorem tot_take {G : List Int} {k : Nat} {x : Int} (hx : G[k]? = some x) : totL (G.take (k + 1)) = totL (G.take k) + x := by
  have : ∀ (l : List Int) (y : Int), totL (l ++ [y]) = totL l + y := fun l y => by
    induction l with
    | nil => simp [totL]
    | cons z zs ih => simp only [totL, List.cons_append, List.foldr_cons] at ih ⊢; omega
  rw [List.take_add_one, hx]
  exact this _ _
theorem tot_nonneg {G : List Int} (h : ∀ x ∈ G, 0 ≤ x) : 0 ≤ totL G := by
  induction G with
  | nil => simp [totL]
  | cons x xs ih =>
    have h1 := h x (by simp)
    have h2 := ih (fun y hy => h y (by simp [hy]))
    unfold totL at h2 ⊢
    rw [List.foldr_cons]
    omega
theorem tot_take_le {G : List Int} (h : ∀ x ∈ G, 0 ≤ x) : ∀ k, totL (G.take k) ≤ totL G := by
  intro k
  have : ∀ (a b : List Int), totL (a ++ b) = totL a + totL b := fun a b => by
    induction a with
    | nil => simp [totL]
    | cons z zs ih => simp only [totL, List.cons_append, List.foldr_cons] at ih ⊢; omega
  conv => rhs; rw [← List.take_append_drop k G]
  rw [this]
  have := tot_nonneg (G := G.drop k) (fun x hx => h x (List.mem_of_mem_drop hx))
  omega
/-- what the rounds give, whatever the list -/
structure FairG (X : List (Int × Int)) (G : List Int) (many : Int) : Prop where
  len : G.length = X.length
  ok : ∀ i, i < X.length → 0 ≤ G.getD i 0 ∧ G.getD i 0 ≤ lfC (atC X i)
  fair : ∀ i k, i < X.length → k < X.length → G.getD i 0 < lfC (atC X i) → G.getD k 0 ≤ G.getD i 0 + 1
  le : totL G ≤ many
  all : totL G = many ∨ ∀ i, i < X.length → lfC (atC X i) ≤ G.getD i 0
  m0 : 0 ≤ many
  m1 : many ≤ 1024
theorem fairG (X : List (Int × Int)) (last n : Int) (hn : 0 ≤ n) : FairG X (rdC X last n).1 (min n 1024) := by
  rcases Nat.eq_zero_or_pos X.length with h0 | h0
  · have hX : X = [] := List.eq_nil_of_length_eq_zero h0
    subst hX
    have hl := rdC_len [] last n
    have e : (rdC [] last n).1 = [] := List.eq_nil_of_length_eq_zero hl
    refine ⟨hl, fun i h => by simp at h, fun i k h => by simp at h, ?_, .inr fun i h => by simp at h, by omega, by omega⟩
    rw [e]; simp [totL]; omega
  · obtain ⟨h1, h2, h3, h4⟩ := fair_all X last n h0 hn
    exact ⟨rdC_len X last n, h1, h2, h3, h4, by omega, by omega⟩
theorem FairG.nonneg {X : List (Int × Int)} {G : List Int} {many : Int} (h : FairG X G many) : ∀ x ∈ G, 0 ≤ x := fun x hx => by
  obtain ⟨i, hi, e⟩ := List.getElem_of_mem hx
  have := (h.ok i (by rw [← h.len]; exact hi)).1
  rw [List.getD_eq_getElem?_getD, List.getElem?_eq_getElem hi] at this
  rw [← e]; exact this
theorem getD_of {G : List Int} {i : Nat} {x : Int} (h : G[i]? = some x) : G.getD i 0 = x := by rw [List.getD_eq_getElem?_getD, h]; rfl
theorem atC_of {X : List (Int × Int)} {i : Nat} {x : Int × Int} (h : X[i]? = some x) : atC X i = x := by unfold atC; rw [List.getD_eq_getElem?_getD, h]; rfl

end Go.Proofs.Ytomlideijhejfab
