/-
  Lists in memory whose elements take several cells each (structs): as they came in, and as a call builds them; append of one element. No function of the program is walked here.
-/
import Derived.Test.YtomlideijhejfaaGreatDoorCell
namespace Go.Proofs.YtomlideijhejfaaGreatDoor
open Go.RowKit

/-- the slice with this address reads as these elements, element j's cells from j times k on, below block B -/
def GL {α : Type} (g : α → List Value) (k : Nat) (w : World) (B : Nat) (A : Option Addr) (xs : List α) : Prop :=
  0 < xs.length → ∃ b o, A = some ⟨b, o, none⟩ ∧ b < B ∧ ∀ j x i v, xs[j]? = some x → (g x)[i]? = some v → w.cell? ⟨b, o + j * k + i, none⟩ = some v
theorem flat_at {α : Type} {g : α → List Value} {k : Nat} (hg : ∀ x, (g x).length = k) : ∀ (xs : List α) (j : Nat) (x : α) (i : Nat), xs[j]? = some x → i < k → (xs.flatMap g)[j * k + i]? = (g x)[i]? := by
  intro xs
  induction xs with
  | nil => intro j x i h; simp at h
  | cons y ys ih =>
    intro j x i h hi
    rw [List.flatMap_cons]
    cases j with
    | zero =>
      simp at h
      subst h
      rw [Nat.zero_mul, Nat.zero_add, List.getElem?_append_left (by rw [hg]; exact hi)]
    | succ j =>
      rw [List.getElem?_append_right (by rw [hg, Nat.succ_mul]; omega), hg, Nat.succ_mul]
      have e : j * k + k + i - k = j * k + i := by omega
      rw [e]
      exact ih j x i (by simpa using h) hi
theorem flat_len {α : Type} {g : α → List Value} {k : Nat} (hg : ∀ x, (g x).length = k) (xs : List α) : (xs.flatMap g).length = xs.length * k := by
  induction xs with
  | nil => simp
  | cons y ys ih => rw [List.flatMap_cons, List.length_append, hg, ih, List.length_cons, Nat.succ_mul]; omega
section
variable {α : Type} {g : α → List Value} {k : Nat}
theorem GL.nil (w : World) (B : Nat) (A : Option Addr) : GL g k w B A [] := fun h => absurd h (by simp)
theorem GL.keep {w w' : World} {B : Nat} {A : Option Addr} {xs : List α} (h : GL g k w B A xs) (hk : ∀ p : Addr, p.block < B → w'.cell? p = w.cell? p) : GL g k w' B A xs := fun hn => by
  obtain ⟨b, o, e, hb, hc⟩ := h hn
  exact ⟨b, o, e, hb, fun j x i v hx hv => (hk ⟨b, o + j * k + i, none⟩ hb).trans (hc j x i v hx hv)⟩
theorem GL.below {w w' : World} {B : Nat} {A : Option Addr} {xs : List α} (h : GL g k w B A xs) (hb : Below B w w') : GL g k w' B A xs := h.keep fun _ hp => hb.cell hp
theorem GL.more {w : World} {B B' : Nat} {A : Option Addr} {xs : List α} (h : GL g k w B A xs) (hB : B ≤ B') : GL g k w B' A xs := fun hn => by
  obtain ⟨b, o, e, hb, hc⟩ := h hn
  exact ⟨b, o, e, by omega, hc⟩
theorem GL.step {w w' : World} {A : Option Addr} {xs : List α} (h : GL g k w w.heap.size A xs) (hb : Below w.heap.size w w') : GL g k w' w'.heap.size A xs := (h.below hb).more hb.size
theorem GL.take {w : World} {B : Nat} {A : Option Addr} {xs : List α} (h : GL g k w B A xs) (n : Nat) : GL g k w B A (xs.take n) := fun hn => by
  rw [List.length_take] at hn
  obtain ⟨b, o, e, hb, hcell⟩ := h (by omega)
  refine ⟨b, o, e, hb, fun j x i v hx hv => hcell j x i v ?_ hv⟩
  rw [List.getElem?_take] at hx
  split at hx
  · exact hx
  · cases hx
/-- a new block that holds the elements -/
theorem GL.new (hg : ∀ x, (g x).length = k) {w : World} {t : TypeId} {xs : List α} : GL g k (w.alloc (.cells (xs.flatMap g).toArray t)) (w.alloc (.cells (xs.flatMap g).toArray t)).heap.size (some ⟨w.heap.size, 0, none⟩) xs := fun _ =>
  ⟨w.heap.size, 0, rfl, by simp, fun j x i v hx hv => by
    have hi : i < k := by rw [← hg x]; exact (List.getElem?_eq_some_iff.1 hv).1
    rw [World.cell?_alloc_at _ _ _ _ (by rfl), Nat.zero_add, List.getElem?_toArray, flat_at hg xs j x i hx hi]; exact hv⟩
/-- what the slice yields where it is appended -/
theorem GL.src (hg : ∀ x, (g x).length = k) (h1 : ∀ x, ∀ u ∈ g x, u.oneCell' = true) {w : World} {B : Nat} {A : Option Addr} {xs : List α} (h : GL g k w B A xs) {P : Program} {t e : TypeId} (hk : P.underlying t = some (.slice e)) (c : Nat) :
    Src P k t (.slice A xs.length c) xs.length (xs.flatMap g) w := by
  have ho : ∀ u ∈ xs.flatMap g, u.oneCell' = true := fun u hu => by
    obtain ⟨x, _, hx⟩ := List.mem_flatMap.1 hu
    exact h1 x u hx
  by_cases h0 : 0 < xs.length
  · obtain ⟨b, o, rfl, hb, hc⟩ := h h0
    refine Src.ofSlice w hk _ _ _ _ (flat_len hg xs) (fun j u hj => ?_) ho
    have hj' : j < xs.length * k := by rw [← flat_len hg xs]; exact (List.getElem?_eq_some_iff.1 hj).1
    have hk0 : 0 < k := by
      rcases Nat.eq_zero_or_pos k with h' | h'
      · subst h'; simp at hj'
      · exact h'
    have hd : j / k < xs.length := by rw [Nat.div_lt_iff_lt_mul hk0]; exact hj'
    have hm : j % k < k := Nat.mod_lt _ hk0
    have ej : j / k * k + j % k = j := by rw [Nat.mul_comm]; exact Nat.div_add_mod j k
    obtain ⟨x, hx⟩ : ∃ x, xs[j / k]? = some x := ⟨_, List.getElem?_eq_getElem hd⟩
    have hv := flat_at hg xs (j / k) x (j % k) hx hm
    rw [ej, hj] at hv
    have := hc (j / k) x (j % k) u hx hv.symm
    rw [Nat.add_assoc, ej] at this
    unfold Addr.add
    split
    · next h0 => subst h0; exact this
    · exact this
  · have hx : xs = [] := List.eq_nil_of_length_eq_zero (by omega)
    subst hx
    cases A with
    | none => exact Src.ofNil w hk c
    | some a => exact Src.ofSlice w hk a 0 c [] (by simp) (fun j u hj => by simp at hj) (fun u hu => by simp at hu)
end

/-- a list that a call builds for itself, k cells an element -/
def OwnG {α : Type} (e : TypeId) (g : α → List Value) (k : Nat) (w : World) (B : Nat) (v : Value) (xs : List α) : Prop := w.ownsRow B e k v xs.length (xs.flatMap g)
section
variable {α : Type} {g : α → List Value} {k : Nat} {e : TypeId}
theorem OwnG.nil (w : World) (B : Nat) : OwnG e g k w B (.slice none 0 0) [] := World.ownsRow_nil _ _ _ _
theorem OwnG.ret (hg : ∀ x, (g x).length = k) {w : World} {B : Nat} {v : Value} {xs : List α} (h : OwnG e g k w B v xs) : ∃ A c, v = .slice A xs.length c ∧ xs.length ≤ c ∧ GL g k w w.heap.size A xs := by
  unfold OwnG at h
  rcases h.2 with ⟨rfl, hn⟩ | ⟨q, cap, cur, rfl, hb, hq, hnc, hcm, hcs, htake⟩
  · have : xs = [] := List.eq_nil_of_length_eq_zero hn
    subst this
    exact ⟨none, 0, rfl, Nat.le_refl _, GL.nil _ _ _⟩
  · refine ⟨_, cap, rfl, hnc, fun _ => ⟨q, 0, rfl, (Array.getElem?_eq_some_iff.1 hq).1, fun j x i v hx hv => ?_⟩⟩
    have hi : i < k := by rw [← hg x]; exact (List.getElem?_eq_some_iff.1 hv).1
    have hj : j < xs.length := (List.getElem?_eq_some_iff.1 hx).1
    have hjk : j * k + i < xs.length * k := by
      have h1 : j * k + k ≤ xs.length * k := by rw [← Nat.succ_mul]; exact Nat.mul_le_mul hj (Nat.le_refl _)
      omega
    rw [Nat.zero_add, h.cellAt _ hjk, flat_at hg xs j x i hx hi]; exact hv
theorem OwnG.alloc {w : World} {B : Nat} {v : Value} {xs : List α} (h : OwnG e g k w B v xs) (o : Obj) : OwnG e g k (w.alloc o) B v xs := World.ownsRow.alloc h o
theorem OwnG.drew {w : World} {B : Nat} {v : Value} {xs : List α} (h : OwnG e g k w B v xs) : OwnG e g k w.drew B v xs := World.ownsRow.drew h
theorem OwnG.step {w w' : World} {B : Nat} {v : Value} {xs : List α} (h : OwnG e g k w B v xs) (hb : Below w.heap.size w w') : OwnG e g k w' B v xs := by
  unfold OwnG at h ⊢
  refine ⟨h.1, ?_⟩
  rcases h.2 with h' | ⟨q, cap, cur, rfl, hB, hq, hnc, hcm, hcs, htake⟩
  · exact .inl h'
  · exact .inr ⟨q, cap, cur, rfl, hB, by rw [hb.block q (Array.getElem?_eq_some_iff.1 hq).1]; exact hq, hnc, hcm, hcs, htake⟩
end

end Go.Proofs.YtomlideijhejfaaGreatDoor
