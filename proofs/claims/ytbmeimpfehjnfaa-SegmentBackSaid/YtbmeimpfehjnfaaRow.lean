/-
  Lists in memory whose elements take several cells each (structs): as they came in, and as a call builds them; append of one element. No function of the program is walked here.
-/
import Derived.Test.YtbmeimpfehjnfaaCell
namespace Go.Proofs.Ytbmeimpfehjnfaa
open Go.RowKit

/-- the slice with this address reads as these elements, element j's cells from j times k on, below block B -/
def GL {α : Type} (g : α → List Value) (k : Nat) (w : World) (B : Nat) (A : Option Addr) (xs : List α) : Prop :=
  0 < xs.length → ∃ b o, A = some ⟨b, o, none⟩ ∧ b < B ∧ ∀ j x i v, xs[j]? = some x → (g x)[i]? = some v → w.cell? ⟨b, o + j * k + i, none⟩ = some v
theorem gl_pair {α : Type} {g : α → List Value} {u v : α → Value} (hg : ∀ x, g x = [u x, v x]) {w : World} {B : Nat} {A : Option Addr} {xs : List α}
    (h : 0 < xs.length → ∃ b o, A = some ⟨b, o, none⟩ ∧ b < B ∧ ∀ j y, xs[j]? = some y → w.cell? ⟨b, o + j * 2, none⟩ = some (u y) ∧ w.cell? ⟨b, o + j * 2 + 1, none⟩ = some (v y)) : GL g 2 w B A xs := fun hn => by
  obtain ⟨b, o, e, hb, hc⟩ := h hn
  refine ⟨b, o, e, hb, fun j x i z hx hz => ?_⟩
  rw [hg] at hz
  obtain ⟨h0, h1⟩ := hc j x hx
  match i, hz with
  | 0, hz => obtain rfl := Option.some.inj hz; exact h0
  | 1, hz => obtain rfl := Option.some.inj hz; exact h1
theorem flat_at {α : Type} {g : α → List Value} {k : Nat} (hg : ∀ x, (g x).length = k) : ∀ (xs : List α) (j : Nat) (x : α) (i : Nat), xs[j]? = some x → i < k → (xs.flatMap g)[j * k + i]? = (g x)[i]? := by
  intro xs
  induction xs with
  | nil => intro j x i h; simp at h
  | cons y ys ih =>
    intro j x i h hi
    rw [List.flatMap_cons]
    cases j with
    | zero =>
      simp at h
      subst h
      rw [Nat.zero_mul, Nat.zero_add, List.getElem?_append_left (by rw [hg]; exact hi)]
    | succ j =>
      rw [List.getElem?_append_right (by rw [hg, Nat.succ_mul]; omega), hg, Nat.succ_mul]
      have e : j * k + k + i - k = j * k + i := by omega
      rw [e]
      exact ih j x i (by simpa using h) hi
theorem flat_len {α : Type} {g : α → List Value} {k : Nat} (hg : ∀ x, (g x).length = k) (xs : List α) : (xs.flatMap g).length = xs.length * k := by
  induction xs with
  | nil => simp
  | cons y ys ih => rw [List.flatMap_cons, List.length_append, hg, ih, List.length_cons, Nat.succ_mul]; omega
section
variable {α : Type} {g : α → List Value} {k : Nat}
theorem GL.nil (w : World) (B : Nat) (A : Option Addr) : GL g k w B A [] := fun h => absurd h (by simp)
theorem GL.keep {w w' : World} {B : Nat} {A : Option Addr} {xs : List α} (h : GL g k w B A xs) (hk : ∀ p : Addr, p.block < B → w'.cell? p = w.cell? p) : GL g k w' B A xs := fun hn => by
  obtain ⟨b, o, e, hb, hc⟩ := h hn
  exact ⟨b, o, e, hb, fun j x i v hx hv => (hk ⟨b, o + j * k + i, none⟩ hb).trans (hc j x i v hx hv)⟩
theorem GL.below {w w' : World} {B : Nat} {A : Option Addr} {xs : List α} (h : GL g k w B A xs) (hb : Below B w w') : GL g k w' B A xs := h.keep fun _ hp => hb.cell hp
theorem GL.more {w : World} {B B' : Nat} {A : Option Addr} {xs : List α} (h : GL g k w B A xs) (hB : B ≤ B') : GL g k w B' A xs := fun hn => by
  obtain ⟨b, o, e, hb, hc⟩ := h hn
  exact ⟨b, o, e, by omega, hc⟩
theorem GL.step {w w' : World} {A : Option Addr} {xs : List α} (h : GL g k w w.heap.size A xs) (hb : Below w.heap.size w w') : GL g k w' w'.heap.size A xs := (h.below hb).more hb.size
theorem GL.take {w : World} {B : Nat} {A : Option Addr} {xs : List α} (h : GL g k w B A xs) (n : Nat) : GL g k w B A (xs.take n) := fun hn => by
  rw [List.length_take] at hn
  obtain ⟨b, o, e, hb, hcell⟩ := h (by omega)
  refine ⟨b, o, e, hb, fun j x i v hx hv => hcell j x i v ?_ hv⟩
  rw [List.getElem?_take] at hx
  split at hx
  · exact hx
  · cases hx
/-- a new block that holds the elements -/
theorem GL.new (hg : ∀ x, (g x).length = k) {w : World} {t : TypeId} {xs : List α} : GL g k (w.alloc (.cells (xs.flatMap g).toArray t)) (w.alloc (.cells (xs.flatMap g).toArray t)).heap.size (some ⟨w.heap.size, 0, none⟩) xs := fun _ =>
  ⟨w.heap.size, 0, rfl, by simp, fun j x i v hx hv => by
    have hi : i < k := by rw [← hg x]; exact (List.getElem?_eq_some_iff.1 hv).1
    rw [World.cell?_alloc_at _ _ _ _ (by rfl), Nat.zero_add, List.getElem?_toArray, flat_at hg xs j x i hx hi]; exact hv⟩
/-- what the slice yields where it is appended -/
theorem GL.src (hg : ∀ x, (g x).length = k) (h1 : ∀ x, ∀ u ∈ g x, u.oneCell' = true) {w : World} {B : Nat} {A : Option Addr} {xs : List α} (h : GL g k w B A xs) {P : Program} {t e : TypeId} (hk : P.underlying t = some (.slice e)) (c : Nat) :
    Src P k t (.slice A xs.length c) xs.length (xs.flatMap g) w := by
  have ho : ∀ u ∈ xs.flatMap g, u.oneCell' = true := fun u hu => by
    obtain ⟨x, _, hx⟩ := List.mem_flatMap.1 hu
    exact h1 x u hx
  by_cases h0 : 0 < xs.length
  · obtain ⟨b, o, rfl, hb, hc⟩ := h h0
    refine Src.ofSlice w hk _ _ _ _ (flat_len hg xs) (fun j u hj => ?_) ho
    have hj' : j < xs.length * k := by rw [← flat_len hg xs]; exact (List.getElem?_eq_some_iff.1 hj).1
    have hk0 : 0 < k := by
      rcases Nat.eq_zero_or_pos k with h' | h'
      · subst h'; simp at hj'
      · exact h'
    have hd : j / k < xs.length := by rw [Nat.div_lt_iff_lt_mul hk0]; exact hj'
    have hm : j % k < k := Nat.mod_lt _ hk0
    have ej : j / k * k + j % k = j := by rw [Nat.mul_comm]; exact Nat.div_add_mod j k
    obtain ⟨x, hx⟩ : ∃ x, xs[j / k]? = some x := ⟨_, List.getElem?_eq_getElem hd⟩
    have hv := flat_at hg xs (j / k) x (j % k) hx hm
    rw [ej, hj] at hv
    have := hc (j / k) x (j % k) u hx hv.symm
    rw [Nat.add_assoc, ej] at this
    unfold Addr.add
    split
    · next h0 => subst h0; exact this
    · exact this
  · have hx : xs = [] := List.eq_nil_of_length_eq_zero (by omega)
    subst hx
    cases A with
    | none => exact Src.ofNil w hk c
    | some a => exact Src.ofSlice w hk a 0 c [] (by simp) (fun j u hj => by simp at hj) (fun u hu => by simp at hu)
end

/-- a list that a call builds for itself, k cells an element -/
def OwnG {α : Type} (e : TypeId) (g : α → List Value) (k : Nat) (w : World) (B : Nat) (v : Value) (xs : List α) : Prop := w.ownsRow B e k v xs.length (xs.flatMap g)
section
variable {α : Type} {g : α → List Value} {k : Nat} {e : TypeId}
theorem OwnG.nil (w : World) (B : Nat) : OwnG e g k w B (.slice none 0 0) [] := World.ownsRow_nil _ _ _ _
theorem OwnG.made (w : World) (cap : Nat) (cur : Array Value) (B : Nat) (hb : B ≤ w.heap.size) (hm : cap ≤ maxLen) (hs : cur.size = cap * k) : OwnG e g k (w.alloc (.cells cur e)) B (.slice (some ⟨w.heap.size, 0, none⟩) 0 cap) [] :=
  World.ownsRow_made w cur cap hb hm hs
theorem OwnG.ret (hg : ∀ x, (g x).length = k) {w : World} {B : Nat} {v : Value} {xs : List α} (h : OwnG e g k w B v xs) : ∃ A c, v = .slice A xs.length c ∧ xs.length ≤ c ∧ GL g k w w.heap.size A xs := by
  unfold OwnG at h
  rcases h.2 with ⟨rfl, hn⟩ | ⟨q, cap, cur, rfl, hb, hq, hnc, hcm, hcs, htake⟩
  · have : xs = [] := List.eq_nil_of_length_eq_zero hn
    subst this
    exact ⟨none, 0, rfl, Nat.le_refl _, GL.nil _ _ _⟩
  · refine ⟨_, cap, rfl, hnc, fun _ => ⟨q, 0, rfl, (Array.getElem?_eq_some_iff.1 hq).1, fun j x i v hx hv => ?_⟩⟩
    have hi : i < k := by rw [← hg x]; exact (List.getElem?_eq_some_iff.1 hv).1
    have hj : j < xs.length := (List.getElem?_eq_some_iff.1 hx).1
    have hjk : j * k + i < xs.length * k := by
      have h1 : j * k + k ≤ xs.length * k := by rw [← Nat.succ_mul]; exact Nat.mul_le_mul hj (Nat.le_refl _)
      omega
    rw [Nat.zero_add, h.cellAt _ hjk, flat_at hg xs j x i hx hi]; exact hv
theorem OwnG.alloc {w : World} {B : Nat} {v : Value} {xs : List α} (h : OwnG e g k w B v xs) (o : Obj) : OwnG e g k (w.alloc o) B v xs := World.ownsRow.alloc h o
theorem OwnG.drew {w : World} {B : Nat} {v : Value} {xs : List α} (h : OwnG e g k w B v xs) : OwnG e g k w.drew B v xs := World.ownsRow.drew h
theorem OwnG.step {w w' : World} {B : Nat} {v : Value} {xs : List α} (h : OwnG e g k w B v xs) (hb : Below w.heap.size w w') : OwnG e g k w' B v xs := by
  unfold OwnG at h ⊢
  refine ⟨h.1, ?_⟩
  rcases h.2 with h' | ⟨q, cap, cur, rfl, hB, hq, hnc, hcm, hcs, htake⟩
  · exact .inl h'
  · exact .inr ⟨q, cap, cur, rfl, hB, by rw [hb.block q (Array.getElem?_eq_some_iff.1 hq).1]; exact hq, hnc, hcm, hcs, htake⟩
theorem OwnG.weak {w : World} {B B' : Nat} {v : Value} {xs : List α} (h : OwnG e g k w B v xs) (hB : B' ≤ B) : OwnG e g k w B' v xs := by
  unfold OwnG at h ⊢
  refine ⟨h.1, ?_⟩
  rcases h.2 with h' | ⟨q, cap, cur, rfl, hb, hq, hnc, hcm, hcs, htake⟩
  · exact .inl h'
  · exact .inr ⟨q, cap, cur, rfl, by omega, hq, hnc, hcm, hcs, htake⟩

theorem wpList_appG {P : Program} {ops : Array Oper} {rest : List Oper} {o : Oper} {a : Act} {Q : Exit → Act → World → Prop} (hk0 : 0 < k) (wr : World) (hgd : o.guard = none) (s x : Operand) (t tx : TypeId)
    (ho : o.op = .call { callee := .builtin .append, args := #[s, x], argTypes := #[t, tx] }) (z : Value) (bytes : Nat) (ht : P.underlying t = some (.slice e))
    (hi : (P.info? e).map (fun i => (i.zero, i.size, i.bytes)) = some (some z, k, bytes)) (hzs : z.cells.size = k) (hby : 0 < bytes) (B : Nat) (v : Value) (xs ys : List α) (hs : a.eval s = v) (hown : OwnG e g k wr B v xs)
    (vx : Value) (hx : a.eval x = vx) (hsrc : Src P k tx vx ys.length (ys.flatMap g) wr) (w0 : World) (hb : Below B w0 wr) (hB : B ≤ wr.heap.size) (hn : (xs.length + ys.length) * bytes ≤ 140737488355328)
    (h : ∀ v' w', OwnG e g k w' B v' (xs ++ ys) → Below B w0 w' → B ≤ w'.heap.size → wpList P ops Q rest (a.put o.dst v') w') : wpList P ops Q (o :: rest) a wr := by
  obtain ⟨i, hi, hz, hz1, hz2⟩ := info_parts hi
  have hn2 : xs.length + ys.length ≤ 140737488355328 := Nat.le_trans (Nat.le_mul_of_pos_right _ hby) hn
  refine wpList_append_src wr hgd s x t tx ho B e i z k bytes ht hi hz hz1 hz2 hzs hk0 v xs.length (xs.flatMap g) hs hown vx hx ys.length (ys.flatMap g) hsrc (by unfold maxLen; omega) hn hB ?_
  intro v' w' hown' hgrow
  refine h v' w' ?_ (hb.grown hgrow hB (fun j hj => (World.ownsRow.lt hown j hj).1)) (by have := hgrow.size; omega)
  unfold OwnG
  simpa [List.flatMap_append] using hown'
/-- one element, laid in a block of its own -/
theorem srcG_one (hg : ∀ x, (g x).length = k) (h1 : ∀ x, ∀ u ∈ g x, u.oneCell' = true) {P : Program} {t : TypeId} (ht : P.underlying t = some (.slice e)) (w : World) (x : α) :
    Src P k t (.slice (some ⟨w.heap.size, 0, none⟩) 1 1) 1 ([x].flatMap g) (w.alloc (.cells (g x).toArray e)) := by
  have := GL.src (A := some ⟨w.heap.size, 0, none⟩) (xs := [x]) hg h1 (w := w.alloc (.cells ([x].flatMap g).toArray e)) (GL.new hg) ht 1
  simpa using this
end

end Go.Proofs.Ytbmeimpfehjnfaa
