/-
  Pools of identifiers as lists of numbers: what Check, Take and Free answer, and what follows of it. No program is named here.
-/
import Derived.Test.YtbmeimpfehjnfaaCell
namespace Go.Proofs.Ytbmeimpfehjnfaa.S2

/-- the numbers ascend from a on, up to 65535 -/
def upI : Int → List Int → Bool
  | _, [] => true
  | a, x :: xs => decide (a < x) && decide (x ≤ 65535) && upI x xs
/-- the first error of a pool -/
def ckI (X : List Int) (L : Int) : Int :=
  if 32 < X.length then 5 else if upI 0 X then (if 0 ≤ L ∧ L ≤ 65535 then 0 else 1) else 15
def aft (n : Int) : Int := if 65535 ≤ n then 1 else n + 1
def tkF : Nat → List Int → Int → Int
  | 0, _, n => n
  | k + 1, X, n => if n ∈ X then tkF k X (aft n) else n
def tkI (X : List Int) (L : Int) : Int := tkF 32 X (aft L)
def insI : List Int → Int → List Int
  | [], n => [n]
  | x :: xs, n => if x < n then x :: insI xs n else n :: x :: xs
def delI (X : List Int) (n : Int) : List Int := X.filter (fun x => x != n)

theorem up_weak {X : List Int} : ∀ {a b : Int}, a ≤ b → upI b X = true → upI a X = true := by
  intro a b h hu
  cases X with
  | nil => rfl
  | cons x xs =>
    simp only [upI, Bool.and_eq_true, decide_eq_true_eq] at hu ⊢
    exact ⟨⟨by omega, hu.1.2⟩, hu.2⟩
theorem up_mem {X : List Int} : ∀ {a : Int}, upI a X = true → ∀ x ∈ X, a < x ∧ x ≤ 65535 := by
  induction X with
  | nil => intro a _ x hx; simp at hx
  | cons y ys ih =>
    intro a hu x hx
    simp only [upI, Bool.and_eq_true, decide_eq_true_eq] at hu
    rcases List.mem_cons.1 hx with rfl | hx
    · exact hu.1
    · have := ih hu.2 x hx
      exact ⟨by omega, this.2⟩
theorem ins_len (X : List Int) (n : Int) : (insI X n).length = X.length + 1 := by
  induction X with
  | nil => rfl
  | cons x xs ih => unfold insI; split <;> simp [ih]
theorem ins_mem (X : List Int) (n x : Int) : x ∈ insI X n ↔ x = n ∨ x ∈ X := by
  induction X with
  | nil => simp [insI]
  | cons y ys ih =>
    unfold insI
    split
    · rw [List.mem_cons, ih, List.mem_cons]
      constructor
      · rintro (h | h | h) <;> simp [h]
      · rintro (h | h | h) <;> simp [h]
    · rw [List.mem_cons]
theorem ins_up {X : List Int} : ∀ {a n : Int}, upI a X = true → a < n → n ≤ 65535 → n ∉ X → upI a (insI X n) = true := by
  induction X with
  | nil => intro a n _ h1 h2 _; simp [insI, upI, h1, h2]
  | cons x xs ih =>
    intro a n hu h1 h2 hn
    simp only [upI, Bool.and_eq_true, decide_eq_true_eq] at hu
    simp only [List.mem_cons, not_or] at hn
    unfold insI
    split
    · next h => simp [upI, hu.1.1, hu.1.2, ih hu.2 h h2 hn.2]
    · next h =>
      have : n < x := by omega
      simp [upI, h1, h2, this, hu.1.2, hu.2]
theorem del_up {X : List Int} : ∀ {a n : Int}, upI a X = true → upI a (delI X n) = true := by
  induction X with
  | nil => intro a n _; rfl
  | cons x xs ih =>
    intro a n hu
    simp only [upI, Bool.and_eq_true, decide_eq_true_eq] at hu
    unfold delI
    rw [List.filter_cons]
    have h1 := ih (n := n) hu.2
    unfold delI at h1
    split
    · simp [upI, hu.1.1, hu.1.2, h1]
    · exact up_weak (by omega) h1
theorem del_mem (X : List Int) (n x : Int) : x ∈ delI X n ↔ x ∈ X ∧ x ≠ n := by simp [delI, List.mem_filter]
theorem del_id {X : List Int} {n : Int} (h : n ∉ X) : delI X n = X := by
  unfold delI
  rw [List.filter_eq_self]
  intro a ha
  simp only [bne_iff_ne, ne_eq]
  intro e
  exact h (e ▸ ha)
theorem del_ins {X : List Int} {n : Int} (h : n ∉ X) : delI (insI X n) n = X := by
  induction X with
  | nil => simp [insI, delI]
  | cons x xs ih =>
    simp only [List.mem_cons, not_or] at h
    have hx : (x != n) = true := by simp [Ne.symm h.1]
    unfold insI
    split
    · have := ih h.2
      unfold delI at this ⊢
      rw [List.filter_cons, if_pos hx, this]
    · have := del_id (X := x :: xs) (n := n) (by simp [h.1, h.2])
      unfold delI at this ⊢
      rw [List.filter_cons, if_neg (by simp), this]
theorem del_len (X : List Int) (n : Int) : (delI X n).length ≤ X.length := List.length_filter_le _ _
theorem del_lt (X : List Int) (n : Int) : (delI X n).length < X.length ↔ n ∈ X := by
  constructor
  · intro h
    exact Classical.byContradiction fun hn => by rw [del_id hn] at h; omega
  · intro h
    induction X with
    | nil => simp at h
    | cons x xs ih =>
      unfold delI
      rw [List.filter_cons]
      split
      · next hx =>
        have hx' : x ≠ n := by simpa using hx
        have : n ∈ xs := by rcases List.mem_cons.1 h with e | e; exact absurd e.symm hx'; exact e
        have := ih this
        unfold delI at this
        simp only [List.length_cons]
        omega
      · have := del_len xs n
        unfold delI at this
        simp only [List.length_cons]
        omega

/-- the identifier j steps behind n -/
def elI (n : Int) (j : Nat) : Int := (n - 1 + j) % 65535 + 1
theorem el_el (n : Int) (a b : Nat) : elI (elI n a) b = elI n (a + b) := by unfold elI; omega
theorem el_aft {n : Int} (h0 : 0 ≤ n) (h1 : n ≤ 65535) : aft n = elI n 1 := by unfold aft elI; split <;> omega
theorem el_zero {n : Int} (h0 : 1 ≤ n) (h1 : n ≤ 65535) : elI n 0 = n := by unfold elI; omega
theorem el_range (n : Int) (j : Nat) : 1 ≤ elI n j ∧ elI n j ≤ 65535 := by unfold elI; omega
theorem el_inj {n : Int} {a b : Nat} (ha : a < 65535) (hb : b < 65535) (h : elI n a = elI n b) : a = b := by unfold elI at h; omega
theorem aft_range {n : Int} (h0 : 0 ≤ n) (h1 : n ≤ 65535) : 1 ≤ aft n ∧ aft n ≤ 65535 := by unfold aft; split <;> omega
theorem inj_len {f : Nat → Int} : ∀ (m : Nat) (X : List Int), (∀ i j, i < m → j < m → f i = f j → i = j) → (∀ i, i < m → f i ∈ X) → m ≤ X.length := by
  intro m
  induction m with
  | zero => intro X _ _; omega
  | succ m ih =>
    intro X hi hm
    have h1 := hm m (by omega)
    have h2 := ih (X.erase (f m)) (fun i j a b h => hi i j (by omega) (by omega) h) (fun i h => by
      rw [List.mem_erase_of_ne]
      · exact hm i (by omega)
      · intro e
        have := hi i m (by omega) (by omega) e
        omega)
    rw [List.length_erase_of_mem h1] at h2
    have : 0 < X.length := List.length_pos_of_mem h1
    omega
/-- the search ends at an identifier that is not there, or behind as many steps as it may take -/
theorem tkF_el (X : List Int) : ∀ (k : Nat) (n : Int), 1 ≤ n → n ≤ 65535 → ∃ j, j ≤ k ∧ tkF k X n = elI n j ∧ (∀ i, i < j → elI n i ∈ X) ∧ (j < k → elI n j ∉ X) := by
  intro k
  induction k with
  | zero => intro n h1 h2; exact ⟨0, by omega, by rw [el_zero h1 h2]; rfl, fun i h => absurd h (by omega), fun h => absurd h (by omega)⟩
  | succ k ih =>
    intro n h1 h2
    unfold tkF
    by_cases h : n ∈ X
    · rw [if_pos h]
      have hr := aft_range (n := n) (by omega) h2
      obtain ⟨j, hj, e, ha, hb⟩ := ih (aft n) hr.1 hr.2
      rw [el_aft (by omega) h2] at e ha hb
      refine ⟨j + 1, by omega, by rw [el_aft (by omega) h2, e, el_el]; congr 1; omega, fun i hi => ?_, fun hlt => ?_⟩
      · cases i with
        | zero => rw [el_zero h1 h2]; exact h
        | succ i => have := ha i (by omega); rw [el_el] at this; rw [show i + 1 = 1 + i by omega]; exact this
      · have := hb (by omega)
        rw [el_el] at this
        rw [show j + 1 = 1 + j by omega]
        exact this
    · rw [if_neg h]
      exact ⟨0, by omega, (el_zero h1 h2).symm, fun i hi => absurd hi (by omega), fun _ => by rw [el_zero h1 h2]; exact h⟩
theorem tk_el {X : List Int} {L : Int} (hX : X.length < 32) (h0 : 0 ≤ L) (h1 : L ≤ 65535) : ∃ j, j < 32 ∧ tkI X L = elI L (1 + j) ∧ elI L (1 + j) ∉ X := by
  have hr := aft_range h0 h1
  obtain ⟨j, hj, e, ha, hb⟩ := tkF_el X 32 (aft L) hr.1 hr.2
  have h32 : j ≤ X.length := inj_len (f := fun i => elI (aft L) i) j X (fun a b h2 h3 h => el_inj (by omega) (by omega) h) ha
  have hb := hb (by omega)
  rw [el_aft h0 h1, el_el] at hb
  refine ⟨j, by omega, ?_, hb⟩
  unfold tkI
  rw [e, el_aft h0 h1, el_el]
theorem tk_new {X : List Int} {L : Int} (hX : X.length < 32) (h0 : 0 ≤ L) (h1 : L ≤ 65535) : tkI X L ∉ X := by
  obtain ⟨j, _, e, h⟩ := tk_el hX h0 h1
  rw [e]; exact h
theorem tk_range {X : List Int} {L : Int} (h0 : 0 ≤ L) (h1 : L ≤ 65535) : 1 ≤ tkI X L ∧ tkI X L ≤ 65535 := by
  have hr := aft_range h0 h1
  obtain ⟨j, _, e, _⟩ := tkF_el X 32 (aft L) hr.1 hr.2
  unfold tkI
  rw [e]
  exact el_range _ _
theorem ck_ok {X : List Int} {L : Int} : ckI X L = 0 ↔ X.length ≤ 32 ∧ upI 0 X = true ∧ 0 ≤ L ∧ L ≤ 65535 := by
  unfold ckI
  constructor
  · intro h
    split at h
    · simp at h
    · split at h
      · split at h
        · next h1 h2 h3 => exact ⟨by omega, h2, h3.1, h3.2⟩
        · simp at h
      · simp at h
  · rintro ⟨h1, h2, h3, h4⟩
    rw [if_neg (by omega), if_pos h2, if_pos ⟨h3, h4⟩]
end Go.Proofs.Ytbmeimpfehjnfaa.S2
