/-
  Pools of identifiers as lists of numbers: what Check, Take and Free answer, and what follows of it. No program is named here.
  Lists of numbers and pools in memory; the arithmetic of an int. No function of the program is walked here.
  Whole structs in blocks of their own: stored whole, in the order of the text. No function of the program is walked here.
  What the specification of the pools answers: Left, Has, Ints, after, Check. Conditions: the pool reads as data.
  What the specification of the pools answers where it makes lists: with, Free, Take; and its Check. Conditions: the pool reads as data; few elements.
  What the specification's Check of the pools answers. Conditions: the pool reads as data.
  What the specification's Take of the pools answers. Conditions: the pool reads as data, its last identifier is one or 0, few elements.
-/
import Derived.Test.YtjpikgphfhjilaaGreatDoorCell
import Derived.Deep.QuietTactic
import Derived.BigQuiet
import Derived.Deep.LoopGhost
import Derived.Deep.Light
import Derived.Laws.Rows
import Derived.RegionTactic
import Derived.ChangeAlike
import Derived.BigRegion
import Derived.Laws.CopyRow
import Derived.Deep.RegionHeld3
namespace Go.Proofs.YtjpikgphfhjilaaGreatDoor.S2

/-- the numbers ascend from a on, up to 65535 -/
def upI : Int → List Int → Bool
  | _, [] => true
  | a, x :: xs => decide (a < x) && decide (x ≤ 65535) && upI x xs
/-- the first error of a pool -/
def ckI (X : List Int) (L : Int) : Int :=
  if 32 < X.length then 5 else if upI 0 X then (if 0 ≤ L ∧ L ≤ 65535 then 0 else 1) else 15
def aft (n : Int) : Int := if 65535 ≤ n then 1 else n + 1
def tkF : Nat → List Int → Int → Int
  | 0, _, n => n
  | k + 1, X, n => if n ∈ X then tkF k X (aft n) else n
def tkI (X : List Int) (L : Int) : Int := tkF 32 X (aft L)
def insI : List Int → Int → List Int
  | [], n => [n]
  | x :: xs, n => if x < n then x :: insI xs n else n :: x :: xs
def delI (X : List Int) (n : Int) : List Int := X.filter (fun x => x != n)

theorem up_weak {X : List Int} : ∀ {a b : Int}, a ≤ b → upI b X = true → upI a X = true := by
  intro a b h hu
  cases X with
  | nil => rfl
  | cons x xs =>
    simp only [upI, Bool.and_eq_true, decide_eq_true_eq] at hu ⊢
    exact ⟨⟨by omega, hu.1.2⟩, hu.2⟩
theorem up_mem {X : List Int} : ∀ {a : Int}, upI a X = true → ∀ x ∈ X, a < x ∧ x ≤ 65535 := by
  induction X with
  | nil => intro a _ x hx; simp at hx
  | cons y ys ih =>
    intro a hu x hx
    simp only [upI, Bool.and_eq_true, decide_eq_true_eq] at hu
    rcases List.mem_cons.1 hx with rfl | hx
    · exact hu.1
    · have := ih hu.2 x hx
      exact ⟨by omega, this.2⟩
theorem ins_len (X : List Int) (n : Int) : (insI X n).length = X.length + 1 := by
  induction X with
  | nil => rfl
  | cons x xs ih => unfold insI; split <;> simp [ih]
theorem ins_mem (X : List Int) (n x : Int) : x ∈ insI X n ↔ x = n ∨ x ∈ X := by
  induction X with
  | nil => simp [insI]
  | cons y ys ih =>
    unfold insI
    split
    · rw [List.mem_cons, ih, List.mem_cons]
      constructor
      · rintro (h | h | h) <;> simp [h]
      · rintro (h | h | h) <;> simp [h]
    · rw [List.mem_cons]
theorem ins_up {X : List Int} : ∀ {a n : Int}, upI a X = true → a < n → n ≤ 65535 → n ∉ X → upI a (insI X n) = true := by
  induction X with
  | nil => intro a n _ h1 h2 _; simp [insI, upI, h1, h2]
  | cons x xs ih =>
    intro a n hu h1 h2 hn
    simp only [upI, Bool.and_eq_true, decide_eq_true_eq] at hu
    simp only [List.mem_cons, not_or] at hn
    unfold insI
    split
    · next h => simp [upI, hu.1.1, hu.1.2, ih hu.2 h h2 hn.2]
    · next h =>
      have : n < x := by omega
      simp [upI, h1, h2, this, hu.1.2, hu.2]
theorem del_up {X : List Int} : ∀ {a n : Int}, upI a X = true → upI a (delI X n) = true := by
  induction X with
  | nil => intro a n _; rfl
  | cons x xs ih =>
    intro a n hu
    simp only [upI, Bool.and_eq_true, decide_eq_true_eq] at hu
    unfold delI
    rw [List.filter_cons]
    have h1 := ih (n := n) hu.2
    unfold delI at h1
    split
    · simp [upI, hu.1.1, hu.1.2, h1]
    · exact up_weak (by omega) h1
theorem del_mem (X : List Int) (n x : Int) : x ∈ delI X n ↔ x ∈ X ∧ x ≠ n := by simp [delI, List.mem_filter]
theorem del_id {X : List Int} {n : Int} (h : n ∉ X) : delI X n = X := by
  unfold delI
  rw [List.filter_eq_self]
  intro a ha
  simp only [bne_iff_ne, ne_eq]
  intro e
  exact h (e ▸ ha)
theorem del_ins {X : List Int} {n : Int} (h : n ∉ X) : delI (insI X n) n = X := by
  induction X with
  | nil => simp [insI, delI]
  | cons x xs ih =>
    simp only [List.mem_cons, not_or] at h
    have hx : (x != n) = true := by simp [Ne.symm h.1]
    unfold insI
    split
    · have := ih h.2
      unfold delI at this ⊢
      rw [List.filter_cons, if_pos hx, this]
    · have := del_id (X := x :: xs) (n := n) (by simp [h.1, h.2])
      unfold delI at this ⊢
      rw [List.filter_cons, if_neg (by simp), this]
theorem del_len (X : List Int) (n : Int) : (delI X n).length ≤ X.length := List.length_filter_le _ _
theorem del_lt (X : List Int) (n : Int) : (delI X n).length < X.length ↔ n ∈ X := by
  constructor
  · intro h
    exact Classical.byContradiction fun hn => by rw [del_id hn] at h; omega
  · intro h
    induction X with
    | nil => simp at h
    | cons x xs ih =>
      unfold delI
      rw [List.filter_cons]
      split
      · next hx =>
        have hx' : x ≠ n := by simpa using hx
        have : n ∈ xs := by rcases List.mem_cons.1 h with e | e; exact absurd e.symm hx'; exact e
        have := ih this
        unfold delI at this
        simp only [List.length_cons]
        omega
      · have := del_len xs n
        unfold delI at this
        simp only [List.length_cons]
        omega

/-- the identifier j steps behind n -/
def elI (n : Int) (j : Nat) : Int := (n - 1 + j) % 65535 + 1
theorem el_el (n : Int) (a b : Nat) : elI (elI n a) b = elI n (a + b) := by unfold elI; omega
theorem el_aft {n : Int} (h0 : 0 ≤ n) (h1 : n ≤ 65535) : aft n = elI n 1 := by unfold aft elI; split <;> omega
theorem el_zero {n : Int} (h0 : 1 ≤ n) (h1 : n ≤ 65535) : elI n 0 = n := by unfold elI; omega
theorem el_range (n : Int) (j : Nat) : 1 ≤ elI n j ∧ elI n j ≤ 65535 := by unfold elI; omega
theorem el_inj {n : Int} {a b : Nat} (ha : a < 65535) (hb : b < 65535) (h : elI n a = elI n b) : a = b := by unfold elI at h; omega
theorem aft_range {n : Int} (h0 : 0 ≤ n) (h1 : n ≤ 65535) : 1 ≤ aft n ∧ aft n ≤ 65535 := by unfold aft; split <;> omega
theorem inj_len {f : Nat → Int} : ∀ (m : Nat) (X : List Int), (∀ i j, i < m → j < m → f i = f j → i = j) → (∀ i, i < m → f i ∈ X) → m ≤ X.length := by
  intro m
  induction m with
  | zero => intro X _ _; omega
  | succ m ih =>
    intro X hi hm
    have h1 := hm m (by omega)
    have h2 := ih (X.erase (f m)) (fun i j a b h => hi i j (by omega) (by omega) h) (fun i h => by
      rw [List.mem_erase_of_ne]
      · exact hm i (by omega)
      · intro e
        have := hi i m (by omega) (by omega) e
        omega)
    rw [List.length_erase_of_mem h1] at h2
    have : 0 < X.length := List.length_pos_of_mem h1
    omega
/-- the search ends at an identifier that is not there, or behind as many steps as it may take -/
theorem tkF_el (X : List Int) : ∀ (k : Nat) (n : Int), 1 ≤ n → n ≤ 65535 → ∃ j, j ≤ k ∧ tkF k X n = elI n j ∧ (∀ i, i < j → elI n i ∈ X) ∧ (j < k → elI n j ∉ X) := by
  intro k
  induction k with
  | zero => intro n h1 h2; exact ⟨0, by omega, by rw [el_zero h1 h2]; rfl, fun i h => absurd h (by omega), fun h => absurd h (by omega)⟩
  | succ k ih =>
    intro n h1 h2
    unfold tkF
    by_cases h : n ∈ X
    · rw [if_pos h]
      have hr := aft_range (n := n) (by omega) h2
      obtain ⟨j, hj, e, ha, hb⟩ := ih (aft n) hr.1 hr.2
      rw [el_aft (by omega) h2] at e ha hb
      refine ⟨j + 1, by omega, by rw [el_aft (by omega) h2, e, el_el]; congr 1; omega, fun i hi => ?_, fun hlt => ?_⟩
      · cases i with
        | zero => rw [el_zero h1 h2]; exact h
        | succ i => have := ha i (by omega); rw [el_el] at this; rw [show i + 1 = 1 + i by omega]; exact this
      · have := hb (by omega)
        rw [el_el] at this
        rw [show j + 1 = 1 + j by omega]
        exact this
    · rw [if_neg h]
      exact ⟨0, by omega, (el_zero h1 h2).symm, fun i hi => absurd hi (by omega), fun _ => by rw [el_zero h1 h2]; exact h⟩
theorem tk_el {X : List Int} {L : Int} (hX : X.length < 32) (h0 : 0 ≤ L) (h1 : L ≤ 65535) : ∃ j, j < 32 ∧ tkI X L = elI L (1 + j) ∧ elI L (1 + j) ∉ X := by
  have hr := aft_range h0 h1
  obtain ⟨j, hj, e, ha, hb⟩ := tkF_el X 32 (aft L) hr.1 hr.2
  have h32 : j ≤ X.length := inj_len (f := fun i => elI (aft L) i) j X (fun a b h2 h3 h => el_inj (by omega) (by omega) h) ha
  have hb := hb (by omega)
  rw [el_aft h0 h1, el_el] at hb
  refine ⟨j, by omega, ?_, hb⟩
  unfold tkI
  rw [e, el_aft h0 h1, el_el]
theorem tk_new {X : List Int} {L : Int} (hX : X.length < 32) (h0 : 0 ≤ L) (h1 : L ≤ 65535) : tkI X L ∉ X := by
  obtain ⟨j, _, e, h⟩ := tk_el hX h0 h1
  rw [e]; exact h
theorem tk_range {X : List Int} {L : Int} (h0 : 0 ≤ L) (h1 : L ≤ 65535) : 1 ≤ tkI X L ∧ tkI X L ≤ 65535 := by
  have hr := aft_range h0 h1
  obtain ⟨j, _, e, _⟩ := tkF_el X 32 (aft L) hr.1 hr.2
  unfold tkI
  rw [e]
  exact el_range _ _
theorem ck_ok {X : List Int} {L : Int} : ckI X L = 0 ↔ X.length ≤ 32 ∧ upI 0 X = true ∧ 0 ≤ L ∧ L ≤ 65535 := by
  unfold ckI
  constructor
  · intro h
    split at h
    · simp at h
    · split at h
      · split at h
        · next h1 h2 h3 => exact ⟨by omega, h2, h3.1, h3.2⟩
        · simp at h
      · simp at h
  · rintro ⟨h1, h2, h3, h4⟩
    rw [if_neg (by omega), if_pos h2, if_pos ⟨h3, h4⟩]
end Go.Proofs.YtjpikgphfhjilaaGreatDoor.S2
namespace Go.Proofs.YtjpikgphfhjilaaGreatDoor.S2
open Go.RowKit

theorem ret_i {k : IntKind} {a b : Int} (h : a = b) : Ending.returned (.int k a) = .returned (.int k b) := by rw [h]
theorem wrap64_id (m : Int) (h1 : -9223372036854775808 ≤ m) (h2 : m ≤ 9223372036854775807) : wrap64 m = m := by
  unfold wrap64
  omega
theorem wrap_i64_id (m : Int) (h1 : -9223372036854775808 ≤ m) (h2 : m ≤ 9223372036854775807) : IntKind.i64.wrap m = m := by rw [IntKind.wrap_i64]; omega
theorem nxt (k : Nat) (h : k ≤ 9223372036854775806) : Value.int .i64 (wrap64 ((k : Int) + 1)) = .int .i64 ((k + 1 : Nat) : Int) := by rw [wrap64_id _ (by omega) (by omega)]; rfl
theorem bDN (w : World) (n : Nat) : Below w.heap.size w (w.drewN n) := ⟨rfl, rfl, rfl, Nat.le_refl _, fun _ _ => rfl⟩
theorem below_box {B : Nat} {w w' : World} (h : Below B w w') (o : Obj) (hB : B ≤ w'.heap.size) : Below B w (w'.alloc o) := h.alloc hB o

/-- block M holds these cells, as a variable of type T -/
def BK (T : TypeId) (w : World) (M : Nat) (vs : List Value) : Prop := w.heap[M]? = some (.cells vs.toArray T (0, 0))
section
variable {T : TypeId} {w w' : World} {M : Nat} {vs : List Value}
theorem BK.cell (h : BK T w M vs) (j : Nat) {v : Value} (hv : vs[j]? = some v) : w.cell? ⟨M, j, none⟩ = some v := by unfold BK at h; simp [World.cell?, h, hv]
theorem BK.lt (h : BK T w M vs) : M < w.heap.size := (Array.getElem?_eq_some_iff.1 h).1
theorem BK.free (h : BK T w M vs) (j : Nat) : w.frozen? ⟨M, j, none⟩ = false := frozen_of_row w M j vs.toArray T h
theorem BK.set (h : BK T w M vs) (j : Nat) (u : Value) : BK T (w.setCell ⟨M, j, none⟩ u) M (vs.set j u) := by
  have := heap_setCell_same w M j vs.toArray T u h
  unfold BK
  rw [this]
  simp
theorem BK.other (h : BK T w M vs) {p : Addr} (hp : M ≠ p.block) (u : Value) : BK T (w.setCell p u) M vs := (heap_setCell_other w p M u hp).trans h
theorem BK.keep {B : Nat} (h : BK T w M vs) (hM : M < B) (hb : Below B w w') : BK T w' M vs := (hb.block _ hM).trans h
theorem BK.step (h : BK T w M vs) (hb : Below w.heap.size w w') : BK T w' M vs := h.keep h.lt hb
theorem BK.alloc (h : BK T w M vs) (o : Obj) : BK T (w.alloc o) M vs := (heap_alloc_old w o h.lt).trans h
theorem BK.drew (h : BK T w M vs) : BK T w.drew M vs := h
theorem BK.new (w : World) (T : TypeId) (vs : List Value) : BK T (w.alloc (.cells vs.toArray T)) w.heap.size vs := heap_alloc_new w _
end
theorem set_other (w : World) (b j : Nat) (v : Value) (p : Addr) (h : p.block ≠ b) : (w.setCell ⟨b, j, none⟩ v).cell? p = w.cell? p :=
  World.cell?_setCell_other (h := fun e => h (by rw [← e])) ..
/-- an own list lies behind what was there -/
theorem _root_.Go.Proofs.YtjpikgphfhjilaaGreatDoor.Own.retB {α : Type} {f : α → Value} {e : TypeId} {w : World} {B : Nat} {v : Value} {xs : List α} (h : Own e f w B v xs) : ∃ A c, v = .slice A xs.length c ∧ xs.length ≤ c ∧
    (∀ w', w.heap.size ≤ w'.heap.size → (∀ p : Addr, B ≤ p.block → w'.cell? p = w.cell? p) → CL f w' w'.heap.size A xs) ∧ ∀ b o, A = some ⟨b, o, none⟩ → B ≤ b := by
  unfold Own at h
  rcases h.2 with ⟨rfl, hn⟩ | ⟨g, cap, cur, rfl, hb, hg, hnc, hcm, hcs, htake⟩
  · have : xs = [] := List.eq_nil_of_length_eq_zero hn
    subst this
    exact ⟨none, 0, rfl, Nat.le_refl _, fun w' _ _ => CL.nil _ _ _, fun b o e => by simp at e⟩
  · refine ⟨_, cap, rfl, hnc, fun w' hs hk _ => ⟨g, 0, rfl, Nat.lt_of_lt_of_le (Array.getElem?_eq_some_iff.1 hg).1 hs, fun j x hx => ?_⟩, fun b o e => by
      simp only [Option.some.injEq, Addr.mk.injEq, and_true] at e
      omega⟩
    have hj : j < xs.length := (List.getElem?_eq_some_iff.1 hx).1
    rw [Nat.zero_add, hk ⟨g, j, none⟩ hb, h.cellAt j (by omega), List.getElem?_map, hx]; rfl
section
variable {P : Program}
/-- a struct of its own block is loaded whole -/
theorem run_load_all {w : World} {g : Nat} {t ty : TypeId} {vs : List Value} {d : TypeDesc} (h : BK t w g vs)
    (hu : P.underlying ty = some d) (hd : (match d with | .struct _ | .array _ _ => true | _ => false) = true) (hi : (P.info? ty).map (·.size) = some vs.length) :
    (loadVar ty ⟨g, 0, none⟩).run P w = .ok (.agg vs.toArray) w := by
  have hl : (loadCells ⟨g, 0, none⟩ vs.length).run P w = .ok vs.toArray w :=
    run_loadCells_list (P := P) w ⟨g, 0, none⟩ vs (fun j v hv => by
      have hadd : (⟨g, 0, none⟩ : Addr).add j = ⟨g, 0 + j, none⟩ := by unfold Addr.add; split <;> simp_all
      rw [hadd, cell_of_row w g (0 + j) vs.toArray t (0, 0) h]
      simpa using hv)
  cases hq : P.info? ty with
  | none => simp [hq] at hi
  | some i =>
    have hs : i.size = vs.length := by simpa [hq] using hi
    have hagg : (isAgg ty).run P w = .ok true w := by
      unfold isAgg
      rw [Sem.run_bind, run_underlying hu w]
      cases d <;> simp_all
    simp [loadVar, Sem.run_bind, hagg, sizeOf, typeInfo, hq, hs, hl]
theorem exec_load {o : Oper} {ev : Operand → Value} {w : World} (ty : TypeId) (x : Operand) (ho : o.op = .load ty x) (p : Addr) (hx : ev x = .pointer (some p)) (v : Value) (h : (loadVar ty p).run P w = .ok v w) :
    (execOp ev o).run P w = .ok (.value v) w := by
  unfold execOp
  simp only [ho, hx, Instr.loadAt, Instr.sureAddr, Sem.run_bind, Sem.run_pure, Result.andThen_ok, h]
end
theorem get_ops (l : List Oper) (i : Nat) (o : Oper) (h : l[i]? = some o) : l.toArray[i]? = some o := by simpa using h
/-- two variables laid one behind the other -/
theorem two_laid {T1 T2 : TypeId} {w w1 : World} {v1 v2 : List Value} (h : w1 = (w.alloc (.cells v1.toArray T1)).alloc (.cells v2.toArray T2)) :
    BK T1 w1 w.heap.size v1 ∧ BK T2 w1 (w.heap.size + 1) v2 ∧ w1.heap.size = w.heap.size + 2 ∧ Below w.heap.size w w1 := by
  subst h
  have e : (w.alloc (.cells v1.toArray T1)).heap.size = w.heap.size + 1 := by simp
  refine ⟨(BK.new w T1 v1).alloc _, ?_, by simp, stepB ((Below.refl _ _).alloc (Nat.le_refl _) _) ((Below.refl _ _).alloc (Nat.le_refl _) _)⟩
  have := BK.new (w.alloc (.cells v1.toArray T1)) T2 v2
  rwa [e] at this

/-- a number as a value -/
def iv (x : Int) : Value := .int .i64 x
theorem iv_one (x : Int) : (iv x).oneCell' = true := rfl
/-- a list that a call answers lies in memory of its own, or is the argument's -/
def Fr {α : Type} (W : World) (A : Option Addr) (X : List α) (A' : Option Addr) (X' : List α) : Prop := X' = [] ∨ (A' = A ∧ (X = [] → X' = [])) ∨ ∀ b o, A' = some ⟨b, o, none⟩ → W.heap.size ≤ b
abbrev IL (w : World) (B : Nat) (A : Option Addr) (X : List Int) : Prop := CL iv w B A X
theorem IL.at_ {w : World} {B : Nat} {A : Option Addr} {X : List Int} (h : IL w B A X) {k : Nat} {x : Int} (hx : X[k]? = some x) : ∃ b o, A = some ⟨b, o, none⟩ ∧ b < B ∧ w.cell? ⟨b, o + k, none⟩ = some (.int .i64 x) := by
  obtain ⟨b, o, e, hb, hc⟩ := h (by have := (List.getElem?_eq_some_iff.1 hx).1; omega)
  exact ⟨b, o, e, hb, hc k x hx⟩
theorem dropI {X : List Int} {k : Nat} {x : Int} (hx : X[k]? = some x) : X.drop k = x :: X.drop (k + 1) := by
  obtain ⟨h, rfl⟩ := List.getElem?_eq_some_iff.1 hx
  exact List.drop_eq_getElem_cons h

end Go.Proofs.YtjpikgphfhjilaaGreatDoor.S2
namespace Go.Proofs.YtjpikgphfhjilaaGreatDoor.S2
open Go.RowKit

section
variable {P : Program}
theorem run_store_all (w : World) (g : Nat) (T ty : TypeId) (vs cs : List Value) (v : Value) (hv : v.cells = cs.toArray) (hi : (P.info? ty).map (·.size) = some cs.length)
    (hg : BK T w g vs) (hf : cs.length = vs.length) (h1 : ∀ u ∈ cs, u.oneCell' = true) :
    (storeVar ty ⟨g, 0, none⟩ v).run P w = .ok () (w.setRow g cs.toArray) := by
  have hst := run_storeCells_at (P := P) g 0 T cs 0 vs.toArray w hg (by simp; omega) h1
  simp only [Nat.add_zero, List.take_zero, List.nil_append, Nat.zero_add] at hst
  cases hq : P.info? ty with
  | none => simp [hq] at hi
  | some i =>
    have hs : i.size = cs.length := by simpa [hq] using hi
    unfold storeVar
    simp [Sem.run_bind, sizeOf, typeInfo, hq, hs, hv, hst, hf]
theorem BK.put {T : TypeId} {w : World} {g : Nat} {vs : List Value} (h : BK T w g vs) (cs : List Value) : BK T (w.setRow g cs.toArray) g cs := setRow_heap w g _ _ T _ h
theorem BK.past {T : TypeId} {w : World} {M g : Nat} {vs : List Value} (h : BK T w M vs) (hne : M ≠ g) (cs : Array Value) : BK T (w.setRow g cs) M vs := (setRow_other w g M cs hne).trans h
theorem below_put {B : Nat} {w0 w : World} (h : Below B w0 w) {g : Nat} (hg : B ≤ g) (cs : Array Value) : Below B w0 (w.setRow g cs) :=
  ⟨h.os, h.tape, h.output, by simpa using h.size, fun k hk => (setRow_other w g k cs (by omega)).trans (h.block k hk)⟩
/-- what a whole store into block g leaves -/
structure Put (g : Nat) (w w' : World) : Prop where
  other : ∀ {M : Nat} {T : TypeId} {vs : List Value}, BK T w M vs → M ≠ g → BK T w' M vs
  below : ∀ {B : Nat} {w0 : World}, Below B w0 w → B ≤ g → Below B w0 w'
  size : w'.heap.size = w.heap.size
  cell : ∀ {p : Addr}, p.block ≠ g → w'.cell? p = w.cell? p
theorem put_row (w : World) (g : Nat) (cs : Array Value) : Put g w (w.setRow g cs) :=
  ⟨fun h hne => h.past hne cs, fun h hg => below_put h hg cs, by simp, fun {p} hp => World.cell?_of_block (setRow_other w g p.block cs hp)⟩
theorem wp_store {o : Oper} {a : Act} {w : World} {K : Act → World → Prop} {Q : Exit → Act → World → Prop} (ty : TypeId) (x y : Operand) (ho : o.op = .store ty x y) (hd : o.dst = none) (p : Addr) (hx : a.eval x = .pointer (some p))
    (v : Value) (hy : a.eval y = v) (w' : World) (h : (storeVar ty p v).run P w = .ok () w') (hk : K a w') : o.wp P a w K Q := by
  unfold Oper.wp execOp
  simp only [ho, hx, hy, Instr.storeAt, Instr.sureAddr, Sem.run_bind, Sem.run_pure, Result.andThen_ok, h]
  unfold Oper.upon
  rw [hd]
  exact hk
theorem wpList_wanted {ops : Array Oper} {rest : List Oper} {o : Oper} {a : Act} {w : World} {Q : Exit → Act → World → Prop} (hg : Region.wanted o (yielded ops a.tmps) = true)
    (h : ∀ K : Act → World → Prop, (∀ a w, wpList P ops Q rest a w → K a w) → o.wp P a w K Q) : wpList P ops Q (o :: rest) a w :=
  wpList_step fun K hK => by rw [if_pos hg]; exact h K hK
theorem wp_store_all {o : Oper} {a : Act} {w : World} {K : Act → World → Prop} {Q : Exit → Act → World → Prop} (ty : TypeId) (x y : Operand) (ho : o.op = .store ty x y) (hd : o.dst = none) (g : Nat) (hx : a.eval x = .pointer (some ⟨g, 0, none⟩))
    (cs : List Value) (hy : a.eval y = .agg cs.toArray) (T : TypeId) (vs : List Value) (hM : BK T w g vs) (hi : (P.info? ty).map (·.size) = some cs.length) (hf : cs.length = vs.length) (h1 : ∀ u ∈ cs, u.oneCell' = true)
    (h : ∀ w', BK T w' g cs → Put g w w' → K a w') : o.wp P a w K Q :=
  wp_store ty x y ho hd _ hx _ hy _ (run_store_all w g T ty vs cs _ rfl hi hM hf h1) (h _ (hM.put cs) (put_row w g _))
theorem wpList_store_all {ops : Array Oper} {rest : List Oper} {o : Oper} {a : Act} {w : World} {Q : Exit → Act → World → Prop} (hgd : Region.wanted o (yielded ops a.tmps) = true) (ty : TypeId) (x y : Operand) (ho : o.op = .store ty x y) (hd : o.dst = none) (g : Nat) (hx : a.eval x = .pointer (some ⟨g, 0, none⟩))
    (cs : List Value) (hy : a.eval y = .agg cs.toArray) (T : TypeId) (vs : List Value) (hM : BK T w g vs) (hi : (P.info? ty).map (·.size) = some cs.length) (hf : cs.length = vs.length) (h1 : ∀ u ∈ cs, u.oneCell' = true)
    (h : ∀ w', BK T w' g cs → Put g w w' → wpList P ops Q rest a w') : wpList P ops Q (o :: rest) a w :=
  wpList_wanted hgd fun _ hK => wp_store_all ty x y ho hd g hx cs hy T vs hM hi hf h1 (fun w' h2 h3 => hK _ _ (h w' h2 h3))
end
/-- the results: a struct in a block of its own, and a value -/
theorem res_cell_tmp {P : Program} {fn : Func} {p q : Tmp} {ty : TypeId} (h : fn.results = #[.cell p ty, .tmp q]) (tmps : Array Value) (w : World) (g : Nat) (t : TypeId) (vs : List Value) (d : TypeDesc) (v : Value)
    (hp : tmps.getD p undef = .pointer (some ⟨g, 0, none⟩)) (hq : tmps.getD q undef = v) (hg : BK t w g vs)
    (hu : P.underlying ty = some d) (hd : (match d with | .struct _ | .array _ _ => true | _ => false) = true) (hi : (P.info? ty).map (·.size) = some vs.length) :
    (results fn tmps).run P w = .ok (.tuple #[.agg vs.toArray, v]) w := by
  have hp' : tmps[p]?.getD undef = .pointer (some ⟨g, 0, none⟩) := by simpa using hp
  have hq' : tmps[q]?.getD undef = v := by simpa using hq
  simp [results, h, hp', hq', asAddr, run_load_all hg hu hd hi]
theorem res_cell {P : Program} {fn : Func} {p : Tmp} {ty : TypeId} (h : fn.results = #[.cell p ty]) (tmps : Array Value) (w : World) (g : Nat) (t : TypeId) (vs : List Value) (d : TypeDesc)
    (hp : tmps.getD p undef = .pointer (some ⟨g, 0, none⟩)) (hg : BK t w g vs)
    (hu : P.underlying ty = some d) (hd : (match d with | .struct _ | .array _ _ => true | _ => false) = true) (hi : (P.info? ty).map (·.size) = some vs.length) :
    (results fn tmps).run P w = .ok (.agg vs.toArray) w := by
  have hp' : tmps[p]?.getD undef = .pointer (some ⟨g, 0, none⟩) := by simpa using hp
  simp [results, h, hp', asAddr, run_load_all hg hu hd hi]
theorem below_new (w : World) (o : Obj) : Below w.heap.size w (w.alloc o) := (Below.refl _ _).alloc (Nat.le_refl _) _
theorem all_one {vs : List Value} (h : vs.all (fun v => v.oneCell') = true) : ∀ u ∈ vs, u.oneCell' = true := fun u hu => List.all_eq_true.1 h u hu
/-- a list stays behind a store elsewhere -/
theorem IL.put {w w' : World} {g : Nat} {A : Option Addr} {X : List Int} (h : IL w w.heap.size A X) (hp : Put g w w') (hne : ∀ b o, A = some ⟨b, o, none⟩ → 0 < X.length → b ≠ g) : IL w' w'.heap.size A X := fun hn => by
  obtain ⟨b, o, e, hb, hc⟩ := h hn
  exact ⟨b, o, e, by rw [hp.size]; exact hb, fun j x hx => (hp.cell (p := ⟨b, o + j, none⟩) (hne b o e hn)).trans (hc j x hx)⟩
theorem IL.lt {w : World} {A : Option Addr} {X : List Int} (h : IL w w.heap.size A X) (b o : Nat) (e : A = some ⟨b, o, none⟩) (hn : 0 < X.length) : b < w.heap.size := by
  obtain ⟨b', o', e', hb, _⟩ := h hn
  rw [e] at e'
  simp only [Option.some.injEq, Addr.mk.injEq, and_true] at e'
  omega
/-- a list beside block g -/
def Off (g : Nat) (A : Option Addr) (X : List Int) : Prop := ∀ b o, A = some ⟨b, o, none⟩ → 0 < X.length → b ≠ g
theorem Off.fr {g : Nat} {W : World} {A A' : Option Addr} {X X' : List Int} (h : Off g A X) (hf : Fr W A X A' X') (hg : g < W.heap.size) : Off g A' X' := fun b o e hn => by
  rcases hf with rfl | ⟨rfl, hX⟩ | hf
  · simp at hn
  · refine h b o e ?_
    rcases Nat.eq_zero_or_pos X.length with h0 | h0
    · have := hX (List.eq_nil_of_length_eq_zero h0)
      subst this
      simp at hn
    · exact h0
  · have := hf b o e
    omega
theorem Off.lt {w : World} {A : Option Addr} {X : List Int} {g : Nat} (h : IL w w.heap.size A X) (hg : w.heap.size ≤ g) : Off g A X := fun b o e hn => by
  have := IL.lt h b o e hn
  omega
theorem infoP2 : (Tryz.prog.info? 25).map (·.size) = some 2 := by kernel_rfl
end Go.Proofs.YtjpikgphfhjilaaGreatDoor.S2
namespace Go.Proofs.YtjpikgphfhjilaaGreatDoor.S2
open Go.RowKit

/-- a pool by value -/
abbrev pv (A : Option Addr) (c : Nat) (X : List Int) (L : Int) : Value := .agg #[.slice A X.length c, .int .i64 L]

set_option maxHeartbeats 1000000 in
theorem rAfter_any (n : Int) (h1 : 0 ≤ n) (h2 : n ≤ 65535) (w : World) :
    Calls Tryz.prog 53 #[.int .i64 n] w fun e w' => e = .returned (.int .i64 (aft n)) ∧ w = w' := by
  by_cases h : 65535 ≤ n
  · have e : aft n = 1 := by unfold aft; rw [if_pos h]
    rw [e]
    have hd : decide (65535 ≤ n) = true := decide_eq_true h
    clear e h
    go_enter Tryz.func53, Tryz.ntmps53
    go_wp2
    go_ret
    exact ⟨rfl, rfl⟩
  · have e : aft n = n + 1 := by unfold aft; rw [if_neg h]
    have hw : wrap64 (n + 1) = n + 1 := wrap64_id _ (by omega) (by omega)
    rw [e]
    have hd : decide (65535 ≤ n) = false := decide_eq_false h
    clear e h
    go_enter Tryz.func53, Tryz.ntmps53
    go_wp2
    go_ret
    exact ⟨ret_i (by first | rfl | exact hw), rfl⟩

set_option maxRecDepth 20000 in
set_option maxHeartbeats 2000000 in
theorem rHas_any (A : Option Addr) (c : Nat) (X : List Int) (L n : Int) (w : World) (hsl : IL w w.heap.size A X) (hX : X.length ≤ 9223372036854775807) :
    Calls Tryz.prog 32 #[pv A c X L, .int .i64 n] w fun e w' => e = .returned (.bool (decide (n ∈ X))) ∧ Below w.heap.size w w' := by
  have HS := Lib.hid hsl
  obtain ⟨R, hR⟩ : ∃ R, decide (n ∈ X) = R := ⟨_, rfl⟩
  rw [hR]
  have HR := Lib.hid hR
  clear hsl hR
  go_enter Tryz.func32, Tryz.ntmps32
  go_wp2
  go_loopg [5] X.length (fun g v wr => ∃ k : Nat, k + g = X.length ∧ v = .int .i64 k ∧ R = decide (n ∈ X.drop k) ∧ wr = w.alloc (.cells #[.slice A X.length c, .int .i64 L] 25))
  case atStart => exact ⟨0, by omega, rfl, by rw [List.drop_zero]; exact HR.out.symm, rfl⟩
  case round =>
    obtain ⟨k, hkg, rfl, hrel, rfl⟩ := hrel
    have HREL := Lib.hid hrel
    have HG := Lib.hid hkg
    clear hrel HR
    cases gk with
    | zero =>
      obtain rfl : k = X.length := by omega
      have HF : Hid (R = false) := Lib.hid (by rw [HREL.out]; simp)
      clear hkg
      go_wp2
      go_ret
      exact ⟨retb HF.out.symm, (Below.refl _ _).alloc (Nat.le_refl _) _⟩
    | succ g =>
      have hlt : k < X.length := by omega
      have e3 : decide ((k : Int) < (X.length : Int)) = true := decide_eq_true (by omega)
      obtain ⟨x, hx⟩ : ∃ x, X[k]? = some x := ⟨_, List.getElem?_eq_getElem hlt⟩
      obtain ⟨b, o, hA, hbB, kv⟩ := IL.at_ HS.out hx
      have kv2 : (w.alloc (.cells #[.slice A X.length c, .int .i64 L] 25)).cell? ⟨b, o + k, none⟩ = some (.int .i64 x) := by rw [((Below.refl w.heap.size w).alloc (Nat.le_refl _) _).cell hbB]; exact kv
      subst hA
      have j1 : (0 : Int) ≤ (k : Int) := by omega
      have j2 : (k : Int) < (X.length : Int) := by omega
      have HD := Lib.hid (dropI hx)
      clear hx hkg kv hlt hbB
      by_cases hxn : x = n
      · have hb : (x == n) = true := by simp [hxn]
        have HF : Hid (R = true) := Lib.hid (by rw [HREL.out, HD.out, hxn]; simp)
        clear hxn
        go_wp2
        go_ret
        exact ⟨retb HF.out.symm, (Below.refl _ _).alloc (Nat.le_refl _) _⟩
      · have hb : (x == n) = false := by simp [hxn]
        have HF : Hid (R = decide (n ∈ X.drop (k + 1))) := Lib.hid (by
          rw [HREL.out, HD.out]
          have : n ≠ x := fun e => hxn e.symm
          simp [this])
        clear hxn
        go_wp2
        go_roundg g
        case measure => omega
        case rel => exact ⟨k + 1, by have := HG.out; omega, rfl, HF.out, rfl⟩

theorem ints_none {X Y : List Int} (h : X.length ≠ Y.length) : decide (X = Y) = false := decide_eq_false (fun e => h (by rw [e]))
set_option maxRecDepth 20000 in
set_option maxHeartbeats 2000000 in
theorem rInts_any (A A' : Option Addr) (c c' : Nat) (X Y : List Int) (w : World) (hs : IL w w.heap.size A X) (ht : IL w w.heap.size A' Y) (hX : X.length ≤ 9223372036854775807) (_hY : Y.length ≤ 9223372036854775807) :
    Calls Tryz.prog 55 #[.slice A X.length c, .slice A' Y.length c'] w fun e w' => e = .returned (.bool (decide (X = Y))) ∧ Below w.heap.size w w' := by
  by_cases hl : X.length = Y.length
  · have HS := Lib.hid hs
    have HT := Lib.hid ht
    obtain ⟨R, hR⟩ : ∃ R, decide (X = Y) = R := ⟨_, rfl⟩
    rw [hR]
    have HR := Lib.hid hR
    have HL := Lib.hid hl
    have hb : ((X.length : Int) != (Y.length : Int)) = false := by simp [hl]
    clear hs ht hR hl
    go_enter Tryz.func55, Tryz.ntmps55
    go_wp2
    go_loopg [5] X.length (fun g v wr => ∃ k : Nat, k + g = X.length ∧ v = .int .i64 k ∧ R = decide (X.drop k = Y.drop k) ∧ Below w.heap.size w wr)
    case atStart => exact ⟨0, by omega, rfl, by rw [List.drop_zero, List.drop_zero]; exact HR.out.symm, Below.refl _ _⟩
    case round =>
      obtain ⟨k, hkg, rfl, hrel, hb0⟩ := hrel
      have HB := Lib.hid hb0
      have HREL := Lib.hid hrel
      have HG := Lib.hid hkg
      clear hrel HR
      cases gk with
      | zero =>
        obtain rfl : k = X.length := by omega
        have HF : Hid (R = true) := Lib.hid (by rw [HREL.out, List.drop_length, HL.out, List.drop_length]; simp)
        clear hkg
        go_wp2
        go_ret
        exact ⟨retb HF.out.symm, HB.out⟩
      | succ g =>
        have hlt : k < X.length := by omega
        have e3 : decide ((k : Int) < (X.length : Int)) = true := decide_eq_true (by omega)
        have hlt2 : k < Y.length := by have := HL.out; omega
        obtain ⟨x, hx⟩ : ∃ x, X[k]? = some x := ⟨_, List.getElem?_eq_getElem hlt⟩
        obtain ⟨y, hy⟩ : ∃ y, Y[k]? = some y := ⟨_, List.getElem?_eq_getElem hlt2⟩
        obtain ⟨b, o, hA, hbB, kv⟩ := IL.at_ (HS.out.step hb0) hx
        obtain ⟨b', o', hA', hbB', kv'⟩ := IL.at_ (HT.out.step hb0) hy
        subst hA
        subst hA'
        have j1 : (0 : Int) ≤ (k : Int) := by omega
        have j2 : (k : Int) < (X.length : Int) := by omega
        have j3 : (k : Int) < (Y.length : Int) := by omega
        have HD := Lib.hid (dropI hx)
        have HD2 := Lib.hid (dropI hy)
        clear hx hy hkg hlt hlt2 hbB hbB' hb0
        by_cases hxy : x = y
        · have hb : (x != y) = false := by simp [hxy]
          have HF : Hid (R = decide (X.drop (k + 1) = Y.drop (k + 1))) := Lib.hid (by
            rw [HREL.out, HD.out, HD2.out, hxy]
            simp)
          clear hxy
          go_wp2
          go_quiet (fail)
          go_wp2
          go_roundg g
          case measure => omega
          case rel => exact ⟨k + 1, by have := HG.out; omega, rfl, HF.out, stepB HB.out (bDN _ _)⟩
        · have hb : (x != y) = true := by simp [hxy]
          have HF : Hid (R = false) := Lib.hid (by
            rw [HREL.out, HD.out, HD2.out]
            simp [hxy])
          clear hxy
          go_wp2
          go_quiet (fail)
          go_wp2
          go_ret
          exact ⟨retb HF.out.symm, stepB HB.out (bDN _ _)⟩
  · rw [ints_none hl]
    have hb : ((X.length : Int) != (Y.length : Int)) = true := by simp; omega
    clear hs ht hl
    go_enter Tryz.func55, Tryz.ntmps55
    go_wp2
    go_ret
    exact ⟨rfl, Below.refl _ _⟩

theorem same_dec (X Y : List Int) (L M : Int) : decide ((X, L) = (Y, M)) = (L == M && decide (X = Y)) := by
  by_cases h1 : X = Y <;> by_cases h2 : L = M <;> simp [h1, h2]
set_option maxHeartbeats 2000000 in
theorem rSame_any (A A' : Option Addr) (c c' : Nat) (X Y : List Int) (L M : Int) (w : World) (hs : IL w w.heap.size A X) (ht : IL w w.heap.size A' Y) (hX : X.length ≤ 9223372036854775807) (hY : Y.length ≤ 9223372036854775807) :
    Calls Tryz.prog 26 #[pv A c X L, pv A' c' Y M] w fun e w' => e = .returned (.bool (decide ((X, L) = (Y, M)))) ∧ Below w.heap.size w w' := by
  rw [same_dec]
  by_cases h : L = M
  · have hb : (L == M) = true := by simp [h]
    have HC := Lib.hid (fun w hs ht => rInts_any A A' c c' X Y w hs ht hX hY)
    have HS := Lib.hid hs
    have HT := Lib.hid ht
    rw [hb, Bool.true_and]
    generalize decide (X = Y) = R at HC ⊢
    clear hs ht h
    go_enter Tryz.func26, Tryz.ntmps26
    go_wp2_with (go_at_call 55; refine (HC.out _ ((HS.out.step ((Below.refl _ _).alloc (Nat.le_refl _) _)).step ((Below.refl _ _).alloc (Nat.le_refl _) _)) ((HT.out.step ((Below.refl _ _).alloc (Nat.le_refl _) _)).step ((Below.refl _ _).alloc (Nat.le_refl _) _))).mono ?_; rintro e w' ⟨rfl, hb1⟩)
    go_ret
    exact ⟨rfl, stepB (stepB ((Below.refl _ _).alloc (Nat.le_refl _) _) ((Below.refl _ _).alloc (Nat.le_refl _) _)) hb1⟩
  · have hb : (L == M) = false := by simp [h]
    rw [hb, Bool.false_and]
    clear hs ht h
    go_enter Tryz.func26, Tryz.ntmps26
    go_wp2
    go_ret
    exact ⟨rfl, stepB ((Below.refl _ _).alloc (Nat.le_refl _) _) ((Below.refl _ _).alloc (Nat.le_refl _) _)⟩

end Go.Proofs.YtjpikgphfhjilaaGreatDoor.S2
namespace Go.Proofs.YtjpikgphfhjilaaGreatDoor.S2
open Go.RowKit

theorem infoI : (Tryz.prog.info? 3).map (fun i => (i.zero, i.size, i.bytes)) = some (some (.int .i64 0), 1, 8) := by kernel_rfl
theorem wpList_appI1 {ops : Array Oper} {rest : List Oper} {o : Oper} {a : Act} {Q : Exit → Act → World → Prop} (wr : World) (hgd : o.guard = none) (s x : Operand) (ho : o.op = .call { callee := .builtin .append, args := #[s, x], argTypes := #[23, 23] })
    (B : Nat) (v : Value) (xs : List Int) (y : Int) (hs : a.eval s = v) (hown : Own 3 iv wr B v xs) (hx : a.eval x = .slice (some ⟨wr.heap.size, 0, none⟩) 1 1) (w0 : World) (hb : Below B w0 wr) (hB : B ≤ wr.heap.size)
    (hn : xs.length ≤ 1099511627776) (h : ∀ v' w', Own 3 iv w' B v' (xs ++ [y]) → Below B w0 w' → B ≤ w'.heap.size → wpList Tryz.prog ops Q rest (a.put o.dst v') w') : wpList Tryz.prog ops Q (o :: rest) a (wr.alloc (.cells #[.int .i64 y] 3)) :=
  wpList_app _ hgd s x 23 23 ho (.int .i64 0) 8 Tryz.underlying23 infoI rfl (by decide) B v xs [y] hs (hown.alloc _) _ hx 1 (src_one Tryz.underlying23 wr y _ rfl rfl) w0 (hb.alloc hB _) (by simp; omega) (by simp; omega) h
theorem wpList_appI {ops : Array Oper} {rest : List Oper} {o : Oper} {a : Act} {Q : Exit → Act → World → Prop} (wr : World) (hgd : o.guard = none) (s x : Operand) (ho : o.op = .call { callee := .builtin .append, args := #[s, x], argTypes := #[23, 23] })
    (B : Nat) (v : Value) (xs ys : List Int) (hs : a.eval s = v) (hown : Own 3 iv wr B v xs) (A2 : Option Addr) (c2 : Nat) (hx : a.eval x = .slice A2 ys.length c2) (B2 : Nat) (hys : IL wr B2 A2 ys) (w0 : World) (hb : Below B w0 wr) (hB : B ≤ wr.heap.size)
    (hn : xs.length + ys.length ≤ 1099511627776) (h : ∀ v' w', Own 3 iv w' B v' (xs ++ ys) → Below B w0 w' → B ≤ w'.heap.size → wpList Tryz.prog ops Q rest (a.put o.dst v') w') : wpList Tryz.prog ops Q (o :: rest) a wr :=
  wpList_app _ hgd s x 23 23 ho (.int .i64 0) 8 Tryz.underlying23 infoI rfl (by decide) B v xs ys hs hown _ hx ys.length (hys.src Tryz.underlying23 iv_one c2) w0 hb hB (by omega) h

theorem elemI : Tryz.prog.elem 23 = 3 := by kernel_rfl
theorem undI : Tryz.prog.underlying 23 = some (.slice (Tryz.prog.elem 23)) := by rw [elemI]; exact Tryz.underlying23
theorem sizeI (w : World) : (sizeOf (Tryz.prog.elem 23)).run Tryz.prog w = .ok 1 w := by
  obtain ⟨i, hi, hz, hz1, hz2⟩ := info_parts infoI
  rw [elemI]
  simp [sizeOf, typeInfo, hi, hz1]
theorem cutI_addr {w : World} {B : Nat} {A : Option Addr} {xs : List Int} (h : IL w B A xs) {k m : Nat} (hk : k ≤ xs.length) (hm : k < xs.length → m ≠ k) :
    IL w B (if m = k then A else A.map (·.add (k * 1))) (xs.drop k) := fun hn => by
  rw [List.length_drop] at hn
  obtain ⟨b, o, e, hb, hcell⟩ := h (by omega)
  rw [if_neg (hm (by omega)), e]
  refine ⟨b, o + k, ?_, hb, fun j x hx => ?_⟩
  · simp only [Option.map_some, Addr.add, Nat.mul_one]
    split
    · next h0 => subst h0; rfl
    · rfl
  · rw [List.getElem?_drop] at hx
    rw [Nat.add_assoc]
    exact hcell _ x hx
theorem sliceI (A : Option Addr) (c : Nat) (xs : List Int) (k : Nat) (hk : k ≤ xs.length) (hc : xs.length ≤ c) :
    ∃ A2, (∀ w, (Instr.slice 23 (.slice A xs.length c) (some (.int .i64 k)) none none).run Tryz.prog w = .ok (.slice A2 (xs.drop k).length (c - k)) w) ∧ ∀ w B, IL w B A xs → IL w B A2 (xs.drop k) := by
  refine ⟨if c = k then A else A.map (·.add (k * 1)), fun w => ?_, fun w B h => cutI_addr h hk (fun _ => by omega)⟩
  rw [run_slice_l (P := Tryz.prog) w 23 A xs.length c undI .i64 k (by omega) (by omega), sizeI, List.length_drop]
  simp [Result.andThen, sliced]

/-- a list that a call answers -/
def RetIs (X : List Int) (W : World) (e : Ending) (w' : World) : Prop := ∃ v, e = .returned v ∧ Own 3 iv w' W.heap.size v X ∧ Below W.heap.size W w'

theorem insI_drop {X : List Int} {k : Nat} {x n : Int} (hx : X[k]? = some x) (h : x < n) (hp : insI X n = X.take k ++ insI (X.drop k) n) : insI X n = X.take (k + 1) ++ insI (X.drop (k + 1)) n := by
  rw [hp, dropI hx]
  conv => lhs; rhs; unfold insI
  rw [if_pos h]
  have : X.take (k + 1) = X.take k ++ [x] := by rw [List.take_add_one, hx]; rfl
  rw [this, List.append_assoc]
  rfl
theorem takeS {X : List Int} {k : Nat} {x : Int} (hx : X[k]? = some x) : X.take k ++ [x] = X.take (k + 1) := by rw [List.take_add_one, hx]; rfl

set_option maxRecDepth 20000 in
set_option maxHeartbeats 2000000 in
theorem rWith_any (A : Option Addr) (c : Nat) (X : List Int) (n : Int) (w : World) (hsl : IL w w.heap.size A X) (hc : X.length ≤ c) (hX : X.length ≤ 1000000) :
    Calls Tryz.prog 54 #[.slice A X.length c, .int .i64 n] w (RetIs (insI X n) w) := by
  have HS := Lib.hid hsl
  have HC := Lib.hid hc
  clear hsl hc
  obtain ⟨R, hR⟩ : ∃ R, insI X n = R := ⟨_, rfl⟩
  rw [hR]
  have HR := Lib.hid hR
  clear hR
  go_enter Tryz.func54, Tryz.ntmps54
  go_wp2
  go_loopg [5, 6] X.length (fun g u5 v wr => ∃ k : Nat, k + g = X.length ∧ v = .int .i64 k ∧ R = X.take k ++ insI (X.drop k) n ∧ Own 3 iv wr w.heap.size u5 (X.take k) ∧ Below w.heap.size w wr)
  case atStart => exact ⟨0, by omega, rfl, by rw [List.drop_zero, List.take_zero]; exact HR.out.symm, Own.nil _ _, Below.refl _ _⟩
  case round =>
    obtain ⟨k, hkg, rfl, hrel, hown, hb0⟩ := hrel
    have HREL := Lib.hid hrel
    have HG := Lib.hid hkg
    have HO := Lib.hid hown
    have HB := Lib.hid hb0
    have hBs := hb0.size
    have hkl : (X.take k).length ≤ 1000000 := by rw [List.length_take]; omega
    obtain ⟨A2, hsr, hscl⟩ := sliceI A c X k (by omega) HC.out
    have hdl : (X.drop k).length ≤ 1000000 := by rw [List.length_drop]; omega
    obtain ⟨D, hD⟩ : ∃ D, X.drop k = D := ⟨_, rfl⟩
    rw [hD] at hsr hdl hscl
    have HSR := Lib.hid hsr
    have HCL := Lib.hid (fun w0 => hscl w0 w.heap.size)
    have HDD := Lib.hid hD
    clear hrel hown hsr hscl hD
    have hkl2 : X.length - k ≤ 1000000 := by omega
    cases gk with
    | zero =>
      obtain rfl : k = X.length := by omega
      have HF : Hid (R = X.take X.length ++ [n] ++ D) := Lib.hid (by rw [HREL.out, ← HDD.out, List.drop_length]; simp [insI])
      clear hkg hb0
      go_wp2_with first
          | (at_builtin; refine wpList_appI1 wr rfl _ _ rfl w.heap.size u5 _ n rfl HO.out rfl w HB.out hBs (by omega) ?_; intro v1 w1 hown1 hb1 hB1; have hs1 := HSR.out w1; have HC1 := Lib.hid ((HS.out.below hb1)); have HO1 := Lib.hid hown1; have HB1 := Lib.hid hb1; clear hown1 hb1)
          | (at_builtin; go_must (refine wpList_appI _ rfl _ _ rfl w.heap.size _ _ D rfl HO1.out A2 _ rfl w.heap.size (HCL.out _ HC1.out) w HB1.out hB1 (by simp; omega) ?_); intro v2 w2 hown2 hb2 hB2)
      go_ret
      rw [HF.out]
      exact ⟨_, rfl, hown2, hb2⟩
    | succ g =>
      have hlt : k < X.length := by omega
      have e3 : decide ((k : Int) < (X.length : Int)) = true := decide_eq_true (by omega)
      obtain ⟨x, hx⟩ : ∃ x, X[k]? = some x := ⟨_, List.getElem?_eq_getElem hlt⟩
      obtain ⟨b, o, hA, hbB, kv⟩ := IL.at_ (HS.out.step hb0) hx
      subst hA
      have j1 : (0 : Int) ≤ (k : Int) := by omega
      have j2 : (k : Int) < (X.length : Int) := by omega
      have HX := Lib.hid hx
      clear hx hkg hlt hbB hb0
      by_cases hxn : x < n
      · have hb : decide (x < n) = true := decide_eq_true hxn
        have HF : Hid (R = X.take (k + 1) ++ insI (X.drop (k + 1)) n) := Lib.hid (by
          have h0 := HREL.out
          rw [dropI HX.out] at h0
          rw [h0]
          conv => lhs; rhs; unfold insI
          rw [if_pos hxn, ← takeS HX.out, List.append_assoc]
          rfl)
        clear hxn HSR HCL
        go_wp2_with first
          | (at_builtin; refine wpList_appI1 wr rfl _ _ rfl w.heap.size u5 (X.take k) x rfl HO.out rfl w HB.out hBs (by omega) ?_; intro v1 w1 hown1 hb1 hB1)
        rw [takeS HX.out] at hown1
        go_roundg g
        case measure => omega
        case rel => exact ⟨k + 1, by have := HG.out; omega, rfl, HF.out, hown1, hb1⟩
      · have hb : decide (x < n) = false := decide_eq_false hxn
        have HF : Hid (R = X.take k ++ [n] ++ D) := Lib.hid (by
          have h0 := HREL.out
          rw [dropI HX.out] at h0
          rw [h0, ← HDD.out]
          conv => lhs; rhs; unfold insI
          rw [if_neg hxn, dropI HX.out]
          simp)
        clear hxn
        go_wp2_with first
          | (at_builtin; refine wpList_appI1 wr rfl _ _ rfl w.heap.size u5 _ n rfl HO.out rfl w HB.out hBs (by omega) ?_; intro v1 w1 hown1 hb1 hB1; have hs1 := HSR.out w1; have HC1 := Lib.hid ((HS.out.below hb1)); have HO1 := Lib.hid hown1; have HB1 := Lib.hid hb1; clear hown1 hb1)
          | (at_builtin; go_must (refine wpList_appI _ rfl _ _ rfl w.heap.size _ _ D rfl HO1.out A2 _ rfl w.heap.size (HCL.out _ HC1.out) w HB1.out hB1 (by simp; omega) ?_); intro v2 w2 hown2 hb2 hB2)
        go_ret
        rw [HF.out]
        exact ⟨_, rfl, hown2, hb2⟩

theorem delI_take {X : List Int} {k : Nat} {x n : Int} (hx : X[k]? = some x) : delI (X.take (k + 1)) n = if x ≠ n then delI (X.take k) n ++ [x] else delI (X.take k) n := by
  rw [← takeS hx]
  unfold delI
  rw [List.filter_append]
  split
  · next h => simp [h]
  · next h => simp at h; simp [h]
/-- a pool and a truth value that a call answers -/
def RetPB (A0 : Option Addr) (X0 X : List Int) (L : Int) (b : Bool) (W : World) (e : Ending) (w' : World) : Prop :=
  ∃ A c, e = .returned (.tuple #[pv A c X L, .bool b]) ∧ X.length ≤ c ∧ IL w' w'.heap.size A X ∧ Fr W A0 X0 A X ∧ Below W.heap.size W w'

end Go.Proofs.YtjpikgphfhjilaaGreatDoor.S2
namespace Go.Proofs.YtjpikgphfhjilaaGreatDoor.S2
open Go.RowKit

def prevI (X : List Int) (k : Nat) : Int := if k = 0 then 0 else X.getD (k - 1) 0
theorem prevI_zero (X : List Int) : prevI X 0 = 0 := rfl
theorem prevI_succ {X : List Int} {k : Nat} {x : Int} (hx : X[k]? = some x) : prevI X (k + 1) = x := by
  unfold prevI
  rw [if_neg (by omega), Nat.add_sub_cancel, List.getD_eq_getElem?_getD, hx]
  rfl
theorem upI_cons (a x : Int) (xs : List Int) : upI a (x :: xs) = (decide (a < x) && decide (x ≤ 65535) && upI x xs) := rfl

set_option maxRecDepth 20000 in
set_option maxHeartbeats 4000000 in
theorem rCheck_any (A : Option Addr) (c : Nat) (X : List Int) (L : Int) (w : World) (hsl : IL w w.heap.size A X) (hX : X.length ≤ 9223372036854775807) :
    Calls Tryz.prog 10 #[pv A c X L] w fun e w' => e = .returned (.int .i64 (ckI X L)) ∧ Below w.heap.size w w' := by
  unfold ckI
  by_cases h32 : 32 < X.length
  · rw [if_pos h32]
    have hd : decide ((32 : Int) < (X.length : Int)) = true := decide_eq_true (by omega)
    clear hsl h32
    go_enter Tryz.func10, Tryz.ntmps10
    go_wp2
    go_ret
    exact ⟨rfl, (Below.refl _ _).alloc (Nat.le_refl _) _⟩
  rw [if_neg h32]
  have hd : decide ((32 : Int) < (X.length : Int)) = false := decide_eq_false (by omega)
  have HS := Lib.hid hsl
  obtain ⟨R, hR⟩ : ∃ R, upI 0 X = R := ⟨_, rfl⟩
  rw [hR]
  have HR := Lib.hid hR
  obtain ⟨C, hC⟩ : ∃ C : Int, (if R = true then (if 0 ≤ L ∧ L ≤ 65535 then 0 else 1) else 15) = C := ⟨_, rfl⟩
  rw [hC]
  have HC := Lib.hid hC
  clear hR hsl h32 hC
  go_enter Tryz.func10, Tryz.ntmps10
  go_wp2
  obtain ⟨W0, hW0⟩ : ∃ W0, W0 = w.alloc (.cells #[.slice A X.length c, .int .i64 L] 25) := ⟨_, rfl⟩
  rw [← hW0]
  have hT0 : BK 25 W0 w.heap.size [.slice A X.length c, .int .i64 L] := by rw [hW0]; exact BK.new _ _ _
  have hB0 : Below w.heap.size w W0 := by rw [hW0]; exact (Below.refl _ _).alloc (Nat.le_refl _) _
  have H0 := Lib.hid (And.intro hT0 hB0)
  clear hW0 hT0 hB0
  go_loopg [3] X.length (fun g v wr => ∃ k : Nat, k + g = X.length ∧ v = .int .i64 k ∧ R = upI (prevI X k) (X.drop k) ∧ 0 ≤ prevI X k ∧ Below W0.heap.size W0 wr)
  case atStart => exact ⟨0, by omega, rfl, by rw [List.drop_zero, prevI_zero]; exact HR.out.symm, by rw [prevI_zero]; omega, Below.refl _ _⟩
  case round =>
    obtain ⟨k, hkg, rfl, hrel, hpz, hb0⟩ := hrel
    obtain ⟨t1, hB0⟩ := H0.out
    have hb1 : Below w.heap.size w wr := stepB hB0 hb0
    have t1' := t1.step hb0
    have d0 := t1'.cell 0 rfl
    have d1 := t1'.cell 1 rfl
    have HB0 := Lib.hid hb0
    have HB1 := Lib.hid hb1
    have HG := Lib.hid hkg
    have HREL := Lib.hid hrel
    have HPZ := Lib.hid hpz
    clear hB0 t1 t1' hrel hpz
    cases gk with
    | zero =>
      obtain rfl : k = X.length := by omega
      have HF : Hid (R = true) := Lib.hid (by rw [HREL.out, List.drop_length]; rfl)
      clear hkg hb0 hb1
      by_cases hL0 : L < 0
      · have q1 : decide (L < 0) = true := decide_eq_true hL0
        have HL := Lib.hid hL0
        clear hL0
        go_wp2
        go_ret
        exact ⟨ret_i (by rw [← HC.out, if_pos HF.out, if_neg (by have := HL.out; omega)]), HB1.out⟩
      · have q1 : decide (L < 0) = false := decide_eq_false hL0
        by_cases hL1 : 65535 < L
        · have q2 : decide (65535 < L) = true := decide_eq_true hL1
          have HL := Lib.hid hL1
          clear hL0 hL1
          go_wp2
          go_ret
          exact ⟨ret_i (by rw [← HC.out, if_pos HF.out, if_neg (by have := HL.out; omega)]), HB1.out⟩
        · have q2 : decide (65535 < L) = false := decide_eq_false hL1
          have HL := Lib.hid (And.intro hL0 hL1)
          clear hL0 hL1
          go_wp2
          go_ret
          exact ⟨ret_i (by rw [← HC.out, if_pos HF.out, if_pos (by have := HL.out; omega)]), HB1.out⟩
    | succ g =>
      have hlt : k < X.length := by omega
      have e3 : decide ((k : Int) < (X.length : Int)) = true := decide_eq_true (by omega)
      obtain ⟨x, hx⟩ : ∃ x, X[k]? = some x := ⟨_, List.getElem?_eq_getElem hlt⟩
      obtain ⟨b, o, hA, hbB, kv⟩ := IL.at_ (HS.out.step hb1) hx
      subst hA
      have j1 : (0 : Int) ≤ (k : Int) := by omega
      have j2 : (k : Int) < (X.length : Int) := by omega
      have HX := Lib.hid hx
      have HU : Hid (R = (decide (prevI X k < x) && decide (x ≤ 65535) && upI x (X.drop (k + 1)))) := Lib.hid (by rw [HREL.out, dropI hx, upI_cons])
      have HN : Hid (prevI X (k + 1) = x) := Lib.hid (prevI_succ hx)
      by_cases h1 : x < 1
      · have q1 : decide (x < 1) = true := decide_eq_true h1
        have HF : Hid (R = false) := Lib.hid (by rw [HU.out, decide_eq_false (by have := HPZ.out; omega)]; rfl)
        clear hx hkg hlt hbB hb0 hb1 h1
        go_wp2
        go_quiet (fail)
        go_wp2
        go_ret
        exact ⟨ret_i (by rw [← HC.out, if_neg (by rw [HF.out]; decide)]), stepB HB1.out (bDN _ _)⟩
      have q1 : decide (x < 1) = false := decide_eq_false h1
      by_cases h2 : 65535 < x
      · have q2 : decide (65535 < x) = true := decide_eq_true h2
        have HF : Hid (R = false) := Lib.hid (by rw [HU.out, decide_eq_false (p := x ≤ 65535) (by omega)]; simp)
        clear hx hkg hlt hbB hb0 hb1 h1 h2
        go_wp2
        go_quiet (fail)
        go_wp2
        go_ret
        exact ⟨ret_i (by rw [← HC.out, if_neg (by rw [HF.out]; decide)]), stepB HB1.out (bDN _ _)⟩
      have q2 : decide (65535 < x) = false := decide_eq_false h2
      by_cases hk0 : k = 0
      · have q3 : decide ((0 : Int) < (k : Int)) = false := decide_eq_false (by omega)
        have q3' : decide (0 < k) = false := decide_eq_false (by omega)
        have HF : Hid (R = upI (prevI X (k + 1)) (X.drop (k + 1))) := Lib.hid (by
          have hp : prevI X k = 0 := by rw [hk0]; rfl
          rw [HU.out, HN.out, hp, decide_eq_true (p := (0 : Int) < x) (by omega), decide_eq_true (p := x ≤ 65535) (by omega)]; rfl)
        have HPN : Hid (0 ≤ prevI X (k + 1)) := Lib.hid (by rw [HN.out]; omega)
        clear hx hkg hlt hbB hb0 hb1 h1 h2 hk0
        go_wp2
        go_quiet (fail)
        go_wp2
        go_roundg g
        case measure => omega
        case rel => exact ⟨k + 1, by have := HG.out; omega, rfl, HF.out, HPN.out, stepB HB0.out (bDN _ _)⟩
      · obtain ⟨p, hp⟩ : ∃ p, k = p + 1 := ⟨k - 1, by omega⟩
        have hpl : p < X.length := by omega
        obtain ⟨y, hy⟩ : ∃ y, X[p]? = some y := ⟨_, List.getElem?_eq_getElem hpl⟩
        obtain ⟨b', o', hA', _, kp⟩ := IL.at_ (HS.out.step hb1) hy
        simp only [Option.some.injEq, Addr.mk.injEq, and_true] at hA'
        obtain ⟨rfl, rfl⟩ := hA'
        have HPY : Hid (prevI X k = y) := Lib.hid (by rw [hp]; exact prevI_succ hy)
        have q3 : decide ((0 : Int) < (k : Int)) = true := decide_eq_true (by omega)
        have q3' : decide (0 < k) = true := decide_eq_true (by omega)
        have j3 : wrap64 ((k : Int) - 1) = (p : Int) := by rw [wrap64_id _ (by omega) (by omega)]; omega
        have j3' : (k : Int) - 1 = (p : Int) := by omega
        have j4 : (0 : Int) ≤ (p : Int) := by omega
        have j5 : (p : Int) < (X.length : Int) := by omega
        by_cases h4 : x ≤ y
        · have q4 : decide (x ≤ y) = true := decide_eq_true h4
          have HF : Hid (R = false) := Lib.hid (by rw [HU.out, HPY.out, decide_eq_false (p := y < x) (by omega)]; rfl)
          clear hx hy hp hpl hkg hlt hbB hb0 hb1 h1 h2 hk0 h4
          go_wp2
          go_quiet (fail)
          go_wp2
          go_ret
          exact ⟨ret_i (by rw [← HC.out, if_neg (by rw [HF.out]; decide)]), stepB HB1.out (bDN _ _)⟩
        · have q4 : decide (x ≤ y) = false := decide_eq_false h4
          have HF : Hid (R = upI (prevI X (k + 1)) (X.drop (k + 1))) := Lib.hid (by
            rw [HU.out, HN.out, HPY.out, decide_eq_true (p := y < x) (by omega), decide_eq_true (p := x ≤ 65535) (by omega)]; rfl)
          have HPN : Hid (0 ≤ prevI X (k + 1)) := Lib.hid (by rw [HN.out]; omega)
          clear hx hy hp hpl hkg hlt hbB hb0 hb1 h1 h2 hk0 h4
          go_wp2
          go_quiet (fail)
          go_wp2
          go_roundg g
          case measure => omega
          case rel => exact ⟨k + 1, by have := HG.out; omega, rfl, HF.out, HPN.out, stepB HB0.out (bDN _ _)⟩
end Go.Proofs.YtjpikgphfhjilaaGreatDoor.S2
namespace Go.Proofs.YtjpikgphfhjilaaGreatDoor.S2
open Go.RowKit

def tkR (X : List Int) (L : Int) : Int × List Int × Int × Int := if 32 ≤ X.length then (0, [], 0, 6) else (tkI X L, insI X (tkI X L), tkI X L, 0)
/-- an identifier, a pool and a code that a call answers -/
def RetTk (A0 : Option Addr) (X0 : List Int) (r : Int × List Int × Int × Int) (W : World) (e : Ending) (w' : World) : Prop :=
  ∃ A c, e = .returned (.tuple #[.int .i64 r.1, pv A c r.2.1 r.2.2.1, .int .i64 r.2.2.2]) ∧ r.2.1.length ≤ c ∧ IL w' w'.heap.size A r.2.1 ∧ Fr W A0 X0 A r.2.1 ∧ Below W.heap.size W w'
theorem tkF_succ (k : Nat) (X : List Int) (n : Int) : tkF (k + 1) X n = if n ∈ X then tkF k X (aft n) else n := rfl
theorem below_set2 {B : Nat} {w0 w : World} (h : Below B w0 w) {b : Nat} (hb : B ≤ b) (u v : Value) : Below B w0 ((w.setCell ⟨b, 0, none⟩ u).setCell ⟨b, 1, none⟩ v) := (h.setCell (p := ⟨b, 0, none⟩) hb u).setCell (p := ⟨b, 1, none⟩) hb v

set_option maxRecDepth 20000 in
set_option maxHeartbeats 4000000 in
theorem rTake_any (A : Option Addr) (c : Nat) (X : List Int) (L : Int) (w : World) (hsl : IL w w.heap.size A X) (hc : X.length ≤ c) (hX : X.length ≤ 1000000) (hL0 : 0 ≤ L) (hL1 : L ≤ 65535) :
    Calls Tryz.prog 24 #[pv A c X L] w (RetTk A X (tkR X L) w) := by
  unfold tkR
  by_cases h32 : 32 ≤ X.length
  · rw [if_pos h32]
    have hd : decide ((32 : Int) ≤ (X.length : Int)) = true := decide_eq_true (by omega)
    clear hsl h32 hL0 hL1
    obtain ⟨W0, hW0⟩ : ∃ W0, W0 = (w.alloc (.cells #[.slice A X.length c, .int .i64 L] 25)).alloc (.cells #[.slice none 0 0, .int .i64 0] 25) := ⟨_, rfl⟩
    have H0 := Lib.hid (two_laid (v1 := [.slice A X.length c, .int .i64 L]) (v2 := [.slice none 0 0, .int .i64 0]) hW0)
    go_enter Tryz.func24, Tryz.ntmps24
    go_wp2
    exact bodyPost_ret (v := .tuple #[.int .i64 0, pv none 0 [] 0, .int .i64 6]) (by simp [results, Tryz.results24, go_sem]) rfl ⟨none, 0, rfl, Nat.le_refl _, CL.nil _ _ _, .inl rfl, stepB ((Below.refl _ _).alloc (Nat.le_refl _) _) ((Below.refl _ _).alloc (Nat.le_refl _) _)⟩
  rw [if_neg h32]
  have hd : decide ((32 : Int) ≤ (X.length : Int)) = false := decide_eq_false (by omega)
  have HS := Lib.hid hsl
  obtain ⟨R, hR⟩ : ∃ R, tkI X L = R := ⟨_, rfl⟩
  rw [hR]
  have HR : Hid (tkF 32 X (aft L) = R) := Lib.hid hR
  have har := aft_range hL0 hL1
  have HA := Lib.hid (fun w => rAfter_any L hL0 hL1 w)
  have HAF := Lib.hid (fun n w (h : 1 ≤ n ∧ n ≤ 65535) => rAfter_any n (by omega) h.2 w)
  have HHas := Lib.hid (fun n w hs => rHas_any A c X L n w hs (by omega))
  have HW := Lib.hid (fun n w hs => rWith_any A c X n w hs hc hX)
  have HAR := Lib.hid har
  clear hR hsl h32 hL0 hL1 har hc
  generalize aft L = s0 at HR HA HAR
  go_enter Tryz.func24, Tryz.ntmps24
  go_upto_region 1 with fail
  obtain ⟨W0, hW0⟩ : ∃ W0, W0 = (w.alloc (.cells #[.slice A X.length c, .int .i64 L] 25)).alloc (.cells #[.slice none 0 0, .int .i64 0] 25) := ⟨_, rfl⟩
  rw [← hW0]
  have H0 := Lib.hid (two_laid (v1 := [.slice A X.length c, .int .i64 L]) (v2 := [.slice none 0 0, .int .i64 0]) hW0)
  have d0 := H0.out.1.cell 0 rfl
  have d1 := H0.out.1.cell 1 rfl
  clear hW0
  go_wp2_with fail
  refine (HA.out _).mono ?_
  rintro e w' ⟨rfl, rfl⟩
  clear HA
  go_wp2_with fail
  clear d0 d1
  go_loopg [5, 6] 32 (fun g u5 v wr => ∃ (k : Nat) (n : Int), k + g = 32 ∧ v = .int .i64 k ∧ u5 = .int .i64 n ∧ 1 ≤ n ∧ n ≤ 65535 ∧ tkF g X n = R ∧ Below W0.heap.size W0 wr)
  case atStart => exact ⟨0, s0, by omega, rfl, rfl, HAR.out.1, HAR.out.2, HR.out, Below.refl _ _⟩
  case round =>
    obtain ⟨k, n, hkg, rfl, rfl, hn1, hn2, hrel, hb0⟩ := hrel
    obtain ⟨t1, t2, hs0, hB0⟩ := H0.out
    have hb1 : Below w.heap.size w wr := stepB hB0 hb0
    have t1' := t1.step hb0
    have t2' := t2.step hb0
    have d0 := t1'.cell 0 rfl
    have d1 := t1'.cell 1 rfl
    have HB0 := Lib.hid hb0
    have HB1 := Lib.hid hb1
    have HG := Lib.hid hkg
    have HN := Lib.hid (And.intro hn1 hn2)
    have HREL := Lib.hid hrel
    have HT1 := Lib.hid t1'
    have HT2 := Lib.hid t2'
    have HSX := Lib.hid (HS.out.step hb1)
    have hgt : w.heap.size + 1 < wr.heap.size := t2'.lt
    clear hB0 t1 t2 hs0 hrel t1' t2' hb0 hb1
    cases gk with
    | zero =>
      obtain rfl : k = 32 := by omega
      have HF : Hid (n = R) := Lib.hid HREL.out
      clear hkg hn1 hn2
      go_wp2_with fail
      refine (HW.out _ _ HSX.out).mono ?_
      rintro e w2 ⟨v2, rfl, hown2, hb2⟩
      obtain ⟨A2, c2, hv, hc2, hsl2, hfr2⟩ := hown2.retB
      subst hv
      have t2 := HT2.out.step hb2
      have d2 := t2.cell 0 rfl
      have d3 := t2.cell 1 rfl
      have f2 := t2.free 0
      have f3 := t2.free 1
      have hls := t2.lt
      have HB3 := Lib.hid (stepB HB1.out hb2)
      have HSL := Lib.hid hsl2
      have HC2 := Lib.hid hc2
      have HFR := Lib.hid hfr2
      clear hb2 hown2 hsl2 hc2 t2 hfr2
      go_wp2_with fail
      rw [← HF.out]
      exact bodyPost_ret (v := .tuple #[.int .i64 n, pv A2 c2 (insI X n) n, .int .i64 0]) (by simp [results, Tryz.results24, go_sem, d2, d3]) rfl ⟨A2, c2, rfl, HC2.out, HSL.out _ (by simp) (fun p hp => by rw [set_other _ _ _ _ _ (by omega), set_other _ _ _ _ _ (by omega)]), .inr (.inr (fun b o e => by have := HFR.out b o e; omega)), below_set2 HB3.out (b := w.heap.size + 1) (Nat.le_succ _) _ _⟩
    | succ g =>
      have e3 : decide ((k : Int) < 32) = true := decide_eq_true (by omega)
      by_cases hm : n ∈ X
      · have HF : Hid (tkF g X (aft n) = R) := Lib.hid (by have := HREL.out; rw [tkF_succ, if_pos hm] at this; exact this)
        have hhas := HHas.out n wr HSX.out
        rw [decide_eq_true hm] at hhas
        have HH := Lib.hid hhas
        have HR2 := Lib.hid (aft_range (n := n) (by omega) hn2)
        have HA2 := Lib.hid (fun w => HAF.out n w HN.out)
        clear hm hhas hkg hn1 hn2
        generalize aft n = n2 at HF HR2 HA2
        go_wp2_with fail
        refine HH.out.mono ?_
        rintro e w2 ⟨rfl, hb2⟩
        have HB2 := Lib.hid hb2
        clear hb2
        go_wp2_with fail
        refine (HA2.out _).mono ?_
        rintro e w3 ⟨rfl, rfl⟩
        go_wp2_with fail
        go_roundg g
        case measure => omega
        case rel => exact ⟨k + 1, n2, by have := HG.out; omega, nxt k (by have := HG.out; omega), rfl, HR2.out.1, HR2.out.2, HF.out, stepB HB0.out HB2.out⟩
      · have HF : Hid (n = R) := Lib.hid (by have := HREL.out; rw [tkF_succ, if_neg hm] at this; exact this)
        have hhas := HHas.out n wr HSX.out
        rw [decide_eq_false hm] at hhas
        have HH := Lib.hid hhas
        clear hm hhas hkg hn1 hn2
        go_wp2_with fail
        refine HH.out.mono ?_
        rintro e w1 ⟨rfl, hb1⟩
        have d0' := (hb1.cell (p := ⟨w.heap.size, 0, none⟩) (by show w.heap.size < _; omega)).trans d0
        have d1' := (hb1.cell (p := ⟨w.heap.size, 1, none⟩) (by show w.heap.size < _; omega)).trans d1
        have HT2' := Lib.hid (HT2.out.step hb1)
        have hgt1 := HT2'.out.lt
        have HSX' := Lib.hid (HSX.out.step hb1)
        have HB1' := Lib.hid (stepB HB1.out hb1)
        clear hb1 d0 d1 hgt HT2 HSX HB1 HB0 HT1
        go_wp2_with fail
        refine (HW.out _ _ HSX'.out).mono ?_
        rintro e w2 ⟨v2, rfl, hown2, hb2⟩
        obtain ⟨A2, c2, hv, hc2, hsl2, hfr2⟩ := hown2.retB
        subst hv
        have t2 := HT2'.out.step hb2
        have d2 := t2.cell 0 rfl
        have d3 := t2.cell 1 rfl
        have f2 := t2.free 0
        have f3 := t2.free 1
        have hls := t2.lt
        have HB3 := Lib.hid (stepB HB1'.out hb2)
        have HSL := Lib.hid hsl2
        have HC2 := Lib.hid hc2
        have HFR := Lib.hid hfr2
        clear hb2 hown2 hsl2 hc2 t2 hfr2
        go_wp2_with fail
        rw [← HF.out]
        exact bodyPost_ret (v := .tuple #[.int .i64 n, pv A2 c2 (insI X n) n, .int .i64 0]) (by simp [results, Tryz.results24, go_sem, d2, d3]) rfl ⟨A2, c2, rfl, HC2.out, HSL.out _ (by simp) (fun p hp => by rw [set_other _ _ _ _ _ (by omega), set_other _ _ _ _ _ (by omega)]), .inr (.inr (fun b o e => by have := HFR.out b o e; omega)), below_set2 HB3.out (b := w.heap.size + 1) (Nat.le_succ _) _ _⟩
end Go.Proofs.YtjpikgphfhjilaaGreatDoor.S2
