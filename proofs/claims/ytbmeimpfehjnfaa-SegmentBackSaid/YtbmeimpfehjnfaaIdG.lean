/-
  Lists of numbers and pools in memory; the arithmetic of an int. No function of the program is walked here.
-/
import Derived.Test.YtbmeimpfehjnfaaIdP
import Derived.Deep.QuietTactic
import Derived.BigQuiet
import Derived.Deep.LoopGhost
import Derived.Deep.Light
import Derived.Laws.Rows
import Derived.RegionTactic
import Derived.ChangeAlike
import Derived.BigRegion
namespace Go.Proofs.Ytbmeimpfehjnfaa.S2
open Go.RowKit

theorem ret_i {k : IntKind} {a b : Int} (h : a = b) : Ending.returned (.int k a) = .returned (.int k b) := by rw [h]
theorem wrap64_id (m : Int) (h1 : -9223372036854775808 ≤ m) (h2 : m ≤ 9223372036854775807) : wrap64 m = m := by
  unfold wrap64
  omega
theorem wrap_i64_id (m : Int) (h1 : -9223372036854775808 ≤ m) (h2 : m ≤ 9223372036854775807) : IntKind.i64.wrap m = m := by rw [IntKind.wrap_i64]; omega
theorem nxt (k : Nat) (h : k ≤ 9223372036854775806) : Value.int .i64 (wrap64 ((k : Int) + 1)) = .int .i64 ((k + 1 : Nat) : Int) := by rw [wrap64_id _ (by omega) (by omega)]; rfl
theorem bDN (w : World) (n : Nat) : Below w.heap.size w (w.drewN n) := ⟨rfl, rfl, rfl, Nat.le_refl _, fun _ _ => rfl⟩
theorem below_box {B : Nat} {w w' : World} (h : Below B w w') (o : Obj) (hB : B ≤ w'.heap.size) : Below B w (w'.alloc o) := h.alloc hB o

/-- block M holds these cells, as a variable of type T -/
def BK (T : TypeId) (w : World) (M : Nat) (vs : List Value) : Prop := w.heap[M]? = some (.cells vs.toArray T (0, 0))
section
variable {T : TypeId} {w w' : World} {M : Nat} {vs : List Value}
theorem BK.cell (h : BK T w M vs) (j : Nat) {v : Value} (hv : vs[j]? = some v) : w.cell? ⟨M, j, none⟩ = some v := by unfold BK at h; simp [World.cell?, h, hv]
theorem BK.lt (h : BK T w M vs) : M < w.heap.size := (Array.getElem?_eq_some_iff.1 h).1
theorem BK.free (h : BK T w M vs) (j : Nat) : w.frozen? ⟨M, j, none⟩ = false := frozen_of_row w M j vs.toArray T h
theorem BK.set (h : BK T w M vs) (j : Nat) (u : Value) : BK T (w.setCell ⟨M, j, none⟩ u) M (vs.set j u) := by
  have := heap_setCell_same w M j vs.toArray T u h
  unfold BK
  rw [this]
  simp
theorem BK.other (h : BK T w M vs) {p : Addr} (hp : M ≠ p.block) (u : Value) : BK T (w.setCell p u) M vs := (heap_setCell_other w p M u hp).trans h
theorem BK.keep {B : Nat} (h : BK T w M vs) (hM : M < B) (hb : Below B w w') : BK T w' M vs := (hb.block _ hM).trans h
theorem BK.step (h : BK T w M vs) (hb : Below w.heap.size w w') : BK T w' M vs := h.keep h.lt hb
theorem BK.alloc (h : BK T w M vs) (o : Obj) : BK T (w.alloc o) M vs := (heap_alloc_old w o h.lt).trans h
theorem BK.drew (h : BK T w M vs) : BK T w.drew M vs := h
theorem BK.new (w : World) (T : TypeId) (vs : List Value) : BK T (w.alloc (.cells vs.toArray T)) w.heap.size vs := heap_alloc_new w _
end
theorem set_other (w : World) (b j : Nat) (v : Value) (p : Addr) (h : p.block ≠ b) : (w.setCell ⟨b, j, none⟩ v).cell? p = w.cell? p :=
  World.cell?_setCell_other (h := fun e => h (by rw [← e])) ..
/-- an own list lies behind what was there -/
theorem _root_.Go.Proofs.Ytbmeimpfehjnfaa.Own.retB {α : Type} {f : α → Value} {e : TypeId} {w : World} {B : Nat} {v : Value} {xs : List α} (h : Own e f w B v xs) : ∃ A c, v = .slice A xs.length c ∧ xs.length ≤ c ∧
    (∀ w', w.heap.size ≤ w'.heap.size → (∀ p : Addr, B ≤ p.block → w'.cell? p = w.cell? p) → CL f w' w'.heap.size A xs) ∧ ∀ b o, A = some ⟨b, o, none⟩ → B ≤ b := by
  unfold Own at h
  rcases h.2 with ⟨rfl, hn⟩ | ⟨g, cap, cur, rfl, hb, hg, hnc, hcm, hcs, htake⟩
  · have : xs = [] := List.eq_nil_of_length_eq_zero hn
    subst this
    exact ⟨none, 0, rfl, Nat.le_refl _, fun w' _ _ => CL.nil _ _ _, fun b o e => by simp at e⟩
  · refine ⟨_, cap, rfl, hnc, fun w' hs hk _ => ⟨g, 0, rfl, Nat.lt_of_lt_of_le (Array.getElem?_eq_some_iff.1 hg).1 hs, fun j x hx => ?_⟩, fun b o e => by
      simp only [Option.some.injEq, Addr.mk.injEq, and_true] at e
      omega⟩
    have hj : j < xs.length := (List.getElem?_eq_some_iff.1 hx).1
    rw [Nat.zero_add, hk ⟨g, j, none⟩ hb, h.cellAt j (by omega), List.getElem?_map, hx]; rfl
section
variable {P : Program}
/-- a struct of its own block is loaded whole -/
theorem run_load_all {w : World} {g : Nat} {t ty : TypeId} {vs : List Value} {d : TypeDesc} (h : BK t w g vs)
    (hu : P.underlying ty = some d) (hd : (match d with | .struct _ | .array _ _ => true | _ => false) = true) (hi : (P.info? ty).map (·.size) = some vs.length) :
    (loadVar ty ⟨g, 0, none⟩).run P w = .ok (.agg vs.toArray) w := by
  have hl : (loadCells ⟨g, 0, none⟩ vs.length).run P w = .ok vs.toArray w :=
    run_loadCells_list (P := P) w ⟨g, 0, none⟩ vs (fun j v hv => by
      have hadd : (⟨g, 0, none⟩ : Addr).add j = ⟨g, 0 + j, none⟩ := by unfold Addr.add; split <;> simp_all
      rw [hadd, cell_of_row w g (0 + j) vs.toArray t (0, 0) h]
      simpa using hv)
  cases hq : P.info? ty with
  | none => simp [hq] at hi
  | some i =>
    have hs : i.size = vs.length := by simpa [hq] using hi
    have hagg : (isAgg ty).run P w = .ok true w := by
      unfold isAgg
      rw [Sem.run_bind, run_underlying hu w]
      cases d <;> simp_all
    simp [loadVar, Sem.run_bind, hagg, sizeOf, typeInfo, hq, hs, hl]
theorem exec_load {o : Oper} {ev : Operand → Value} {w : World} (ty : TypeId) (x : Operand) (ho : o.op = .load ty x) (p : Addr) (hx : ev x = .pointer (some p)) (v : Value) (h : (loadVar ty p).run P w = .ok v w) :
    (execOp ev o).run P w = .ok (.value v) w := by
  unfold execOp
  simp only [ho, hx, Instr.loadAt, Instr.sureAddr, Sem.run_bind, Sem.run_pure, Result.andThen_ok, h]
end
theorem get_ops (l : List Oper) (i : Nat) (o : Oper) (h : l[i]? = some o) : l.toArray[i]? = some o := by simpa using h
/-- two variables laid one behind the other -/
theorem two_laid {T1 T2 : TypeId} {w w1 : World} {v1 v2 : List Value} (h : w1 = (w.alloc (.cells v1.toArray T1)).alloc (.cells v2.toArray T2)) :
    BK T1 w1 w.heap.size v1 ∧ BK T2 w1 (w.heap.size + 1) v2 ∧ w1.heap.size = w.heap.size + 2 ∧ Below w.heap.size w w1 := by
  subst h
  have e : (w.alloc (.cells v1.toArray T1)).heap.size = w.heap.size + 1 := by simp
  refine ⟨(BK.new w T1 v1).alloc _, ?_, by simp, stepB ((Below.refl _ _).alloc (Nat.le_refl _) _) ((Below.refl _ _).alloc (Nat.le_refl _) _)⟩
  have := BK.new (w.alloc (.cells v1.toArray T1)) T2 v2
  rwa [e] at this

/-- a number as a value -/
def iv (x : Int) : Value := .int .i64 x
theorem iv_one (x : Int) : (iv x).oneCell' = true := rfl
/-- a list that a call answers lies in memory of its own, or is the argument's -/
def Fr {α : Type} (W : World) (A : Option Addr) (X : List α) (A' : Option Addr) (X' : List α) : Prop := X' = [] ∨ (A' = A ∧ (X = [] → X' = [])) ∨ ∀ b o, A' = some ⟨b, o, none⟩ → W.heap.size ≤ b
abbrev IL (w : World) (B : Nat) (A : Option Addr) (X : List Int) : Prop := CL iv w B A X
theorem IL.at_ {w : World} {B : Nat} {A : Option Addr} {X : List Int} (h : IL w B A X) {k : Nat} {x : Int} (hx : X[k]? = some x) : ∃ b o, A = some ⟨b, o, none⟩ ∧ b < B ∧ w.cell? ⟨b, o + k, none⟩ = some (.int .i64 x) := by
  obtain ⟨b, o, e, hb, hc⟩ := h (by have := (List.getElem?_eq_some_iff.1 hx).1; omega)
  exact ⟨b, o, e, hb, hc k x hx⟩
theorem dropI {X : List Int} {k : Nat} {x : Int} (hx : X[k]? = some x) : X.drop k = x :: X.drop (k + 1) := by
  obtain ⟨h, rfl⟩ := List.getElem?_eq_some_iff.1 hx
  exact List.drop_eq_getElem_cons h

end Go.Proofs.Ytbmeimpfehjnfaa.S2
