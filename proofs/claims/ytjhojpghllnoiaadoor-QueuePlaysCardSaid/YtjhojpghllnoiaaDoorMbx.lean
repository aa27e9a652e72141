/-
  A struct in a block of its own, whole: what loads and stores of it and of its parts do, whatever its cells are. No function of the program is walked here.
-/
import Derived.Test.YtjhojpghllnoiaaDoorMsg
import Derived.Laws.Rows
namespace Go.Proofs.YtjhojpghllnoiaaDoor
open Go.RowKit

/-- block M holds these cells, as a variable of type T -/
def MT (T : TypeId) (w : World) (M : Nat) (vs : List Value) : Prop := w.heap[M]? = some (.cells vs.toArray T (0, 0))
section
variable {T : TypeId} {w w' : World} {M : Nat} {vs : List Value}
theorem MT.cell (h : MT T w M vs) (j : Nat) : w.cell? ⟨M, j, none⟩ = vs[j]? := by unfold MT at h; simp [World.cell?, h]
theorem MT.lt (h : MT T w M vs) : M < w.heap.size := (Array.getElem?_eq_some_iff.1 h).1
theorem MT.free (h : MT T w M vs) (j : Nat) : w.frozen? ⟨M, j, none⟩ = false := frozen_of_row w M j vs.toArray T h
theorem MT.set (h : MT T w M vs) (j : Nat) (u : Value) : MT T (w.setCell ⟨M, j, none⟩ u) M (vs.set j u) := by
  have := heap_setCell_same w M j vs.toArray T u h
  unfold MT
  rw [this]
  simp
theorem MT.other (h : MT T w M vs) {p : Addr} (hp : M ≠ p.block) (u : Value) : MT T (w.setCell p u) M vs := (heap_setCell_other w p M u hp).trans h
theorem MT.step (h : MT T w M vs) (hb : Below w.heap.size w w') : MT T w' M vs := (hb.block _ h.lt).trans h
theorem MT.alloc (h : MT T w M vs) (o : Obj) : MT T (w.alloc o) M vs := (heap_alloc_old w o h.lt).trans h
theorem MT.drew (h : MT T w M vs) : MT T w.drew M vs := h
theorem MT.new (w : World) (T : TypeId) (vs : List Value) : MT T (w.alloc (.cells vs.toArray T)) w.heap.size vs := heap_alloc_new w _
end

section
variable {P : Program}
/-- a part of it is loaded -/
theorem run_load_part (w : World) (g off n : Nat) (t ty : TypeId) (vs : List Value) (fr : Nat × Nat) (d : TypeDesc) (hg : w.heap[g]? = some (.cells vs.toArray t fr))
    (hu : P.underlying ty = some d) (hd : (match d with | .struct _ | .array _ _ => true | _ => false) = true) (hi : (P.info? ty).map (·.size) = some n) (hn : off + n ≤ vs.length) :
    (loadVar ty ⟨g, off, none⟩).run P w = .ok (.agg ((vs.drop off).take n).toArray) w := by
  have hlen : ((vs.drop off).take n).length = n := by simp; omega
  have hl : (loadCells ⟨g, off, none⟩ ((vs.drop off).take n).length).run P w = .ok ((vs.drop off).take n).toArray w :=
    run_loadCells_list (P := P) w ⟨g, off, none⟩ ((vs.drop off).take n) (fun j v hv => by
      have hadd : (⟨g, off, none⟩ : Addr).add j = ⟨g, off + j, none⟩ := by unfold Addr.add; split <;> simp_all
      rw [hadd, cell_of_row w g (off + j) vs.toArray t fr hg]
      have hj : j < n := by have := (List.getElem?_eq_some_iff.1 hv).1; omega
      rw [List.getElem?_take_of_lt hj, List.getElem?_drop] at hv
      simpa using hv)
  cases hq : P.info? ty with
  | none => simp [hq] at hi
  | some i =>
    have hs : i.size = n := by simpa [hq] using hi
    have hagg : (isAgg ty).run P w = .ok true w := by
      unfold isAgg
      rw [Sem.run_bind, run_underlying hu w]
      cases d <;> simp_all
    rw [hlen] at hl
    simp [loadVar, Sem.run_bind, hagg, sizeOf, typeInfo, hq, hs, hl]
theorem wp_load_part {o : Oper} {a : Act} {w : World} {K : Act → World → Prop} {Q : Exit → Act → World → Prop} (ty : TypeId) (x : Operand) (ho : o.op = .load ty x)
    (g off n : Nat) (hx : a.eval x = .pointer (some ⟨g, off, none⟩)) (t : TypeId) (vs : List Value) (fr : Nat × Nat) (d : TypeDesc) (hg : w.heap[g]? = some (.cells vs.toArray t fr))
    (hu : P.underlying ty = some d) (hd : (match d with | .struct _ | .array _ _ => true | _ => false) = true) (hi : (P.info? ty).map (·.size) = some n) (hn : off + n ≤ vs.length)
    (h : K (a.put o.dst (.agg ((vs.drop off).take n).toArray)) w) : o.wp P a w K Q := by
  unfold Oper.wp execOp
  simp only [ho, hx, Instr.loadAt, Instr.sureAddr, Sem.run_bind, Sem.run_pure, Result.andThen_ok, run_load_part w g off n t ty vs fr d hg hu hd hi hn]
  exact h
theorem wpList_wanted {ops : Array Oper} {rest : List Oper} {o : Oper} {a : Act} {w : World} {Q : Exit → Act → World → Prop} (hg : Region.wanted o (yielded ops a.tmps) = true)
    (h : ∀ K : Act → World → Prop, (∀ a w, wpList P ops Q rest a w → K a w) → o.wp P a w K Q) : wpList P ops Q (o :: rest) a w :=
  wpList_step fun K hK => by rw [if_pos hg]; exact h K hK
theorem wpList_load_part {ops : Array Oper} {rest : List Oper} {o : Oper} {a : Act} {w : World} {Q : Exit → Act → World → Prop} (hgd : Region.wanted o (yielded ops a.tmps) = true) (ty : TypeId) (x : Operand) (ho : o.op = .load ty x)
    (g off n : Nat) (hx : a.eval x = .pointer (some ⟨g, off, none⟩)) (t : TypeId) (vs : List Value) (fr : Nat × Nat) (d : TypeDesc) (hg : w.heap[g]? = some (.cells vs.toArray t fr))
    (hu : P.underlying ty = some d) (hd : (match d with | .struct _ | .array _ _ => true | _ => false) = true) (hi : (P.info? ty).map (·.size) = some n) (hn : off + n ≤ vs.length)
    (h : wpList P ops Q rest (a.put o.dst (.agg ((vs.drop off).take n).toArray)) w) : wpList P ops Q (o :: rest) a w :=
  wpList_wanted hgd fun _ hK => wp_load_part ty x ho g off n hx t vs fr d hg hu hd hi hn (hK _ _ h)
/-- the whole of it is loaded -/
theorem wpList_load_all {ops : Array Oper} {rest : List Oper} {o : Oper} {a : Act} {w : World} {Q : Exit → Act → World → Prop} (hgd : Region.wanted o (yielded ops a.tmps) = true) (ty : TypeId) (x : Operand) (ho : o.op = .load ty x)
    (g : Nat) (hx : a.eval x = .pointer (some ⟨g, 0, none⟩)) (t : TypeId) (cs : Array Value) (fr : Nat × Nat) (d : TypeDesc) (hg : w.heap[g]? = some (.cells cs t fr))
    (hu : P.underlying ty = some d) (hd : (match d with | .struct _ | .array _ _ => true | _ => false) = true) (hi : (P.info? ty).map (·.size) = some cs.size)
    (h : wpList P ops Q rest (a.put o.dst (.agg cs)) w) : wpList P ops Q (o :: rest) a w :=
  wpList_wanted hgd fun _ hK => wp_load_row ty x ho g hx t cs fr d hg hu hd hi (hK _ _ h)
/-- the same as the value that an operation of a region yields -/
theorem exec_load {o : Oper} {ev : Operand → Value} {w : World} (ty : TypeId) (x : Operand) (ho : o.op = .load ty x) (p : Addr) (hx : ev x = .pointer (some p)) (v : Value) (h : (loadVar ty p).run P w = .ok v w) :
    (execOp ev o).run P w = .ok (.value v) w := by
  unfold execOp
  simp only [ho, hx, Instr.loadAt, Instr.sureAddr, Sem.run_bind, Sem.run_pure, Result.andThen_ok, h]
theorem exec_bin {o : Oper} {ev : Operand → Value} {w : World} (op : BinOp) (t t2 : TypeId) (x y : Operand) (ho : o.op = .binOp op t x y t2) (xv yv : Value) (hx : ev x = xv) (hy : ev y = yv)
    (hg : (eqGuard op t x y xv yv).run P w = .ok () w) (v : Value) (h : (binOp op t xv yv).run P w = .ok v w) : (execOp ev o).run P w = .ok (.value v) w := by
  unfold execOp
  simp only [ho, hx, hy, Sem.run_bind, Sem.run_pure, Result.andThen_ok, hg, h]
end

end Go.Proofs.YtjhojpghllnoiaaDoor
