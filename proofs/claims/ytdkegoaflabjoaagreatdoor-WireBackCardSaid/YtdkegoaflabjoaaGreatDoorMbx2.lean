/-
A struct in a block of its own, whole: what loads and stores of it and of its parts do, whatever its cells are. No function of the program is walked here.
Stores into a struct in a block of its own, of one cell and of a part: what the block holds behind them. No function of the program is walked here.
-/
import Derived.Test.YtdkegoaflabjoaaGreatDoorPkt2
import Derived.Deep.RegionHeld3
import Derived.Laws.CopyRow
import Derived.Laws.Rows
namespace Go.Proofs.YtdkegoaflabjoaaGreatDoor
open Go.RowKit

theorem get_opsR (l : List Oper) (i : Nat) (o : Oper) (h : l[i]? = some o) : l.toArray[i]? = some o := by rw [List.getElem?_toArray]; exact h
section
variable {P : Program} {md : Region.Mode} {ops : Array Oper} {Q : Exit → Act → World → Prop} {S : World → Prop}
theorem tkA {i : Nat} {oi : Oper} {v : Value} {fuel : Nat} {listed : Array Bool} {a a' : Act} {w : World} (hi : ops[i]? = some oi := by exact get_opsR _ _ _ rfl)
 (hs : Region.noSelect ops = true := by kernel_rfl) (hf : Region.free md ops listed i = true := by kernel_rfl) (hr : (Region.ready md ops listed).contains i = true := by kernel_rfl)
 (hQ : ∀ c a w, Q (.panic c) (a.put oi.dst v) w → Q (.panic c) a w := by exact (fun _ _ _ h => h)) (y : YieldsIf P ops S oi v a) (s : S w := by assumption)
 (ha : a.put oi.dst v = a' := by ((try simp only [Act.put, List.setIfInBounds_toArray, List.set_cons_zero, List.set_cons_succ]); exact rfl))
 (h : wpAnyH P md ops Q S fuel (listed.setIfInBounds i true) a' w) : wpAnyH P md ops Q S (fuel + 1) listed a w :=
 wpAnyH_take hi hs hf hr hQ y s (by rw [ha]; exact h)
theorem tkS {i : Nat} {oi : Oper} {v : Value} {fuel : Nat} {listed : Array Bool} {a a' : Act} {w : World} (hi : ops[i]? = some oi := by exact get_opsR _ _ _ rfl)
 (hs : Region.noSelect ops = true := by kernel_rfl) (hf : Region.free md ops listed i = true := by kernel_rfl) (hr : (Region.ready md ops listed).contains i = true := by kernel_rfl)
 (hQ : ∀ c a w, Q (.panic c) (a.put oi.dst v) w → Q (.panic c) a w := by exact (fun _ _ _ h => h)) (y : YieldsIf P ops S oi v a := by exact Or.inl ⟨by rfl, fun wS hSw => by (try dsimp only at hSw); go_simp⟩) (s : S w := by assumption)
 (ha : a.put oi.dst v = a' := by ((try simp only [Act.put, List.setIfInBounds_toArray, List.set_cons_zero, List.set_cons_succ]); exact rfl))
 (h : wpAnyH P md ops Q S fuel (listed.setIfInBounds i true) a' w) : wpAnyH P md ops Q S (fuel + 1) listed a w :=
 wpAnyH_take hi hs hf hr hQ y s (by rw [ha]; exact h)
theorem rdA (j : Nat) {o : Oper} {fuel : Nat} {listed : Array Bool} {a : Act} {w : World} (hr : Region.ready md ops listed = [j] := by kernel_rfl) (ho : ops[j]? = some o := by exact get_opsR _ _ _ rfl)
 (h : ∀ K' : Act → World → Prop, Shut (∀ a w, S w → (S w → wpAnyH P md ops Q S fuel (listed.setIfInBounds j true) a w) → K' a w) → if Region.wanted o (yielded ops a.tmps) = true then Oper.wp P o a w K' Q else K' (a.put o.dst undef) w) : wpAnyH P md ops Q S (fuel + 1) listed a w :=
 wpAnyH_ready hr (by simp) (AllReadyH.cons ho h AllReadyH.nil)
end
theorem belA (w : World) (o : Obj) : Below w.heap.size w (w.alloc o) := (Below.refl _ _).alloc (Nat.le_refl _) _
theorem hmfT {P : Program} : ∀ (fn : Fn) (first cap : Array Value) (w : World), (Instr.makeFunc fn first cap).run P w = .ok (.func fn first cap) w := fun _ _ _ _ => rfl

/-- block M holds these cells, as a variable of type T -/
def MT (T : TypeId) (w : World) (M : Nat) (vs : List Value) : Prop := w.heap[M]? = some (.cells vs.toArray T (0, 0))
section
variable {T : TypeId} {w w' : World} {M : Nat} {vs : List Value}
theorem MT.cell (h : MT T w M vs) (j : Nat) : w.cell? ⟨M, j, none⟩ = vs[j]? := by unfold MT at h; simp [World.cell?, h]
theorem MT.lt (h : MT T w M vs) : M < w.heap.size := (Array.getElem?_eq_some_iff.1 h).1
theorem MT.free (h : MT T w M vs) (j : Nat) : w.frozen? ⟨M, j, none⟩ = false := frozen_of_row w M j vs.toArray T h
theorem MT.set (h : MT T w M vs) (j : Nat) (u : Value) : MT T (w.setCell ⟨M, j, none⟩ u) M (vs.set j u) := by
 have := heap_setCell_same w M j vs.toArray T u h
 unfold MT
 rw [this]
 simp
theorem MT.other (h : MT T w M vs) {p : Addr} (hp : M ≠ p.block) (u : Value) : MT T (w.setCell p u) M vs := (heap_setCell_other w p M u hp).trans h
theorem MT.step (h : MT T w M vs) (hb : Below w.heap.size w w') : MT T w' M vs := (hb.block _ h.lt).trans h
theorem MT.alloc (h : MT T w M vs) (o : Obj) : MT T (w.alloc o) M vs := (heap_alloc_old w o h.lt).trans h
theorem MT.drew (h : MT T w M vs) : MT T w.drew M vs := h
theorem MT.new (w : World) (T : TypeId) (vs : List Value) : MT T (w.alloc (.cells vs.toArray T)) w.heap.size vs := heap_alloc_new w _
end

section
variable {P : Program}
/-- a part of it is loaded -/
theorem run_load_part (w : World) (g off n : Nat) (t ty : TypeId) (vs : List Value) (fr : Nat × Nat) (d : TypeDesc) (hg : w.heap[g]? = some (.cells vs.toArray t fr))
 (hu : P.underlying ty = some d) (hd : (match d with | .struct _ | .array _ _ => true | _ => false) = true) (hi : (P.info? ty).map (·.size) = some n) (hn : off + n ≤ vs.length) :
 (loadVar ty ⟨g, off, none⟩).run P w = .ok (.agg ((vs.drop off).take n).toArray) w := by
 have hlen : ((vs.drop off).take n).length = n := by simp; omega
 have hl : (loadCells ⟨g, off, none⟩ ((vs.drop off).take n).length).run P w = .ok ((vs.drop off).take n).toArray w :=
  run_loadCells_list (P := P) w ⟨g, off, none⟩ ((vs.drop off).take n) (fun j v hv => by
   have hadd : (⟨g, off, none⟩ : Addr).add j = ⟨g, off + j, none⟩ := by unfold Addr.add; split <;> simp_all
   rw [hadd, cell_of_row w g (off + j) vs.toArray t fr hg]
   have hj : j < n := by have := (List.getElem?_eq_some_iff.1 hv).1; omega
   rw [List.getElem?_take_of_lt hj, List.getElem?_drop] at hv
   simpa using hv)
 cases hq : P.info? ty with
 | none => simp [hq] at hi
 | some i =>
   have hs : i.size = n := by simpa [hq] using hi
   have hagg : (isAgg ty).run P w = .ok true w := by
    unfold isAgg
    rw [Sem.run_bind, run_underlying hu w]
    cases d <;> simp_all
   rw [hlen] at hl
   simp [loadVar, Sem.run_bind, hagg, sizeOf, typeInfo, hq, hs, hl]
theorem wp_load_part {o : Oper} {a : Act} {w : World} {K : Act → World → Prop} {Q : Exit → Act → World → Prop} (ty : TypeId) (x : Operand) (ho : o.op = .load ty x)
 (g off n : Nat) (hx : a.eval x = .pointer (some ⟨g, off, none⟩)) (t : TypeId) (vs : List Value) (fr : Nat × Nat) (d : TypeDesc) (hg : w.heap[g]? = some (.cells vs.toArray t fr))
 (hu : P.underlying ty = some d) (hd : (match d with | .struct _ | .array _ _ => true | _ => false) = true) (hi : (P.info? ty).map (·.size) = some n) (hn : off + n ≤ vs.length)
 (h : K (a.put o.dst (.agg ((vs.drop off).take n).toArray)) w) : o.wp P a w K Q := by
 unfold Oper.wp execOp
 simp only [ho, hx, Instr.loadAt, Instr.sureAddr, Sem.run_bind, Sem.run_pure, Result.andThen_ok, run_load_part w g off n t ty vs fr d hg hu hd hi hn]
 exact h
theorem wpList_wanted {ops : Array Oper} {rest : List Oper} {o : Oper} {a : Act} {w : World} {Q : Exit → Act → World → Prop} (hg : Region.wanted o (yielded ops a.tmps) = true)
 (h : ∀ K : Act → World → Prop, (∀ a w, wpList P ops Q rest a w → K a w) → o.wp P a w K Q) : wpList P ops Q (o :: rest) a w :=
 wpList_step fun K hK => by rw [if_pos hg]; exact h K hK
theorem wpList_load_part {ops : Array Oper} {rest : List Oper} {o : Oper} {a : Act} {w : World} {Q : Exit → Act → World → Prop} (hgd : Region.wanted o (yielded ops a.tmps) = true) (ty : TypeId) (x : Operand) (ho : o.op = .load ty x)
 (g off n : Nat) (hx : a.eval x = .pointer (some ⟨g, off, none⟩)) (t : TypeId) (vs : List Value) (fr : Nat × Nat) (d : TypeDesc) (hg : w.heap[g]? = some (.cells vs.toArray t fr))
 (hu : P.underlying ty = some d) (hd : (match d with | .struct _ | .array _ _ => true | _ => false) = true) (hi : (P.info? ty).map (·.size) = some n) (hn : off + n ≤ vs.length)
 (h : wpList P ops Q rest (a.put o.dst (.agg ((vs.drop off).take n).toArray)) w) : wpList P ops Q (o :: rest) a w :=
 wpList_wanted hgd fun _ hK => wp_load_part ty x ho g off n hx t vs fr d hg hu hd hi hn (hK _ _ h)
/-- the whole of it is loaded -/
theorem wpList_load_all {ops : Array Oper} {rest : List Oper} {o : Oper} {a : Act} {w : World} {Q : Exit → Act → World → Prop} (hgd : Region.wanted o (yielded ops a.tmps) = true) (ty : TypeId) (x : Operand) (ho : o.op = .load ty x)
 (g : Nat) (hx : a.eval x = .pointer (some ⟨g, 0, none⟩)) (t : TypeId) (cs : Array Value) (fr : Nat × Nat) (d : TypeDesc) (hg : w.heap[g]? = some (.cells cs t fr))
 (hu : P.underlying ty = some d) (hd : (match d with | .struct _ | .array _ _ => true | _ => false) = true) (hi : (P.info? ty).map (·.size) = some cs.size)
 (h : wpList P ops Q rest (a.put o.dst (.agg cs)) w) : wpList P ops Q (o :: rest) a w :=
 wpList_wanted hgd fun _ hK => wp_load_row ty x ho g hx t cs fr d hg hu hd hi (hK _ _ h)
/-- the same as the value that an operation of a region yields -/
theorem exec_load {o : Oper} {ev : Operand → Value} {w : World} (ty : TypeId) (x : Operand) (ho : o.op = .load ty x) (p : Addr) (hx : ev x = .pointer (some p)) (v : Value) (h : (loadVar ty p).run P w = .ok v w) :
 (execOp ev o).run P w = .ok (.value v) w := by
 unfold execOp
 simp only [ho, hx, Instr.loadAt, Instr.sureAddr, Sem.run_bind, Sem.run_pure, Result.andThen_ok, h]
theorem exec_bin {o : Oper} {ev : Operand → Value} {w : World} (op : BinOp) (t t2 : TypeId) (x y : Operand) (ho : o.op = .binOp op t x y t2) (xv yv : Value) (hx : ev x = xv) (hy : ev y = yv)
 (hg : (eqGuard op t x y xv yv).run P w = .ok () w) (v : Value) (h : (binOp op t xv yv).run P w = .ok v w) : (execOp ev o).run P w = .ok (.value v) w := by
 unfold execOp
 simp only [ho, hx, hy, Sem.run_bind, Sem.run_pure, Result.andThen_ok, hg, h]
end

end Go.Proofs.YtdkegoaflabjoaaGreatDoor
namespace Go.Proofs.YtdkegoaflabjoaaGreatDoor
open Go.RowKit

/-- a part of it is written over -/
def putC (vs : List Value) (off : Nat) (cs : List Value) : List Value := vs.take off ++ cs ++ vs.drop (off + cs.length)
section
variable {P : Program}
theorem run_store_part (w : World) (g off n : Nat) (T ty : TypeId) (vs cs : List Value) (v : Value) (hv : v.cells = cs.toArray) (hn : cs.length = n) (hi : (P.info? ty).map (·.size) = some n)
 (hg : MT T w g vs) (hf : off + n ≤ vs.length) (h1 : ∀ u ∈ cs, u.oneCell' = true) :
 (storeVar ty ⟨g, off, none⟩ v).run P w = .ok () (w.setRow g (putC vs off cs).toArray) := by
 have hst := run_storeCells_at (P := P) g off T cs 0 vs.toArray w hg (by simp; omega) h1
 simp only [Nat.add_zero] at hst
 cases hq : P.info? ty with
 | none => simp [hq] at hi
 | some i =>
   have hs : i.size = n := by simpa [hq] using hi
   subst hn
   unfold storeVar
   simp [Sem.run_bind, sizeOf, typeInfo, hq, hs, hv, hst, putC]
theorem MT.put {T : TypeId} {w : World} {g : Nat} {vs : List Value} (h : MT T w g vs) (off : Nat) (cs : List Value) : MT T (w.setRow g (putC vs off cs).toArray) g (putC vs off cs) := setRow_heap w g _ _ T _ h
theorem MT.past {T : TypeId} {w : World} {M g : Nat} {vs : List Value} (h : MT T w M vs) (hne : M ≠ g) (cs : Array Value) : MT T (w.setRow g cs) M vs := (setRow_other w g M cs hne).trans h
theorem below_put {B : Nat} {w0 w : World} (h : Below B w0 w) {g : Nat} (hg : B ≤ g) (cs : Array Value) : Below B w0 (w.setRow g cs) :=
 ⟨h.os, h.tape, h.output, by simpa using h.size, fun k hk => (setRow_other w g k cs (by omega)).trans (h.block k hk)⟩
theorem putC_len {vs cs : List Value} {off : Nat} (h : off + cs.length ≤ vs.length) : (putC vs off cs).length = vs.length := by unfold putC; simp; omega
theorem wp_store {o : Oper} {a : Act} {w : World} {K : Act → World → Prop} {Q : Exit → Act → World → Prop} (ty : TypeId) (x y : Operand) (ho : o.op = .store ty x y) (hd : o.dst = none) (p : Addr) (hx : a.eval x = .pointer (some p))
 (v : Value) (hy : a.eval y = v) (w' : World) (h : (storeVar ty p v).run P w = .ok () w') (hk : K a w') : o.wp P a w K Q := by
 unfold Oper.wp execOp
 simp only [ho, hx, hy, Instr.storeAt, Instr.sureAddr, Sem.run_bind, Sem.run_pure, Result.andThen_ok, h]
 unfold Oper.upon
 rw [hd]
 exact hk
theorem wpList_store {ops : Array Oper} {rest : List Oper} {o : Oper} {a : Act} {w : World} {Q : Exit → Act → World → Prop} (hgd : Region.wanted o (yielded ops a.tmps) = true) (ty : TypeId) (x y : Operand) (ho : o.op = .store ty x y) (hd : o.dst = none) (p : Addr) (hx : a.eval x = .pointer (some p))
 (v : Value) (hy : a.eval y = v) (w' : World) (h : (storeVar ty p v).run P w = .ok () w') (hk : wpList P ops Q rest a w') : wpList P ops Q (o :: rest) a w :=
 wpList_wanted hgd fun _ hK => wp_store ty x y ho hd p hx v hy w' h (hK _ _ hk)
/-- a part of block g is written over: what the block holds, that other blocks and what was there stay -/
theorem wp_store_blk {o : Oper} {a : Act} {w : World} {K : Act → World → Prop} {Q : Exit → Act → World → Prop} (ty : TypeId) (x y : Operand) (ho : o.op = .store ty x y) (hd : o.dst = none) (g off n : Nat) (hx : a.eval x = .pointer (some ⟨g, off, none⟩))
 (v : Value) (hy : a.eval y = v) (T : TypeId) (vs cs : List Value) (hM : MT T w g vs) (hv : v.cells = cs.toArray) (hn : cs.length = n) (hi : (P.info? ty).map (·.size) = some n) (hf : off + n ≤ vs.length) (h1 : ∀ u ∈ cs, u.oneCell' = true)
 (h : ∀ w', MT T w' g (putC vs off cs) → (∀ M' T' vs', M' ≠ g → MT T' w M' vs' → MT T' w' M' vs') → (∀ B w0, B ≤ g → Below B w0 w → Below B w0 w') → K a w') : o.wp P a w K Q :=
 wp_store ty x y ho hd _ hx v hy _ (run_store_part w g off n T ty vs cs v hv hn hi hM hf h1) (h _ (hM.put off cs) (fun _ _ _ hne hm => hm.past hne _) (fun _ _ hB hb => below_put hb hB _))
theorem wpList_store_blk {ops : Array Oper} {rest : List Oper} {o : Oper} {a : Act} {w : World} {Q : Exit → Act → World → Prop} (hgd : Region.wanted o (yielded ops a.tmps) = true) (ty : TypeId) (x y : Operand) (ho : o.op = .store ty x y) (hd : o.dst = none) (g off n : Nat) (hx : a.eval x = .pointer (some ⟨g, off, none⟩))
 (v : Value) (hy : a.eval y = v) (T : TypeId) (vs cs : List Value) (hM : MT T w g vs) (hv : v.cells = cs.toArray) (hn : cs.length = n) (hi : (P.info? ty).map (·.size) = some n) (hf : off + n ≤ vs.length) (h1 : ∀ u ∈ cs, u.oneCell' = true)
 (h : ∀ w', MT T w' g (putC vs off cs) → (∀ M' T' vs', M' ≠ g → MT T' w M' vs' → MT T' w' M' vs') → (∀ B w0, B ≤ g → Below B w0 w → Below B w0 w') → wpList P ops Q rest a w') : wpList P ops Q (o :: rest) a w :=
 wpList_wanted hgd fun _ hK => wp_store_blk ty x y ho hd g off n hx v hy T vs cs hM hv hn hi hf h1 (fun w' h2 h3 h4 => hK _ _ (h w' h2 h3 h4))
end
theorem name_world {C : World → Prop} (W : World) (h : ∀ w1, w1 = W → C w1) : C W := h W rfl
theorem two {T1 T2 : TypeId} {w w1 : World} {v1 v2 : List Value} (h : w1 = ((w.alloc (.cells v1.toArray T1)).alloc (.cells v2.toArray T2))) :
 Below w.heap.size w w1 ∧ MT T1 w1 w.heap.size v1 ∧ MT T2 w1 (w.heap.size + 1) v2 := by
 subst h
 have e1 : (w.alloc (.cells v1.toArray T1)).heap.size = w.heap.size + 1 := by simp
 refine ⟨((Below.refl _ _).alloc (Nat.le_refl _) _).alloc (by omega) _, (MT.new w T1 v1).alloc _, ?_⟩
 have := MT.new (w.alloc (.cells v1.toArray T1)) T2 v2
 rw [e1] at this; exact this

end Go.Proofs.YtdkegoaflabjoaaGreatDoor
