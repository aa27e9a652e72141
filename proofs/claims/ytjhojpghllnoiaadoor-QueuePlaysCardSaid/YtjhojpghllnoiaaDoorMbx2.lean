/-
  Stores into a struct in a block of its own, of one cell and of a part: what the block holds behind them. No function of the program is walked here.
-/
import Derived.Test.YtjhojpghllnoiaaDoorMbx
import Derived.Laws.CopyRow
namespace Go.Proofs.YtjhojpghllnoiaaDoor
open Go.RowKit

/-- a part of it is written over -/
def putC (vs : List Value) (off : Nat) (cs : List Value) : List Value := vs.take off ++ cs ++ vs.drop (off + cs.length)
section
variable {P : Program}
theorem run_store_part (w : World) (g off n : Nat) (T ty : TypeId) (vs cs : List Value) (v : Value) (hv : v.cells = cs.toArray) (hn : cs.length = n) (hi : (P.info? ty).map (·.size) = some n)
    (hg : MT T w g vs) (hf : off + n ≤ vs.length) (h1 : ∀ u ∈ cs, u.oneCell' = true) :
    (storeVar ty ⟨g, off, none⟩ v).run P w = .ok () (w.setRow g (putC vs off cs).toArray) := by
  have hst := run_storeCells_at (P := P) g off T cs 0 vs.toArray w hg (by simp; omega) h1
  simp only [Nat.add_zero] at hst
  cases hq : P.info? ty with
  | none => simp [hq] at hi
  | some i =>
    have hs : i.size = n := by simpa [hq] using hi
    subst hn
    unfold storeVar
    simp [Sem.run_bind, sizeOf, typeInfo, hq, hs, hv, hst, putC]
theorem MT.put {T : TypeId} {w : World} {g : Nat} {vs : List Value} (h : MT T w g vs) (off : Nat) (cs : List Value) : MT T (w.setRow g (putC vs off cs).toArray) g (putC vs off cs) := setRow_heap w g _ _ T _ h
theorem MT.past {T : TypeId} {w : World} {M g : Nat} {vs : List Value} (h : MT T w M vs) (hne : M ≠ g) (cs : Array Value) : MT T (w.setRow g cs) M vs := (setRow_other w g M cs hne).trans h
theorem below_put {B : Nat} {w0 w : World} (h : Below B w0 w) {g : Nat} (hg : B ≤ g) (cs : Array Value) : Below B w0 (w.setRow g cs) :=
  ⟨h.os, h.tape, h.output, by simpa using h.size, fun k hk => (setRow_other w g k cs (by omega)).trans (h.block k hk)⟩
theorem putC_len {vs cs : List Value} {off : Nat} (h : off + cs.length ≤ vs.length) : (putC vs off cs).length = vs.length := by unfold putC; simp; omega
theorem wp_store {o : Oper} {a : Act} {w : World} {K : Act → World → Prop} {Q : Exit → Act → World → Prop} (ty : TypeId) (x y : Operand) (ho : o.op = .store ty x y) (hd : o.dst = none) (p : Addr) (hx : a.eval x = .pointer (some p))
    (v : Value) (hy : a.eval y = v) (w' : World) (h : (storeVar ty p v).run P w = .ok () w') (hk : K a w') : o.wp P a w K Q := by
  unfold Oper.wp execOp
  simp only [ho, hx, hy, Instr.storeAt, Instr.sureAddr, Sem.run_bind, Sem.run_pure, Result.andThen_ok, h]
  unfold Oper.upon
  rw [hd]
  exact hk
theorem wpList_store {ops : Array Oper} {rest : List Oper} {o : Oper} {a : Act} {w : World} {Q : Exit → Act → World → Prop} (hgd : Region.wanted o (yielded ops a.tmps) = true) (ty : TypeId) (x y : Operand) (ho : o.op = .store ty x y) (hd : o.dst = none) (p : Addr) (hx : a.eval x = .pointer (some p))
    (v : Value) (hy : a.eval y = v) (w' : World) (h : (storeVar ty p v).run P w = .ok () w') (hk : wpList P ops Q rest a w') : wpList P ops Q (o :: rest) a w :=
  wpList_wanted hgd fun _ hK => wp_store ty x y ho hd p hx v hy w' h (hK _ _ hk)
/-- a part of block g is written over: what the block holds, that other blocks and what was there stay -/
theorem wp_store_blk {o : Oper} {a : Act} {w : World} {K : Act → World → Prop} {Q : Exit → Act → World → Prop} (ty : TypeId) (x y : Operand) (ho : o.op = .store ty x y) (hd : o.dst = none) (g off n : Nat) (hx : a.eval x = .pointer (some ⟨g, off, none⟩))
    (v : Value) (hy : a.eval y = v) (T : TypeId) (vs cs : List Value) (hM : MT T w g vs) (hv : v.cells = cs.toArray) (hn : cs.length = n) (hi : (P.info? ty).map (·.size) = some n) (hf : off + n ≤ vs.length) (h1 : ∀ u ∈ cs, u.oneCell' = true)
    (h : ∀ w', MT T w' g (putC vs off cs) → (∀ M' T' vs', M' ≠ g → MT T' w M' vs' → MT T' w' M' vs') → (∀ B w0, B ≤ g → Below B w0 w → Below B w0 w') → K a w') : o.wp P a w K Q :=
  wp_store ty x y ho hd _ hx v hy _ (run_store_part w g off n T ty vs cs v hv hn hi hM hf h1) (h _ (hM.put off cs) (fun _ _ _ hne hm => hm.past hne _) (fun _ _ hB hb => below_put hb hB _))
theorem wpList_store_blk {ops : Array Oper} {rest : List Oper} {o : Oper} {a : Act} {w : World} {Q : Exit → Act → World → Prop} (hgd : Region.wanted o (yielded ops a.tmps) = true) (ty : TypeId) (x y : Operand) (ho : o.op = .store ty x y) (hd : o.dst = none) (g off n : Nat) (hx : a.eval x = .pointer (some ⟨g, off, none⟩))
    (v : Value) (hy : a.eval y = v) (T : TypeId) (vs cs : List Value) (hM : MT T w g vs) (hv : v.cells = cs.toArray) (hn : cs.length = n) (hi : (P.info? ty).map (·.size) = some n) (hf : off + n ≤ vs.length) (h1 : ∀ u ∈ cs, u.oneCell' = true)
    (h : ∀ w', MT T w' g (putC vs off cs) → (∀ M' T' vs', M' ≠ g → MT T' w M' vs' → MT T' w' M' vs') → (∀ B w0, B ≤ g → Below B w0 w → Below B w0 w') → wpList P ops Q rest a w') : wpList P ops Q (o :: rest) a w :=
  wpList_wanted hgd fun _ hK => wp_store_blk ty x y ho hd g off n hx v hy T vs cs hM hv hn hi hf h1 (fun w' h2 h3 h4 => hK _ _ (h w' h2 h3 h4))
end
theorem name_world {C : World → Prop} (W : World) (h : ∀ w1, w1 = W → C w1) : C W := h W rfl
/-- three boxes in a row -/
theorem three {T1 T2 T3 : TypeId} {w w1 : World} {v1 v2 v3 : List Value} (h : w1 = (((w.alloc (.cells v1.toArray T1)).alloc (.cells v2.toArray T2)).alloc (.cells v3.toArray T3))) :
    Below w.heap.size w w1 ∧ MT T1 w1 w.heap.size v1 ∧ MT T2 w1 (w.heap.size + 1) v2 ∧ MT T3 w1 (w.heap.size + 1 + 1) v3 := by
  subst h
  have e1 : (w.alloc (.cells v1.toArray T1)).heap.size = w.heap.size + 1 := by simp
  have e2 : ((w.alloc (.cells v1.toArray T1)).alloc (.cells v2.toArray T2)).heap.size = w.heap.size + 1 + 1 := by simp
  refine ⟨(((Below.refl _ _).alloc (Nat.le_refl _) _).alloc (by omega) _).alloc (by omega) _, ((MT.new w T1 v1).alloc _).alloc _, ?_, ?_⟩
  · have := (MT.new (w.alloc (.cells v1.toArray T1)) T2 v2).alloc (.cells v3.toArray T3)
    rw [e1] at this; exact this
  · have := MT.new ((w.alloc (.cells v1.toArray T1)).alloc (.cells v2.toArray T2)) T3 v3
    rw [e2] at this; exact this
theorem two {T1 T2 : TypeId} {w w1 : World} {v1 v2 : List Value} (h : w1 = ((w.alloc (.cells v1.toArray T1)).alloc (.cells v2.toArray T2))) :
    Below w.heap.size w w1 ∧ MT T1 w1 w.heap.size v1 ∧ MT T2 w1 (w.heap.size + 1) v2 := by
  subst h
  have e1 : (w.alloc (.cells v1.toArray T1)).heap.size = w.heap.size + 1 := by simp
  refine ⟨((Below.refl _ _).alloc (Nat.le_refl _) _).alloc (by omega) _, (MT.new w T1 v1).alloc _, ?_⟩
  have := MT.new (w.alloc (.cells v1.toArray T1)) T2 v2
  rw [e1] at this; exact this

end Go.Proofs.YtjhojpghllnoiaaDoor
