/-
  Whole structs in blocks of their own: stored whole, in the order of the text. No function of the program is walked here.
-/
import Derived.Test.YtbmeimpfehjnfaaIdG
import Derived.Laws.CopyRow
import Derived.Deep.RegionHeld3
namespace Go.Proofs.Ytbmeimpfehjnfaa.S2
open Go.RowKit

section
variable {P : Program}
theorem run_store_all (w : World) (g : Nat) (T ty : TypeId) (vs cs : List Value) (v : Value) (hv : v.cells = cs.toArray) (hi : (P.info? ty).map (·.size) = some cs.length)
    (hg : BK T w g vs) (hf : cs.length = vs.length) (h1 : ∀ u ∈ cs, u.oneCell' = true) :
    (storeVar ty ⟨g, 0, none⟩ v).run P w = .ok () (w.setRow g cs.toArray) := by
  have hst := run_storeCells_at (P := P) g 0 T cs 0 vs.toArray w hg (by simp; omega) h1
  simp only [Nat.add_zero, List.take_zero, List.nil_append, Nat.zero_add] at hst
  cases hq : P.info? ty with
  | none => simp [hq] at hi
  | some i =>
    have hs : i.size = cs.length := by simpa [hq] using hi
    unfold storeVar
    simp [Sem.run_bind, sizeOf, typeInfo, hq, hs, hv, hst, hf]
theorem BK.put {T : TypeId} {w : World} {g : Nat} {vs : List Value} (h : BK T w g vs) (cs : List Value) : BK T (w.setRow g cs.toArray) g cs := setRow_heap w g _ _ T _ h
theorem BK.past {T : TypeId} {w : World} {M g : Nat} {vs : List Value} (h : BK T w M vs) (hne : M ≠ g) (cs : Array Value) : BK T (w.setRow g cs) M vs := (setRow_other w g M cs hne).trans h
theorem below_put {B : Nat} {w0 w : World} (h : Below B w0 w) {g : Nat} (hg : B ≤ g) (cs : Array Value) : Below B w0 (w.setRow g cs) :=
  ⟨h.os, h.tape, h.output, by simpa using h.size, fun k hk => (setRow_other w g k cs (by omega)).trans (h.block k hk)⟩
/-- what a whole store into block g leaves -/
structure Put (g : Nat) (w w' : World) : Prop where
  other : ∀ {M : Nat} {T : TypeId} {vs : List Value}, BK T w M vs → M ≠ g → BK T w' M vs
  below : ∀ {B : Nat} {w0 : World}, Below B w0 w → B ≤ g → Below B w0 w'
  size : w'.heap.size = w.heap.size
  cell : ∀ {p : Addr}, p.block ≠ g → w'.cell? p = w.cell? p
theorem put_row (w : World) (g : Nat) (cs : Array Value) : Put g w (w.setRow g cs) :=
  ⟨fun h hne => h.past hne cs, fun h hg => below_put h hg cs, by simp, fun {p} hp => World.cell?_of_block (setRow_other w g p.block cs hp)⟩
theorem wp_store {o : Oper} {a : Act} {w : World} {K : Act → World → Prop} {Q : Exit → Act → World → Prop} (ty : TypeId) (x y : Operand) (ho : o.op = .store ty x y) (hd : o.dst = none) (p : Addr) (hx : a.eval x = .pointer (some p))
    (v : Value) (hy : a.eval y = v) (w' : World) (h : (storeVar ty p v).run P w = .ok () w') (hk : K a w') : o.wp P a w K Q := by
  unfold Oper.wp execOp
  simp only [ho, hx, hy, Instr.storeAt, Instr.sureAddr, Sem.run_bind, Sem.run_pure, Result.andThen_ok, h]
  unfold Oper.upon
  rw [hd]
  exact hk
theorem wpList_wanted {ops : Array Oper} {rest : List Oper} {o : Oper} {a : Act} {w : World} {Q : Exit → Act → World → Prop} (hg : Region.wanted o (yielded ops a.tmps) = true)
    (h : ∀ K : Act → World → Prop, (∀ a w, wpList P ops Q rest a w → K a w) → o.wp P a w K Q) : wpList P ops Q (o :: rest) a w :=
  wpList_step fun K hK => by rw [if_pos hg]; exact h K hK
theorem wp_store_all {o : Oper} {a : Act} {w : World} {K : Act → World → Prop} {Q : Exit → Act → World → Prop} (ty : TypeId) (x y : Operand) (ho : o.op = .store ty x y) (hd : o.dst = none) (g : Nat) (hx : a.eval x = .pointer (some ⟨g, 0, none⟩))
    (cs : List Value) (hy : a.eval y = .agg cs.toArray) (T : TypeId) (vs : List Value) (hM : BK T w g vs) (hi : (P.info? ty).map (·.size) = some cs.length) (hf : cs.length = vs.length) (h1 : ∀ u ∈ cs, u.oneCell' = true)
    (h : ∀ w', BK T w' g cs → Put g w w' → K a w') : o.wp P a w K Q :=
  wp_store ty x y ho hd _ hx _ hy _ (run_store_all w g T ty vs cs _ rfl hi hM hf h1) (h _ (hM.put cs) (put_row w g _))
theorem wpList_store_all {ops : Array Oper} {rest : List Oper} {o : Oper} {a : Act} {w : World} {Q : Exit → Act → World → Prop} (hgd : Region.wanted o (yielded ops a.tmps) = true) (ty : TypeId) (x y : Operand) (ho : o.op = .store ty x y) (hd : o.dst = none) (g : Nat) (hx : a.eval x = .pointer (some ⟨g, 0, none⟩))
    (cs : List Value) (hy : a.eval y = .agg cs.toArray) (T : TypeId) (vs : List Value) (hM : BK T w g vs) (hi : (P.info? ty).map (·.size) = some cs.length) (hf : cs.length = vs.length) (h1 : ∀ u ∈ cs, u.oneCell' = true)
    (h : ∀ w', BK T w' g cs → Put g w w' → wpList P ops Q rest a w') : wpList P ops Q (o :: rest) a w :=
  wpList_wanted hgd fun _ hK => wp_store_all ty x y ho hd g hx cs hy T vs hM hi hf h1 (fun w' h2 h3 => hK _ _ (h w' h2 h3))
end
/-- the results: a struct in a block of its own, and a value -/
theorem res_cell_tmp {P : Program} {fn : Func} {p q : Tmp} {ty : TypeId} (h : fn.results = #[.cell p ty, .tmp q]) (tmps : Array Value) (w : World) (g : Nat) (t : TypeId) (vs : List Value) (d : TypeDesc) (v : Value)
    (hp : tmps.getD p undef = .pointer (some ⟨g, 0, none⟩)) (hq : tmps.getD q undef = v) (hg : BK t w g vs)
    (hu : P.underlying ty = some d) (hd : (match d with | .struct _ | .array _ _ => true | _ => false) = true) (hi : (P.info? ty).map (·.size) = some vs.length) :
    (results fn tmps).run P w = .ok (.tuple #[.agg vs.toArray, v]) w := by
  have hp' : tmps[p]?.getD undef = .pointer (some ⟨g, 0, none⟩) := by simpa using hp
  have hq' : tmps[q]?.getD undef = v := by simpa using hq
  simp [results, h, hp', hq', asAddr, run_load_all hg hu hd hi]
theorem res_cell {P : Program} {fn : Func} {p : Tmp} {ty : TypeId} (h : fn.results = #[.cell p ty]) (tmps : Array Value) (w : World) (g : Nat) (t : TypeId) (vs : List Value) (d : TypeDesc)
    (hp : tmps.getD p undef = .pointer (some ⟨g, 0, none⟩)) (hg : BK t w g vs)
    (hu : P.underlying ty = some d) (hd : (match d with | .struct _ | .array _ _ => true | _ => false) = true) (hi : (P.info? ty).map (·.size) = some vs.length) :
    (results fn tmps).run P w = .ok (.agg vs.toArray) w := by
  have hp' : tmps[p]?.getD undef = .pointer (some ⟨g, 0, none⟩) := by simpa using hp
  simp [results, h, hp', asAddr, run_load_all hg hu hd hi]
theorem below_new (w : World) (o : Obj) : Below w.heap.size w (w.alloc o) := (Below.refl _ _).alloc (Nat.le_refl _) _
theorem all_one {vs : List Value} (h : vs.all (fun v => v.oneCell') = true) : ∀ u ∈ vs, u.oneCell' = true := fun u hu => List.all_eq_true.1 h u hu
/-- a list stays behind a store elsewhere -/
theorem IL.put {w w' : World} {g : Nat} {A : Option Addr} {X : List Int} (h : IL w w.heap.size A X) (hp : Put g w w') (hne : ∀ b o, A = some ⟨b, o, none⟩ → 0 < X.length → b ≠ g) : IL w' w'.heap.size A X := fun hn => by
  obtain ⟨b, o, e, hb, hc⟩ := h hn
  exact ⟨b, o, e, by rw [hp.size]; exact hb, fun j x hx => (hp.cell (p := ⟨b, o + j, none⟩) (hne b o e hn)).trans (hc j x hx)⟩
theorem IL.lt {w : World} {A : Option Addr} {X : List Int} (h : IL w w.heap.size A X) (b o : Nat) (e : A = some ⟨b, o, none⟩) (hn : 0 < X.length) : b < w.heap.size := by
  obtain ⟨b', o', e', hb, _⟩ := h hn
  rw [e] at e'
  simp only [Option.some.injEq, Addr.mk.injEq, and_true] at e'
  omega
/-- a list beside block g -/
def Off (g : Nat) (A : Option Addr) (X : List Int) : Prop := ∀ b o, A = some ⟨b, o, none⟩ → 0 < X.length → b ≠ g
theorem Off.fr {g : Nat} {W : World} {A A' : Option Addr} {X X' : List Int} (h : Off g A X) (hf : Fr W A X A' X') (hg : g < W.heap.size) : Off g A' X' := fun b o e hn => by
  rcases hf with rfl | ⟨rfl, hX⟩ | hf
  · simp at hn
  · refine h b o e ?_
    rcases Nat.eq_zero_or_pos X.length with h0 | h0
    · have := hX (List.eq_nil_of_length_eq_zero h0)
      subst this
      simp at hn
    · exact h0
  · have := hf b o e
    omega
theorem Off.lt {w : World} {A : Option Addr} {X : List Int} {g : Nat} (h : IL w w.heap.size A X) (hg : w.heap.size ≤ g) : Off g A X := fun b o e hn => by
  have := IL.lt h b o e hn
  omega
end Go.Proofs.Ytbmeimpfehjnfaa.S2
