/-
What Clone and Insert of slices answer at properties, of a slice of the call's own. Conditions: the list reads as data; few elements.
What compareKey of message and BinarySearchFunc of slices with it answer: the place of the first key that is not less, and whether it is the key. Conditions: the list reads as data, its keys ascend; lengths fit an int.
Properties in order as plain data: what a list without error is, where a key stands, what setting makes of it. No function of the program is walked here.
What Set of message answers: the list with the value, or the error. Conditions: the list reads as data.
What Set of the specification answers: the list with the value, or the error. Conditions: the list reads as data; lengths fit an int.
What Set of the specification answers, errors too; few and small of brokerlaw05. Conditions: the list reads as data; lengths fit an int.
-/
import Derived.Test.YtdkegoaflabjoaaGreatDoorPropP
import Derived.Test.YtdkegoaflabjoaaGreatDoorCheck
import Derived.Deep.RegionLaw
import Derived.Shelf.Spec.SlicesInsertGrow
set_option maxHeartbeats 8000000
set_option maxRecDepth 20000
namespace Go.Proofs.YtdkegoaflabjoaaGreatDoor
open Go.RowKit

theorem infoP : (Tryz.prog.info? 114).map (fun i => (i.zero, i.size, i.bytes)) = some (some (.agg #[.string ByteArray.empty, .string ByteArray.empty]), 2, 32) := by kernel_rfl
abbrev OwnP (w : World) (B : Nat) (v : Value) (xs : List PR) : Prop := OwnG 114 gP 2 w B v xs

/-- a block that holds one property -/
def VB (w : World) (vb : Nat) (x : PR) : Prop := w.heap[vb]? = some (.cells (gP x).toArray 114 (0, 0))
theorem VB.cell {w : World} {vb : Nat} {x : PR} (h : VB w vb x) : ∀ j v, (gP x)[j]? = some v → w.cell? ⟨vb, j, none⟩ = some v := fun j v hj => by
 unfold VB at h
 unfold World.cell?
 simp only [h]
 simpa using hj
theorem VB.lt {w : World} {vb : Nat} {x : PR} (h : VB w vb x) : vb < w.heap.size := (Array.getElem?_eq_some_iff.1 h).1
theorem VB.free {w : World} {vb : Nat} {x : PR} (h : VB w vb x) (j : Nat) : w.frozen? ⟨vb, j, none⟩ = false := by
 unfold World.frozen?
 simp only [show w.heap[vb]? = _ from h]
 simp
theorem cells_at {w : World} {q : Nat} {cur : Array Value} {t : TypeId} (h : w.heap[q]? = some (.cells cur t (0, 0))) (j : Nat) : w.cell? ⟨q, j, none⟩ = cur[j]? := by
 unfold World.cell?
 simp only [h]
 simp

theorem VB.setRow {W : World} {vb q : Nat} {x : PR} (h : VB W vb x) (hne : vb ≠ q) (cs : Array Value) : VB (W.setRow q cs) vb x := by
 unfold VB at h ⊢
 rw [setRow_other W q vb cs hne]; exact h

end Go.Proofs.YtdkegoaflabjoaaGreatDoor
namespace Go.Proofs.YtdkegoaflabjoaaGreatDoor
open Go.RowKit

/-- the place of a key -/
def posK (l : List PR) (key : ByteArray) : Nat := (l.filter fun x => ltS x.1 key).length
/-- everything below i is less, everything from j on is not -/
def BsRel (l : List PR) (key : ByteArray) (i j : Nat) : Prop := i ≤ j ∧ j ≤ l.length ∧ (∀ k x, k < i → l[k]? = some x → ltS x.1 key = true) ∧ ∀ k x, j ≤ k → l[k]? = some x → ltS x.1 key = false
theorem BsRel.start (l : List PR) (key : ByteArray) : BsRel l key 0 l.length := ⟨Nat.zero_le _, Nat.le_refl _, fun _ _ h => absurd h (Nat.not_lt_zero _), fun k x h hx => by
 have := (List.getElem?_eq_some_iff.1 hx).1; omega⟩
theorem filter_pre {α : Type} (p : α → Bool) : ∀ (l : List α) (i : Nat), i ≤ l.length → (∀ k x, k < i → l[k]? = some x → p x = true) → (∀ k x, i ≤ k → l[k]? = some x → p x = false) → l.filter p = l.take i := by
 intro l
 induction l with
 | nil => intro i _ _ _; simp
 | cons a l ih =>
   intro i hi h1 h2
   cases i with
   | zero =>
     rw [List.take_zero, List.filter_eq_nil_iff]
     intro x hx
     obtain ⟨k, hk⟩ := List.mem_iff_getElem?.1 hx
     rw [h2 k x (Nat.zero_le _) hk]; simp
   | succ i =>
     have ha : p a = true := h1 0 a (by omega) rfl
     rw [List.filter_cons_of_pos ha, List.take_succ_cons, ih i (by simpa using hi) (fun k x hk hx => h1 (k + 1) x (by omega) hx) (fun k x hk hx => h2 (k + 1) x (by omega) hx)]
theorem BsRel.pos {l : List PR} {key : ByteArray} {i : Nat} (hr : BsRel l key i i) : posK l key = i := by
 unfold posK
 rw [filter_pre _ l i hr.2.1 hr.2.2.1 hr.2.2.2, List.length_take]
 have := hr.2.1
 omega
end Go.Proofs.YtdkegoaflabjoaaGreatDoor
namespace Go.Proofs.YtdkegoaflabjoaaGreatDoor
open Go.RowKit

abbrev PW (l : List PR) : Prop := l.Pairwise fun x y => ltS x.1 y.1 = true
def okP (x : PR) : Prop := keyR x.1 = true ∧ ¬ 160 < x.2.size
theorem propsF_parts : ∀ (l : List PR) (p : Option ByteArray), propsF p l = 0 → (∀ q, p = some q → ∀ x ∈ l, ltS q x.1 = true) ∧ PW l ∧ ∀ x ∈ l, okP x := by
 intro l
 induction l with
 | nil => intro p _; exact ⟨fun _ _ _ h => (by cases h), List.Pairwise.nil, fun _ h => (by cases h)⟩
 | cons x r ih =>
   intro p h
   rw [propsF_cons] at h
   by_cases h1 : keyR x.1 = false
   · rw [if_pos h1] at h; cases h
   rw [if_neg h1] at h
   by_cases h2 : 160 < x.2.size
   · rw [if_pos h2] at h; cases h
   rw [if_neg h2] at h
   have hh : (∀ q, p = some q → ltS q x.1 = true) ∧ propsF (some x.1) r = 0 := by
    cases p with
    | none => exact ⟨(fun _ h => by cases h), by simpa using h⟩
    | some q =>
      dsimp only at h
      cases hq : ltS q x.1
      · simp [hq] at h
      · exact ⟨(fun q' e => by rw [← Option.some.inj e]; exact hq), by simpa [hq] using h⟩
   obtain ⟨h3, h4⟩ := hh
   obtain ⟨i1, i2, i3⟩ := ih _ h4
   have i1' := i1 x.1 rfl
   refine ⟨fun q hq y hy => ?_, List.Pairwise.cons i1' i2, fun y hy => ?_⟩
   · subst hq
     have hqx : ltS q x.1 = true := h3 q rfl
     rcases List.mem_cons.1 hy with rfl | hy
     · exact hqx
     · exact ltS_trans hqx (i1' y hy)
   · rcases List.mem_cons.1 hy with rfl | hy
     · exact ⟨by simpa using h1, h2⟩
     · exact i3 y hy
theorem propsR_parts {l : List PR} (h : propsR l = 0) : l.length ≤ 8 ∧ PW l ∧ ∀ x ∈ l, okP x := by
 unfold propsR at h
 by_cases h8 : 8 < l.length
 · rw [if_pos h8] at h; cases h
 · rw [if_neg h8] at h
   obtain ⟨_, h2, h3⟩ := propsF_parts l none h
   exact ⟨by omega, h2, h3⟩
end Go.Proofs.YtdkegoaflabjoaaGreatDoor
namespace Go.Proofs.YtdkegoaflabjoaaGreatDoor
open Go.RowKit

end Go.Proofs.YtdkegoaflabjoaaGreatDoor
namespace Go.Proofs.YtdkegoaflabjoaaGreatDoor
open Go.RowKit

section
variable {ops : Array Oper} {rest : List Oper} {o : Oper} {a : Act} {Q : Exit → Act → World → Prop}
/-- append of one property that was just laid in a block of its own -/
theorem wpList_appP1 (wr : World) (hgd : o.guard = none) (s x : Operand) (ho : o.op = .call { callee := .builtin .append, args := #[s, x], argTypes := #[29, 29] })
 (B : Nat) (v : Value) (xs : List PR) (k u : ByteArray) (hown : OwnP wr B v xs) (hs : a.eval s = v) (hx : a.eval x = .slice (some ⟨wr.heap.size, 0, none⟩) 1 1) (w0 : World) (hb : Below B w0 wr) (hB : B ≤ wr.heap.size)
 (hn : xs.length ≤ 100000) (h : ∀ v' w', OwnP w' B v' (xs ++ [(k, u)]) → Below B w0 w' → B ≤ w'.heap.size → wpList Tryz.prog ops Q rest (a.put o.dst v') w') : wpList Tryz.prog ops Q (o :: rest) a (wr.alloc (.cells #[.string k, .string u] 114)) :=
 wpList_appG (g := gP) (k := 2) (e := 114) (by decide) (wr.alloc (.cells (gP (k, u)).toArray 114)) hgd s x 29 29 ho (.agg #[.string ByteArray.empty, .string ByteArray.empty]) 32 Tryz.underlying29 infoP rfl (by decide) B v xs [(k, u)] hs (hown.alloc _) _ hx (srcG_one gP_len gP_one Tryz.underlying29 wr (k, u)) w0 (hb.alloc hB _) (by simp; omega) (by simp; omega) h
end

end Go.Proofs.YtdkegoaflabjoaaGreatDoor
namespace Go.Proofs.YtdkegoaflabjoaaGreatDoor
open Go.RowKit

def FewUpto (l : List PR) (i : Nat) : Prop := ∀ (j : Nat) (x : PR), j < i → l[j]? = some x → x.1.size ≤ 2400 ∧ x.2.size ≤ 2400
theorem FewUpto.succ {l : List PR} {i : Nat} {x : PR} (h : FewUpto l i) (hx : l[i]? = some x) (hs : x.1.size ≤ 2400 ∧ x.2.size ≤ 2400) : FewUpto l (i + 1) := fun j y hj hy => by
 rcases Nat.lt_succ_iff_lt_or_eq.1 hj with h' | h'
 · exact h j y h' hy
 · subst h'
   rw [hx] at hy
   rw [← Option.some.inj hy]; exact hs
end Go.Proofs.YtdkegoaflabjoaaGreatDoor
