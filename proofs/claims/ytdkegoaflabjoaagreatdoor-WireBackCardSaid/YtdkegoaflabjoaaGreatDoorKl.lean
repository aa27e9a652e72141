/-
Lists of packets in memory, as they came in and as a call builds them; the joint form, step by step. No function of the program is walked here.
-/
import Derived.Test.YtdkegoaflabjoaaGreatDoorWt
import Derived.Test.YtdkegoaflabjoaaGreatDoorWireA
import Derived.Test.YtdkegoaflabjoaaGreatDoorUsed
namespace Go.Proofs.YtdkegoaflabjoaaGreatDoor
open Go.RowKit

def gK (x : Pkt × PA) : List Value := pkC x.1 x.2
theorem gK_len (x : Pkt × PA) : (gK x).length = 34 := rfl
theorem gK_one (x : Pkt × PA) : ∀ u ∈ gK x, u.oneCell' = true := one_cells rfl
/-- the slice with this address reads as these packets, below block B -/
def KL (w : World) (B : Nat) (A : Option Addr) (xs : List (Pkt × PA)) : Prop := GL gK 34 w B A xs ∧ ∀ x ∈ xs, PInB w B x.1 x.2
theorem PInB.more {w : World} {B B' : Nat} {p : Pkt} {a : PA} (h : PInB w B p a) (hB : B ≤ B') : PInB w B' p a := ⟨h.1.more hB, h.2.1.more hB, h.2.2.1.more hB, h.2.2.2.1.more hB, h.2.2.2.2.more hB⟩
theorem PInB.pin {w : World} {p : Pkt} {a : PA} (h : PInB w w.heap.size p a) : PIn w p a := ⟨h.1, h.2.1, h.2.2.1, h.2.2.2.1, h.2.2.2.2⟩
theorem KL.nil (w : World) (B : Nat) (A : Option Addr) : KL w B A [] := ⟨GL.nil _ _ _, fun x hx => by cases hx⟩
theorem KL.below {w w' : World} {B : Nat} {A : Option Addr} {xs : List (Pkt × PA)} (h : KL w B A xs) (hb : Below B w w') : KL w' B A xs := ⟨h.1.below hb, fun x hx => (h.2 x hx).below hb⟩
theorem KL.more {w : World} {B B' : Nat} {A : Option Addr} {xs : List (Pkt × PA)} (h : KL w B A xs) (hB : B ≤ B') : KL w B' A xs := ⟨h.1.more hB, fun x hx => (h.2 x hx).more hB⟩
theorem KL.step {w w' : World} {A : Option Addr} {xs : List (Pkt × PA)} (h : KL w w.heap.size A xs) (hb : Below w.heap.size w w') : KL w' w'.heap.size A xs := (h.below hb).more hb.size
section
variable {P : Program}
/-- a struct is loaded from cells that hold it, wherever they lie -/
theorem run_load_cells (w : World) (b o : Nat) (cs : List Value) (ty : TypeId) (d : TypeDesc) (hc : ∀ i v, cs[i]? = some v → w.cell? ⟨b, o + i, none⟩ = some v)
 (hu : P.underlying ty = some d) (hd : (match d with | .struct _ | .array _ _ => true | _ => false) = true) (hi : (P.info? ty).map (·.size) = some cs.length) :
 (loadVar ty ⟨b, o, none⟩).run P w = .ok (.agg cs.toArray) w := by
 have hl : (loadCells ⟨b, o, none⟩ cs.length).run P w = .ok cs.toArray w :=
  run_loadCells_list (P := P) w ⟨b, o, none⟩ cs (fun j v hv => by
   have hadd : (⟨b, o, none⟩ : Addr).add j = ⟨b, o + j, none⟩ := by unfold Addr.add; split <;> simp_all
   rw [hadd]
   exact hc j v hv)
 cases hq : P.info? ty with
 | none => simp [hq] at hi
 | some i =>
   have hs : i.size = cs.length := by simpa [hq] using hi
   have hagg : (isAgg ty).run P w = .ok true w := by
    unfold isAgg
    rw [Sem.run_bind, run_underlying hu w]
    cases d <;> simp_all
   simp [loadVar, Sem.run_bind, hagg, sizeOf, typeInfo, hq, hs, hl]
theorem wpList_load_v {ops : Array Oper} {rest : List Oper} {o : Oper} {a : Act} {w : World} {Q : Exit → Act → World → Prop} (hgd : Region.wanted o (yielded ops a.tmps) = true) (ty : TypeId) (x : Operand) (ho : o.op = .load ty x)
 (p : Addr) (hx : a.eval x = .pointer (some p)) (v : Value) (hl : (loadVar ty p).run P w = .ok v w) (h : wpList P ops Q rest (a.put o.dst v) w) : wpList P ops Q (o :: rest) a w :=
 wpList_wanted hgd fun _ hK => by
  unfold Oper.wp execOp
  simp only [ho, hx, Instr.loadAt, Instr.sureAddr, Sem.run_bind, Sem.run_pure, Result.andThen_ok, hl]
  exact hK _ _ h
end
theorem KL.at_ {w : World} {B : Nat} {A : Option Addr} {xs : List (Pkt × PA)} (h : KL w B A xs) {j : Nat} {x : Pkt × PA} (hx : xs[j]? = some x) :
 ∃ b o, A = some ⟨b, o, none⟩ ∧ b < B ∧ (loadVar 38 ⟨b, o + j * 34, none⟩).run Tryz.prog w = .ok (.agg (pkC x.1 x.2).toArray) w ∧ PInB w B x.1 x.2 := by
 obtain ⟨b, o, e, hb, hc⟩ := h.1 (Nat.lt_of_le_of_lt (Nat.zero_le _) (List.getElem?_eq_some_iff.1 hx).1)
 exact ⟨b, o, e, hb, run_load_cells w b (o + j * 34) (pkC x.1 x.2) 38 _ (fun i v hv => hc j x i v hx hv) Tryz.underlying38 rfl info33, h.2 x (List.mem_of_getElem? hx)⟩

theorem encAllF_app : ∀ (xs ys : List Pkt) (acc : List UInt8), (∀ p ∈ xs, checkP p = 0) → encAllF (xs ++ ys) acc = encAllF ys (acc ++ encG encB xs)
 | [], ys, acc, _ => by simp [encG]
 | p :: r, ys, acc, h => by
   rw [List.cons_append, encAllF, if_neg (by simp [h p (by simp)]), encAllF_app r ys _ (fun q hq => h q (by simp [hq])), encG_cons, List.append_assoc]
theorem encAllR_bad {xs : List Pkt} {j : Nat} {p : Pkt} (hx : xs[j]? = some p) (hv : ∀ q ∈ xs.take j, checkP q = 0) (hp : checkP p ≠ 0) : encAllR xs = ([], checkP p) := by
 have e : xs = xs.take j ++ (p :: xs.drop (j + 1)) := by
  have hj := (List.getElem?_eq_some_iff.1 hx)
  obtain ⟨hlt, hg⟩ := hj
  rw [← hg, ← List.drop_eq_getElem_cons hlt, List.take_append_drop]
 unfold encAllR
 rw [e, encAllF_app _ _ _ hv, encAllF, if_pos hp]
theorem encAllR_good {xs : List Pkt} (hv : ∀ q ∈ xs, checkP q = 0) : encAllR xs = (encG encB xs, 0) := by
 unfold encAllR
 rw [encAllF_ok xs [] hv, List.nil_append]
theorem encB_len {p : Pkt} (h : checkP p = 0) : (encB p).length ≤ 4020 := by
 unfold encB
 have h1 := encT_len (bs (encPk p))
 have h2 := encPk_le h
 rw [size_bs] at h1
 omega

end Go.Proofs.YtdkegoaflabjoaaGreatDoor
