/-
  Consumers in memory: a list of them as it came in, one loaded, one in a block of its own. No function of the program is walked here.
-/
import Derived.Test.YtjkhfifnfgchgaaFaP
import Derived.Test.YtjkhfifnfgchgaaNames
import Derived.Test.YtjkhfifnfgchgaaRow
import Derived.Test.YtjkhfifnfgchgaaBlk
import Derived.Laws.StructEq
namespace Go.Proofs.Ytjkhfifnfgchgaa
open Go.RowKit
open S2 (BK Put)

def gC (x : Cs) : List Value := [.int .i64 x.tag, .int .i64 x.conn, .string x.qu, .int .i64 x.pre, .int .i64 x.una]
def csV (x : Cs) : Value := .agg (gC x).toArray
def Cs.zero : Cs := ⟨0, 0, ByteArray.empty, 0, 0⟩
theorem gC_len (x : Cs) : (gC x).length = 5 := rfl
theorem gC_one (x : Cs) : ∀ u ∈ gC x, u.oneCell' = true := fun u hu => List.all_eq_true.1 (show (gC x).all (fun v => v.oneCell') = true from rfl) u hu
theorem conSize : (Try.prog.info? 25).map (·.size) = some 5 := by kernel_rfl
theorem conInfo : (Try.prog.info? 25).map (fun i => (i.zero, i.size, i.bytes)) = some (some (.agg #[.int .i64 0, .int .i64 0, .string ByteArray.empty, .int .i64 0, .int .i64 0]), 5, 48) := by kernel_rfl
abbrev CsL (w : World) (B : Nat) (A : Option Addr) (xs : List Cs) : Prop := GL gC 5 w B A xs
theorem CsL.at_ {w : World} {B : Nat} {A : Option Addr} {xs : List Cs} (h : CsL w B A xs) {j : Nat} {x : Cs} (hx : xs[j]? = some x) :
    ∃ b o, A = some ⟨b, o, none⟩ ∧ b < B ∧ ∀ i v, (gC x)[i]? = some v → w.cell? ⟨b, o + j * 5 + i, none⟩ = some v := by
  obtain ⟨b, o, e, hb, hc⟩ := h (Nat.lt_of_le_of_lt (Nat.zero_le _) (List.getElem?_eq_some_iff.1 hx).1)
  exact ⟨b, o, e, hb, fun i v hv => hc j x i v hx hv⟩
section
variable {P : Program}
/-- a struct is loaded from cells that hold it, wherever they lie -/
theorem run_load_cells (w : World) (b o : Nat) (cs : List Value) (ty : TypeId) (d : TypeDesc) (hc : ∀ i v, cs[i]? = some v → w.cell? ⟨b, o + i, none⟩ = some v)
    (hu : P.underlying ty = some d) (hd : (match d with | .struct _ | .array _ _ => true | _ => false) = true) (hi : (P.info? ty).map (·.size) = some cs.length) :
    (loadVar ty ⟨b, o, none⟩).run P w = .ok (.agg cs.toArray) w := by
  have hl : (loadCells ⟨b, o, none⟩ cs.length).run P w = .ok cs.toArray w :=
    run_loadCells_list (P := P) w ⟨b, o, none⟩ cs (fun j v hv => by
      have hadd : (⟨b, o, none⟩ : Addr).add j = ⟨b, o + j, none⟩ := by unfold Addr.add; split <;> simp_all
      rw [hadd]
      exact hc j v hv)
  cases hq : P.info? ty with
  | none => simp [hq] at hi
  | some i =>
    have hs : i.size = cs.length := by simpa [hq] using hi
    have hagg : (isAgg ty).run P w = .ok true w := by
      unfold isAgg
      rw [Sem.run_bind, run_underlying hu w]
      cases d <;> simp_all
    simp [loadVar, Sem.run_bind, hagg, sizeOf, typeInfo, hq, hs, hl]
theorem wpList_load_v {ops : Array Oper} {rest : List Oper} {o : Oper} {a : Act} {w : World} {Q : Exit → Act → World → Prop} (hgd : Region.wanted o (yielded ops a.tmps) = true) (ty : TypeId) (x : Operand) (ho : o.op = .load ty x)
    (p : Addr) (hx : a.eval x = .pointer (some p)) (v : Value) (hl : (loadVar ty p).run P w = .ok v w) (h : wpList P ops Q rest (a.put o.dst v) w) : wpList P ops Q (o :: rest) a w :=
  S2.wpList_wanted hgd fun _ hK => by
    unfold Oper.wp execOp
    simp only [ho, hx, Instr.loadAt, Instr.sureAddr, Sem.run_bind, Sem.run_pure, Result.andThen_ok, hl]
    exact hK _ _ h
end
theorem load_cs {w : World} {b o : Nat} {x : Cs} (hc : ∀ i v, (gC x)[i]? = some v → w.cell? ⟨b, o + i, none⟩ = some v) : (loadVar 25 ⟨b, o, none⟩).run Try.prog w = .ok (csV x) w :=
  run_load_cells w b o (gC x) 25 _ hc Try.underlying25 rfl conSize
theorem load_cs0 {w : World} {b : Nat} {x : Cs} (h : BK 25 w b (gC x)) : (loadVar 25 ⟨b, 0, none⟩).run Try.prog w = .ok (csV x) w := S2.run_load_all h Try.underlying25 rfl conSize
theorem name_world {C : World → Prop} (W : World) (h : ∀ w1, w1 = W → C w1) : C W := h W rfl
theorem str_eq {x y : ByteArray} : (x.toList == y.toList) = true ↔ x = y := by
  constructor
  · intro h
    have h' := eq_of_beq h
    rw [Lib.toList_data, Lib.toList_data] at h'
    exact dl_inj h'
  · intro h
    rw [h]
    exact beq_self_eq_true _
theorem str_dec (a b : ByteArray) : (a.toList == b.toList) = decide (a = b) := by
  rw [Bool.eq_iff_iff, decide_eq_true_eq]
  exact str_eq
theorem eqI (a b : Int) : (a == b) = decide (a = b) := by
  rw [Bool.eq_iff_iff, decide_eq_true_eq, beq_iff_eq]
theorem cells5 {w : World} {g : Nat} {x : Cs} (h : BK 25 w g (gC x)) :
    w.cell? ⟨g, 0, none⟩ = some (.int .i64 x.tag) ∧ w.cell? ⟨g, 1, none⟩ = some (.int .i64 x.conn) ∧ w.cell? ⟨g, 2, none⟩ = some (.string x.qu) ∧ w.cell? ⟨g, 3, none⟩ = some (.int .i64 x.pre) ∧ w.cell? ⟨g, 4, none⟩ = some (.int .i64 x.una) := ⟨h.cell 0 rfl, h.cell 1 rfl, h.cell 2 rfl, h.cell 3 rfl, h.cell 4 rfl⟩
theorem dropC {α : Type} {X : List α} {k : Nat} {x : α} (hx : X[k]? = some x) : X.drop k = x :: X.drop (k + 1) := by
  obtain ⟨hk, rfl⟩ := List.getElem?_eq_some_iff.1 hx
  exact List.drop_eq_getElem_cons hk
theorem rName_dl (s : ByteArray) (w : World) (hs : s.size ≤ 9223372036854775807) : Calls Try.prog 38 #[.string s] w fun e w' => e = .returned (.bool (T.nameL (dl s))) ∧ Below w.heap.size w w' :=
  (rName_any s w hs).mono fun e w' h => ⟨h.1, by rw [← h.2]; exact Below.refl _ _⟩
/-- an index that a search answers -/
def ixI (o : Option Nat) : Int := match o with
  | some i => (i : Int)
  | none => -1
end Go.Proofs.Ytjkhfifnfgchgaa
