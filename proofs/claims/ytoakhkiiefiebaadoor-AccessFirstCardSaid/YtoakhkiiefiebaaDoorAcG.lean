/-
  Access rules in memory: a list of rules as it came in, one loaded, a rule in a block of its own. No function of the program is walked here.
-/
import Derived.Test.YtoakhkiiefiebaaDoorAcP
import Derived.Test.YtoakhkiiefiebaaDoorSpecMat
import Derived.Test.YtoakhkiiefiebaaDoorJoin
import Derived.Test.YtoakhkiiefiebaaDoorRow
import Derived.Test.YtoakhkiiefiebaaDoorBlk
namespace Go.Proofs.YtoakhkiiefiebaaDoor.S1
open Go.RowKit
open S2 (BK Put)

def gR (x : Rl) : List Value := [.bool x.al, .string x.us, .int .i64 x.ac, .string x.fi]
def rlV (x : Rl) : Value := .agg (gR x).toArray
theorem gR_len (x : Rl) : (gR x).length = 4 := rfl
theorem gR_one (x : Rl) : ∀ u ∈ gR x, u.oneCell' = true := fun u hu => List.all_eq_true.1 (show (gR x).all (fun v => v.oneCell') = true from rfl) u hu
theorem ruleSize : (Tryd.prog.info? 42).map (·.size) = some 4 := by kernel_rfl
theorem ruleInfo : (Tryd.prog.info? 42).map (fun i => (i.zero, i.size, i.bytes)) = some (some (.agg #[.bool false, .string ByteArray.empty, .int .i64 0, .string ByteArray.empty]), 4, 48) := by kernel_rfl
theorem whoSize : (Tryd.prog.info? 28).map (·.size) = some 2 := by kernel_rfl
abbrev RL (w : World) (B : Nat) (A : Option Addr) (xs : List Rl) : Prop := GL gR 4 w B A xs
theorem RL.at_ {w : World} {B : Nat} {A : Option Addr} {xs : List Rl} (h : RL w B A xs) {j : Nat} {x : Rl} (hx : xs[j]? = some x) :
    ∃ b o, A = some ⟨b, o, none⟩ ∧ b < B ∧ ∀ i v, (gR x)[i]? = some v → w.cell? ⟨b, o + j * 4 + i, none⟩ = some v := by
  obtain ⟨b, o, e, hb, hc⟩ := h (Nat.lt_of_le_of_lt (Nat.zero_le _) (List.getElem?_eq_some_iff.1 hx).1)
  exact ⟨b, o, e, hb, fun i v hv => hc j x i v hx hv⟩
section
variable {P : Program}
/-- a struct is loaded from cells that hold it, wherever they lie -/
theorem run_load_cells (w : World) (b o : Nat) (cs : List Value) (ty : TypeId) (d : TypeDesc) (hc : ∀ i v, cs[i]? = some v → w.cell? ⟨b, o + i, none⟩ = some v)
    (hu : P.underlying ty = some d) (hd : (match d with | .struct _ | .array _ _ => true | _ => false) = true) (hi : (P.info? ty).map (·.size) = some cs.length) :
    (loadVar ty ⟨b, o, none⟩).run P w = .ok (.agg cs.toArray) w := by
  have hl : (loadCells ⟨b, o, none⟩ cs.length).run P w = .ok cs.toArray w :=
    run_loadCells_list (P := P) w ⟨b, o, none⟩ cs (fun j v hv => by
      have hadd : (⟨b, o, none⟩ : Addr).add j = ⟨b, o + j, none⟩ := by unfold Addr.add; split <;> simp_all
      rw [hadd]
      exact hc j v hv)
  cases hq : P.info? ty with
  | none => simp [hq] at hi
  | some i =>
    have hs : i.size = cs.length := by simpa [hq] using hi
    have hagg : (isAgg ty).run P w = .ok true w := by
      unfold isAgg
      rw [Sem.run_bind, run_underlying hu w]
      cases d <;> simp_all
    simp [loadVar, Sem.run_bind, hagg, sizeOf, typeInfo, hq, hs, hl]
theorem wpList_load_v {ops : Array Oper} {rest : List Oper} {o : Oper} {a : Act} {w : World} {Q : Exit → Act → World → Prop} (hgd : Region.wanted o (yielded ops a.tmps) = true) (ty : TypeId) (x : Operand) (ho : o.op = .load ty x)
    (p : Addr) (hx : a.eval x = .pointer (some p)) (v : Value) (hl : (loadVar ty p).run P w = .ok v w) (h : wpList P ops Q rest (a.put o.dst v) w) : wpList P ops Q (o :: rest) a w :=
  S2.wpList_wanted hgd fun _ hK => by
    unfold Oper.wp execOp
    simp only [ho, hx, Instr.loadAt, Instr.sureAddr, Sem.run_bind, Sem.run_pure, Result.andThen_ok, hl]
    exact hK _ _ h
end
theorem load_rule {w : World} {b o : Nat} {x : Rl} (hc : ∀ i v, (gR x)[i]? = some v → w.cell? ⟨b, o + i, none⟩ = some v) : (loadVar 42 ⟨b, o, none⟩).run Tryd.prog w = .ok (rlV x) w :=
  run_load_cells w b o (gR x) 42 _ hc Tryd.underlying42 rfl ruleSize
theorem load_rule0 {w : World} {b : Nat} {x : Rl} (h : BK 42 w b (gR x)) : (loadVar 42 ⟨b, 0, none⟩).run Tryd.prog w = .ok (rlV x) w := S2.run_load_all h Tryd.underlying42 rfl ruleSize
theorem name_world {C : World → Prop} (W : World) (h : ∀ w1, w1 = W → C w1) : C W := h W rfl
theorem str_dec (a b : ByteArray) : (a.toList == b.toList) = decide (a = b) := by
  rw [Bool.eq_iff_iff, decide_eq_true_eq]
  exact str_eq
end Go.Proofs.YtoakhkiiefiebaaDoor.S1
