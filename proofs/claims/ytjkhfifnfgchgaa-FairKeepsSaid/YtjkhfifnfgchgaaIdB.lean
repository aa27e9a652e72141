/-
  What the specification of the pools answers where it makes lists: with, Free, Take; and its Check. Conditions: the pool reads as data; few elements.
-/
import Derived.Test.YtjkhfifnfgchgaaIdA
namespace Go.Proofs.Ytjkhfifnfgchgaa.S2
open Go.RowKit

theorem infoI : (Try.prog.info? 3).map (fun i => (i.zero, i.size, i.bytes)) = some (some (.int .i64 0), 1, 8) := by kernel_rfl
theorem wpList_appI1 {ops : Array Oper} {rest : List Oper} {o : Oper} {a : Act} {Q : Exit → Act → World → Prop} (wr : World) (hgd : o.guard = none) (s x : Operand) (ho : o.op = .call { callee := .builtin .append, args := #[s, x], argTypes := #[43, 43] })
    (B : Nat) (v : Value) (xs : List Int) (y : Int) (hs : a.eval s = v) (hown : Own 3 iv wr B v xs) (hx : a.eval x = .slice (some ⟨wr.heap.size, 0, none⟩) 1 1) (w0 : World) (hb : Below B w0 wr) (hB : B ≤ wr.heap.size)
    (hn : xs.length ≤ 1099511627776) (h : ∀ v' w', Own 3 iv w' B v' (xs ++ [y]) → Below B w0 w' → B ≤ w'.heap.size → wpList Try.prog ops Q rest (a.put o.dst v') w') : wpList Try.prog ops Q (o :: rest) a (wr.alloc (.cells #[.int .i64 y] 3)) :=
  wpList_app _ hgd s x 43 43 ho (.int .i64 0) 8 Try.underlying43 infoI rfl (by decide) B v xs [y] hs (hown.alloc _) _ hx 1 (src_one Try.underlying43 wr y _ rfl rfl) w0 (hb.alloc hB _) (by simp; omega) (by simp; omega) h
theorem wpList_appI {ops : Array Oper} {rest : List Oper} {o : Oper} {a : Act} {Q : Exit → Act → World → Prop} (wr : World) (hgd : o.guard = none) (s x : Operand) (ho : o.op = .call { callee := .builtin .append, args := #[s, x], argTypes := #[43, 43] })
    (B : Nat) (v : Value) (xs ys : List Int) (hs : a.eval s = v) (hown : Own 3 iv wr B v xs) (A2 : Option Addr) (c2 : Nat) (hx : a.eval x = .slice A2 ys.length c2) (B2 : Nat) (hys : IL wr B2 A2 ys) (w0 : World) (hb : Below B w0 wr) (hB : B ≤ wr.heap.size)
    (hn : xs.length + ys.length ≤ 1099511627776) (h : ∀ v' w', Own 3 iv w' B v' (xs ++ ys) → Below B w0 w' → B ≤ w'.heap.size → wpList Try.prog ops Q rest (a.put o.dst v') w') : wpList Try.prog ops Q (o :: rest) a wr :=
  wpList_app _ hgd s x 43 43 ho (.int .i64 0) 8 Try.underlying43 infoI rfl (by decide) B v xs ys hs hown _ hx ys.length (hys.src Try.underlying43 iv_one c2) w0 hb hB (by omega) h

theorem elemI : Try.prog.elem 43 = 3 := by kernel_rfl
theorem undI : Try.prog.underlying 43 = some (.slice (Try.prog.elem 43)) := by rw [elemI]; exact Try.underlying43
theorem sizeI (w : World) : (sizeOf (Try.prog.elem 43)).run Try.prog w = .ok 1 w := by
  obtain ⟨i, hi, hz, hz1, hz2⟩ := info_parts infoI
  rw [elemI]
  simp [sizeOf, typeInfo, hi, hz1]
theorem cutI_addr {w : World} {B : Nat} {A : Option Addr} {xs : List Int} (h : IL w B A xs) {k m : Nat} (hk : k ≤ xs.length) (hm : k < xs.length → m ≠ k) :
    IL w B (if m = k then A else A.map (·.add (k * 1))) (xs.drop k) := fun hn => by
  rw [List.length_drop] at hn
  obtain ⟨b, o, e, hb, hcell⟩ := h (by omega)
  rw [if_neg (hm (by omega)), e]
  refine ⟨b, o + k, ?_, hb, fun j x hx => ?_⟩
  · simp only [Option.map_some, Addr.add, Nat.mul_one]
    split
    · next h0 => subst h0; rfl
    · rfl
  · rw [List.getElem?_drop] at hx
    rw [Nat.add_assoc]
    exact hcell _ x hx
theorem sliceI (A : Option Addr) (c : Nat) (xs : List Int) (k : Nat) (hk : k ≤ xs.length) (hc : xs.length ≤ c) :
    ∃ A2, (∀ w, (Instr.slice 43 (.slice A xs.length c) (some (.int .i64 k)) none none).run Try.prog w = .ok (.slice A2 (xs.drop k).length (c - k)) w) ∧ ∀ w B, IL w B A xs → IL w B A2 (xs.drop k) := by
  refine ⟨if c = k then A else A.map (·.add (k * 1)), fun w => ?_, fun w B h => cutI_addr h hk (fun _ => by omega)⟩
  rw [run_slice_l (P := Try.prog) w 43 A xs.length c undI .i64 k (by omega) (by omega), sizeI, List.length_drop]
  simp [Result.andThen, sliced]

/-- a list that a call answers -/
def RetIs (X : List Int) (W : World) (e : Ending) (w' : World) : Prop := ∃ v, e = .returned v ∧ Own 3 iv w' W.heap.size v X ∧ Below W.heap.size W w'

theorem insI_drop {X : List Int} {k : Nat} {x n : Int} (hx : X[k]? = some x) (h : x < n) (hp : insI X n = X.take k ++ insI (X.drop k) n) : insI X n = X.take (k + 1) ++ insI (X.drop (k + 1)) n := by
  rw [hp, dropI hx]
  conv => lhs; rhs; unfold insI
  rw [if_pos h]
  have : X.take (k + 1) = X.take k ++ [x] := by rw [List.take_add_one, hx]; rfl
  rw [this, List.append_assoc]
  rfl
theorem takeS {X : List Int} {k : Nat} {x : Int} (hx : X[k]? = some x) : X.take k ++ [x] = X.take (k + 1) := by rw [List.take_add_one, hx]; rfl

theorem delI_take {X : List Int} {k : Nat} {x n : Int} (hx : X[k]? = some x) : delI (X.take (k + 1)) n = if x ≠ n then delI (X.take k) n ++ [x] else delI (X.take k) n := by
  rw [← takeS hx]
  unfold delI
  rw [List.filter_append]
  split
  · next h => simp [h]
  · next h => simp at h; simp [h]
/-- a pool and a truth value that a call answers -/
def RetPB (A0 : Option Addr) (X0 X : List Int) (L : Int) (b : Bool) (W : World) (e : Ending) (w' : World) : Prop :=
  ∃ A c, e = .returned (.tuple #[pv A c X L, .bool b]) ∧ X.length ≤ c ∧ IL w' w'.heap.size A X ∧ Fr W A0 X0 A X ∧ Below W.heap.size W w'

end Go.Proofs.Ytjkhfifnfgchgaa.S2
