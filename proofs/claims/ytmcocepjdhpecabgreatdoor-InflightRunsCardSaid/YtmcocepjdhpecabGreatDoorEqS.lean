/-
  What slices.Equal and the specification answer at lists of subscriptions, texts and numbers: whether they are one. Conditions: the lists read as data; lengths fit an int.
-/
import Derived.Test.YtmcocepjdhpecabGreatDoorMbx
import Derived.Test.YtmcocepjdhpecabGreatDoorSameP
import Derived.Laws.StructEq
namespace Go.Proofs.YtmcocepjdhpecabGreatDoor
open Go.RowKit

/-- are two subscriptions one -/
def eqSB (a : ByteArray) (b : Int) (c : Bool) (a' : ByteArray) (b' : Int) (c' : Bool) : Bool := decide ((a, b, c) = (a', b', c'))
theorem eqS (a : ByteArray) (b : Int) (c : Bool) (a' : ByteArray) (b' : Int) (c' : Bool) (w : World) : Sem.run Tryz.prog (binOp .eql 96 (.agg #[.string a, .int .i64 b, .bool c]) (.agg #[.string a', .int .i64 b', .bool c'])) w = .ok (.bool (eqSB a b c a' b' c')) w := by
  have u3 := Tryz.underlying9
  have a3 := Tryz.isAgg9
  have z3 := Tryz.sizeOf9
  have u4 := Tryz.underlying3
  have a4 := Tryz.isAgg3
  have z4 := Tryz.sizeOf3
  have u5 := Tryz.underlying4
  have a5 := Tryz.isAgg4
  have z5 := Tryz.sizeOf4
  have hS : Tryz.prog.underlying 96 = some (.struct (Tryz.prog.fieldsOf 96)) := by kernel_rfl
  have hp : Tryz.prog.stoodInHeld 96 = false := by kernel_rfl
  have h1 := str_dec a a'
  unfold eqSB
  rw [run_eql_struct, show (10000 : Nat) = 9999 + 1 from rfl, run_equalIn_agg w 9999 96 _ _ hS hp]
  simp only [Program.fieldsOf, Tryz.underlying96]
  by_cases ha : a = a'
  · by_cases hb : b = b'
    · by_cases hc : c = c'
      · subst ha hb hc
        go_simp
      · go_simp
    · go_simp
  · go_simp
theorem neqS (a : ByteArray) (b : Int) (c : Bool) (a' : ByteArray) (b' : Int) (c' : Bool) (w : World) : Sem.run Tryz.prog (binOp .neq 96 (.agg #[.string a, .int .i64 b, .bool c]) (.agg #[.string a', .int .i64 b', .bool c'])) w = .ok (.bool (!eqSB a b c a' b' c')) w := by
  have h := eqS a b c a' b' c' w
  rw [run_eql_struct] at h
  rw [run_neq_struct]
  generalize Sem.run Tryz.prog (Op.equalIn 10000 96 (.agg #[.string a, .int .i64 b, .bool c]) (.agg #[.string a', .int .i64 b', .bool c'])) w = r at h ⊢
  cases r with
  | ok v w' =>
    simp only [Result.andThen, Result.ok.injEq, Value.bool.injEq] at h ⊢
    obtain ⟨rfl, rfl⟩ := h
    exact ⟨rfl, rfl⟩
  | halt x w' => simp [Result.andThen] at h
theorem guardS (op : BinOp) (x y : Operand) (xs ys : Array Value) (w : World) : Sem.run Tryz.prog (eqGuard op 96 x y (.agg xs) (.agg ys)) w = .ok () w := run_eqGuard_agg w op _ x y xs ys (by kernel_rfl)
theorem eqSB_yes {x y : SB} (h : x = y) : eqSB x.1 x.2.1 x.2.2 y.1 y.2.1 y.2.2 = true := by rw [h]; exact decide_eq_true rfl
theorem eqSB_no {x y : SB} (h : x ≠ y) : eqSB x.1 x.2.1 x.2.2 y.1 y.2.1 y.2.2 = false := decide_eq_false fun e => h e

def SamS {α : Type} (xs ys : List α) (k : Nat) : Prop := xs.take k = ys.take k
theorem SamS.zero {α : Type} (xs ys : List α) : SamS xs ys 0 := rfl
theorem SamS.succ {α : Type} {xs ys : List α} {k : Nat} {x : α} (h : SamS xs ys k) (hx : xs[k]? = some x) (hy : ys[k]? = some x) : SamS xs ys (k + 1) := by
  unfold SamS at h ⊢
  rw [List.take_add_one, List.take_add_one, h, hx, hy]
section
variable {α : Type} [DecidableEq α]
theorem SamS.done {xs ys : List α} (h : SamS xs ys xs.length) (hl : xs.length = ys.length) : decide (xs = ys) = true := by
  unfold SamS at h
  rw [List.take_length, hl, List.take_length] at h
  exact decide_eq_true h
theorem samS_bad {xs ys : List α} {k : Nat} {x y : α} (hx : xs[k]? = some x) (hy : ys[k]? = some y) (h : x ≠ y) : decide (xs = ys) = false :=
  decide_eq_false fun e => by rw [e, hy] at hx; exact h (Option.some.inj hx).symm
theorem samS_len {xs ys : List α} (h : xs.length ≠ ys.length) : decide (xs = ys) = false := decide_eq_false fun e => h (by rw [e])
end

set_option maxHeartbeats 2000000 in
theorem sameSubs_any (A A' : Option Addr) (c c' : Nat) (xs ys : List SB) (w : World) (hx : BL w w.heap.size A xs) (hy : BL w w.heap.size A' ys) (hn : xs.length ≤ 9223372036854775806) :
    Calls Tryz.prog 29 #[.slice A xs.length c, .slice A' ys.length c'] w fun e w' => e = .returned (.bool (decide (xs = ys))) ∧ Below w.heap.size w w' := by
  by_cases hl : xs.length = ys.length
  · have HX := Lib.hid hx
    have HY := Lib.hid hy
    have HM := Lib.hid hn
    have HL := Lib.hid hl
    have e1 : ((xs.length : Int) != (ys.length : Int)) = false := by simp; omega
    have e1' : (xs.length != ys.length) = false := by simp; omega
    clear hx hy hl
    have hneq := neqS
    have hgd := guardS
    go_enter Tryz.func29, Tryz.ntmps29
    go_wp2
    go_loopg [5] xs.length (fun g v wr => ∃ k : Nat, k + g = xs.length ∧ v = .int .i64 k ∧ SamS xs ys k ∧ Below w.heap.size w wr)
    case atStart => exact ⟨0, by omega, rfl, SamS.zero _ _, Below.refl _ _⟩
    case round =>
      obtain ⟨k, hkg, rfl, hrel, hb⟩ := hrel
      have HR := Lib.hid hrel
      have HB := Lib.hid hb
      have HG := Lib.hid hkg
      clear hrel
      cases gk with
      | zero =>
        obtain rfl : k = xs.length := by omega
        have HV := Lib.hid (HR.out.done HL.out)
        clear hkg hb
        go_wp2
        go_ret
        exact ⟨retb HV.out.symm, HB.out⟩
      | succ g =>
        have hlt : k < xs.length := by omega
        have hlt2 : k < ys.length := by have := HL.out; omega
        have e3 : decide ((k : Int) < (xs.length : Int)) = true := decide_eq_true (by omega)
        obtain ⟨x, hx⟩ : ∃ x, xs[k]? = some x := ⟨_, List.getElem?_eq_getElem hlt⟩
        obtain ⟨y, hy⟩ : ∃ y, ys[k]? = some y := ⟨_, List.getElem?_eq_getElem hlt2⟩
        obtain ⟨b, o, hA, hbB, kk, kv, kz⟩ := BL.at_ (HX.out.step hb) hx
        subst hA
        obtain ⟨b2, o2, hA2, hbB2, kk2, kv2, kz2⟩ := BL.at_ (HY.out.step hb) hy
        subst hA2
        have j1 : (0 : Int) ≤ (k : Int) := by omega
        have j2 : (k : Int) < (xs.length : Int) := by omega
        have j3 : (k : Int) < (ys.length : Int) := by omega
        by_cases he : x = y
        · have HN := Lib.hid (HR.out.succ hx (by rw [hy, he]))
          have d1 := eqSB_yes he
          clear hx hy he hkg hb
          go_wp2_with fail
          go_quiet (fail)
          go_wp2
          go_roundg g
          case measure => omega
          case rel => exact ⟨k + 1, by have := HG.out; omega, by go_num, HN.out, stepB HB.out (below_drewN _ _)⟩
        · have HV := Lib.hid (samS_bad hx hy he)
          have d1 := eqSB_no he
          clear hx hy he hkg hb
          go_wp2_with fail
          go_quiet (fail)
          go_wp2
          go_ret
          exact ⟨retb HV.out.symm, stepB HB.out (below_drewN _ _)⟩
  · have e1 : ((xs.length : Int) != (ys.length : Int)) = true := by simp; omega
    have e1' : (xs.length != ys.length) = true := by simp; omega
    have HV := Lib.hid (samS_len hl)
    clear hx hy hl hn
    go_enter Tryz.func29, Tryz.ntmps29
    go_wp2
    go_ret
    exact ⟨retb HV.out.symm, Below.refl _ _⟩

end Go.Proofs.YtmcocepjdhpecabGreatDoor
