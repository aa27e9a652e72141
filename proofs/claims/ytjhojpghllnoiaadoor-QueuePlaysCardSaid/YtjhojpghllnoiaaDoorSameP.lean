/-
  What slices.Equal at properties and SameProps of the specification answer, and few of brokerlaw05. Conditions: the lists read as data; lengths fit an int.
-/
import Derived.Test.YtjhojpghllnoiaaDoorKeyP
import Derived.Laws.StructEq
namespace Go.Proofs.YtjhojpghllnoiaaDoor
open Go.RowKit

/-- are two properties one -/
def eqPR (a b c d : ByteArray) : Bool := decide ((a, b) = (c, d))
theorem eqP (a b c d : ByteArray) (w : World) : Sem.run Tryd.prog (binOp .eql 82 (.agg #[.string a, .string b]) (.agg #[.string c, .string d])) w = .ok (.bool (eqPR a b c d)) w := by
  have u3 := Tryd.underlying9
  have a3 := Tryd.isAgg9
  have z3 := Tryd.sizeOf9
  have hS : Tryd.prog.underlying 82 = some (.struct (Tryd.prog.fieldsOf 82)) := by kernel_rfl
  have hp : Tryd.prog.stoodInHeld 82 = false := by kernel_rfl
  have h1 := str_dec a c
  have h2 := str_dec b d
  unfold eqPR
  rw [run_eql_struct, show (10000 : Nat) = 9999 + 1 from rfl, run_equalIn_agg w 9999 82 _ _ hS hp]
  simp only [Program.fieldsOf, Tryd.underlying82]
  by_cases ha : a = c
  · by_cases hb : b = d
    · subst ha hb
      go_simp
    · go_simp
  · go_simp
theorem neqP (a b c d : ByteArray) (w : World) : Sem.run Tryd.prog (binOp .neq 82 (.agg #[.string a, .string b]) (.agg #[.string c, .string d])) w = .ok (.bool (!eqPR a b c d)) w := by
  have h := eqP a b c d w
  rw [run_eql_struct] at h
  rw [run_neq_struct]
  generalize Sem.run Tryd.prog (Op.equalIn 10000 82 (.agg #[.string a, .string b]) (.agg #[.string c, .string d])) w = r at h ⊢
  cases r with
  | ok v w' =>
    simp only [Result.andThen, Result.ok.injEq, Value.bool.injEq] at h ⊢
    obtain ⟨rfl, rfl⟩ := h
    exact ⟨rfl, rfl⟩
  | halt x w' => simp [Result.andThen] at h
theorem guardP (op : BinOp) (x y : Operand) (xs ys : Array Value) (w : World) : Sem.run Tryd.prog (eqGuard op 82 x y (.agg xs) (.agg ys)) w = .ok () w := run_eqGuard_agg w op _ x y xs ys (by kernel_rfl)
theorem eqPR_yes {x y : PR} (h : x = y) : eqPR x.1 x.2 y.1 y.2 = true := by rw [h]; exact decide_eq_true rfl
theorem eqPR_no {x y : PR} (h : x ≠ y) : eqPR x.1 x.2 y.1 y.2 = false := decide_eq_false fun e => h (Prod.ext (congrArg Prod.fst e) (congrArg Prod.snd e))

def SamUpto (xs ys : List PR) (k : Nat) : Prop := xs.take k = ys.take k
theorem SamUpto.zero (xs ys : List PR) : SamUpto xs ys 0 := rfl
theorem SamUpto.succ {xs ys : List PR} {k : Nat} {x : PR} (h : SamUpto xs ys k) (hx : xs[k]? = some x) (hy : ys[k]? = some x) : SamUpto xs ys (k + 1) := by
  unfold SamUpto at h ⊢
  rw [List.take_add_one, List.take_add_one, h, hx, hy]
theorem SamUpto.done {xs ys : List PR} (h : SamUpto xs ys xs.length) (hl : xs.length = ys.length) : decide (xs = ys) = true := by
  unfold SamUpto at h
  rw [List.take_length, hl, List.take_length] at h
  exact decide_eq_true h
theorem sam_bad {xs ys : List PR} {k : Nat} {x y : PR} (hx : xs[k]? = some x) (hy : ys[k]? = some y) (h : x ≠ y) : decide (xs = ys) = false :=
  decide_eq_false fun e => by rw [e, hy] at hx; exact h (Option.some.inj hx).symm
theorem sam_len {xs ys : List PR} (h : xs.length ≠ ys.length) : decide (xs = ys) = false := decide_eq_false fun e => h (by rw [e])

set_option maxHeartbeats 2000000 in
theorem sameProps_any (A A' : Option Addr) (c c' : Nat) (xs ys : List PR) (w : World) (hx : PL w w.heap.size A xs) (hy : PL w w.heap.size A' ys) (hn : xs.length ≤ 9223372036854775806) :
    Calls Tryd.prog 59 #[.slice A xs.length c, .slice A' ys.length c'] w fun e w' => e = .returned (.bool (decide (xs = ys))) ∧ Below w.heap.size w w' := by
  by_cases hl : xs.length = ys.length
  · have HX := Lib.hid hx
    have HY := Lib.hid hy
    have HM := Lib.hid hn
    have HL := Lib.hid hl
    have e1 : ((xs.length : Int) != (ys.length : Int)) = false := by simp; omega
    have e1' : (xs.length != ys.length) = false := by simp; omega
    clear hx hy hl
    have hneq := neqP
    have hgd := guardP
    go_enter Tryd.func59, Tryd.ntmps59
    go_wp2
    go_loopg [5] xs.length (fun g v wr => ∃ k : Nat, k + g = xs.length ∧ v = .int .i64 k ∧ SamUpto xs ys k ∧ Below w.heap.size w wr)
    case atStart => exact ⟨0, by omega, rfl, SamUpto.zero _ _, Below.refl _ _⟩
    case round =>
      obtain ⟨k, hkg, rfl, hrel, hb⟩ := hrel
      have HR := Lib.hid hrel
      have HB := Lib.hid hb
      have HG := Lib.hid hkg
      clear hrel
      cases gk with
      | zero =>
        obtain rfl : k = xs.length := by omega
        have HV := Lib.hid (HR.out.done HL.out)
        clear hkg hb
        go_wp2
        go_ret
        exact ⟨retb HV.out.symm, HB.out⟩
      | succ g =>
        have hlt : k < xs.length := by omega
        have hlt2 : k < ys.length := by have := HL.out; omega
        have e3 : decide ((k : Int) < (xs.length : Int)) = true := decide_eq_true (by omega)
        obtain ⟨x, hx⟩ : ∃ x, xs[k]? = some x := ⟨_, List.getElem?_eq_getElem hlt⟩
        obtain ⟨y, hy⟩ : ∃ y, ys[k]? = some y := ⟨_, List.getElem?_eq_getElem hlt2⟩
        obtain ⟨b, o, hA, hbB, kk, kv⟩ := PL.at_ (HX.out.step hb) hx
        subst hA
        obtain ⟨b2, o2, hA2, hbB2, kk2, kv2⟩ := PL.at_ (HY.out.step hb) hy
        subst hA2
        have j1 : (0 : Int) ≤ (k : Int) := by omega
        have j2 : (k : Int) < (xs.length : Int) := by omega
        have j3 : (k : Int) < (ys.length : Int) := by omega
        by_cases he : x = y
        · have HN := Lib.hid (HR.out.succ hx (by rw [hy, he]))
          have d1 := eqPR_yes he
          clear hx hy he hkg hb
          go_wp2_with fail
          go_quiet (fail)
          go_wp2
          go_roundg g
          case measure => omega
          case rel => exact ⟨k + 1, by have := HG.out; omega, by go_num, HN.out, stepB HB.out (below_drewN _ _)⟩
        · have HV := Lib.hid (sam_bad hx hy he)
          have d1 := eqPR_no he
          clear hx hy he hkg hb
          go_wp2_with fail
          go_quiet (fail)
          go_wp2
          go_ret
          exact ⟨retb HV.out.symm, stepB HB.out (below_drewN _ _)⟩
  · have e1 : ((xs.length : Int) != (ys.length : Int)) = true := by simp; omega
    have e1' : (xs.length != ys.length) = true := by simp; omega
    have HV := Lib.hid (sam_len hl)
    clear hx hy hl hn
    go_enter Tryd.func59, Tryd.ntmps59
    go_wp2
    go_ret
    exact ⟨retb HV.out.symm, Below.refl _ _⟩

end Go.Proofs.YtjhojpghllnoiaaDoor
