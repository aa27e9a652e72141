/-
What slices.Equal and the specification answer at lists of subscriptions, texts and numbers: whether they are one. Conditions: the lists read as data; lengths fit an int.
What SameNumbers of the specification and slices.Equal answer at lists of numbers and of texts. Conditions: the lists read as data; lengths fit an int.
What Same of packet and of the specification answer: whether two packets are one. Conditions: the packets read as data; lengths fit an int.
What Same of packet answers: whether two packets are one. Conditions: the packets read as data; lengths fit an int.
-/
import Derived.Test.YtdkegoaflabjoaaGreatDoorMbx2
import Derived.Test.YtdkegoaflabjoaaGreatDoorSame
import Derived.Test.YtdkegoaflabjoaaGreatDoorSpecFilter
import Derived.Test.YtdkegoaflabjoaaGreatDoorShelf
import Derived.Test.YtdkegoaflabjoaaGreatDoorPlainP
import Derived.Deep.RegionHeld3
import Derived.Laws.StructEq
set_option maxHeartbeats 16000000
set_option maxRecDepth 50000
namespace Go.Proofs.YtdkegoaflabjoaaGreatDoor
open Go.RowKit

/-- are two subscriptions one -/
def eqSB (a : ByteArray) (b : Int) (c : Bool) (a' : ByteArray) (b' : Int) (c' : Bool) : Bool := decide ((a, b, c) = (a', b', c'))
theorem eqS (a : ByteArray) (b : Int) (c : Bool) (a' : ByteArray) (b' : Int) (c' : Bool) (w : World) : Sem.run Tryz.prog (binOp .eql 49 (.agg #[.string a, .int .i64 b, .bool c]) (.agg #[.string a', .int .i64 b', .bool c'])) w = .ok (.bool (eqSB a b c a' b' c')) w := by
 have u3 := Tryz.underlying9
 have a3 := Tryz.isAgg9
 have z3 := Tryz.sizeOf9
 have u4 := Tryz.underlying3
 have a4 := Tryz.isAgg3
 have z4 := Tryz.sizeOf3
 have u5 := Tryz.underlying4
 have a5 := Tryz.isAgg4
 have z5 := Tryz.sizeOf4
 have hS : Tryz.prog.underlying 49 = some (.struct (Tryz.prog.fieldsOf 49)) := by kernel_rfl
 have hp : Tryz.prog.stoodInHeld 49 = false := by kernel_rfl
 have h1 := str_dec a a'
 unfold eqSB
 rw [run_eql_struct, show (10000 : Nat) = 9999 + 1 from rfl, run_equalIn_agg w 9999 49 _ _ hS hp]
 simp only [Program.fieldsOf, Tryz.underlying49]
 by_cases ha : a = a'
 · by_cases hb : b = b'
   · by_cases hc : c = c'
     · subst ha hb hc
       go_simp
     · go_simp
   · go_simp
 · go_simp
theorem neqS (a : ByteArray) (b : Int) (c : Bool) (a' : ByteArray) (b' : Int) (c' : Bool) (w : World) : Sem.run Tryz.prog (binOp .neq 49 (.agg #[.string a, .int .i64 b, .bool c]) (.agg #[.string a', .int .i64 b', .bool c'])) w = .ok (.bool (!eqSB a b c a' b' c')) w := by
 have h := eqS a b c a' b' c' w
 rw [run_eql_struct] at h
 rw [run_neq_struct]
 generalize Sem.run Tryz.prog (Op.equalIn 10000 49 (.agg #[.string a, .int .i64 b, .bool c]) (.agg #[.string a', .int .i64 b', .bool c'])) w = r at h ⊢
 cases r with
 | ok v w' =>
   simp only [Result.andThen, Result.ok.injEq, Value.bool.injEq] at h ⊢
   obtain ⟨rfl, rfl⟩ := h
   exact ⟨rfl, rfl⟩
 | halt x w' => simp [Result.andThen] at h
theorem guardS (op : BinOp) (x y : Operand) (xs ys : Array Value) (w : World) : Sem.run Tryz.prog (eqGuard op 49 x y (.agg xs) (.agg ys)) w = .ok () w := run_eqGuard_agg w op _ x y xs ys (by kernel_rfl)
theorem eqSB_yes {x y : SB} (h : x = y) : eqSB x.1 x.2.1 x.2.2 y.1 y.2.1 y.2.2 = true := by rw [h]; exact decide_eq_true rfl
theorem eqSB_no {x y : SB} (h : x ≠ y) : eqSB x.1 x.2.1 x.2.2 y.1 y.2.1 y.2.2 = false := decide_eq_false fun e => h e

def SamS {α : Type} (xs ys : List α) (k : Nat) : Prop := xs.take k = ys.take k
theorem SamS.zero {α : Type} (xs ys : List α) : SamS xs ys 0 := rfl
theorem SamS.succ {α : Type} {xs ys : List α} {k : Nat} {x : α} (h : SamS xs ys k) (hx : xs[k]? = some x) (hy : ys[k]? = some x) : SamS xs ys (k + 1) := by
 unfold SamS at h ⊢
 rw [List.take_add_one, List.take_add_one, h, hx, hy]
section
variable {α : Type} [DecidableEq α]
theorem SamS.done {xs ys : List α} (h : SamS xs ys xs.length) (hl : xs.length = ys.length) : decide (xs = ys) = true := by
 unfold SamS at h
 rw [List.take_length, hl, List.take_length] at h
 exact decide_eq_true h
theorem samS_bad {xs ys : List α} {k : Nat} {x y : α} (hx : xs[k]? = some x) (hy : ys[k]? = some y) (h : x ≠ y) : decide (xs = ys) = false :=
 decide_eq_false fun e => by rw [e, hy] at hx; exact h (Option.some.inj hx).symm
theorem samS_len {xs ys : List α} (h : xs.length ≠ ys.length) : decide (xs = ys) = false := decide_eq_false fun e => h (by rw [e])
end

theorem sameSubs_any (A A' : Option Addr) (c c' : Nat) (xs ys : List SB) (w : World) (hx : BL w w.heap.size A xs) (hy : BL w w.heap.size A' ys) (hn : xs.length ≤ 9223372036854775806) :
 Calls Tryz.prog 20 #[.slice A xs.length c, .slice A' ys.length c'] w fun e w' => e = .returned (.bool (decide (xs = ys))) ∧ Below w.heap.size w w' := by
 by_cases hl : xs.length = ys.length
 · have HX := Lib.hid hx
   have HY := Lib.hid hy
   have HM := Lib.hid hn
   have HL := Lib.hid hl
   have e1 : ((xs.length : Int) != (ys.length : Int)) = false := by simp; omega
   have e1' : (xs.length != ys.length) = false := by simp; omega
   clear hx hy hl
   have hneq := neqS
   have hgd := guardS
   go_enter Tryz.func20, Tryz.ntmps20
   go_wp2
   go_loopg [5] xs.length (fun g v wr => ∃ k : Nat, k + g = xs.length ∧ v = .int .i64 k ∧ SamS xs ys k ∧ Below w.heap.size w wr)
   case atStart => exact ⟨0, by omega, rfl, SamS.zero _ _, Below.refl _ _⟩
   case round =>
    obtain ⟨k, hkg, rfl, hrel, hb⟩ := hrel
    have HR := Lib.hid hrel
    have HB := Lib.hid hb
    have HG := Lib.hid hkg
    clear hrel
    cases gk with
    | zero =>
      obtain rfl : k = xs.length := by omega
      have HV := Lib.hid (HR.out.done HL.out)
      clear hkg hb
      go_wp2
      go_ret
      exact ⟨retb HV.out.symm, HB.out⟩
    | succ g =>
      have hlt : k < xs.length := by omega
      have hlt2 : k < ys.length := by have := HL.out; omega
      have e3 : decide ((k : Int) < (xs.length : Int)) = true := decide_eq_true (by omega)
      obtain ⟨x, hx⟩ : ∃ x, xs[k]? = some x := ⟨_, List.getElem?_eq_getElem hlt⟩
      obtain ⟨y, hy⟩ : ∃ y, ys[k]? = some y := ⟨_, List.getElem?_eq_getElem hlt2⟩
      obtain ⟨b, o, hA, hbB, kk, kv, kz⟩ := BL.at_ (HX.out.step hb) hx
      subst hA
      obtain ⟨b2, o2, hA2, hbB2, kk2, kv2, kz2⟩ := BL.at_ (HY.out.step hb) hy
      subst hA2
      have j1 : (0 : Int) ≤ (k : Int) := by omega
      have j2 : (k : Int) < (xs.length : Int) := by omega
      have j3 : (k : Int) < (ys.length : Int) := by omega
      by_cases he : x = y
      · have HN := Lib.hid (HR.out.succ hx (by rw [hy, he]))
        have d1 := eqSB_yes he
        clear hx hy he hkg hb
        go_wp2_with fail
        go_quiet (fail)
        go_wp2
        go_roundg g
        case measure => omega
        case rel => exact ⟨k + 1, by have := HG.out; omega, by go_num, HN.out, stepB HB.out (below_drewN _ _)⟩
      · have HV := Lib.hid (samS_bad hx hy he)
        have d1 := eqSB_no he
        clear hx hy he hkg hb
        go_wp2_with fail
        go_quiet (fail)
        go_wp2
        go_ret
        exact ⟨retb HV.out.symm, stepB HB.out (below_drewN _ _)⟩
 · have e1 : ((xs.length : Int) != (ys.length : Int)) = true := by simp; omega
   have e1' : (xs.length != ys.length) = true := by simp; omega
   have HV := Lib.hid (samS_len hl)
   clear hx hy hl hn
   go_enter Tryz.func20, Tryz.ntmps20
   go_wp2
   go_ret
   exact ⟨retb HV.out.symm, Below.refl _ _⟩

theorem equalS_any (A A' : Option Addr) (c c' : Nat) (xs ys : List SB) (w : World) (hx : BL w w.heap.size A xs) (hy : BL w w.heap.size A' ys) (hn : xs.length ≤ 9223372036854775806) :
 Calls Tryz.prog 72 #[.slice A xs.length c, .slice A' ys.length c'] w fun e w' => e = .returned (.bool (decide (xs = ys))) ∧ Below w.heap.size w w' := by
 by_cases hl : xs.length = ys.length
 · have HX := Lib.hid hx
   have HY := Lib.hid hy
   have HM := Lib.hid hn
   have HL := Lib.hid hl
   have e1 : ((xs.length : Int) != (ys.length : Int)) = false := by simp; omega
   have e1' : (xs.length != ys.length) = false := by simp; omega
   clear hx hy hl
   have hneq := neqS
   have hgd := guardS
   go_enter Tryz.func72, Tryz.ntmps72
   go_wp2
   go_loopg [13] xs.length (fun g v wr => ∃ k : Nat, k + g = xs.length ∧ v = .int .i64 k ∧ SamS xs ys k ∧ Below w.heap.size w wr)
   case atStart => exact ⟨0, by omega, rfl, SamS.zero _ _, Below.refl _ _⟩
   case round =>
    obtain ⟨k, hkg, rfl, hrel, hb⟩ := hrel
    have HR := Lib.hid hrel
    have HB := Lib.hid hb
    have HG := Lib.hid hkg
    clear hrel
    cases gk with
    | zero =>
      obtain rfl : k = xs.length := by omega
      have HV := Lib.hid (HR.out.done HL.out)
      clear hkg hb
      go_wp2
      go_ret
      exact ⟨retb HV.out.symm, HB.out⟩
    | succ g =>
      have hlt : k < xs.length := by omega
      have hlt2 : k < ys.length := by have := HL.out; omega
      have e3 : decide ((k : Int) < (xs.length : Int)) = true := decide_eq_true (by omega)
      obtain ⟨x, hx⟩ : ∃ x, xs[k]? = some x := ⟨_, List.getElem?_eq_getElem hlt⟩
      obtain ⟨y, hy⟩ : ∃ y, ys[k]? = some y := ⟨_, List.getElem?_eq_getElem hlt2⟩
      obtain ⟨b, o, hA, hbB, kk, kv, kz⟩ := BL.at_ (HX.out.step hb) hx
      subst hA
      obtain ⟨b2, o2, hA2, hbB2, kk2, kv2, kz2⟩ := BL.at_ (HY.out.step hb) hy
      subst hA2
      have j1 : (0 : Int) ≤ (k : Int) := by omega
      have j2 : (k : Int) < (xs.length : Int) := by omega
      have j3 : (k : Int) < (ys.length : Int) := by omega
      by_cases he : x = y
      · have HN := Lib.hid (HR.out.succ hx (by rw [hy, he]))
        have d1 := eqSB_yes he
        clear hx hy he hkg hb
        go_wp2_with fail
        go_quiet (fail)
        go_wp2
        go_roundg g
        case measure => omega
        case rel => exact ⟨k + 1, by have := HG.out; omega, by go_num, HN.out, stepB HB.out (below_drewN _ _)⟩
      · have HV := Lib.hid (samS_bad hx hy he)
        have d1 := eqSB_no he
        clear hx hy he hkg hb
        go_wp2_with fail
        go_quiet (fail)
        go_wp2
        go_ret
        exact ⟨retb HV.out.symm, stepB HB.out (below_drewN _ _)⟩
 · have e1 : ((xs.length : Int) != (ys.length : Int)) = true := by simp; omega
   have e1' : (xs.length != ys.length) = true := by simp; omega
   have HV := Lib.hid (samS_len hl)
   clear hx hy hl hn
   go_enter Tryz.func72, Tryz.ntmps72
   go_wp2
   go_ret
   exact ⟨retb HV.out.symm, Below.refl _ _⟩

end Go.Proofs.YtdkegoaflabjoaaGreatDoor
namespace Go.Proofs.YtdkegoaflabjoaaGreatDoor
open Go.RowKit

theorem IL.at_ {w : World} {B : Nat} {A : Option Addr} {xs : List Int} (h : IL w B A xs) {j : Nat} {x : Int} (hx : xs[j]? = some x) :
 ∃ b o, A = some ⟨b, o, none⟩ ∧ b < B ∧ w.cell? ⟨b, o + j, none⟩ = some (.int .i64 x) := by
 obtain ⟨b, o, e, hb, hc⟩ := h (Nat.lt_of_le_of_lt (Nat.zero_le _) (List.getElem?_eq_some_iff.1 hx).1)
 exact ⟨b, o, e, hb, hc j x hx⟩

theorem sameNums_any (A A' : Option Addr) (c c' : Nat) (xs ys : List Int) (w : World) (hx : IL w w.heap.size A xs) (hy : IL w w.heap.size A' ys) (hn : xs.length ≤ 9223372036854775806) :
 Calls Tryz.prog 22 #[.slice A xs.length c, .slice A' ys.length c'] w fun e w' => e = .returned (.bool (decide (xs = ys))) ∧ Below w.heap.size w w' := by
 by_cases hl : xs.length = ys.length
 · have HX := Lib.hid hx
   have HY := Lib.hid hy
   have HM := Lib.hid hn
   have HL := Lib.hid hl
   have e1 : ((xs.length : Int) != (ys.length : Int)) = false := by simp; omega
   have e1' : (xs.length != ys.length) = false := by simp; omega
   clear hx hy hl
   go_enter Tryz.func22, Tryz.ntmps22
   go_wp2
   go_loopg [5] xs.length (fun g v wr => ∃ k : Nat, k + g = xs.length ∧ v = .int .i64 k ∧ SamS xs ys k ∧ Below w.heap.size w wr)
   case atStart => exact ⟨0, by omega, rfl, SamS.zero _ _, Below.refl _ _⟩
   case round =>
    obtain ⟨k, hkg, rfl, hrel, hb⟩ := hrel
    have HR := Lib.hid hrel
    have HB := Lib.hid hb
    have HG := Lib.hid hkg
    clear hrel
    cases gk with
    | zero =>
      obtain rfl : k = xs.length := by omega
      have HV := Lib.hid (HR.out.done HL.out)
      clear hkg hb
      go_wp2
      go_ret
      exact ⟨retb HV.out.symm, HB.out⟩
    | succ g =>
      have hlt : k < xs.length := by omega
      have hlt2 : k < ys.length := by have := HL.out; omega
      have e3 : decide ((k : Int) < (xs.length : Int)) = true := decide_eq_true (by omega)
      obtain ⟨x, hx⟩ : ∃ x, xs[k]? = some x := ⟨_, List.getElem?_eq_getElem hlt⟩
      obtain ⟨y, hy⟩ : ∃ y, ys[k]? = some y := ⟨_, List.getElem?_eq_getElem hlt2⟩
      obtain ⟨b, o, hA, hbB, kk⟩ := IL.at_ (HX.out.step hb) hx
      subst hA
      obtain ⟨b2, o2, hA2, hbB2, kk2⟩ := IL.at_ (HY.out.step hb) hy
      subst hA2
      have j1 : (0 : Int) ≤ (k : Int) := by omega
      have j2 : (k : Int) < (xs.length : Int) := by omega
      have j3 : (k : Int) < (ys.length : Int) := by omega
      by_cases he : x = y
      · have HN := Lib.hid (HR.out.succ hx (by rw [hy, he]))
        have d1 : (x != y) = false := by simp [he]
        clear hx hy he hkg hb
        go_wp2_with fail
        go_quiet (fail)
        go_wp2
        go_roundg g
        case measure => omega
        case rel => exact ⟨k + 1, by have := HG.out; omega, by go_num, HN.out, stepB HB.out (below_drewN _ _)⟩
      · have HV := Lib.hid (samS_bad hx hy he)
        have d1 : (x != y) = true := by simp [he]
        clear hx hy he hkg hb
        go_wp2_with fail
        go_quiet (fail)
        go_wp2
        go_ret
        exact ⟨retb HV.out.symm, stepB HB.out (below_drewN _ _)⟩
 · have e1 : ((xs.length : Int) != (ys.length : Int)) = true := by simp; omega
   have e1' : (xs.length != ys.length) = true := by simp; omega
   have HV := Lib.hid (samS_len hl)
   clear hx hy hl hn
   go_enter Tryz.func22, Tryz.ntmps22
   go_wp2
   go_ret
   exact ⟨retb HV.out.symm, Below.refl _ _⟩

theorem below_eqN {w w' : World} (h : ∃ q, w' = w.drewN q) : Below w.heap.size w w' := by
 obtain ⟨q, rfl⟩ := h
 exact below_drewN _ _
theorem equalI_any (A A' : Option Addr) (c c' : Nat) (xs ys : List Int) (w : World) (hx : IL w w.heap.size A xs) (hy : IL w w.heap.size A' ys) (hn : xs.length ≤ 9223372036854775806) :
 Calls Tryz.prog 74 #[.slice A xs.length c, .slice A' ys.length c'] w fun e w' => e = .returned (.bool (decide (xs = ys))) ∧ Below w.heap.size w w' := by
 by_cases hl : xs.length = ys.length
 · by_cases h0 : 0 < xs.length
   · obtain ⟨b, o, rfl, _, hc⟩ := hx h0
     obtain ⟨b2, o2, rfl, _, hc2⟩ := hy (by omega)
     refine (Tryz.slices_Equal_int b o xs.length c b2 o2 ys.length c' xs ys w (Nat.le_refl _) (Nat.le_refl _) (by omega) (by omega) (fun j hj => ?_) (fun j hj => ?_)).mono fun e w' h => ⟨?_, below_eqN h.2⟩
     · rw [List.getD_eq_getElem?_getD, List.getElem?_eq_getElem hj]; exact hc j _ (List.getElem?_eq_getElem hj)
     · rw [List.getD_eq_getElem?_getD, List.getElem?_eq_getElem hj]; exact hc2 j _ (List.getElem?_eq_getElem hj)
     · rw [h.1, List.take_length, List.take_length]
       refine retb ?_
       rw [Bool.eq_iff_iff]; simp
   · have e1 : xs = [] := List.eq_nil_of_length_eq_zero (by omega)
     have e2 : ys = [] := List.eq_nil_of_length_eq_zero (by omega)
     subst e1 e2
     exact (Tryz.slices_Equal_int_empty A A' c 0 c' w (by omega)).mono fun e w' h => ⟨h.1, by rw [h.2]; exact Below.refl _ _⟩
 · exact (Tryz.slices_Equal_int_lens A A' xs.length c ys.length c' w hl).mono fun e w' h => ⟨by rw [samS_len hl]; exact h.1, by rw [h.2]; exact Below.refl _ _⟩
theorem equalT_any (A A' : Option Addr) (c c' : Nat) (xs ys : List ByteArray) (w : World) (hx : SL w w.heap.size A xs) (hy : SL w w.heap.size A' ys) (hn : xs.length ≤ 9223372036854775806) :
 Calls Tryz.prog 73 #[.slice A xs.length c, .slice A' ys.length c'] w fun e w' => e = .returned (.bool (decide (xs = ys))) ∧ Below w.heap.size w w' := by
 by_cases hl : xs.length = ys.length
 · by_cases h0 : 0 < xs.length
   · obtain ⟨b, o, rfl, _, hc⟩ := hx h0
     obtain ⟨b2, o2, rfl, _, hc2⟩ := hy (by omega)
     refine (Tryz.slices_Equal_string b o xs.length c b2 o2 ys.length c' xs ys w (Nat.le_refl _) (Nat.le_refl _) (by omega) (by omega) (fun j hj => ?_) (fun j hj => ?_)).mono fun e w' h => ⟨?_, below_eqN h.2⟩
     · rw [List.getD_eq_getElem?_getD, List.getElem?_eq_getElem hj]; exact hc j _ (List.getElem?_eq_getElem hj)
     · rw [List.getD_eq_getElem?_getD, List.getElem?_eq_getElem hj]; exact hc2 j _ (List.getElem?_eq_getElem hj)
     · rw [h.1, List.take_length, List.take_length]
   · have e1 : xs = [] := List.eq_nil_of_length_eq_zero (by omega)
     have e2 : ys = [] := List.eq_nil_of_length_eq_zero (by omega)
     subst e1 e2
     exact (Tryz.slices_Equal_string_empty A A' c 0 c' w (by omega)).mono fun e w' h => ⟨h.1, by rw [h.2]; exact Below.refl _ _⟩
 · exact (Tryz.slices_Equal_string_lens A A' xs.length c ys.length c' w hl).mono fun e w' h => ⟨by rw [samS_len hl]; exact h.1, by rw [h.2]; exact Below.refl _ _⟩
theorem rSameT_any (A A' : Option Addr) (c c' : Nat) (xs ys : List ByteArray) (w : World) (hx : SL w w.heap.size A xs) (hy : SL w w.heap.size A' ys) (hn : xs.length ≤ 9223372036854775806) (hm : ys.length ≤ 9223372036854775806) :
 Calls Tryz.prog 21 #[.slice A xs.length c, .slice A' ys.length c'] w fun e w' => e = .returned (.bool (decide (xs = ys))) ∧ Below w.heap.size w w' := by
 refine (S1.same_any A A' c c' xs ys w w.heap.size hx hy (by omega) (by omega)).mono fun e w' h => ⟨h.1, ?_⟩
 obtain ⟨n, rfl⟩ := h.2
 exact below_drewN _ _

end Go.Proofs.YtdkegoaflabjoaaGreatDoor
namespace Go.Proofs.YtdkegoaflabjoaaGreatDoor
open Go.RowKit

theorem eqPl (a0 b0 : Int) (a1 b1 : Int) (a2 b2 : Bool) (a3 b3 : ByteArray) (a4 b4 : ByteArray) (a5 b5 : Bool) (a6 b6 : Int) (a7 b7 : Int) (a8 b8 : Int) (a9 b9 : Bool) (a10 b10 : Int) (a11 b11 : Bool) (a12 b12 : Int) (w : World) : Sem.run Tryz.prog (binOp .eql 100 (.agg #[.int .i64 a0, .int .i64 a1, .bool a2, .string a3, .string a4, .bool a5, .int .i64 a6, .int .i64 a7, .int .i64 a8, .bool a9, .int .i64 a10, .bool a11, .int .i64 a12]) (.agg #[.int .i64 b0, .int .i64 b1, .bool b2, .string b3, .string b4, .bool b5, .int .i64 b6, .int .i64 b7, .int .i64 b8, .bool b9, .int .i64 b10, .bool b11, .int .i64 b12])) w = .ok (.bool (decide (a0 = b0 ∧ a1 = b1 ∧ a2 = b2 ∧ a3 = b3 ∧ a4 = b4 ∧ a5 = b5 ∧ a6 = b6 ∧ a7 = b7 ∧ a8 = b8 ∧ a9 = b9 ∧ a10 = b10 ∧ a11 = b11 ∧ a12 = b12))) w := by
 have u3 := Tryz.underlying9
 have aa3 := Tryz.isAgg9
 have z3 := Tryz.sizeOf9
 have u4 := Tryz.underlying3
 have aa4 := Tryz.isAgg3
 have z4 := Tryz.sizeOf3
 have u5 := Tryz.underlying4
 have aa5 := Tryz.isAgg4
 have z5 := Tryz.sizeOf4
 have hS : Tryz.prog.underlying 100 = some (.struct (Tryz.prog.fieldsOf 100)) := by kernel_rfl
 have hp : Tryz.prog.stoodInHeld 100 = false := by kernel_rfl
 have hs3 := str_dec a3 b3
 have hs4 := str_dec a4 b4
 rw [run_eql_struct, show (10000 : Nat) = 9999 + 1 from rfl, run_equalIn_agg w 9999 100 _ _ hS hp]
 simp only [Program.fieldsOf, Tryz.underlying100]
 by_cases q0 : a0 = b0
 case neg => go_simp
 by_cases q1 : a1 = b1
 case neg => go_simp
 by_cases q2 : a2 = b2
 case neg => go_simp
 by_cases q3 : a3 = b3
 case neg => go_simp
 by_cases q4 : a4 = b4
 case neg => go_simp
 by_cases q5 : a5 = b5
 case neg => go_simp
 by_cases q6 : a6 = b6
 case neg => go_simp
 by_cases q7 : a7 = b7
 case neg => go_simp
 by_cases q8 : a8 = b8
 case neg => go_simp
 by_cases q9 : a9 = b9
 case neg => go_simp
 by_cases q10 : a10 = b10
 case neg => go_simp
 by_cases q11 : a11 = b11
 case neg => go_simp
 by_cases q12 : a12 = b12
 case neg => go_simp
 subst q0 q1 q2 q3 q4 q5 q6 q7 q8 q9 q10 q11 q12
 go_simp

end Go.Proofs.YtdkegoaflabjoaaGreatDoor
namespace Go.Proofs.YtdkegoaflabjoaaGreatDoor
open Go.RowKit

theorem info33 : (Tryz.prog.info? 38).map (·.size) = some 34 := by kernel_rfl
theorem ldPk {o : Oper} {ev : Operand → Value} {w : World} {x : Operand} {g : Nat} {p : Pkt} {a : PA} (ho : o.op = .load 38 x) (hx : ev x = .pointer (some ⟨g, 0, none⟩)) (h : MT 38 w g (pkC p a)) : (execOp ev o).run Tryz.prog w = .ok (.value (.agg (pkC p a).toArray)) w :=
 exec_load 38 x ho ⟨g, 0, none⟩ hx _ (run_loadVar_row w g 38 38 _ (0, 0) _ h Tryz.underlying38 rfl info33)
theorem tkP {md : Region.Mode} {ops : Array Oper} {Q : Exit → Act → World → Prop} {g : Nat} {p : Pkt} {pa : PA} {i : Nat} {oi : Oper} {fuel : Nat} {listed : Array Bool} {a a' : Act} {w : World} (hi : ops[i]? = some oi := by exact get_opsR _ _ _ rfl)
 (hs : Region.noSelect ops = true := by kernel_rfl) (hf : Region.free md ops listed i = true := by kernel_rfl) (hr : (Region.ready md ops listed).contains i = true := by kernel_rfl)
 (hQ : ∀ c a w, Q (.panic c) (a.put oi.dst (.agg (pkC p pa).toArray)) w → Q (.panic c) a w := by exact (fun _ _ _ h => h)) (y : YieldsIf Tryz.prog ops (fun w' => MT 38 w' g (pkC p pa)) oi (.agg (pkC p pa).toArray) a := by exact Or.inl ⟨by rfl, fun wS hSw => ldPk rfl (by go_simp) hSw⟩) (s : MT 38 w g (pkC p pa) := by assumption)
 (ha : a.put oi.dst (.agg (pkC p pa).toArray) = a' := by ((try simp only [Act.put, List.setIfInBounds_toArray, List.set_cons_zero, List.set_cons_succ]); exact rfl))
 (h : wpAnyH Tryz.prog md ops Q (fun w' => MT 38 w' g (pkC p pa)) fuel (listed.setIfInBounds i true) a' w) : wpAnyH Tryz.prog md ops Q (fun w' => MT 38 w' g (pkC p pa)) (fuel + 1) listed a w :=
 wpAnyH_take hi hs hf hr hQ y s (by rw [ha]; exact h)
theorem boxK (w : World) (p : Pkt) (a : PA) : ∃ w1, w1 = w.alloc (.cells (pkC p a).toArray 38) ∧ Below w.heap.size w w1 ∧ MT 38 w1 w.heap.size (pkC p a) := ⟨_, rfl, belA _ _, MT.new w _ _⟩
theorem info26 : (Tryz.prog.info? 31).map (·.size) = some 9 := by kernel_rfl
theorem info28 : (Tryz.prog.info? 33).map (·.size) = some 11 := by kernel_rfl
/-- a will's cells -/
def wlC (p : Pkt) (a : PA) : List Value := [.bool p.wset, .int .i64 p.wdelay, .string p.wmsg.topic, .string p.wmsg.payload, .int .i64 p.wmsg.level, .bool p.wmsg.retain, .int .i64 p.wmsg.prio, .int .i64 p.wmsg.exps, .string p.wmsg.frm, .int .i64 p.wmsg.seq, .slice a.v p.wmsg.props.length a.vc]
def wlV (p : Pkt) (a : PA) : Value := .agg (wlC p a).toArray
/-- lengths that fit an int -/
structure PSz (p : Pkt) : Prop where
 m : p.msg.props.length ≤ 9223372036854775806
 v : p.wmsg.props.length ≤ 9223372036854775806
 s : p.subs.length ≤ 9223372036854775806
 f : p.filters.length ≤ 9223372036854775806
 c : p.codes.length ≤ 9223372036854775806
def plainEq (p q : Pkt) : Bool := decide (p.kind = q.kind ∧ p.id = q.id ∧ p.dup = q.dup ∧ p.client = q.client ∧ p.user = q.user ∧ p.clean = q.clean ∧ p.keep = q.keep ∧ p.expiry = q.expiry ∧ p.window = q.window ∧ p.wset = q.wset ∧ p.wdelay = q.wdelay ∧ p.present = q.present ∧ p.code = q.code)
theorem eqPlain (p q : Pkt) (w : World) : Sem.run Tryz.prog (binOp .eql 100 (.agg (plC p).toArray) (.agg (plC q).toArray)) w = .ok (.bool (plainEq p q)) w := eqPl _ _ _ _ _ _ _ _ _ _ _ _ _ _ _ _ _ _ _ _ _ _ _ _ _ _ w
theorem sameP_parts (p q : Pkt) : sameP p q = (plainEq p q && sameM p.msg q.msg && sameM p.wmsg q.wmsg && decide (p.subs = q.subs) && decide (p.filters = q.filters) && decide (p.codes = q.codes)) := by
 unfold sameP plainEq sameM
 rw [Bool.eq_iff_iff]
 simp only [Bool.and_eq_true, decide_eq_true_eq]
 constructor
 · rintro rfl; simp
 · intro h
   cases p; cases q
   simp only [Pkt.mk.injEq] at h ⊢
   simp_all
theorem sameP_any (p q : Pkt) (a b : PA) (w : World) (ha : PIn w p a) (hb : PIn w q b) (hz : PSz p) (_hy : PSz q) :
 Calls Tryz.prog 33 #[pkV p a, pkV q b] w fun e w' => e = .returned (.bool (sameP p q)) ∧ Below w.heap.size w w' := by
 have C0 := Lib.hid (fun w => plainOf_any p a w)
 have C0' := Lib.hid (fun w => plainOf_any q b w)
 have C1 : Hid (∀ w, PIn w p a → PIn w q b → Calls Tryz.prog 71 #[msgV p.msg a.m a.mc, msgV q.msg b.m b.mc] w fun e w' => e = .returned (.bool (sameM p.msg q.msg)) ∧ Below w.heap.size w w') := Lib.hid (fun w h h' => same_any p.msg q.msg a.m b.m a.mc b.mc w h.m h'.m hz.m)
 have C2 : Hid (∀ w, PIn w p a → PIn w q b → Calls Tryz.prog 71 #[msgV p.wmsg a.v a.vc, msgV q.wmsg b.v b.vc] w fun e w' => e = .returned (.bool (sameM p.wmsg q.wmsg)) ∧ Below w.heap.size w w') := Lib.hid (fun w h h' => same_any p.wmsg q.wmsg a.v b.v a.vc b.vc w h.v h'.v hz.v)
 have C3 : Hid (∀ w, PIn w p a → PIn w q b → Calls Tryz.prog 72 #[.slice a.s p.subs.length a.sc, .slice b.s q.subs.length b.sc] w fun e w' => e = .returned (.bool (decide (p.subs = q.subs))) ∧ Below w.heap.size w w') := Lib.hid (fun w h h' => equalS_any a.s b.s a.sc b.sc p.subs q.subs w h.s h'.s hz.s)
 have C4 : Hid (∀ w, PIn w p a → PIn w q b → Calls Tryz.prog 73 #[.slice a.f p.filters.length a.fc, .slice b.f q.filters.length b.fc] w fun e w' => e = .returned (.bool (decide (p.filters = q.filters))) ∧ Below w.heap.size w w') := Lib.hid (fun w h h' => equalT_any a.f b.f a.fc b.fc p.filters q.filters w h.f h'.f hz.f)
 have C5 : Hid (∀ w, PIn w p a → PIn w q b → Calls Tryz.prog 74 #[.slice a.c p.codes.length a.cc, .slice b.c q.codes.length b.cc] w fun e w' => e = .returned (.bool (decide (p.codes = q.codes))) ∧ Below w.heap.size w w') := Lib.hid (fun w h h' => equalI_any a.c b.c a.cc b.cc p.codes q.codes w h.c h'.c hz.c)
 have HE := Lib.hid (fun w => eqPlain p q w)
 have HR := sameP_parts p q
 generalize sameP p q = r at HR ⊢
 generalize plainEq p q = x0 at HE HR
 generalize sameM p.msg q.msg = x1 at C1 HR
 generalize sameM p.wmsg q.wmsg = x2 at C2 HR
 generalize decide (p.subs = q.subs) = x3 at C3 HR
 generalize decide (p.filters = q.filters) = x4 at C4 HR
 generalize decide (p.codes = q.codes) = x5 at C5 HR
 unfold pkV at C0 C0' ⊢
 obtain ⟨w1, hw1⟩ : ∃ w1, w1 = (w.alloc (.cells (pkC p a).toArray 38)).alloc (.cells (pkC q b).toArray 38) := ⟨_, rfl⟩
 have hb0 : Below w.heap.size w (w.alloc (.cells (pkC p a).toArray 38)) := belA _ _
 have hb1 : Below w.heap.size w w1 := by rw [hw1]; exact hb0.alloc (by simp) _
 have HBw1 := Lib.hid hb1
 have HPw1 := Lib.hid (ha.step hb1)
 have HOw1 := Lib.hid (hb.step hb1)
 have HQw1 : Hid (MT 38 w1 w.heap.size (pkC p a)) := Lib.hid (by rw [hw1]; exact (MT.new w _ _).alloc _)
 have HXw1 : Hid (MT 38 w1 (w.heap.size + 1) (pkC q b)) := Lib.hid (by rw [hw1]; have := MT.new (w.alloc (.cells (pkC p a).toArray 38)) 38 (pkC q b); rw [show (w.alloc (.cells (pkC p a).toArray 38)).heap.size = w.heap.size + 1 by simp] at this; exact this)
 have HW1 := Lib.hid hw1
 clear ha hb hz _hy hb0 hb1 hw1
 cases x0
 case false =>
  replace HR : r = false := by rw [HR]; simp
  clear C1 C2 C3 C4 C5
  go_enter Tryz.func33, Tryz.ntmps33
  go_upto_region 1 with fail
  rw [← HW1.out]
  obtain ⟨v1, hv1⟩ : ∃ v1, v1 = World.drew w1 := ⟨_, rfl⟩
  have hbD : Below w1.heap.size w1 v1 := by rw [hv1]; exact (Below.refl _ _).drew
  have HBv1 : Hid (Below w.heap.size w v1) := Lib.hid (stepB HBw1.out hbD)
  have HQv1 : Hid (MT 38 v1 w.heap.size (pkC p a)) := Lib.hid (MT.step HQw1.out hbD)
  have HXv1 : Hid (MT 38 v1 (w.heap.size + 1) (pkC q b)) := Lib.hid (MT.step HXw1.out hbD)
  have HPv1 : Hid (PIn v1 p a) := Lib.hid (PIn.step HPw1.out hbD)
  have HOv1 : Hid (PIn v1 q b) := Lib.hid (PIn.step HOw1.out hbD)
  clear HBw1 HQw1 HXw1 HPw1 HOw1
  have hbd : (fun w' => MT 38 w' w.heap.size (pkC p a) ∧ MT 38 w' (w.heap.size + 1) (pkC q b)) (World.drew w1) := by rw [← hv1]; exact ⟨HQv1.out, HXv1.out⟩
  have hSD : (fun w' => MT 38 w' w.heap.size (pkC p a) ∧ MT 38 w' (w.heap.size + 1) (pkC q b)) v1 := ⟨HQv1.out, HXv1.out⟩
  have HWD := Lib.hid hv1
  clear hv1 hbD
  refine wp_region_held_drew (S := fun w' => MT 38 w' w.heap.size (pkC p a) ∧ MT 38 w' (w.heap.size + 1) (pkC q b)) (by kernel_rfl) hbd (fun hHeld => ?_)
  rw [← HWD.out]
  clear hHeld
  have hHeld := hSD
  clear hSD hbd HWD
  refine tkA (i := 0) (v := .agg (pkC p a).toArray) (y := Or.inl ⟨by rfl, fun wS hSw => by (try dsimp only at hSw); exact ldPk rfl (by go_simp) hSw.1⟩) (h := ?_)
  refine tkA (i := 2) (v := .agg (pkC q b).toArray) (y := Or.inl ⟨by rfl, fun wS hSw => by (try dsimp only at hSw); exact ldPk rfl (by go_simp) hSw.2⟩) (h := ?_)
  refine rdA 1 (h := fun K hK => ?_)
  go_simp
  go_at_call 70
  refine (C0.out v1).mono ?_
  rintro e v2 ⟨rfl, hb⟩
  have HBv2 : Hid (Below w.heap.size w v2) := Lib.hid (stepB HBv1.out hb)
  have HQv2 : Hid (MT 38 v2 w.heap.size (pkC p a)) := Lib.hid (MT.step HQv1.out hb)
  have HXv2 : Hid (MT 38 v2 (w.heap.size + 1) (pkC q b)) := Lib.hid (MT.step HXv1.out hb)
  have HPv2 : Hid (PIn v2 p a) := Lib.hid (PIn.step HPv1.out hb)
  have HOv2 : Hid (PIn v2 q b) := Lib.hid (PIn.step HOv1.out hb)
  clear HBv1 HQv1 HXv1 HPv1 HOv1
  clear hHeld hb
  go_wp2_with fail
  refine hK.out _ _ ⟨HQv2.out, HXv2.out⟩ (fun hHeld => ?_)
  clear hK K
  try simp only [Act.put, List.setIfInBounds_toArray, List.set]
  refine rdA 3 (h := fun K hK => ?_)
  go_simp
  go_at_call 70
  refine (C0'.out v2).mono ?_
  rintro e v3 ⟨rfl, hb⟩
  have HBv3 : Hid (Below w.heap.size w v3) := Lib.hid (stepB HBv2.out hb)
  have HQv3 : Hid (MT 38 v3 w.heap.size (pkC p a)) := Lib.hid (MT.step HQv2.out hb)
  have HXv3 : Hid (MT 38 v3 (w.heap.size + 1) (pkC q b)) := Lib.hid (MT.step HXv2.out hb)
  have HPv3 : Hid (PIn v3 p a) := Lib.hid (PIn.step HPv2.out hb)
  have HOv3 : Hid (PIn v3 q b) := Lib.hid (PIn.step HOv2.out hb)
  clear HBv2 HQv2 HXv2 HPv2 HOv2
  clear hHeld hb
  go_wp2_with fail
  refine hK.out _ _ ⟨HQv3.out, HXv3.out⟩ (fun hHeld => ?_)
  clear hK K
  try simp only [Act.put, List.setIfInBounds_toArray, List.set]
  refine tkA (i := 4) (v := .bool false) (y := Or.inl ⟨by rfl, fun wS hSw => by (try dsimp only at hSw); exact exec_bin .eql _ _ _ _ rfl _ _ (by go_simp) (by go_simp) (run_eqGuard_agg wS _ _ _ _ _ _ (by kernel_rfl)) _ (HE.out wS)⟩) (h := ?_)
  refine tkS (i := 5) (v := .bool false) (h := ?_)
  refine tkA (i := 6) (v := undef) (y := Or.inr ⟨by rfl, rfl⟩) (h := ?_)
  refine tkA (i := 7) (v := undef) (y := Or.inr ⟨by rfl, rfl⟩) (h := ?_)
  refine tkA (i := 8) (v := undef) (y := Or.inr ⟨by rfl, rfl⟩) (h := ?_)
  refine tkA (i := 9) (v := undef) (y := Or.inr ⟨by rfl, rfl⟩) (h := ?_)
  refine tkA (i := 10) (v := undef) (y := Or.inr ⟨by rfl, rfl⟩) (h := ?_)
  refine tkS (i := 11) (v := .bool false) (h := ?_)
  refine tkS (i := 12) (v := .bool false) (h := ?_)
  refine tkA (i := 13) (v := undef) (y := Or.inr ⟨by rfl, rfl⟩) (h := ?_)
  refine tkA (i := 14) (v := undef) (y := Or.inr ⟨by rfl, rfl⟩) (h := ?_)
  refine tkA (i := 15) (v := undef) (y := Or.inr ⟨by rfl, rfl⟩) (h := ?_)
  refine tkA (i := 16) (v := undef) (y := Or.inr ⟨by rfl, rfl⟩) (h := ?_)
  refine tkA (i := 17) (v := undef) (y := Or.inr ⟨by rfl, rfl⟩) (h := ?_)
  refine tkA (i := 18) (v := undef) (y := Or.inr ⟨by rfl, rfl⟩) (h := ?_)
  refine tkA (i := 19) (v := undef) (y := Or.inr ⟨by rfl, rfl⟩) (h := ?_)
  refine tkS (i := 20) (v := .bool false) (h := ?_)
  refine tkS (i := 21) (v := .bool false) (h := ?_)
  refine tkA (i := 22) (v := undef) (y := Or.inr ⟨by rfl, rfl⟩) (h := ?_)
  refine tkA (i := 23) (v := undef) (y := Or.inr ⟨by rfl, rfl⟩) (h := ?_)
  refine tkA (i := 24) (v := undef) (y := Or.inr ⟨by rfl, rfl⟩) (h := ?_)
  refine tkA (i := 25) (v := undef) (y := Or.inr ⟨by rfl, rfl⟩) (h := ?_)
  refine tkA (i := 26) (v := undef) (y := Or.inr ⟨by rfl, rfl⟩) (h := ?_)
  refine tkS (i := 27) (v := .bool false) (h := ?_)
  refine tkS (i := 28) (v := .bool false) (h := ?_)
  refine tkA (i := 29) (v := undef) (y := Or.inr ⟨by rfl, rfl⟩) (h := ?_)
  refine tkA (i := 30) (v := undef) (y := Or.inr ⟨by rfl, rfl⟩) (h := ?_)
  refine tkA (i := 31) (v := undef) (y := Or.inr ⟨by rfl, rfl⟩) (h := ?_)
  refine tkA (i := 32) (v := undef) (y := Or.inr ⟨by rfl, rfl⟩) (h := ?_)
  refine tkA (i := 33) (v := undef) (y := Or.inr ⟨by rfl, rfl⟩) (h := ?_)
  refine tkS (i := 34) (v := .bool false) (h := ?_)
  refine tkS (i := 35) (v := .bool false) (h := ?_)
  refine tkA (i := 36) (v := undef) (y := Or.inr ⟨by rfl, rfl⟩) (h := ?_)
  refine tkA (i := 37) (v := undef) (y := Or.inr ⟨by rfl, rfl⟩) (h := ?_)
  refine tkA (i := 38) (v := undef) (y := Or.inr ⟨by rfl, rfl⟩) (h := ?_)
  refine tkA (i := 39) (v := undef) (y := Or.inr ⟨by rfl, rfl⟩) (h := ?_)
  refine tkA (i := 40) (v := undef) (y := Or.inr ⟨by rfl, rfl⟩) (h := ?_)
  refine tkS (i := 41) (v := .bool false) (h := ?_)
  refine tkS (i := 42) (v := .bool false) (h := ?_)
  refine wpAnyH_done (by kernel_rfl) ?_ _
  go_wp2
  go_ret
  exact ⟨retb HR.symm, HBv3.out⟩
 cases x1
 case false =>
  replace HR : r = false := by rw [HR]; simp
  clear C2 C3 C4 C5
  go_enter Tryz.func33, Tryz.ntmps33
  go_upto_region 1 with fail
  rw [← HW1.out]
  obtain ⟨v1, hv1⟩ : ∃ v1, v1 = World.drew w1 := ⟨_, rfl⟩
  have hbD : Below w1.heap.size w1 v1 := by rw [hv1]; exact (Below.refl _ _).drew
  have HBv1 : Hid (Below w.heap.size w v1) := Lib.hid (stepB HBw1.out hbD)
  have HQv1 : Hid (MT 38 v1 w.heap.size (pkC p a)) := Lib.hid (MT.step HQw1.out hbD)
  have HXv1 : Hid (MT 38 v1 (w.heap.size + 1) (pkC q b)) := Lib.hid (MT.step HXw1.out hbD)
  have HPv1 : Hid (PIn v1 p a) := Lib.hid (PIn.step HPw1.out hbD)
  have HOv1 : Hid (PIn v1 q b) := Lib.hid (PIn.step HOw1.out hbD)
  clear HBw1 HQw1 HXw1 HPw1 HOw1
  have hbd : (fun w' => MT 38 w' w.heap.size (pkC p a) ∧ MT 38 w' (w.heap.size + 1) (pkC q b)) (World.drew w1) := by rw [← hv1]; exact ⟨HQv1.out, HXv1.out⟩
  have hSD : (fun w' => MT 38 w' w.heap.size (pkC p a) ∧ MT 38 w' (w.heap.size + 1) (pkC q b)) v1 := ⟨HQv1.out, HXv1.out⟩
  have HWD := Lib.hid hv1
  clear hv1 hbD
  refine wp_region_held_drew (S := fun w' => MT 38 w' w.heap.size (pkC p a) ∧ MT 38 w' (w.heap.size + 1) (pkC q b)) (by kernel_rfl) hbd (fun hHeld => ?_)
  rw [← HWD.out]
  clear hHeld
  have hHeld := hSD
  clear hSD hbd HWD
  refine tkA (i := 0) (v := .agg (pkC p a).toArray) (y := Or.inl ⟨by rfl, fun wS hSw => by (try dsimp only at hSw); exact ldPk rfl (by go_simp) hSw.1⟩) (h := ?_)
  refine tkA (i := 2) (v := .agg (pkC q b).toArray) (y := Or.inl ⟨by rfl, fun wS hSw => by (try dsimp only at hSw); exact ldPk rfl (by go_simp) hSw.2⟩) (h := ?_)
  refine rdA 1 (h := fun K hK => ?_)
  go_simp
  go_at_call 70
  refine (C0.out v1).mono ?_
  rintro e v2 ⟨rfl, hb⟩
  have HBv2 : Hid (Below w.heap.size w v2) := Lib.hid (stepB HBv1.out hb)
  have HQv2 : Hid (MT 38 v2 w.heap.size (pkC p a)) := Lib.hid (MT.step HQv1.out hb)
  have HXv2 : Hid (MT 38 v2 (w.heap.size + 1) (pkC q b)) := Lib.hid (MT.step HXv1.out hb)
  have HPv2 : Hid (PIn v2 p a) := Lib.hid (PIn.step HPv1.out hb)
  have HOv2 : Hid (PIn v2 q b) := Lib.hid (PIn.step HOv1.out hb)
  clear HBv1 HQv1 HXv1 HPv1 HOv1
  clear hHeld hb
  go_wp2_with fail
  refine hK.out _ _ ⟨HQv2.out, HXv2.out⟩ (fun hHeld => ?_)
  clear hK K
  try simp only [Act.put, List.setIfInBounds_toArray, List.set]
  refine rdA 3 (h := fun K hK => ?_)
  go_simp
  go_at_call 70
  refine (C0'.out v2).mono ?_
  rintro e v3 ⟨rfl, hb⟩
  have HBv3 : Hid (Below w.heap.size w v3) := Lib.hid (stepB HBv2.out hb)
  have HQv3 : Hid (MT 38 v3 w.heap.size (pkC p a)) := Lib.hid (MT.step HQv2.out hb)
  have HXv3 : Hid (MT 38 v3 (w.heap.size + 1) (pkC q b)) := Lib.hid (MT.step HXv2.out hb)
  have HPv3 : Hid (PIn v3 p a) := Lib.hid (PIn.step HPv2.out hb)
  have HOv3 : Hid (PIn v3 q b) := Lib.hid (PIn.step HOv2.out hb)
  clear HBv2 HQv2 HXv2 HPv2 HOv2
  clear hHeld hb
  go_wp2_with fail
  refine hK.out _ _ ⟨HQv3.out, HXv3.out⟩ (fun hHeld => ?_)
  clear hK K
  try simp only [Act.put, List.setIfInBounds_toArray, List.set]
  refine tkA (i := 4) (v := .bool true) (y := Or.inl ⟨by rfl, fun wS hSw => by (try dsimp only at hSw); exact exec_bin .eql _ _ _ _ rfl _ _ (by go_simp) (by go_simp) (run_eqGuard_agg wS _ _ _ _ _ _ (by kernel_rfl)) _ (HE.out wS)⟩) (h := ?_)
  refine tkS (i := 5) (v := .bool true) (h := ?_)
  refine tkS (i := 6) (v := .pointer (some ⟨w.heap.size, 3, none⟩)) (h := ?_)
  refine tkA (i := 7) (v := msgV p.msg a.m a.mc) (y := Or.inl ⟨by rfl, fun wS hSw => by (try dsimp only at hSw); exact exec_load 31 _ rfl ⟨w.heap.size, 3, none⟩ (by go_simp) _ (run_load_part wS w.heap.size 3 9 38 31 _ (0, 0) _ hSw.1 Tryz.underlying31 rfl info26 (by rw [pkC_len]; decide))⟩) (h := ?_)
  refine tkS (i := 8) (v := .pointer (some ⟨w.heap.size + 1, 3, none⟩)) (h := ?_)
  refine tkA (i := 9) (v := msgV q.msg b.m b.mc) (y := Or.inl ⟨by rfl, fun wS hSw => by (try dsimp only at hSw); exact exec_load 31 _ rfl ⟨w.heap.size + 1, 3, none⟩ (by go_simp) _ (run_load_part wS (w.heap.size + 1) 3 9 38 31 _ (0, 0) _ hSw.2 Tryz.underlying31 rfl info26 (by rw [pkC_len]; decide))⟩) (h := ?_)
  refine rdA 10 (h := fun K hK => ?_)
  go_simp
  go_at_call 71
  refine (C1.out v3 HPv3.out HOv3.out).mono ?_
  rintro e v4 ⟨rfl, hb⟩
  have HBv4 : Hid (Below w.heap.size w v4) := Lib.hid (stepB HBv3.out hb)
  have HQv4 : Hid (MT 38 v4 w.heap.size (pkC p a)) := Lib.hid (MT.step HQv3.out hb)
  have HXv4 : Hid (MT 38 v4 (w.heap.size + 1) (pkC q b)) := Lib.hid (MT.step HXv3.out hb)
  have HPv4 : Hid (PIn v4 p a) := Lib.hid (PIn.step HPv3.out hb)
  have HOv4 : Hid (PIn v4 q b) := Lib.hid (PIn.step HOv3.out hb)
  clear HBv3 HQv3 HXv3 HPv3 HOv3
  clear hHeld hb
  go_wp2_with fail
  refine hK.out _ _ ⟨HQv4.out, HXv4.out⟩ (fun hHeld => ?_)
  clear hK K
  try simp only [Act.put, List.setIfInBounds_toArray, List.set]
  refine tkS (i := 11) (v := .bool false) (h := ?_)
  refine tkS (i := 12) (v := .bool false) (h := ?_)
  refine tkA (i := 13) (v := undef) (y := Or.inr ⟨by rfl, rfl⟩) (h := ?_)
  refine tkA (i := 14) (v := undef) (y := Or.inr ⟨by rfl, rfl⟩) (h := ?_)
  refine tkA (i := 15) (v := undef) (y := Or.inr ⟨by rfl, rfl⟩) (h := ?_)
  refine tkA (i := 16) (v := undef) (y := Or.inr ⟨by rfl, rfl⟩) (h := ?_)
  refine tkA (i := 17) (v := undef) (y := Or.inr ⟨by rfl, rfl⟩) (h := ?_)
  refine tkA (i := 18) (v := undef) (y := Or.inr ⟨by rfl, rfl⟩) (h := ?_)
  refine tkA (i := 19) (v := undef) (y := Or.inr ⟨by rfl, rfl⟩) (h := ?_)
  refine tkS (i := 20) (v := .bool false) (h := ?_)
  refine tkS (i := 21) (v := .bool false) (h := ?_)
  refine tkA (i := 22) (v := undef) (y := Or.inr ⟨by rfl, rfl⟩) (h := ?_)
  refine tkA (i := 23) (v := undef) (y := Or.inr ⟨by rfl, rfl⟩) (h := ?_)
  refine tkA (i := 24) (v := undef) (y := Or.inr ⟨by rfl, rfl⟩) (h := ?_)
  refine tkA (i := 25) (v := undef) (y := Or.inr ⟨by rfl, rfl⟩) (h := ?_)
  refine tkA (i := 26) (v := undef) (y := Or.inr ⟨by rfl, rfl⟩) (h := ?_)
  refine tkS (i := 27) (v := .bool false) (h := ?_)
  refine tkS (i := 28) (v := .bool false) (h := ?_)
  refine tkA (i := 29) (v := undef) (y := Or.inr ⟨by rfl, rfl⟩) (h := ?_)
  refine tkA (i := 30) (v := undef) (y := Or.inr ⟨by rfl, rfl⟩) (h := ?_)
  refine tkA (i := 31) (v := undef) (y := Or.inr ⟨by rfl, rfl⟩) (h := ?_)
  refine tkA (i := 32) (v := undef) (y := Or.inr ⟨by rfl, rfl⟩) (h := ?_)
  refine tkA (i := 33) (v := undef) (y := Or.inr ⟨by rfl, rfl⟩) (h := ?_)
  refine tkS (i := 34) (v := .bool false) (h := ?_)
  refine tkS (i := 35) (v := .bool false) (h := ?_)
  refine tkA (i := 36) (v := undef) (y := Or.inr ⟨by rfl, rfl⟩) (h := ?_)
  refine tkA (i := 37) (v := undef) (y := Or.inr ⟨by rfl, rfl⟩) (h := ?_)
  refine tkA (i := 38) (v := undef) (y := Or.inr ⟨by rfl, rfl⟩) (h := ?_)
  refine tkA (i := 39) (v := undef) (y := Or.inr ⟨by rfl, rfl⟩) (h := ?_)
  refine tkA (i := 40) (v := undef) (y := Or.inr ⟨by rfl, rfl⟩) (h := ?_)
  refine tkS (i := 41) (v := .bool false) (h := ?_)
  refine tkS (i := 42) (v := .bool false) (h := ?_)
  refine wpAnyH_done (by kernel_rfl) ?_ _
  go_wp2
  go_ret
  exact ⟨retb HR.symm, HBv4.out⟩
 cases x2
 case false =>
  replace HR : r = false := by rw [HR]; simp
  clear C3 C4 C5
  go_enter Tryz.func33, Tryz.ntmps33
  go_upto_region 1 with fail
  rw [← HW1.out]
  obtain ⟨v1, hv1⟩ : ∃ v1, v1 = World.drew w1 := ⟨_, rfl⟩
  have hbD : Below w1.heap.size w1 v1 := by rw [hv1]; exact (Below.refl _ _).drew
  have HBv1 : Hid (Below w.heap.size w v1) := Lib.hid (stepB HBw1.out hbD)
  have HQv1 : Hid (MT 38 v1 w.heap.size (pkC p a)) := Lib.hid (MT.step HQw1.out hbD)
  have HXv1 : Hid (MT 38 v1 (w.heap.size + 1) (pkC q b)) := Lib.hid (MT.step HXw1.out hbD)
  have HPv1 : Hid (PIn v1 p a) := Lib.hid (PIn.step HPw1.out hbD)
  have HOv1 : Hid (PIn v1 q b) := Lib.hid (PIn.step HOw1.out hbD)
  clear HBw1 HQw1 HXw1 HPw1 HOw1
  have hbd : (fun w' => MT 38 w' w.heap.size (pkC p a) ∧ MT 38 w' (w.heap.size + 1) (pkC q b)) (World.drew w1) := by rw [← hv1]; exact ⟨HQv1.out, HXv1.out⟩
  have hSD : (fun w' => MT 38 w' w.heap.size (pkC p a) ∧ MT 38 w' (w.heap.size + 1) (pkC q b)) v1 := ⟨HQv1.out, HXv1.out⟩
  have HWD := Lib.hid hv1
  clear hv1 hbD
  refine wp_region_held_drew (S := fun w' => MT 38 w' w.heap.size (pkC p a) ∧ MT 38 w' (w.heap.size + 1) (pkC q b)) (by kernel_rfl) hbd (fun hHeld => ?_)
  rw [← HWD.out]
  clear hHeld
  have hHeld := hSD
  clear hSD hbd HWD
  refine tkA (i := 0) (v := .agg (pkC p a).toArray) (y := Or.inl ⟨by rfl, fun wS hSw => by (try dsimp only at hSw); exact ldPk rfl (by go_simp) hSw.1⟩) (h := ?_)
  refine tkA (i := 2) (v := .agg (pkC q b).toArray) (y := Or.inl ⟨by rfl, fun wS hSw => by (try dsimp only at hSw); exact ldPk rfl (by go_simp) hSw.2⟩) (h := ?_)
  refine rdA 1 (h := fun K hK => ?_)
  go_simp
  go_at_call 70
  refine (C0.out v1).mono ?_
  rintro e v2 ⟨rfl, hb⟩
  have HBv2 : Hid (Below w.heap.size w v2) := Lib.hid (stepB HBv1.out hb)
  have HQv2 : Hid (MT 38 v2 w.heap.size (pkC p a)) := Lib.hid (MT.step HQv1.out hb)
  have HXv2 : Hid (MT 38 v2 (w.heap.size + 1) (pkC q b)) := Lib.hid (MT.step HXv1.out hb)
  have HPv2 : Hid (PIn v2 p a) := Lib.hid (PIn.step HPv1.out hb)
  have HOv2 : Hid (PIn v2 q b) := Lib.hid (PIn.step HOv1.out hb)
  clear HBv1 HQv1 HXv1 HPv1 HOv1
  clear hHeld hb
  go_wp2_with fail
  refine hK.out _ _ ⟨HQv2.out, HXv2.out⟩ (fun hHeld => ?_)
  clear hK K
  try simp only [Act.put, List.setIfInBounds_toArray, List.set]
  refine rdA 3 (h := fun K hK => ?_)
  go_simp
  go_at_call 70
  refine (C0'.out v2).mono ?_
  rintro e v3 ⟨rfl, hb⟩
  have HBv3 : Hid (Below w.heap.size w v3) := Lib.hid (stepB HBv2.out hb)
  have HQv3 : Hid (MT 38 v3 w.heap.size (pkC p a)) := Lib.hid (MT.step HQv2.out hb)
  have HXv3 : Hid (MT 38 v3 (w.heap.size + 1) (pkC q b)) := Lib.hid (MT.step HXv2.out hb)
  have HPv3 : Hid (PIn v3 p a) := Lib.hid (PIn.step HPv2.out hb)
  have HOv3 : Hid (PIn v3 q b) := Lib.hid (PIn.step HOv2.out hb)
  clear HBv2 HQv2 HXv2 HPv2 HOv2
  clear hHeld hb
  go_wp2_with fail
  refine hK.out _ _ ⟨HQv3.out, HXv3.out⟩ (fun hHeld => ?_)
  clear hK K
  try simp only [Act.put, List.setIfInBounds_toArray, List.set]
  refine tkA (i := 4) (v := .bool true) (y := Or.inl ⟨by rfl, fun wS hSw => by (try dsimp only at hSw); exact exec_bin .eql _ _ _ _ rfl _ _ (by go_simp) (by go_simp) (run_eqGuard_agg wS _ _ _ _ _ _ (by kernel_rfl)) _ (HE.out wS)⟩) (h := ?_)
  refine tkS (i := 5) (v := .bool true) (h := ?_)
  refine tkS (i := 6) (v := .pointer (some ⟨w.heap.size, 3, none⟩)) (h := ?_)
  refine tkA (i := 7) (v := msgV p.msg a.m a.mc) (y := Or.inl ⟨by rfl, fun wS hSw => by (try dsimp only at hSw); exact exec_load 31 _ rfl ⟨w.heap.size, 3, none⟩ (by go_simp) _ (run_load_part wS w.heap.size 3 9 38 31 _ (0, 0) _ hSw.1 Tryz.underlying31 rfl info26 (by rw [pkC_len]; decide))⟩) (h := ?_)
  refine tkS (i := 8) (v := .pointer (some ⟨w.heap.size + 1, 3, none⟩)) (h := ?_)
  refine tkA (i := 9) (v := msgV q.msg b.m b.mc) (y := Or.inl ⟨by rfl, fun wS hSw => by (try dsimp only at hSw); exact exec_load 31 _ rfl ⟨w.heap.size + 1, 3, none⟩ (by go_simp) _ (run_load_part wS (w.heap.size + 1) 3 9 38 31 _ (0, 0) _ hSw.2 Tryz.underlying31 rfl info26 (by rw [pkC_len]; decide))⟩) (h := ?_)
  refine rdA 10 (h := fun K hK => ?_)
  go_simp
  go_at_call 71
  refine (C1.out v3 HPv3.out HOv3.out).mono ?_
  rintro e v4 ⟨rfl, hb⟩
  have HBv4 : Hid (Below w.heap.size w v4) := Lib.hid (stepB HBv3.out hb)
  have HQv4 : Hid (MT 38 v4 w.heap.size (pkC p a)) := Lib.hid (MT.step HQv3.out hb)
  have HXv4 : Hid (MT 38 v4 (w.heap.size + 1) (pkC q b)) := Lib.hid (MT.step HXv3.out hb)
  have HPv4 : Hid (PIn v4 p a) := Lib.hid (PIn.step HPv3.out hb)
  have HOv4 : Hid (PIn v4 q b) := Lib.hid (PIn.step HOv3.out hb)
  clear HBv3 HQv3 HXv3 HPv3 HOv3
  clear hHeld hb
  go_wp2_with fail
  refine hK.out _ _ ⟨HQv4.out, HXv4.out⟩ (fun hHeld => ?_)
  clear hK K
  try simp only [Act.put, List.setIfInBounds_toArray, List.set]
  refine tkS (i := 11) (v := .bool true) (h := ?_)
  refine tkS (i := 12) (v := .bool true) (h := ?_)
  refine tkS (i := 13) (v := .pointer (some ⟨w.heap.size, 18, none⟩)) (h := ?_)
  refine tkS (i := 14) (v := .pointer (some ⟨w.heap.size, 20, none⟩)) (h := ?_)
  refine tkA (i := 15) (v := msgV p.wmsg a.v a.vc) (y := Or.inl ⟨by rfl, fun wS hSw => by (try dsimp only at hSw); exact exec_load 31 _ rfl ⟨w.heap.size, 20, none⟩ (by go_simp) _ (run_load_part wS w.heap.size 20 9 38 31 _ (0, 0) _ hSw.1 Tryz.underlying31 rfl info26 (by rw [pkC_len]; decide))⟩) (h := ?_)
  refine tkS (i := 16) (v := .pointer (some ⟨w.heap.size + 1, 18, none⟩)) (h := ?_)
  refine tkS (i := 17) (v := .pointer (some ⟨w.heap.size + 1, 20, none⟩)) (h := ?_)
  refine tkA (i := 18) (v := msgV q.wmsg b.v b.vc) (y := Or.inl ⟨by rfl, fun wS hSw => by (try dsimp only at hSw); exact exec_load 31 _ rfl ⟨w.heap.size + 1, 20, none⟩ (by go_simp) _ (run_load_part wS (w.heap.size + 1) 20 9 38 31 _ (0, 0) _ hSw.2 Tryz.underlying31 rfl info26 (by rw [pkC_len]; decide))⟩) (h := ?_)
  refine rdA 19 (h := fun K hK => ?_)
  go_simp
  go_at_call 71
  refine (C2.out v4 HPv4.out HOv4.out).mono ?_
  rintro e v5 ⟨rfl, hb⟩
  have HBv5 : Hid (Below w.heap.size w v5) := Lib.hid (stepB HBv4.out hb)
  have HQv5 : Hid (MT 38 v5 w.heap.size (pkC p a)) := Lib.hid (MT.step HQv4.out hb)
  have HXv5 : Hid (MT 38 v5 (w.heap.size + 1) (pkC q b)) := Lib.hid (MT.step HXv4.out hb)
  have HPv5 : Hid (PIn v5 p a) := Lib.hid (PIn.step HPv4.out hb)
  have HOv5 : Hid (PIn v5 q b) := Lib.hid (PIn.step HOv4.out hb)
  clear HBv4 HQv4 HXv4 HPv4 HOv4
  clear hHeld hb
  go_wp2_with fail
  refine hK.out _ _ ⟨HQv5.out, HXv5.out⟩ (fun hHeld => ?_)
  clear hK K
  try simp only [Act.put, List.setIfInBounds_toArray, List.set]
  refine tkS (i := 20) (v := .bool false) (h := ?_)
  refine tkS (i := 21) (v := .bool false) (h := ?_)
  refine tkA (i := 22) (v := undef) (y := Or.inr ⟨by rfl, rfl⟩) (h := ?_)
  refine tkA (i := 23) (v := undef) (y := Or.inr ⟨by rfl, rfl⟩) (h := ?_)
  refine tkA (i := 24) (v := undef) (y := Or.inr ⟨by rfl, rfl⟩) (h := ?_)
  refine tkA (i := 25) (v := undef) (y := Or.inr ⟨by rfl, rfl⟩) (h := ?_)
  refine tkA (i := 26) (v := undef) (y := Or.inr ⟨by rfl, rfl⟩) (h := ?_)
  refine tkS (i := 27) (v := .bool false) (h := ?_)
  refine tkS (i := 28) (v := .bool false) (h := ?_)
  refine tkA (i := 29) (v := undef) (y := Or.inr ⟨by rfl, rfl⟩) (h := ?_)
  refine tkA (i := 30) (v := undef) (y := Or.inr ⟨by rfl, rfl⟩) (h := ?_)
  refine tkA (i := 31) (v := undef) (y := Or.inr ⟨by rfl, rfl⟩) (h := ?_)
  refine tkA (i := 32) (v := undef) (y := Or.inr ⟨by rfl, rfl⟩) (h := ?_)
  refine tkA (i := 33) (v := undef) (y := Or.inr ⟨by rfl, rfl⟩) (h := ?_)
  refine tkS (i := 34) (v := .bool false) (h := ?_)
  refine tkS (i := 35) (v := .bool false) (h := ?_)
  refine tkA (i := 36) (v := undef) (y := Or.inr ⟨by rfl, rfl⟩) (h := ?_)
  refine tkA (i := 37) (v := undef) (y := Or.inr ⟨by rfl, rfl⟩) (h := ?_)
  refine tkA (i := 38) (v := undef) (y := Or.inr ⟨by rfl, rfl⟩) (h := ?_)
  refine tkA (i := 39) (v := undef) (y := Or.inr ⟨by rfl, rfl⟩) (h := ?_)
  refine tkA (i := 40) (v := undef) (y := Or.inr ⟨by rfl, rfl⟩) (h := ?_)
  refine tkS (i := 41) (v := .bool false) (h := ?_)
  refine tkS (i := 42) (v := .bool false) (h := ?_)
  refine wpAnyH_done (by kernel_rfl) ?_ _
  go_wp2
  go_ret
  exact ⟨retb HR.symm, HBv5.out⟩
 cases x3
 case false =>
  replace HR : r = false := by rw [HR]; simp
  clear C4 C5
  go_enter Tryz.func33, Tryz.ntmps33
  go_upto_region 1 with fail
  rw [← HW1.out]
  obtain ⟨v1, hv1⟩ : ∃ v1, v1 = World.drew w1 := ⟨_, rfl⟩
  have hbD : Below w1.heap.size w1 v1 := by rw [hv1]; exact (Below.refl _ _).drew
  have HBv1 : Hid (Below w.heap.size w v1) := Lib.hid (stepB HBw1.out hbD)
  have HQv1 : Hid (MT 38 v1 w.heap.size (pkC p a)) := Lib.hid (MT.step HQw1.out hbD)
  have HXv1 : Hid (MT 38 v1 (w.heap.size + 1) (pkC q b)) := Lib.hid (MT.step HXw1.out hbD)
  have HPv1 : Hid (PIn v1 p a) := Lib.hid (PIn.step HPw1.out hbD)
  have HOv1 : Hid (PIn v1 q b) := Lib.hid (PIn.step HOw1.out hbD)
  clear HBw1 HQw1 HXw1 HPw1 HOw1
  have hbd : (fun w' => MT 38 w' w.heap.size (pkC p a) ∧ MT 38 w' (w.heap.size + 1) (pkC q b)) (World.drew w1) := by rw [← hv1]; exact ⟨HQv1.out, HXv1.out⟩
  have hSD : (fun w' => MT 38 w' w.heap.size (pkC p a) ∧ MT 38 w' (w.heap.size + 1) (pkC q b)) v1 := ⟨HQv1.out, HXv1.out⟩
  have HWD := Lib.hid hv1
  clear hv1 hbD
  refine wp_region_held_drew (S := fun w' => MT 38 w' w.heap.size (pkC p a) ∧ MT 38 w' (w.heap.size + 1) (pkC q b)) (by kernel_rfl) hbd (fun hHeld => ?_)
  rw [← HWD.out]
  clear hHeld
  have hHeld := hSD
  clear hSD hbd HWD
  refine tkA (i := 0) (v := .agg (pkC p a).toArray) (y := Or.inl ⟨by rfl, fun wS hSw => by (try dsimp only at hSw); exact ldPk rfl (by go_simp) hSw.1⟩) (h := ?_)
  refine tkA (i := 2) (v := .agg (pkC q b).toArray) (y := Or.inl ⟨by rfl, fun wS hSw => by (try dsimp only at hSw); exact ldPk rfl (by go_simp) hSw.2⟩) (h := ?_)
  refine rdA 1 (h := fun K hK => ?_)
  go_simp
  go_at_call 70
  refine (C0.out v1).mono ?_
  rintro e v2 ⟨rfl, hb⟩
  have HBv2 : Hid (Below w.heap.size w v2) := Lib.hid (stepB HBv1.out hb)
  have HQv2 : Hid (MT 38 v2 w.heap.size (pkC p a)) := Lib.hid (MT.step HQv1.out hb)
  have HXv2 : Hid (MT 38 v2 (w.heap.size + 1) (pkC q b)) := Lib.hid (MT.step HXv1.out hb)
  have HPv2 : Hid (PIn v2 p a) := Lib.hid (PIn.step HPv1.out hb)
  have HOv2 : Hid (PIn v2 q b) := Lib.hid (PIn.step HOv1.out hb)
  clear HBv1 HQv1 HXv1 HPv1 HOv1
  clear hHeld hb
  go_wp2_with fail
  refine hK.out _ _ ⟨HQv2.out, HXv2.out⟩ (fun hHeld => ?_)
  clear hK K
  try simp only [Act.put, List.setIfInBounds_toArray, List.set]
  refine rdA 3 (h := fun K hK => ?_)
  go_simp
  go_at_call 70
  refine (C0'.out v2).mono ?_
  rintro e v3 ⟨rfl, hb⟩
  have HBv3 : Hid (Below w.heap.size w v3) := Lib.hid (stepB HBv2.out hb)
  have HQv3 : Hid (MT 38 v3 w.heap.size (pkC p a)) := Lib.hid (MT.step HQv2.out hb)
  have HXv3 : Hid (MT 38 v3 (w.heap.size + 1) (pkC q b)) := Lib.hid (MT.step HXv2.out hb)
  have HPv3 : Hid (PIn v3 p a) := Lib.hid (PIn.step HPv2.out hb)
  have HOv3 : Hid (PIn v3 q b) := Lib.hid (PIn.step HOv2.out hb)
  clear HBv2 HQv2 HXv2 HPv2 HOv2
  clear hHeld hb
  go_wp2_with fail
  refine hK.out _ _ ⟨HQv3.out, HXv3.out⟩ (fun hHeld => ?_)
  clear hK K
  try simp only [Act.put, List.setIfInBounds_toArray, List.set]
  refine tkA (i := 4) (v := .bool true) (y := Or.inl ⟨by rfl, fun wS hSw => by (try dsimp only at hSw); exact exec_bin .eql _ _ _ _ rfl _ _ (by go_simp) (by go_simp) (run_eqGuard_agg wS _ _ _ _ _ _ (by kernel_rfl)) _ (HE.out wS)⟩) (h := ?_)
  refine tkS (i := 5) (v := .bool true) (h := ?_)
  refine tkS (i := 6) (v := .pointer (some ⟨w.heap.size, 3, none⟩)) (h := ?_)
  refine tkA (i := 7) (v := msgV p.msg a.m a.mc) (y := Or.inl ⟨by rfl, fun wS hSw => by (try dsimp only at hSw); exact exec_load 31 _ rfl ⟨w.heap.size, 3, none⟩ (by go_simp) _ (run_load_part wS w.heap.size 3 9 38 31 _ (0, 0) _ hSw.1 Tryz.underlying31 rfl info26 (by rw [pkC_len]; decide))⟩) (h := ?_)
  refine tkS (i := 8) (v := .pointer (some ⟨w.heap.size + 1, 3, none⟩)) (h := ?_)
  refine tkA (i := 9) (v := msgV q.msg b.m b.mc) (y := Or.inl ⟨by rfl, fun wS hSw => by (try dsimp only at hSw); exact exec_load 31 _ rfl ⟨w.heap.size + 1, 3, none⟩ (by go_simp) _ (run_load_part wS (w.heap.size + 1) 3 9 38 31 _ (0, 0) _ hSw.2 Tryz.underlying31 rfl info26 (by rw [pkC_len]; decide))⟩) (h := ?_)
  refine rdA 10 (h := fun K hK => ?_)
  go_simp
  go_at_call 71
  refine (C1.out v3 HPv3.out HOv3.out).mono ?_
  rintro e v4 ⟨rfl, hb⟩
  have HBv4 : Hid (Below w.heap.size w v4) := Lib.hid (stepB HBv3.out hb)
  have HQv4 : Hid (MT 38 v4 w.heap.size (pkC p a)) := Lib.hid (MT.step HQv3.out hb)
  have HXv4 : Hid (MT 38 v4 (w.heap.size + 1) (pkC q b)) := Lib.hid (MT.step HXv3.out hb)
  have HPv4 : Hid (PIn v4 p a) := Lib.hid (PIn.step HPv3.out hb)
  have HOv4 : Hid (PIn v4 q b) := Lib.hid (PIn.step HOv3.out hb)
  clear HBv3 HQv3 HXv3 HPv3 HOv3
  clear hHeld hb
  go_wp2_with fail
  refine hK.out _ _ ⟨HQv4.out, HXv4.out⟩ (fun hHeld => ?_)
  clear hK K
  try simp only [Act.put, List.setIfInBounds_toArray, List.set]
  refine tkS (i := 11) (v := .bool true) (h := ?_)
  refine tkS (i := 12) (v := .bool true) (h := ?_)
  refine tkS (i := 13) (v := .pointer (some ⟨w.heap.size, 18, none⟩)) (h := ?_)
  refine tkS (i := 14) (v := .pointer (some ⟨w.heap.size, 20, none⟩)) (h := ?_)
  refine tkA (i := 15) (v := msgV p.wmsg a.v a.vc) (y := Or.inl ⟨by rfl, fun wS hSw => by (try dsimp only at hSw); exact exec_load 31 _ rfl ⟨w.heap.size, 20, none⟩ (by go_simp) _ (run_load_part wS w.heap.size 20 9 38 31 _ (0, 0) _ hSw.1 Tryz.underlying31 rfl info26 (by rw [pkC_len]; decide))⟩) (h := ?_)
  refine tkS (i := 16) (v := .pointer (some ⟨w.heap.size + 1, 18, none⟩)) (h := ?_)
  refine tkS (i := 17) (v := .pointer (some ⟨w.heap.size + 1, 20, none⟩)) (h := ?_)
  refine tkA (i := 18) (v := msgV q.wmsg b.v b.vc) (y := Or.inl ⟨by rfl, fun wS hSw => by (try dsimp only at hSw); exact exec_load 31 _ rfl ⟨w.heap.size + 1, 20, none⟩ (by go_simp) _ (run_load_part wS (w.heap.size + 1) 20 9 38 31 _ (0, 0) _ hSw.2 Tryz.underlying31 rfl info26 (by rw [pkC_len]; decide))⟩) (h := ?_)
  refine rdA 19 (h := fun K hK => ?_)
  go_simp
  go_at_call 71
  refine (C2.out v4 HPv4.out HOv4.out).mono ?_
  rintro e v5 ⟨rfl, hb⟩
  have HBv5 : Hid (Below w.heap.size w v5) := Lib.hid (stepB HBv4.out hb)
  have HQv5 : Hid (MT 38 v5 w.heap.size (pkC p a)) := Lib.hid (MT.step HQv4.out hb)
  have HXv5 : Hid (MT 38 v5 (w.heap.size + 1) (pkC q b)) := Lib.hid (MT.step HXv4.out hb)
  have HPv5 : Hid (PIn v5 p a) := Lib.hid (PIn.step HPv4.out hb)
  have HOv5 : Hid (PIn v5 q b) := Lib.hid (PIn.step HOv4.out hb)
  clear HBv4 HQv4 HXv4 HPv4 HOv4
  clear hHeld hb
  go_wp2_with fail
  refine hK.out _ _ ⟨HQv5.out, HXv5.out⟩ (fun hHeld => ?_)
  clear hK K
  try simp only [Act.put, List.setIfInBounds_toArray, List.set]
  refine tkS (i := 20) (v := .bool true) (h := ?_)
  refine tkS (i := 21) (v := .bool true) (h := ?_)
  refine tkS (i := 22) (v := .pointer (some ⟨w.heap.size, 31, none⟩)) (h := ?_)
  refine tkA (i := 23) (v := .slice a.s p.subs.length a.sc) (y := Or.inl ⟨by rfl, fun wS hSw => by (try dsimp only at hSw); have cS : wS.cell? ⟨w.heap.size, 31, none⟩ = some (.slice a.s p.subs.length a.sc) := hSw.1.cell 31; clear hSw; go_simp⟩) (h := ?_)
  refine tkS (i := 24) (v := .pointer (some ⟨w.heap.size + 1, 31, none⟩)) (h := ?_)
  refine tkA (i := 25) (v := .slice b.s q.subs.length b.sc) (y := Or.inl ⟨by rfl, fun wS hSw => by (try dsimp only at hSw); have cS : wS.cell? ⟨w.heap.size + 1, 31, none⟩ = some (.slice b.s q.subs.length b.sc) := hSw.2.cell 31; clear hSw; go_simp⟩) (h := ?_)
  refine rdA 26 (h := fun K hK => ?_)
  go_simp
  go_at_call 72
  refine (C3.out v5 HPv5.out HOv5.out).mono ?_
  rintro e v6 ⟨rfl, hb⟩
  have HBv6 : Hid (Below w.heap.size w v6) := Lib.hid (stepB HBv5.out hb)
  have HQv6 : Hid (MT 38 v6 w.heap.size (pkC p a)) := Lib.hid (MT.step HQv5.out hb)
  have HXv6 : Hid (MT 38 v6 (w.heap.size + 1) (pkC q b)) := Lib.hid (MT.step HXv5.out hb)
  have HPv6 : Hid (PIn v6 p a) := Lib.hid (PIn.step HPv5.out hb)
  have HOv6 : Hid (PIn v6 q b) := Lib.hid (PIn.step HOv5.out hb)
  clear HBv5 HQv5 HXv5 HPv5 HOv5
  clear hHeld hb
  go_wp2_with fail
  refine hK.out _ _ ⟨HQv6.out, HXv6.out⟩ (fun hHeld => ?_)
  clear hK K
  try simp only [Act.put, List.setIfInBounds_toArray, List.set]
  refine tkS (i := 27) (v := .bool false) (h := ?_)
  refine tkS (i := 28) (v := .bool false) (h := ?_)
  refine tkA (i := 29) (v := undef) (y := Or.inr ⟨by rfl, rfl⟩) (h := ?_)
  refine tkA (i := 30) (v := undef) (y := Or.inr ⟨by rfl, rfl⟩) (h := ?_)
  refine tkA (i := 31) (v := undef) (y := Or.inr ⟨by rfl, rfl⟩) (h := ?_)
  refine tkA (i := 32) (v := undef) (y := Or.inr ⟨by rfl, rfl⟩) (h := ?_)
  refine tkA (i := 33) (v := undef) (y := Or.inr ⟨by rfl, rfl⟩) (h := ?_)
  refine tkS (i := 34) (v := .bool false) (h := ?_)
  refine tkS (i := 35) (v := .bool false) (h := ?_)
  refine tkA (i := 36) (v := undef) (y := Or.inr ⟨by rfl, rfl⟩) (h := ?_)
  refine tkA (i := 37) (v := undef) (y := Or.inr ⟨by rfl, rfl⟩) (h := ?_)
  refine tkA (i := 38) (v := undef) (y := Or.inr ⟨by rfl, rfl⟩) (h := ?_)
  refine tkA (i := 39) (v := undef) (y := Or.inr ⟨by rfl, rfl⟩) (h := ?_)
  refine tkA (i := 40) (v := undef) (y := Or.inr ⟨by rfl, rfl⟩) (h := ?_)
  refine tkS (i := 41) (v := .bool false) (h := ?_)
  refine tkS (i := 42) (v := .bool false) (h := ?_)
  refine wpAnyH_done (by kernel_rfl) ?_ _
  go_wp2
  go_ret
  exact ⟨retb HR.symm, HBv6.out⟩
 cases x4
 case false =>
  replace HR : r = false := by rw [HR]; simp
  clear C5
  go_enter Tryz.func33, Tryz.ntmps33
  go_upto_region 1 with fail
  rw [← HW1.out]
  obtain ⟨v1, hv1⟩ : ∃ v1, v1 = World.drew w1 := ⟨_, rfl⟩
  have hbD : Below w1.heap.size w1 v1 := by rw [hv1]; exact (Below.refl _ _).drew
  have HBv1 : Hid (Below w.heap.size w v1) := Lib.hid (stepB HBw1.out hbD)
  have HQv1 : Hid (MT 38 v1 w.heap.size (pkC p a)) := Lib.hid (MT.step HQw1.out hbD)
  have HXv1 : Hid (MT 38 v1 (w.heap.size + 1) (pkC q b)) := Lib.hid (MT.step HXw1.out hbD)
  have HPv1 : Hid (PIn v1 p a) := Lib.hid (PIn.step HPw1.out hbD)
  have HOv1 : Hid (PIn v1 q b) := Lib.hid (PIn.step HOw1.out hbD)
  clear HBw1 HQw1 HXw1 HPw1 HOw1
  have hbd : (fun w' => MT 38 w' w.heap.size (pkC p a) ∧ MT 38 w' (w.heap.size + 1) (pkC q b)) (World.drew w1) := by rw [← hv1]; exact ⟨HQv1.out, HXv1.out⟩
  have hSD : (fun w' => MT 38 w' w.heap.size (pkC p a) ∧ MT 38 w' (w.heap.size + 1) (pkC q b)) v1 := ⟨HQv1.out, HXv1.out⟩
  have HWD := Lib.hid hv1
  clear hv1 hbD
  refine wp_region_held_drew (S := fun w' => MT 38 w' w.heap.size (pkC p a) ∧ MT 38 w' (w.heap.size + 1) (pkC q b)) (by kernel_rfl) hbd (fun hHeld => ?_)
  rw [← HWD.out]
  clear hHeld
  have hHeld := hSD
  clear hSD hbd HWD
  refine tkA (i := 0) (v := .agg (pkC p a).toArray) (y := Or.inl ⟨by rfl, fun wS hSw => by (try dsimp only at hSw); exact ldPk rfl (by go_simp) hSw.1⟩) (h := ?_)
  refine tkA (i := 2) (v := .agg (pkC q b).toArray) (y := Or.inl ⟨by rfl, fun wS hSw => by (try dsimp only at hSw); exact ldPk rfl (by go_simp) hSw.2⟩) (h := ?_)
  refine rdA 1 (h := fun K hK => ?_)
  go_simp
  go_at_call 70
  refine (C0.out v1).mono ?_
  rintro e v2 ⟨rfl, hb⟩
  have HBv2 : Hid (Below w.heap.size w v2) := Lib.hid (stepB HBv1.out hb)
  have HQv2 : Hid (MT 38 v2 w.heap.size (pkC p a)) := Lib.hid (MT.step HQv1.out hb)
  have HXv2 : Hid (MT 38 v2 (w.heap.size + 1) (pkC q b)) := Lib.hid (MT.step HXv1.out hb)
  have HPv2 : Hid (PIn v2 p a) := Lib.hid (PIn.step HPv1.out hb)
  have HOv2 : Hid (PIn v2 q b) := Lib.hid (PIn.step HOv1.out hb)
  clear HBv1 HQv1 HXv1 HPv1 HOv1
  clear hHeld hb
  go_wp2_with fail
  refine hK.out _ _ ⟨HQv2.out, HXv2.out⟩ (fun hHeld => ?_)
  clear hK K
  try simp only [Act.put, List.setIfInBounds_toArray, List.set]
  refine rdA 3 (h := fun K hK => ?_)
  go_simp
  go_at_call 70
  refine (C0'.out v2).mono ?_
  rintro e v3 ⟨rfl, hb⟩
  have HBv3 : Hid (Below w.heap.size w v3) := Lib.hid (stepB HBv2.out hb)
  have HQv3 : Hid (MT 38 v3 w.heap.size (pkC p a)) := Lib.hid (MT.step HQv2.out hb)
  have HXv3 : Hid (MT 38 v3 (w.heap.size + 1) (pkC q b)) := Lib.hid (MT.step HXv2.out hb)
  have HPv3 : Hid (PIn v3 p a) := Lib.hid (PIn.step HPv2.out hb)
  have HOv3 : Hid (PIn v3 q b) := Lib.hid (PIn.step HOv2.out hb)
  clear HBv2 HQv2 HXv2 HPv2 HOv2
  clear hHeld hb
  go_wp2_with fail
  refine hK.out _ _ ⟨HQv3.out, HXv3.out⟩ (fun hHeld => ?_)
  clear hK K
  try simp only [Act.put, List.setIfInBounds_toArray, List.set]
  refine tkA (i := 4) (v := .bool true) (y := Or.inl ⟨by rfl, fun wS hSw => by (try dsimp only at hSw); exact exec_bin .eql _ _ _ _ rfl _ _ (by go_simp) (by go_simp) (run_eqGuard_agg wS _ _ _ _ _ _ (by kernel_rfl)) _ (HE.out wS)⟩) (h := ?_)
  refine tkS (i := 5) (v := .bool true) (h := ?_)
  refine tkS (i := 6) (v := .pointer (some ⟨w.heap.size, 3, none⟩)) (h := ?_)
  refine tkA (i := 7) (v := msgV p.msg a.m a.mc) (y := Or.inl ⟨by rfl, fun wS hSw => by (try dsimp only at hSw); exact exec_load 31 _ rfl ⟨w.heap.size, 3, none⟩ (by go_simp) _ (run_load_part wS w.heap.size 3 9 38 31 _ (0, 0) _ hSw.1 Tryz.underlying31 rfl info26 (by rw [pkC_len]; decide))⟩) (h := ?_)
  refine tkS (i := 8) (v := .pointer (some ⟨w.heap.size + 1, 3, none⟩)) (h := ?_)
  refine tkA (i := 9) (v := msgV q.msg b.m b.mc) (y := Or.inl ⟨by rfl, fun wS hSw => by (try dsimp only at hSw); exact exec_load 31 _ rfl ⟨w.heap.size + 1, 3, none⟩ (by go_simp) _ (run_load_part wS (w.heap.size + 1) 3 9 38 31 _ (0, 0) _ hSw.2 Tryz.underlying31 rfl info26 (by rw [pkC_len]; decide))⟩) (h := ?_)
  refine rdA 10 (h := fun K hK => ?_)
  go_simp
  go_at_call 71
  refine (C1.out v3 HPv3.out HOv3.out).mono ?_
  rintro e v4 ⟨rfl, hb⟩
  have HBv4 : Hid (Below w.heap.size w v4) := Lib.hid (stepB HBv3.out hb)
  have HQv4 : Hid (MT 38 v4 w.heap.size (pkC p a)) := Lib.hid (MT.step HQv3.out hb)
  have HXv4 : Hid (MT 38 v4 (w.heap.size + 1) (pkC q b)) := Lib.hid (MT.step HXv3.out hb)
  have HPv4 : Hid (PIn v4 p a) := Lib.hid (PIn.step HPv3.out hb)
  have HOv4 : Hid (PIn v4 q b) := Lib.hid (PIn.step HOv3.out hb)
  clear HBv3 HQv3 HXv3 HPv3 HOv3
  clear hHeld hb
  go_wp2_with fail
  refine hK.out _ _ ⟨HQv4.out, HXv4.out⟩ (fun hHeld => ?_)
  clear hK K
  try simp only [Act.put, List.setIfInBounds_toArray, List.set]
  refine tkS (i := 11) (v := .bool true) (h := ?_)
  refine tkS (i := 12) (v := .bool true) (h := ?_)
  refine tkS (i := 13) (v := .pointer (some ⟨w.heap.size, 18, none⟩)) (h := ?_)
  refine tkS (i := 14) (v := .pointer (some ⟨w.heap.size, 20, none⟩)) (h := ?_)
  refine tkA (i := 15) (v := msgV p.wmsg a.v a.vc) (y := Or.inl ⟨by rfl, fun wS hSw => by (try dsimp only at hSw); exact exec_load 31 _ rfl ⟨w.heap.size, 20, none⟩ (by go_simp) _ (run_load_part wS w.heap.size 20 9 38 31 _ (0, 0) _ hSw.1 Tryz.underlying31 rfl info26 (by rw [pkC_len]; decide))⟩) (h := ?_)
  refine tkS (i := 16) (v := .pointer (some ⟨w.heap.size + 1, 18, none⟩)) (h := ?_)
  refine tkS (i := 17) (v := .pointer (some ⟨w.heap.size + 1, 20, none⟩)) (h := ?_)
  refine tkA (i := 18) (v := msgV q.wmsg b.v b.vc) (y := Or.inl ⟨by rfl, fun wS hSw => by (try dsimp only at hSw); exact exec_load 31 _ rfl ⟨w.heap.size + 1, 20, none⟩ (by go_simp) _ (run_load_part wS (w.heap.size + 1) 20 9 38 31 _ (0, 0) _ hSw.2 Tryz.underlying31 rfl info26 (by rw [pkC_len]; decide))⟩) (h := ?_)
  refine rdA 19 (h := fun K hK => ?_)
  go_simp
  go_at_call 71
  refine (C2.out v4 HPv4.out HOv4.out).mono ?_
  rintro e v5 ⟨rfl, hb⟩
  have HBv5 : Hid (Below w.heap.size w v5) := Lib.hid (stepB HBv4.out hb)
  have HQv5 : Hid (MT 38 v5 w.heap.size (pkC p a)) := Lib.hid (MT.step HQv4.out hb)
  have HXv5 : Hid (MT 38 v5 (w.heap.size + 1) (pkC q b)) := Lib.hid (MT.step HXv4.out hb)
  have HPv5 : Hid (PIn v5 p a) := Lib.hid (PIn.step HPv4.out hb)
  have HOv5 : Hid (PIn v5 q b) := Lib.hid (PIn.step HOv4.out hb)
  clear HBv4 HQv4 HXv4 HPv4 HOv4
  clear hHeld hb
  go_wp2_with fail
  refine hK.out _ _ ⟨HQv5.out, HXv5.out⟩ (fun hHeld => ?_)
  clear hK K
  try simp only [Act.put, List.setIfInBounds_toArray, List.set]
  refine tkS (i := 20) (v := .bool true) (h := ?_)
  refine tkS (i := 21) (v := .bool true) (h := ?_)
  refine tkS (i := 22) (v := .pointer (some ⟨w.heap.size, 31, none⟩)) (h := ?_)
  refine tkA (i := 23) (v := .slice a.s p.subs.length a.sc) (y := Or.inl ⟨by rfl, fun wS hSw => by (try dsimp only at hSw); have cS : wS.cell? ⟨w.heap.size, 31, none⟩ = some (.slice a.s p.subs.length a.sc) := hSw.1.cell 31; clear hSw; go_simp⟩) (h := ?_)
  refine tkS (i := 24) (v := .pointer (some ⟨w.heap.size + 1, 31, none⟩)) (h := ?_)
  refine tkA (i := 25) (v := .slice b.s q.subs.length b.sc) (y := Or.inl ⟨by rfl, fun wS hSw => by (try dsimp only at hSw); have cS : wS.cell? ⟨w.heap.size + 1, 31, none⟩ = some (.slice b.s q.subs.length b.sc) := hSw.2.cell 31; clear hSw; go_simp⟩) (h := ?_)
  refine rdA 26 (h := fun K hK => ?_)
  go_simp
  go_at_call 72
  refine (C3.out v5 HPv5.out HOv5.out).mono ?_
  rintro e v6 ⟨rfl, hb⟩
  have HBv6 : Hid (Below w.heap.size w v6) := Lib.hid (stepB HBv5.out hb)
  have HQv6 : Hid (MT 38 v6 w.heap.size (pkC p a)) := Lib.hid (MT.step HQv5.out hb)
  have HXv6 : Hid (MT 38 v6 (w.heap.size + 1) (pkC q b)) := Lib.hid (MT.step HXv5.out hb)
  have HPv6 : Hid (PIn v6 p a) := Lib.hid (PIn.step HPv5.out hb)
  have HOv6 : Hid (PIn v6 q b) := Lib.hid (PIn.step HOv5.out hb)
  clear HBv5 HQv5 HXv5 HPv5 HOv5
  clear hHeld hb
  go_wp2_with fail
  refine hK.out _ _ ⟨HQv6.out, HXv6.out⟩ (fun hHeld => ?_)
  clear hK K
  try simp only [Act.put, List.setIfInBounds_toArray, List.set]
  refine tkS (i := 27) (v := .bool true) (h := ?_)
  refine tkS (i := 28) (v := .bool true) (h := ?_)
  refine tkS (i := 29) (v := .pointer (some ⟨w.heap.size, 32, none⟩)) (h := ?_)
  refine tkA (i := 30) (v := .slice a.f p.filters.length a.fc) (y := Or.inl ⟨by rfl, fun wS hSw => by (try dsimp only at hSw); have cS : wS.cell? ⟨w.heap.size, 32, none⟩ = some (.slice a.f p.filters.length a.fc) := hSw.1.cell 32; clear hSw; go_simp⟩) (h := ?_)
  refine tkS (i := 31) (v := .pointer (some ⟨w.heap.size + 1, 32, none⟩)) (h := ?_)
  refine tkA (i := 32) (v := .slice b.f q.filters.length b.fc) (y := Or.inl ⟨by rfl, fun wS hSw => by (try dsimp only at hSw); have cS : wS.cell? ⟨w.heap.size + 1, 32, none⟩ = some (.slice b.f q.filters.length b.fc) := hSw.2.cell 32; clear hSw; go_simp⟩) (h := ?_)
  refine rdA 33 (h := fun K hK => ?_)
  go_simp
  go_at_call 73
  refine (C4.out v6 HPv6.out HOv6.out).mono ?_
  rintro e v7 ⟨rfl, hb⟩
  have HBv7 : Hid (Below w.heap.size w v7) := Lib.hid (stepB HBv6.out hb)
  have HQv7 : Hid (MT 38 v7 w.heap.size (pkC p a)) := Lib.hid (MT.step HQv6.out hb)
  have HXv7 : Hid (MT 38 v7 (w.heap.size + 1) (pkC q b)) := Lib.hid (MT.step HXv6.out hb)
  have HPv7 : Hid (PIn v7 p a) := Lib.hid (PIn.step HPv6.out hb)
  have HOv7 : Hid (PIn v7 q b) := Lib.hid (PIn.step HOv6.out hb)
  clear HBv6 HQv6 HXv6 HPv6 HOv6
  clear hHeld hb
  go_wp2_with fail
  refine hK.out _ _ ⟨HQv7.out, HXv7.out⟩ (fun hHeld => ?_)
  clear hK K
  try simp only [Act.put, List.setIfInBounds_toArray, List.set]
  refine tkS (i := 34) (v := .bool false) (h := ?_)
  refine tkS (i := 35) (v := .bool false) (h := ?_)
  refine tkA (i := 36) (v := undef) (y := Or.inr ⟨by rfl, rfl⟩) (h := ?_)
  refine tkA (i := 37) (v := undef) (y := Or.inr ⟨by rfl, rfl⟩) (h := ?_)
  refine tkA (i := 38) (v := undef) (y := Or.inr ⟨by rfl, rfl⟩) (h := ?_)
  refine tkA (i := 39) (v := undef) (y := Or.inr ⟨by rfl, rfl⟩) (h := ?_)
  refine tkA (i := 40) (v := undef) (y := Or.inr ⟨by rfl, rfl⟩) (h := ?_)
  refine tkS (i := 41) (v := .bool false) (h := ?_)
  refine tkS (i := 42) (v := .bool false) (h := ?_)
  refine wpAnyH_done (by kernel_rfl) ?_ _
  go_wp2
  go_ret
  exact ⟨retb HR.symm, HBv7.out⟩
 cases x5
 case false =>
  replace HR : r = false := by rw [HR]; simp
  go_enter Tryz.func33, Tryz.ntmps33
  go_upto_region 1 with fail
  rw [← HW1.out]
  obtain ⟨v1, hv1⟩ : ∃ v1, v1 = World.drew w1 := ⟨_, rfl⟩
  have hbD : Below w1.heap.size w1 v1 := by rw [hv1]; exact (Below.refl _ _).drew
  have HBv1 : Hid (Below w.heap.size w v1) := Lib.hid (stepB HBw1.out hbD)
  have HQv1 : Hid (MT 38 v1 w.heap.size (pkC p a)) := Lib.hid (MT.step HQw1.out hbD)
  have HXv1 : Hid (MT 38 v1 (w.heap.size + 1) (pkC q b)) := Lib.hid (MT.step HXw1.out hbD)
  have HPv1 : Hid (PIn v1 p a) := Lib.hid (PIn.step HPw1.out hbD)
  have HOv1 : Hid (PIn v1 q b) := Lib.hid (PIn.step HOw1.out hbD)
  clear HBw1 HQw1 HXw1 HPw1 HOw1
  have hbd : (fun w' => MT 38 w' w.heap.size (pkC p a) ∧ MT 38 w' (w.heap.size + 1) (pkC q b)) (World.drew w1) := by rw [← hv1]; exact ⟨HQv1.out, HXv1.out⟩
  have hSD : (fun w' => MT 38 w' w.heap.size (pkC p a) ∧ MT 38 w' (w.heap.size + 1) (pkC q b)) v1 := ⟨HQv1.out, HXv1.out⟩
  have HWD := Lib.hid hv1
  clear hv1 hbD
  refine wp_region_held_drew (S := fun w' => MT 38 w' w.heap.size (pkC p a) ∧ MT 38 w' (w.heap.size + 1) (pkC q b)) (by kernel_rfl) hbd (fun hHeld => ?_)
  rw [← HWD.out]
  clear hHeld
  have hHeld := hSD
  clear hSD hbd HWD
  refine tkA (i := 0) (v := .agg (pkC p a).toArray) (y := Or.inl ⟨by rfl, fun wS hSw => by (try dsimp only at hSw); exact ldPk rfl (by go_simp) hSw.1⟩) (h := ?_)
  refine tkA (i := 2) (v := .agg (pkC q b).toArray) (y := Or.inl ⟨by rfl, fun wS hSw => by (try dsimp only at hSw); exact ldPk rfl (by go_simp) hSw.2⟩) (h := ?_)
  refine rdA 1 (h := fun K hK => ?_)
  go_simp
  go_at_call 70
  refine (C0.out v1).mono ?_
  rintro e v2 ⟨rfl, hb⟩
  have HBv2 : Hid (Below w.heap.size w v2) := Lib.hid (stepB HBv1.out hb)
  have HQv2 : Hid (MT 38 v2 w.heap.size (pkC p a)) := Lib.hid (MT.step HQv1.out hb)
  have HXv2 : Hid (MT 38 v2 (w.heap.size + 1) (pkC q b)) := Lib.hid (MT.step HXv1.out hb)
  have HPv2 : Hid (PIn v2 p a) := Lib.hid (PIn.step HPv1.out hb)
  have HOv2 : Hid (PIn v2 q b) := Lib.hid (PIn.step HOv1.out hb)
  clear HBv1 HQv1 HXv1 HPv1 HOv1
  clear hHeld hb
  go_wp2_with fail
  refine hK.out _ _ ⟨HQv2.out, HXv2.out⟩ (fun hHeld => ?_)
  clear hK K
  try simp only [Act.put, List.setIfInBounds_toArray, List.set]
  refine rdA 3 (h := fun K hK => ?_)
  go_simp
  go_at_call 70
  refine (C0'.out v2).mono ?_
  rintro e v3 ⟨rfl, hb⟩
  have HBv3 : Hid (Below w.heap.size w v3) := Lib.hid (stepB HBv2.out hb)
  have HQv3 : Hid (MT 38 v3 w.heap.size (pkC p a)) := Lib.hid (MT.step HQv2.out hb)
  have HXv3 : Hid (MT 38 v3 (w.heap.size + 1) (pkC q b)) := Lib.hid (MT.step HXv2.out hb)
  have HPv3 : Hid (PIn v3 p a) := Lib.hid (PIn.step HPv2.out hb)
  have HOv3 : Hid (PIn v3 q b) := Lib.hid (PIn.step HOv2.out hb)
  clear HBv2 HQv2 HXv2 HPv2 HOv2
  clear hHeld hb
  go_wp2_with fail
  refine hK.out _ _ ⟨HQv3.out, HXv3.out⟩ (fun hHeld => ?_)
  clear hK K
  try simp only [Act.put, List.setIfInBounds_toArray, List.set]
  refine tkA (i := 4) (v := .bool true) (y := Or.inl ⟨by rfl, fun wS hSw => by (try dsimp only at hSw); exact exec_bin .eql _ _ _ _ rfl _ _ (by go_simp) (by go_simp) (run_eqGuard_agg wS _ _ _ _ _ _ (by kernel_rfl)) _ (HE.out wS)⟩) (h := ?_)
  refine tkS (i := 5) (v := .bool true) (h := ?_)
  refine tkS (i := 6) (v := .pointer (some ⟨w.heap.size, 3, none⟩)) (h := ?_)
  refine tkA (i := 7) (v := msgV p.msg a.m a.mc) (y := Or.inl ⟨by rfl, fun wS hSw => by (try dsimp only at hSw); exact exec_load 31 _ rfl ⟨w.heap.size, 3, none⟩ (by go_simp) _ (run_load_part wS w.heap.size 3 9 38 31 _ (0, 0) _ hSw.1 Tryz.underlying31 rfl info26 (by rw [pkC_len]; decide))⟩) (h := ?_)
  refine tkS (i := 8) (v := .pointer (some ⟨w.heap.size + 1, 3, none⟩)) (h := ?_)
  refine tkA (i := 9) (v := msgV q.msg b.m b.mc) (y := Or.inl ⟨by rfl, fun wS hSw => by (try dsimp only at hSw); exact exec_load 31 _ rfl ⟨w.heap.size + 1, 3, none⟩ (by go_simp) _ (run_load_part wS (w.heap.size + 1) 3 9 38 31 _ (0, 0) _ hSw.2 Tryz.underlying31 rfl info26 (by rw [pkC_len]; decide))⟩) (h := ?_)
  refine rdA 10 (h := fun K hK => ?_)
  go_simp
  go_at_call 71
  refine (C1.out v3 HPv3.out HOv3.out).mono ?_
  rintro e v4 ⟨rfl, hb⟩
  have HBv4 : Hid (Below w.heap.size w v4) := Lib.hid (stepB HBv3.out hb)
  have HQv4 : Hid (MT 38 v4 w.heap.size (pkC p a)) := Lib.hid (MT.step HQv3.out hb)
  have HXv4 : Hid (MT 38 v4 (w.heap.size + 1) (pkC q b)) := Lib.hid (MT.step HXv3.out hb)
  have HPv4 : Hid (PIn v4 p a) := Lib.hid (PIn.step HPv3.out hb)
  have HOv4 : Hid (PIn v4 q b) := Lib.hid (PIn.step HOv3.out hb)
  clear HBv3 HQv3 HXv3 HPv3 HOv3
  clear hHeld hb
  go_wp2_with fail
  refine hK.out _ _ ⟨HQv4.out, HXv4.out⟩ (fun hHeld => ?_)
  clear hK K
  try simp only [Act.put, List.setIfInBounds_toArray, List.set]
  refine tkS (i := 11) (v := .bool true) (h := ?_)
  refine tkS (i := 12) (v := .bool true) (h := ?_)
  refine tkS (i := 13) (v := .pointer (some ⟨w.heap.size, 18, none⟩)) (h := ?_)
  refine tkS (i := 14) (v := .pointer (some ⟨w.heap.size, 20, none⟩)) (h := ?_)
  refine tkA (i := 15) (v := msgV p.wmsg a.v a.vc) (y := Or.inl ⟨by rfl, fun wS hSw => by (try dsimp only at hSw); exact exec_load 31 _ rfl ⟨w.heap.size, 20, none⟩ (by go_simp) _ (run_load_part wS w.heap.size 20 9 38 31 _ (0, 0) _ hSw.1 Tryz.underlying31 rfl info26 (by rw [pkC_len]; decide))⟩) (h := ?_)
  refine tkS (i := 16) (v := .pointer (some ⟨w.heap.size + 1, 18, none⟩)) (h := ?_)
  refine tkS (i := 17) (v := .pointer (some ⟨w.heap.size + 1, 20, none⟩)) (h := ?_)
  refine tkA (i := 18) (v := msgV q.wmsg b.v b.vc) (y := Or.inl ⟨by rfl, fun wS hSw => by (try dsimp only at hSw); exact exec_load 31 _ rfl ⟨w.heap.size + 1, 20, none⟩ (by go_simp) _ (run_load_part wS (w.heap.size + 1) 20 9 38 31 _ (0, 0) _ hSw.2 Tryz.underlying31 rfl info26 (by rw [pkC_len]; decide))⟩) (h := ?_)
  refine rdA 19 (h := fun K hK => ?_)
  go_simp
  go_at_call 71
  refine (C2.out v4 HPv4.out HOv4.out).mono ?_
  rintro e v5 ⟨rfl, hb⟩
  have HBv5 : Hid (Below w.heap.size w v5) := Lib.hid (stepB HBv4.out hb)
  have HQv5 : Hid (MT 38 v5 w.heap.size (pkC p a)) := Lib.hid (MT.step HQv4.out hb)
  have HXv5 : Hid (MT 38 v5 (w.heap.size + 1) (pkC q b)) := Lib.hid (MT.step HXv4.out hb)
  have HPv5 : Hid (PIn v5 p a) := Lib.hid (PIn.step HPv4.out hb)
  have HOv5 : Hid (PIn v5 q b) := Lib.hid (PIn.step HOv4.out hb)
  clear HBv4 HQv4 HXv4 HPv4 HOv4
  clear hHeld hb
  go_wp2_with fail
  refine hK.out _ _ ⟨HQv5.out, HXv5.out⟩ (fun hHeld => ?_)
  clear hK K
  try simp only [Act.put, List.setIfInBounds_toArray, List.set]
  refine tkS (i := 20) (v := .bool true) (h := ?_)
  refine tkS (i := 21) (v := .bool true) (h := ?_)
  refine tkS (i := 22) (v := .pointer (some ⟨w.heap.size, 31, none⟩)) (h := ?_)
  refine tkA (i := 23) (v := .slice a.s p.subs.length a.sc) (y := Or.inl ⟨by rfl, fun wS hSw => by (try dsimp only at hSw); have cS : wS.cell? ⟨w.heap.size, 31, none⟩ = some (.slice a.s p.subs.length a.sc) := hSw.1.cell 31; clear hSw; go_simp⟩) (h := ?_)
  refine tkS (i := 24) (v := .pointer (some ⟨w.heap.size + 1, 31, none⟩)) (h := ?_)
  refine tkA (i := 25) (v := .slice b.s q.subs.length b.sc) (y := Or.inl ⟨by rfl, fun wS hSw => by (try dsimp only at hSw); have cS : wS.cell? ⟨w.heap.size + 1, 31, none⟩ = some (.slice b.s q.subs.length b.sc) := hSw.2.cell 31; clear hSw; go_simp⟩) (h := ?_)
  refine rdA 26 (h := fun K hK => ?_)
  go_simp
  go_at_call 72
  refine (C3.out v5 HPv5.out HOv5.out).mono ?_
  rintro e v6 ⟨rfl, hb⟩
  have HBv6 : Hid (Below w.heap.size w v6) := Lib.hid (stepB HBv5.out hb)
  have HQv6 : Hid (MT 38 v6 w.heap.size (pkC p a)) := Lib.hid (MT.step HQv5.out hb)
  have HXv6 : Hid (MT 38 v6 (w.heap.size + 1) (pkC q b)) := Lib.hid (MT.step HXv5.out hb)
  have HPv6 : Hid (PIn v6 p a) := Lib.hid (PIn.step HPv5.out hb)
  have HOv6 : Hid (PIn v6 q b) := Lib.hid (PIn.step HOv5.out hb)
  clear HBv5 HQv5 HXv5 HPv5 HOv5
  clear hHeld hb
  go_wp2_with fail
  refine hK.out _ _ ⟨HQv6.out, HXv6.out⟩ (fun hHeld => ?_)
  clear hK K
  try simp only [Act.put, List.setIfInBounds_toArray, List.set]
  refine tkS (i := 27) (v := .bool true) (h := ?_)
  refine tkS (i := 28) (v := .bool true) (h := ?_)
  refine tkS (i := 29) (v := .pointer (some ⟨w.heap.size, 32, none⟩)) (h := ?_)
  refine tkA (i := 30) (v := .slice a.f p.filters.length a.fc) (y := Or.inl ⟨by rfl, fun wS hSw => by (try dsimp only at hSw); have cS : wS.cell? ⟨w.heap.size, 32, none⟩ = some (.slice a.f p.filters.length a.fc) := hSw.1.cell 32; clear hSw; go_simp⟩) (h := ?_)
  refine tkS (i := 31) (v := .pointer (some ⟨w.heap.size + 1, 32, none⟩)) (h := ?_)
  refine tkA (i := 32) (v := .slice b.f q.filters.length b.fc) (y := Or.inl ⟨by rfl, fun wS hSw => by (try dsimp only at hSw); have cS : wS.cell? ⟨w.heap.size + 1, 32, none⟩ = some (.slice b.f q.filters.length b.fc) := hSw.2.cell 32; clear hSw; go_simp⟩) (h := ?_)
  refine rdA 33 (h := fun K hK => ?_)
  go_simp
  go_at_call 73
  refine (C4.out v6 HPv6.out HOv6.out).mono ?_
  rintro e v7 ⟨rfl, hb⟩
  have HBv7 : Hid (Below w.heap.size w v7) := Lib.hid (stepB HBv6.out hb)
  have HQv7 : Hid (MT 38 v7 w.heap.size (pkC p a)) := Lib.hid (MT.step HQv6.out hb)
  have HXv7 : Hid (MT 38 v7 (w.heap.size + 1) (pkC q b)) := Lib.hid (MT.step HXv6.out hb)
  have HPv7 : Hid (PIn v7 p a) := Lib.hid (PIn.step HPv6.out hb)
  have HOv7 : Hid (PIn v7 q b) := Lib.hid (PIn.step HOv6.out hb)
  clear HBv6 HQv6 HXv6 HPv6 HOv6
  clear hHeld hb
  go_wp2_with fail
  refine hK.out _ _ ⟨HQv7.out, HXv7.out⟩ (fun hHeld => ?_)
  clear hK K
  try simp only [Act.put, List.setIfInBounds_toArray, List.set]
  refine tkS (i := 34) (v := .bool true) (h := ?_)
  refine tkS (i := 35) (v := .bool true) (h := ?_)
  refine tkS (i := 36) (v := .pointer (some ⟨w.heap.size, 33, none⟩)) (h := ?_)
  refine tkA (i := 37) (v := .slice a.c p.codes.length a.cc) (y := Or.inl ⟨by rfl, fun wS hSw => by (try dsimp only at hSw); have cS : wS.cell? ⟨w.heap.size, 33, none⟩ = some (.slice a.c p.codes.length a.cc) := hSw.1.cell 33; clear hSw; go_simp⟩) (h := ?_)
  refine tkS (i := 38) (v := .pointer (some ⟨w.heap.size + 1, 33, none⟩)) (h := ?_)
  refine tkA (i := 39) (v := .slice b.c q.codes.length b.cc) (y := Or.inl ⟨by rfl, fun wS hSw => by (try dsimp only at hSw); have cS : wS.cell? ⟨w.heap.size + 1, 33, none⟩ = some (.slice b.c q.codes.length b.cc) := hSw.2.cell 33; clear hSw; go_simp⟩) (h := ?_)
  refine rdA 40 (h := fun K hK => ?_)
  go_simp
  go_at_call 74
  refine (C5.out v7 HPv7.out HOv7.out).mono ?_
  rintro e v8 ⟨rfl, hb⟩
  have HBv8 : Hid (Below w.heap.size w v8) := Lib.hid (stepB HBv7.out hb)
  have HQv8 : Hid (MT 38 v8 w.heap.size (pkC p a)) := Lib.hid (MT.step HQv7.out hb)
  have HXv8 : Hid (MT 38 v8 (w.heap.size + 1) (pkC q b)) := Lib.hid (MT.step HXv7.out hb)
  have HPv8 : Hid (PIn v8 p a) := Lib.hid (PIn.step HPv7.out hb)
  have HOv8 : Hid (PIn v8 q b) := Lib.hid (PIn.step HOv7.out hb)
  clear HBv7 HQv7 HXv7 HPv7 HOv7
  clear hHeld hb
  go_wp2_with fail
  refine hK.out _ _ ⟨HQv8.out, HXv8.out⟩ (fun hHeld => ?_)
  clear hK K
  try simp only [Act.put, List.setIfInBounds_toArray, List.set]
  refine tkS (i := 41) (v := .bool false) (h := ?_)
  refine tkS (i := 42) (v := .bool false) (h := ?_)
  refine wpAnyH_done (by kernel_rfl) ?_ _
  go_wp2
  go_ret
  exact ⟨retb HR.symm, HBv8.out⟩
 replace HR : r = true := HR
 go_enter Tryz.func33, Tryz.ntmps33
 go_upto_region 1 with fail
 rw [← HW1.out]
 obtain ⟨v1, hv1⟩ : ∃ v1, v1 = World.drew w1 := ⟨_, rfl⟩
 have hbD : Below w1.heap.size w1 v1 := by rw [hv1]; exact (Below.refl _ _).drew
 have HBv1 : Hid (Below w.heap.size w v1) := Lib.hid (stepB HBw1.out hbD)
 have HQv1 : Hid (MT 38 v1 w.heap.size (pkC p a)) := Lib.hid (MT.step HQw1.out hbD)
 have HXv1 : Hid (MT 38 v1 (w.heap.size + 1) (pkC q b)) := Lib.hid (MT.step HXw1.out hbD)
 have HPv1 : Hid (PIn v1 p a) := Lib.hid (PIn.step HPw1.out hbD)
 have HOv1 : Hid (PIn v1 q b) := Lib.hid (PIn.step HOw1.out hbD)
 clear HBw1 HQw1 HXw1 HPw1 HOw1
 have hbd : (fun w' => MT 38 w' w.heap.size (pkC p a) ∧ MT 38 w' (w.heap.size + 1) (pkC q b)) (World.drew w1) := by rw [← hv1]; exact ⟨HQv1.out, HXv1.out⟩
 have hSD : (fun w' => MT 38 w' w.heap.size (pkC p a) ∧ MT 38 w' (w.heap.size + 1) (pkC q b)) v1 := ⟨HQv1.out, HXv1.out⟩
 have HWD := Lib.hid hv1
 clear hv1 hbD
 refine wp_region_held_drew (S := fun w' => MT 38 w' w.heap.size (pkC p a) ∧ MT 38 w' (w.heap.size + 1) (pkC q b)) (by kernel_rfl) hbd (fun hHeld => ?_)
 rw [← HWD.out]
 clear hHeld
 have hHeld := hSD
 clear hSD hbd HWD
 refine tkA (i := 0) (v := .agg (pkC p a).toArray) (y := Or.inl ⟨by rfl, fun wS hSw => by (try dsimp only at hSw); exact ldPk rfl (by go_simp) hSw.1⟩) (h := ?_)
 refine tkA (i := 2) (v := .agg (pkC q b).toArray) (y := Or.inl ⟨by rfl, fun wS hSw => by (try dsimp only at hSw); exact ldPk rfl (by go_simp) hSw.2⟩) (h := ?_)
 refine rdA 1 (h := fun K hK => ?_)
 go_simp
 go_at_call 70
 refine (C0.out v1).mono ?_
 rintro e v2 ⟨rfl, hb⟩
 have HBv2 : Hid (Below w.heap.size w v2) := Lib.hid (stepB HBv1.out hb)
 have HQv2 : Hid (MT 38 v2 w.heap.size (pkC p a)) := Lib.hid (MT.step HQv1.out hb)
 have HXv2 : Hid (MT 38 v2 (w.heap.size + 1) (pkC q b)) := Lib.hid (MT.step HXv1.out hb)
 have HPv2 : Hid (PIn v2 p a) := Lib.hid (PIn.step HPv1.out hb)
 have HOv2 : Hid (PIn v2 q b) := Lib.hid (PIn.step HOv1.out hb)
 clear HBv1 HQv1 HXv1 HPv1 HOv1
 clear hHeld hb
 go_wp2_with fail
 refine hK.out _ _ ⟨HQv2.out, HXv2.out⟩ (fun hHeld => ?_)
 clear hK K
 try simp only [Act.put, List.setIfInBounds_toArray, List.set]
 refine rdA 3 (h := fun K hK => ?_)
 go_simp
 go_at_call 70
 refine (C0'.out v2).mono ?_
 rintro e v3 ⟨rfl, hb⟩
 have HBv3 : Hid (Below w.heap.size w v3) := Lib.hid (stepB HBv2.out hb)
 have HQv3 : Hid (MT 38 v3 w.heap.size (pkC p a)) := Lib.hid (MT.step HQv2.out hb)
 have HXv3 : Hid (MT 38 v3 (w.heap.size + 1) (pkC q b)) := Lib.hid (MT.step HXv2.out hb)
 have HPv3 : Hid (PIn v3 p a) := Lib.hid (PIn.step HPv2.out hb)
 have HOv3 : Hid (PIn v3 q b) := Lib.hid (PIn.step HOv2.out hb)
 clear HBv2 HQv2 HXv2 HPv2 HOv2
 clear hHeld hb
 go_wp2_with fail
 refine hK.out _ _ ⟨HQv3.out, HXv3.out⟩ (fun hHeld => ?_)
 clear hK K
 try simp only [Act.put, List.setIfInBounds_toArray, List.set]
 refine tkA (i := 4) (v := .bool true) (y := Or.inl ⟨by rfl, fun wS hSw => by (try dsimp only at hSw); exact exec_bin .eql _ _ _ _ rfl _ _ (by go_simp) (by go_simp) (run_eqGuard_agg wS _ _ _ _ _ _ (by kernel_rfl)) _ (HE.out wS)⟩) (h := ?_)
 refine tkS (i := 5) (v := .bool true) (h := ?_)
 refine tkS (i := 6) (v := .pointer (some ⟨w.heap.size, 3, none⟩)) (h := ?_)
 refine tkA (i := 7) (v := msgV p.msg a.m a.mc) (y := Or.inl ⟨by rfl, fun wS hSw => by (try dsimp only at hSw); exact exec_load 31 _ rfl ⟨w.heap.size, 3, none⟩ (by go_simp) _ (run_load_part wS w.heap.size 3 9 38 31 _ (0, 0) _ hSw.1 Tryz.underlying31 rfl info26 (by rw [pkC_len]; decide))⟩) (h := ?_)
 refine tkS (i := 8) (v := .pointer (some ⟨w.heap.size + 1, 3, none⟩)) (h := ?_)
 refine tkA (i := 9) (v := msgV q.msg b.m b.mc) (y := Or.inl ⟨by rfl, fun wS hSw => by (try dsimp only at hSw); exact exec_load 31 _ rfl ⟨w.heap.size + 1, 3, none⟩ (by go_simp) _ (run_load_part wS (w.heap.size + 1) 3 9 38 31 _ (0, 0) _ hSw.2 Tryz.underlying31 rfl info26 (by rw [pkC_len]; decide))⟩) (h := ?_)
 refine rdA 10 (h := fun K hK => ?_)
 go_simp
 go_at_call 71
 refine (C1.out v3 HPv3.out HOv3.out).mono ?_
 rintro e v4 ⟨rfl, hb⟩
 have HBv4 : Hid (Below w.heap.size w v4) := Lib.hid (stepB HBv3.out hb)
 have HQv4 : Hid (MT 38 v4 w.heap.size (pkC p a)) := Lib.hid (MT.step HQv3.out hb)
 have HXv4 : Hid (MT 38 v4 (w.heap.size + 1) (pkC q b)) := Lib.hid (MT.step HXv3.out hb)
 have HPv4 : Hid (PIn v4 p a) := Lib.hid (PIn.step HPv3.out hb)
 have HOv4 : Hid (PIn v4 q b) := Lib.hid (PIn.step HOv3.out hb)
 clear HBv3 HQv3 HXv3 HPv3 HOv3
 clear hHeld hb
 go_wp2_with fail
 refine hK.out _ _ ⟨HQv4.out, HXv4.out⟩ (fun hHeld => ?_)
 clear hK K
 try simp only [Act.put, List.setIfInBounds_toArray, List.set]
 refine tkS (i := 11) (v := .bool true) (h := ?_)
 refine tkS (i := 12) (v := .bool true) (h := ?_)
 refine tkS (i := 13) (v := .pointer (some ⟨w.heap.size, 18, none⟩)) (h := ?_)
 refine tkS (i := 14) (v := .pointer (some ⟨w.heap.size, 20, none⟩)) (h := ?_)
 refine tkA (i := 15) (v := msgV p.wmsg a.v a.vc) (y := Or.inl ⟨by rfl, fun wS hSw => by (try dsimp only at hSw); exact exec_load 31 _ rfl ⟨w.heap.size, 20, none⟩ (by go_simp) _ (run_load_part wS w.heap.size 20 9 38 31 _ (0, 0) _ hSw.1 Tryz.underlying31 rfl info26 (by rw [pkC_len]; decide))⟩) (h := ?_)
 refine tkS (i := 16) (v := .pointer (some ⟨w.heap.size + 1, 18, none⟩)) (h := ?_)
 refine tkS (i := 17) (v := .pointer (some ⟨w.heap.size + 1, 20, none⟩)) (h := ?_)
 refine tkA (i := 18) (v := msgV q.wmsg b.v b.vc) (y := Or.inl ⟨by rfl, fun wS hSw => by (try dsimp only at hSw); exact exec_load 31 _ rfl ⟨w.heap.size + 1, 20, none⟩ (by go_simp) _ (run_load_part wS (w.heap.size + 1) 20 9 38 31 _ (0, 0) _ hSw.2 Tryz.underlying31 rfl info26 (by rw [pkC_len]; decide))⟩) (h := ?_)
 refine rdA 19 (h := fun K hK => ?_)
 go_simp
 go_at_call 71
 refine (C2.out v4 HPv4.out HOv4.out).mono ?_
 rintro e v5 ⟨rfl, hb⟩
 have HBv5 : Hid (Below w.heap.size w v5) := Lib.hid (stepB HBv4.out hb)
 have HQv5 : Hid (MT 38 v5 w.heap.size (pkC p a)) := Lib.hid (MT.step HQv4.out hb)
 have HXv5 : Hid (MT 38 v5 (w.heap.size + 1) (pkC q b)) := Lib.hid (MT.step HXv4.out hb)
 have HPv5 : Hid (PIn v5 p a) := Lib.hid (PIn.step HPv4.out hb)
 have HOv5 : Hid (PIn v5 q b) := Lib.hid (PIn.step HOv4.out hb)
 clear HBv4 HQv4 HXv4 HPv4 HOv4
 clear hHeld hb
 go_wp2_with fail
 refine hK.out _ _ ⟨HQv5.out, HXv5.out⟩ (fun hHeld => ?_)
 clear hK K
 try simp only [Act.put, List.setIfInBounds_toArray, List.set]
 refine tkS (i := 20) (v := .bool true) (h := ?_)
 refine tkS (i := 21) (v := .bool true) (h := ?_)
 refine tkS (i := 22) (v := .pointer (some ⟨w.heap.size, 31, none⟩)) (h := ?_)
 refine tkA (i := 23) (v := .slice a.s p.subs.length a.sc) (y := Or.inl ⟨by rfl, fun wS hSw => by (try dsimp only at hSw); have cS : wS.cell? ⟨w.heap.size, 31, none⟩ = some (.slice a.s p.subs.length a.sc) := hSw.1.cell 31; clear hSw; go_simp⟩) (h := ?_)
 refine tkS (i := 24) (v := .pointer (some ⟨w.heap.size + 1, 31, none⟩)) (h := ?_)
 refine tkA (i := 25) (v := .slice b.s q.subs.length b.sc) (y := Or.inl ⟨by rfl, fun wS hSw => by (try dsimp only at hSw); have cS : wS.cell? ⟨w.heap.size + 1, 31, none⟩ = some (.slice b.s q.subs.length b.sc) := hSw.2.cell 31; clear hSw; go_simp⟩) (h := ?_)
 refine rdA 26 (h := fun K hK => ?_)
 go_simp
 go_at_call 72
 refine (C3.out v5 HPv5.out HOv5.out).mono ?_
 rintro e v6 ⟨rfl, hb⟩
 have HBv6 : Hid (Below w.heap.size w v6) := Lib.hid (stepB HBv5.out hb)
 have HQv6 : Hid (MT 38 v6 w.heap.size (pkC p a)) := Lib.hid (MT.step HQv5.out hb)
 have HXv6 : Hid (MT 38 v6 (w.heap.size + 1) (pkC q b)) := Lib.hid (MT.step HXv5.out hb)
 have HPv6 : Hid (PIn v6 p a) := Lib.hid (PIn.step HPv5.out hb)
 have HOv6 : Hid (PIn v6 q b) := Lib.hid (PIn.step HOv5.out hb)
 clear HBv5 HQv5 HXv5 HPv5 HOv5
 clear hHeld hb
 go_wp2_with fail
 refine hK.out _ _ ⟨HQv6.out, HXv6.out⟩ (fun hHeld => ?_)
 clear hK K
 try simp only [Act.put, List.setIfInBounds_toArray, List.set]
 refine tkS (i := 27) (v := .bool true) (h := ?_)
 refine tkS (i := 28) (v := .bool true) (h := ?_)
 refine tkS (i := 29) (v := .pointer (some ⟨w.heap.size, 32, none⟩)) (h := ?_)
 refine tkA (i := 30) (v := .slice a.f p.filters.length a.fc) (y := Or.inl ⟨by rfl, fun wS hSw => by (try dsimp only at hSw); have cS : wS.cell? ⟨w.heap.size, 32, none⟩ = some (.slice a.f p.filters.length a.fc) := hSw.1.cell 32; clear hSw; go_simp⟩) (h := ?_)
 refine tkS (i := 31) (v := .pointer (some ⟨w.heap.size + 1, 32, none⟩)) (h := ?_)
 refine tkA (i := 32) (v := .slice b.f q.filters.length b.fc) (y := Or.inl ⟨by rfl, fun wS hSw => by (try dsimp only at hSw); have cS : wS.cell? ⟨w.heap.size + 1, 32, none⟩ = some (.slice b.f q.filters.length b.fc) := hSw.2.cell 32; clear hSw; go_simp⟩) (h := ?_)
 refine rdA 33 (h := fun K hK => ?_)
 go_simp
 go_at_call 73
 refine (C4.out v6 HPv6.out HOv6.out).mono ?_
 rintro e v7 ⟨rfl, hb⟩
 have HBv7 : Hid (Below w.heap.size w v7) := Lib.hid (stepB HBv6.out hb)
 have HQv7 : Hid (MT 38 v7 w.heap.size (pkC p a)) := Lib.hid (MT.step HQv6.out hb)
 have HXv7 : Hid (MT 38 v7 (w.heap.size + 1) (pkC q b)) := Lib.hid (MT.step HXv6.out hb)
 have HPv7 : Hid (PIn v7 p a) := Lib.hid (PIn.step HPv6.out hb)
 have HOv7 : Hid (PIn v7 q b) := Lib.hid (PIn.step HOv6.out hb)
 clear HBv6 HQv6 HXv6 HPv6 HOv6
 clear hHeld hb
 go_wp2_with fail
 refine hK.out _ _ ⟨HQv7.out, HXv7.out⟩ (fun hHeld => ?_)
 clear hK K
 try simp only [Act.put, List.setIfInBounds_toArray, List.set]
 refine tkS (i := 34) (v := .bool true) (h := ?_)
 refine tkS (i := 35) (v := .bool true) (h := ?_)
 refine tkS (i := 36) (v := .pointer (some ⟨w.heap.size, 33, none⟩)) (h := ?_)
 refine tkA (i := 37) (v := .slice a.c p.codes.length a.cc) (y := Or.inl ⟨by rfl, fun wS hSw => by (try dsimp only at hSw); have cS : wS.cell? ⟨w.heap.size, 33, none⟩ = some (.slice a.c p.codes.length a.cc) := hSw.1.cell 33; clear hSw; go_simp⟩) (h := ?_)
 refine tkS (i := 38) (v := .pointer (some ⟨w.heap.size + 1, 33, none⟩)) (h := ?_)
 refine tkA (i := 39) (v := .slice b.c q.codes.length b.cc) (y := Or.inl ⟨by rfl, fun wS hSw => by (try dsimp only at hSw); have cS : wS.cell? ⟨w.heap.size + 1, 33, none⟩ = some (.slice b.c q.codes.length b.cc) := hSw.2.cell 33; clear hSw; go_simp⟩) (h := ?_)
 refine rdA 40 (h := fun K hK => ?_)
 go_simp
 go_at_call 74
 refine (C5.out v7 HPv7.out HOv7.out).mono ?_
 rintro e v8 ⟨rfl, hb⟩
 have HBv8 : Hid (Below w.heap.size w v8) := Lib.hid (stepB HBv7.out hb)
 have HQv8 : Hid (MT 38 v8 w.heap.size (pkC p a)) := Lib.hid (MT.step HQv7.out hb)
 have HXv8 : Hid (MT 38 v8 (w.heap.size + 1) (pkC q b)) := Lib.hid (MT.step HXv7.out hb)
 have HPv8 : Hid (PIn v8 p a) := Lib.hid (PIn.step HPv7.out hb)
 have HOv8 : Hid (PIn v8 q b) := Lib.hid (PIn.step HOv7.out hb)
 clear HBv7 HQv7 HXv7 HPv7 HOv7
 clear hHeld hb
 go_wp2_with fail
 refine hK.out _ _ ⟨HQv8.out, HXv8.out⟩ (fun hHeld => ?_)
 clear hK K
 try simp only [Act.put, List.setIfInBounds_toArray, List.set]
 refine tkS (i := 41) (v := .bool true) (h := ?_)
 refine tkS (i := 42) (v := .bool true) (h := ?_)
 refine wpAnyH_done (by kernel_rfl) ?_ _
 go_wp2
 go_ret
 exact ⟨retb HR.symm, HBv8.out⟩

end Go.Proofs.YtdkegoaflabjoaaGreatDoor
