/-
  What SameNumbers of the specification and slices.Equal answer at lists of numbers and of texts. Conditions: the lists read as data; lengths fit an int.
-/
import Derived.Test.YtmcocepjdhpecabGreatDoorEqS
import Derived.Test.YtmcocepjdhpecabGreatDoorLevels
import Derived.Test.YtmcocepjdhpecabGreatDoorShelf
namespace Go.Proofs.YtmcocepjdhpecabGreatDoor
open Go.RowKit

theorem IL.at_ {w : World} {B : Nat} {A : Option Addr} {xs : List Int} (h : IL w B A xs) {j : Nat} {x : Int} (hx : xs[j]? = some x) :
    ∃ b o, A = some ⟨b, o, none⟩ ∧ b < B ∧ w.cell? ⟨b, o + j, none⟩ = some (.int .i64 x) := by
  obtain ⟨b, o, e, hb, hc⟩ := h (Nat.lt_of_le_of_lt (Nat.zero_le _) (List.getElem?_eq_some_iff.1 hx).1)
  exact ⟨b, o, e, hb, hc j x hx⟩

set_option maxHeartbeats 2000000 in
theorem sameNums_any (A A' : Option Addr) (c c' : Nat) (xs ys : List Int) (w : World) (hx : IL w w.heap.size A xs) (hy : IL w w.heap.size A' ys) (hn : xs.length ≤ 9223372036854775806) :
    Calls Tryz.prog 31 #[.slice A xs.length c, .slice A' ys.length c'] w fun e w' => e = .returned (.bool (decide (xs = ys))) ∧ Below w.heap.size w w' := by
  by_cases hl : xs.length = ys.length
  · have HX := Lib.hid hx
    have HY := Lib.hid hy
    have HM := Lib.hid hn
    have HL := Lib.hid hl
    have e1 : ((xs.length : Int) != (ys.length : Int)) = false := by simp; omega
    have e1' : (xs.length != ys.length) = false := by simp; omega
    clear hx hy hl
    go_enter Tryz.func31, Tryz.ntmps31
    go_wp2
    go_loopg [5] xs.length (fun g v wr => ∃ k : Nat, k + g = xs.length ∧ v = .int .i64 k ∧ SamS xs ys k ∧ Below w.heap.size w wr)
    case atStart => exact ⟨0, by omega, rfl, SamS.zero _ _, Below.refl _ _⟩
    case round =>
      obtain ⟨k, hkg, rfl, hrel, hb⟩ := hrel
      have HR := Lib.hid hrel
      have HB := Lib.hid hb
      have HG := Lib.hid hkg
      clear hrel
      cases gk with
      | zero =>
        obtain rfl : k = xs.length := by omega
        have HV := Lib.hid (HR.out.done HL.out)
        clear hkg hb
        go_wp2
        go_ret
        exact ⟨retb HV.out.symm, HB.out⟩
      | succ g =>
        have hlt : k < xs.length := by omega
        have hlt2 : k < ys.length := by have := HL.out; omega
        have e3 : decide ((k : Int) < (xs.length : Int)) = true := decide_eq_true (by omega)
        obtain ⟨x, hx⟩ : ∃ x, xs[k]? = some x := ⟨_, List.getElem?_eq_getElem hlt⟩
        obtain ⟨y, hy⟩ : ∃ y, ys[k]? = some y := ⟨_, List.getElem?_eq_getElem hlt2⟩
        obtain ⟨b, o, hA, hbB, kk⟩ := IL.at_ (HX.out.step hb) hx
        subst hA
        obtain ⟨b2, o2, hA2, hbB2, kk2⟩ := IL.at_ (HY.out.step hb) hy
        subst hA2
        have j1 : (0 : Int) ≤ (k : Int) := by omega
        have j2 : (k : Int) < (xs.length : Int) := by omega
        have j3 : (k : Int) < (ys.length : Int) := by omega
        by_cases he : x = y
        · have HN := Lib.hid (HR.out.succ hx (by rw [hy, he]))
          have d1 : (x != y) = false := by simp [he]
          clear hx hy he hkg hb
          go_wp2_with fail
          go_quiet (fail)
          go_wp2
          go_roundg g
          case measure => omega
          case rel => exact ⟨k + 1, by have := HG.out; omega, by go_num, HN.out, stepB HB.out (below_drewN _ _)⟩
        · have HV := Lib.hid (samS_bad hx hy he)
          have d1 : (x != y) = true := by simp [he]
          clear hx hy he hkg hb
          go_wp2_with fail
          go_quiet (fail)
          go_wp2
          go_ret
          exact ⟨retb HV.out.symm, stepB HB.out (below_drewN _ _)⟩
  · have e1 : ((xs.length : Int) != (ys.length : Int)) = true := by simp; omega
    have e1' : (xs.length != ys.length) = true := by simp; omega
    have HV := Lib.hid (samS_len hl)
    clear hx hy hl hn
    go_enter Tryz.func31, Tryz.ntmps31
    go_wp2
    go_ret
    exact ⟨retb HV.out.symm, Below.refl _ _⟩


theorem below_eqN {w w' : World} (h : ∃ q, w' = w.drewN q) : Below w.heap.size w w' := by
  obtain ⟨q, rfl⟩ := h
  exact below_drewN _ _
theorem rSameT_any (A A' : Option Addr) (c c' : Nat) (xs ys : List ByteArray) (w : World) (hx : SL w w.heap.size A xs) (hy : SL w w.heap.size A' ys) (hn : xs.length ≤ 9223372036854775806) (hm : ys.length ≤ 9223372036854775806) :
    Calls Tryz.prog 30 #[.slice A xs.length c, .slice A' ys.length c'] w fun e w' => e = .returned (.bool (decide (xs = ys))) ∧ Below w.heap.size w w' := by
  refine (S1.same_any A A' c c' xs ys w w.heap.size hx hy (by omega) (by omega)).mono fun e w' h => ⟨h.1, ?_⟩
  obtain ⟨n, rfl⟩ := h.2
  exact below_drewN _ _

end Go.Proofs.YtmcocepjdhpecabGreatDoor
