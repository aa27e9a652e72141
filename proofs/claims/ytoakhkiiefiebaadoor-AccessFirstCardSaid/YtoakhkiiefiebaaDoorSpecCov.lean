/-
  What covers, meets and levels of the specification answer on two lists of texts. Conditions: the lists read as texts; they are no longer than 2^47.
-/
import Derived.Test.YtoakhkiiefiebaaDoorCov
import Derived.Deep.QuietTactic
import Derived.BigQuiet
namespace Go.Proofs.YtoakhkiiefiebaaDoor.S1
open Go.RowKit

theorem drop_len (xs : List ByteArray) : xs.drop xs.length = [] := List.drop_length
theorem cov_empty {ys : List ByteArray} {i : Nat} (h : i ≤ ys.length) : covB [] (ys.drop i) = ((i : Int) == (ys.length : Int)) := by
  unfold covB
  rw [Bool.eq_iff_iff, List.isEmpty_iff, List.drop_eq_nil_iff, beq_iff_eq]
  omega

set_option maxHeartbeats 4000000 in
theorem sCovers_any (A A' : Option Addr) (c c' : Nat) (xs ys : List ByteArray) (hx63 : xs.length ≤ 140737488355328) (hy63 : ys.length ≤ 140737488355328) :
    ∀ (g i : Nat), i + g = xs.length → i ≤ ys.length → ∀ (w : World) (B : Nat), SL w B A xs → SL w B A' ys →
      Calls Tryd.prog 65 #[.slice A xs.length c, .slice A' ys.length c', .int .i64 i] w fun e w' => e = .returned (.bool (covB (xs.drop i) (ys.drop i))) ∧ ∃ n, w' = w.drewN n
  | 0, i, hi, hy, w, B, h, h' => by
    obtain rfl : i = xs.length := by omega
    have HC := Lib.hid (cov_empty hy)
    rw [drop_len]
    clear h h' hi
    by_cases he : xs.length = ys.length
    · have q : ((xs.length : Int) == (ys.length : Int)) = true := by rw [beq_iff_eq]; omega
      rw [q] at HC
      go_enter Tryd.func65, Tryd.ntmps65
      go_wp2
      go_ret
      exact ⟨retb HC.out.symm, 0, rfl⟩
    · have q : ((xs.length : Int) == (ys.length : Int)) = false := by rw [beq_eq_false_iff_ne]; omega
      rw [q] at HC
      go_enter Tryd.func65, Tryd.ntmps65
      go_wp2
      go_ret
      exact ⟨retb HC.out.symm, 0, rfl⟩
  | g + 1, i, hi, hy, w, B, h, h' => by
    have IH := fun (hy : i + 1 ≤ ys.length) w h h' => sCovers_any A A' c c' xs ys hx63 hy63 g (i + 1) (by omega) hy w B h h'
    have hlt : i < xs.length := by omega
    obtain ⟨b, o, rfl, hbB, hcl⟩ := h (by omega)
    obtain ⟨x, hx⟩ : ∃ x, xs[i]? = some x := ⟨_, List.getElem?_eq_getElem hlt⟩
    have k1 := hcl i x hx
    have HDX := Lib.hid (drop_at hx)
    have q0 : ((i : Int) == (xs.length : Int)) = false := by rw [beq_eq_false_iff_ne]; omega
    by_cases h35 : x = hashB
    · have y35 : x.toList = [35] := tl_of h35
      have HR : Hid (covB (xs.drop i) (ys.drop i) = true) := Lib.hid (by rw [HDX.out]; exact cov_hash _ _ h35)
      clear hcl hx h h' IH h35 hi
      go_enter Tryd.func65, Tryd.ntmps65
      go_wp2
      go_ret
      exact ⟨retb HR.out.symm, 0, rfl⟩
    · have m35 : (x.toList == [35]) = false := beq_eq_false_iff_ne.2 (tl_ne h35)
      by_cases hl : i = ys.length
      · have HR : Hid (covB (xs.drop i) (ys.drop i) = false) := Lib.hid (by rw [HDX.out, hl, drop_len]; exact cov_nil _ h35)
        have q1 : ((i : Int) == (ys.length : Int)) = true := by rw [beq_iff_eq]; omega
        clear hcl hx h h' IH h35 hi hl
        go_enter Tryd.func65, Tryd.ntmps65
        go_wp2
        go_ret
        exact ⟨retb HR.out.symm, 0, rfl⟩
      · have q1 : ((i : Int) == (ys.length : Int)) = false := by rw [beq_eq_false_iff_ne]; omega
        have hlt' : i < ys.length := by omega
        obtain ⟨b', o', rfl, hbB', hcl'⟩ := h' (by omega)
        obtain ⟨y, hy'⟩ : ∃ y, ys[i]? = some y := ⟨_, List.getElem?_eq_getElem hlt'⟩
        have k2 := hcl' i y hy'
        have HDY := Lib.hid (drop_at hy')
        have HCV : Hid (covB (xs.drop i) (ys.drop i) = ((if x = plusB then decide (y ≠ hashB) else decide (x = y)) && covB (xs.drop (i + 1)) (ys.drop (i + 1)))) := Lib.hid (by
          rw [HDX.out, HDY.out, covB, if_neg h35])
        have cR := IH (by omega) w h h'
        have e1 : ((i + 1 : Nat) : Int) = (i : Int) + 1 := by omega
        rw [e1] at cR
        have cRd := fun n => IH (by omega) (w.drewN n) (fun hn => h hn) (fun hn => h' hn)
        rw [e1] at cRd
        have CR := Lib.hid cR
        have CRD := Lib.hid cRd
        clear hcl hcl' hx hy' h h' IH h35 hi hl cR cRd e1
        by_cases h43 : x = plusB
        · have y43 : x.toList = [43] := tl_of h43
          by_cases hy35 : y = hashB
          · have z35 : y.toList = [35] := tl_of hy35
            have HR : Hid (covB (xs.drop i) (ys.drop i) = false) := Lib.hid (by rw [HCV.out, if_pos h43, decide_eq_false (fun hn => hn hy35)]; rfl)
            have m43 : ([43] == ([35] : List UInt8)) = false := by decide
            clear h43 hy35
            go_enter Tryd.func65, Tryd.ntmps65
            go_wp2
            go_ret
            exact ⟨retb HR.out.symm, 0, rfl⟩
          · have z35 : (y.toList == [35]) = false := beq_eq_false_iff_ne.2 (tl_ne hy35)
            have z35' : ¬ y.toList = [35] := tl_ne hy35
            have HR : Hid (covB (xs.drop i) (ys.drop i) = covB (xs.drop (i + 1)) (ys.drop (i + 1))) := Lib.hid (by rw [HCV.out, if_pos h43, decide_eq_true hy35]; rfl)
            have m43 : ([43] == ([35] : List UInt8)) = false := by decide
            clear h43 hy35
            go_enter Tryd.func65, Tryd.ntmps65
            go_wp2_with fail
            refine CR.out.mono ?_
            rintro e w1 ⟨rfl, n, rfl⟩
            go_wp2
            go_ret
            exact ⟨retb (by rw [HR.out]), n, rfl⟩
        · have m43 : (x.toList == [43]) = false := beq_eq_false_iff_ne.2 (tl_ne h43)
          by_cases hxy : x = y
          · have HR : Hid (covB (xs.drop i) (ys.drop i) = covB (xs.drop (i + 1)) (ys.drop (i + 1))) := Lib.hid (by rw [HCV.out, if_neg h43, decide_eq_true hxy]; rfl)
            have hd : decide (x.toList = y.toList) = true := decide_eq_true (by rw [hxy])
            have hd2 : (x.toList == y.toList) = true := beq_iff_eq.2 (by rw [hxy])
            clear h43 hxy
            go_enter Tryd.func65, Tryd.ntmps65
            go_wp2
            go_quiet ((go_at_call 65; exact Calls.quiet_of (CRD.out _)))
            go_wp2
            go_ret
            exact ⟨retb (by rw [HR.out]), _, rfl⟩
          · have HR : Hid (covB (xs.drop i) (ys.drop i) = false) := Lib.hid (by rw [HCV.out, if_neg h43, decide_eq_false hxy]; rfl)
            have hd2 : (x.toList == y.toList) = false := beq_eq_false_iff_ne.2 (fun e => hxy (str_eq.1 (beq_iff_eq.2 e)))
            have hd : decide (x.toList = y.toList) = false := decide_eq_false (fun e => hxy (str_eq.1 (beq_iff_eq.2 e)))
            clear h43 hxy
            go_enter Tryd.func65, Tryd.ntmps65
            go_wp2
            go_quiet (fail)
            go_wp2
            go_ret
            exact ⟨retb HR.out.symm, _, rfl⟩

end Go.Proofs.YtoakhkiiefiebaaDoor.S1
