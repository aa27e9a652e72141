/-
  What meets and levels of the specification answer on two lists of texts. Conditions: the lists read as texts; they are no longer than 2^47.
-/
import Derived.Test.YtoakhkiiefiebaaDoorSpecCov
namespace Go.Proofs.YtoakhkiiefiebaaDoor.S1
open Go.RowKit

theorem met_nil : metB [] [] = true := by unfold metB; rfl
theorem met_left (y : ByteArray) (b : List ByteArray) : metB [] (y :: b) = decide (y = hashB) := by unfold metB; rfl
theorem met_right (x : ByteArray) (a : List ByteArray) : metB (x :: a) [] = decide (x = hashB) := by unfold metB; rfl
theorem met_both (x y : ByteArray) (a b : List ByteArray) : metB (x :: a) (y :: b) = if x = hashB ∨ y = hashB then true else (decide (x = y) || decide (x = plusB) || decide (y = plusB)) && metB a b := by rw [metB]
theorem beqI_t {a b : Nat} (h : a = b) : ((a : Int) == (b : Int)) = true := by rw [beq_iff_eq]; omega
theorem beqI_f {a b : Nat} (h : a ≠ b) : ((a : Int) == (b : Int)) = false := by rw [beq_eq_false_iff_ne]; omega
theorem strT {x y : ByteArray} (h : x = y) : (x.toList == y.toList) = true := beq_iff_eq.2 (by rw [h])
theorem strF {x y : ByteArray} (h : x ≠ y) : (x.toList == y.toList) = false := beq_eq_false_iff_ne.2 (fun e => h (str_eq.1 (beq_iff_eq.2 e)))

set_option maxHeartbeats 8000000 in
set_option maxRecDepth 100000 in
theorem sMeets_any (A A' : Option Addr) (c c' : Nat) (xs ys : List ByteArray) (hx63 : xs.length ≤ 140737488355328) (hy63 : ys.length ≤ 140737488355328) :
    ∀ (g i : Nat), i + g = xs.length → i ≤ ys.length → ∀ (w : World) (B : Nat), SL w B A xs → SL w B A' ys →
      Calls Tryd.prog 64 #[.slice A xs.length c, .slice A' ys.length c', .int .i64 i] w fun e w' => e = .returned (.bool (metB (xs.drop i) (ys.drop i))) ∧ ∃ n, w' = w.drewN n
  | 0, i, hi, hy, w, B, h, h' => by
    obtain rfl : i = xs.length := by omega
    rw [drop_len]
    clear h hi
    by_cases he : xs.length = ys.length
    · have HC : Hid (metB [] (ys.drop xs.length) = true) := Lib.hid (by rw [he, drop_len]; exact met_nil)
      have q := beqI_t he
      have q2 : ¬ ((xs.length : Int) < (ys.length : Int)) := by omega
      clear h' he
      go_enter Tryd.func64, Tryd.ntmps64
      go_wp2
      go_ret
      exact ⟨retb HC.out.symm, 0, rfl⟩
    · have hlt' : xs.length < ys.length := by omega
      obtain ⟨b', o', rfl, hbB', hcl'⟩ := h' (by omega)
      obtain ⟨y, hy'⟩ : ∃ y, ys[xs.length]? = some y := ⟨_, List.getElem?_eq_getElem hlt'⟩
      have k2 := hcl' xs.length y hy'
      have HDY := Lib.hid (drop_at hy')
      have q := beqI_f he
      clear hcl' hy' h' he
      by_cases h35 : y = hashB
      · have y35 : y.toList = [35] := tl_of h35
        have HR : Hid (metB [] (ys.drop xs.length) = true) := Lib.hid (by rw [HDY.out, met_left, decide_eq_true h35])
        clear h35
        go_enter Tryd.func64, Tryd.ntmps64
        go_wp2
        go_ret
        exact ⟨retb HR.out.symm, 0, rfl⟩
      · have m35 : (y.toList == [35]) = false := beq_eq_false_iff_ne.2 (tl_ne h35)
        have HR : Hid (metB [] (ys.drop xs.length) = false) := Lib.hid (by rw [HDY.out, met_left, decide_eq_false h35])
        clear h35
        go_enter Tryd.func64, Tryd.ntmps64
        go_wp2
        go_ret
        exact ⟨retb HR.out.symm, 0, rfl⟩
  | g + 1, i, hi, hy, w, B, h, h' => by
    have IH := fun (hy : i + 1 ≤ ys.length) w h h' => sMeets_any A A' c c' xs ys hx63 hy63 g (i + 1) (by omega) hy w B h h'
    have hlt : i < xs.length := by omega
    obtain ⟨b, o, rfl, hbB, hcl⟩ := h (by omega)
    obtain ⟨x, hx⟩ : ∃ x, xs[i]? = some x := ⟨_, List.getElem?_eq_getElem hlt⟩
    have k1 := hcl i x hx
    have HDX := Lib.hid (drop_at hx)
    have q0 := beqI_f (a := i) (b := xs.length) (by omega)
    by_cases h35 : x = hashB
    · have y35 : x.toList = [35] := tl_of h35
      have HR : Hid (metB (xs.drop i) (ys.drop i) = true) := Lib.hid (by
        rw [HDX.out]
        cases ys.drop i with
        | nil => rw [met_right, decide_eq_true h35]
        | cons y b => rw [met_both, if_pos (.inl h35)])
      clear hcl hx h h' IH h35 hi
      go_enter Tryd.func64, Tryd.ntmps64
      go_wp2
      go_ret
      exact ⟨retb HR.out.symm, 0, rfl⟩
    · have m35 : (x.toList == [35]) = false := beq_eq_false_iff_ne.2 (tl_ne h35)
      by_cases hl : i = ys.length
      · have HR : Hid (metB (xs.drop i) (ys.drop i) = false) := Lib.hid (by rw [HDX.out, hl, drop_len, met_right, decide_eq_false h35])
        have q1 := beqI_t hl
        have q2 : ¬ ((i : Int) < (ys.length : Int)) := by omega
        clear hcl hx h h' IH h35 hi hl
        go_enter Tryd.func64, Tryd.ntmps64
        go_wp2
        go_ret
        exact ⟨retb HR.out.symm, 0, rfl⟩
      · have q1 := beqI_f hl
        have hlt' : i < ys.length := by omega
        obtain ⟨b', o', rfl, hbB', hcl'⟩ := h' (by omega)
        obtain ⟨y, hy'⟩ : ∃ y, ys[i]? = some y := ⟨_, List.getElem?_eq_getElem hlt'⟩
        have k2 := hcl' i y hy'
        have HDY := Lib.hid (drop_at hy')
        have HCV : Hid (metB (xs.drop i) (ys.drop i) = if y = hashB then true else (decide (x = y) || decide (x = plusB) || decide (y = plusB)) && metB (xs.drop (i + 1)) (ys.drop (i + 1))) := Lib.hid (by
          rw [HDX.out, HDY.out, met_both]
          by_cases h : y = hashB
          · rw [if_pos h, if_pos (.inr h)]
          · rw [if_neg h, if_neg (fun q => by rcases q with q | q; exact h35 q; exact h q)])
        have cRd := fun n => IH (by omega) (w.drewN n) (fun hn => h hn) (fun hn => h' hn)
        have e1 : ((i + 1 : Nat) : Int) = (i : Int) + 1 := by omega
        rw [e1] at cRd
        have CRD := Lib.hid cRd
        clear hcl hcl' hx hy' h h' IH h35 hi hl cRd e1
        by_cases hy35 : y = hashB
        · have z35 : y.toList = [35] := tl_of hy35
          have HR : Hid (metB (xs.drop i) (ys.drop i) = true) := Lib.hid (by rw [HCV.out, if_pos hy35])
          clear hy35
          go_enter Tryd.func64, Tryd.ntmps64
          go_wp2
          go_ret
          exact ⟨retb HR.out.symm, 0, rfl⟩
        · have z35 : (y.toList == [35]) = false := beq_eq_false_iff_ne.2 (tl_ne hy35)
          have HCW : Hid (metB (xs.drop i) (ys.drop i) = ((decide (x = y) || decide (x = plusB) || decide (y = plusB)) && metB (xs.drop (i + 1)) (ys.drop (i + 1)))) := Lib.hid (by rw [HCV.out, if_neg hy35])
          clear hy35 HCV
          by_cases hxy : x = y
          · have HR : Hid (metB (xs.drop i) (ys.drop i) = metB (xs.drop (i + 1)) (ys.drop (i + 1))) := Lib.hid (by rw [HCW.out, decide_eq_true hxy]; rfl)
            have hd2 := strT hxy
            clear hxy
            go_enter Tryd.func64, Tryd.ntmps64
            go_wp2
            go_quiet ((go_at_call 64; exact Calls.quiet_of (CRD.out _)))
            go_wp2
            go_ret
            exact ⟨retb (by rw [HR.out]), _, rfl⟩
          · have hd2 := strF hxy
            by_cases h43 : x = plusB
            · have y43 : (x.toList == [43]) = true := beq_iff_eq.2 (tl_of h43)
              have HR : Hid (metB (xs.drop i) (ys.drop i) = metB (xs.drop (i + 1)) (ys.drop (i + 1))) := Lib.hid (by rw [HCW.out, decide_eq_true h43]; simp)
              clear hxy h43
              go_enter Tryd.func64, Tryd.ntmps64
              go_wp2
              go_quiet ((go_at_call 64; exact Calls.quiet_of (CRD.out _)))
              go_wp2
              go_ret
              exact ⟨retb (by rw [HR.out]), _, rfl⟩
            · have m43 : (x.toList == [43]) = false := beq_eq_false_iff_ne.2 (tl_ne h43)
              by_cases g43 : y = plusB
              · have y43 : (y.toList == [43]) = true := beq_iff_eq.2 (tl_of g43)
                have HR : Hid (metB (xs.drop i) (ys.drop i) = metB (xs.drop (i + 1)) (ys.drop (i + 1))) := Lib.hid (by rw [HCW.out, decide_eq_true g43]; simp)
                clear hxy h43 g43
                go_enter Tryd.func64, Tryd.ntmps64
                go_wp2
                go_quiet ((go_at_call 64; exact Calls.quiet_of (CRD.out _)))
                go_wp2
                go_ret
                exact ⟨retb (by rw [HR.out]), _, rfl⟩
              · have y43 : (y.toList == [43]) = false := beq_eq_false_iff_ne.2 (tl_ne g43)
                have HR : Hid (metB (xs.drop i) (ys.drop i) = false) := Lib.hid (by rw [HCW.out, decide_eq_false hxy, decide_eq_false h43, decide_eq_false g43]; simp)
                clear hxy h43 g43
                go_enter Tryd.func64, Tryd.ntmps64
                go_wp2
                go_quiet (fail)
                go_wp2
                go_ret
                exact ⟨retb HR.out.symm, _, rfl⟩

/-- do the levels of a filter correspond to those of a topic name? -/
def levB : List ByteArray → List ByteArray → Bool
  | [], b => b.isEmpty
  | x :: a, b => if x = hashB then true else match b with
    | [] => false
    | y :: b' => (decide (x = plusB) || decide (x = y)) && levB a b'
theorem lev_nil {x : ByteArray} (a : List ByteArray) (h : x ≠ hashB) : levB (x :: a) [] = false := by
  rw [levB.eq_def]
  simp [h]
theorem lev_hash {x : ByteArray} (a b : List ByteArray) (h : x = hashB) : levB (x :: a) b = true := by
  rw [levB.eq_def]
  simp [h]
theorem lev_empty {ys : List ByteArray} {i : Nat} (h : i ≤ ys.length) : levB [] (ys.drop i) = ((i : Int) == (ys.length : Int)) := by
  unfold levB
  rw [Bool.eq_iff_iff, List.isEmpty_iff, List.drop_eq_nil_iff, beq_iff_eq]
  omega
theorem lev_cov : ∀ (a b : List ByteArray), (∀ y ∈ b, y ≠ hashB) → levB a b = covB a b
  | [], b, _ => by unfold levB covB; rfl
  | x :: a, [], _ => by
    by_cases hx : x = hashB
    · rw [lev_hash _ _ hx, cov_hash _ _ hx]
    · rw [lev_nil _ hx, cov_nil _ hx]
  | x :: a, y :: b, h => by
    by_cases hx : x = hashB
    · rw [lev_hash _ _ hx, cov_hash _ _ hx]
    · rw [levB, if_neg hx, covB, if_neg hx, lev_cov a b (fun z hz => h z (by simp [hz]))]
      have hy := h y (by simp)
      by_cases hp : x = plusB
      · rw [if_pos hp, decide_eq_true hp, decide_eq_true hy]; rfl
      · rw [if_neg hp, decide_eq_false hp]; rfl

set_option maxHeartbeats 8000000 in
theorem sLevels_any (A A' : Option Addr) (c c' : Nat) (xs ys : List ByteArray) (hx63 : xs.length ≤ 140737488355328) (hy63 : ys.length ≤ 140737488355328) :
    ∀ (g i : Nat), i + g = xs.length → i ≤ ys.length → ∀ (w : World) (B : Nat), SL w B A xs → SL w B A' ys →
      Calls Tryd.prog 50 #[.slice A xs.length c, .slice A' ys.length c', .int .i64 i, .int .i64 i] w fun e w' => e = .returned (.bool (levB (xs.drop i) (ys.drop i))) ∧ ∃ n, w' = w.drewN n
  | 0, i, hi, hy, w, B, h, h' => by
    obtain rfl : i = xs.length := by omega
    have HC := Lib.hid (lev_empty hy)
    rw [drop_len]
    clear h h' hi
    by_cases he : xs.length = ys.length
    · have q := beqI_t he
      rw [q] at HC
      clear he
      go_enter Tryd.func50, Tryd.ntmps50
      go_wp2
      go_ret
      exact ⟨retb HC.out.symm, 0, rfl⟩
    · have q := beqI_f he
      rw [q] at HC
      clear he
      go_enter Tryd.func50, Tryd.ntmps50
      go_wp2
      go_ret
      exact ⟨retb HC.out.symm, 0, rfl⟩
  | g + 1, i, hi, hy, w, B, h, h' => by
    have IH := fun (hy : i + 1 ≤ ys.length) w h h' => sLevels_any A A' c c' xs ys hx63 hy63 g (i + 1) (by omega) hy w B h h'
    have hlt : i < xs.length := by omega
    obtain ⟨b, o, rfl, hbB, hcl⟩ := h (by omega)
    obtain ⟨x, hx⟩ : ∃ x, xs[i]? = some x := ⟨_, List.getElem?_eq_getElem hlt⟩
    have k1 := hcl i x hx
    have HDX := Lib.hid (drop_at hx)
    have q0 := beqI_f (a := i) (b := xs.length) (by omega)
    by_cases h35 : x = hashB
    · have y35 : x.toList = [35] := tl_of h35
      have HR : Hid (levB (xs.drop i) (ys.drop i) = true) := Lib.hid (by rw [HDX.out]; exact lev_hash _ _ h35)
      clear hcl hx h h' IH h35 hi
      go_enter Tryd.func50, Tryd.ntmps50
      go_wp2
      go_ret
      exact ⟨retb HR.out.symm, 0, rfl⟩
    · have m35 : (x.toList == [35]) = false := beq_eq_false_iff_ne.2 (tl_ne h35)
      by_cases hl : i = ys.length
      · have HR : Hid (levB (xs.drop i) (ys.drop i) = false) := Lib.hid (by rw [HDX.out, hl, drop_len]; exact lev_nil _ h35)
        have q1 := beqI_t hl
        clear hcl hx h h' IH h35 hi hl
        go_enter Tryd.func50, Tryd.ntmps50
        go_wp2
        go_ret
        exact ⟨retb HR.out.symm, 0, rfl⟩
      · have q1 := beqI_f hl
        have hlt' : i < ys.length := by omega
        obtain ⟨b', o', rfl, hbB', hcl'⟩ := h' (by omega)
        obtain ⟨y, hy'⟩ : ∃ y, ys[i]? = some y := ⟨_, List.getElem?_eq_getElem hlt'⟩
        have k2 := hcl' i y hy'
        have HDY := Lib.hid (drop_at hy')
        have HCV : Hid (levB (xs.drop i) (ys.drop i) = ((decide (x = plusB) || decide (x = y)) && levB (xs.drop (i + 1)) (ys.drop (i + 1)))) := Lib.hid (by
          rw [HDX.out, HDY.out, levB, if_neg h35])
        have cRd := fun n => IH (by omega) (w.drewN n) (fun hn => h hn) (fun hn => h' hn)
        have e1 : ((i + 1 : Nat) : Int) = (i : Int) + 1 := by omega
        rw [e1] at cRd
        have CRD := Lib.hid cRd
        clear hcl hcl' hx hy' h h' IH h35 hi hl cRd e1
        by_cases h43 : x = plusB
        · have y43 : (x.toList == [43]) = true := beq_iff_eq.2 (tl_of h43)
          have HR : Hid (levB (xs.drop i) (ys.drop i) = levB (xs.drop (i + 1)) (ys.drop (i + 1))) := Lib.hid (by rw [HCV.out, decide_eq_true h43]; rfl)
          clear h43
          go_enter Tryd.func50, Tryd.ntmps50
          go_wp2
          go_quiet ((go_at_call 50; exact Calls.quiet_of (CRD.out _)))
          go_wp2
          go_ret
          exact ⟨retb (by rw [HR.out]), _, rfl⟩
        · have m43 : (x.toList == [43]) = false := beq_eq_false_iff_ne.2 (tl_ne h43)
          by_cases hxy : x = y
          · have HR : Hid (levB (xs.drop i) (ys.drop i) = levB (xs.drop (i + 1)) (ys.drop (i + 1))) := Lib.hid (by rw [HCV.out, decide_eq_true hxy]; simp)
            have hd2 := strT hxy
            clear hxy h43
            go_enter Tryd.func50, Tryd.ntmps50
            go_wp2
            go_quiet ((go_at_call 50; exact Calls.quiet_of (CRD.out _)))
            go_wp2
            go_ret
            exact ⟨retb (by rw [HR.out]), _, rfl⟩
          · have HR : Hid (levB (xs.drop i) (ys.drop i) = false) := Lib.hid (by rw [HCV.out, decide_eq_false h43, decide_eq_false hxy]; rfl)
            have hd2 := strF hxy
            clear hxy h43
            go_enter Tryd.func50, Tryd.ntmps50
            go_wp2
            go_quiet (fail)
            go_wp2
            go_ret
            exact ⟨retb HR.out.symm, _, rfl⟩

end Go.Proofs.YtoakhkiiefiebaaDoor.S1
