/-
  What the specification's Next of credits answers, and which lists of credits the statements look at. Conditions: few credits, all valid; for valid, any list that reads as data.
-/
import Derived.Test.YtomlideijhejfabFlB
namespace Go.Proofs.Ytomlideijhejfab
open Go.RowKit

/-- an index, if there is one, that a call answers -/
def RetN (o : Option Nat) (W : World) (e : Ending) (w' : World) : Prop := e = .returned (.tuple #[.int .i64 ((o.getD 0 : Nat) : Int), .bool o.isSome]) ∧ Below W.heap.size W w'
set_option maxRecDepth 20000 in
set_option maxHeartbeats 4000000 in
theorem rNext_loop (A : Option Addr) (c : Nat) (X : List (Int × Int)) (last : Int) (h1 : -9223372036854775808 ≤ last) (h2 : last ≤ 9223372036854775807) (w : World) (hsl : CrL w w.heap.size A X) (hX : X.length ≤ 1000000) (hok : ∀ x ∈ X, okC x = true) :
    Calls Try.prog 22 #[.slice A X.length c, .int .i64 last] w (RetN (nxC X last) w) := by
  have HS := Lib.hid hsl
  have HO := Lib.hid hok
  unfold nxC
  obtain ⟨R, hR⟩ : ∃ R, nxF X (frC X.length last) X.length 0 = R := ⟨_, rfl⟩
  rw [hR]
  have HR := Lib.hid hR
  have hfr : frC X.length last ≤ X.length := by unfold frC; split <;> omega
  clear hR hsl hok
  by_cases c1 : 0 ≤ last
  · have q1 : decide (0 ≤ last) = true := decide_eq_true c1
    by_cases c2 : last < (X.length : Int)
    · have q2 : decide (last < (X.length : Int)) = true := decide_eq_true c2
      have q3 : wrap64 (last + 1) = last + 1 := wrap64_id _ (by omega) (by omega)
      have ef : last + 1 = (frC X.length last : Int) := by unfold frC; rw [if_pos ⟨c1, c2⟩]; omega
      have efw : wrap64 (last + 1) = (frC X.length last : Int) := by rw [q3, ef]
      generalize frC X.length last = first at HR hfr ef efw
      clear c1 c2 h1 h2
      go_enter Try.func22, Try.ntmps22
      go_wp2_with fail
      go_loopg [7] X.length (fun g v wr => ∃ k : Nat, k + g = X.length ∧ v = .int .i64 k ∧ nxF X first g k = R ∧ Below w.heap.size w wr)
      case atStart => exact ⟨0, by omega, rfl, HR.out, Below.refl _ _⟩
      case round =>
        obtain ⟨k, hkg, rfl, hrel, hb0⟩ := hrel
        have HREL := Lib.hid hrel
        have HG := Lib.hid hkg
        have HB := Lib.hid hb0
        clear hrel HR
        cases gk with
        | zero =>
          obtain rfl : k = X.length := by omega
          have HF : Hid (none = R) := Lib.hid HREL.out
          have e3 : decide ((X.length : Int) < (X.length : Int)) = false := decide_eq_false (by omega)
          clear hkg hb0
          go_wp2_with fail
          go_ret2
          rw [← HF.out]
          exact ⟨rfl, HB.out⟩
        | succ g =>
          have hlt : k < X.length := by omega
          have hn0 : 0 < X.length := by omega
          have e3 : decide ((k : Int) < (X.length : Int)) = true := decide_eq_true (by omega)
          have hil : (first + k) % X.length < X.length := Nat.mod_lt _ hn0
          have u1 : wrap64 ((first : Int) + (k : Int)) = (first : Int) + (k : Int) := wrap64_id _ (by omega) (by omega)
          have u2 : Int.tmod ((first : Int) + (k : Int)) (X.length : Int) = (((first + k) % X.length : Nat) : Int) := by rw [Int.tmod_eq_emod_of_nonneg (by omega), Int.natCast_emod]; rw [Int.natCast_add]
          have u3 : ¬ ((X.length : Int) = 0) := by omega
          have hat : atC X ((first + k) % X.length) = X[(first + k) % X.length] := by unfold atC; rw [List.getD_eq_getElem?_getD, List.getElem?_eq_getElem hil]; rfl
          have hun : nxF X first (g + 1) k = if 0 < lfC (atC X ((first + k) % X.length)) then some ((first + k) % X.length) else nxF X first g (k + 1) := rfl
          have hrel2 := HREL.out
          rw [hun, hat] at hrel2
          generalize hi : (first + k) % X.length = i at hil u2 hrel2
          obtain ⟨x, hx⟩ : ∃ x, X[i]? = some x := ⟨_, List.getElem?_eq_getElem hil⟩
          have hxi : X[i] = x := by rw [List.getElem?_eq_getElem hil] at hx; exact Option.some.inj hx
          rw [hxi] at hrel2
          obtain ⟨b, o, hA, hbB, k0, k1⟩ := CrL.at_ (HS.out.step hb0) hx
          subst hA
          have hox := HO.out x (List.mem_of_getElem? hx)
          obtain ⟨m, u⟩ := x
          dsimp only at k0 k1
          obtain ⟨g1, g2, g3, g4⟩ := okC_iff.1 hox
          dsimp only at g1 g2 g3 g4
          have CL := Lib.hid (fun w => rLeftC_any m u (by omega) (by omega) (by omega) w)
          have hz := lf_nonneg (m, u)
          generalize lfC (m, u) = lf at CL hz hrel2
          have j1 : (0 : Int) ≤ (i : Int) := by omega
          have j2 : (i : Int) < (X.length : Int) := by omega
          have j3 : (k : Int) < (X.length : Int) := by omega
          by_cases hc : 0 < lf
          · rw [if_pos hc] at hrel2
            have q9 : decide (0 < lf) = true := decide_eq_true hc
            have HF := Lib.hid hrel2
            clear hrel2 hx hxi hkg hb0 hbB hat hun hi hox g1 g2 g3 g4 hz hc hfr
            go_wp2_with fail
            refine (CL.out _).mono ?_
            rintro e w1 ⟨rfl, hb1⟩
            have B1 := Lib.hid (stepB HB.out hb1)
            clear hb1 k0 k1
            go_wp2_with fail
            go_ret2
            rw [← HF.out]
            exact ⟨rfl, B1.out⟩
          · rw [if_neg hc] at hrel2
            have q9 : decide (0 < lf) = false := decide_eq_false hc
            have HF := Lib.hid hrel2
            clear hrel2 hx hxi hkg hb0 hbB hat hun hi hox g1 g2 g3 g4 hz hc hfr
            go_wp2_with fail
            refine (CL.out _).mono ?_
            rintro e w1 ⟨rfl, hb1⟩
            have B1 := Lib.hid (stepB HB.out hb1)
            clear hb1 k0 k1
            go_wp2_with fail
            go_roundg g
            case measure => omega
            case rel => exact ⟨k + 1, by have := HG.out; omega, by first | rfl | exact nxt k (by have := HG.out; omega), HF.out, B1.out⟩
    · have q2 : decide (last < (X.length : Int)) = false := decide_eq_false c2
      have ef : frC X.length last = 0 := by unfold frC; rw [if_neg (by omega)]
      rw [ef] at HR
      clear c1 c2 h1 h2 ef
      go_enter Try.func22, Try.ntmps22
      go_wp2_with fail
      go_loopg [7] X.length (fun g v wr => ∃ k : Nat, k + g = X.length ∧ v = .int .i64 k ∧ nxF X 0 g k = R ∧ Below w.heap.size w wr)
      case atStart => exact ⟨0, by omega, rfl, HR.out, Below.refl _ _⟩
      case round =>
        obtain ⟨k, hkg, rfl, hrel, hb0⟩ := hrel
        have HREL := Lib.hid hrel
        have HG := Lib.hid hkg
        have HB := Lib.hid hb0
        clear hrel HR
        cases gk with
        | zero =>
          obtain rfl : k = X.length := by omega
          have HF : Hid (none = R) := Lib.hid HREL.out
          have e3 : decide ((X.length : Int) < (X.length : Int)) = false := decide_eq_false (by omega)
          clear hkg hb0
          go_wp2_with fail
          go_ret2
          rw [← HF.out]
          exact ⟨rfl, HB.out⟩
        | succ g =>
          have hlt : k < X.length := by omega
          have hn0 : 0 < X.length := by omega
          have e3 : decide ((k : Int) < (X.length : Int)) = true := decide_eq_true (by omega)
          have hil : (0 + k) % X.length < X.length := Nat.mod_lt _ hn0
          have u1 : wrap64 (k : Int) = (k : Int) := wrap64_id _ (by omega) (by omega)
          have u2 : Int.tmod (k : Int) (X.length : Int) = (((0 + k) % X.length : Nat) : Int) := by rw [Int.tmod_eq_emod_of_nonneg (by omega), Int.natCast_emod]; simp
          have u3 : ¬ ((X.length : Int) = 0) := by omega
          have hat : atC X ((0 + k) % X.length) = X[(0 + k) % X.length] := by unfold atC; rw [List.getD_eq_getElem?_getD, List.getElem?_eq_getElem hil]; rfl
          have hun : nxF X 0 (g + 1) k = if 0 < lfC (atC X ((0 + k) % X.length)) then some ((0 + k) % X.length) else nxF X 0 g (k + 1) := rfl
          have hrel2 := HREL.out
          rw [hun, hat] at hrel2
          generalize hi : (0 + k) % X.length = i at hil u2 hrel2
          obtain ⟨x, hx⟩ : ∃ x, X[i]? = some x := ⟨_, List.getElem?_eq_getElem hil⟩
          have hxi : X[i] = x := by rw [List.getElem?_eq_getElem hil] at hx; exact Option.some.inj hx
          rw [hxi] at hrel2
          obtain ⟨b, o, hA, hbB, k0, k1⟩ := CrL.at_ (HS.out.step hb0) hx
          subst hA
          have hox := HO.out x (List.mem_of_getElem? hx)
          obtain ⟨m, u⟩ := x
          dsimp only at k0 k1
          obtain ⟨g1, g2, g3, g4⟩ := okC_iff.1 hox
          dsimp only at g1 g2 g3 g4
          have CL := Lib.hid (fun w => rLeftC_any m u (by omega) (by omega) (by omega) w)
          have hz := lf_nonneg (m, u)
          generalize lfC (m, u) = lf at CL hz hrel2
          have j1 : (0 : Int) ≤ (i : Int) := by omega
          have j2 : (i : Int) < (X.length : Int) := by omega
          have j3 : (k : Int) < (X.length : Int) := by omega
          by_cases hc : 0 < lf
          · rw [if_pos hc] at hrel2
            have q9 : decide (0 < lf) = true := decide_eq_true hc
            have HF := Lib.hid hrel2
            clear hrel2 hx hxi hkg hb0 hbB hat hun hi hox g1 g2 g3 g4 hz hc hfr
            go_wp2_with fail
            refine (CL.out _).mono ?_
            rintro e w1 ⟨rfl, hb1⟩
            have B1 := Lib.hid (stepB HB.out hb1)
            clear hb1 k0 k1
            go_wp2_with fail
            go_ret2
            rw [← HF.out]
            exact ⟨rfl, B1.out⟩
          · rw [if_neg hc] at hrel2
            have q9 : decide (0 < lf) = false := decide_eq_false hc
            have HF := Lib.hid hrel2
            clear hrel2 hx hxi hkg hb0 hbB hat hun hi hox g1 g2 g3 g4 hz hc hfr
            go_wp2_with fail
            refine (CL.out _).mono ?_
            rintro e w1 ⟨rfl, hb1⟩
            have B1 := Lib.hid (stepB HB.out hb1)
            clear hb1 k0 k1
            go_wp2_with fail
            go_roundg g
            case measure => omega
            case rel => exact ⟨k + 1, by have := HG.out; omega, by first | rfl | exact nxt k (by have := HG.out; omega), HF.out, B1.out⟩
  · have q1 : decide (0 ≤ last) = false := decide_eq_false c1
    have ef : frC X.length last = 0 := by unfold frC; rw [if_neg (by omega)]
    rw [ef] at HR
    clear c1 h1 h2 ef
    go_enter Try.func22, Try.ntmps22
    go_wp2_with fail
    go_loopg [7] X.length (fun g v wr => ∃ k : Nat, k + g = X.length ∧ v = .int .i64 k ∧ nxF X 0 g k = R ∧ Below w.heap.size w wr)
    case atStart => exact ⟨0, by omega, rfl, HR.out, Below.refl _ _⟩
    case round =>
      obtain ⟨k, hkg, rfl, hrel, hb0⟩ := hrel
      have HREL := Lib.hid hrel
      have HG := Lib.hid hkg
      have HB := Lib.hid hb0
      clear hrel HR
      cases gk with
      | zero =>
        obtain rfl : k = X.length := by omega
        have HF : Hid (none = R) := Lib.hid HREL.out
        have e3 : decide ((X.length : Int) < (X.length : Int)) = false := decide_eq_false (by omega)
        clear hkg hb0
        go_wp2_with fail
        go_ret2
        rw [← HF.out]
        exact ⟨rfl, HB.out⟩
      | succ g =>
        have hlt : k < X.length := by omega
        have hn0 : 0 < X.length := by omega
        have e3 : decide ((k : Int) < (X.length : Int)) = true := decide_eq_true (by omega)
        have hil : (0 + k) % X.length < X.length := Nat.mod_lt _ hn0
        have u1 : wrap64 (k : Int) = (k : Int) := wrap64_id _ (by omega) (by omega)
        have u2 : Int.tmod (k : Int) (X.length : Int) = (((0 + k) % X.length : Nat) : Int) := by rw [Int.tmod_eq_emod_of_nonneg (by omega), Int.natCast_emod]; simp
        have u3 : ¬ ((X.length : Int) = 0) := by omega
        have hat : atC X ((0 + k) % X.length) = X[(0 + k) % X.length] := by unfold atC; rw [List.getD_eq_getElem?_getD, List.getElem?_eq_getElem hil]; rfl
        have hun : nxF X 0 (g + 1) k = if 0 < lfC (atC X ((0 + k) % X.length)) then some ((0 + k) % X.length) else nxF X 0 g (k + 1) := rfl
        have hrel2 := HREL.out
        rw [hun, hat] at hrel2
        generalize hi : (0 + k) % X.length = i at hil u2 hrel2
        obtain ⟨x, hx⟩ : ∃ x, X[i]? = some x := ⟨_, List.getElem?_eq_getElem hil⟩
        have hxi : X[i] = x := by rw [List.getElem?_eq_getElem hil] at hx; exact Option.some.inj hx
        rw [hxi] at hrel2
        obtain ⟨b, o, hA, hbB, k0, k1⟩ := CrL.at_ (HS.out.step hb0) hx
        subst hA
        have hox := HO.out x (List.mem_of_getElem? hx)
        obtain ⟨m, u⟩ := x
        dsimp only at k0 k1
        obtain ⟨g1, g2, g3, g4⟩ := okC_iff.1 hox
        dsimp only at g1 g2 g3 g4
        have CL := Lib.hid (fun w => rLeftC_any m u (by omega) (by omega) (by omega) w)
        have hz := lf_nonneg (m, u)
        generalize lfC (m, u) = lf at CL hz hrel2
        have j1 : (0 : Int) ≤ (i : Int) := by omega
        have j2 : (i : Int) < (X.length : Int) := by omega
        have j3 : (k : Int) < (X.length : Int) := by omega
        by_cases hc : 0 < lf
        · rw [if_pos hc] at hrel2
          have q9 : decide (0 < lf) = true := decide_eq_true hc
          have HF := Lib.hid hrel2
          clear hrel2 hx hxi hkg hb0 hbB hat hun hi hox g1 g2 g3 g4 hz hc hfr
          go_wp2_with fail
          refine (CL.out _).mono ?_
          rintro e w1 ⟨rfl, hb1⟩
          have B1 := Lib.hid (stepB HB.out hb1)
          clear hb1 k0 k1
          go_wp2_with fail
          go_ret2
          rw [← HF.out]
          exact ⟨rfl, B1.out⟩
        · rw [if_neg hc] at hrel2
          have q9 : decide (0 < lf) = false := decide_eq_false hc
          have HF := Lib.hid hrel2
          clear hrel2 hx hxi hkg hb0 hbB hat hun hi hox g1 g2 g3 g4 hz hc hfr
          go_wp2_with fail
          refine (CL.out _).mono ?_
          rintro e w1 ⟨rfl, hb1⟩
          have B1 := Lib.hid (stepB HB.out hb1)
          clear hb1 k0 k1
          go_wp2_with fail
          go_roundg g
          case measure => omega
          case rel => exact ⟨k + 1, by have := HG.out; omega, by first | rfl | exact nxt k (by have := HG.out; omega), HF.out, B1.out⟩
def vlC (X : List (Int × Int)) : Bool := decide (X.length ≤ 40) && X.all okC
theorem vlC_iff {X : List (Int × Int)} : vlC X = true ↔ X.length ≤ 40 ∧ ∀ x ∈ X, okC x = true := by
  unfold vlC
  rw [Bool.and_eq_true, decide_eq_true_eq, List.all_eq_true]
theorem dropC {X : List (Int × Int)} {k : Nat} {x : Int × Int} (hx : X[k]? = some x) : X.drop k = x :: X.drop (k + 1) := by
  obtain ⟨h, rfl⟩ := List.getElem?_eq_some_iff.1 hx
  exact List.drop_eq_getElem_cons h
set_option maxRecDepth 20000 in
set_option maxHeartbeats 4000000 in
theorem valid16_any (A : Option Addr) (c : Nat) (X : List (Int × Int)) (w : World) (hsl : CrL w w.heap.size A X) (hX : X.length ≤ 9223372036854775807) :
    Calls Try.prog 20 #[.slice A X.length c] w fun e w' => e = .returned (.bool (vlC X)) ∧ Below w.heap.size w w' := by
  unfold vlC
  by_cases h40 : 40 < X.length
  · rw [decide_eq_false (by omega), Bool.false_and]
    have q : decide ((40 : Int) < (X.length : Int)) = true := decide_eq_true (by omega)
    have qn : decide (40 < X.length) = true := decide_eq_true h40
    clear hsl h40
    go_enter Try.func20, Try.ntmps20
    go_wp2_with fail
    go_ret
    exact ⟨rfl, Below.refl _ _⟩
  rw [decide_eq_true (by omega), Bool.true_and]
  have q : decide ((40 : Int) < (X.length : Int)) = false := decide_eq_false (by omega)
  have qn : decide (40 < X.length) = false := decide_eq_false h40
  have HS := Lib.hid hsl
  obtain ⟨R, hR⟩ : ∃ R, X.all okC = R := ⟨_, rfl⟩
  rw [hR]
  have HR := Lib.hid hR
  clear hR hsl h40
  go_enter Try.func20, Try.ntmps20
  go_wp2_with fail
  go_loopg [3] X.length (fun g v wr => ∃ k : Nat, k + g = X.length ∧ v = .int .i64 k ∧ R = (X.drop k).all okC ∧ Below w.heap.size w wr)
  case atStart => exact ⟨0, by omega, rfl, by rw [List.drop_zero]; exact HR.out.symm, Below.refl _ _⟩
  case round =>
    obtain ⟨k, hkg, rfl, hrel, hb0⟩ := hrel
    have HREL := Lib.hid hrel
    have HG := Lib.hid hkg
    have HB := Lib.hid hb0
    clear hrel HR
    cases gk with
    | zero =>
      obtain rfl : k = X.length := by omega
      have HF : Hid (R = true) := Lib.hid (by rw [HREL.out, List.drop_length]; rfl)
      have e3 : decide ((X.length : Int) < (X.length : Int)) = false := decide_eq_false (by omega)
      clear hkg hb0
      go_wp2_with fail
      go_ret
      exact ⟨retb HF.out.symm, HB.out⟩
    | succ g =>
      have hlt : k < X.length := by omega
      have e3 : decide ((k : Int) < (X.length : Int)) = true := decide_eq_true (by omega)
      obtain ⟨x, hx⟩ : ∃ x, X[k]? = some x := ⟨_, List.getElem?_eq_getElem hlt⟩
      obtain ⟨b, o, hA, hbB, k0, k1⟩ := CrL.at_ (HS.out.step hb0) hx
      subst hA
      have hrel2 := HREL.out
      rw [dropC hx, List.all_cons] at hrel2
      obtain ⟨m, u⟩ := x
      dsimp only at k0 k1
      have CV := Lib.hid (fun w => rValidC_any m u w)
      generalize okC (m, u) = y at CV hrel2
      have j1 : (0 : Int) ≤ (k : Int) := by omega
      have j2 : (k : Int) < (X.length : Int) := by omega
      have HF := Lib.hid hrel2
      clear hrel2 hx hkg hb0 hbB hlt
      cases y
      · go_wp2_with fail
        refine (CV.out _).mono ?_
        rintro e w1 ⟨rfl, hb1⟩
        have B1 := Lib.hid (stepB HB.out hb1)
        clear hb1 k0 k1
        go_wp2_with fail
        go_ret
        exact ⟨retb (by rw [HF.out]; rfl), B1.out⟩
      · go_wp2_with fail
        refine (CV.out _).mono ?_
        rintro e w1 ⟨rfl, hb1⟩
        have B1 := Lib.hid (stepB HB.out hb1)
        clear hb1 k0 k1
        go_wp2_with fail
        go_roundg g
        case measure => omega
        case rel => exact ⟨k + 1, by have := HG.out; omega, by first | rfl | exact nxt k (by have := HG.out; omega), by rw [HF.out]; rfl, B1.out⟩
end Go.Proofs.Ytomlideijhejfab
