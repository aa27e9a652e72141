/-
  Small functions of access and of its specification: whom a rule is for, which levels are replaced, what is light. Conditions: as in each theorem.
-/
import Derived.Test.YtoakhkiiefiebaaDoorAcG
namespace Go.Proofs.YtoakhkiiefiebaaDoor.S1
open Go.RowKit
open S2 (BK Put)

theorem eqC (x : ByteArray) (l : List UInt8) : (x.toList == l) = decide (x = bs l) := by
  by_cases h : x = bs l
  · rw [decide_eq_true h, beq_iff_eq]; exact tl_of h
  · rw [decide_eq_false h, beq_eq_false_iff_ne]; exact tl_ne h
theorem eqI (a b : Int) : (a == b) = decide (a = b) := by
  rw [Bool.eq_iff_iff, decide_eq_true_eq, beq_iff_eq]
def repB (x : ByteArray) : Bool := decide (x = pcB) || decide (x = puB)
theorem fixB_rep (f : ByteArray) : fixB f = !((lvB f).any repB) := by
  unfold fixB repB
  rw [← List.not_any_eq_all_not]

set_option maxHeartbeats 4000000 in
theorem isFor_any (x : Rl) (us : ByteArray) (ac : Int) (w : World) :
    Calls Tryd.prog 59 #[rlV x, .string us, .int .i64 ac] w fun e w' => e = .returned (.bool (forR x us ac)) ∧ Below w.heap.size w w' := by
  obtain ⟨al, u, n, fi⟩ := x
  have q1 : (u.toList == [42]) = decide (u = starB) := eqC u [42]
  have q2 : (u.toList == us.toList) = decide (u = us) := str_dec u us
  have q3 : (n == 0) = decide (n = 0) := eqI n 0
  have q4 : (n == ac) = decide (n = ac) := eqI n ac
  unfold forR rlV gR
  have HB := Lib.hid (S2.below_new w (.cells #[.bool al, .string u, .int .i64 n, .string fi] 42))
  generalize decide (u = starB) = b1 at *
  generalize decide (u = us) = b2 at *
  generalize decide (n = 0) = b3 at *
  generalize decide (n = ac) = b4 at *
  cases b1 <;> cases b2 <;> cases b3 <;> cases b4
  all_goals
    go_enter Tryd.func59, Tryd.ntmps59
    go_wp2
    go_ret
    exact ⟨rfl, HB.out⟩
set_option maxHeartbeats 4000000 in
theorem applies_any (x : Rl) (us : ByteArray) (ac : Int) (w : World) :
    Calls Tryd.prog 37 #[rlV x, .string us, .int .i64 ac] w fun e w' => e = .returned (.bool (forR x us ac)) ∧ Below w.heap.size w w' := by
  obtain ⟨al, u, n, fi⟩ := x
  have q1 : (u.toList == [42]) = decide (u = starB) := eqC u [42]
  have q2 : (u.toList == us.toList) = decide (u = us) := str_dec u us
  have q3 : (n == 0) = decide (n = 0) := eqI n 0
  have q4 : (n == ac) = decide (n = ac) := eqI n ac
  unfold forR rlV gR
  have HB := Lib.hid (S2.below_new w (.cells #[.bool al, .string u, .int .i64 n, .string fi] 42))
  generalize decide (u = starB) = b1 at *
  generalize decide (u = us) = b2 at *
  generalize decide (n = 0) = b3 at *
  generalize decide (n = ac) = b4 at *
  cases b1 <;> cases b2 <;> cases b3 <;> cases b4
  all_goals
    go_enter Tryd.func37, Tryd.ntmps37
    go_wp2
    go_ret
    exact ⟨rfl, HB.out⟩
theorem fixed1_any (x : ByteArray) (w : World) :
    Calls Tryd.prog 77 #[.string x] w fun e w' => e = .returned (.bool (repB x)) ∧ w' = w := by
  have q1 : (x.toList == [37, 99]) = decide (x = pcB) := eqC x [37, 99]
  have q2 : (x.toList == [37, 117]) = decide (x = puB) := eqC x [37, 117]
  unfold repB
  generalize decide (x = pcB) = b1 at *
  generalize decide (x = puB) = b2 at *
  cases b1 <;> cases b2
  all_goals
    go_enter Tryd.func77, Tryd.ntmps77
    go_wp2
    go_ret
    exact ⟨rfl, rfl⟩
/-- a place that a search answers -/
def RetIx (b : Bool) (w : World) (e : Ending) (w' : World) : Prop := ∃ k : Int, e = .returned (.int .i64 k) ∧ decide (0 ≤ k) = b ∧ w' = w

set_option maxHeartbeats 1000000 in
theorem idxS_any (A : Option Addr) (c : Nat) (xs : List ByteArray) (w : World) (h : SL w w.heap.size A xs) (hn : xs.length ≤ 1000000) :
    Calls Tryd.prog 87 #[.slice A xs.length c, .func (.func 77) #[] #[]] w (RetIx (xs.any repB) w) := by
  have HS := Lib.hid h
  have HC := Lib.hid fixed1_any
  obtain ⟨R, hR⟩ : ∃ R, xs.any repB = R := ⟨_, rfl⟩
  rw [hR]
  have HR : Hid (R = (xs.drop 0).any repB) := Lib.hid (by rw [List.drop_zero]; exact hR.symm)
  clear h hR
  go_enter Tryd.func87, Tryd.ntmps87
  go_wp2
  go_loopg [8] xs.length (fun g v wr => ∃ k : Nat, k + g = xs.length ∧ v = .int .i64 k ∧ R = (xs.drop k).any repB ∧ wr = w)
  case atStart => exact ⟨0, by omega, rfl, HR.out, rfl⟩
  case round =>
    obtain ⟨k, hkg, rfl, hrel, rfl⟩ := hrel
    have HREL := Lib.hid hrel
    have HG := Lib.hid hkg
    clear hrel HR
    cases gk with
    | zero =>
      obtain rfl : k = xs.length := by omega
      have HF : Hid (R = false) := Lib.hid (by rw [HREL.out, List.drop_length]; rfl)
      clear hkg
      go_wp2
      go_ret
      exact ⟨-1, rfl, by rw [HF.out]; decide, rfl⟩
    | succ g =>
      have hlt : k < xs.length := by omega
      have e3 : decide ((k : Int) < (xs.length : Int)) = true := decide_eq_true (by omega)
      obtain ⟨x, hx⟩ : ∃ x, xs[k]? = some x := ⟨_, List.getElem?_eq_getElem hlt⟩
      obtain ⟨b, o, hA, hbB, hcl⟩ := HS.out (by omega)
      have kv := hcl k x hx
      subst hA
      have j1 : (0 : Int) ≤ (k : Int) := by omega
      have j2 : (k : Int) < (xs.length : Int) := by omega
      have HD := Lib.hid (drop_at hx)
      clear hx hkg hlt hbB hcl
      go_wp2_with fail
      refine (HC.out x _).mono ?_
      rintro e w1 ⟨rfl, rfl⟩
      cases hb : repB x with
      | true =>
        have HF : Hid (R = true) := Lib.hid (by rw [HREL.out, HD.out, List.any_cons, hb]; rfl)
        clear hb
        go_wp2
        go_ret
        exact ⟨k, rfl, by rw [HF.out]; exact decide_eq_true (by omega), rfl⟩
      | false =>
        have HF : Hid (R = (xs.drop (k + 1)).any repB) := Lib.hid (by rw [HREL.out, HD.out, List.any_cons, hb, Bool.false_or])
        clear hb
        go_wp2
        go_roundg g
        case measure => omega
        case rel => exact ⟨k + 1, by have := HG.out; omega, rfl, HF.out, rfl⟩
theorem conS_any (A : Option Addr) (c : Nat) (xs : List ByteArray) (w : World) (h : SL w w.heap.size A xs) (hn : xs.length ≤ 1000000) :
    Calls Tryd.prog 76 #[.slice A xs.length c, .func (.func 77) #[] #[]] w fun e w' => e = .returned (.bool (xs.any repB)) ∧ w' = w := by
  have HC := Lib.hid (idxS_any A c xs w h hn)
  obtain ⟨R, hR⟩ : ∃ R, xs.any repB = R := ⟨_, rfl⟩
  rw [hR] at HC ⊢
  clear h hR
  go_enter Tryd.func76, Tryd.ntmps76
  go_wp2_with fail
  refine HC.out.mono ?_
  rintro e w1 ⟨k, rfl, hk, rfl⟩
  subst hk
  go_wp2
  go_ret
  exact ⟨by simp, rfl⟩
theorem fixed_any (f : ByteArray) (w : World) (hw : Okw w) (hf : f.size ≤ 1000) :
    Calls Tryd.prog 66 #[.string f] w fun e w' => e = .returned (.bool (fixB f)) ∧ Below w.heap.size w w' := by
  have H1 := Lib.hid (tLevels_any f w hw (by omega))
  have hlen := lvs_le hf
  rw [fixB_rep]
  have H2 := Lib.hid (fun A c w1 h => conS_any A c (lvB f) w1 h (by omega))
  generalize lvB f = xs at *
  obtain ⟨R, hR⟩ : ∃ R, xs.any repB = R := ⟨_, rfl⟩
  rw [hR] at H2 ⊢
  clear hw hf hR hlen
  go_enter Tryd.func66, Tryd.ntmps66
  go_wp2_with fail
  refine H1.out.mono ?_
  rintro e w1 ⟨A, c, rfl, hc, hsl, hb⟩
  have HB := Lib.hid hb
  have HS := Lib.hid hsl
  clear hc hsl hb
  go_wp2_with fail
  refine (H2.out A c w1 HS.out).mono ?_
  rintro e w2 ⟨rfl, rfl⟩
  cases R
  all_goals
    go_wp2
    go_ret
    exact ⟨rfl, HB.out⟩
set_option maxHeartbeats 1000000 in
theorem plain20_any (f : ByteArray) (w : World) (hf : f.size ≤ 1000) :
    Calls Tryd.prog 67 #[.string f] w fun e w' => e = .returned (.bool (fixB f)) ∧ Below w.heap.size w w' := by
  have H1 := Lib.hid (rLevels_any f w (by omega))
  have hlen := lvs_le hf
  rw [fixB_rep]
  generalize lvB f = xs at *
  obtain ⟨R, hR⟩ : ∃ R, xs.any repB = R := ⟨_, rfl⟩
  rw [hR]
  have HR : Hid (R = (xs.drop 0).any repB) := Lib.hid (by rw [List.drop_zero]; exact hR.symm)
  clear hf hR
  go_enter Tryd.func67, Tryd.ntmps67
  go_wp2_with fail
  refine H1.out.mono ?_
  rintro e w1 ⟨A, c, rfl, hc, hsl, hb⟩
  have HB := Lib.hid hb
  have HS := Lib.hid hsl
  clear hc hsl hb H1
  go_wp2_with fail
  go_loopg [4] xs.length (fun g v wr => ∃ k : Nat, k + g = xs.length ∧ v = .int .i64 k ∧ R = (xs.drop k).any repB ∧ wr = w1)
  case atStart => exact ⟨0, by omega, rfl, HR.out, rfl⟩
  case round =>
    obtain ⟨k, hkg, rfl, hrel, rfl⟩ := hrel
    have HREL := Lib.hid hrel
    have HG := Lib.hid hkg
    clear hrel HR
    cases gk with
    | zero =>
      obtain rfl : k = xs.length := by omega
      have HF : Hid (R = false) := Lib.hid (by rw [HREL.out, List.drop_length]; rfl)
      clear hkg
      go_wp2
      go_ret
      exact ⟨retb (by rw [HF.out]; rfl), HB.out⟩
    | succ g =>
      have hlt : k < xs.length := by omega
      have e3 : decide ((k : Int) < (xs.length : Int)) = true := decide_eq_true (by omega)
      obtain ⟨x, hx⟩ : ∃ x, xs[k]? = some x := ⟨_, List.getElem?_eq_getElem hlt⟩
      obtain ⟨b, o, hA, hbB, hcl⟩ := HS.out (by omega)
      have kv := hcl k x hx
      subst hA
      have j1 : (0 : Int) ≤ (k : Int) := by omega
      have j2 : (k : Int) < (xs.length : Int) := by omega
      have HD := Lib.hid (drop_at hx)
      clear hx hkg hlt hbB hcl
      have q1 : (x.toList == [37, 99]) = decide (x = pcB) := eqC x [37, 99]
      have q2 : (x.toList == [37, 117]) = decide (x = puB) := eqC x [37, 117]
      have HP : Hid (repB x = (decide (x = pcB) || decide (x = puB))) := Lib.hid rfl
      generalize decide (x = pcB) = b1 at *
      generalize decide (x = puB) = b2 at *
      cases b1 <;> cases b2
      case false.false =>
        have HF : Hid (R = (xs.drop (k + 1)).any repB) := Lib.hid (by rw [HREL.out, HD.out, List.any_cons, HP.out]; rfl)
        go_wp2
        go_roundg g
        case measure => omega
        case rel => exact ⟨k + 1, by have := HG.out; omega, rfl, HF.out, rfl⟩
      all_goals
        have HF : Hid (R = true) := Lib.hid (by rw [HREL.out, HD.out, List.any_cons, HP.out]; rfl)
        go_wp2
        go_ret
        exact ⟨retb (by rw [HF.out]; rfl), HB.out⟩
def whV (c u : ByteArray) : Value := .agg #[.string c, .string u]
def lightW (c u s : ByteArray) : Bool := decide (c.size ≤ 64) && decide (u.size ≤ 64) && decide (s.size ≤ 1000)
theorem light_iff {c u s : ByteArray} : lightW c u s = true ↔ c.size ≤ 64 ∧ u.size ≤ 64 ∧ s.size ≤ 1000 := by
  unfold lightW
  simp [and_assoc]
theorem leqN (n m : Nat) : decide ((n : Int) ≤ (m : Int)) = decide (n ≤ m) := by
  rw [Bool.eq_iff_iff, decide_eq_true_eq, decide_eq_true_eq]; omega
set_option maxHeartbeats 1000000 in
theorem light_any (c u s : ByteArray) (w : World) :
    Calls Tryd.prog 14 #[whV c u, .string s] w fun e w' => e = .returned (.bool (lightW c u s)) ∧ Below w.heap.size w w' := by
  unfold whV lightW
  have HB := Lib.hid (S2.below_new w (.cells #[.string c, .string u] 28))
  have q1 : decide ((c.size : Int) ≤ 64) = decide (c.size ≤ 64) := leqN _ 64
  have q2 : decide ((u.size : Int) ≤ 64) = decide (u.size ≤ 64) := leqN _ 64
  have q3 : decide ((s.size : Int) ≤ 1000) = decide (s.size ≤ 1000) := leqN _ 1000
  by_cases h1 : c.size ≤ 64 <;> by_cases h2 : u.size ≤ 64 <;> by_cases h3 : s.size ≤ 1000
  all_goals
    go_enter Tryd.func14, Tryd.ntmps14
    go_wp2
    go_ret
    exact ⟨by simp [h1, h2, h3], HB.out⟩
end Go.Proofs.YtoakhkiiefiebaaDoor.S1
