/-
  LimitsBound answers true, walked. Conditions: the numbers fit an int; the list reads as data.
-/
import Derived.Test.YtmcocepjdhpecaaLiV
import Derived.Test.YtmcocepjdhpecaaRow
namespace Go.Proofs.Ytmcocepjdhpecaa
open Go.RowKit

/-- a call of Take, as it lies in memory -/
def gOp (x : Nat × Int) : List Value := [.int .u16 (x.1 : Int), .int .i64 x.2]
abbrev OL (w : World) (B : Nat) (A : Option Addr) (X : List (Nat × Int)) : Prop := GL gOp 2 w B A X
theorem OL.at_ {w : World} {B : Nat} {A : Option Addr} {X : List (Nat × Int)} (h : OL w B A X) {j : Nat} {x : Nat × Int} (hx : X[j]? = some x) :
    ∃ b o, A = some ⟨b, o, none⟩ ∧ b < B ∧ w.cell? ⟨b, o + j * 2, none⟩ = some (.int .u16 (x.1 : Int)) ∧ w.cell? ⟨b, o + j * 2 + 1, none⟩ = some (.int .i64 x.2) := by
  obtain ⟨b, o, e, hb, hc⟩ := h (Nat.lt_of_le_of_lt (Nat.zero_le _) (List.getElem?_eq_some_iff.1 hx).1)
  exact ⟨b, o, e, hb, hc j x 0 _ hx rfl, hc j x 1 _ hx rfl⟩

/-- what is added from one instant to a later one -/
def addL (r t now n2 : Int) : Int := if t < n2 then r * (n2 - (if now < t then t else now)) else 0
theorem tok_step {r b v t now n2 : Int} (h : okL r b v t) (hn : now ≤ n2) : tokL r b v t n2 ≤ tokL r b v t now + addL r t now n2 ∧ 0 ≤ addL r t now n2 := by
  unfold addL
  by_cases h1 : t < n2
  · rw [if_pos h1, tok_min h (by omega : t ≤ n2)]
    by_cases h2 : now < t
    · rw [if_pos h2, tok_before (by omega : now ≤ t)]
      have := Int.mul_nonneg h.1 (by omega : 0 ≤ n2 - t)
      omega
    · rw [if_neg h2, tok_min h (by omega : t ≤ now)]
      have e : r * (n2 - t) = r * (now - t) + r * (n2 - now) := by rw [← Int.mul_add]; congr 1; omega
      have := Int.mul_nonneg h.1 (by omega : 0 ≤ n2 - now)
      omega
  · rw [if_neg h1, tok_before (by omega : n2 ≤ t), tok_before (by omega : now ≤ t)]
    omega
theorem addL_le {r t now n2 : Int} (_h0 : 0 ≤ r) (h1 : r ≤ 1000000) (hn : now ≤ n2) (hd : n2 - now ≤ 65535) : addL r t now n2 ≤ 65535000000 := by
  unfold addL
  split
  · next h =>
    have key : ∀ x : Int, 0 ≤ x → x ≤ 65535 → r * x ≤ 65535000000 := fun x hx1 hx2 => by
      have a1 : r * x ≤ 1000000 * x := Int.mul_le_mul_of_nonneg_right h1 hx1
      omega
    split
    · exact key _ (by omega) (by omega)
    · exact key _ (by omega) (by omega)
  · omega
/-- what holds at each round -/
structure BndI (r b v t now taken added : Int) (k : Nat) : Prop where
  ok : okL r b v t
  r1 : r ≤ 1000000
  n0 : 0 ≤ now
  n1 : now ≤ 549755813888 + 65535 * k
  t0 : 0 ≤ taken
  le : taken + tokL r b v t now ≤ added
  a1 : added ≤ 1099511627776 + 65535000000 * k
theorem BndI.step {r b v t now taken added : Int} {k : Nat} (h : BndI r b v t now taken added k) (d : Nat) (hd : d ≤ 65535) (hk : k < 60) (n : Int) :
    okL r b (takeL r b v t (now + d) n).1 (lastL t (now + d)) ∧
    (∀ ok, (takeL r b v t (now + d) n).2 = ok → BndI r b (takeL r b v t (now + d) n).1 (lastL t (now + d)) (now + d) (if ok then taken + n else taken) (added + addL r t now (now + d)) (k + 1) ∧
      (ok = true → 0 ≤ n ∧ n ≤ b) ∧ (if ok then taken + n else taken) ≤ added + addL r t now (now + d) ∧ 0 ≤ (takeL r b v t (now + d) n).1 ∧ (takeL r b v t (now + d) n).1 ≤ b ∧ now + d ≤ lastL t (now + d)) := by
  obtain ⟨ok0, r1, n0, n1, t0, le, a1⟩ := h
  have n2 : now + (d : Int) ≤ 1099511627776 := by omega
  have hs := tok_step ok0 (by omega : now ≤ now + (d : Int))
  have ha := addL_le (t := t) ok0.1 r1 (by omega : now ≤ now + (d : Int)) (by omega)
  have hr := tok_range (now := now + (d : Int)) ok0
  have hok := take_ok (n := n) ok0 (by omega : 0 ≤ now + (d : Int)) n2
  have hlast : now + (d : Int) ≤ lastL t (now + d) := by unfold lastL; split <;> omega
  have hv0 := ok0.2.2.2.2.1
  refine ⟨hok, fun ok h => ?_⟩
  have hb : tokL r b (takeL r b v t (now + d) n).1 (lastL t (now + d)) (now + d) = (takeL r b v t (now + d) n).1 := tok_before hlast
  have hl0 := hok.2.2.2.2.1
  have hl1 := hok.2.2.2.2.2.1
  by_cases hc : n < 0 ∨ tokL r b v t (now + d) < n
  · have e : takeL r b v t (now + d) n = (tokL r b v t (now + d), false) := by unfold takeL; rw [if_pos hc]
    have hf : ok = false := by rw [← h, e]
    subst hf
    rw [e] at hok hb hl0 hl1 ⊢
    dsimp only at hok hb hl0 hl1 ⊢
    rw [if_neg (by simp)]
    refine ⟨⟨hok, r1, by omega, by omega, t0, ?_, by omega⟩, fun h => by simp at h, by omega, hl0, hl1, hlast⟩
    rw [hb]; omega
  · have e : takeL r b v t (now + d) n = (tokL r b v t (now + d) - n, true) := by unfold takeL; rw [if_neg hc]
    have hf : ok = true := by rw [← h, e]
    subst hf
    rw [e] at hok hb hl0 hl1 ⊢
    dsimp only at hok hb hl0 hl1 ⊢
    rw [if_pos rfl]
    refine ⟨⟨hok, r1, by omega, by omega, by omega, ?_, by omega⟩, fun _ => by omega, by omega, hl0, hl1, hlast⟩
    rw [hb]; omega

set_option maxRecDepth 20000 in
set_option maxHeartbeats 4000000 in
theorem limitsBound_bad0 (r b v t : Int) (now : Int) (A : Option Addr) (c : Nat) (X : List (Nat × Int)) (w : World) (hv : vbL r b v t now = false) :
    Calls Try.prog 8 #[bk r b v t, .int .i64 now, .slice A X.length c] w fun e w' => e = .returned (.bool true) ∧ Below w.heap.size w w' := by
  have HA := Lib.hid (fun w => awake21_any w)
  obtain ⟨w0, hw0⟩ : ∃ w0, w0 = w.alloc (.cells #[.int .i64 r, .int .i64 b, .int .i64 v, .int .i64 t] 23) := ⟨_, rfl⟩
  have M0 : BK 23 w0 w.heap.size [.int .i64 r, .int .i64 b, .int .i64 v, .int .i64 t] := by rw [hw0]; exact BK.new w _ _
  have hb0 : Below w.heap.size w w0 := by rw [hw0]; exact below_new w _
  have B_w0 := Lib.hid hb0
  have Mt_w0 := Lib.hid M0
  have HW0 := Lib.hid hw0
  have CV := Lib.hid (fun w => valid21_any r b v t now w)
  rw [hv] at CV
  clear hv
  clear hw0 M0 hb0
  go_enter Try.func8, Try.ntmps8
  go_upto_region 1 with fail
  rw [← HW0.out]
  clear HW0
  have dt0 := Mt_w0.out.cell 0 rfl
  have dt1 := Mt_w0.out.cell 1 rfl
  have dt2 := Mt_w0.out.cell 2 rfl
  have dt3 := Mt_w0.out.cell 3 rfl
  go_wp2_with fail
  refine (CV.out w0).mono ?_
  rintro e w1 ⟨rfl, hb⟩
  have B_w1 : Hid (Below w.heap.size w w1) := Lib.hid (stepB B_w0.out hb)
  have Mt_w1 : Hid (BK 23 w1 (w.heap.size) [.int .i64 r, .int .i64 b, .int .i64 v, .int .i64 t]) := Lib.hid (Mt_w0.out.step hb)
  clear dt0 dt1 dt2 dt3
  clear B_w0 Mt_w0
  clear hb
  have dt0 := Mt_w1.out.cell 0 rfl
  have dt1 := Mt_w1.out.cell 1 rfl
  have dt2 := Mt_w1.out.cell 2 rfl
  have dt3 := Mt_w1.out.cell 3 rfl
  go_wp2_with fail
  refine (HA.out w1).mono ?_
  rintro e w2 ⟨rfl, hb⟩
  have B_w2 : Hid (Below w.heap.size w w2) := Lib.hid (stepB B_w1.out hb)
  have Mt_w2 : Hid (BK 23 w2 (w.heap.size) [.int .i64 r, .int .i64 b, .int .i64 v, .int .i64 t]) := Lib.hid (Mt_w1.out.step hb)
  clear dt0 dt1 dt2 dt3
  clear B_w1 Mt_w1
  clear hb
  go_wp2_with fail
  go_ret
  exact ⟨rfl, B_w2.out⟩
set_option maxRecDepth 20000 in
set_option maxHeartbeats 4000000 in
theorem limitsBound_bad1 (r b v t : Int) (now : Int) (A : Option Addr) (c : Nat) (X : List (Nat × Int)) (w : World) (hv : vbL r b v t now = true) (hr : 1000000 < r) :
    Calls Try.prog 8 #[bk r b v t, .int .i64 now, .slice A X.length c] w fun e w' => e = .returned (.bool true) ∧ Below w.heap.size w w' := by
  have HA := Lib.hid (fun w => awake21_any w)
  obtain ⟨w0, hw0⟩ : ∃ w0, w0 = w.alloc (.cells #[.int .i64 r, .int .i64 b, .int .i64 v, .int .i64 t] 23) := ⟨_, rfl⟩
  have M0 : BK 23 w0 w.heap.size [.int .i64 r, .int .i64 b, .int .i64 v, .int .i64 t] := by rw [hw0]; exact BK.new w _ _
  have hb0 : Below w.heap.size w w0 := by rw [hw0]; exact below_new w _
  have B_w0 := Lib.hid hb0
  have Mt_w0 := Lib.hid M0
  have HW0 := Lib.hid hw0
  have CV := Lib.hid (fun w => valid21_any r b v t now w)
  rw [hv] at CV
  have q1 : decide (1000000 < r) = true := decide_eq_true hr
  clear hv hr
  clear hw0 M0 hb0
  go_enter Try.func8, Try.ntmps8
  go_upto_region 1 with fail
  rw [← HW0.out]
  clear HW0
  have dt0 := Mt_w0.out.cell 0 rfl
  have dt1 := Mt_w0.out.cell 1 rfl
  have dt2 := Mt_w0.out.cell 2 rfl
  have dt3 := Mt_w0.out.cell 3 rfl
  go_wp2_with fail
  refine (CV.out w0).mono ?_
  rintro e w1 ⟨rfl, hb⟩
  have B_w1 : Hid (Below w.heap.size w w1) := Lib.hid (stepB B_w0.out hb)
  have Mt_w1 : Hid (BK 23 w1 (w.heap.size) [.int .i64 r, .int .i64 b, .int .i64 v, .int .i64 t]) := Lib.hid (Mt_w0.out.step hb)
  clear dt0 dt1 dt2 dt3
  clear B_w0 Mt_w0
  clear hb
  have dt0 := Mt_w1.out.cell 0 rfl
  have dt1 := Mt_w1.out.cell 1 rfl
  have dt2 := Mt_w1.out.cell 2 rfl
  have dt3 := Mt_w1.out.cell 3 rfl
  go_wp2_with fail
  refine (HA.out w1).mono ?_
  rintro e w2 ⟨rfl, hb⟩
  have B_w2 : Hid (Below w.heap.size w w2) := Lib.hid (stepB B_w1.out hb)
  have Mt_w2 : Hid (BK 23 w2 (w.heap.size) [.int .i64 r, .int .i64 b, .int .i64 v, .int .i64 t]) := Lib.hid (Mt_w1.out.step hb)
  clear dt0 dt1 dt2 dt3
  clear B_w1 Mt_w1
  clear hb
  go_wp2_with fail
  go_ret
  exact ⟨rfl, B_w2.out⟩
set_option maxRecDepth 20000 in
set_option maxHeartbeats 4000000 in
theorem limitsBound_bad2 (r b v t : Int) (now : Int) (A : Option Addr) (c : Nat) (X : List (Nat × Int)) (w : World) (hv : vbL r b v t now = true) (hr : ¬ 1000000 < r) (hn : 549755813888 < now) :
    Calls Try.prog 8 #[bk r b v t, .int .i64 now, .slice A X.length c] w fun e w' => e = .returned (.bool true) ∧ Below w.heap.size w w' := by
  have HA := Lib.hid (fun w => awake21_any w)
  obtain ⟨w0, hw0⟩ : ∃ w0, w0 = w.alloc (.cells #[.int .i64 r, .int .i64 b, .int .i64 v, .int .i64 t] 23) := ⟨_, rfl⟩
  have M0 : BK 23 w0 w.heap.size [.int .i64 r, .int .i64 b, .int .i64 v, .int .i64 t] := by rw [hw0]; exact BK.new w _ _
  have hb0 : Below w.heap.size w w0 := by rw [hw0]; exact below_new w _
  have B_w0 := Lib.hid hb0
  have Mt_w0 := Lib.hid M0
  have HW0 := Lib.hid hw0
  have CV := Lib.hid (fun w => valid21_any r b v t now w)
  rw [hv] at CV
  have q1 : decide (1000000 < r) = false := decide_eq_false hr
  have q2 : decide (549755813888 < now) = true := decide_eq_true hn
  clear hv hr hn
  clear hw0 M0 hb0
  go_enter Try.func8, Try.ntmps8
  go_upto_region 1 with fail
  rw [← HW0.out]
  clear HW0
  have dt0 := Mt_w0.out.cell 0 rfl
  have dt1 := Mt_w0.out.cell 1 rfl
  have dt2 := Mt_w0.out.cell 2 rfl
  have dt3 := Mt_w0.out.cell 3 rfl
  go_wp2_with fail
  refine (CV.out w0).mono ?_
  rintro e w1 ⟨rfl, hb⟩
  have B_w1 : Hid (Below w.heap.size w w1) := Lib.hid (stepB B_w0.out hb)
  have Mt_w1 : Hid (BK 23 w1 (w.heap.size) [.int .i64 r, .int .i64 b, .int .i64 v, .int .i64 t]) := Lib.hid (Mt_w0.out.step hb)
  clear dt0 dt1 dt2 dt3
  clear B_w0 Mt_w0
  clear hb
  have dt0 := Mt_w1.out.cell 0 rfl
  have dt1 := Mt_w1.out.cell 1 rfl
  have dt2 := Mt_w1.out.cell 2 rfl
  have dt3 := Mt_w1.out.cell 3 rfl
  go_wp2_with fail
  refine (HA.out w1).mono ?_
  rintro e w2 ⟨rfl, hb⟩
  have B_w2 : Hid (Below w.heap.size w w2) := Lib.hid (stepB B_w1.out hb)
  have Mt_w2 : Hid (BK 23 w2 (w.heap.size) [.int .i64 r, .int .i64 b, .int .i64 v, .int .i64 t]) := Lib.hid (Mt_w1.out.step hb)
  clear dt0 dt1 dt2 dt3
  clear B_w1 Mt_w1
  clear hb
  go_wp2_with fail
  go_ret
  exact ⟨rfl, B_w2.out⟩
end Go.Proofs.Ytmcocepjdhpecaa
