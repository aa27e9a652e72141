/-
  What the program's functions on credits answer. Conditions: the credits are valid, few of them.
-/
import Derived.Test.YtomlideijhejfabFlE
import Derived.Lib.MinMax
namespace Go.Proofs.Ytomlideijhejfab
open Go.RowKit

set_option maxHeartbeats 1000000 in
theorem fWithin_any (n a b : Int) (w : World) : Calls Try.prog 26 #[.int .i64 n, .int .i64 a, .int .i64 b] w fun e w' => e = .returned (.int .i64 (max a (min n b))) ∧ w = w' := by
  go_enter Try.func26, Try.ntmps26
  go_wp2
  go_ret
  exact ⟨rfl, rfl⟩

set_option maxHeartbeats 1000000 in
theorem fLeftC_any (m u : Int) (h : -4611686018427387904 ≤ u ∧ u ≤ 4611686018427387904) (hm : -4611686018427387904 ≤ m ∧ m ≤ 4611686018427387904) (_hd : u < m → m - u ≤ 9223372036854775807) (w : World) :
    Calls Try.prog 18 #[cv m u] w fun e w' => e = .returned (.int .i64 (lfC (m, u))) ∧ Below w.heap.size w w' := by
  have HB := Lib.hid (below_new w (.cells #[.int .i64 m, .int .i64 u] 23))
  have e : lfC (m, u) = max 0 (m - u) := by unfold lfC; dsimp only; split <;> omega
  have w1 : wrap64 (m - u) = m - u := wrap64_id _ (by omega) (by omega)
  have w2 : IntKind.i64.wrap (m - u) = m - u := wrap_i64_id _ (by omega) (by omega)
  rw [e]
  clear e h hm _hd
  go_enter Try.func18, Try.ntmps18
  go_wp2
  go_ret
  exact ⟨ret_i (by first | rfl | rw [w1]), HB.out⟩

set_option maxRecDepth 20000 in
set_option maxHeartbeats 2000000 in
theorem fTakeC_any (m u : Int) (h : okC (m, u) = true) (w : World) : Calls Try.prog 11 #[cv m u] w (RetCB m (takeC m u) (decide (0 < lfC (m, u))) w) := by
  obtain ⟨g1, g2, g3, g4⟩ := okC_iff.1 h
  dsimp only at g1 g2 g3 g4
  have HL := Lib.hid (fun w => fLeftC_any m u (by omega) (by omega) (by omega) w)
  have hz := lf_nonneg (m, u)
  unfold takeC
  obtain ⟨w0, hw0⟩ : ∃ w0, w0 = (w.alloc (.cells #[.int .i64 m, .int .i64 u] 23)).alloc (.cells #[.int .i64 0, .int .i64 0] 23) := ⟨_, rfl⟩
  obtain ⟨t1, t2, _, tb⟩ := two_laid (v1 := [.int .i64 m, .int .i64 u]) (v2 := [.int .i64 0, .int .i64 0]) hw0
  have Mt_w0 := Lib.hid t1
  have Mr_w0 := Lib.hid t2
  have B_w0 := Lib.hid tb
  have Lt_r : Hid (w.heap.size < w.heap.size + 1) := Lib.hid (Nat.lt_succ_self _)
  have Zr : Hid (w.heap.size ≤ w.heap.size + 1) := Lib.hid (Nat.le_succ _)
  have HW0 := Lib.hid hw0
  clear hw0 t1 t2 tb
  by_cases hc : lfC (m, u) = 0
  · rw [if_pos hc, hc]
    rw [hc] at HL
    clear h g1 g2 g3 g4 hz hc
    go_enter Try.func11, Try.ntmps11
    go_upto_region 1 with fail
    rw [← HW0.out]
    clear HW0
    have dt0 := Mt_w0.out.cell 0 rfl
    have dt1 := Mt_w0.out.cell 1 rfl
    go_wp2_with fail
    refine (HL.out w0).mono ?_
    rintro e w1 ⟨rfl, hb⟩
    have B_w1 : Hid (Below w.heap.size w w1) := Lib.hid (stepB B_w0.out hb)
    have Mt_w1 : Hid (BK 23 w1 (w.heap.size) [.int .i64 m, .int .i64 u]) := Lib.hid (Mt_w0.out.step hb)
    have Mr_w1 : Hid (BK 23 w1 (w.heap.size + 1) [.int .i64 0, .int .i64 0]) := Lib.hid (Mr_w0.out.step hb)
    clear dt0 dt1
    clear B_w0 Mt_w0 Mr_w0
    clear hb
    have dt0 := Mt_w1.out.cell 0 rfl
    have dt1 := Mt_w1.out.cell 1 rfl
    go_wp2_with first | (refine wpList_store_all (by rfl) 23 (.tmp 2) (.tmp 7) rfl rfl (w.heap.size + 1) rfl [.int .i64 m, .int .i64 u] rfl 23 [.int .i64 0, .int .i64 0] Mr_w1.out infoC2 rfl (all_one rfl) ?_; intro w2 hM hP; have Mr_w2 : Hid (BK 23 w2 (w.heap.size + 1) [.int .i64 m, .int .i64 u]) := Lib.hid hM; have B_w2 : Hid (Below w.heap.size w w2) := Lib.hid (hP.below B_w1.out Zr.out); have Mt_w2 : Hid (BK 23 w2 (w.heap.size) [.int .i64 m, .int .i64 u]) := Lib.hid (hP.other Mt_w1.out (Nat.ne_of_lt Lt_r.out)); clear B_w1 Mt_w1 Mr_w1 hM hP dt0 dt1)
    exact bodyPost_ret (v := .tuple #[.agg #[.int .i64 m, .int .i64 u], .bool false]) (res_cell_tmp rfl _ _ (w.heap.size + 1) 23 _ _ _ rfl rfl Mr_w2.out Try.underlying23 rfl infoC2) rfl ⟨rfl, B_w2.out⟩
  · rw [if_neg hc, decide_eq_true (by omega)]
    have q : (lfC (m, u) == 0) = false := by simp [hc]
    have q2 : wrap64 (u + 1) = u + 1 := wrap64_id _ (by omega) (by omega)
    generalize lfC (m, u) = lf at HL q
    clear h hz hc
    go_enter Try.func11, Try.ntmps11
    go_upto_region 1 with fail
    rw [← HW0.out]
    clear HW0
    have dt0 := Mt_w0.out.cell 0 rfl
    have dt1 := Mt_w0.out.cell 1 rfl
    go_wp2_with fail
    refine (HL.out w0).mono ?_
    rintro e w1 ⟨rfl, hb⟩
    have B_w1 : Hid (Below w.heap.size w w1) := Lib.hid (stepB B_w0.out hb)
    have Mt_w1 : Hid (BK 23 w1 (w.heap.size) [.int .i64 m, .int .i64 u]) := Lib.hid (Mt_w0.out.step hb)
    have Mr_w1 : Hid (BK 23 w1 (w.heap.size + 1) [.int .i64 0, .int .i64 0]) := Lib.hid (Mr_w0.out.step hb)
    clear dt0 dt1
    clear B_w0 Mt_w0 Mr_w0
    clear hb
    have dt0 := Mt_w1.out.cell 0 rfl
    have ft0 := Mt_w1.out.free 0
    have dt1 := Mt_w1.out.cell 1 rfl
    have ft1 := Mt_w1.out.free 1
    go_upto_region 4 with fail
    have Mt_w20 : BK 23 (w1.setCell ⟨w.heap.size, 1, none⟩ (.int .i64 (u + 1))) (w.heap.size) [.int .i64 m, .int .i64 (u + 1)] := Mt_w1.out.set 1 _
    have Mr_w20 : BK 23 (w1.setCell ⟨w.heap.size, 1, none⟩ (.int .i64 (u + 1))) (w.heap.size + 1) [.int .i64 0, .int .i64 0] := Mr_w1.out.other (p := ⟨w.heap.size, 1, none⟩) (by show _ ≠ _; simp) _
    have B_w20 : Below w.heap.size w (w1.setCell ⟨w.heap.size, 1, none⟩ (.int .i64 (u + 1))) := B_w1.out.setCell (p := ⟨w.heap.size, 1, none⟩) (Nat.le_refl _) _
    generalize w1.setCell ⟨w.heap.size, 1, none⟩ (.int .i64 (u + 1)) = w2 at *
    have Mt_w2 : Hid (BK 23 w2 (w.heap.size) [.int .i64 m, .int .i64 (u + 1)]) := Lib.hid Mt_w20
    have Mr_w2 : Hid (BK 23 w2 (w.heap.size + 1) [.int .i64 0, .int .i64 0]) := Lib.hid Mr_w20
    have B_w2 : Hid (Below w.heap.size w w2) := Lib.hid B_w20
    clear dt0 ft0 dt1 ft1
    clear Mt_w20 Mr_w20 B_w20 Mt_w1 Mr_w1 B_w1
    have dt0 := Mt_w2.out.cell 0 rfl
    have dt1 := Mt_w2.out.cell 1 rfl
    go_wp2_with first | (refine wpList_store_all (by rfl) 23 (.tmp 2) (.tmp 12) rfl rfl (w.heap.size + 1) rfl [.int .i64 m, .int .i64 (u + 1)] rfl 23 [.int .i64 0, .int .i64 0] Mr_w2.out infoC2 rfl (all_one rfl) ?_; intro w3 hM hP; have Mr_w3 : Hid (BK 23 w3 (w.heap.size + 1) [.int .i64 m, .int .i64 (u + 1)]) := Lib.hid hM; have B_w3 : Hid (Below w.heap.size w w3) := Lib.hid (hP.below B_w2.out Zr.out); have Mt_w3 : Hid (BK 23 w3 (w.heap.size) [.int .i64 m, .int .i64 (u + 1)]) := Lib.hid (hP.other Mt_w2.out (Nat.ne_of_lt Lt_r.out)); clear B_w2 Mt_w2 Mr_w2 hM hP dt0 dt1)
    exact bodyPost_ret (v := .tuple #[.agg #[.int .i64 m, .int .i64 (u + 1)], .bool true]) (res_cell_tmp rfl _ _ (w.heap.size + 1) 23 _ _ _ rfl rfl Mr_w3.out Try.underlying23 rfl infoC2) rfl ⟨rfl, B_w3.out⟩
set_option maxRecDepth 20000 in
set_option maxHeartbeats 2000000 in
theorem fGive_any (m u : Int) (h : okC (m, u) = true) (w : World) : Calls Try.prog 14 #[cv m u] w (RetC m (giveC u) w) := by
  obtain ⟨g1, g2, g3, g4⟩ := okC_iff.1 h
  dsimp only at g1 g2 g3 g4
  have eg : giveC u = max 0 (u - 1) := by unfold giveC; split <;> omega
  rw [eg]
  obtain ⟨w0, hw0⟩ : ∃ w0, w0 = (w.alloc (.cells #[.int .i64 m, .int .i64 u] 23)).alloc (.cells #[.int .i64 0, .int .i64 0] 23) := ⟨_, rfl⟩
  obtain ⟨t1, t2, _, tb⟩ := two_laid (v1 := [.int .i64 m, .int .i64 u]) (v2 := [.int .i64 0, .int .i64 0]) hw0
  have Mt_w0 := Lib.hid t1
  have Mr_w0 := Lib.hid t2
  have B_w0 := Lib.hid tb
  have Lt_r : Hid (w.heap.size < w.heap.size + 1) := Lib.hid (Nat.lt_succ_self _)
  have Zr : Hid (w.heap.size ≤ w.heap.size + 1) := Lib.hid (Nat.le_succ _)
  have HW0 := Lib.hid hw0
  clear hw0 t1 t2 tb
  have q2 : wrap64 (u - 1) = u - 1 := wrap64_id _ (by omega) (by omega)
  have q3 : IntKind.i64.wrap (u - 1) = u - 1 := wrap_i64_id _ (by omega) (by omega)
  clear h eg
  go_enter Try.func14, Try.ntmps14
  go_upto_region 1 with fail
  rw [← HW0.out]
  clear HW0
  have dt0 := Mt_w0.out.cell 0 rfl
  have dt1 := Mt_w0.out.cell 1 rfl
  clear dt0 dt1
  have dt0 := Mt_w0.out.cell 0 rfl
  have ft0 := Mt_w0.out.free 0
  have dt1 := Mt_w0.out.cell 1 rfl
  have ft1 := Mt_w0.out.free 1
  go_upto_region 2 with fail
  have Mt_w10 : BK 23 (w0.setCell ⟨w.heap.size, 1, none⟩ (.int .i64 (max 0 (u - 1)))) (w.heap.size) [.int .i64 m, .int .i64 (max 0 (u - 1))] := Mt_w0.out.set 1 _
  have Mr_w10 : BK 23 (w0.setCell ⟨w.heap.size, 1, none⟩ (.int .i64 (max 0 (u - 1)))) (w.heap.size + 1) [.int .i64 0, .int .i64 0] := Mr_w0.out.other (p := ⟨w.heap.size, 1, none⟩) (by show _ ≠ _; simp) _
  have B_w10 : Below w.heap.size w (w0.setCell ⟨w.heap.size, 1, none⟩ (.int .i64 (max 0 (u - 1)))) := B_w0.out.setCell (p := ⟨w.heap.size, 1, none⟩) (Nat.le_refl _) _
  generalize w0.setCell ⟨w.heap.size, 1, none⟩ (.int .i64 (max 0 (u - 1))) = w1 at *
  have Mt_w1 : Hid (BK 23 w1 (w.heap.size) [.int .i64 m, .int .i64 (max 0 (u - 1))]) := Lib.hid Mt_w10
  have Mr_w1 : Hid (BK 23 w1 (w.heap.size + 1) [.int .i64 0, .int .i64 0]) := Lib.hid Mr_w10
  have B_w1 : Hid (Below w.heap.size w w1) := Lib.hid B_w10
  clear dt0 ft0 dt1 ft1
  clear Mt_w10 Mr_w10 B_w10 Mt_w0 Mr_w0 B_w0
  have dt0 := Mt_w1.out.cell 0 rfl
  have dt1 := Mt_w1.out.cell 1 rfl
  go_wp2_with first | (refine wpList_store_all (by rfl) 23 (.tmp 2) (.tmp 8) rfl rfl (w.heap.size + 1) rfl [.int .i64 m, .int .i64 (max 0 (u - 1))] rfl 23 [.int .i64 0, .int .i64 0] Mr_w1.out infoC2 rfl (all_one rfl) ?_; intro w2 hM hP; have Mr_w2 : Hid (BK 23 w2 (w.heap.size + 1) [.int .i64 m, .int .i64 (max 0 (u - 1))]) := Lib.hid hM; have B_w2 : Hid (Below w.heap.size w w2) := Lib.hid (hP.below B_w1.out Zr.out); have Mt_w2 : Hid (BK 23 w2 (w.heap.size) [.int .i64 m, .int .i64 (max 0 (u - 1))]) := Lib.hid (hP.other Mt_w1.out (Nat.ne_of_lt Lt_r.out)); clear B_w1 Mt_w1 Mr_w1 hM hP dt0 dt1)
  exact bodyPost_ret (v := .agg #[.int .i64 m, .int .i64 (max 0 (u - 1))]) (res_cell rfl _ _ (w.heap.size + 1) 23 _ _ rfl Mr_w2.out Try.underlying23 rfl infoC2) rfl ⟨rfl, B_w2.out⟩
set_option maxRecDepth 20000 in
set_option maxHeartbeats 2000000 in
theorem fLimit_any (m u x : Int) (_h : okC (m, u) = true) (w : World) : Calls Try.prog 16 #[cv m u, .int .i64 x] w (RetC (limC x) u w) := by
  have el : limC x = max 0 (min x 1099511627776) := by unfold limC; split <;> (try split) <;> omega
  rw [el]
  clear el
  have HWI := Lib.hid (fun w => fWithin_any x 0 1099511627776 w)
  generalize max 0 (min x 1099511627776) = y at HWI
  obtain ⟨w0, hw0⟩ : ∃ w0, w0 = (w.alloc (.cells #[.int .i64 m, .int .i64 u] 23)).alloc (.cells #[.int .i64 0, .int .i64 0] 23) := ⟨_, rfl⟩
  obtain ⟨t1, t2, _, tb⟩ := two_laid (v1 := [.int .i64 m, .int .i64 u]) (v2 := [.int .i64 0, .int .i64 0]) hw0
  have Mt_w0 := Lib.hid t1
  have Mr_w0 := Lib.hid t2
  have B_w0 := Lib.hid tb
  have Lt_r : Hid (w.heap.size < w.heap.size + 1) := Lib.hid (Nat.lt_succ_self _)
  have Zr : Hid (w.heap.size ≤ w.heap.size + 1) := Lib.hid (Nat.le_succ _)
  have HW0 := Lib.hid hw0
  clear hw0 t1 t2 tb
  go_enter Try.func16, Try.ntmps16
  go_upto_region 1 with fail
  rw [← HW0.out]
  clear HW0
  have dt0 := Mt_w0.out.cell 0 rfl
  have dt1 := Mt_w0.out.cell 1 rfl
  clear dt0 dt1
  have dt0 := Mt_w0.out.cell 0 rfl
  have ft0 := Mt_w0.out.free 0
  have dt1 := Mt_w0.out.cell 1 rfl
  have ft1 := Mt_w0.out.free 1
  go_wp2_with fail
  refine (HWI.out _).mono ?_
  rintro e w' ⟨rfl, rfl⟩
  go_upto_region 2 with fail
  have Mt_w10 : BK 23 (w0.setCell ⟨w.heap.size, 0, none⟩ (.int .i64 y)) (w.heap.size) [.int .i64 y, .int .i64 u] := Mt_w0.out.set 0 _
  have Mr_w10 : BK 23 (w0.setCell ⟨w.heap.size, 0, none⟩ (.int .i64 y)) (w.heap.size + 1) [.int .i64 0, .int .i64 0] := Mr_w0.out.other (p := ⟨w.heap.size, 0, none⟩) (by show _ ≠ _; simp) _
  have B_w10 : Below w.heap.size w (w0.setCell ⟨w.heap.size, 0, none⟩ (.int .i64 y)) := B_w0.out.setCell (p := ⟨w.heap.size, 0, none⟩) (Nat.le_refl _) _
  generalize w0.setCell ⟨w.heap.size, 0, none⟩ (.int .i64 y) = w1 at *
  have Mt_w1 : Hid (BK 23 w1 (w.heap.size) [.int .i64 y, .int .i64 u]) := Lib.hid Mt_w10
  have Mr_w1 : Hid (BK 23 w1 (w.heap.size + 1) [.int .i64 0, .int .i64 0]) := Lib.hid Mr_w10
  have B_w1 : Hid (Below w.heap.size w w1) := Lib.hid B_w10
  clear dt0 ft0 dt1 ft1
  clear Mt_w10 Mr_w10 B_w10 Mt_w0 Mr_w0 B_w0
  have dt0 := Mt_w1.out.cell 0 rfl
  have dt1 := Mt_w1.out.cell 1 rfl
  go_wp2_with first | (refine wpList_store_all (by rfl) 23 (.tmp 4) (.tmp 8) rfl rfl (w.heap.size + 1) rfl [.int .i64 y, .int .i64 u] rfl 23 [.int .i64 0, .int .i64 0] Mr_w1.out infoC2 rfl (all_one rfl) ?_; intro w2 hM hP; have Mr_w2 : Hid (BK 23 w2 (w.heap.size + 1) [.int .i64 y, .int .i64 u]) := Lib.hid hM; have B_w2 : Hid (Below w.heap.size w w2) := Lib.hid (hP.below B_w1.out Zr.out); have Mt_w2 : Hid (BK 23 w2 (w.heap.size) [.int .i64 y, .int .i64 u]) := Lib.hid (hP.other Mt_w1.out (Nat.ne_of_lt Lt_r.out)); clear B_w1 Mt_w1 Mr_w1 hM hP dt0 dt1)
  exact bodyPost_ret (v := .agg #[.int .i64 y, .int .i64 u]) (res_cell rfl _ _ (w.heap.size + 1) 23 _ _ rfl Mr_w2.out Try.underlying23 rfl infoC2) rfl ⟨rfl, B_w2.out⟩
set_option maxRecDepth 20000 in
set_option maxHeartbeats 4000000 in
theorem fNext_loop (A : Option Addr) (c : Nat) (X : List (Int × Int)) (last : Int) (h1 : -9223372036854775808 ≤ last) (h2 : last ≤ 9223372036854775807) (w : World) (hsl : CrL w w.heap.size A X) (hX : X.length ≤ 1000000) (hok : ∀ x ∈ X, okC x = true) :
    Calls Try.prog 21 #[.slice A X.length c, .int .i64 last] w (RetN (nxC X last) w) := by
  have HS := Lib.hid hsl
  have HO := Lib.hid hok
  unfold nxC
  obtain ⟨R, hR⟩ : ∃ R, nxF X (frC X.length last) X.length 0 = R := ⟨_, rfl⟩
  rw [hR]
  have HR := Lib.hid hR
  have hfr : frC X.length last ≤ X.length := by unfold frC; split <;> omega
  clear hR hsl hok
  by_cases c1 : 0 ≤ last
  · have q1 : decide (0 ≤ last) = true := decide_eq_true c1
    by_cases c2 : last < (X.length : Int)
    · have q2 : decide (last < (X.length : Int)) = true := decide_eq_true c2
      have q3 : wrap64 (last + 1) = last + 1 := wrap64_id _ (by omega) (by omega)
      have ef : last + 1 = (frC X.length last : Int) := by unfold frC; rw [if_pos ⟨c1, c2⟩]; omega
      have efw : wrap64 (last + 1) = (frC X.length last : Int) := by rw [q3, ef]
      generalize frC X.length last = first at HR hfr ef efw
      clear c1 c2 h1 h2
      go_enter Try.func21, Try.ntmps21
      go_wp2_with fail
      go_loopg [21] X.length (fun g v wr => ∃ k : Nat, k + g = X.length ∧ v = .int .i64 k ∧ nxF X first g k = R ∧ Below w.heap.size w wr)
      case atStart => exact ⟨0, by omega, rfl, HR.out, Below.refl _ _⟩
      case round =>
        obtain ⟨k, hkg, rfl, hrel, hb0⟩ := hrel
        have HREL := Lib.hid hrel
        have HG := Lib.hid hkg
        have HB := Lib.hid hb0
        clear hrel HR
        cases gk with
        | zero =>
          obtain rfl : k = X.length := by omega
          have HF : Hid (none = R) := Lib.hid HREL.out
          have e3 : decide ((X.length : Int) < (X.length : Int)) = false := decide_eq_false (by omega)
          clear hkg hb0
          go_wp2_with fail
          go_ret2
          rw [← HF.out]
          exact ⟨rfl, HB.out⟩
        | succ g =>
          have hlt : k < X.length := by omega
          have hn0 : 0 < X.length := by omega
          have e3 : decide ((k : Int) < (X.length : Int)) = true := decide_eq_true (by omega)
          have hil : (first + k) % X.length < X.length := Nat.mod_lt _ hn0
          have u1 : wrap64 ((first : Int) + (k : Int)) = (first : Int) + (k : Int) := wrap64_id _ (by omega) (by omega)
          have u2 : Int.tmod ((first : Int) + (k : Int)) (X.length : Int) = (((first + k) % X.length : Nat) : Int) := by rw [Int.tmod_eq_emod_of_nonneg (by omega), Int.natCast_emod]; rw [Int.natCast_add]
          have u3 : ¬ ((X.length : Int) = 0) := by omega
          have hat : atC X ((first + k) % X.length) = X[(first + k) % X.length] := by unfold atC; rw [List.getD_eq_getElem?_getD, List.getElem?_eq_getElem hil]; rfl
          have hun : nxF X first (g + 1) k = if 0 < lfC (atC X ((first + k) % X.length)) then some ((first + k) % X.length) else nxF X first g (k + 1) := rfl
          have hrel2 := HREL.out
          rw [hun, hat] at hrel2
          generalize hi : (first + k) % X.length = i at hil u2 hrel2
          obtain ⟨x, hx⟩ : ∃ x, X[i]? = some x := ⟨_, List.getElem?_eq_getElem hil⟩
          have hxi : X[i] = x := by rw [List.getElem?_eq_getElem hil] at hx; exact Option.some.inj hx
          rw [hxi] at hrel2
          obtain ⟨b, o, hA, hbB, k0, k1⟩ := CrL.at_ (HS.out.step hb0) hx
          subst hA
          have hox := HO.out x (List.mem_of_getElem? hx)
          obtain ⟨m, u⟩ := x
          dsimp only at k0 k1
          obtain ⟨g1, g2, g3, g4⟩ := okC_iff.1 hox
          dsimp only at g1 g2 g3 g4
          have CL := Lib.hid (fun w => fLeftC_any m u (by omega) (by omega) (by omega) w)
          have hz := lf_nonneg (m, u)
          generalize lfC (m, u) = lf at CL hz hrel2
          have j1 : (0 : Int) ≤ (i : Int) := by omega
          have j2 : (i : Int) < (X.length : Int) := by omega
          have j3 : (k : Int) < (X.length : Int) := by omega
          by_cases hc : 0 < lf
          · rw [if_pos hc] at hrel2
            have q9 : decide (0 < lf) = true := decide_eq_true hc
            have HF := Lib.hid hrel2
            clear hrel2 hx hxi hkg hb0 hbB hat hun hi hox g1 g2 g3 g4 hz hc hfr
            go_wp2_with fail
            refine (CL.out _).mono ?_
            rintro e w1 ⟨rfl, hb1⟩
            have B1 := Lib.hid (stepB HB.out hb1)
            clear hb1 k0 k1
            go_wp2_with fail
            go_ret2
            rw [← HF.out]
            exact ⟨rfl, B1.out⟩
          · rw [if_neg hc] at hrel2
            have q9 : decide (0 < lf) = false := decide_eq_false hc
            have HF := Lib.hid hrel2
            clear hrel2 hx hxi hkg hb0 hbB hat hun hi hox g1 g2 g3 g4 hz hc hfr
            go_wp2_with fail
            refine (CL.out _).mono ?_
            rintro e w1 ⟨rfl, hb1⟩
            have B1 := Lib.hid (stepB HB.out hb1)
            clear hb1 k0 k1
            go_wp2_with fail
            go_roundg g
            case measure => omega
            case rel => exact ⟨k + 1, by have := HG.out; omega, by first | rfl | exact nxt k (by have := HG.out; omega), HF.out, B1.out⟩
    · have q2 : decide (last < (X.length : Int)) = false := decide_eq_false c2
      have ef : frC X.length last = 0 := by unfold frC; rw [if_neg (by omega)]
      rw [ef] at HR
      clear c1 c2 h1 h2 ef
      go_enter Try.func21, Try.ntmps21
      go_wp2_with fail
      go_loopg [21] X.length (fun g v wr => ∃ k : Nat, k + g = X.length ∧ v = .int .i64 k ∧ nxF X 0 g k = R ∧ Below w.heap.size w wr)
      case atStart => exact ⟨0, by omega, rfl, HR.out, Below.refl _ _⟩
      case round =>
        obtain ⟨k, hkg, rfl, hrel, hb0⟩ := hrel
        have HREL := Lib.hid hrel
        have HG := Lib.hid hkg
        have HB := Lib.hid hb0
        clear hrel HR
        cases gk with
        | zero =>
          obtain rfl : k = X.length := by omega
          have HF : Hid (none = R) := Lib.hid HREL.out
          have e3 : decide ((X.length : Int) < (X.length : Int)) = false := decide_eq_false (by omega)
          clear hkg hb0
          go_wp2_with fail
          go_ret2
          rw [← HF.out]
          exact ⟨rfl, HB.out⟩
        | succ g =>
          have hlt : k < X.length := by omega
          have hn0 : 0 < X.length := by omega
          have e3 : decide ((k : Int) < (X.length : Int)) = true := decide_eq_true (by omega)
          have hil : (0 + k) % X.length < X.length := Nat.mod_lt _ hn0
          have u1 : wrap64 (k : Int) = (k : Int) := wrap64_id _ (by omega) (by omega)
          have u2 : Int.tmod (k : Int) (X.length : Int) = (((0 + k) % X.length : Nat) : Int) := by rw [Int.tmod_eq_emod_of_nonneg (by omega), Int.natCast_emod]; simp
          have u3 : ¬ ((X.length : Int) = 0) := by omega
          have hat : atC X ((0 + k) % X.length) = X[(0 + k) % X.length] := by unfold atC; rw [List.getD_eq_getElem?_getD, List.getElem?_eq_getElem hil]; rfl
          have hun : nxF X 0 (g + 1) k = if 0 < lfC (atC X ((0 + k) % X.length)) then some ((0 + k) % X.length) else nxF X 0 g (k + 1) := rfl
          have hrel2 := HREL.out
          rw [hun, hat] at hrel2
          generalize hi : (0 + k) % X.length = i at hil u2 hrel2
          obtain ⟨x, hx⟩ : ∃ x, X[i]? = some x := ⟨_, List.getElem?_eq_getElem hil⟩
          have hxi : X[i] = x := by rw [List.getElem?_eq_getElem hil] at hx; exact Option.some.inj hx
          rw [hxi] at hrel2
          obtain ⟨b, o, hA, hbB, k0, k1⟩ := CrL.at_ (HS.out.step hb0) hx
          subst hA
          have hox := HO.out x (List.mem_of_getElem? hx)
          obtain ⟨m, u⟩ := x
          dsimp only at k0 k1
          obtain ⟨g1, g2, g3, g4⟩ := okC_iff.1 hox
          dsimp only at g1 g2 g3 g4
          have CL := Lib.hid (fun w => fLeftC_any m u (by omega) (by omega) (by omega) w)
          have hz := lf_nonneg (m, u)
          generalize lfC (m, u) = lf at CL hz hrel2
          have j1 : (0 : Int) ≤ (i : Int) := by omega
          have j2 : (i : Int) < (X.length : Int) := by omega
          have j3 : (k : Int) < (X.length : Int) := by omega
          by_cases hc : 0 < lf
          · rw [if_pos hc] at hrel2
            have q9 : decide (0 < lf) = true := decide_eq_true hc
            have HF := Lib.hid hrel2
            clear hrel2 hx hxi hkg hb0 hbB hat hun hi hox g1 g2 g3 g4 hz hc hfr
            go_wp2_with fail
            refine (CL.out _).mono ?_
            rintro e w1 ⟨rfl, hb1⟩
            have B1 := Lib.hid (stepB HB.out hb1)
            clear hb1 k0 k1
            go_wp2_with fail
            go_ret2
            rw [← HF.out]
            exact ⟨rfl, B1.out⟩
          · rw [if_neg hc] at hrel2
            have q9 : decide (0 < lf) = false := decide_eq_false hc
            have HF := Lib.hid hrel2
            clear hrel2 hx hxi hkg hb0 hbB hat hun hi hox g1 g2 g3 g4 hz hc hfr
            go_wp2_with fail
            refine (CL.out _).mono ?_
            rintro e w1 ⟨rfl, hb1⟩
            have B1 := Lib.hid (stepB HB.out hb1)
            clear hb1 k0 k1
            go_wp2_with fail
            go_roundg g
            case measure => omega
            case rel => exact ⟨k + 1, by have := HG.out; omega, by first | rfl | exact nxt k (by have := HG.out; omega), HF.out, B1.out⟩
  · have q1 : decide (0 ≤ last) = false := decide_eq_false c1
    have ef : frC X.length last = 0 := by unfold frC; rw [if_neg (by omega)]
    rw [ef] at HR
    clear c1 h1 h2 ef
    go_enter Try.func21, Try.ntmps21
    go_wp2_with fail
    go_loopg [21] X.length (fun g v wr => ∃ k : Nat, k + g = X.length ∧ v = .int .i64 k ∧ nxF X 0 g k = R ∧ Below w.heap.size w wr)
    case atStart => exact ⟨0, by omega, rfl, HR.out, Below.refl _ _⟩
    case round =>
      obtain ⟨k, hkg, rfl, hrel, hb0⟩ := hrel
      have HREL := Lib.hid hrel
      have HG := Lib.hid hkg
      have HB := Lib.hid hb0
      clear hrel HR
      cases gk with
      | zero =>
        obtain rfl : k = X.length := by omega
        have HF : Hid (none = R) := Lib.hid HREL.out
        have e3 : decide ((X.length : Int) < (X.length : Int)) = false := decide_eq_false (by omega)
        clear hkg hb0
        go_wp2_with fail
        go_ret2
        rw [← HF.out]
        exact ⟨rfl, HB.out⟩
      | succ g =>
        have hlt : k < X.length := by omega
        have hn0 : 0 < X.length := by omega
        have e3 : decide ((k : Int) < (X.length : Int)) = true := decide_eq_true (by omega)
        have hil : (0 + k) % X.length < X.length := Nat.mod_lt _ hn0
        have u1 : wrap64 (k : Int) = (k : Int) := wrap64_id _ (by omega) (by omega)
        have u2 : Int.tmod (k : Int) (X.length : Int) = (((0 + k) % X.length : Nat) : Int) := by rw [Int.tmod_eq_emod_of_nonneg (by omega), Int.natCast_emod]; simp
        have u3 : ¬ ((X.length : Int) = 0) := by omega
        have hat : atC X ((0 + k) % X.length) = X[(0 + k) % X.length] := by unfold atC; rw [List.getD_eq_getElem?_getD, List.getElem?_eq_getElem hil]; rfl
        have hun : nxF X 0 (g + 1) k = if 0 < lfC (atC X ((0 + k) % X.length)) then some ((0 + k) % X.length) else nxF X 0 g (k + 1) := rfl
        have hrel2 := HREL.out
        rw [hun, hat] at hrel2
        generalize hi : (0 + k) % X.length = i at hil u2 hrel2
        obtain ⟨x, hx⟩ : ∃ x, X[i]? = some x := ⟨_, List.getElem?_eq_getElem hil⟩
        have hxi : X[i] = x := by rw [List.getElem?_eq_getElem hil] at hx; exact Option.some.inj hx
        rw [hxi] at hrel2
        obtain ⟨b, o, hA, hbB, k0, k1⟩ := CrL.at_ (HS.out.step hb0) hx
        subst hA
        have hox := HO.out x (List.mem_of_getElem? hx)
        obtain ⟨m, u⟩ := x
        dsimp only at k0 k1
        obtain ⟨g1, g2, g3, g4⟩ := okC_iff.1 hox
        dsimp only at g1 g2 g3 g4
        have CL := Lib.hid (fun w => fLeftC_any m u (by omega) (by omega) (by omega) w)
        have hz := lf_nonneg (m, u)
        generalize lfC (m, u) = lf at CL hz hrel2
        have j1 : (0 : Int) ≤ (i : Int) := by omega
        have j2 : (i : Int) < (X.length : Int) := by omega
        have j3 : (k : Int) < (X.length : Int) := by omega
        by_cases hc : 0 < lf
        · rw [if_pos hc] at hrel2
          have q9 : decide (0 < lf) = true := decide_eq_true hc
          have HF := Lib.hid hrel2
          clear hrel2 hx hxi hkg hb0 hbB hat hun hi hox g1 g2 g3 g4 hz hc hfr
          go_wp2_with fail
          refine (CL.out _).mono ?_
          rintro e w1 ⟨rfl, hb1⟩
          have B1 := Lib.hid (stepB HB.out hb1)
          clear hb1 k0 k1
          go_wp2_with fail
          go_ret2
          rw [← HF.out]
          exact ⟨rfl, B1.out⟩
        · rw [if_neg hc] at hrel2
          have q9 : decide (0 < lf) = false := decide_eq_false hc
          have HF := Lib.hid hrel2
          clear hrel2 hx hxi hkg hb0 hbB hat hun hi hox g1 g2 g3 g4 hz hc hfr
          go_wp2_with fail
          refine (CL.out _).mono ?_
          rintro e w1 ⟨rfl, hb1⟩
          have B1 := Lib.hid (stepB HB.out hb1)
          clear hb1 k0 k1
          go_wp2_with fail
          go_roundg g
          case measure => omega
          case rel => exact ⟨k + 1, by have := HG.out; omega, by first | rfl | exact nxt k (by have := HG.out; omega), HF.out, B1.out⟩
theorem wpList_copyG {P : Program} {w : World} {ops : Array Oper} {rest : List Oper} {o : Oper} {a : Act} {Q : Exit → Act → World → Prop} (hgd : o.guard = none) (d s : Operand) (dT sT : TypeId)
    (ho : o.op = .call { callee := .builtin .copy, args := #[d, s], argTypes := #[dT, sT] }) (elem : TypeId) (hu : P.underlying dT = some (.slice elem)) (k : Nat) (hsz : (P.info? elem).map (·.size) = some k)
    (g n c : Nat) (hd : a.eval d = .slice (some ⟨g, 0, none⟩) n c) (x : Value) (hs : a.eval s = x) (news : List Value) (hsrc : Src P k sT x n news w) (T : TypeId) (old : List Value) (hg : BK T w g old) (hl : old.length = news.length)
    (h : ∀ w', BK T w' g news → Put g w w' → wpList P ops Q rest (a.put o.dst (goInt n)) w') : wpList P ops Q (o :: rest) a w := by
  refine wpList_plain hgd fun K hK => ?_
  have hst := run_storeCells_at (P := P) g 0 T news 0 old.toArray w hg (by simp [hl]) hsrc.one
  simp only [Nat.add_zero, List.take_zero, List.nil_append, Nat.zero_add] at hst
  have hd0 : List.drop news.length old = [] := List.drop_eq_nil_of_le (by omega)
  rw [hd0, List.append_nil] at hst
  have hrun : (Builtin.copy_ #[dT, sT] o.type #[.slice (some ⟨g, 0, none⟩) n c, x]).run P w = .ok (goInt n) (w.setRow g news.toArray) := by
    have h1 := hsrc.len w
    have h2 := hsrc.cells
    cases hq : P.info? elem with
    | none => simp [hq] at hsz
    | some i =>
      have hi : i.size = k := by simpa [hq] using hsz
      subst hi
      simp [Builtin.copy_, run_underlying hu, h1, sizeOf, typeInfo, hq, h2, hst]
  unfold Oper.wp
  simp [execOp, ho, resolve, invoke, builtin, hd, hs, hrun, Result.andThen]
  exact hK _ _ (h _ (hg.put news) (put_row w g _))
theorem make_creds (n : Nat) (hn : n ≤ 1000000) (w : World) : (Instr.makeSlice 33 (.int .i64 (n : Int)) (.int .i64 (n : Int))).run Try.prog w =
      .ok (.slice (some ⟨w.heap.size, 0, none⟩) n n) (w.alloc (.cells (((List.replicate n ((0 : Int), (0 : Int))).flatMap gC).toArray) 23)) := by
  obtain ⟨i, hi, hz, hz1, hz2⟩ := info_parts infoCr
  have hr := run_make (P := Try.prog) w 33 23 i (.agg #[.int .i64 0, .int .i64 0]) Try.underlying33 hi hz .i64 .i64 (n : Int) (n : Int) (by omega) (by omega) (by rw [hz2]; omega) (by omega)
  have e1 : ((n : Int)).toNat = n := by omega
  rw [e1] at hr
  rw [hr]
  have : madeCells (Value.agg #[.int .i64 0, .int .i64 0]).cells (n * i.size) = ((List.replicate n ((0 : Int), (0 : Int))).flatMap gC).toArray := by
    rw [hz1]
    have hf : ∀ k : Nat, (List.replicate k ((0 : Int), (0 : Int))).flatMap gC = List.replicate (k * 2) (Value.int .i64 0) := by
      intro k
      induction k with
      | zero => rfl
      | succ k ih => rw [List.replicate_succ, List.flatMap_cons, ih]; rw [show (k + 1) * 2 = k * 2 + 1 + 1 by omega, List.replicate_succ, List.replicate_succ]; rfl
    rw [hf]
    have hc : (Value.agg #[.int .i64 0, .int .i64 0]).cells = #[.int .i64 0, .int .i64 0] := rfl
    apply Array.ext
    · simp [madeCells]
    · intro j h1 h2
      have : j % 2 < 2 := Nat.mod_lt _ (by decide)
      rcases (by omega : j % 2 = 0 ∨ j % 2 = 1) with h | h <;> simp [madeCells, hc, h]
  rw [this]
theorem flat_zero_len (n : Nat) (X : List (Int × Int)) (h : n = X.length) : ((List.replicate n ((0 : Int), (0 : Int))).flatMap gC).length = (X.flatMap gC).length := by
  rw [flat_len gC_len, flat_len gC_len, List.length_replicate, h]
set_option maxRecDepth 20000 in
set_option maxHeartbeats 2000000 in
theorem fClone_any (A : Option Addr) (c : Nat) (X : List (Int × Int)) (w : World) (hsl : CrL w w.heap.size A X) (hX : X.length ≤ 1000000) :
    Calls Try.prog 27 #[.slice A X.length c] w fun e w' => ∃ g, e = .returned (.slice (some ⟨g, 0, none⟩) X.length X.length) ∧ w.heap.size ≤ g ∧ RowC w' g X ∧ Below w.heap.size w w' := by
  obtain ⟨Zs, hZs⟩ : ∃ Zs : Array Value, ((List.replicate X.length ((0 : Int), (0 : Int))).flatMap gC).toArray = Zs := ⟨_, rfl⟩
  have hmk := make_creds X.length hX w
  rw [hZs] at hmk
  have HZ := Lib.hid hZs
  have HS := Lib.hid hsl
  clear hZs hsl
  go_enter Try.func27, Try.ntmps27
  go_upto_region 2 with fail
  clear hmk
  obtain ⟨w1, hw1⟩ : ∃ w1, w1 = w.alloc (.cells Zs 23) := ⟨_, rfl⟩
  have hb1 : Below w.heap.size w w1 := by rw [hw1]; exact below_new _ _
  have hM1 : BK 23 w1 w.heap.size ((List.replicate X.length ((0 : Int), (0 : Int))).flatMap gC) := by rw [hw1, ← HZ.out]; exact BK.new _ _ _
  have hs1 : CrL w1 w1.heap.size A X := HS.out.step hb1
  rw [← hw1]
  have HB1 := Lib.hid hb1
  have HM1 := Lib.hid hM1
  have HS1 := Lib.hid hs1
  clear hw1 hb1 hM1 hs1 HS HZ
  go_wp2_with (refine wpList_copyG rfl _ _ 33 33 rfl 23 Try.underlying33 2 infoC2 w.heap.size X.length X.length rfl _ rfl (X.flatMap gC) (HS1.out.src gC_len gC_one Try.underlying33 c) 23 _ HM1.out (flat_zero_len _ _ rfl) ?_; intro w2 hM hP; have HM2 := Lib.hid hM; have HB2 := Lib.hid (hP.below HB1.out (Nat.le_refl _)); clear hM hP)
  go_ret
  exact ⟨w.heap.size, rfl, Nat.le_refl _, ⟨_, HM2.out, by rw [← flat_len gC_len]; exact List.take_length⟩, HB2.out⟩
set_option maxRecDepth 20000 in
set_option maxHeartbeats 8000000 in
theorem fRound_any (A : Option Addr) (c : Nat) (X : List (Int × Int)) (last n : Int) (h1 : -9223372036854775808 ≤ last) (h2 : last ≤ 9223372036854775807) (w : World) (hsl : CrL w w.heap.size A X) (hX : X.length ≤ 1000000) (hok : ∀ x ∈ X, okC x = true) :
    Calls Try.prog 23 #[.slice A X.length c, .int .i64 last, .int .i64 n] w (RetRd (rdC X last n) w) := by
  obtain ⟨Zs, hZs⟩ : ∃ Zs : Array Value, ((List.replicate X.length (0 : Int)).map iv).toArray = Zs := ⟨_, rfl⟩
  have hmk0 := make_ints X.length hX
  rw [hZs] at hmk0
  have HM := Lib.hid hmk0
  have HZ := Lib.hid hZs
  clear hmk0 hZs
  have CN := Lib.hid (fun (m : List (Int × Int)) (l : Int) (A : Option Addr) (c : Nat) w h1 h2 hs hm ho => fNext_loop A c m l h1 h2 w hs hm ho)
  have CT := Lib.hid (fun m u h w => fTakeC_any m u h w)
  have S_w := Lib.hid hsl
  have B_w : Hid (Below w.heap.size w w) := Lib.hid (Below.refl _ _)
  have HOK := Lib.hid hok
  have HL12 := Lib.hid (And.intro h1 h2)
  obtain ⟨N, hN⟩ : ∃ N : Nat, (min n 1024).toNat = N := ⟨_, rfl⟩
  obtain ⟨R, hR⟩ : ∃ R, rdC X last n = R := ⟨_, rfl⟩
  rw [hR]
  unfold rdC at hR
  rw [hN] at hR
  have HR := Lib.hid hR
  have HN := Lib.hid hN
  have HWI : Hid (∀ w, Calls Try.prog 26 #[.int .i64 n, .int .i64 0, .int .i64 1024] w fun e w' => e = .returned (.int .i64 (N : Int)) ∧ w = w') := Lib.hid (fun w => by
    have e : max 0 (min n 1024) = (N : Int) := by omega
    have := fWithin_any n 0 1024 w
    rwa [e] at this)
  clear hR hN hsl hok h1 h2
  go_enter Try.func23, Try.ntmps23
  go_upto_region 1 with fail
  obtain ⟨x11, hx11⟩ : ∃ x11, x11 = World.drew w := ⟨_, rfl⟩
  have hbD : Below w.heap.size w x11 := by rw [hx11]; exact (Below.refl _ _).drew
  have S_x11 : Hid (CrL x11 x11.heap.size A X) := Lib.hid (S_w.out.step hbD)
  have B_x11 : Hid (Below w.heap.size w x11) := Lib.hid (stepB B_w.out hbD)
  clear S_w B_w
  have hbd : (fun w' => CrL w' w'.heap.size A X) (World.drew w) := by rw [← hx11]; exact S_x11.out
  have hSD : (fun w' => CrL w' w'.heap.size A X) x11 := S_x11.out
  have HWD := Lib.hid hx11
  clear hx11 hbD
  refine wp_region_held_drew (S := fun w' => CrL w' w'.heap.size A X) (by kernel_rfl) hbd (fun hHeld => ?_)
  rw [← HWD.out]
  clear hHeld
  have hHeld := hSD
  clear hSD hbd HWD
  refine wpAnyH_take (i := 0) (v := .slice A X.length c) (get_ops _ _ _ rfl) (by kernel_rfl) (by kernel_rfl) (by kernel_rfl) (fun _ _ _ h => h) (Or.inl ⟨by rfl, fun wS hSw => by (try dsimp only at hSw); go_simp⟩) hHeld ?_
  try simp only [Act.put, List.setIfInBounds_toArray, List.set_cons_zero, List.set_cons_succ]
  refine wpAnyH_take (i := 2) (v := .slice A X.length c) (get_ops _ _ _ rfl) (by kernel_rfl) (by kernel_rfl) (by kernel_rfl) (fun _ _ _ h => h) (Or.inl ⟨by rfl, fun wS hSw => by (try dsimp only at hSw); go_simp⟩) hHeld ?_
  try simp only [Act.put, List.setIfInBounds_toArray, List.set_cons_zero, List.set_cons_succ]
  refine wpAnyH_take (i := 3) (v := .int .i64 (X.length : Int)) (get_ops _ _ _ rfl) (by kernel_rfl) (by kernel_rfl) (by kernel_rfl) (fun _ _ _ h => h) (Or.inl ⟨by rfl, fun wS hSw => by (try dsimp only at hSw); go_simp⟩) hHeld ?_
  try simp only [Act.put, List.setIfInBounds_toArray, List.set_cons_zero, List.set_cons_succ]
  refine wpAnyH_ready (rs := [1, 4]) (by kernel_rfl) (by simp) ?_
  refine (AllReadyH.cons (get_ops _ _ _ rfl) (fun K hK => ?_) (AllReadyH.cons (get_ops _ _ _ rfl) (fun K hK => ?_) AllReadyH.nil))
  · go_simp
    refine (fClone_any A c X x11 S_x11.out hX).mono ?_
    rintro e x12 ⟨gM, rfl, hgM, hrow, hb⟩
    have HZM : Hid (x11.heap.size ≤ gM) := Lib.hid hgM
    have HGM : Hid (w.heap.size ≤ gM) := Lib.hid (Nat.le_trans B_x11.out.size hgM)
    have S_x12 : Hid (CrL x12 x12.heap.size A X) := Lib.hid (S_x11.out.step hb)
    have B_x12 : Hid (Below w.heap.size w x12) := Lib.hid (stepB B_x11.out hb)
    clear S_x11 B_x11
    have R_x12 := Lib.hid hrow
    clear hHeld hb hrow hgM HZM
    go_wp2_with fail
    refine hK.out _ _ S_x12.out (fun hHeld => ?_)
    clear hK K
    try simp only [Act.put, List.setIfInBounds_toArray, List.set_cons_zero, List.set_cons_succ]
    refine wpAnyH_take (i := 5) (v := .slice (some ⟨gM, 0, none⟩) X.length X.length) (get_ops _ _ _ rfl) (by kernel_rfl) (by kernel_rfl) (by kernel_rfl) (fun _ _ _ h => h) (Or.inl ⟨by rfl, fun wS hSw => by (try dsimp only at hSw); go_simp⟩) hHeld ?_
    try simp only [Act.put, List.setIfInBounds_toArray, List.set_cons_zero, List.set_cons_succ]
    refine wpAnyH_ready (rs := [4]) (by kernel_rfl) (by simp) ?_
    refine (AllReadyH.cons (get_ops _ _ _ rfl) (fun K hK => ?_) AllReadyH.nil)
    go_simp
    have hmk := HM.out x12
    go_simp
    obtain ⟨x13, hx13⟩ : ∃ x13, x13 = x12.alloc (.cells Zs 3) := ⟨_, rfl⟩
    have hb : Below x12.heap.size x12 x13 := by rw [hx13]; exact below_new _ _
    have hN : BK 3 x13 (x12.heap.size) ((List.replicate X.length (0 : Int)).map iv) := by rw [hx13, ← HZ.out]; exact BK.new _ _ _
    have hgO : w.heap.size ≤ x12.heap.size := B_x12.out.size
    have hne : gM ≠ x12.heap.size := Nat.ne_of_lt R_x12.out.lt
    try rw [← hx13]
    have S_x13 : Hid (CrL x13 x13.heap.size A X) := Lib.hid (S_x12.out.step hb)
    have B_x13 : Hid (Below w.heap.size w x13) := Lib.hid (stepB B_x12.out hb)
    have R_x13 : Hid (RowC x13 gM X) := Lib.hid (R_x12.out.step hb)
    clear S_x12 B_x12 R_x12
    generalize x12.heap.size = gO at hN hgO hne ⊢
    have HNE := Lib.hid hne
    clear hne
    have O_x13 := Lib.hid hN
    have HGO := Lib.hid hgO
    clear hHeld hb hN hgO hmk hx13
    refine hK.out _ _ S_x13.out (fun hHeld => ?_)
    clear hK K
    try simp only [Act.put, List.setIfInBounds_toArray, List.set_cons_zero, List.set_cons_succ]
    refine wpAnyH_take (i := 6) (v := .slice (some ⟨gO, 0, none⟩) X.length X.length) (get_ops _ _ _ rfl) (by kernel_rfl) (by kernel_rfl) (by kernel_rfl) (fun _ _ _ h => h) (Or.inl ⟨by rfl, fun wS hSw => by (try dsimp only at hSw); go_simp⟩) hHeld ?_
    try simp only [Act.put, List.setIfInBounds_toArray, List.set_cons_zero, List.set_cons_succ]
    refine wpAnyH_done (by kernel_rfl) ?_ _
    clear hHeld
    go_wp2_with fail
    refine (HWI.out _).mono ?_
    rintro e w' ⟨rfl, rfl⟩
    go_wp2_with fail
    go_loopg [1, 19] N (fun g l v wr => ∃ (k : Nat) (m : List (Int × Int)) (out : List Int) (la : Int), k + g = N ∧ v = .int .i64 k ∧ l = .int .i64 la ∧ (-9223372036854775808 ≤ la ∧ la ≤ 9223372036854775807) ∧ rdF g m out la = R ∧ m.length = X.length ∧ out.length = X.length ∧ (∀ x ∈ m, okC x = true) ∧ (∀ x ∈ out, 0 ≤ x ∧ x ≤ k) ∧ RowC wr gM m ∧ BK 3 wr gO (out.map iv) ∧ Below w.heap.size w wr)
    case atStart => exact ⟨0, X, List.replicate X.length 0, last, by omega, rfl, rfl, HL12.out, HR.out, rfl, by simp, HOK.out, fun x hx => by rw [List.eq_of_mem_replicate hx]; omega, R_x13.out, O_x13.out, B_x13.out⟩
    case round =>
      obtain ⟨k, m, out, la, hkg, rfl, rfl, hla, hrd, hml, hol, hmok, hoz, hrow, hbk, hb0⟩ := hrel
      have HG := Lib.hid hkg
      have HRD := Lib.hid hrd
      have HLA := Lib.hid hla
      have HML := Lib.hid hml
      have HOL := Lib.hid hol
      have HMK := Lib.hid hmok
      have HOZ := Lib.hid hoz
      have HROW := Lib.hid hrow
      have HBK := Lib.hid hbk
      have HB := Lib.hid hb0
      have hk1024 : k ≤ 1024 := by have := HN.out; omega
      clear hrd hla hml hol hmok hoz hrow hbk hb0 HR R_x13 O_x13 B_x13 S_x13 HOK
      cases gk with
      | zero =>
        have hkN : k = N := by omega
        have HF : Hid ((out, la) = R) := Lib.hid HRD.out
        clear hkg
        have q1n : decide (k < N) = false := decide_eq_false (by omega)
        go_wp2_with fail
        go_ret2
        rw [← HF.out, ← HOL.out]
        exact ⟨_, _, rfl, Nat.le_refl _, il_block HBK.out, HB.out⟩
      | succ g =>
        have q1n : decide (k < N) = true := decide_eq_true (by omega)
        have cn := CN.out m la (some ⟨gM, 0, none⟩) X.length wr HLA.out.1 HLA.out.2 HROW.out.row (by have := HML.out; omega) HMK.out
        rw [HML.out] at cn
        have hrd := HRD.out
        have hlt2 := @nxC_lt m la
        have hpos := @nxC_pos m la
        rw [rdF] at hrd
        obtain ⟨o, ho⟩ : ∃ o, nxC m la = o := ⟨_, rfl⟩
        rw [ho] at cn hrd hlt2 hpos
        have CNx := Lib.hid cn
        clear cn ho hkg
        cases o with
        | none =>
          have HF : Hid ((out, la) = R) := Lib.hid hrd
          clear hrd hlt2 hpos
          go_wp2_with fail
          refine CNx.out.mono ?_
          rintro e w3 ⟨rfl, hb3⟩
          have HBK3 := Lib.hid (HBK.out.step hb3)
          have HB3 := Lib.hid (stepB HB.out hb3)
          clear hb3
          go_wp2_with fail
          go_ret2
          rw [← HF.out, ← HOL.out]
          exact ⟨_, _, rfl, Nat.le_refl _, il_block HBK3.out, HB3.out⟩
        | some i =>
          have hi := hlt2 rfl
          have hp := hpos rfl
          have HF : Hid (rdF g (useAt m i) (addAt out i) (i : Int) = R) := Lib.hid hrd
          have HOKN := Lib.hid (ok_useAt hi HMK.out hp)
          have hio : i < out.length := by rw [HOL.out, ← HML.out]; exact hi
          obtain ⟨x, hx⟩ : ∃ x, m[i]? = some x := ⟨_, List.getElem?_eq_getElem hi⟩
          obtain ⟨y, hy⟩ : ∃ y, out[i]? = some y := ⟨_, List.getElem?_eq_getElem hio⟩
          have hatm : atC m i = x := by unfold atC; rw [List.getD_eq_getElem?_getD, hx]; rfl
          have hao : out.getD i 0 = y := by rw [List.getD_eq_getElem?_getD, hy]; rfl
          have hxok := HMK.out x (List.mem_of_getElem? hx)
          have hyr := HOZ.out y (List.mem_of_getElem? hy)
          have HUM : Hid (useAt m i = m.set i (useC x)) := Lib.hid (by unfold useAt; rw [hatm])
          have HAO : Hid (addAt out i = out.set i (y + 1)) := Lib.hid (by unfold addAt; rw [hao])
          rw [hatm] at hp
          have HXI := Lib.hid hx
          have HYR := Lib.hid hyr
          have HYI := Lib.hid hy
          have HII := Lib.hid (And.intro hi hio)
          have j1 : (0 : Int) ≤ (i : Int) := by omega
          have j2 : (i : Int) < (X.length : Int) := by have := HML.out; omega
          obtain ⟨mx, us⟩ := x
          have CTx := Lib.hid (fun w => CT.out mx us hxok w)
          have ht : takeC mx us = us + 1 := by unfold takeC; rw [if_neg (by omega)]
          rw [ht, decide_eq_true hp] at CTx
          have u1 : wrap64 (y + 1) = y + 1 := wrap64_id _ (by omega) (by omega)
          have hyb : 0 ≤ y ∧ y ≤ 1024 := by omega
          have hne : gM ≠ gO := HNE.out
          have hne2 : gO ≠ gM := fun h => HNE.out h.symm
          clear hrd hlt2 hpos hi hp hio hx hy hatm hao hxok hyr ht
          go_wp2_with fail
          refine CNx.out.mono ?_
          rintro e w3 ⟨rfl, hb3⟩
          have HROW3 := Lib.hid (HROW.out.step hb3)
          have HBK3 := Lib.hid (HBK.out.step hb3)
          have HB3 := Lib.hid (stepB HB.out hb3)
          clear hb3
          obtain ⟨d0, d1⟩ := HROW3.out.cells HXI.out
          dsimp only at d0 d1
          go_wp2_with fail
          refine (CTx.out w3).mono ?_
          rintro e w4 ⟨rfl, hb4⟩
          have HROW4 := Lib.hid (HROW3.out.step hb4)
          have HBK4 := Lib.hid (HBK3.out.step hb4)
          have HB4 := Lib.hid (stepB HB3.out hb4)
          clear hb4 d0 d1
          obtain ⟨d0, d1⟩ := HROW4.out.cells HXI.out
          dsimp only at d0 d1
          have f0 := HROW4.out.free (i * 2)
          have f1 := HROW4.out.free (i * 2 + 1)
          have d2 : w4.cell? ⟨gO, i, none⟩ = some (.int .i64 y) := HBK4.out.cell i (by rw [List.getElem?_map, HYI.out]; rfl)
          have f2 := HBK4.out.free i
          go_wp2_with fail
          go_roundg g
          case measure => omega
          case rel =>
            refine ⟨k + 1, useAt m i, addAt out i, (i : Int), by have := HG.out; omega, by first | rfl | exact nxt k (by omega), rfl, by omega, HF.out, by rw [use_len]; exact HML.out, by rw [add_len]; exact HOL.out, HOKN.out, ?_, ?_, ?_, ?_⟩
            · rw [HAO.out]
              intro z hz
              rcases List.mem_or_eq_of_mem_set hz with h | h
              · have := HOZ.out z h; omega
              · have := HYR.out; omega
            · rw [HUM.out]
              exact (HROW4.out.set HII.out.1 (mx, us + 1)).other (by exact hne) _
            · rw [HAO.out, List.map_set]
              exact ((HBK4.out.other hne2 _).other hne2 _).set i _
            · exact ((HB4.out.setCell (p := ⟨gM, i * 2, none⟩) HGM.out _).setCell (p := ⟨gM, i * 2 + 1, none⟩) HGM.out _).setCell (p := ⟨gO, i, none⟩) HGO.out _
  · go_simp
    have hmk := HM.out x11
    go_simp
    obtain ⟨x12, hx12⟩ : ∃ x12, x12 = x11.alloc (.cells Zs 3) := ⟨_, rfl⟩
    have hb : Below x11.heap.size x11 x12 := by rw [hx12]; exact below_new _ _
    have hN : BK 3 x12 (x11.heap.size) ((List.replicate X.length (0 : Int)).map iv) := by rw [hx12, ← HZ.out]; exact BK.new _ _ _
    have hgO : w.heap.size ≤ x11.heap.size := B_x11.out.size
    try rw [← hx12]
    have S_x12 : Hid (CrL x12 x12.heap.size A X) := Lib.hid (S_x11.out.step hb)
    have B_x12 : Hid (Below w.heap.size w x12) := Lib.hid (stepB B_x11.out hb)
    clear S_x11 B_x11
    generalize x11.heap.size = gO at hN hgO ⊢
    have O_x12 := Lib.hid hN
    have HGO := Lib.hid hgO
    clear hHeld hb hN hgO hmk hx12
    refine hK.out _ _ S_x12.out (fun hHeld => ?_)
    clear hK K
    try simp only [Act.put, List.setIfInBounds_toArray, List.set_cons_zero, List.set_cons_succ]
    refine wpAnyH_ready (rs := [1]) (by kernel_rfl) (by simp) ?_
    refine (AllReadyH.cons (get_ops _ _ _ rfl) (fun K hK => ?_) AllReadyH.nil)
    go_simp
    refine (fClone_any A c X x12 S_x12.out hX).mono ?_
    rintro e x13 ⟨gM, rfl, hgM, hrow, hb⟩
    have HZM : Hid (x12.heap.size ≤ gM) := Lib.hid hgM
    have HNE : Hid (gM ≠ gO) := Lib.hid (by have := O_x12.out.lt; omega)
    have HGM : Hid (w.heap.size ≤ gM) := Lib.hid (Nat.le_trans B_x12.out.size hgM)
    have S_x13 : Hid (CrL x13 x13.heap.size A X) := Lib.hid (S_x12.out.step hb)
    have B_x13 : Hid (Below w.heap.size w x13) := Lib.hid (stepB B_x12.out hb)
    have O_x13 : Hid (BK 3 x13 gO ((List.replicate X.length (0 : Int)).map iv)) := Lib.hid (O_x12.out.step hb)
    clear S_x12 B_x12 O_x12
    have R_x13 := Lib.hid hrow
    clear hHeld hb hrow hgM HZM
    go_wp2_with fail
    refine hK.out _ _ S_x13.out (fun hHeld => ?_)
    clear hK K
    try simp only [Act.put, List.setIfInBounds_toArray, List.set_cons_zero, List.set_cons_succ]
    refine wpAnyH_take (i := 5) (v := .slice (some ⟨gM, 0, none⟩) X.length X.length) (get_ops _ _ _ rfl) (by kernel_rfl) (by kernel_rfl) (by kernel_rfl) (fun _ _ _ h => h) (Or.inl ⟨by rfl, fun wS hSw => by (try dsimp only at hSw); go_simp⟩) hHeld ?_
    try simp only [Act.put, List.setIfInBounds_toArray, List.set_cons_zero, List.set_cons_succ]
    refine wpAnyH_take (i := 6) (v := .slice (some ⟨gO, 0, none⟩) X.length X.length) (get_ops _ _ _ rfl) (by kernel_rfl) (by kernel_rfl) (by kernel_rfl) (fun _ _ _ h => h) (Or.inl ⟨by rfl, fun wS hSw => by (try dsimp only at hSw); go_simp⟩) hHeld ?_
    try simp only [Act.put, List.setIfInBounds_toArray, List.set_cons_zero, List.set_cons_succ]
    refine wpAnyH_done (by kernel_rfl) ?_ _
    clear hHeld
    go_wp2_with fail
    refine (HWI.out _).mono ?_
    rintro e w' ⟨rfl, rfl⟩
    go_wp2_with fail
    go_loopg [1, 19] N (fun g l v wr => ∃ (k : Nat) (m : List (Int × Int)) (out : List Int) (la : Int), k + g = N ∧ v = .int .i64 k ∧ l = .int .i64 la ∧ (-9223372036854775808 ≤ la ∧ la ≤ 9223372036854775807) ∧ rdF g m out la = R ∧ m.length = X.length ∧ out.length = X.length ∧ (∀ x ∈ m, okC x = true) ∧ (∀ x ∈ out, 0 ≤ x ∧ x ≤ k) ∧ RowC wr gM m ∧ BK 3 wr gO (out.map iv) ∧ Below w.heap.size w wr)
    case atStart => exact ⟨0, X, List.replicate X.length 0, last, by omega, rfl, rfl, HL12.out, HR.out, rfl, by simp, HOK.out, fun x hx => by rw [List.eq_of_mem_replicate hx]; omega, R_x13.out, O_x13.out, B_x13.out⟩
    case round =>
      obtain ⟨k, m, out, la, hkg, rfl, rfl, hla, hrd, hml, hol, hmok, hoz, hrow, hbk, hb0⟩ := hrel
      have HG := Lib.hid hkg
      have HRD := Lib.hid hrd
      have HLA := Lib.hid hla
      have HML := Lib.hid hml
      have HOL := Lib.hid hol
      have HMK := Lib.hid hmok
      have HOZ := Lib.hid hoz
      have HROW := Lib.hid hrow
      have HBK := Lib.hid hbk
      have HB := Lib.hid hb0
      have hk1024 : k ≤ 1024 := by have := HN.out; omega
      clear hrd hla hml hol hmok hoz hrow hbk hb0 HR R_x13 O_x13 B_x13 S_x13 HOK
      cases gk with
      | zero =>
        have hkN : k = N := by omega
        have HF : Hid ((out, la) = R) := Lib.hid HRD.out
        clear hkg
        have q1n : decide (k < N) = false := decide_eq_false (by omega)
        go_wp2_with fail
        go_ret2
        rw [← HF.out, ← HOL.out]
        exact ⟨_, _, rfl, Nat.le_refl _, il_block HBK.out, HB.out⟩
      | succ g =>
        have q1n : decide (k < N) = true := decide_eq_true (by omega)
        have cn := CN.out m la (some ⟨gM, 0, none⟩) X.length wr HLA.out.1 HLA.out.2 HROW.out.row (by have := HML.out; omega) HMK.out
        rw [HML.out] at cn
        have hrd := HRD.out
        have hlt2 := @nxC_lt m la
        have hpos := @nxC_pos m la
        rw [rdF] at hrd
        obtain ⟨o, ho⟩ : ∃ o, nxC m la = o := ⟨_, rfl⟩
        rw [ho] at cn hrd hlt2 hpos
        have CNx := Lib.hid cn
        clear cn ho hkg
        cases o with
        | none =>
          have HF : Hid ((out, la) = R) := Lib.hid hrd
          clear hrd hlt2 hpos
          go_wp2_with fail
          refine CNx.out.mono ?_
          rintro e w3 ⟨rfl, hb3⟩
          have HBK3 := Lib.hid (HBK.out.step hb3)
          have HB3 := Lib.hid (stepB HB.out hb3)
          clear hb3
          go_wp2_with fail
          go_ret2
          rw [← HF.out, ← HOL.out]
          exact ⟨_, _, rfl, Nat.le_refl _, il_block HBK3.out, HB3.out⟩
        | some i =>
          have hi := hlt2 rfl
          have hp := hpos rfl
          have HF : Hid (rdF g (useAt m i) (addAt out i) (i : Int) = R) := Lib.hid hrd
          have HOKN := Lib.hid (ok_useAt hi HMK.out hp)
          have hio : i < out.length := by rw [HOL.out, ← HML.out]; exact hi
          obtain ⟨x, hx⟩ : ∃ x, m[i]? = some x := ⟨_, List.getElem?_eq_getElem hi⟩
          obtain ⟨y, hy⟩ : ∃ y, out[i]? = some y := ⟨_, List.getElem?_eq_getElem hio⟩
          have hatm : atC m i = x := by unfold atC; rw [List.getD_eq_getElem?_getD, hx]; rfl
          have hao : out.getD i 0 = y := by rw [List.getD_eq_getElem?_getD, hy]; rfl
          have hxok := HMK.out x (List.mem_of_getElem? hx)
          have hyr := HOZ.out y (List.mem_of_getElem? hy)
          have HUM : Hid (useAt m i = m.set i (useC x)) := Lib.hid (by unfold useAt; rw [hatm])
          have HAO : Hid (addAt out i = out.set i (y + 1)) := Lib.hid (by unfold addAt; rw [hao])
          rw [hatm] at hp
          have HXI := Lib.hid hx
          have HYR := Lib.hid hyr
          have HYI := Lib.hid hy
          have HII := Lib.hid (And.intro hi hio)
          have j1 : (0 : Int) ≤ (i : Int) := by omega
          have j2 : (i : Int) < (X.length : Int) := by have := HML.out; omega
          obtain ⟨mx, us⟩ := x
          have CTx := Lib.hid (fun w => CT.out mx us hxok w)
          have ht : takeC mx us = us + 1 := by unfold takeC; rw [if_neg (by omega)]
          rw [ht, decide_eq_true hp] at CTx
          have u1 : wrap64 (y + 1) = y + 1 := wrap64_id _ (by omega) (by omega)
          have hyb : 0 ≤ y ∧ y ≤ 1024 := by omega
          have hne : gM ≠ gO := HNE.out
          have hne2 : gO ≠ gM := fun h => HNE.out h.symm
          clear hrd hlt2 hpos hi hp hio hx hy hatm hao hxok hyr ht
          go_wp2_with fail
          refine CNx.out.mono ?_
          rintro e w3 ⟨rfl, hb3⟩
          have HROW3 := Lib.hid (HROW.out.step hb3)
          have HBK3 := Lib.hid (HBK.out.step hb3)
          have HB3 := Lib.hid (stepB HB.out hb3)
          clear hb3
          obtain ⟨d0, d1⟩ := HROW3.out.cells HXI.out
          dsimp only at d0 d1
          go_wp2_with fail
          refine (CTx.out w3).mono ?_
          rintro e w4 ⟨rfl, hb4⟩
          have HROW4 := Lib.hid (HROW3.out.step hb4)
          have HBK4 := Lib.hid (HBK3.out.step hb4)
          have HB4 := Lib.hid (stepB HB3.out hb4)
          clear hb4 d0 d1
          obtain ⟨d0, d1⟩ := HROW4.out.cells HXI.out
          dsimp only at d0 d1
          have f0 := HROW4.out.free (i * 2)
          have f1 := HROW4.out.free (i * 2 + 1)
          have d2 : w4.cell? ⟨gO, i, none⟩ = some (.int .i64 y) := HBK4.out.cell i (by rw [List.getElem?_map, HYI.out]; rfl)
          have f2 := HBK4.out.free i
          go_wp2_with fail
          go_roundg g
          case measure => omega
          case rel =>
            refine ⟨k + 1, useAt m i, addAt out i, (i : Int), by have := HG.out; omega, by first | rfl | exact nxt k (by omega), rfl, by omega, HF.out, by rw [use_len]; exact HML.out, by rw [add_len]; exact HOL.out, HOKN.out, ?_, ?_, ?_, ?_⟩
            · rw [HAO.out]
              intro z hz
              rcases List.mem_or_eq_of_mem_set hz with h | h
              · have := HOZ.out z h; omega
              · have := HYR.out; omega
            · rw [HUM.out]
              exact (HROW4.out.set HII.out.1 (mx, us + 1)).other (by exact hne) _
            · rw [HAO.out, List.map_set]
              exact ((HBK4.out.other hne2 _).other hne2 _).set i _
            · exact ((HB4.out.setCell (p := ⟨gM, i * 2, none⟩) HGM.out _).setCell (p := ⟨gM, i * 2 + 1, none⟩) HGM.out _).setCell (p := ⟨gO, i, none⟩) HGO.out _
end Go.Proofs.Ytomlideijhejfab
