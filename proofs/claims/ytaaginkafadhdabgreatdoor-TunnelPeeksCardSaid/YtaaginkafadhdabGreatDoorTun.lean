/-
  What open and Peek of tunnel answer, the program's and the specification's. Conditions: the bytes read as data; so many bytes fit a slice.
-/
import Derived.Test.YtaaginkafadhdabGreatDoorNext2
namespace Go.Proofs.YtaaginkafadhdabGreatDoor
open Go.RowKit

theorem results_tmp4 {fn : Func} {t u v x : Tmp} (h : fn.results = #[.tmp t, .tmp u, .tmp v, .tmp x]) (tmps : Array Value) (P : Program) (w : World) :
    (results fn tmps).run P w = .ok (.tuple #[tmps.getD t undef, tmps.getD u undef, tmps.getD v undef, tmps.getD x undef]) w := by
  simp [results, h]
/-- the connection, the number, the bytes of the packets, the error -/
def openT (l : List UInt8) : Int × Int × List UInt8 × Int :=
  if (nextR l 0).2.2 ≠ 0 then (0, 0, [], (nextR l 0).2.2)
  else if (nextR l 0).2.1 < (l.length : Int) then (0, 0, [], 2)
  else if (numR (nextR l 0).1 0).2.2 ≠ 0 then (0, 0, [], (numR (nextR l 0).1 0).2.2)
  else if (numR (nextR l 0).1 (numR (nextR l 0).1 0).2.1).2.2 ≠ 0 then (0, 0, [], (numR (nextR l 0).1 (numR (nextR l 0).1 0).2.1).2.2)
  else ((numR (nextR l 0).1 0).1, (numR (nextR l 0).1 (numR (nextR l 0).1 0).2.1).1, (nextR l 0).1.drop (numR (nextR l 0).1 (numR (nextR l 0).1 0).2.1).2.1.toNat, 0)
def RetO (r : Int × Int × List UInt8 × Int) (w : World) (e : Ending) (w' : World) : Prop :=
  ∃ A c, e = .returned (.tuple #[.int .i64 r.1, .int .i64 r.2.1, .slice A r.2.2.1.length c, .int .i64 r.2.2.2]) ∧ CL bv w' w'.heap.size A r.2.2.1 ∧ r.2.2.1.length ≤ c ∧ Below w.heap.size w w'
theorem nextR_len (l : List UInt8) : (nextR l 0).1.length ≤ 65536 := by
  unfold nextR
  generalize hr : countR l 0 65536 = r
  obtain ⟨n, nx, e⟩ := r
  dsimp only
  split
  · simp
  · next he =>
    obtain rfl : e = 0 := by omega
    obtain ⟨k, j, m, _, rfl, rfl, hm, _⟩ := countR_ok hr
    split
    · simp
    · split
      · simp
      · unfold bodyR
        simp only [List.length_take, Int.toNat_natCast]
        omega
set_option maxRecDepth 20000 in
set_option maxHeartbeats 4000000 in
theorem tOpen_any (A : Option Addr) (c : Nat) (l : List UInt8) (w : World) (hsl : CL bv w w.heap.size A l) (hc : l.length ≤ c) (hn : l.length ≤ 140737488355328) :
    Calls Tryz.prog 14 #[.slice A l.length c] w (RetO (openT l) w) := by
  have hcn := next_any A c l 0 (by decide) (by decide) w hsl hc hn
  have hln := nextR_len l
  unfold openT
  generalize nextR l 0 = r at hcn hln ⊢
  obtain ⟨T, nx, e⟩ := r
  dsimp only at hln ⊢
  have HC := Lib.hid hcn
  clear hcn hsl hc hn
  by_cases he : e = 0
  · rw [if_neg (by simpa using he)]
    subst he
    by_cases hx : nx < (l.length : Int)
    · rw [if_pos hx]
      have q : decide (nx < (l.length : Int)) = true := decide_eq_true hx
      clear hx
      go_enter Tryz.func14, Tryz.ntmps14
      go_wp2_with fail
      refine HC.out.mono ?_
      rintro e w1 ⟨v1, rfl, hown1, hb1⟩
      have HB1 := Lib.hid hb1
      clear hown1 hb1
      go_wp2_with fail
      refine bodyPost_ret (results_tmp4 rfl _ _ _) rfl ?_
      exact ⟨none, 0, rfl, CL.nil _ _ _, Nat.le_refl _, HB1.out⟩
    · rw [if_neg hx]
      have q : decide (nx < (l.length : Int)) = false := decide_eq_false hx
      clear hx
      have HN : Hid (∀ (A : Option Addr) (c : Nat) (w : World) (B : Nat) (p : Int), -9223372036854775808 ≤ p → p ≤ 9223372036854775807 → CL bv w B A T → T.length ≤ c → Calls Tryz.prog 21 #[.slice A T.length c, .int .i64 p] w fun e w' => e = tri .i64 (numR T p) ∧ w = w') := Lib.hid (fun A c w B p h1 h2 h3 h4 => num_any A c T p h1 h2 w B h3 h4 (by omega))
      have hok0 := fun n nx => @numR_ok T 0 n nx
      generalize hr0 : numR T 0 = r0 at hok0 ⊢
      obtain ⟨n0, p0, e0⟩ := r0
      have H0 : Hid (∀ (A : Option Addr) (c : Nat) (w : World) (B : Nat), CL bv w B A T → T.length ≤ c → Calls Tryz.prog 21 #[.slice A T.length c, .int .i64 0] w fun e w' => e = tri .i64 (n0, p0, e0) ∧ w = w') := Lib.hid (fun A c w B h3 h4 => by
        have := HN.out A c w B 0 (by decide) (by decide) h3 h4
        rw [hr0] at this
        exact this)
      dsimp only at hok0 ⊢
      clear hr0
      by_cases he0 : e0 = 0
      · rw [if_neg (by simpa using he0)]
        subst he0
        obtain ⟨k0, j0, -, hp0, -, -, hkj0, -, -, -⟩ := hok0 n0 p0 rfl
        subst hp0
        clear hok0
        generalize k0 + j0 = m0 at *
        have hok1 := fun n nx => @numR_ok T (m0 : Int) n nx
        have H1 := Lib.hid (fun A c w B h3 h4 => HN.out A c w B (m0 : Int) (by omega) (by omega) h3 h4)
        clear HN
        generalize numR T (m0 : Int) = r1 at H1 hok1 ⊢
        obtain ⟨n1, p1, e1⟩ := r1
        dsimp only at hok1 ⊢
        by_cases he1 : e1 = 0
        · rw [if_neg (by simpa using he1)]
          subst he1
          obtain ⟨k1, j1, -, hp1, -, -, hkj1, -, -, -⟩ := hok1 n1 p1 rfl
          subst hp1
          clear hok1
          rw [Int.toNat_natCast]
          generalize k1 + j1 = m1 at *
          go_enter Tryz.func14, Tryz.ntmps14
          go_wp2_with fail
          refine HC.out.mono ?_
          rintro e w1 ⟨v1, rfl, hown1, hb1⟩
          have HB1 := Lib.hid hb1
          obtain ⟨A1, c1, rfl, hc1, hsl1⟩ := hown1.ret
          obtain ⟨A2, hs2, hcl2⟩ := slice_l A1 c1 T m1 hkj1 hc1
          have hcc : (T.drop m1).length ≤ c1 - m1 := by rw [List.length_drop]; dsimp only at hc1; omega
          generalize hD : T.drop m1 = D at hs2 hcl2 hcc
          have HDE := Lib.hid hD
          clear hD
          have HS2 := Lib.hid (hcl2 w1 _ hsl1)
          have HS := Lib.hid hsl1
          have HSr := Lib.hid hs2
          have HCC := Lib.hid hcc
          have HC1 := Lib.hid hc1
          clear hown1 hb1 hcl2 hsl1 hs2 hc1 hcc HC
          go_wp2_with fail
          refine (H0.out A1 c1 w1 _ HS.out HC1.out).mono ?_
          rintro e w' ⟨rfl, rfl⟩
          unfold tri
          go_wp2_with fail
          refine (H1.out A1 c1 w1 _ HS.out HC1.out).mono ?_
          rintro e w' ⟨rfl, rfl⟩
          unfold tri
          have hrun := HSr.out
          have hrd := hrun w1.drew
          clear HSr HC1 HS H0 H1
          go_wp2_with fail
          go_quiet (fail)
          have HBD := Lib.hid (stepB HB1.out (below_drewN' w1 nq))
          have HSD := Lib.hid (HS2.out.step (below_drewN' w1 nq))
          go_wp2_with fail
          refine bodyPost_ret (results_tmp4 rfl _ _ _) rfl ?_
          rw [HDE.out]
          exact ⟨A2, _, rfl, HSD.out, HCC.out, HBD.out⟩
        · rw [if_pos he1]
          have q1 : (e1 != 0) = true := by simp [he1]
          clear he1 hok1
          go_enter Tryz.func14, Tryz.ntmps14
          go_wp2_with fail
          refine HC.out.mono ?_
          rintro e w1 ⟨v1, rfl, hown1, hb1⟩
          have HB1 := Lib.hid hb1
          obtain ⟨A1, c1, rfl, hc1, hsl1⟩ := hown1.ret
          have HS := Lib.hid hsl1
          have HC1 := Lib.hid hc1
          clear hown1 hb1 hsl1 hc1 HC
          go_wp2_with fail
          refine (H0.out A1 c1 w1 _ HS.out HC1.out).mono ?_
          rintro e w' ⟨rfl, rfl⟩
          unfold tri
          go_wp2_with fail
          refine (H1.out A1 c1 w1 _ HS.out HC1.out).mono ?_
          rintro e w' ⟨rfl, rfl⟩
          unfold tri
          go_wp2_with fail
          refine bodyPost_ret (results_tmp4 rfl _ _ _) rfl ?_
          exact ⟨none, 0, rfl, CL.nil _ _ _, Nat.le_refl _, HB1.out⟩
      · rw [if_pos he0]
        have q1 : (e0 != 0) = true := by simp [he0]
        clear he0 hok0 HN
        go_enter Tryz.func14, Tryz.ntmps14
        go_wp2_with fail
        refine HC.out.mono ?_
        rintro e w1 ⟨v1, rfl, hown1, hb1⟩
        have HB1 := Lib.hid hb1
        obtain ⟨A1, c1, rfl, hc1, hsl1⟩ := hown1.ret
        have HS := Lib.hid hsl1
        have HC1 := Lib.hid hc1
        clear hown1 hb1 hsl1 hc1 HC
        go_wp2_with fail
        refine (H0.out A1 c1 w1 _ HS.out HC1.out).mono ?_
        rintro e w' ⟨rfl, rfl⟩
        unfold tri
        go_wp2_with fail
        refine bodyPost_ret (results_tmp4 rfl _ _ _) rfl ?_
        exact ⟨none, 0, rfl, CL.nil _ _ _, Nat.le_refl _, HB1.out⟩
  · rw [if_pos he]
    have q : (e != 0) = true := by simp [he]
    clear he
    go_enter Tryz.func14, Tryz.ntmps14
    go_wp2_with fail
    refine HC.out.mono ?_
    rintro e w1 ⟨v1, rfl, hown1, hb1⟩
    have HB1 := Lib.hid hb1
    clear hown1 hb1
    go_wp2_with fail
    refine bodyPost_ret (results_tmp4 rfl _ _ _) rfl ?_
    exact ⟨none, 0, rfl, CL.nil _ _ _, Nat.le_refl _, HB1.out⟩
set_option maxRecDepth 20000 in
set_option maxHeartbeats 4000000 in
theorem rOpen_any (A : Option Addr) (c : Nat) (l : List UInt8) (w : World) (hsl : CL bv w w.heap.size A l) (hc : l.length ≤ c) (hn : l.length ≤ 140737488355328) :
    Calls Tryz.prog 15 #[.slice A l.length c] w (RetO (openT l) w) := by
  have hcn := rNext_any A c l 0 (by decide) (by decide) w hsl hc hn
  have hln := nextR_len l
  unfold openT
  generalize nextR l 0 = r at hcn hln ⊢
  obtain ⟨T, nx, e⟩ := r
  dsimp only at hln ⊢
  have HC := Lib.hid hcn
  clear hcn hsl hc hn
  by_cases he : e = 0
  · rw [if_neg (by simpa using he)]
    subst he
    by_cases hx : nx < (l.length : Int)
    · rw [if_pos hx]
      have q : decide (nx < (l.length : Int)) = true := decide_eq_true hx
      clear hx
      go_enter Tryz.func15, Tryz.ntmps15
      go_wp2_with fail
      refine HC.out.mono ?_
      rintro e w1 ⟨v1, rfl, hown1, hb1⟩
      have HB1 := Lib.hid hb1
      clear hown1 hb1
      go_wp2_with fail
      refine bodyPost_ret (results_tmp4 rfl _ _ _) rfl ?_
      exact ⟨none, 0, rfl, CL.nil _ _ _, Nat.le_refl _, HB1.out⟩
    · rw [if_neg hx]
      have q : decide (nx < (l.length : Int)) = false := decide_eq_false hx
      clear hx
      have HN : Hid (∀ (A : Option Addr) (c : Nat) (w : World) (B : Nat) (p : Int), -9223372036854775808 ≤ p → p ≤ 9223372036854775807 → CL bv w B A T → T.length ≤ c → Calls Tryz.prog 23 #[.slice A T.length c, .int .i64 p] w fun e w' => e = tri .i64 (numR T p) ∧ w = w') := Lib.hid (fun A c w B p h1 h2 h3 h4 => rNum_any A c T p h1 h2 w B h3 h4 (by omega))
      have hok0 := fun n nx => @numR_ok T 0 n nx
      generalize hr0 : numR T 0 = r0 at hok0 ⊢
      obtain ⟨n0, p0, e0⟩ := r0
      have H0 : Hid (∀ (A : Option Addr) (c : Nat) (w : World) (B : Nat), CL bv w B A T → T.length ≤ c → Calls Tryz.prog 23 #[.slice A T.length c, .int .i64 0] w fun e w' => e = tri .i64 (n0, p0, e0) ∧ w = w') := Lib.hid (fun A c w B h3 h4 => by
        have := HN.out A c w B 0 (by decide) (by decide) h3 h4
        rw [hr0] at this
        exact this)
      dsimp only at hok0 ⊢
      clear hr0
      by_cases he0 : e0 = 0
      · rw [if_neg (by simpa using he0)]
        subst he0
        obtain ⟨k0, j0, -, hp0, -, -, hkj0, -, -, -⟩ := hok0 n0 p0 rfl
        subst hp0
        clear hok0
        generalize k0 + j0 = m0 at *
        have hok1 := fun n nx => @numR_ok T (m0 : Int) n nx
        have H1 := Lib.hid (fun A c w B h3 h4 => HN.out A c w B (m0 : Int) (by omega) (by omega) h3 h4)
        clear HN
        generalize numR T (m0 : Int) = r1 at H1 hok1 ⊢
        obtain ⟨n1, p1, e1⟩ := r1
        dsimp only at hok1 ⊢
        by_cases he1 : e1 = 0
        · rw [if_neg (by simpa using he1)]
          subst he1
          obtain ⟨k1, j1, -, hp1, -, -, hkj1, -, -, -⟩ := hok1 n1 p1 rfl
          subst hp1
          clear hok1
          rw [Int.toNat_natCast]
          generalize k1 + j1 = m1 at *
          go_enter Tryz.func15, Tryz.ntmps15
          go_wp2_with fail
          refine HC.out.mono ?_
          rintro e w1 ⟨v1, rfl, hown1, hb1⟩
          have HB1 := Lib.hid hb1
          obtain ⟨A1, c1, rfl, hc1, hsl1⟩ := hown1.ret
          obtain ⟨A2, hs2, hcl2⟩ := slice_l A1 c1 T m1 hkj1 hc1
          have hcc : (T.drop m1).length ≤ c1 - m1 := by rw [List.length_drop]; dsimp only at hc1; omega
          generalize hD : T.drop m1 = D at hs2 hcl2 hcc
          have HDE := Lib.hid hD
          clear hD
          have HS2 := Lib.hid (hcl2 w1 _ hsl1)
          have HS := Lib.hid hsl1
          have HSr := Lib.hid hs2
          have HCC := Lib.hid hcc
          have HC1 := Lib.hid hc1
          clear hown1 hb1 hcl2 hsl1 hs2 hc1 hcc HC
          go_wp2_with fail
          refine (H0.out A1 c1 w1 _ HS.out HC1.out).mono ?_
          rintro e w' ⟨rfl, rfl⟩
          unfold tri
          go_wp2_with fail
          refine (H1.out A1 c1 w1 _ HS.out HC1.out).mono ?_
          rintro e w' ⟨rfl, rfl⟩
          unfold tri
          have hrun := HSr.out
          have hrd := hrun w1.drew
          clear HSr HC1 HS H0 H1
          go_wp2_with fail
          go_quiet (fail)
          have HBD := Lib.hid (stepB HB1.out (below_drewN' w1 nq))
          have HSD := Lib.hid (HS2.out.step (below_drewN' w1 nq))
          go_wp2_with fail
          refine bodyPost_ret (results_tmp4 rfl _ _ _) rfl ?_
          rw [HDE.out]
          exact ⟨A2, _, rfl, HSD.out, HCC.out, HBD.out⟩
        · rw [if_pos he1]
          have q1 : (e1 != 0) = true := by simp [he1]
          clear he1 hok1
          go_enter Tryz.func15, Tryz.ntmps15
          go_wp2_with fail
          refine HC.out.mono ?_
          rintro e w1 ⟨v1, rfl, hown1, hb1⟩
          have HB1 := Lib.hid hb1
          obtain ⟨A1, c1, rfl, hc1, hsl1⟩ := hown1.ret
          have HS := Lib.hid hsl1
          have HC1 := Lib.hid hc1
          clear hown1 hb1 hsl1 hc1 HC
          go_wp2_with fail
          refine (H0.out A1 c1 w1 _ HS.out HC1.out).mono ?_
          rintro e w' ⟨rfl, rfl⟩
          unfold tri
          go_wp2_with fail
          refine (H1.out A1 c1 w1 _ HS.out HC1.out).mono ?_
          rintro e w' ⟨rfl, rfl⟩
          unfold tri
          go_wp2_with fail
          refine bodyPost_ret (results_tmp4 rfl _ _ _) rfl ?_
          exact ⟨none, 0, rfl, CL.nil _ _ _, Nat.le_refl _, HB1.out⟩
      · rw [if_pos he0]
        have q1 : (e0 != 0) = true := by simp [he0]
        clear he0 hok0 HN
        go_enter Tryz.func15, Tryz.ntmps15
        go_wp2_with fail
        refine HC.out.mono ?_
        rintro e w1 ⟨v1, rfl, hown1, hb1⟩
        have HB1 := Lib.hid hb1
        obtain ⟨A1, c1, rfl, hc1, hsl1⟩ := hown1.ret
        have HS := Lib.hid hsl1
        have HC1 := Lib.hid hc1
        clear hown1 hb1 hsl1 hc1 HC
        go_wp2_with fail
        refine (H0.out A1 c1 w1 _ HS.out HC1.out).mono ?_
        rintro e w' ⟨rfl, rfl⟩
        unfold tri
        go_wp2_with fail
        refine bodyPost_ret (results_tmp4 rfl _ _ _) rfl ?_
        exact ⟨none, 0, rfl, CL.nil _ _ _, Nat.le_refl _, HB1.out⟩
  · rw [if_pos he]
    have q : (e != 0) = true := by simp [he]
    clear he
    go_enter Tryz.func15, Tryz.ntmps15
    go_wp2_with fail
    refine HC.out.mono ?_
    rintro e w1 ⟨v1, rfl, hown1, hb1⟩
    have HB1 := Lib.hid hb1
    clear hown1 hb1
    go_wp2_with fail
    refine bodyPost_ret (results_tmp4 rfl _ _ _) rfl ?_
    exact ⟨none, 0, rfl, CL.nil _ _ _, Nat.le_refl _, HB1.out⟩
set_option maxHeartbeats 1000000 in
theorem tPeek_any (A : Option Addr) (c : Nat) (l : List UInt8) (w : World) (hsl : CL bv w w.heap.size A l) (hc : l.length ≤ c) (hn : l.length ≤ 140737488355328) :
    Calls Tryz.prog 10 #[.slice A l.length c] w fun e w' => e = .returned (.tuple #[.int .i64 (openT l).1, .int .i64 (openT l).2.1, .int .i64 (openT l).2.2.2]) ∧ Below w.heap.size w w' := by
  have hcn := tOpen_any A c l w hsl hc hn
  generalize openT l = r at hcn ⊢
  obtain ⟨n, m, T, e⟩ := r
  have HC := Lib.hid hcn
  clear hcn hsl hc hn
  generalize l.length = ln at *
  go_enter Tryz.func10, Tryz.ntmps10
  go_wp2_with fail
  refine HC.out.mono ?_
  rintro e w1 ⟨A1, c1, rfl, _, _, hb1⟩
  have HB := Lib.hid hb1
  clear hb1
  go_wp2_with fail
  go_ret3
  exact ⟨rfl, HB.out⟩
set_option maxHeartbeats 1000000 in
theorem rPeek_any (A : Option Addr) (c : Nat) (l : List UInt8) (w : World) (hsl : CL bv w w.heap.size A l) (hc : l.length ≤ c) (hn : l.length ≤ 140737488355328) :
    Calls Tryz.prog 11 #[.slice A l.length c] w fun e w' => e = .returned (.tuple #[.int .i64 (openT l).1, .int .i64 (openT l).2.1, .int .i64 (openT l).2.2.2]) ∧ Below w.heap.size w w' := by
  have hcn := rOpen_any A c l w hsl hc hn
  generalize openT l = r at hcn ⊢
  obtain ⟨n, m, T, e⟩ := r
  have HC := Lib.hid hcn
  clear hcn hsl hc hn
  generalize l.length = ln at *
  go_enter Tryz.func11, Tryz.ntmps11
  go_wp2_with fail
  refine HC.out.mono ?_
  rintro e w1 ⟨A1, c1, rfl, _, _, hb1⟩
  have HB := Lib.hid hb1
  clear hb1
  go_wp2_with fail
  go_ret3
  exact ⟨rfl, HB.out⟩

end Go.Proofs.YtaaginkafadhdabGreatDoor
