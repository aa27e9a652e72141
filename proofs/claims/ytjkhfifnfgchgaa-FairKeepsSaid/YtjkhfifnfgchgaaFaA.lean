/-
  What the small functions of fair and of its specification answer: who is ready, what lies in range, where a consumer is, what is wrong with it. Conditions: lists read as data; lengths fit an int.
-/
import Derived.Test.YtjkhfifnfgchgaaFaG
namespace Go.Proofs.Ytjkhfifnfgchgaa
open Go.RowKit
open S2 (BK Put)


set_option maxHeartbeats 1000000 in
theorem fReady_any (x : Cs) (w : World) :
    Calls Try.prog 9 #[csV x] w fun e w' => e = .returned (.bool (rdyC x)) ∧ Below w.heap.size w w' := by
  obtain ⟨t, cn, qu, pr, un⟩ := x
  have q1 : (pr == 0) = decide (pr = 0) := eqI pr 0
  unfold rdyC csV gC
  have HB := Lib.hid (S2.below_new w (.cells #[.int .i64 t, .int .i64 cn, .string qu, .int .i64 pr, .int .i64 un] 25))
  generalize decide (pr = 0) = b1 at *
  generalize hb2 : decide (un < pr) = b2 at *
  cases b1 <;> cases b2
  all_goals
    go_enter Try.func9, Try.ntmps9
    go_wp2
    go_ret
    exact ⟨rfl, HB.out⟩

set_option maxHeartbeats 1000000 in
theorem rReady_any (x : Cs) (w : World) :
    Calls Try.prog 10 #[csV x] w fun e w' => e = .returned (.bool (rdyC x)) ∧ Below w.heap.size w w' := by
  obtain ⟨t, cn, qu, pr, un⟩ := x
  have q1 : (pr == 0) = decide (pr = 0) := eqI pr 0
  unfold rdyC csV gC
  have HB := Lib.hid (S2.below_new w (.cells #[.int .i64 t, .int .i64 cn, .string qu, .int .i64 pr, .int .i64 un] 25))
  generalize decide (pr = 0) = b1 at *
  generalize hb2 : decide (un < pr) = b2 at *
  cases b1 <;> cases b2
  all_goals
    go_enter Try.func10, Try.ntmps10
    go_wp2
    go_ret
    exact ⟨rfl, HB.out⟩
theorem rin_any (n : Int) (w : World) : Calls Try.prog 37 #[.int .i64 n] w fun e w' => e = .returned (.bool (inN n)) ∧ w' = w := by
  unfold inN
  generalize hb1 : decide (0 ≤ n) = b1 at *
  generalize hb2 : decide (n ≤ 1099511627776) = b2 at *
  cases b1 <;> cases b2
  all_goals
    go_enter Try.func37, Try.ntmps37
    go_wp2
    go_ret
    exact ⟨rfl, rfl⟩
set_option maxHeartbeats 2000000 in
theorem rfind_any (A : Option Addr) (c : Nat) (xs : List Cs) (cn tg : Int) (w : World) (h : CsL w w.heap.size A xs) (hn : xs.length ≤ 140737488355328) :
    Calls Try.prog 31 #[.slice A xs.length c, .int .i64 cn, .int .i64 tg] w fun e w' => e = .returned (.int .i64 (ixI (fnC xs cn tg))) ∧ Below w.heap.size w w' := by
  have HS := Lib.hid h
  obtain ⟨R, hR⟩ : ∃ R, fnC xs cn tg = R := ⟨_, rfl⟩
  rw [hR]
  have HR : Hid (R = fndC cn tg (xs.drop 0) 0) := Lib.hid (by rw [List.drop_zero]; exact hR.symm)
  clear h hR
  go_enter Try.func31, Try.ntmps31
  go_wp2
  go_loopg [11] xs.length (fun g v wr => ∃ k : Nat, k + g = xs.length ∧ v = .int .i64 k ∧ R = fndC cn tg (xs.drop k) k ∧ Below w.heap.size w wr)
  case atStart => exact ⟨0, by omega, rfl, HR.out, Below.refl _ _⟩
  case round =>
    obtain ⟨k, hkg, rfl, hrel, hb0⟩ := hrel
    have HREL := Lib.hid hrel
    have HB0 := Lib.hid hb0
    have HG := Lib.hid hkg
    clear hrel HR hb0
    cases gk with
    | zero =>
      obtain rfl : k = xs.length := by omega
      have HF : Hid (ixI R = -1) := Lib.hid (by rw [HREL.out, List.drop_length]; rfl)
      clear hkg
      go_wp2
      go_ret
      exact ⟨by rw [HF.out]; rfl, HB0.out⟩
    | succ gk =>
      have hlt : k < xs.length := by omega
      have e3 : decide ((k : Int) < (xs.length : Int)) = true := decide_eq_true (by omega)
      obtain ⟨x, hx⟩ : ∃ x, xs[k]? = some x := ⟨_, List.getElem?_eq_getElem hlt⟩
      obtain ⟨b, o, hA, hbB, hc⟩ := CsL.at_ (GL.step HS.out HB0.out) hx
      have HLD := Lib.hid (load_cs hc)
      have HD := Lib.hid (dropC hx)
      subst hA
      have j1 : (0 : Int) ≤ (k : Int) := by omega
      have j2 : (k : Int) < (xs.length : Int) := by omega
      have q1 : (x.conn == cn) = decide (x.conn = cn) := eqI _ _
      have q2 : (x.tag == tg) = decide (x.tag = tg) := eqI _ _
      clear hx hc hbB hkg
      have HC : Hid (isC cn tg x = (decide (x.conn = cn) && decide (x.tag = tg))) := Lib.hid rfl
      generalize decide (x.conn = cn) = b1 at *
      generalize decide (x.tag = tg) = b2 at *
      have HY : Hid ((b1 && b2) = true → ixI R = k) := Lib.hid (fun hh => by rw [HREL.out, HD.out, fndC, HC.out, if_pos hh]; rfl)
      have HN : Hid ((b1 && b2) = false → R = fndC cn tg (xs.drop (k + 1)) (k + 1)) := Lib.hid (fun hh => by rw [HREL.out, HD.out, fndC, HC.out, hh]; rfl)
      clear HREL
      cases b1 <;> cases b2
      all_goals
        go_wp2_with first
          | (refine wpList_load_v (by rfl) 25 _ rfl ⟨b, o + k * 5, none⟩ (by go_simp) _ HLD.out ?_)
          | (refine S2.wpList_store_all (by rfl) 25 (.tmp 8) (.tmp 15) rfl rfl wr.heap.size rfl (gC x) rfl 25 _ (BK.new wr _ _) conSize rfl (gC_one _) ?_; intro w2 hM hP; have hb := hP.below (S2.below_new wr _) (Nat.le_refl _); have B_w2 := Lib.hid (stepB HB0.out hb); obtain ⟨z0, z1, z2, z3, z4⟩ := cells5 hM; clear hM hP hb z2 z3 z4)
      · go_roundg gk
        case measure => omega
        case rel => exact ⟨k + 1, by have := HG.out; omega, by go_num, HN.out rfl, B_w2.out⟩
      · go_roundg gk
        case measure => omega
        case rel => exact ⟨k + 1, by have := HG.out; omega, by go_num, HN.out rfl, B_w2.out⟩
      · go_roundg gk
        case measure => omega
        case rel => exact ⟨k + 1, by have := HG.out; omega, by go_num, HN.out rfl, B_w2.out⟩
      · go_ret
        exact ⟨by rw [HY.out rfl]; rfl, B_w2.out⟩

set_option maxRecDepth 20000 in
set_option maxHeartbeats 4000000 in
theorem rOne_any (A : Option Addr) (c : Nat) (xs : List Cs) (x : Cs) (w : World) (h : CsL w w.heap.size A xs) (hn : xs.length ≤ 140737488355328) (hq : x.qu.size ≤ 9223372036854775807) :
    Calls Try.prog 24 #[.slice A xs.length c, csV x] w fun e w' => e = .returned (.int .i64 (oneC xs x)) ∧ Below w.heap.size w w' := by
  obtain ⟨t, cn, qu, pr, un⟩ := x
  have hb1 := S2.below_new w (.cells #[.int .i64 t, .int .i64 cn, .string qu, .int .i64 pr, .int .i64 un] 25)
  have HS := Lib.hid (GL.step h hb1)
  have HB1 := Lib.hid hb1
  have HI := Lib.hid (fun n w1 => rin_any n w1)
  have HNm := Lib.hid (fun (w1 : World) => rName_dl qu w1 hq)
  have HFd := Lib.hid (fun (w1 : World) (hs : CsL w1 w1.heap.size A xs) => rfind_any A c xs cn t w1 hs hn)
  have HK := Lib.hid (BK.new w 25 (gC ⟨t, cn, qu, pr, un⟩))
  have HE : Hid (oneC xs ⟨t, cn, qu, pr, un⟩ = oneE (xs.any (isC cn t)) ⟨t, cn, qu, pr, un⟩) := Lib.hid rfl
  have HF : Hid ((fnC xs cn t = none ∧ xs.any (isC cn t) = false) ∨ ∃ i, fnC xs cn t = some i ∧ xs.any (isC cn t) = true) := Lib.hid (by
    cases hf : fnC xs cn t with
    | none => exact .inl ⟨rfl, fn_none.1 hf⟩
    | some i =>
      refine .inr ⟨i, rfl, ?_⟩
      cases ha : xs.any (isC cn t) with
      | true => rfl
      | false => rw [fn_none.2 ha] at hf; cases hf)
  generalize oneC xs ⟨t, cn, qu, pr, un⟩ = R at *
  generalize xs.any (isC cn t) = hs at *
  generalize fnC xs cn t = fo at *
  unfold oneE at HE
  dsimp only at HE
  obtain ⟨i1, h1⟩ : ∃ z, inN t = z := ⟨_, rfl⟩
  obtain ⟨i2, h2⟩ : ∃ z, inN cn = z := ⟨_, rfl⟩
  obtain ⟨i3, h3⟩ : ∃ z, inN pr = z := ⟨_, rfl⟩
  obtain ⟨i4, h4⟩ : ∃ z, inN un = z := ⟨_, rfl⟩
  obtain ⟨i5, h5⟩ : ∃ z, T.nameL (dl qu) = z := ⟨_, rfl⟩
  have I1 := Lib.hid (HI.out t)
  have I2 := Lib.hid (HI.out cn)
  have I3 := Lib.hid (HI.out pr)
  have I4 := Lib.hid (HI.out un)
  rw [h1] at I1
  rw [h2] at I2
  rw [h3] at I3
  rw [h4] at I4
  rw [h5] at HNm
  rw [h1, h2, h3, h4, h5] at HE
  clear h hb1 h1 h2 h3 h4 h5 HI
  unfold csV gC
  unfold gC at HK
  go_enter Try.func24, Try.ntmps24
  go_wp2_with fail
  refine (I1.out _).mono ?_
  rintro e w2 ⟨rfl, rfl⟩
  cases i1 with
  | false =>
    have HR : Hid (R = 1) := Lib.hid HE.out
    go_wp2
    go_ret
    exact ⟨by rw [HR.out]; rfl, HB1.out⟩
  | true =>
  go_wp2_with fail
  refine (I2.out _).mono ?_
  rintro e w2 ⟨rfl, rfl⟩
  cases i2 with
  | false =>
    have HR : Hid (R = 1) := Lib.hid HE.out
    go_wp2
    go_ret
    exact ⟨by rw [HR.out]; rfl, HB1.out⟩
  | true =>
  go_wp2_with fail
  refine (I3.out _).mono ?_
  rintro e w2 ⟨rfl, rfl⟩
  cases i3 with
  | false =>
    have HR : Hid (R = 1) := Lib.hid HE.out
    go_wp2
    go_ret
    exact ⟨by rw [HR.out]; rfl, HB1.out⟩
  | true =>
  go_wp2_with fail
  refine (I4.out _).mono ?_
  rintro e w2 ⟨rfl, rfl⟩
  cases i4 with
  | false =>
    have HR : Hid (R = 1) := Lib.hid HE.out
    go_wp2
    go_ret
    exact ⟨by rw [HR.out]; rfl, HB1.out⟩
  | true =>
  go_wp2_with fail
  refine (HNm.out _).mono ?_
  rintro e w2 ⟨rfl, hb⟩
  have HK2 := Lib.hid (HK.out.step hb)
  have HS2 := Lib.hid (GL.step HS.out hb)
  have HB2 := Lib.hid (stepB HB1.out hb)
  clear hb HK HS HB1
  obtain ⟨z0, z1, z2, z3, z4⟩ := cells5 (x := ⟨t, cn, qu, pr, un⟩) HK2.out
  cases i5 with
  | false =>
    have HR : Hid (R = 11) := Lib.hid HE.out
    go_wp2
    go_ret
    exact ⟨by rw [HR.out]; rfl, HB2.out⟩
  | true =>
  go_wp2_with fail
  refine (HFd.out _ HS2.out).mono ?_
  rintro e w3 ⟨rfl, hb⟩
  have HB3 := Lib.hid (stepB HB2.out hb)
  clear hb z0 z1 z2 z3 z4
  rcases HF.out with ⟨hf, hh⟩ | ⟨i, hf, hh⟩
  · subst hf hh
    have HR : Hid (R = 0) := Lib.hid HE.out
    unfold ixI
    dsimp only
    go_wp2
    go_ret
    exact ⟨by rw [HR.out]; rfl, HB3.out⟩
  · subst hf hh
    have HR : Hid (R = 7) := Lib.hid HE.out
    unfold ixI
    dsimp only
    have e4 : (0 : Int) ≤ (i : Int) := by omega
    have e5 : decide ((0 : Int) ≤ (i : Int)) = true := decide_eq_true (by omega)
    go_wp2
    go_ret
    exact ⟨by rw [HR.out]; rfl, HB3.out⟩
end Go.Proofs.Ytjkhfifnfgchgaa
