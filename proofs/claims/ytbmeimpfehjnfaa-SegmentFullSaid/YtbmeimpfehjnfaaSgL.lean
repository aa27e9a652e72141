/-
  SegmentFull answers true, walked. Conditions: the numbers fit theirs.
-/
import Derived.Test.YtbmeimpfehjnfaaSgG
namespace Go.Proofs.Ytbmeimpfehjnfaa
open Go.RowKit
open S2 (BK Put get_ops exec_load)

theorem rcEnc_low {r : Rc} (h : rcCk r = 0) : r.val.size + 5 ≤ (rcEnc r).length := by
  have hl := rcPay_len h
  have e : rcEnc r = wrapR (rcPay r) := by unfold rcEnc; rw [if_neg (by omega)]
  have h1 := (enc_len (rcPay r).length).1
  have h6 : (rcPay r).length = (enc r.off).length + (enc r.kind).length + (encT r.key).length + (encT r.val).length := by unfold rcPay; simp only [List.length_append]
  have h7 : r.val.size ≤ (encT r.val).length := by unfold encT; rw [List.length_append, size_dl]; omega
  rw [e, wrap_len (by omega)]
  omega
theorem full_ck {o : Int} {v : ByteArray} (h1 : 0 ≤ o) (h2 : o ≤ 1000) (hv : v.size ≤ 4096) : rcCk ⟨o, 1, ⟨#[107]⟩, v⟩ = 0 := by
  unfold rcCk
  have hk : (⟨#[107]⟩ : ByteArray).size = 1 := rfl
  dsimp only
  rw [hk, if_neg (by omega), if_neg (by omega), if_neg (by omega), if_neg (by omega), if_neg (by omega)]

set_option maxRecDepth 20000 in
set_option maxHeartbeats 16000000 in
theorem segmentFull_walk (base : Int) (y : UInt8) (w : World) :
    Calls Try.prog 9 #[.int .i64 base, .int .u8 y.toNat] w fun e w' => e = .returned (.bool true) ∧ Below w.heap.size w w' := by
  have hy := y.toNat_lt
  by_cases h1 : base < 0
  · have B_w := Lib.hid (Below.refl w.heap.size w)
    go_enter Try.func9, Try.ntmps9
    go_wp2_with fail
    refine (awake32_any w).mono ?_
    rintro e y1 ⟨rfl, hb⟩
    have B_y1 : Hid (Below w.heap.size w y1) := Lib.hid ((stepB B_w.out hb))
    clear B_w
    clear hb
    go_wp2_with fail
    go_ret
    exact ⟨rfl, B_y1.out⟩
  by_cases h2 : 100 < base
  · have B_w := Lib.hid (Below.refl w.heap.size w)
    go_enter Try.func9, Try.ntmps9
    go_wp2_with fail
    refine (awake32_any w).mono ?_
    rintro e y1 ⟨rfl, hb⟩
    have B_y1 : Hid (Below w.heap.size w y1) := Lib.hid ((stepB B_w.out hb))
    clear B_w
    clear hb
    go_wp2_with fail
    go_ret
    exact ⟨rfl, B_y1.out⟩
  obtain ⟨m, hm⟩ : ∃ m, y.toNat = m := ⟨_, rfl⟩
  rw [hm] at hy ⊢
  clear hm
  have hwm : wrap64 (m : Int) = (m : Int) := wrap64_id _ (by omega) (by omega)
  have hwn : wrap64 (4096 - (m : Int)) = 4096 - (m : Int) := wrap64_id _ (by omega) (by omega)
  have B_w := Lib.hid (Below.refl w.heap.size w)
  go_enter Try.func9, Try.ntmps9
  go_wp2_with fail
  go_loopg [5] 256 (fun g v wr => ∃ (s : ByteArray), v = .string s ∧ s.size + 16 * g = 4096 ∧ w = wr)
  case atStart => exact ⟨⟨#[]⟩, rfl, rfl, rfl⟩
  case round =>
    obtain ⟨s, rfl, hsz, hwr⟩ := hrel
    subst hwr
    by_cases hlt : (s.size : Int) < 4096 - (m : Int)
    · have d1 : decide ((s.size : Int) < 4096 - (m : Int)) = true := decide_eq_true hlt
      obtain ⟨g, rfl⟩ : ∃ g, gk = g + 1 := ⟨gk - 1, by omega⟩
      have HSZ := Lib.hid hsz
      have hs2 : s.size ≤ 5000 := by omega
      clear hsz
      go_wp2_with fail
      go_roundg g
      case measure => exact Nat.lt_succ_self _
      case rel => exact ⟨_, rfl, by rw [ByteArray.size_append]; have h := HSZ.out; have h2 : (⟨#[48, 49, 50, 51, 52, 53, 54, 55, 56, 57, 97, 98, 99, 100, 101, 102]⟩ : ByteArray).size = 16 := rfl; omega, rfl⟩
    · have d1 : decide ((s.size : Int) < 4096 - (m : Int)) = false := decide_eq_false hlt
      have i1 : (0 : Int) ≤ 4096 - (m : Int) := by omega
      have i2 : 4096 - (m : Int) ≤ (s.size : Int) := by omega
      clear hsz d1
      go_upto_region 7 with fail
      have hvs : (s.extract 0 (4096 - m)).size = 4096 - m := by rw [ByteArray.size_extract]; omega
      generalize s.extract 0 (4096 - m) = val at *
      clear i1 i2 hlt hwm hwn
      go_wp2_with fail
      refine (sNew_any base w).mono ?_
      rintro e x1 ⟨rfl, hb⟩
      have B_x1 : Hid (Below w.heap.size w x1) := Lib.hid ((stepB B_w.out hb))
      have ZB0 : Hid (w.heap.size ≤ x1.heap.size) := Lib.hid B_x1.out.size
      clear B_w
      clear hb
      have HVS := Lib.hid hvs
      clear hvs
      go_upto_region 8 with first
        | (refine S2.wpList_store_all (by rfl) 24 (.tmp 6) (.tmp 33) rfl rfl (x1.heap.size) rfl (sgC base base none 0 0) rfl 24 (sgC 0 0 none 0 0) (BK.new x1 _ _) sgSize rfl (S2.all_one rfl) ?_; intro x2 hM hP; have hb : Below x1.heap.size x1 x2 := hP.below (S2.below_new x1 _) (Nat.le_refl _); have B_x2 : Hid (Below w.heap.size w x2) := Lib.hid ((stepB B_x1.out hb)); have U_x2 : Hid (BK 24 x2 (x1.heap.size) (sgC base base none 0 0)) := Lib.hid hM; clear hM hP hb B_x1)
      have ZB : Hid (w.heap.size ≤ x1.heap.size) := Lib.hid (by have h := B_x2.out.size; have h2 := U_x2.out.lt; exact ZB0.out)
      go_wp2_with fail
      go_loopg [7] 18 (fun g v7 wr => ∃ (k : Nat) (A9 : Option Addr) (c9 : Nat) (l : List UInt8), k + g = 18 ∧ v7 = .int .i64 k ∧ 3846 * k ≤ l.length ∧ l.length ≤ 65536 ∧ BK 24 wr (x1.heap.size) (sgC base (base + (k : Int)) A9 l.length c9) ∧ CN (x1.heap.size + 1) wr A9 l ∧ Below w.heap.size w wr)
      case atStart => exact ⟨0, none, 0, [], by omega, rfl, by simp, by simp, by simpa using U_x2.out, CN.nil _ _, B_x2.out⟩
      case round =>
        clear U_x2 B_x2
        obtain ⟨k, A9, c9, l, hkg, rfl, hlow, hup, hU, hO, hb⟩ := hrel
        have U_wr := Lib.hid hU
        have O_wr := Lib.hid hO
        have B_wr := Lib.hid hb
        have HK := Lib.hid hkg
        have HLO := Lib.hid hlow
        have HUP := Lib.hid hup
        clear hU hO hb
        have hk17 : k ≤ 17 := by omega
        have d0 : decide ((k : Int) < 18) = true := decide_eq_true (by omega)
        have hck := full_ck (o := base + (k : Int)) (v := val) (by omega) (by omega) (by have := HVS.out; omega)
        have hen := rcEnc_low hck
        have heu := (rcEnc_len hck).2
        have HSZ : Hid (∀ w, Calls Try.prog 27 #[.agg #[.int .i64 (base + (k : Int)), .int .i64 1, .string ⟨#[107]⟩, .string val]] w fun e w' => e = .returned (.int .i64 ((rcEnc ⟨base + (k : Int), 1, ⟨#[107]⟩, val⟩).length : Int)) ∧ Below w.heap.size w w') := Lib.hid (fun w => rrSize_any ⟨base + (k : Int), 1, ⟨#[107]⟩, val⟩ w ⟨by show (⟨#[107]⟩ : ByteArray).size ≤ 5000; decide, by have := HVS.out; dsimp only; omega⟩)
        have HAP := Lib.hid (fun w h => sAppend_any base (base + (k : Int)) A9 c9 l 1 ⟨#[107]⟩ val w h hup ⟨by decide, by have := HVS.out; omega⟩)
        unfold RetSA at HAP
        have hap : sgApp base (base + (k : Int)) l 1 ⟨#[107]⟩ val = if 65536 < l.length + (rcEnc ⟨base + (k : Int), 1, ⟨#[107]⟩, val⟩).length then ((0, 0, []), 0, 6) else ((base, base + (k : Int) + 1, l ++ rcEnc ⟨base + (k : Int), 1, ⟨#[107]⟩, val⟩), base + (k : Int), 0) := by unfold sgApp; rw [hck, if_neg (by decide)]
        rw [hap] at HAP
        dsimp only at hen
        generalize hT : rcEnc ⟨base + (k : Int), 1, ⟨#[107]⟩, val⟩ = T at *
        have hv := HVS.out
        have hwk : wrap64 (base + (k : Int)) = base + (k : Int) := wrap64_id _ (by omega) (by omega)
        have hwk1 : wrap64 ((k : Int) + 1) = (k : Int) + 1 := wrap64_id _ (by omega) (by omega)
        have hws : wrap64 ((l.length : Int) + (T.length : Int)) = (l.length : Int) + (T.length : Int) := wrap64_id _ (by omega) (by omega)
        have hten : 3846 ≤ T.length := by omega
        clear hT hck hap hen heu hkg hlow hup hv
        by_cases hbig : 65536 < l.length + T.length
        · rw [if_pos hbig] at HAP
          dsimp only at HAP
          have d1 : decide ((65536 : Int) < (l.length : Int) + (T.length : Int)) = true := decide_eq_true (by omega)
          clear hbig
          go_wp2_with fail
          refine (HSZ.out wr).mono ?_
          rintro e z1 ⟨rfl, hb⟩
          have B_z1 : Hid (Below w.heap.size w z1) := Lib.hid ((stepB B_wr.out hb))
          have U_z1 : Hid (BK 24 z1 (x1.heap.size) (sgC base (base + (k : Int)) A9 l.length c9)) := Lib.hid (U_wr.out.step hb)
          have O_z1 : Hid (CN (x1.heap.size + 1) z1 A9 l) := Lib.hid (O_wr.out.step hb)
          clear B_wr U_wr O_wr
          clear hb
          go_upto_region 12 with fail
          have u0 := U_z1.out.cell 0 rfl
          have u1 := U_z1.out.cell 1 rfl
          have u2 := U_z1.out.cell 2 rfl
          go_wp2_with fail
          refine (HAP.out z1 O_z1.out.1).mono ?_
          rintro e z2 ⟨A1, c1, rfl, hc1, hN, hb⟩
          clear u0 u1 u2
          have B_z2 : Hid (Below w.heap.size w z2) := Lib.hid ((stepB B_z1.out hb))
          have U_z2 : Hid (BK 24 z2 (x1.heap.size) (sgC base (base + (k : Int)) A9 l.length c9)) := Lib.hid (U_z1.out.step hb)
          have O_z2 : Hid (CN (x1.heap.size + 1) z2 A9 l) := Lib.hid (O_z1.out.step hb)
          clear B_z1 U_z1 O_z1
          clear hb
          go_upto_region 13 with first
            | (refine S2.wpList_store_all (by rfl) 24 (.tmp 9) (.tmp 48) rfl rfl (z2.heap.size) rfl (sgC 0 0 A1 0 c1) rfl 24 (sgC 0 0 none 0 0) (BK.new z2 _ _) sgSize rfl (S2.all_one rfl) ?_; intro z3 hM hP; have hb : Below z2.heap.size z2 z3 := hP.below (S2.below_new z2 _) (Nat.le_refl _); have B_z3 : Hid (Below w.heap.size w z3) := Lib.hid ((stepB B_z2.out hb)); have U_z3 : Hid (BK 24 z3 (x1.heap.size) (sgC base (base + (k : Int)) A9 l.length c9)) := Lib.hid (U_z2.out.step hb); have O_z3 : Hid (CN (x1.heap.size + 1) z3 A9 l) := Lib.hid (O_z2.out.step hb); have T_z3 : Hid (BK 24 z3 (z2.heap.size) (sgC 0 0 A1 0 c1)) := Lib.hid hM; clear hM hP hb B_z2 U_z2 O_z2)
          have u2 := U_z3.out.cell 2 rfl
          have t0 := T_z3.out.cell 0 rfl
          have t1 := T_z3.out.cell 1 rfl
          have t2 := T_z3.out.cell 2 rfl
          go_wp2_with fail
          refine (sgSame_any 0 0 A1 none c1 0 [] z3 (CL.nil _ _ _) (CL.nil _ _ _)).mono ?_
          rintro e z4 ⟨rfl, hb⟩
          clear u2 t0 t1 t2
          have B_z4 : Hid (Below w.heap.size w z4) := Lib.hid ((stepB B_z3.out hb))
          have U_z4 : Hid (BK 24 z4 (x1.heap.size) (sgC base (base + (k : Int)) A9 l.length c9)) := Lib.hid (U_z3.out.step hb)
          have O_z4 : Hid (CN (x1.heap.size + 1) z4 A9 l) := Lib.hid (O_z3.out.step hb)
          have T_z4 : Hid (BK 24 z4 (z2.heap.size) (sgC 0 0 A1 0 c1)) := Lib.hid (T_z3.out.step hb)
          clear B_z3 U_z3 O_z3 T_z3
          clear hb
          clear hN
          go_wp2_with fail
          refine (awake32_any z4).mono ?_
          rintro e z5 ⟨rfl, hb⟩
          have B_z5 : Hid (Below w.heap.size w z5) := Lib.hid ((stepB B_z4.out hb))
          have U_z5 : Hid (BK 24 z5 (x1.heap.size) (sgC base (base + (k : Int)) A9 l.length c9)) := Lib.hid (U_z4.out.step hb)
          have O_z5 : Hid (CN (x1.heap.size + 1) z5 A9 l) := Lib.hid (O_z4.out.step hb)
          have T_z5 : Hid (BK 24 z5 (z2.heap.size) (sgC 0 0 A1 0 c1)) := Lib.hid (T_z4.out.step hb)
          clear B_z4 U_z4 O_z4 T_z4
          clear hb
          go_wp2_with fail
          go_ret
          exact ⟨rfl, B_z5.out⟩
        have hk16 : k ≠ 17 := fun h => by subst h; have := HLO.out; omega
        rw [if_neg hbig] at HAP
        dsimp only at HAP
        obtain ⟨l2, hl2⟩ : ∃ z, l ++ T = z := ⟨_, rfl⟩
        have hlen : l2.length = l.length + T.length := by rw [← hl2, List.length_append]
        rw [hl2] at HAP
        have HL2 := Lib.hid hlen
        have HBG := Lib.hid hbig
        have d1 : decide ((65536 : Int) < (l.length : Int) + (T.length : Int)) = false := decide_eq_false (by omega)
        have d2 : ((l2.length : Int) != (l.length : Int) + (T.length : Int)) = false := by rw [hlen]; simp
        clear hbig hl2 hlen
        go_wp2_with fail
        refine (HSZ.out wr).mono ?_
        rintro e z1 ⟨rfl, hb⟩
        have B_z1 : Hid (Below w.heap.size w z1) := Lib.hid ((stepB B_wr.out hb))
        have U_z1 : Hid (BK 24 z1 (x1.heap.size) (sgC base (base + (k : Int)) A9 l.length c9)) := Lib.hid (U_wr.out.step hb)
        have O_z1 : Hid (CN (x1.heap.size + 1) z1 A9 l) := Lib.hid (O_wr.out.step hb)
        clear B_wr U_wr O_wr
        clear hb
        go_upto_region 12 with fail
        have u0 := U_z1.out.cell 0 rfl
        have u1 := U_z1.out.cell 1 rfl
        have u2 := U_z1.out.cell 2 rfl
        go_wp2_with fail
        have ZL0 : Hid (x1.heap.size + 1 ≤ z1.heap.size) := Lib.hid U_z1.out.lt
        refine (HAP.out z1 O_z1.out.1).mono ?_
        rintro e z2 ⟨A1, c1, rfl, hc1, hN, hb⟩
        clear u0 u1 u2
        have B_z2 : Hid (Below w.heap.size w z2) := Lib.hid ((stepB B_z1.out hb))
        have U_z2 : Hid (BK 24 z2 (x1.heap.size) (sgC base (base + (k : Int)) A9 l.length c9)) := Lib.hid (U_z1.out.step hb)
        have O_z2 : Hid (CN (x1.heap.size + 1) z2 A9 l) := Lib.hid (O_z1.out.step hb)
        clear B_z1 U_z1 O_z1
        have ZL : Hid (x1.heap.size + 1 ≤ z1.heap.size) := Lib.hid ZL0.out
        have N_z2 : Hid (CN (x1.heap.size + 1) z2 A1 l2) := Lib.hid (hN.weak ZL.out)
        clear hN hc1
        clear hb
        go_upto_region 13 with first
          | (refine S2.wpList_store_all (by rfl) 24 (.tmp 9) (.tmp 48) rfl rfl (z2.heap.size) rfl (sgC base (base + (k : Int) + 1) A1 l2.length c1) rfl 24 (sgC 0 0 none 0 0) (BK.new z2 _ _) sgSize rfl (S2.all_one rfl) ?_; intro z3 hM hP; have hb : Below z2.heap.size z2 z3 := hP.below (S2.below_new z2 _) (Nat.le_refl _); have B_z3 : Hid (Below w.heap.size w z3) := Lib.hid ((stepB B_z2.out hb)); have U_z3 : Hid (BK 24 z3 (x1.heap.size) (sgC base (base + (k : Int)) A9 l.length c9)) := Lib.hid (U_z2.out.step hb); have O_z3 : Hid (CN (x1.heap.size + 1) z3 A9 l) := Lib.hid (O_z2.out.step hb); have N_z3 : Hid (CN (x1.heap.size + 1) z3 A1 l2) := Lib.hid (N_z2.out.step hb); have T_z3 : Hid (BK 24 z3 (z2.heap.size) (sgC base (base + (k : Int) + 1) A1 l2.length c1)) := Lib.hid hM; clear hM hP hb B_z2 U_z2 O_z2 N_z2)
        have u0 := U_z3.out.cell 0 rfl
        have u1 := U_z3.out.cell 1 rfl
        have u2 := U_z3.out.cell 2 rfl
        have t0 := T_z3.out.cell 0 rfl
        have t1 := T_z3.out.cell 1 rfl
        have t2 := T_z3.out.cell 2 rfl
        go_wp2_with first
          | (refine S2.wpList_store_all (by rfl) 24 (.tmp 6) (.tmp 91) rfl rfl (x1.heap.size) rfl (sgC base (base + (k : Int) + 1) A1 l2.length c1) rfl 24 (sgC base (base + (k : Int)) A9 l.length c9) U_z3.out sgSize rfl (S2.all_one rfl) ?_; intro z4 hM hP; have U_z4 : Hid (BK 24 z4 (x1.heap.size) (sgC base (base + (k : Int) + 1) A1 l2.length c1)) := Lib.hid hM; have B_z4 : Hid (Below w.heap.size w z4) := Lib.hid (hP.below B_z3.out ZB.out); have N_z4 : Hid (CN (x1.heap.size + 1) z4 A1 l2) := Lib.hid (CN.put N_z3.out hP (Nat.lt_succ_self _)); clear hM hP B_z3 U_z3 O_z3 N_z3 T_z3)
        go_roundg (17 - k)
        case measure => have := HK.out; omega
        case rel => exact ⟨k + 1, A1, c1, l2, by have := HK.out; omega, by go_num, by have h1 := HLO.out; have h2 := HL2.out; omega, by have h2 := HL2.out; have h3 := HBG.out; omega, (by have hU2 := U_z4.out; rw [show base + ((k + 1 : Nat) : Int) = base + (k : Int) + 1 by omega]; exact hU2), N_z4.out, B_z4.out⟩
end Go.Proofs.Ytbmeimpfehjnfaa
