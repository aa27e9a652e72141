/-
  The law ExchangePatterns: it answers true. Conditions: the library's bound on short texts holds a number.
-/
import Derived.Test.YtglnkpgdmophlaaGreatDoorEpZ
namespace Go.Proofs.YtglnkpgdmophlaaGreatDoor
open Go.RowKit
open S2 (BK Put)

set_option maxRecDepth 20000 in
set_option maxHeartbeats 8000000 in
theorem exchangePatterns_walk (p k m : ByteArray) (w : World) (ho : S1.Okw w) (_ : p.size ≤ 140737488355328) (_ : k.size ≤ 140737488355328) (_ : m.size ≤ 140737488355328) :
    Calls Tryz.prog 7 #[.string p, .string k, .string m] w fun e w' => e = .returned (.bool true) ∧ Below w.heap.size w w' := by
  have HX := Lib.hid (fun w1 h => exHolds_any w1 h)
  have HO := Lib.hid ho
  have HTX := Lib.hid (fun s w1 => xText_any s w1)
  clear ho
  by_cases h1 : 200 < p.size
  · have O_w0 := HO
    have B_w0 : Hid (Below w.heap.size w w) := Lib.hid (Below.refl _ _)
    clear HO
    clear HTX
    go_enter Tryz.func7, Tryz.ntmps7
    go_wp2_with fail
    refine (HX.out _ O_w0.out).mono ?_
    rintro e wz ⟨rfl, hb⟩
    have B_wz := Lib.hid (stepB B_w0.out hb)
    clear hb
    go_wp2_with fail
    go_ret
    exact ⟨rfl, B_wz.out⟩
  · by_cases h2 : 200 < k.size
    · have O_w0 := HO
      have B_w0 : Hid (Below w.heap.size w w) := Lib.hid (Below.refl _ _)
      clear HO
      clear HTX
      go_enter Tryz.func7, Tryz.ntmps7
      go_wp2_with fail
      refine (HX.out _ O_w0.out).mono ?_
      rintro e wz ⟨rfl, hb⟩
      have B_wz := Lib.hid (stepB B_w0.out hb)
      clear hb
      go_wp2_with fail
      go_ret
      exact ⟨rfl, B_wz.out⟩
    · by_cases h3 : 200 < m.size
      · have O_w0 := HO
        have B_w0 : Hid (Below w.heap.size w w) := Lib.hid (Below.refl _ _)
        clear HO
        clear HTX
        go_enter Tryz.func7, Tryz.ntmps7
        go_wp2_with fail
        refine (HX.out _ O_w0.out).mono ?_
        rintro e wz ⟨rfl, hb⟩
        have B_wz := Lib.hid (stepB B_w0.out hb)
        clear hb
        go_wp2_with fail
        go_ret
        exact ⟨rfl, B_wz.out⟩
      · have HT1 := Lib.hid (fun w1 h => turned_any p w1 h (by omega))
        have HT2 := Lib.hid (fun w1 h => turned_any k w1 h (by omega))
        have HP1 := Lib.hid (fun w1 h => plain_any p w1 h (by omega))
        have HP2 := Lib.hid (fun w1 h => plain_any k w1 h (by omega))
        have HM1 := Lib.hid (fun w1 h => xMatches_any p k w1 h)
        have HM2 := Lib.hid (fun w1 h => stepMt (mtR_tn (p := p) (k := k)) (w := w1) h)
        have HM3 := Lib.hid (fun hk w1 h => stepMt (mtR_hash (k := k) hk) (w := w1) h)
        have HPL := Lib.hid (fun h1 h2 h3 => mtR_plain (p := p) (k := k) h1 h2 h3)
        have HM4 := Lib.hid (fun h1 h2 h3 w1 h => stepMt (mtR_self (k := k) h1 h2 h3) (w := w1) h)
        have HM5 := Lib.hid (fun h1 h2 h3 w1 h => stepMt (mtR_long (k := k) (m := m) h1 h2 h3) (w := w1) h)
        have HX1 := Lib.hid (fun w1 => HTX.out p w1)
        have HX2 := Lib.hid (fun w1 => HTX.out k w1)
        have HX3 := Lib.hid (fun w1 => HTX.out (k ++ ⟨#[46, 35]⟩) w1)
        have HX4 := Lib.hid (fun w1 => HTX.out (k ++ ⟨#[46]⟩ ++ m) w1)
        have q1 : (p.toList == k.toList) = decide (p = k) := str_dec _ _
        obtain ⟨d, hd⟩ : ∃ d, decide (p = k) = d := ⟨_, rfl⟩
        rw [hd] at q1 HPL
        generalize mtR p k = b at *
        generalize tnB p = tp at *
        generalize tnB k = tk at *
        generalize plR p = pb at *
        generalize plR k = kb at *
        obtain ⟨x1, hx1⟩ : ∃ x, txR p = x := ⟨_, rfl⟩
        obtain ⟨x2, hx2⟩ : ∃ x, txR k = x := ⟨_, rfl⟩
        obtain ⟨x3, hx3⟩ : ∃ x, txR (k ++ ⟨#[46, 35]⟩) = x := ⟨_, rfl⟩
        obtain ⟨x4, hx4⟩ : ∃ x, txR (k ++ ⟨#[46]⟩ ++ m) = x := ⟨_, rfl⟩
        rw [hx1] at HX1 HPL
        rw [hx2] at HX2 HM3 HPL HM4
        rw [hx3] at HX3 HM4 HM5
        rw [hx4] at HX4 HM5
        clear HTX hx1 hx2 hx3 hx4
        have q9 : (b != b) = false := by cases b <;> rfl
        have O_w0 := HO
        have B_w0 : Hid (Below w.heap.size w w) := Lib.hid (Below.refl _ _)
        clear HO
        by_cases ht1 : x1 = 0
        · by_cases ht2 : x2 = 0
          · have HMH := Lib.hid (HM3.out ht2)
            have HPP := Lib.hid (HPL.out ht1 ht2)
            have HM4K := Lib.hid (HM4.out)
            subst ht1 ht2
            clear HM3 HPL HM4
            go_enter Tryz.func7, Tryz.ntmps7
            go_wp2_with fail
            refine (HX1.out _).mono ?_
            rintro e x1 ⟨rfl, hw⟩
            have hw := hw.symm
            subst hw
            go_wp2_with fail
            refine (HX2.out _).mono ?_
            rintro e x2 ⟨rfl, hw⟩
            have hw := hw.symm
            subst hw
            go_wp2_with fail
            refine (HM1.out _ O_w0.out).mono ?_
            rintro e w3 ⟨rfl, hb⟩
            have B_w3 := Lib.hid (stepB B_w0.out hb)
            have O_w3 := Lib.hid (O_w0.out.step hb)
            clear hb B_w0 O_w0
            go_wp2_with fail
            refine (HT1.out _ O_w3.out).mono ?_
            rintro e w4 ⟨rfl, hb⟩
            have B_w4 := Lib.hid (stepB B_w3.out hb)
            have O_w4 := Lib.hid (O_w3.out.step hb)
            clear hb B_w3 O_w3
            go_wp2_with fail
            refine (HT2.out _ O_w4.out).mono ?_
            rintro e w5 ⟨rfl, hb⟩
            have B_w5 := Lib.hid (stepB B_w4.out hb)
            have O_w5 := Lib.hid (O_w4.out.step hb)
            clear hb B_w4 O_w4
            go_wp2_with fail
            refine (HM2.out _ O_w5.out).mono ?_
            rintro e w6 ⟨rfl, hb⟩
            have B_w6 := Lib.hid (stepB B_w5.out hb)
            have O_w6 := Lib.hid (O_w5.out.step hb)
            clear hb B_w5 O_w5
            go_wp2_with fail
            refine (HMH.out _ O_w6.out).mono ?_
            rintro e w7 ⟨rfl, hb⟩
            have B_w7 := Lib.hid (stepB B_w6.out hb)
            have O_w7 := Lib.hid (O_w6.out.step hb)
            clear hb B_w6 O_w6
            go_wp2_with fail
            refine (HP1.out _ O_w7.out).mono ?_
            rintro e w8 ⟨rfl, hb⟩
            have B_w8 := Lib.hid (stepB B_w7.out hb)
            have O_w8 := Lib.hid (O_w7.out.step hb)
            clear hb B_w7 O_w7
            cases pb with
            | false =>
              clear HPP
              go_wp2_with fail
              refine (HP2.out _ O_w8.out).mono ?_
              rintro e w9 ⟨rfl, hb⟩
              have B_w9 := Lib.hid (stepB B_w8.out hb)
              have O_w9 := Lib.hid (O_w8.out.step hb)
              clear hb B_w8 O_w8
              cases kb with
              | false =>
                go_wp2_with fail
                refine (HX.out _ O_w9.out).mono ?_
                rintro e wz ⟨rfl, hb⟩
                have B_wz := Lib.hid (stepB B_w9.out hb)
                clear hb
                go_wp2_with fail
                go_ret
                exact ⟨rfl, B_wz.out⟩
              | true =>
                go_wp2_with fail
                refine (HX3.out _).mono ?_
                rintro e x10 ⟨rfl, hw⟩
                have hw := hw.symm
                subst hw
                by_cases ht3 : x3 = 0
                · have HA := Lib.hid (HM4K.out (by trivial) ht3 (by trivial))
                  have HBB := Lib.hid (fun h => HM5.out h ht3 (by trivial))
                  subst ht3
                  clear HM4K HM5
                  go_wp2_with fail
                  refine (HX4.out _).mono ?_
                  rintro e x11 ⟨rfl, hw⟩
                  have hw := hw.symm
                  subst hw
                  by_cases ht4 : x4 = 0
                  · have HBC := Lib.hid (HBB.out ht4)
                    subst ht4
                    clear HBB
                    go_wp2_with fail
                    refine (HA.out _ O_w9.out).mono ?_
                    rintro e w12 ⟨rfl, hb⟩
                    have B_w12 := Lib.hid (stepB B_w9.out hb)
                    have O_w12 := Lib.hid (O_w9.out.step hb)
                    clear hb B_w9 O_w9
                    go_wp2_with fail
                    refine (HBC.out _ O_w12.out).mono ?_
                    rintro e w13 ⟨rfl, hb⟩
                    have B_w13 := Lib.hid (stepB B_w12.out hb)
                    have O_w13 := Lib.hid (O_w12.out.step hb)
                    clear hb B_w12 O_w12
                    go_wp2_with fail
                    refine (HX.out _ O_w13.out).mono ?_
                    rintro e wz ⟨rfl, hb⟩
                    have B_wz := Lib.hid (stepB B_w13.out hb)
                    clear hb
                    go_wp2_with fail
                    go_ret
                    exact ⟨rfl, B_wz.out⟩
                  · have q8 : (x4 == 0) = false := beq_eq_false_iff_ne.2 ht4
                    clear ht4
                    go_wp2_with fail
                    refine (HX.out _ O_w9.out).mono ?_
                    rintro e wz ⟨rfl, hb⟩
                    have B_wz := Lib.hid (stepB B_w9.out hb)
                    clear hb
                    go_wp2_with fail
                    go_ret
                    exact ⟨rfl, B_wz.out⟩
                · have q8 : (x3 == 0) = false := beq_eq_false_iff_ne.2 ht3
                  clear ht3
                  go_wp2_with fail
                  refine (HX.out _ O_w9.out).mono ?_
                  rintro e wz ⟨rfl, hb⟩
                  have B_wz := Lib.hid (stepB B_w9.out hb)
                  clear hb
                  go_wp2_with fail
                  go_ret
                  exact ⟨rfl, B_wz.out⟩
            | true =>
              have hbd := HPP.out (by trivial)
              subst hbd
              clear HPP
              go_wp2_with fail
              refine (HM1.out _ O_w8.out).mono ?_
              rintro e w14 ⟨rfl, hb⟩
              have B_w14 := Lib.hid (stepB B_w8.out hb)
              have O_w14 := Lib.hid (O_w8.out.step hb)
              clear hb B_w8 O_w8
              go_wp2_with fail
              refine (HP2.out _ O_w14.out).mono ?_
              rintro e w15 ⟨rfl, hb⟩
              have B_w15 := Lib.hid (stepB B_w14.out hb)
              have O_w15 := Lib.hid (O_w14.out.step hb)
              clear hb B_w14 O_w14
              cases kb with
              | false =>
                go_wp2_with fail
                refine (HX.out _ O_w15.out).mono ?_
                rintro e wz ⟨rfl, hb⟩
                have B_wz := Lib.hid (stepB B_w15.out hb)
                clear hb
                go_wp2_with fail
                go_ret
                exact ⟨rfl, B_wz.out⟩
              | true =>
                go_wp2_with fail
                refine (HX3.out _).mono ?_
                rintro e x16 ⟨rfl, hw⟩
                have hw := hw.symm
                subst hw
                by_cases ht3 : x3 = 0
                · have HA := Lib.hid (HM4K.out (by trivial) ht3 (by trivial))
                  have HBB := Lib.hid (fun h => HM5.out h ht3 (by trivial))
                  subst ht3
                  clear HM4K HM5
                  go_wp2_with fail
                  refine (HX4.out _).mono ?_
                  rintro e x17 ⟨rfl, hw⟩
                  have hw := hw.symm
                  subst hw
                  by_cases ht4 : x4 = 0
                  · have HBC := Lib.hid (HBB.out ht4)
                    subst ht4
                    clear HBB
                    go_wp2_with fail
                    refine (HA.out _ O_w15.out).mono ?_
                    rintro e w18 ⟨rfl, hb⟩
                    have B_w18 := Lib.hid (stepB B_w15.out hb)
                    have O_w18 := Lib.hid (O_w15.out.step hb)
                    clear hb B_w15 O_w15
                    go_wp2_with fail
                    refine (HBC.out _ O_w18.out).mono ?_
                    rintro e w19 ⟨rfl, hb⟩
                    have B_w19 := Lib.hid (stepB B_w18.out hb)
                    have O_w19 := Lib.hid (O_w18.out.step hb)
                    clear hb B_w18 O_w18
                    go_wp2_with fail
                    refine (HX.out _ O_w19.out).mono ?_
                    rintro e wz ⟨rfl, hb⟩
                    have B_wz := Lib.hid (stepB B_w19.out hb)
                    clear hb
                    go_wp2_with fail
                    go_ret
                    exact ⟨rfl, B_wz.out⟩
                  · have q8 : (x4 == 0) = false := beq_eq_false_iff_ne.2 ht4
                    clear ht4
                    go_wp2_with fail
                    refine (HX.out _ O_w15.out).mono ?_
                    rintro e wz ⟨rfl, hb⟩
                    have B_wz := Lib.hid (stepB B_w15.out hb)
                    clear hb
                    go_wp2_with fail
                    go_ret
                    exact ⟨rfl, B_wz.out⟩
                · have q8 : (x3 == 0) = false := beq_eq_false_iff_ne.2 ht3
                  clear ht3
                  go_wp2_with fail
                  refine (HX.out _ O_w15.out).mono ?_
                  rintro e wz ⟨rfl, hb⟩
                  have B_wz := Lib.hid (stepB B_w15.out hb)
                  clear hb
                  go_wp2_with fail
                  go_ret
                  exact ⟨rfl, B_wz.out⟩
          · have q8 : (x2 != 0) = true := bne_iff_ne.2 ht2
            subst ht1
            clear ht2
            go_enter Tryz.func7, Tryz.ntmps7
            go_wp2_with fail
            refine (HX1.out _).mono ?_
            rintro e x20 ⟨rfl, hw⟩
            have hw := hw.symm
            subst hw
            go_wp2_with fail
            refine (HX2.out _).mono ?_
            rintro e x21 ⟨rfl, hw⟩
            have hw := hw.symm
            subst hw
            go_wp2_with fail
            refine (HX.out _ O_w0.out).mono ?_
            rintro e wz ⟨rfl, hb⟩
            have B_wz := Lib.hid (stepB B_w0.out hb)
            clear hb
            go_wp2_with fail
            go_ret
            exact ⟨rfl, B_wz.out⟩
        · have q8 : (x1 != 0) = true := bne_iff_ne.2 ht1
          clear ht1
          go_enter Tryz.func7, Tryz.ntmps7
          go_wp2_with fail
          refine (HX1.out _).mono ?_
          rintro e x22 ⟨rfl, hw⟩
          have hw := hw.symm
          subst hw
          go_wp2_with fail
          refine (HX.out _ O_w0.out).mono ?_
          rintro e wz ⟨rfl, hb⟩
          have B_wz := Lib.hid (stepB B_w0.out hb)
          clear hb
          go_wp2_with fail
          go_ret
          exact ⟨rfl, B_wz.out⟩
end Go.Proofs.YtglnkpgdmophlaaGreatDoor
