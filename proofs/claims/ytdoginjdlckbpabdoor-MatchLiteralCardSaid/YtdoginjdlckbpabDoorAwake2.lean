/-
  The examples of the chapter on matching hold: awake of the match statements answers true. Condition: MaxLen holds a number.
-/
import Derived.Test.YtdoginjdlckbpabDoorCommonN
namespace Go.Proofs.YtdoginjdlckbpabDoor
open Go.RowKit

set_option maxHeartbeats 4000000 in
set_option maxRecDepth 100000 in
theorem awake2_any (w : World) (hw : Okw w) :
    Calls Tryd.prog 4 #[] w fun e w' => e = .returned (.bool true) ∧ Below w.heap.size w w' := by
  have HQ0 := Lib.hid (Qk.refl hw)
  have s1 := mCom_x ⟨#[97, 47, 43, 47, 99]⟩ ⟨#[43, 47, 98, 47, 35]⟩ w hw
  have e1 : cmRes ⟨#[97, 47, 43, 47, 99]⟩ ⟨#[43, 47, 98, 47, 35]⟩ = some ⟨#[97, 47, 98, 47, 99]⟩ := by decide +kernel
  rw [e1] at s1
  have S1 := Lib.hid s1
  clear s1 e1 hw
  go_enter Tryd.func4, Tryd.ntmps4
  go_wp2_with fail
  refine S1.out.mono ?_
  rintro e w1 ⟨rfl, hb1⟩
  have hq1 := HQ0.out.step hb1
  clear hb1
  go_wp2_with fail
  refine (toB (mMatches_any _ _ _ hq1.2) (show _ = true by decide +kernel) hq1).mono ?_
  rintro e w2 ⟨rfl, hq2⟩
  go_wp2_with fail
  refine (toB (mMatches_any _ _ _ hq2.2) (show _ = false by decide +kernel) hq2).mono ?_
  rintro e w3 ⟨rfl, hq3⟩
  go_wp2_with fail
  refine (toB (mMatches_any _ _ _ hq3.2) (show _ = true by decide +kernel) hq3).mono ?_
  rintro e w4 ⟨rfl, hq4⟩
  go_wp2_with fail
  refine (toB (mMatches_any _ _ _ hq4.2) (show _ = false by decide +kernel) hq4).mono ?_
  rintro e w5 ⟨rfl, hq5⟩
  go_wp2_with fail
  refine (toB (mCov_any _ _ _ hq5.2) (show _ = true by decide +kernel) hq5).mono ?_
  rintro e w6 ⟨rfl, hq6⟩
  go_wp2_with fail
  refine (toB (mCov_any _ _ _ hq6.2) (show _ = false by decide +kernel) hq6).mono ?_
  rintro e w7 ⟨rfl, hq7⟩
  go_wp2_with fail
  refine (toB (mMeets_any _ _ _ hq7.2) (show _ = true by decide +kernel) hq7).mono ?_
  rintro e w8 ⟨rfl, hq8⟩
  go_wp2_with fail
  refine (toB (mMeets_any _ _ _ hq8.2) (show _ = false by decide +kernel) hq8).mono ?_
  rintro e w9 ⟨rfl, hq9⟩
  clear hq1 hq2 hq3 hq4 hq5 hq6 hq7 hq8
  -- Narrow
  have hq10 := hq9.alloc (.cells #[.string ⟨#[97, 47, 98]⟩, .string ⟨#[97, 47, 35]⟩, .string ⟨#[43, 47, 98]⟩, .string ⟨#[97, 47, 35]⟩] 9)
  have c10 := mNarrow_any (some ⟨w9.heap.size, 0, none⟩) 4 [⟨#[97, 47, 98]⟩, ⟨#[97, 47, 35]⟩, ⟨#[43, 47, 98]⟩, ⟨#[97, 47, 35]⟩] (w9.alloc (.cells #[.string ⟨#[97, 47, 98]⟩, .string ⟨#[97, 47, 35]⟩, .string ⟨#[43, 47, 98]⟩, .string ⟨#[97, 47, 35]⟩] 9)) hq10.2
    (SL.new (xs := [⟨#[97, 47, 98]⟩, ⟨#[97, 47, 35]⟩, ⟨#[43, 47, 98]⟩, ⟨#[97, 47, 35]⟩])) (by decide)
  have e10 : narrowB [⟨#[97, 47, 98]⟩, ⟨#[97, 47, 35]⟩, ⟨#[43, 47, 98]⟩, ⟨#[97, 47, 35]⟩] ([⟨#[97, 47, 98]⟩, ⟨#[97, 47, 35]⟩, ⟨#[43, 47, 98]⟩, ⟨#[97, 47, 35]⟩] : List ByteArray).length = [⟨#[97, 47, 35]⟩, ⟨#[43, 47, 98]⟩] := by decide +kernel
  rw [e10] at c10
  have C10 := Lib.hid c10
  have HQ10 := Lib.hid hq10
  clear c10 e10 hq10 hq9
  go_wp2_with fail
  refine C10.out.mono ?_
  rintro e w11 ⟨A11, c11, rfl, hc11, hsl11, hb11⟩
  have hq11 := HQ10.out.step hb11
  have hsl12 := hsl11.step ((Below.refl w11.heap.size w11).alloc (Nat.le_refl _) (.cells #[.string ⟨#[97, 47, 35]⟩, .string ⟨#[43, 47, 98]⟩] 9))
  have hq12 := hq11.alloc (.cells #[.string ⟨#[97, 47, 35]⟩, .string ⟨#[43, 47, 98]⟩] 9)
  have c12 := same_any A11 (some ⟨w11.heap.size, 0, none⟩) c11 2 [⟨#[97, 47, 35]⟩, ⟨#[43, 47, 98]⟩] [⟨#[97, 47, 35]⟩, ⟨#[43, 47, 98]⟩] _ _ hsl12 (SL.new (xs := [⟨#[97, 47, 35]⟩, ⟨#[43, 47, 98]⟩])) (by decide) (by decide)
  have e12 : sameB [⟨#[97, 47, 35]⟩, ⟨#[43, 47, 98]⟩] [⟨#[97, 47, 35]⟩, ⟨#[43, 47, 98]⟩] = true := by decide +kernel
  rw [e12] at c12
  have C12 := Lib.hid c12
  have HQ12 := Lib.hid hq12
  clear c12 e12 hq12 hq11 hsl12 hsl11 hb11 hc11 C10 HQ10
  go_wp2_with fail
  refine C12.out.mono ?_
  rintro e w13 ⟨rfl, n, rfl⟩
  have hq13 := HQ12.out.drewN n
  clear C12 HQ12
  obtain ⟨w13, hw13⟩ : ∃ w13, (w11.alloc (.cells #[.string ⟨#[97, 47, 35]⟩, .string ⟨#[43, 47, 98]⟩] 9)).drewN n = w13 := ⟨_, rfl⟩
  rw [hw13] at hq13 ⊢
  clear hw13
  -- Select
  have hq14 := hq13.alloc (.cells #[.string ⟨#[97]⟩, .string ⟨#[97, 47, 98]⟩] 9)
  have c14 := mSelect_any ⟨#[97, 47, 43]⟩ (some ⟨w13.heap.size, 0, none⟩) 2 [⟨#[97]⟩, ⟨#[97, 47, 98]⟩] (w13.alloc (.cells #[.string ⟨#[97]⟩, .string ⟨#[97, 47, 98]⟩] 9)) hq14.2
    (SL.new (xs := [⟨#[97]⟩, ⟨#[97, 47, 98]⟩])) (by decide)
  have e14 : selectB ⟨#[97, 47, 43]⟩ [⟨#[97]⟩, ⟨#[97, 47, 98]⟩] = [⟨#[97, 47, 98]⟩] := by decide +kernel
  rw [e14] at c14
  have C14 := Lib.hid c14
  have HQ14 := Lib.hid hq14
  clear c14 e14 hq14 hq13
  go_wp2_with fail
  refine C14.out.mono ?_
  rintro e w15 ⟨A15, c15, rfl, hc15, hsl15, hb15⟩
  have hq15 := HQ14.out.step hb15
  have hsl16 := hsl15.step ((Below.refl w15.heap.size w15).alloc (Nat.le_refl _) (.cells #[.string ⟨#[97, 47, 98]⟩] 9))
  have hq16 := hq15.alloc (.cells #[.string ⟨#[97, 47, 98]⟩] 9)
  have c16 := same_any A15 (some ⟨w15.heap.size, 0, none⟩) c15 1 [⟨#[97, 47, 98]⟩] [⟨#[97, 47, 98]⟩] _ _ hsl16 (SL.new (xs := [⟨#[97, 47, 98]⟩])) (by decide) (by decide)
  have e16 : sameB [⟨#[97, 47, 98]⟩] [⟨#[97, 47, 98]⟩] = true := by decide +kernel
  rw [e16] at c16
  have C16 := Lib.hid c16
  have HQ16 := Lib.hid hq16
  clear c16 e16 hq16 hq15 hsl16 hsl15 hb15 hc15 C14 HQ14
  go_wp2_with fail
  refine C16.out.mono ?_
  rintro e w17 ⟨rfl, n2, rfl⟩
  have hq17 := HQ16.out.drewN n2
  clear C16 HQ16
  go_wp2_with fail
  go_ret
  exact ⟨rfl, hq17.1⟩

end Go.Proofs.YtdoginjdlckbpabDoor
