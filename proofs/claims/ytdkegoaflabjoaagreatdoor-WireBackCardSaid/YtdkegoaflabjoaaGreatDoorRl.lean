/-
What wire's reader makes of a whole packet, whatever the bytes are, or the error with which it panics. Conditions: the bytes read as data; so many bytes fit a slice.
-/
import Derived.Test.YtdkegoaflabjoaaGreatDoorRk
set_option maxHeartbeats 4000000
set_option maxRecDepth 50000
namespace Go.Proofs.YtdkegoaflabjoaaGreatDoor
open Go.RowKit

theorem xPk_err (R : Nat) (A : Option Addr) (c : Nat) (l : List UInt8) (s0 : Int × Int) (hz0 : s0.2 = 0) (w : World) (h : RP w R A c l s0.1) (hsl : CL bv w R A l) (hc : l.length ≤ c) (hn : l.length ≤ 140737488355328) (he : (sNum l s0).2.2 ≠ 0) :
 Calls Tryz.prog 17 #[.pointer (some ⟨R, 0, none⟩)] w (RetXP R A c l Pkt.zero (sNum l s0).2 w) := by
 have hmf := @hmfT Tryz.prog
 have H0 : Hid (∀ w, RP w R A c l s0.1 → CL bv w R A l → Calls Tryz.prog 53 #[.pointer (some ⟨R, 0, none⟩)] w (RetX R A c l (.int .i64 (sNum l s0).1) (sNum l s0).2 w)) := Lib.hid (fun wv hv hsv => by
  obtain ⟨q, z⟩ := s0
  dsimp only at hz0 hv ⊢
  subst hz0
  exact xNum_any R A c l q wv hv hsv hc hn)
 generalize sNum l s0 = r0 at H0 he ⊢
 obtain ⟨n, s1⟩ := r0
 dsimp only at H0 he ⊢
 clear hc hn hz0
 have HSL := Lib.hid hsl
 have hRw := h.lt
 have HR := Lib.hid h
 have HE := Lib.hid he
 clear hsl h he
 go_enter Tryz.func17, Tryz.ntmps17
 go_upto_region 1 with fail
 refine name_world (C := fun w1 => Code.wp _ _ _ _ w1) (w.alloc (.cells (pkC Pkt.zero PA.zero).toArray 38)) ?_
 rintro w0 hw0
 have hb0 : Below w.heap.size w w0 := by rw [hw0]; exact belA _ _
 have hm0 : MT 38 w0 w.heap.size (pkC Pkt.zero PA.zero) := by rw [hw0]; exact MT.new w _ _
 have HR0 := Lib.hid (HR.out.below hb0)
 have HT0 := Lib.hid hm0
 have HK0 := Lib.hid (KR.of_below hb0 (Nat.le_of_lt hRw))
 have hz0 : w.heap.size < w0.heap.size := hm0.lt
 clear hb0 hm0 hw0 HR
 go_wp2_with fail
 refine (H0.out w0 HR0.out (HSL.out.below HK0.out.1)).mono ?_
 intro e w1 h
 rcases h with ⟨z, _, _, _⟩ | ⟨z, rfl, hk⟩
 · exact absurd z HE.out
 have HK := Lib.hid (HK0.out.trans hk)
 clear z hk
 unfold pan
 go_wp2_with fail
 exact ⟨rfl, .inr ⟨HE.out, rfl, HK.out⟩⟩

theorem xPk_bad (R : Nat) (A : Option Addr) (c : Nat) (l : List UInt8) (s0 : Int × Int) (hz0 : s0.2 = 0) (w : World) (h : RP w R A c l s0.1) (hsl : CL bv w R A l) (hc : l.length ≤ c) (hn : l.length ≤ 140737488355328) (he : (sNum l s0).2.2 = 0) (hk : (sNum l s0).1 < 1 ∨ 14 < (sNum l s0).1) :
 Calls Tryz.prog 17 #[.pointer (some ⟨R, 0, none⟩)] w (RetXP R A c l Pkt.zero ((sNum l s0).2.1, 10) w) := by
 have hmf := @hmfT Tryz.prog
 have H0 : Hid (∀ w, RP w R A c l s0.1 → CL bv w R A l → Calls Tryz.prog 53 #[.pointer (some ⟨R, 0, none⟩)] w (RetX R A c l (.int .i64 (sNum l s0).1) (sNum l s0).2 w)) := Lib.hid (fun wv hv hsv => by
  obtain ⟨q, z⟩ := s0
  dsimp only at hz0 hv ⊢
  subst hz0
  exact xNum_any R A c l q wv hv hsv hc hn)
 generalize sNum l s0 = r0 at H0 he hk ⊢
 obtain ⟨n, s1⟩ := r0
 dsimp only at H0 he hk ⊢
 have q1 : (n == 1) = false := by simp; omega
 have d1 : decide (n = 1) = false := by simp; omega
 have e1 : ¬ n = 1 := by omega
 have q2 : (n == 2) = false := by simp; omega
 have d2 : decide (n = 2) = false := by simp; omega
 have e2 : ¬ n = 2 := by omega
 have q3 : (n == 3) = false := by simp; omega
 have d3 : decide (n = 3) = false := by simp; omega
 have e3 : ¬ n = 3 := by omega
 have q4 : (n == 4) = false := by simp; omega
 have d4 : decide (n = 4) = false := by simp; omega
 have e4 : ¬ n = 4 := by omega
 have q5 : (n == 5) = false := by simp; omega
 have d5 : decide (n = 5) = false := by simp; omega
 have e5 : ¬ n = 5 := by omega
 have q6 : (n == 6) = false := by simp; omega
 have d6 : decide (n = 6) = false := by simp; omega
 have e6 : ¬ n = 6 := by omega
 have q7 : (n == 7) = false := by simp; omega
 have d7 : decide (n = 7) = false := by simp; omega
 have e7 : ¬ n = 7 := by omega
 have q8 : (n == 8) = false := by simp; omega
 have d8 : decide (n = 8) = false := by simp; omega
 have e8 : ¬ n = 8 := by omega
 have q9 : (n == 9) = false := by simp; omega
 have d9 : decide (n = 9) = false := by simp; omega
 have e9 : ¬ n = 9 := by omega
 have q10 : (n == 10) = false := by simp; omega
 have d10 : decide (n = 10) = false := by simp; omega
 have e10 : ¬ n = 10 := by omega
 have q11 : (n == 11) = false := by simp; omega
 have d11 : decide (n = 11) = false := by simp; omega
 have e11 : ¬ n = 11 := by omega
 have q12 : (n == 12) = false := by simp; omega
 have d12 : decide (n = 12) = false := by simp; omega
 have e12 : ¬ n = 12 := by omega
 have q13 : (n == 13) = false := by simp; omega
 have d13 : decide (n = 13) = false := by simp; omega
 have e13 : ¬ n = 13 := by omega
 have q14 : (n == 14) = false := by simp; omega
 have d14 : decide (n = 14) = false := by simp; omega
 have e14 : ¬ n = 14 := by omega
 clear hk
 clear hc hn hz0
 have HSL := Lib.hid hsl
 have hRw := h.lt
 have HR := Lib.hid h
 have HE := Lib.hid he
 clear hsl h he
 go_enter Tryz.func17, Tryz.ntmps17
 go_upto_region 1 with fail
 refine name_world (C := fun w1 => Code.wp _ _ _ _ w1) (w.alloc (.cells (pkC Pkt.zero PA.zero).toArray 38)) ?_
 rintro w0 hw0
 have hb0 : Below w.heap.size w w0 := by rw [hw0]; exact belA _ _
 have hm0 : MT 38 w0 w.heap.size (pkC Pkt.zero PA.zero) := by rw [hw0]; exact MT.new w _ _
 have HR0 := Lib.hid (HR.out.below hb0)
 have HT0 := Lib.hid hm0
 have HK0 := Lib.hid (KR.of_below hb0 (Nat.le_of_lt hRw))
 have hz0 : w.heap.size < w0.heap.size := hm0.lt
 clear hb0 hm0 hw0 HR
 go_wp2_with fail
 refine (H0.out w0 HR0.out (HSL.out.below HK0.out.1)).mono ?_
 intro e w1 h
 rcases h with ⟨z, rfl, hr, hk⟩ | ⟨z, _, _⟩
 rotate_left
 · exact absurd HE.out z
 have HT1x : Hid (MT 38 w1 w.heap.size (pkC Pkt.zero PA.zero)) := Lib.hid ((hk.2 _ HT0.out.lt (Nat.ne_of_gt hRw)).trans HT0.out)
 have HK1x := Lib.hid (HK0.out.trans hk)
 have hz1 : w.heap.size < w1.heap.size := Nat.lt_of_lt_of_le hz0 hk.size
 clear z hr hk HT0 HK0 HR0 H0
 go_upto_region 2 with (refine wpList_store_blk (by rfl) 38 (.tmp 3) (.tmp 6) rfl rfl w1.heap.size 0 34 rfl (.agg (zC n).toArray) rfl 38 (pkC Pkt.zero PA.zero) (zC n) (zero_new w1) rfl rfl info33 (by rw [pkC_len]; decide) (one_cells rfl) ?_; rintro v1 hM hoth hbel; have HU1 : Hid (MT 38 v1 w1.heap.size (zC n)) := Lib.hid (by rw [putC_all (pkC Pkt.zero PA.zero) (zC n) rfl] at hM; exact hM); have HK1 : Hid (KR R w v1) := Lib.hid (HK1x.out.base (hbel w1.heap.size _ (Nat.le_refl _) (belA _ _)) HK1x.out.size (by omega)); clear hM hoth hbel)
 have k0 : v1.cell? ⟨w1.heap.size, 0, none⟩ = some (.int .i64 n) := HU1.out.cell 0
 clear HT1x HK1x HU1
 go_wp2_with fail
 exact ⟨rfl, .inr ⟨(by show (10 : Int) ≠ 0; decide), rfl, HK1.out⟩⟩

theorem xPk_any (R : Nat) (A : Option Addr) (c : Nat) (l : List UInt8) (s0 : Int × Int) (hz0 : s0.2 = 0) (w : World) (h : RP w R A c l s0.1) (hsl : CL bv w R A l) (hc : l.length ≤ c) (hn : l.length ≤ 140737488355328) :
 Calls Tryz.prog 17 #[.pointer (some ⟨R, 0, none⟩)] w (RetXP R A c l (pkX l s0).1 (pkX l s0).2 w) := by
 unfold pkX
 by_cases he : (sNum l s0).2.2 = 0
 · rw [if_neg (by simpa using he)]
   by_cases hk : (sNum l s0).1 < 1 ∨ 14 < (sNum l s0).1
   · rw [if_pos hk]
     exact xPk_bad R A c l s0 hz0 w h hsl hc hn he hk
   · rw [if_neg hk]
     rcases (by omega : (sNum l s0).1 = 1 ∨ (sNum l s0).1 = 2 ∨ (sNum l s0).1 = 3 ∨ (sNum l s0).1 = 4 ∨ (sNum l s0).1 = 5 ∨ (sNum l s0).1 = 6 ∨ (sNum l s0).1 = 7 ∨ (sNum l s0).1 = 8 ∨ (sNum l s0).1 = 9 ∨ (sNum l s0).1 = 10 ∨ (sNum l s0).1 = 11 ∨ (sNum l s0).1 = 12 ∨ (sNum l s0).1 = 13 ∨ (sNum l s0).1 = 14) with hq | hq | hq | hq | hq | hq | hq | hq | hq | hq | hq | hq | hq | hq
     · rw [hq]
       exact xPk_1 R A c l s0 hz0 w h hsl hc hn hq he
     · rw [hq]
       exact xPk_2 R A c l s0 hz0 w h hsl hc hn hq he
     · rw [hq]
       exact xPk_3 R A c l s0 hz0 w h hsl hc hn hq he
     · rw [hq]
       exact xPk_4 R A c l s0 hz0 w h hsl hc hn hq he
     · rw [hq]
       exact xPk_5 R A c l s0 hz0 w h hsl hc hn hq he
     · rw [hq]
       exact xPk_6 R A c l s0 hz0 w h hsl hc hn hq he
     · rw [hq]
       exact xPk_7 R A c l s0 hz0 w h hsl hc hn hq he
     · rw [hq]
       exact xPk_8 R A c l s0 hz0 w h hsl hc hn hq he
     · rw [hq]
       exact xPk_9 R A c l s0 hz0 w h hsl hc hn hq he
     · rw [hq]
       exact xPk_10 R A c l s0 hz0 w h hsl hc hn hq he
     · rw [hq]
       exact xPk_11 R A c l s0 hz0 w h hsl hc hn hq he
     · rw [hq]
       exact xPk_12 R A c l s0 hz0 w h hsl hc hn hq he
     · rw [hq]
       exact xPk_13 R A c l s0 hz0 w h hsl hc hn hq he
     · rw [hq]
       exact xPk_14 R A c l s0 hz0 w h hsl hc hn hq he
 · rw [if_pos he]
   exact xPk_err R A c l s0 hz0 w h hsl hc hn he

end Go.Proofs.YtdkegoaflabjoaaGreatDoor
