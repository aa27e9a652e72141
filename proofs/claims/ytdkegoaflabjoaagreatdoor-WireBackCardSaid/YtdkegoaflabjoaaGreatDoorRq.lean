/-
What wire's reader makes of a message and of a Connect packet, or the error with which it panics. Conditions: the bytes read as data; so many bytes fit a slice.
-/
import Derived.Test.YtdkegoaflabjoaaGreatDoorRp
import Derived.Test.YtdkegoaflabjoaaGreatDoorTakeS
import Derived.Test.YtdkegoaflabjoaaGreatDoorUsed
set_option maxHeartbeats 16000000
set_option maxRecDepth 50000
namespace Go.Proofs.YtdkegoaflabjoaaGreatDoor
open Go.RowKit

/-- a message was handed back, or it panicked -/
def RetXM (R : Nat) (A : Option Addr) (c : Nat) (l : List UInt8) (m : Msg) (st : Int × Int) (w : World) (e : Ending) (w' : World) : Prop :=
 (st.2 = 0 ∧ (∃ A' c', e = .returned (msgV m A' c') ∧ OwnP w' w.heap.size (.slice A' m.props.length c') m.props) ∧ RP w' R A c l st.1 ∧ KR R w w') ∨ (st.2 ≠ 0 ∧ e = pan st.2 ∧ KR R w w')

theorem own_pl {w : World} {B : Nat} {A : Option Addr} {n c : Nat} {xs : List PR} (h : OwnP w B (.slice A n c) xs) : PL w w.heap.size A xs := by
 obtain ⟨A', c', e, _, h'⟩ := OwnG.ret gP_len h
 injection e with e1
 subst e1
 exact h'
theorem own_oth {α : Type} {gg : α → List Value} {k : Nat} {e : TypeId} {w w' : World} {g B : Nat} {v : Value} {xs : List α} (ho : ∀ (M' : Nat) (T' : TypeId) (vs' : List Value), M' ≠ g → MT T' w M' vs' → MT T' w' M' vs') (hB : g < B) (h : OwnG e gg k w B v xs) : OwnG e gg k w' B v xs := by
 unfold OwnG at h ⊢
 refine ⟨h.1, ?_⟩
 rcases h.2 with h0 | ⟨q, cap, cur, rfl, hb, hq, hnc, hcm, hcs, htake⟩
 · exact .inl h0
 · exact .inr ⟨q, cap, cur, rfl, hb, ho q e cur.toList (by omega) hq, hnc, hcm, hcs, htake⟩

theorem xMsg_any (R : Nat) (A : Option Addr) (c : Nat) (l : List UInt8) (s0 : Int × Int) (hz0 : s0.2 = 0) (w : World) (h : RP w R A c l s0.1) (hsl : CL bv w R A l) (hc : l.length ≤ c) (hn : l.length ≤ 140737488355328) :
 Calls Tryz.prog 56 #[.pointer (some ⟨R, 0, none⟩)] w (RetXM R A c l (sMsg l s0).1 (sMsg l s0).2 w) := by
 have hmf := @hmfT Tryz.prog
 unfold sMsg
 simp only [sPropsF_list]
 have H0 : Hid (∀ w, s0.2 = 0 → RP w R A c l s0.1 → CL bv w R A l → Calls Tryz.prog 85 #[.pointer (some ⟨R, 0, none⟩), .int .i64 64] w (RetX R A c l (.string ((sText l 64 s0).1)) (sText l 64 s0).2 w)) := Lib.hid (fun wv hzv hv hsv => by
  obtain ⟨q, z⟩ := s0
  dsimp only at hzv hv ⊢
  subst hzv
  exact xText_any R A c l 64 q wv hv hsv hc hn)
 have B0 : Hid (s0.2 ≠ 0 → (sText l 64 s0).2 = s0) := Lib.hid (fun h => by rw [sText_bad h])
 generalize sText l 64 s0 = r0 at H0 B0 ⊢
 obtain ⟨a0, s1⟩ := r0
 dsimp only at H0 B0 ⊢
 have H1 : Hid (∀ w, s1.2 = 0 → RP w R A c l s1.1 → CL bv w R A l → Calls Tryz.prog 85 #[.pointer (some ⟨R, 0, none⟩), .int .i64 256] w (RetX R A c l (.string ((sText l 256 s1).1)) (sText l 256 s1).2 w)) := Lib.hid (fun wv hzv hv hsv => by
  obtain ⟨q, z⟩ := s1
  dsimp only at hzv hv ⊢
  subst hzv
  exact xText_any R A c l 256 q wv hv hsv hc hn)
 have B1 : Hid (s1.2 ≠ 0 → (sText l 256 s1).2 = s1) := Lib.hid (fun h => by rw [sText_bad h])
 generalize sText l 256 s1 = r1 at H1 B1 ⊢
 obtain ⟨a1, s2⟩ := r1
 dsimp only at H1 B1 ⊢
 have H2 : Hid (∀ w, s2.2 = 0 → RP w R A c l s2.1 → CL bv w R A l → Calls Tryz.prog 53 #[.pointer (some ⟨R, 0, none⟩)] w (RetX R A c l (.int .i64 ((sNum l s2).1)) (sNum l s2).2 w)) := Lib.hid (fun wv hzv hv hsv => by
  obtain ⟨q, z⟩ := s2
  dsimp only at hzv hv ⊢
  subst hzv
  exact xNum_any R A c l q wv hv hsv hc hn)
 have B2 : Hid (s2.2 ≠ 0 → (sNum l s2).2 = s2) := Lib.hid (fun h => by rw [sNum_bad h])
 generalize sNum l s2 = r2 at H2 B2 ⊢
 obtain ⟨a2, s3⟩ := r2
 dsimp only at H2 B2 ⊢
 have H3 : Hid (∀ w, s3.2 = 0 → RP w R A c l s3.1 → CL bv w R A l → Calls Tryz.prog 55 #[.pointer (some ⟨R, 0, none⟩)] w (RetX R A c l (.bool (decide ((sBelow l 2 s3).1 = 1))) (sBelow l 2 s3).2 w)) := Lib.hid (fun wv hzv hv hsv => by
  obtain ⟨q, z⟩ := s3
  dsimp only at hzv hv ⊢
  subst hzv
  exact xFlag_any R A c l q wv hv hsv hc hn)
 have B3 : Hid (s3.2 ≠ 0 → (sBelow l 2 s3).2 = s3) := Lib.hid (fun h => by rw [sBelow_bad h])
 generalize sBelow l 2 s3 = r3 at H3 B3 ⊢
 obtain ⟨f3, s4⟩ := r3
 dsimp only at H3 B3 ⊢
 generalize decide (f3 = 1) = a3 at H3 ⊢
 have H4 : Hid (∀ w, s4.2 = 0 → RP w R A c l s4.1 → CL bv w R A l → Calls Tryz.prog 53 #[.pointer (some ⟨R, 0, none⟩)] w (RetX R A c l (.int .i64 ((sNum l s4).1)) (sNum l s4).2 w)) := Lib.hid (fun wv hzv hv hsv => by
  obtain ⟨q, z⟩ := s4
  dsimp only at hzv hv ⊢
  subst hzv
  exact xNum_any R A c l q wv hv hsv hc hn)
 have B4 : Hid (s4.2 ≠ 0 → (sNum l s4).2 = s4) := Lib.hid (fun h => by rw [sNum_bad h])
 generalize sNum l s4 = r4 at H4 B4 ⊢
 obtain ⟨a4, s5⟩ := r4
 dsimp only at H4 B4 ⊢
 have H5 : Hid (∀ w, s5.2 = 0 → RP w R A c l s5.1 → CL bv w R A l → Calls Tryz.prog 53 #[.pointer (some ⟨R, 0, none⟩)] w (RetX R A c l (.int .i64 ((sNum l s5).1)) (sNum l s5).2 w)) := Lib.hid (fun wv hzv hv hsv => by
  obtain ⟨q, z⟩ := s5
  dsimp only at hzv hv ⊢
  subst hzv
  exact xNum_any R A c l q wv hv hsv hc hn)
 have B5 : Hid (s5.2 ≠ 0 → (sNum l s5).2 = s5) := Lib.hid (fun h => by rw [sNum_bad h])
 generalize sNum l s5 = r5 at H5 B5 ⊢
 obtain ⟨a5, s6⟩ := r5
 dsimp only at H5 B5 ⊢
 have H6 : Hid (∀ w, s6.2 = 0 → RP w R A c l s6.1 → CL bv w R A l → Calls Tryz.prog 85 #[.pointer (some ⟨R, 0, none⟩), .int .i64 16] w (RetX R A c l (.string ((sText l 16 s6).1)) (sText l 16 s6).2 w)) := Lib.hid (fun wv hzv hv hsv => by
  obtain ⟨q, z⟩ := s6
  dsimp only at hzv hv ⊢
  subst hzv
  exact xText_any R A c l 16 q wv hv hsv hc hn)
 have B6 : Hid (s6.2 ≠ 0 → (sText l 16 s6).2 = s6) := Lib.hid (fun h => by rw [sText_bad h])
 generalize sText l 16 s6 = r6 at H6 B6 ⊢
 obtain ⟨a6, s7⟩ := r6
 dsimp only at H6 B6 ⊢
 have H7 : Hid (∀ w, s7.2 = 0 → RP w R A c l s7.1 → CL bv w R A l → Calls Tryz.prog 53 #[.pointer (some ⟨R, 0, none⟩)] w (RetX R A c l (.int .i64 ((sNum l s7).1)) (sNum l s7).2 w)) := Lib.hid (fun wv hzv hv hsv => by
  obtain ⟨q, z⟩ := s7
  dsimp only at hzv hv ⊢
  subst hzv
  exact xNum_any R A c l q wv hv hsv hc hn)
 have B7 : Hid (s7.2 ≠ 0 → (sNum l s7).2 = s7) := Lib.hid (fun h => by rw [sNum_bad h])
 generalize sNum l s7 = r7 at H7 B7 ⊢
 obtain ⟨a7, s8⟩ := r7
 dsimp only at H7 B7 ⊢
 have H8 : Hid (∀ w, s8.2 = 0 → RP w R A c l s8.1 → CL bv w R A l → Calls Tryz.prog 88 #[.pointer (some ⟨R, 0, none⟩), .int .i64 8, .func (.func 89) #[.pointer (some ⟨R, 0, none⟩)] #[]] w
  (RetXL R A c l (fun w' v => OwnP w' w.heap.size v (sList (sProp l) (sCount l 8 s8).1.toNat (sCount l 8 s8).2 []).1) (sList (sProp l) (sCount l 8 s8).1.toNat (sCount l 8 s8).2 []).2 w)) := Lib.hid (fun wv hzv hv hsv => by
  obtain ⟨q, z⟩ := s8
  dsimp only at hzv hv
  subst hzv
  exact xElP_any R A c l q wv hv hsv hc hn)
 have B8 : Hid (s8.2 ≠ 0 → (sList (sProp l) (sCount l 8 s8).1.toNat (sCount l 8 s8).2 []).2 = s8) := Lib.hid (fun h => by rw [sCount_bad h, sList_bad h])
 generalize sList (sProp l) (sCount l 8 s8).1.toNat (sCount l 8 s8).2 [] = r8 at H8 B8 ⊢
 obtain ⟨a8, s9⟩ := r8
 dsimp only at H8 B8 ⊢
 have E9 : Hid (s9.2 ≠ 0 → s9 = s9) := Lib.hid (fun _ => rfl)
 have E8 : Hid (s8.2 ≠ 0 → s9 = s8) := Lib.hid (fun h => (E9.out (by rw [B8.out h]; exact h)).trans (B8.out h))
 have E7 : Hid (s7.2 ≠ 0 → s9 = s7) := Lib.hid (fun h => (E8.out (by rw [B7.out h]; exact h)).trans (B7.out h))
 have E6 : Hid (s6.2 ≠ 0 → s9 = s6) := Lib.hid (fun h => (E7.out (by rw [B6.out h]; exact h)).trans (B6.out h))
 have E5 : Hid (s5.2 ≠ 0 → s9 = s5) := Lib.hid (fun h => (E6.out (by rw [B5.out h]; exact h)).trans (B5.out h))
 have E4 : Hid (s4.2 ≠ 0 → s9 = s4) := Lib.hid (fun h => (E5.out (by rw [B4.out h]; exact h)).trans (B4.out h))
 have E3 : Hid (s3.2 ≠ 0 → s9 = s3) := Lib.hid (fun h => (E4.out (by rw [B3.out h]; exact h)).trans (B3.out h))
 have E2 : Hid (s2.2 ≠ 0 → s9 = s2) := Lib.hid (fun h => (E3.out (by rw [B2.out h]; exact h)).trans (B2.out h))
 have E1 : Hid (s1.2 ≠ 0 → s9 = s1) := Lib.hid (fun h => (E2.out (by rw [B1.out h]; exact h)).trans (B1.out h))
 clear hc hn B0 B1 B2 B3 B4 B5 B6 B7 B8
 have HSL := Lib.hid hsl
 have hRw := h.lt
 obtain ⟨w0, hw0⟩ : ∃ w0, w0 = w.alloc (.cells #[.string ⟨#[]⟩, .string ⟨#[]⟩, .int .i64 0, .bool false, .int .i64 0, .int .i64 0, .string ⟨#[]⟩, .int .i64 0, .slice none 0 0] 31) := ⟨_, rfl⟩
 have hb0 : Below w.heap.size w w0 := by rw [hw0]; exact belA _ _
 have HM0 : Hid (MT 31 w0 w.heap.size [.string ⟨#[]⟩, .string ⟨#[]⟩, .int .i64 0, .bool false, .int .i64 0, .int .i64 0, .string ⟨#[]⟩, .int .i64 0, .slice none 0 0]) := Lib.hid (by rw [hw0]; exact MT.new w _ _)
 have HR0 := Lib.hid (h.below hb0)
 have HK0 : Hid (KR R w w0) := Lib.hid (KR.of_below hb0 (Nat.le_of_lt h.lt))
 have HW0 := Lib.hid hw0
 have HZ0 := Lib.hid hz0
 clear hb0 hw0 hsl h hz0
 go_enter Tryz.func56, Tryz.ntmps56
 go_upto_region 1 with fail
 rw [← HW0.out]
 go_wp2_with fail
 refine (H0.out w0 HZ0.out HR0.out (HSL.out.below HK0.out.1)).mono ?_
 intro e w1 h
 rcases h with ⟨z, rfl, hr, hk⟩ | ⟨z, rfl, hk⟩
 rotate_left
 · have HZ := Lib.hid z
   have HQ := Lib.hid (E1.out z)
   have HK := Lib.hid (HK0.out.trans hk)
   clear z hk
   unfold pan
   go_wp2_with fail
   exact ⟨rfl, .inr ⟨by rw [HQ.out]; exact HZ.out, by rw [HQ.out]; rfl, HK.out⟩⟩
 have HZ1 := Lib.hid z
 have HR1 := Lib.hid hr
 have HM1 : Hid (MT 31 w1 w.heap.size [.string ⟨#[]⟩, .string ⟨#[]⟩, .int .i64 0, .bool false, .int .i64 0, .int .i64 0, .string ⟨#[]⟩, .int .i64 0, .slice none 0 0]) := Lib.hid ((hk.2 _ HM0.out.lt (Nat.ne_of_gt hRw)).trans HM0.out)
 have HK1 := Lib.hid (HK0.out.trans hk)
 clear z hr hk HM0 HK0 HR0 HZ0 H0
 go_wp2_with fail
 refine (H1.out w1 HZ1.out HR1.out (HSL.out.below HK1.out.1)).mono ?_
 intro e w2 h
 rcases h with ⟨z, rfl, hr, hk⟩ | ⟨z, rfl, hk⟩
 rotate_left
 · have HZ := Lib.hid z
   have HQ := Lib.hid (E2.out z)
   have HK := Lib.hid (HK1.out.trans hk)
   clear z hk
   unfold pan
   go_wp2_with fail
   exact ⟨rfl, .inr ⟨by rw [HQ.out]; exact HZ.out, by rw [HQ.out]; rfl, HK.out⟩⟩
 have HZ2 := Lib.hid z
 have HR2 := Lib.hid hr
 have HM2 : Hid (MT 31 w2 w.heap.size [.string ⟨#[]⟩, .string ⟨#[]⟩, .int .i64 0, .bool false, .int .i64 0, .int .i64 0, .string ⟨#[]⟩, .int .i64 0, .slice none 0 0]) := Lib.hid ((hk.2 _ HM1.out.lt (Nat.ne_of_gt hRw)).trans HM1.out)
 have HK2 := Lib.hid (HK1.out.trans hk)
 clear z hr hk HM1 HK1 HR1 HZ1 H1
 go_wp2_with fail
 refine (H2.out w2 HZ2.out HR2.out (HSL.out.below HK2.out.1)).mono ?_
 intro e w3 h
 rcases h with ⟨z, rfl, hr, hk⟩ | ⟨z, rfl, hk⟩
 rotate_left
 · have HZ := Lib.hid z
   have HQ := Lib.hid (E3.out z)
   have HK := Lib.hid (HK2.out.trans hk)
   clear z hk
   unfold pan
   go_wp2_with fail
   exact ⟨rfl, .inr ⟨by rw [HQ.out]; exact HZ.out, by rw [HQ.out]; rfl, HK.out⟩⟩
 have HZ3 := Lib.hid z
 have HR3 := Lib.hid hr
 have HM3 : Hid (MT 31 w3 w.heap.size [.string ⟨#[]⟩, .string ⟨#[]⟩, .int .i64 0, .bool false, .int .i64 0, .int .i64 0, .string ⟨#[]⟩, .int .i64 0, .slice none 0 0]) := Lib.hid ((hk.2 _ HM2.out.lt (Nat.ne_of_gt hRw)).trans HM2.out)
 have HK3 := Lib.hid (HK2.out.trans hk)
 clear z hr hk HM2 HK2 HR2 HZ2 H2
 go_wp2_with fail
 refine (H3.out w3 HZ3.out HR3.out (HSL.out.below HK3.out.1)).mono ?_
 intro e w4 h
 rcases h with ⟨z, rfl, hr, hk⟩ | ⟨z, rfl, hk⟩
 rotate_left
 · have HZ := Lib.hid z
   have HQ := Lib.hid (E4.out z)
   have HK := Lib.hid (HK3.out.trans hk)
   clear z hk
   unfold pan
   go_wp2_with fail
   exact ⟨rfl, .inr ⟨by rw [HQ.out]; exact HZ.out, by rw [HQ.out]; rfl, HK.out⟩⟩
 have HZ4 := Lib.hid z
 have HR4 := Lib.hid hr
 have HM4 : Hid (MT 31 w4 w.heap.size [.string ⟨#[]⟩, .string ⟨#[]⟩, .int .i64 0, .bool false, .int .i64 0, .int .i64 0, .string ⟨#[]⟩, .int .i64 0, .slice none 0 0]) := Lib.hid ((hk.2 _ HM3.out.lt (Nat.ne_of_gt hRw)).trans HM3.out)
 have HK4 := Lib.hid (HK3.out.trans hk)
 clear z hr hk HM3 HK3 HR3 HZ3 H3
 go_wp2_with fail
 refine (H4.out w4 HZ4.out HR4.out (HSL.out.below HK4.out.1)).mono ?_
 intro e w5 h
 rcases h with ⟨z, rfl, hr, hk⟩ | ⟨z, rfl, hk⟩
 rotate_left
 · have HZ := Lib.hid z
   have HQ := Lib.hid (E5.out z)
   have HK := Lib.hid (HK4.out.trans hk)
   clear z hk
   unfold pan
   go_wp2_with fail
   exact ⟨rfl, .inr ⟨by rw [HQ.out]; exact HZ.out, by rw [HQ.out]; rfl, HK.out⟩⟩
 have HZ5 := Lib.hid z
 have HR5 := Lib.hid hr
 have HM5 : Hid (MT 31 w5 w.heap.size [.string ⟨#[]⟩, .string ⟨#[]⟩, .int .i64 0, .bool false, .int .i64 0, .int .i64 0, .string ⟨#[]⟩, .int .i64 0, .slice none 0 0]) := Lib.hid ((hk.2 _ HM4.out.lt (Nat.ne_of_gt hRw)).trans HM4.out)
 have HK5 := Lib.hid (HK4.out.trans hk)
 clear z hr hk HM4 HK4 HR4 HZ4 H4
 go_wp2_with fail
 refine (H5.out w5 HZ5.out HR5.out (HSL.out.below HK5.out.1)).mono ?_
 intro e w6 h
 rcases h with ⟨z, rfl, hr, hk⟩ | ⟨z, rfl, hk⟩
 rotate_left
 · have HZ := Lib.hid z
   have HQ := Lib.hid (E6.out z)
   have HK := Lib.hid (HK5.out.trans hk)
   clear z hk
   unfold pan
   go_wp2_with fail
   exact ⟨rfl, .inr ⟨by rw [HQ.out]; exact HZ.out, by rw [HQ.out]; rfl, HK.out⟩⟩
 have HZ6 := Lib.hid z
 have HR6 := Lib.hid hr
 have HM6 : Hid (MT 31 w6 w.heap.size [.string ⟨#[]⟩, .string ⟨#[]⟩, .int .i64 0, .bool false, .int .i64 0, .int .i64 0, .string ⟨#[]⟩, .int .i64 0, .slice none 0 0]) := Lib.hid ((hk.2 _ HM5.out.lt (Nat.ne_of_gt hRw)).trans HM5.out)
 have HK6 := Lib.hid (HK5.out.trans hk)
 clear z hr hk HM5 HK5 HR5 HZ5 H5
 go_wp2_with fail
 refine (H6.out w6 HZ6.out HR6.out (HSL.out.below HK6.out.1)).mono ?_
 intro e w7 h
 rcases h with ⟨z, rfl, hr, hk⟩ | ⟨z, rfl, hk⟩
 rotate_left
 · have HZ := Lib.hid z
   have HQ := Lib.hid (E7.out z)
   have HK := Lib.hid (HK6.out.trans hk)
   clear z hk
   unfold pan
   go_wp2_with fail
   exact ⟨rfl, .inr ⟨by rw [HQ.out]; exact HZ.out, by rw [HQ.out]; rfl, HK.out⟩⟩
 have HZ7 := Lib.hid z
 have HR7 := Lib.hid hr
 have HM7 : Hid (MT 31 w7 w.heap.size [.string ⟨#[]⟩, .string ⟨#[]⟩, .int .i64 0, .bool false, .int .i64 0, .int .i64 0, .string ⟨#[]⟩, .int .i64 0, .slice none 0 0]) := Lib.hid ((hk.2 _ HM6.out.lt (Nat.ne_of_gt hRw)).trans HM6.out)
 have HK7 := Lib.hid (HK6.out.trans hk)
 clear z hr hk HM6 HK6 HR6 HZ6 H6
 go_wp2_with fail
 refine (H7.out w7 HZ7.out HR7.out (HSL.out.below HK7.out.1)).mono ?_
 intro e w8 h
 rcases h with ⟨z, rfl, hr, hk⟩ | ⟨z, rfl, hk⟩
 rotate_left
 · have HZ := Lib.hid z
   have HQ := Lib.hid (E8.out z)
   have HK := Lib.hid (HK7.out.trans hk)
   clear z hk
   unfold pan
   go_wp2_with fail
   exact ⟨rfl, .inr ⟨by rw [HQ.out]; exact HZ.out, by rw [HQ.out]; rfl, HK.out⟩⟩
 have HZ8 := Lib.hid z
 have HR8 := Lib.hid hr
 have HM8 : Hid (MT 31 w8 w.heap.size [.string ⟨#[]⟩, .string ⟨#[]⟩, .int .i64 0, .bool false, .int .i64 0, .int .i64 0, .string ⟨#[]⟩, .int .i64 0, .slice none 0 0]) := Lib.hid ((hk.2 _ HM7.out.lt (Nat.ne_of_gt hRw)).trans HM7.out)
 have HK8 := Lib.hid (HK7.out.trans hk)
 clear z hr hk HM7 HK7 HR7 HZ7 H7
 go_wp2_with fail
 refine (H8.out w8 HZ8.out HR8.out (HSL.out.below HK8.out.1)).mono ?_
 intro e w9 h
 rcases h with ⟨z, ⟨v, rfl, hown⟩, hr, hk⟩ | ⟨z, rfl, hk⟩
 rotate_left
 · have HZ := Lib.hid z
   have HK := Lib.hid (HK8.out.trans hk)
   clear z hk
   unfold pan
   go_wp2_with fail
   exact ⟨rfl, .inr ⟨HZ.out, rfl, HK.out⟩⟩
 have HZ9 := Lib.hid z
 have HR9 := Lib.hid hr
 have hM8 := HM8.out.lt
 have hown := OwnG.weak hown (Nat.succ_le_of_lt hM8)
 have HOWN := Lib.hid hown
 obtain ⟨A9, c9, hv, _, _⟩ := OwnG.ret gP_len hown
 subst hv
 clear hown
 have HM9 : Hid (MT 31 w9 w.heap.size [.string ⟨#[]⟩, .string ⟨#[]⟩, .int .i64 0, .bool false, .int .i64 0, .int .i64 0, .string ⟨#[]⟩, .int .i64 0, .slice none 0 0]) := Lib.hid ((hk.2 _ HM8.out.lt (Nat.ne_of_gt hRw)).trans HM8.out)
 have HK9 := Lib.hid (HK8.out.trans hk)
 clear z hr hk HM8 HK8 HR8 HZ8 H8
 have c0 : w9.cell? ⟨w.heap.size, 0, none⟩ = some (.string ⟨#[]⟩) := HM9.out.cell 0
 have z0 : w9.frozen? ⟨w.heap.size, 0, none⟩ = false := HM9.out.free 0
 have c1 : w9.cell? ⟨w.heap.size, 1, none⟩ = some (.string ⟨#[]⟩) := HM9.out.cell 1
 have z1 : w9.frozen? ⟨w.heap.size, 1, none⟩ = false := HM9.out.free 1
 have c2 : w9.cell? ⟨w.heap.size, 2, none⟩ = some (.int .i64 0) := HM9.out.cell 2
 have z2 : w9.frozen? ⟨w.heap.size, 2, none⟩ = false := HM9.out.free 2
 have c3 : w9.cell? ⟨w.heap.size, 3, none⟩ = some (.bool false) := HM9.out.cell 3
 have z3 : w9.frozen? ⟨w.heap.size, 3, none⟩ = false := HM9.out.free 3
 have c4 : w9.cell? ⟨w.heap.size, 4, none⟩ = some (.int .i64 0) := HM9.out.cell 4
 have z4 : w9.frozen? ⟨w.heap.size, 4, none⟩ = false := HM9.out.free 4
 have c5 : w9.cell? ⟨w.heap.size, 5, none⟩ = some (.int .i64 0) := HM9.out.cell 5
 have z5 : w9.frozen? ⟨w.heap.size, 5, none⟩ = false := HM9.out.free 5
 have c6 : w9.cell? ⟨w.heap.size, 6, none⟩ = some (.string ⟨#[]⟩) := HM9.out.cell 6
 have z6 : w9.frozen? ⟨w.heap.size, 6, none⟩ = false := HM9.out.free 6
 have c7 : w9.cell? ⟨w.heap.size, 7, none⟩ = some (.int .i64 0) := HM9.out.cell 7
 have z7 : w9.frozen? ⟨w.heap.size, 7, none⟩ = false := HM9.out.free 7
 have c8 : w9.cell? ⟨w.heap.size, 8, none⟩ = some (.slice none 0 0) := HM9.out.cell 8
 have z8 : w9.frozen? ⟨w.heap.size, 8, none⟩ = false := HM9.out.free 8
 obtain ⟨wX, hwX⟩ : ∃ wX, wX = w9.setCells w.heap.size 0 [.string a0, .string a1, .int .i64 a2, .bool a3, .int .i64 a4, .int .i64 a5, .string a6, .int .i64 a7, .slice A9 a8.length c9] := ⟨_, rfl⟩
 have hmX : MT 31 wX w.heap.size [.string a0, .string a1, .int .i64 a2, .bool a3, .int .i64 a4, .int .i64 a5, .string a6, .int .i64 a7, .slice A9 a8.length c9] := by rw [hwX]; exact MT.set (MT.set (MT.set (MT.set (MT.set (MT.set (MT.set (MT.set (MT.set (HM9.out) 0 (.string a0)) 1 (.string a1)) 2 (.int .i64 a2)) 3 (.bool a3)) 4 (.int .i64 a4)) 5 (.int .i64 a5)) 6 (.string a6)) 7 (.int .i64 a7)) 8 (.slice A9 a8.length c9)
 have hrX : RP wX R A c l s9.1 := by rw [hwX]; exact RP.cells (by omega) _ 0 _ HR9.out
 have hkX : KR R w wX := by rw [hwX]; exact KR.cells (Nat.le_refl _) (by omega) _ 0 _ HK9.out
 have hoX : OwnP wX (w.heap.size + 1) (.slice A9 a8.length c9) a8 := by rw [hwX]; exact own_cells (by omega) _ 0 _ HOWN.out
 have HPX : Hid (OwnP wX w.heap.size (.slice A9 a8.length c9) a8) := Lib.hid (OwnG.weak hoX (Nat.le_succ _))
 have HRX := Lib.hid hrX
 have HKX := Lib.hid hkX
 have HWX := Lib.hid hwX
 have y0 : wX.cell? ⟨w.heap.size, 0, none⟩ = some (.string a0) := hmX.cell 0
 have y1 : wX.cell? ⟨w.heap.size, 1, none⟩ = some (.string a1) := hmX.cell 1
 have y2 : wX.cell? ⟨w.heap.size, 2, none⟩ = some (.int .i64 a2) := hmX.cell 2
 have y3 : wX.cell? ⟨w.heap.size, 3, none⟩ = some (.bool a3) := hmX.cell 3
 have y4 : wX.cell? ⟨w.heap.size, 4, none⟩ = some (.int .i64 a4) := hmX.cell 4
 have y5 : wX.cell? ⟨w.heap.size, 5, none⟩ = some (.int .i64 a5) := hmX.cell 5
 have y6 : wX.cell? ⟨w.heap.size, 6, none⟩ = some (.string a6) := hmX.cell 6
 have y7 : wX.cell? ⟨w.heap.size, 7, none⟩ = some (.int .i64 a7) := hmX.cell 7
 have y8 : wX.cell? ⟨w.heap.size, 8, none⟩ = some (.slice A9 a8.length c9) := hmX.cell 8
 clear hrX hkX hwX hmX hoX
 go_wp2
 change bodyPost _ _ _ _ _ (World.setCells w9 w.heap.size 0 [.string a0, .string a1, .int .i64 a2, .bool a3, .int .i64 a4, .int .i64 a5, .string a6, .int .i64 a7, .slice A9 a8.length c9])
 rw [← HWX.out]
 refine bodyPost_ret (v := .agg #[.string a0, .string a1, .int .i64 a2, .bool a3, .int .i64 a4, .int .i64 a5, .string a6, .int .i64 a7, .slice A9 a8.length c9]) (by simp [results, Tryz.results56, go_sem, y0, y1, y2, y3, y4, y5, y6, y7, y8]) rfl (.inl ⟨HZ9.out, ⟨_, _, rfl, HPX.out⟩, HRX.out, HKX.out⟩)

theorem flagR_30 {n : Int} (h : 0 ≤ n ∧ n < 4) : flagR n 0 = decide (n = 1 ∨ n = 3) := by
 rcases (by omega : n = 0 ∨ n = 1 ∨ n = 2 ∨ n = 3) with rfl | rfl | rfl | rfl <;> decide
theorem flagR_31 {n : Int} (h : 0 ≤ n ∧ n < 4) : flagR n 1 = decide (n = 2 ∨ n = 3) := by
 rcases (by omega : n = 0 ∨ n = 1 ∨ n = 2 ∨ n = 3) with rfl | rfl | rfl | rfl <;> decide
theorem sMsg_bad {l : List UInt8} {st : Int × Int} (h : st.2 ≠ 0) : (sMsg l st).2 = st := by
 unfold sMsg
 simp only [sPropsF_list, sText_bad h, sNum_bad h, sBelow_bad h, sCount_bad h, sList_bad h]
/-- a packet's block was filled, or it panicked; below B0 nothing but the reader has changed -/
def RetXC (B0 R : Nat) (A : Option Addr) (c : Nat) (l : List UInt8) (M : Nat) (p : Pkt) (st : Int × Int) (w : World) (e : Ending) (w' : World) : Prop :=
 (st.2 = 0 ∧ e = .returned (.tuple #[]) ∧ (∃ A' c', MT 38 w' M (pkC p { PA.zero with v := A', vc := c' }) ∧ OwnP w' B0 (.slice A' p.wmsg.props.length c') p.wmsg.props ∧ p.msg.props = [] ∧ p.subs = [] ∧ p.filters = [] ∧ p.codes = []) ∧ RP w' R A c l st.1 ∧ Kp B0 R w w' ∧ w.heap.size ≤ w'.heap.size) ∨ (st.2 ≠ 0 ∧ e = pan st.2 ∧ Kp B0 R w w')

theorem xConn_false (B0 R : Nat) (A : Option Addr) (c : Nat) (l : List UInt8) (s0 : Int × Int) (hz0 : s0.2 = 0) (M : Nat) (w : World) (h : RP w R A c l s0.1) (hM : MT 38 w M (zC 1)) (hB : B0 ≤ M) (hRB : R < B0) (hsl : CL bv w R A l) (hc : l.length ≤ c) (hn : l.length ≤ 140737488355328)
 (hws : decide ((sBelow l 4 (sText l 16 (sText l 16 s0).2).2).1 = 2 ∨ (sBelow l 4 (sText l 16 (sText l 16 s0).2).2).1 = 3) = false) :
 Calls Tryz.prog 54 #[.pointer (some ⟨R, 0, none⟩), .pointer (some ⟨M, 0, none⟩)] w (RetXC B0 R A c l M (sConn l s0).1 (sConn l s0).2 w) := by
 unfold sConn
 dsimp only
 rw [hws]
 have H0 : Hid (∀ w, s0.2 = 0 → RP w R A c l s0.1 → CL bv w R A l → Calls Tryz.prog 85 #[.pointer (some ⟨R, 0, none⟩), .int .i64 16] w (RetX R A c l (.string (sText l 16 s0).1) (sText l 16 s0).2 w)) := Lib.hid (fun wv hzv hv hsv => by
  obtain ⟨q, z⟩ := s0
  dsimp only at hzv hv ⊢
  subst hzv
  exact xText_any R A c l 16 q wv hv hsv hc hn)
 have Q0 : Hid (s0.2 ≠ 0 → (sText l 16 s0).2 = s0) := Lib.hid (fun h => by rw [sText_bad h])
 generalize sText l 16 s0 = r0 at H0 Q0 hws ⊢
 obtain ⟨a0, s1⟩ := r0
 dsimp only at H0 Q0 hws ⊢
 have H1 : Hid (∀ w, s1.2 = 0 → RP w R A c l s1.1 → CL bv w R A l → Calls Tryz.prog 85 #[.pointer (some ⟨R, 0, none⟩), .int .i64 16] w (RetX R A c l (.string (sText l 16 s1).1) (sText l 16 s1).2 w)) := Lib.hid (fun wv hzv hv hsv => by
  obtain ⟨q, z⟩ := s1
  dsimp only at hzv hv ⊢
  subst hzv
  exact xText_any R A c l 16 q wv hv hsv hc hn)
 have Q1 : Hid (s1.2 ≠ 0 → (sText l 16 s1).2 = s1) := Lib.hid (fun h => by rw [sText_bad h])
 generalize sText l 16 s1 = r1 at H1 Q1 hws ⊢
 obtain ⟨a1, s2⟩ := r1
 dsimp only at H1 Q1 hws ⊢
 have H2 : Hid (∀ w, s2.2 = 0 → RP w R A c l s2.1 → CL bv w R A l → Calls Tryz.prog 86 #[.pointer (some ⟨R, 0, none⟩), .int .i64 2] w (RetX R A c l (.int .i64 (sBelow l 4 s2).1) (sBelow l 4 s2).2 w)) := Lib.hid (fun wv hzv hv hsv => by
  obtain ⟨q, z⟩ := s2
  dsimp only at hzv hv ⊢
  subst hzv
  exact xFlags2_any R A c l q wv hv hsv hc hn)
 have Q2 : Hid (s2.2 ≠ 0 → (sBelow l 4 s2).2 = s2) := Lib.hid (fun h => by rw [sBelow_bad h])
 have hin := @sBelow_in4 l s2
 generalize sBelow l 4 s2 = r2 at H2 Q2 hin hws ⊢
 obtain ⟨a2, s3⟩ := r2
 dsimp only at H2 Q2 hin hws ⊢
 have H3 : Hid (∀ w, s3.2 = 0 → RP w R A c l s3.1 → CL bv w R A l → Calls Tryz.prog 53 #[.pointer (some ⟨R, 0, none⟩)] w (RetX R A c l (.int .i64 (sNum l s3).1) (sNum l s3).2 w)) := Lib.hid (fun wv hzv hv hsv => by
  obtain ⟨q, z⟩ := s3
  dsimp only at hzv hv ⊢
  subst hzv
  exact xNum_any R A c l q wv hv hsv hc hn)
 have Q3 : Hid (s3.2 ≠ 0 → (sNum l s3).2 = s3) := Lib.hid (fun h => by rw [sNum_bad h])
 generalize sNum l s3 = r3 at H3 Q3 ⊢
 obtain ⟨a3, s4⟩ := r3
 dsimp only at H3 Q3 ⊢
 have H4 : Hid (∀ w, s4.2 = 0 → RP w R A c l s4.1 → CL bv w R A l → Calls Tryz.prog 53 #[.pointer (some ⟨R, 0, none⟩)] w (RetX R A c l (.int .i64 (sNum l s4).1) (sNum l s4).2 w)) := Lib.hid (fun wv hzv hv hsv => by
  obtain ⟨q, z⟩ := s4
  dsimp only at hzv hv ⊢
  subst hzv
  exact xNum_any R A c l q wv hv hsv hc hn)
 have Q4 : Hid (s4.2 ≠ 0 → (sNum l s4).2 = s4) := Lib.hid (fun h => by rw [sNum_bad h])
 generalize sNum l s4 = r4 at H4 Q4 ⊢
 obtain ⟨a4, s5⟩ := r4
 dsimp only at H4 Q4 ⊢
 have H5 : Hid (∀ w, s5.2 = 0 → RP w R A c l s5.1 → CL bv w R A l → Calls Tryz.prog 53 #[.pointer (some ⟨R, 0, none⟩)] w (RetX R A c l (.int .i64 (sNum l s5).1) (sNum l s5).2 w)) := Lib.hid (fun wv hzv hv hsv => by
  obtain ⟨q, z⟩ := s5
  dsimp only at hzv hv ⊢
  subst hzv
  exact xNum_any R A c l q wv hv hsv hc hn)
 have Q5 : Hid (s5.2 ≠ 0 → (sNum l s5).2 = s5) := Lib.hid (fun h => by rw [sNum_bad h])
 generalize sNum l s5 = r5 at H5 Q5 ⊢
 obtain ⟨a5, s6⟩ := r5
 dsimp only at H5 Q5 ⊢
 have HF0 := Lib.hid (fun w => flag_any a2 0 (by decide) (by decide) w)
 have HF1 := Lib.hid (fun w => flag_any a2 1 (by decide) (by decide) w)
 rw [flagR_30 hin] at HF0
 rw [flagR_31 hin, hws] at HF1
 generalize decide (a2 = 1 ∨ a2 = 3) = cl at HF0 ⊢
 clear hws hin
 simp only [Bool.false_eq_true, false_and, if_false]
 obtain ⟨FIN, hFIN⟩ : ∃ F : Pkt × (Int × Int), F = ({ Pkt.zero with kind := 1, client := a0, user := a1, clean := cl, wset := false, keep := a3, expiry := a4, window := a5 }, s6) := ⟨_, rfl⟩
 have FV := Lib.hid hFIN
 have E6 : Hid (s6.2 ≠ 0 → FIN.2 = s6) := Lib.hid (fun _ => by rw [hFIN])
 change Calls _ _ _ _ (RetXC B0 R A c l M ({ Pkt.zero with kind := 1, client := a0, user := a1, clean := cl, wset := false, keep := a3, expiry := a4, window := a5 }, s6).1 ({ Pkt.zero with kind := 1, client := a0, user := a1, clean := cl, wset := false, keep := a3, expiry := a4, window := a5 }, s6).2 w)
 rw [← hFIN]
 clear hFIN
 have E5 : Hid (s5.2 ≠ 0 → FIN.2 = s5) := Lib.hid (fun h => (E6.out (by rw [Q5.out h]; exact h)).trans (Q5.out h))
 have E4 : Hid (s4.2 ≠ 0 → FIN.2 = s4) := Lib.hid (fun h => (E5.out (by rw [Q4.out h]; exact h)).trans (Q4.out h))
 have E3 : Hid (s3.2 ≠ 0 → FIN.2 = s3) := Lib.hid (fun h => (E4.out (by rw [Q3.out h]; exact h)).trans (Q3.out h))
 have E2 : Hid (s2.2 ≠ 0 → FIN.2 = s2) := Lib.hid (fun h => (E3.out (by rw [Q2.out h]; exact h)).trans (Q2.out h))
 have E1 : Hid (s1.2 ≠ 0 → FIN.2 = s1) := Lib.hid (fun h => (E2.out (by rw [Q1.out h]; exact h)).trans (Q1.out h))
 clear hc hn Q0 Q1 Q2 Q3 Q4 Q5
 have HSL := Lib.hid hsl
 have HM0b := Lib.hid hM
 have HR0b := Lib.hid h
 have HK0b : Hid (Kp B0 R w w) := Lib.hid ⟨Below.refl _ _, fun _ _ _ => rfl⟩
 have HS0b : Hid (w.heap.size ≤ w.heap.size) := Lib.hid (Nat.le_refl _)
 have HZ0 := Lib.hid hz0
 have hBw : M < w.heap.size := hM.lt
 obtain ⟨v0, hv0⟩ : ∃ v, v = w := ⟨w, rfl⟩
 obtain ⟨C0, hC0⟩ : ∃ C, C = zC 1 := ⟨_, rfl⟩
 have HL0 : Hid (C0.length = 34) := Lib.hid (by rw [hC0]; rfl)
 rw [← hC0] at HM0b
 have HC0 := Lib.hid hC0
 clear hC0 hM h hz0 hsl hv0 v0
 go_enter Tryz.func54, Tryz.ntmps54
 go_wp2_with fail
 refine (H0.out w HZ0.out HR0b.out (HSL.out.below HK0b.out.1)).mono ?_
 intro e w1 h
 rcases h with ⟨z, rfl, hr, hk⟩ | ⟨z, rfl, hk⟩
 rotate_left
 · have HQ := Lib.hid (E1.out z)
   have HZ := Lib.hid z
   have HK := Lib.hid (HK0b.out.trans (hk.kp (by have := HS0b.out; omega)))
   clear z hk
   unfold pan
   go_wp2_with fail
   exact ⟨rfl, .inr ⟨by rw [HQ.out]; exact HZ.out, by rw [HQ.out]; rfl, HK.out⟩⟩
 have HZ1 := Lib.hid z
 have HR1 := Lib.hid hr
 have HM1 : Hid (MT 38 w1 M C0) := Lib.hid ((hk.2 M HM0b.out.lt (by omega)).trans HM0b.out)
 have HK1 := Lib.hid (HK0b.out.trans (hk.kp (by have := HS0b.out; omega)))
 have HS1 := Lib.hid (Nat.le_trans HS0b.out hk.size)
 clear z hr hk HM0b HK0b HR0b HS0b HZ0 H0
 go_wp2_with (refine wpList_store_blk (by rfl) 9 _ _ rfl rfl M 12 1 rfl (.string a0) rfl 38 C0 [.string a0] HM1.out rfl rfl (oneSz _ (by simp)) (by rw [HL0.out]; decide) (one_cells rfl) ?_; rintro v1 hM hoth hbel; have HN1 := Lib.hid hM; have HO1 := Lib.hid hoth; have HP1 := Lib.hid hbel; clear hM hoth hbel)
 obtain ⟨C1, hC⟩ : ∃ C, C = putC C0 12 [.string a0] := ⟨_, rfl⟩
 have HL1 : Hid (C1.length = 34) := Lib.hid (by rw [hC]; exact (putC_len (by rw [HL0.out]; simp)).trans HL0.out)
 have HM1b : Hid (MT 38 v1 M C1) := Lib.hid (by rw [hC]; exact HN1.out)
 have HC1 := Lib.hid hC
 have HR1b : Hid (RP v1 R A c l s1.1) := Lib.hid ⟨HO1.out R _ _ (by omega) HR1.out.1, HR1.out.2⟩
 have HK1b : Hid (Kp B0 R w v1) := Lib.hid (HK1.out.trans (Kp.of_below (HP1.out B0 _ hB (Below.refl _ _)) (Nat.le_of_lt hRB)))
 have HS1b : Hid (w.heap.size ≤ v1.heap.size) := Lib.hid (Nat.le_trans HS1.out (HP1.out 0 _ (Nat.zero_le _) (Below.refl _ _)).size)
 clear hC HN1 HO1 HP1 HM1 HR1 HK1 HS1
 refine (H1.out v1 HZ1.out HR1b.out (HSL.out.below HK1b.out.1)).mono ?_
 intro e w2 h
 rcases h with ⟨z, rfl, hr, hk⟩ | ⟨z, rfl, hk⟩
 rotate_left
 · have HQ := Lib.hid (E2.out z)
   have HZ := Lib.hid z
   have HK := Lib.hid (HK1b.out.trans (hk.kp (by have := HS1b.out; omega)))
   clear z hk
   unfold pan
   go_wp2_with fail
   exact ⟨rfl, .inr ⟨by rw [HQ.out]; exact HZ.out, by rw [HQ.out]; rfl, HK.out⟩⟩
 have HZ2 := Lib.hid z
 have HR2 := Lib.hid hr
 have HM2 : Hid (MT 38 w2 M C1) := Lib.hid ((hk.2 M HM1b.out.lt (by omega)).trans HM1b.out)
 have HK2 := Lib.hid (HK1b.out.trans (hk.kp (by have := HS1b.out; omega)))
 have HS2 := Lib.hid (Nat.le_trans HS1b.out hk.size)
 clear z hr hk HM1b HK1b HR1b HS1b HZ1 H1
 go_wp2_with (refine wpList_store_blk (by rfl) 9 _ _ rfl rfl M 13 1 rfl (.string a1) rfl 38 C1 [.string a1] HM2.out rfl rfl (oneSz _ (by simp)) (by rw [HL1.out]; decide) (one_cells rfl) ?_; rintro v2 hM hoth hbel; have HN2 := Lib.hid hM; have HO2 := Lib.hid hoth; have HP2 := Lib.hid hbel; clear hM hoth hbel)
 obtain ⟨C2, hC⟩ : ∃ C, C = putC C1 13 [.string a1] := ⟨_, rfl⟩
 have HL2 : Hid (C2.length = 34) := Lib.hid (by rw [hC]; exact (putC_len (by rw [HL1.out]; simp)).trans HL1.out)
 have HM2b : Hid (MT 38 v2 M C2) := Lib.hid (by rw [hC]; exact HN2.out)
 have HC2 := Lib.hid hC
 have HR2b : Hid (RP v2 R A c l s2.1) := Lib.hid ⟨HO2.out R _ _ (by omega) HR2.out.1, HR2.out.2⟩
 have HK2b : Hid (Kp B0 R w v2) := Lib.hid (HK2.out.trans (Kp.of_below (HP2.out B0 _ hB (Below.refl _ _)) (Nat.le_of_lt hRB)))
 have HS2b : Hid (w.heap.size ≤ v2.heap.size) := Lib.hid (Nat.le_trans HS2.out (HP2.out 0 _ (Nat.zero_le _) (Below.refl _ _)).size)
 clear hC HN2 HO2 HP2 HM2 HR2 HK2 HS2
 refine (H2.out v2 HZ2.out HR2b.out (HSL.out.below HK2b.out.1)).mono ?_
 intro e w3 h
 rcases h with ⟨z, rfl, hr, hk⟩ | ⟨z, rfl, hk⟩
 rotate_left
 · have HQ := Lib.hid (E3.out z)
   have HZ := Lib.hid z
   have HK := Lib.hid (HK2b.out.trans (hk.kp (by have := HS2b.out; omega)))
   clear z hk
   unfold pan
   go_wp2_with fail
   exact ⟨rfl, .inr ⟨by rw [HQ.out]; exact HZ.out, by rw [HQ.out]; rfl, HK.out⟩⟩
 have HZ3 := Lib.hid z
 have HR3 := Lib.hid hr
 have HM3 : Hid (MT 38 w3 M C2) := Lib.hid ((hk.2 M HM2b.out.lt (by omega)).trans HM2b.out)
 have HK3 := Lib.hid (HK2b.out.trans (hk.kp (by have := HS2b.out; omega)))
 have HS3 := Lib.hid (Nat.le_trans HS2b.out hk.size)
 clear z hr hk HM2b HK2b HR2b HS2b HZ2 H2
 go_wp2_with fail
 refine (HF0.out _).mono ?_
 rintro e w' ⟨rfl, rfl⟩
 go_wp2_with fail
 refine (HF1.out _).mono ?_
 rintro e w' ⟨rfl, rfl⟩
 go_upto_region 4 with (first | (refine wpList_store_blk (by rfl) 4 _ _ rfl rfl M 14 1 rfl (.bool cl) rfl 38 C2 [.bool cl] HM3.out rfl rfl (oneSz _ (by simp)) (by rw [HL2.out]; decide) (one_cells rfl) ?_; rintro v3 hM hoth hbel; have HN3 := Lib.hid hM; have HO3 := Lib.hid hoth; have HP3 := Lib.hid hbel; clear hM hoth hbel; have HN3 := HN3; have HM3x : Hid (MT 38 v3 M (putC C2 14 [.bool cl])) := HN3) | (refine wpList_store_blk (by rfl) 4 _ _ rfl rfl M 18 1 rfl (.bool false) rfl 38 (putC C2 14 [.bool cl]) [.bool false] HM3x.out rfl rfl (oneSz _ (by simp)) (by rw [putC_len (by rw [HL2.out]; simp), HL2.out]; decide) (one_cells rfl) ?_; rintro v4 hM hoth hbel; have HN4 := Lib.hid hM; have HO4 := Lib.hid hoth; have HP4 := Lib.hid hbel; clear hM hoth hbel))
 obtain ⟨C4, hC⟩ : ∃ C, C = putC (putC C2 14 [.bool cl]) 18 [.bool false] := ⟨_, rfl⟩
 have HL4 : Hid (C4.length = 34) := Lib.hid (by rw [hC, putC_len (by rw [putC_len (by rw [HL2.out]; simp), HL2.out]; decide), putC_len (by rw [HL2.out]; simp), HL2.out])
 have HM3b : Hid (MT 38 v4 M C4) := Lib.hid (by rw [hC]; exact HN4.out)
 have HC4 := Lib.hid hC
 have HR3b : Hid (RP v4 R A c l s3.1) := Lib.hid ⟨HO4.out R _ _ (by omega) (HO3.out R _ _ (by omega) HR3.out.1), HR3.out.2⟩
 have HK3b : Hid (Kp B0 R w v4) := Lib.hid ((HK3.out.trans (Kp.of_below (HP3.out B0 _ hB (Below.refl _ _)) (Nat.le_of_lt hRB))).trans (Kp.of_below (HP4.out B0 _ hB (Below.refl _ _)) (Nat.le_of_lt hRB)))
 have HS3b : Hid (w.heap.size ≤ v4.heap.size) := Lib.hid (Nat.le_trans (Nat.le_trans HS3.out (HP3.out 0 _ (Nat.zero_le _) (Below.refl _ _)).size) (HP4.out 0 _ (Nat.zero_le _) (Below.refl _ _)).size)
 clear hC HN3 HO3 HP3 HN4 HO4 HP4 HM3 HM3x HR3 HK3 HS3
 go_wp2_with fail
 refine (H3.out v4 HZ3.out HR3b.out (HSL.out.below HK3b.out.1)).mono ?_
 intro e w4 h
 rcases h with ⟨z, rfl, hr, hk⟩ | ⟨z, rfl, hk⟩
 rotate_left
 · have HQ := Lib.hid (E4.out z)
   have HZ := Lib.hid z
   have HK := Lib.hid (HK3b.out.trans (hk.kp (by have := HS3b.out; omega)))
   clear z hk
   unfold pan
   go_wp2_with fail
   exact ⟨rfl, .inr ⟨by rw [HQ.out]; exact HZ.out, by rw [HQ.out]; rfl, HK.out⟩⟩
 have HZ4 := Lib.hid z
 have HR4 := Lib.hid hr
 have HM4 : Hid (MT 38 w4 M C4) := Lib.hid ((hk.2 M HM3b.out.lt (by omega)).trans HM3b.out)
 have HK4 := Lib.hid (HK3b.out.trans (hk.kp (by have := HS3b.out; omega)))
 have HS4 := Lib.hid (Nat.le_trans HS3b.out hk.size)
 clear z hr hk HM3b HK3b HR3b HS3b HZ3 H3
 go_wp2_with (refine wpList_store_blk (by rfl) 3 _ _ rfl rfl M 15 1 rfl (.int .i64 a3) rfl 38 C4 [.int .i64 a3] HM4.out rfl rfl (oneSz _ (by simp)) (by rw [HL4.out]; decide) (one_cells rfl) ?_; rintro v4 hM hoth hbel; have HN4 := Lib.hid hM; have HO4 := Lib.hid hoth; have HP4 := Lib.hid hbel; clear hM hoth hbel)
 obtain ⟨C5, hC⟩ : ∃ C, C = putC C4 15 [.int .i64 a3] := ⟨_, rfl⟩
 have HL5 : Hid (C5.length = 34) := Lib.hid (by rw [hC]; exact (putC_len (by rw [HL4.out]; simp)).trans HL4.out)
 have HM4b : Hid (MT 38 v4 M C5) := Lib.hid (by rw [hC]; exact HN4.out)
 have HC5 := Lib.hid hC
 have HR4b : Hid (RP v4 R A c l s4.1) := Lib.hid ⟨HO4.out R _ _ (by omega) HR4.out.1, HR4.out.2⟩
 have HK4b : Hid (Kp B0 R w v4) := Lib.hid (HK4.out.trans (Kp.of_below (HP4.out B0 _ hB (Below.refl _ _)) (Nat.le_of_lt hRB)))
 have HS4b : Hid (w.heap.size ≤ v4.heap.size) := Lib.hid (Nat.le_trans HS4.out (HP4.out 0 _ (Nat.zero_le _) (Below.refl _ _)).size)
 clear hC HN4 HO4 HP4 HM4 HR4 HK4 HS4
 refine (H4.out v4 HZ4.out HR4b.out (HSL.out.below HK4b.out.1)).mono ?_
 intro e w5 h
 rcases h with ⟨z, rfl, hr, hk⟩ | ⟨z, rfl, hk⟩
 rotate_left
 · have HQ := Lib.hid (E5.out z)
   have HZ := Lib.hid z
   have HK := Lib.hid (HK4b.out.trans (hk.kp (by have := HS4b.out; omega)))
   clear z hk
   unfold pan
   go_wp2_with fail
   exact ⟨rfl, .inr ⟨by rw [HQ.out]; exact HZ.out, by rw [HQ.out]; rfl, HK.out⟩⟩
 have HZ5 := Lib.hid z
 have HR5 := Lib.hid hr
 have HM5 : Hid (MT 38 w5 M C5) := Lib.hid ((hk.2 M HM4b.out.lt (by omega)).trans HM4b.out)
 have HK5 := Lib.hid (HK4b.out.trans (hk.kp (by have := HS4b.out; omega)))
 have HS5 := Lib.hid (Nat.le_trans HS4b.out hk.size)
 clear z hr hk HM4b HK4b HR4b HS4b HZ4 H4
 go_wp2_with (refine wpList_store_blk (by rfl) 3 _ _ rfl rfl M 16 1 rfl (.int .i64 a4) rfl 38 C5 [.int .i64 a4] HM5.out rfl rfl (oneSz _ (by simp)) (by rw [HL5.out]; decide) (one_cells rfl) ?_; rintro v5 hM hoth hbel; have HN5 := Lib.hid hM; have HO5 := Lib.hid hoth; have HP5 := Lib.hid hbel; clear hM hoth hbel)
 obtain ⟨C6, hC⟩ : ∃ C, C = putC C5 16 [.int .i64 a4] := ⟨_, rfl⟩
 have HL6 : Hid (C6.length = 34) := Lib.hid (by rw [hC]; exact (putC_len (by rw [HL5.out]; simp)).trans HL5.out)
 have HM5b : Hid (MT 38 v5 M C6) := Lib.hid (by rw [hC]; exact HN5.out)
 have HC6 := Lib.hid hC
 have HR5b : Hid (RP v5 R A c l s5.1) := Lib.hid ⟨HO5.out R _ _ (by omega) HR5.out.1, HR5.out.2⟩
 have HK5b : Hid (Kp B0 R w v5) := Lib.hid (HK5.out.trans (Kp.of_below (HP5.out B0 _ hB (Below.refl _ _)) (Nat.le_of_lt hRB)))
 have HS5b : Hid (w.heap.size ≤ v5.heap.size) := Lib.hid (Nat.le_trans HS5.out (HP5.out 0 _ (Nat.zero_le _) (Below.refl _ _)).size)
 clear hC HN5 HO5 HP5 HM5 HR5 HK5 HS5
 refine (H5.out v5 HZ5.out HR5b.out (HSL.out.below HK5b.out.1)).mono ?_
 intro e w6 h
 rcases h with ⟨z, rfl, hr, hk⟩ | ⟨z, rfl, hk⟩
 rotate_left
 · have HQ := Lib.hid (E6.out z)
   have HZ := Lib.hid z
   have HK := Lib.hid (HK5b.out.trans (hk.kp (by have := HS5b.out; omega)))
   clear z hk
   unfold pan
   go_wp2_with fail
   exact ⟨rfl, .inr ⟨by rw [HQ.out]; exact HZ.out, by rw [HQ.out]; rfl, HK.out⟩⟩
 have HZ6 := Lib.hid z
 have HR6 := Lib.hid hr
 have HM6 : Hid (MT 38 w6 M C6) := Lib.hid ((hk.2 M HM5b.out.lt (by omega)).trans HM5b.out)
 have HK6 := Lib.hid (HK5b.out.trans (hk.kp (by have := HS5b.out; omega)))
 have HS6 := Lib.hid (Nat.le_trans HS5b.out hk.size)
 clear z hr hk HM5b HK5b HR5b HS5b HZ5 H5
 go_upto_region 7 with (refine wpList_store_blk (by rfl) 3 _ _ rfl rfl M 17 1 rfl (.int .i64 a5) rfl 38 C6 [.int .i64 a5] HM6.out rfl rfl (oneSz _ (by simp)) (by rw [HL6.out]; decide) (one_cells rfl) ?_; rintro v6 hM hoth hbel; have HN6 := Lib.hid hM; have HO6 := Lib.hid hoth; have HP6 := Lib.hid hbel; clear hM hoth hbel)
 obtain ⟨C7, hC⟩ : ∃ C, C = putC C6 17 [.int .i64 a5] := ⟨_, rfl⟩
 have HL7 : Hid (C7.length = 34) := Lib.hid (by rw [hC]; exact (putC_len (by rw [HL6.out]; simp)).trans HL6.out)
 have HM6b : Hid (MT 38 v6 M C7) := Lib.hid (by rw [hC]; exact HN6.out)
 have HC7 := Lib.hid hC
 have HR6b : Hid (RP v6 R A c l s6.1) := Lib.hid ⟨HO6.out R _ _ (by omega) HR6.out.1, HR6.out.2⟩
 have HK6b : Hid (Kp B0 R w v6) := Lib.hid (HK6.out.trans (Kp.of_below (HP6.out B0 _ hB (Below.refl _ _)) (Nat.le_of_lt hRB)))
 have HS6b : Hid (w.heap.size ≤ v6.heap.size) := Lib.hid (Nat.le_trans HS6.out (HP6.out 0 _ (Nat.zero_le _) (Below.refl _ _)).size)
 clear hC HN6 HO6 HP6 HM6 HR6 HK6 HS6
 have k18 : v6.cell? ⟨M, 18, none⟩ = some (.bool false) := (HM6b.out.cell 18).trans (by rw [HC7.out, HC6.out, HC5.out, HC4.out, HC2.out, HC1.out, HC0.out]; rfl)
 go_wp2_with fail
 go_end0
 rw [FV.out]
 exact .inl ⟨HZ6.out, rfl, ⟨none, 0, by have := HM6b.out; rw [HC7.out, HC6.out, HC5.out, HC4.out, HC2.out, HC1.out, HC0.out] at this; exact this, OwnG.nil _ _, rfl, rfl, rfl, rfl⟩, HR6b.out, HK6b.out, HS6b.out⟩

theorem xConn_true (B0 R : Nat) (A : Option Addr) (c : Nat) (l : List UInt8) (s0 : Int × Int) (hz0 : s0.2 = 0) (M : Nat) (w : World) (h : RP w R A c l s0.1) (hM : MT 38 w M (zC 1)) (hB : B0 ≤ M) (hRB : R < B0) (hsl : CL bv w R A l) (hc : l.length ≤ c) (hn : l.length ≤ 140737488355328)
 (hws : decide ((sBelow l 4 (sText l 16 (sText l 16 s0).2).2).1 = 2 ∨ (sBelow l 4 (sText l 16 (sText l 16 s0).2).2).1 = 3) = true) :
 Calls Tryz.prog 54 #[.pointer (some ⟨R, 0, none⟩), .pointer (some ⟨M, 0, none⟩)] w (RetXC B0 R A c l M (sConn l s0).1 (sConn l s0).2 w) := by
 unfold sConn
 dsimp only
 rw [hws]
 have H0 : Hid (∀ w, s0.2 = 0 → RP w R A c l s0.1 → CL bv w R A l → Calls Tryz.prog 85 #[.pointer (some ⟨R, 0, none⟩), .int .i64 16] w (RetX R A c l (.string (sText l 16 s0).1) (sText l 16 s0).2 w)) := Lib.hid (fun wv hzv hv hsv => by
  obtain ⟨q, z⟩ := s0
  dsimp only at hzv hv ⊢
  subst hzv
  exact xText_any R A c l 16 q wv hv hsv hc hn)
 have Q0 : Hid (s0.2 ≠ 0 → (sText l 16 s0).2 = s0) := Lib.hid (fun h => by rw [sText_bad h])
 generalize sText l 16 s0 = r0 at H0 Q0 hws ⊢
 obtain ⟨a0, s1⟩ := r0
 dsimp only at H0 Q0 hws ⊢
 have H1 : Hid (∀ w, s1.2 = 0 → RP w R A c l s1.1 → CL bv w R A l → Calls Tryz.prog 85 #[.pointer (some ⟨R, 0, none⟩), .int .i64 16] w (RetX R A c l (.string (sText l 16 s1).1) (sText l 16 s1).2 w)) := Lib.hid (fun wv hzv hv hsv => by
  obtain ⟨q, z⟩ := s1
  dsimp only at hzv hv ⊢
  subst hzv
  exact xText_any R A c l 16 q wv hv hsv hc hn)
 have Q1 : Hid (s1.2 ≠ 0 → (sText l 16 s1).2 = s1) := Lib.hid (fun h => by rw [sText_bad h])
 generalize sText l 16 s1 = r1 at H1 Q1 hws ⊢
 obtain ⟨a1, s2⟩ := r1
 dsimp only at H1 Q1 hws ⊢
 have H2 : Hid (∀ w, s2.2 = 0 → RP w R A c l s2.1 → CL bv w R A l → Calls Tryz.prog 86 #[.pointer (some ⟨R, 0, none⟩), .int .i64 2] w (RetX R A c l (.int .i64 (sBelow l 4 s2).1) (sBelow l 4 s2).2 w)) := Lib.hid (fun wv hzv hv hsv => by
  obtain ⟨q, z⟩ := s2
  dsimp only at hzv hv ⊢
  subst hzv
  exact xFlags2_any R A c l q wv hv hsv hc hn)
 have Q2 : Hid (s2.2 ≠ 0 → (sBelow l 4 s2).2 = s2) := Lib.hid (fun h => by rw [sBelow_bad h])
 have hin := @sBelow_in4 l s2
 generalize sBelow l 4 s2 = r2 at H2 Q2 hin hws ⊢
 obtain ⟨a2, s3⟩ := r2
 dsimp only at H2 Q2 hin hws ⊢
 have H3 : Hid (∀ w, s3.2 = 0 → RP w R A c l s3.1 → CL bv w R A l → Calls Tryz.prog 53 #[.pointer (some ⟨R, 0, none⟩)] w (RetX R A c l (.int .i64 (sNum l s3).1) (sNum l s3).2 w)) := Lib.hid (fun wv hzv hv hsv => by
  obtain ⟨q, z⟩ := s3
  dsimp only at hzv hv ⊢
  subst hzv
  exact xNum_any R A c l q wv hv hsv hc hn)
 have Q3 : Hid (s3.2 ≠ 0 → (sNum l s3).2 = s3) := Lib.hid (fun h => by rw [sNum_bad h])
 generalize sNum l s3 = r3 at H3 Q3 ⊢
 obtain ⟨a3, s4⟩ := r3
 dsimp only at H3 Q3 ⊢
 have H4 : Hid (∀ w, s4.2 = 0 → RP w R A c l s4.1 → CL bv w R A l → Calls Tryz.prog 53 #[.pointer (some ⟨R, 0, none⟩)] w (RetX R A c l (.int .i64 (sNum l s4).1) (sNum l s4).2 w)) := Lib.hid (fun wv hzv hv hsv => by
  obtain ⟨q, z⟩ := s4
  dsimp only at hzv hv ⊢
  subst hzv
  exact xNum_any R A c l q wv hv hsv hc hn)
 have Q4 : Hid (s4.2 ≠ 0 → (sNum l s4).2 = s4) := Lib.hid (fun h => by rw [sNum_bad h])
 generalize sNum l s4 = r4 at H4 Q4 ⊢
 obtain ⟨a4, s5⟩ := r4
 dsimp only at H4 Q4 ⊢
 have H5 : Hid (∀ w, s5.2 = 0 → RP w R A c l s5.1 → CL bv w R A l → Calls Tryz.prog 53 #[.pointer (some ⟨R, 0, none⟩)] w (RetX R A c l (.int .i64 (sNum l s5).1) (sNum l s5).2 w)) := Lib.hid (fun wv hzv hv hsv => by
  obtain ⟨q, z⟩ := s5
  dsimp only at hzv hv ⊢
  subst hzv
  exact xNum_any R A c l q wv hv hsv hc hn)
 have Q5 : Hid (s5.2 ≠ 0 → (sNum l s5).2 = s5) := Lib.hid (fun h => by rw [sNum_bad h])
 generalize sNum l s5 = r5 at H5 Q5 ⊢
 obtain ⟨a5, s6⟩ := r5
 dsimp only at H5 Q5 ⊢
 have HF0 := Lib.hid (fun w => flag_any a2 0 (by decide) (by decide) w)
 have HF1 := Lib.hid (fun w => flag_any a2 1 (by decide) (by decide) w)
 rw [flagR_30 hin] at HF0
 rw [flagR_31 hin, hws] at HF1
 generalize decide (a2 = 1 ∨ a2 = 3) = cl at HF0 ⊢
 clear hws hin
 have H6 : Hid (∀ w, s6.2 = 0 → RP w R A c l s6.1 → CL bv w R A l → Calls Tryz.prog 53 #[.pointer (some ⟨R, 0, none⟩)] w (RetX R A c l (.int .i64 (sNum l s6).1) (sNum l s6).2 w)) := Lib.hid (fun wv hzv hv hsv => by
  obtain ⟨q, z⟩ := s6
  dsimp only at hzv hv ⊢
  subst hzv
  exact xNum_any R A c l q wv hv hsv hc hn)
 have Q6 : Hid (s6.2 ≠ 0 → (sNum l s6).2 = s6) := Lib.hid (fun h => by rw [sNum_bad h])
 generalize hr6 : sNum l s6 = r6 at H6 Q6 ⊢
 obtain ⟨a6, s7⟩ := r6
 dsimp only at H6 Q6 ⊢
 have H7 : Hid (∀ w, s7.2 = 0 → RP w R A c l s7.1 → CL bv w R A l → Calls Tryz.prog 56 #[.pointer (some ⟨R, 0, none⟩)] w (RetXM R A c l (sMsg l s7).1 (sMsg l s7).2 w)) := Lib.hid (fun wv hzv hv hsv => xMsg_any R A c l s7 hzv wv hv hsv hc hn)
 have Q7 : Hid (s7.2 ≠ 0 → (sMsg l s7).2 = s7) := Lib.hid (fun h => sMsg_bad h)
 generalize sMsg l s7 = r7 at H7 Q7 ⊢
 obtain ⟨a7, s8⟩ := r7
 dsimp only at H7 Q7 ⊢
 obtain ⟨FIN, hFIN⟩ : ∃ F : Pkt × (Int × Int), F = (if true = true ∧ s6.2 = 0 then ({ Pkt.zero with kind := 1, client := a0, user := a1, clean := cl, wset := true, keep := a3, expiry := a4, window := a5, wdelay := a6, wmsg := a7 }, s8) else ({ Pkt.zero with kind := 1, client := a0, user := a1, clean := cl, wset := true, keep := a3, expiry := a4, window := a5 }, s6)) := ⟨_, rfl⟩
 have hgoal : RetXC B0 R A c l M FIN.1 FIN.2 w = RetXC B0 R A c l M (if true = true ∧ s6.2 = 0 then ({ Pkt.zero with kind := 1, client := a0, user := a1, clean := cl, wset := true, keep := a3, expiry := a4, window := a5, wdelay := a6, wmsg := a7 }, s8) else ({ Pkt.zero with kind := 1, client := a0, user := a1, clean := cl, wset := true, keep := a3, expiry := a4, window := a5 }, s6)).1 (if true = true ∧ s6.2 = 0 then ({ Pkt.zero with kind := 1, client := a0, user := a1, clean := cl, wset := true, keep := a3, expiry := a4, window := a5, wdelay := a6, wmsg := a7 }, s8) else ({ Pkt.zero with kind := 1, client := a0, user := a1, clean := cl, wset := true, keep := a3, expiry := a4, window := a5 }, s6)).2 w := by rw [hFIN]
 rw [← hgoal]
 clear hgoal hr6
 have E6 : Hid (s6.2 ≠ 0 → FIN.2 = s6) := Lib.hid (fun h => by rw [hFIN, if_neg (fun h2 => h h2.2)])
 have FV : Hid (s6.2 = 0 → FIN = ({ Pkt.zero with kind := 1, client := a0, user := a1, clean := cl, wset := true, keep := a3, expiry := a4, window := a5, wdelay := a6, wmsg := a7 }, s8)) := Lib.hid (fun h => by rw [hFIN, if_pos ⟨rfl, h⟩])
 have E7 : Hid (s7.2 ≠ 0 → s8 = s7) := Lib.hid Q7.out
 clear hFIN Q6 Q7
 have E5 : Hid (s5.2 ≠ 0 → FIN.2 = s5) := Lib.hid (fun h => (E6.out (by rw [Q5.out h]; exact h)).trans (Q5.out h))
 have E4 : Hid (s4.2 ≠ 0 → FIN.2 = s4) := Lib.hid (fun h => (E5.out (by rw [Q4.out h]; exact h)).trans (Q4.out h))
 have E3 : Hid (s3.2 ≠ 0 → FIN.2 = s3) := Lib.hid (fun h => (E4.out (by rw [Q3.out h]; exact h)).trans (Q3.out h))
 have E2 : Hid (s2.2 ≠ 0 → FIN.2 = s2) := Lib.hid (fun h => (E3.out (by rw [Q2.out h]; exact h)).trans (Q2.out h))
 have E1 : Hid (s1.2 ≠ 0 → FIN.2 = s1) := Lib.hid (fun h => (E2.out (by rw [Q1.out h]; exact h)).trans (Q1.out h))
 clear hc hn Q0 Q1 Q2 Q3 Q4 Q5
 have HSL := Lib.hid hsl
 have HM0b := Lib.hid hM
 have HR0b := Lib.hid h
 have HK0b : Hid (Kp B0 R w w) := Lib.hid ⟨Below.refl _ _, fun _ _ _ => rfl⟩
 have HS0b : Hid (w.heap.size ≤ w.heap.size) := Lib.hid (Nat.le_refl _)
 have HZ0 := Lib.hid hz0
 have hBw : M < w.heap.size := hM.lt
 obtain ⟨v0, hv0⟩ : ∃ v, v = w := ⟨w, rfl⟩
 obtain ⟨C0, hC0⟩ : ∃ C, C = zC 1 := ⟨_, rfl⟩
 have HL0 : Hid (C0.length = 34) := Lib.hid (by rw [hC0]; rfl)
 rw [← hC0] at HM0b
 have HC0 := Lib.hid hC0
 clear hC0 hM h hz0 hsl hv0 v0
 go_enter Tryz.func54, Tryz.ntmps54
 go_wp2_with fail
 refine (H0.out w HZ0.out HR0b.out (HSL.out.below HK0b.out.1)).mono ?_
 intro e w1 h
 rcases h with ⟨z, rfl, hr, hk⟩ | ⟨z, rfl, hk⟩
 rotate_left
 · have HQ := Lib.hid (E1.out z)
   have HZ := Lib.hid z
   have HK := Lib.hid (HK0b.out.trans (hk.kp (by have := HS0b.out; omega)))
   clear z hk
   unfold pan
   go_wp2_with fail
   exact ⟨rfl, .inr ⟨by rw [HQ.out]; exact HZ.out, by rw [HQ.out]; rfl, HK.out⟩⟩
 have HZ1 := Lib.hid z
 have HR1 := Lib.hid hr
 have HM1 : Hid (MT 38 w1 M C0) := Lib.hid ((hk.2 M HM0b.out.lt (by omega)).trans HM0b.out)
 have HK1 := Lib.hid (HK0b.out.trans (hk.kp (by have := HS0b.out; omega)))
 have HS1 := Lib.hid (Nat.le_trans HS0b.out hk.size)
 clear z hr hk HM0b HK0b HR0b HS0b HZ0 H0
 go_wp2_with (refine wpList_store_blk (by rfl) 9 _ _ rfl rfl M 12 1 rfl (.string a0) rfl 38 C0 [.string a0] HM1.out rfl rfl (oneSz _ (by simp)) (by rw [HL0.out]; decide) (one_cells rfl) ?_; rintro v1 hM hoth hbel; have HN1 := Lib.hid hM; have HO1 := Lib.hid hoth; have HP1 := Lib.hid hbel; clear hM hoth hbel)
 obtain ⟨C1, hC⟩ : ∃ C, C = putC C0 12 [.string a0] := ⟨_, rfl⟩
 have HL1 : Hid (C1.length = 34) := Lib.hid (by rw [hC]; exact (putC_len (by rw [HL0.out]; simp)).trans HL0.out)
 have HM1b : Hid (MT 38 v1 M C1) := Lib.hid (by rw [hC]; exact HN1.out)
 have HC1 := Lib.hid hC
 have HR1b : Hid (RP v1 R A c l s1.1) := Lib.hid ⟨HO1.out R _ _ (by omega) HR1.out.1, HR1.out.2⟩
 have HK1b : Hid (Kp B0 R w v1) := Lib.hid (HK1.out.trans (Kp.of_below (HP1.out B0 _ hB (Below.refl _ _)) (Nat.le_of_lt hRB)))
 have HS1b : Hid (w.heap.size ≤ v1.heap.size) := Lib.hid (Nat.le_trans HS1.out (HP1.out 0 _ (Nat.zero_le _) (Below.refl _ _)).size)
 clear hC HN1 HO1 HP1 HM1 HR1 HK1 HS1
 refine (H1.out v1 HZ1.out HR1b.out (HSL.out.below HK1b.out.1)).mono ?_
 intro e w2 h
 rcases h with ⟨z, rfl, hr, hk⟩ | ⟨z, rfl, hk⟩
 rotate_left
 · have HQ := Lib.hid (E2.out z)
   have HZ := Lib.hid z
   have HK := Lib.hid (HK1b.out.trans (hk.kp (by have := HS1b.out; omega)))
   clear z hk
   unfold pan
   go_wp2_with fail
   exact ⟨rfl, .inr ⟨by rw [HQ.out]; exact HZ.out, by rw [HQ.out]; rfl, HK.out⟩⟩
 have HZ2 := Lib.hid z
 have HR2 := Lib.hid hr
 have HM2 : Hid (MT 38 w2 M C1) := Lib.hid ((hk.2 M HM1b.out.lt (by omega)).trans HM1b.out)
 have HK2 := Lib.hid (HK1b.out.trans (hk.kp (by have := HS1b.out; omega)))
 have HS2 := Lib.hid (Nat.le_trans HS1b.out hk.size)
 clear z hr hk HM1b HK1b HR1b HS1b HZ1 H1
 go_wp2_with (refine wpList_store_blk (by rfl) 9 _ _ rfl rfl M 13 1 rfl (.string a1) rfl 38 C1 [.string a1] HM2.out rfl rfl (oneSz _ (by simp)) (by rw [HL1.out]; decide) (one_cells rfl) ?_; rintro v2 hM hoth hbel; have HN2 := Lib.hid hM; have HO2 := Lib.hid hoth; have HP2 := Lib.hid hbel; clear hM hoth hbel)
 obtain ⟨C2, hC⟩ : ∃ C, C = putC C1 13 [.string a1] := ⟨_, rfl⟩
 have HL2 : Hid (C2.length = 34) := Lib.hid (by rw [hC]; exact (putC_len (by rw [HL1.out]; simp)).trans HL1.out)
 have HM2b : Hid (MT 38 v2 M C2) := Lib.hid (by rw [hC]; exact HN2.out)
 have HC2 := Lib.hid hC
 have HR2b : Hid (RP v2 R A c l s2.1) := Lib.hid ⟨HO2.out R _ _ (by omega) HR2.out.1, HR2.out.2⟩
 have HK2b : Hid (Kp B0 R w v2) := Lib.hid (HK2.out.trans (Kp.of_below (HP2.out B0 _ hB (Below.refl _ _)) (Nat.le_of_lt hRB)))
 have HS2b : Hid (w.heap.size ≤ v2.heap.size) := Lib.hid (Nat.le_trans HS2.out (HP2.out 0 _ (Nat.zero_le _) (Below.refl _ _)).size)
 clear hC HN2 HO2 HP2 HM2 HR2 HK2 HS2
 refine (H2.out v2 HZ2.out HR2b.out (HSL.out.below HK2b.out.1)).mono ?_
 intro e w3 h
 rcases h with ⟨z, rfl, hr, hk⟩ | ⟨z, rfl, hk⟩
 rotate_left
 · have HQ := Lib.hid (E3.out z)
   have HZ := Lib.hid z
   have HK := Lib.hid (HK2b.out.trans (hk.kp (by have := HS2b.out; omega)))
   clear z hk
   unfold pan
   go_wp2_with fail
   exact ⟨rfl, .inr ⟨by rw [HQ.out]; exact HZ.out, by rw [HQ.out]; rfl, HK.out⟩⟩
 have HZ3 := Lib.hid z
 have HR3 := Lib.hid hr
 have HM3 : Hid (MT 38 w3 M C2) := Lib.hid ((hk.2 M HM2b.out.lt (by omega)).trans HM2b.out)
 have HK3 := Lib.hid (HK2b.out.trans (hk.kp (by have := HS2b.out; omega)))
 have HS3 := Lib.hid (Nat.le_trans HS2b.out hk.size)
 clear z hr hk HM2b HK2b HR2b HS2b HZ2 H2
 go_wp2_with fail
 refine (HF0.out _).mono ?_
 rintro e w' ⟨rfl, rfl⟩
 go_wp2_with fail
 refine (HF1.out _).mono ?_
 rintro e w' ⟨rfl, rfl⟩
 go_upto_region 4 with (first | (refine wpList_store_blk (by rfl) 4 _ _ rfl rfl M 14 1 rfl (.bool cl) rfl 38 C2 [.bool cl] HM3.out rfl rfl (oneSz _ (by simp)) (by rw [HL2.out]; decide) (one_cells rfl) ?_; rintro v3 hM hoth hbel; have HN3 := Lib.hid hM; have HO3 := Lib.hid hoth; have HP3 := Lib.hid hbel; clear hM hoth hbel; have HN3 := HN3; have HM3x : Hid (MT 38 v3 M (putC C2 14 [.bool cl])) := HN3) | (refine wpList_store_blk (by rfl) 4 _ _ rfl rfl M 18 1 rfl (.bool true) rfl 38 (putC C2 14 [.bool cl]) [.bool true] HM3x.out rfl rfl (oneSz _ (by simp)) (by rw [putC_len (by rw [HL2.out]; simp), HL2.out]; decide) (one_cells rfl) ?_; rintro v4 hM hoth hbel; have HN4 := Lib.hid hM; have HO4 := Lib.hid hoth; have HP4 := Lib.hid hbel; clear hM hoth hbel))
 obtain ⟨C4, hC⟩ : ∃ C, C = putC (putC C2 14 [.bool cl]) 18 [.bool true] := ⟨_, rfl⟩
 have HL4 : Hid (C4.length = 34) := Lib.hid (by rw [hC, putC_len (by rw [putC_len (by rw [HL2.out]; simp), HL2.out]; decide), putC_len (by rw [HL2.out]; simp), HL2.out])
 have HM3b : Hid (MT 38 v4 M C4) := Lib.hid (by rw [hC]; exact HN4.out)
 have HC4 := Lib.hid hC
 have HR3b : Hid (RP v4 R A c l s3.1) := Lib.hid ⟨HO4.out R _ _ (by omega) (HO3.out R _ _ (by omega) HR3.out.1), HR3.out.2⟩
 have HK3b : Hid (Kp B0 R w v4) := Lib.hid ((HK3.out.trans (Kp.of_below (HP3.out B0 _ hB (Below.refl _ _)) (Nat.le_of_lt hRB))).trans (Kp.of_below (HP4.out B0 _ hB (Below.refl _ _)) (Nat.le_of_lt hRB)))
 have HS3b : Hid (w.heap.size ≤ v4.heap.size) := Lib.hid (Nat.le_trans (Nat.le_trans HS3.out (HP3.out 0 _ (Nat.zero_le _) (Below.refl _ _)).size) (HP4.out 0 _ (Nat.zero_le _) (Below.refl _ _)).size)
 clear hC HN3 HO3 HP3 HN4 HO4 HP4 HM3 HM3x HR3 HK3 HS3
 go_wp2_with fail
 refine (H3.out v4 HZ3.out HR3b.out (HSL.out.below HK3b.out.1)).mono ?_
 intro e w4 h
 rcases h with ⟨z, rfl, hr, hk⟩ | ⟨z, rfl, hk⟩
 rotate_left
 · have HQ := Lib.hid (E4.out z)
   have HZ := Lib.hid z
   have HK := Lib.hid (HK3b.out.trans (hk.kp (by have := HS3b.out; omega)))
   clear z hk
   unfold pan
   go_wp2_with fail
   exact ⟨rfl, .inr ⟨by rw [HQ.out]; exact HZ.out, by rw [HQ.out]; rfl, HK.out⟩⟩
 have HZ4 := Lib.hid z
 have HR4 := Lib.hid hr
 have HM4 : Hid (MT 38 w4 M C4) := Lib.hid ((hk.2 M HM3b.out.lt (by omega)).trans HM3b.out)
 have HK4 := Lib.hid (HK3b.out.trans (hk.kp (by have := HS3b.out; omega)))
 have HS4 := Lib.hid (Nat.le_trans HS3b.out hk.size)
 clear z hr hk HM3b HK3b HR3b HS3b HZ3 H3
 go_wp2_with (refine wpList_store_blk (by rfl) 3 _ _ rfl rfl M 15 1 rfl (.int .i64 a3) rfl 38 C4 [.int .i64 a3] HM4.out rfl rfl (oneSz _ (by simp)) (by rw [HL4.out]; decide) (one_cells rfl) ?_; rintro v4 hM hoth hbel; have HN4 := Lib.hid hM; have HO4 := Lib.hid hoth; have HP4 := Lib.hid hbel; clear hM hoth hbel)
 obtain ⟨C5, hC⟩ : ∃ C, C = putC C4 15 [.int .i64 a3] := ⟨_, rfl⟩
 have HL5 : Hid (C5.length = 34) := Lib.hid (by rw [hC]; exact (putC_len (by rw [HL4.out]; simp)).trans HL4.out)
 have HM4b : Hid (MT 38 v4 M C5) := Lib.hid (by rw [hC]; exact HN4.out)
 have HC5 := Lib.hid hC
 have HR4b : Hid (RP v4 R A c l s4.1) := Lib.hid ⟨HO4.out R _ _ (by omega) HR4.out.1, HR4.out.2⟩
 have HK4b : Hid (Kp B0 R w v4) := Lib.hid (HK4.out.trans (Kp.of_below (HP4.out B0 _ hB (Below.refl _ _)) (Nat.le_of_lt hRB)))
 have HS4b : Hid (w.heap.size ≤ v4.heap.size) := Lib.hid (Nat.le_trans HS4.out (HP4.out 0 _ (Nat.zero_le _) (Below.refl _ _)).size)
 clear hC HN4 HO4 HP4 HM4 HR4 HK4 HS4
 refine (H4.out v4 HZ4.out HR4b.out (HSL.out.below HK4b.out.1)).mono ?_
 intro e w5 h
 rcases h with ⟨z, rfl, hr, hk⟩ | ⟨z, rfl, hk⟩
 rotate_left
 · have HQ := Lib.hid (E5.out z)
   have HZ := Lib.hid z
   have HK := Lib.hid (HK4b.out.trans (hk.kp (by have := HS4b.out; omega)))
   clear z hk
   unfold pan
   go_wp2_with fail
   exact ⟨rfl, .inr ⟨by rw [HQ.out]; exact HZ.out, by rw [HQ.out]; rfl, HK.out⟩⟩
 have HZ5 := Lib.hid z
 have HR5 := Lib.hid hr
 have HM5 : Hid (MT 38 w5 M C5) := Lib.hid ((hk.2 M HM4b.out.lt (by omega)).trans HM4b.out)
 have HK5 := Lib.hid (HK4b.out.trans (hk.kp (by have := HS4b.out; omega)))
 have HS5 := Lib.hid (Nat.le_trans HS4b.out hk.size)
 clear z hr hk HM4b HK4b HR4b HS4b HZ4 H4
 go_wp2_with (refine wpList_store_blk (by rfl) 3 _ _ rfl rfl M 16 1 rfl (.int .i64 a4) rfl 38 C5 [.int .i64 a4] HM5.out rfl rfl (oneSz _ (by simp)) (by rw [HL5.out]; decide) (one_cells rfl) ?_; rintro v5 hM hoth hbel; have HN5 := Lib.hid hM; have HO5 := Lib.hid hoth; have HP5 := Lib.hid hbel; clear hM hoth hbel)
 obtain ⟨C6, hC⟩ : ∃ C, C = putC C5 16 [.int .i64 a4] := ⟨_, rfl⟩
 have HL6 : Hid (C6.length = 34) := Lib.hid (by rw [hC]; exact (putC_len (by rw [HL5.out]; simp)).trans HL5.out)
 have HM5b : Hid (MT 38 v5 M C6) := Lib.hid (by rw [hC]; exact HN5.out)
 have HC6 := Lib.hid hC
 have HR5b : Hid (RP v5 R A c l s5.1) := Lib.hid ⟨HO5.out R _ _ (by omega) HR5.out.1, HR5.out.2⟩
 have HK5b : Hid (Kp B0 R w v5) := Lib.hid (HK5.out.trans (Kp.of_below (HP5.out B0 _ hB (Below.refl _ _)) (Nat.le_of_lt hRB)))
 have HS5b : Hid (w.heap.size ≤ v5.heap.size) := Lib.hid (Nat.le_trans HS5.out (HP5.out 0 _ (Nat.zero_le _) (Below.refl _ _)).size)
 clear hC HN5 HO5 HP5 HM5 HR5 HK5 HS5
 refine (H5.out v5 HZ5.out HR5b.out (HSL.out.below HK5b.out.1)).mono ?_
 intro e w6 h
 rcases h with ⟨z, rfl, hr, hk⟩ | ⟨z, rfl, hk⟩
 rotate_left
 · have HQ := Lib.hid (E6.out z)
   have HZ := Lib.hid z
   have HK := Lib.hid (HK5b.out.trans (hk.kp (by have := HS5b.out; omega)))
   clear z hk
   unfold pan
   go_wp2_with fail
   exact ⟨rfl, .inr ⟨by rw [HQ.out]; exact HZ.out, by rw [HQ.out]; rfl, HK.out⟩⟩
 have HZ6 := Lib.hid z
 have HR6 := Lib.hid hr
 have HM6 : Hid (MT 38 w6 M C6) := Lib.hid ((hk.2 M HM5b.out.lt (by omega)).trans HM5b.out)
 have HK6 := Lib.hid (HK5b.out.trans (hk.kp (by have := HS5b.out; omega)))
 have HS6 := Lib.hid (Nat.le_trans HS5b.out hk.size)
 clear z hr hk HM5b HK5b HR5b HS5b HZ5 H5
 go_upto_region 7 with (refine wpList_store_blk (by rfl) 3 _ _ rfl rfl M 17 1 rfl (.int .i64 a5) rfl 38 C6 [.int .i64 a5] HM6.out rfl rfl (oneSz _ (by simp)) (by rw [HL6.out]; decide) (one_cells rfl) ?_; rintro v6 hM hoth hbel; have HN6 := Lib.hid hM; have HO6 := Lib.hid hoth; have HP6 := Lib.hid hbel; clear hM hoth hbel)
 obtain ⟨C7, hC⟩ : ∃ C, C = putC C6 17 [.int .i64 a5] := ⟨_, rfl⟩
 have HL7 : Hid (C7.length = 34) := Lib.hid (by rw [hC]; exact (putC_len (by rw [HL6.out]; simp)).trans HL6.out)
 have HM6b : Hid (MT 38 v6 M C7) := Lib.hid (by rw [hC]; exact HN6.out)
 have HC7 := Lib.hid hC
 have HR6b : Hid (RP v6 R A c l s6.1) := Lib.hid ⟨HO6.out R _ _ (by omega) HR6.out.1, HR6.out.2⟩
 have HK6b : Hid (Kp B0 R w v6) := Lib.hid (HK6.out.trans (Kp.of_below (HP6.out B0 _ hB (Below.refl _ _)) (Nat.le_of_lt hRB)))
 have HS6b : Hid (w.heap.size ≤ v6.heap.size) := Lib.hid (Nat.le_trans HS6.out (HP6.out 0 _ (Nat.zero_le _) (Below.refl _ _)).size)
 clear hC HN6 HO6 HP6 HM6 HR6 HK6 HS6
 have k18 : v6.cell? ⟨M, 18, none⟩ = some (.bool true) := (HM6b.out.cell 18).trans (by rw [HC7.out, HC6.out, HC5.out, HC4.out, HC2.out, HC1.out, HC0.out]; rfl)
 go_wp2_with fail
 clear k18
 refine (H6.out v6 HZ6.out HR6b.out (HSL.out.below HK6b.out.1)).mono ?_
 intro e w7 h
 rcases h with ⟨z, rfl, hr, hk⟩ | ⟨z, rfl, hk⟩
 rotate_left
 · have HQ := Lib.hid ((congrArg Prod.snd (FV.out HZ6.out)).trans (E7.out z))
   have HZ := Lib.hid z
   have HK := Lib.hid (HK6b.out.trans (hk.kp (by have := HS6b.out; omega)))
   clear z hk
   unfold pan
   go_wp2_with fail
   exact ⟨rfl, .inr ⟨by rw [HQ.out]; exact HZ.out, by rw [HQ.out]; rfl, HK.out⟩⟩
 have HZ7 := Lib.hid z
 have HR7 := Lib.hid hr
 have HM7 : Hid (MT 38 w7 M C7) := Lib.hid ((hk.2 M HM6b.out.lt (by omega)).trans HM6b.out)
 have HK7 := Lib.hid (HK6b.out.trans (hk.kp (by have := HS6b.out; omega)))
 have HS7 := Lib.hid (Nat.le_trans HS6b.out hk.size)
 clear z hr hk HM6b HK6b HR6b HS6b H6
 have HZ6x := HZ6
 go_wp2_with (refine wpList_store_blk (by rfl) 3 _ _ rfl rfl M 19 1 rfl (.int .i64 a6) rfl 38 C7 [.int .i64 a6] HM7.out rfl rfl (oneSz _ (by simp)) (by rw [HL7.out]; decide) (one_cells rfl) ?_; rintro v7 hM hoth hbel; have HN7 := Lib.hid hM; have HO7 := Lib.hid hoth; have HP7 := Lib.hid hbel; clear hM hoth hbel)
 obtain ⟨C8, hC⟩ : ∃ C, C = putC C7 19 [.int .i64 a6] := ⟨_, rfl⟩
 have HL8 : Hid (C8.length = 34) := Lib.hid (by rw [hC]; exact (putC_len (by rw [HL7.out]; simp)).trans HL7.out)
 have HM7b : Hid (MT 38 v7 M C8) := Lib.hid (by rw [hC]; exact HN7.out)
 have HC8 := Lib.hid hC
 have HR7b : Hid (RP v7 R A c l s7.1) := Lib.hid ⟨HO7.out R _ _ (by omega) HR7.out.1, HR7.out.2⟩
 have HK7b : Hid (Kp B0 R w v7) := Lib.hid (HK7.out.trans (Kp.of_below (HP7.out B0 _ hB (Below.refl _ _)) (Nat.le_of_lt hRB)))
 have HS7b : Hid (w.heap.size ≤ v7.heap.size) := Lib.hid (Nat.le_trans HS7.out (HP7.out 0 _ (Nat.zero_le _) (Below.refl _ _)).size)
 clear hC HN7 HO7 HP7 HM7 HR7 HK7 HS7
 go_wp2_with fail
 have hM7 := HM7b.out.lt
 refine (H7.out v7 HZ7.out HR7b.out (HSL.out.below HK7b.out.1)).mono ?_
 intro e w8 h
 rcases h with ⟨z, ⟨A9, c9, rfl, hpl⟩, hr, hk⟩ | ⟨z, rfl, hk⟩
 rotate_left
 · have HQ := Lib.hid (congrArg Prod.snd (FV.out HZ6x.out))
   have HZ := Lib.hid z
   have HK := Lib.hid (HK7b.out.trans (hk.kp (by have := HS7b.out; omega)))
   clear z hk
   unfold pan
   go_wp2_with fail
   exact ⟨rfl, .inr ⟨by rw [HQ.out]; exact HZ.out, by rw [HQ.out]; rfl, HK.out⟩⟩
 have HZ8 := Lib.hid z
 have HR8 := Lib.hid hr
 have HM8 : Hid (MT 38 w8 M C8) := Lib.hid ((hk.2 M HM7b.out.lt (by omega)).trans HM7b.out)
 have HK8 := Lib.hid (HK7b.out.trans (hk.kp (by have := HS7b.out; omega)))
 have HS8 := Lib.hid (Nat.le_trans HS7b.out hk.size)
 clear z hr hk HM7b HK7b HR7b HS7b HZ7 H7
 have HPL := Lib.hid hpl
 clear hpl
 go_wp2_with (refine wpList_store_blk (by rfl) 31 _ _ rfl rfl M 20 9 rfl (msgV a7 A9 c9) rfl 38 C8 (msgC a7 A9 c9) HM8.out (msg_cells a7 A9 c9) rfl info26 (by rw [HL8.out]; decide) (one_cells rfl) ?_; rintro v8 hM hoth hbel; have HN8 := Lib.hid hM; have HO8 := Lib.hid hoth; have HP8 := Lib.hid hbel; clear hM hoth hbel)
 go_end0
 rw [FV.out HZ6x.out]
 exact .inl ⟨HZ8.out, rfl, ⟨A9, c9, by have := HN8.out; rw [HC8.out, HC7.out, HC6.out, HC5.out, HC4.out, HC2.out, HC1.out, HC0.out] at this; exact this, OwnG.weak (own_oth HO8.out hM7 HPL.out) (by omega), rfl, rfl, rfl, rfl⟩, ⟨HO8.out R _ _ (by omega) HR8.out.1, HR8.out.2⟩, HK8.out.trans (Kp.of_below (HP8.out B0 _ hB (Below.refl _ _)) (Nat.le_of_lt hRB)), Nat.le_trans HS8.out (HP8.out 0 _ (Nat.zero_le _) (Below.refl _ _)).size⟩

end Go.Proofs.YtdkegoaflabjoaaGreatDoor
