/-
What wire's reader makes of a whole packet, or the error with which it panics. Conditions: the bytes read as data; so many bytes fit a slice.
-/
import Derived.Test.YtdkegoaflabjoaaGreatDoorRq
import Derived.Test.YtdkegoaflabjoaaGreatDoorWx
set_option maxHeartbeats 16000000
set_option maxRecDepth 50000
namespace Go.Proofs.YtdkegoaflabjoaaGreatDoor
open Go.RowKit

/-- a packet was handed back, or it panicked -/
def RetXP (R : Nat) (A : Option Addr) (c : Nat) (l : List UInt8) (p : Pkt) (st : Int × Int) (w : World) (e : Ending) (w' : World) : Prop :=
 (st.2 = 0 ∧ (∃ a, e = .returned (.agg (pkC p a).toArray) ∧ PInN w' w.heap.size w'.heap.size p a) ∧ RP w' R A c l st.1 ∧ KR R w w') ∨ (st.2 ≠ 0 ∧ e = pan st.2 ∧ KR R w w')
/-- what is read -/
def pkX (l : List UInt8) (s : Int × Int) : Pkt × (Int × Int) :=
 if (sNum l s).2.2 ≠ 0 then (Pkt.zero, (sNum l s).2) else if (sNum l s).1 < 1 ∨ 14 < (sNum l s).1 then (Pkt.zero, ((sNum l s).2.1, 10)) else sBody l (sNum l s).1 (sNum l s).2
theorem pil_one {w : World} {B : Nat} {A : Option Addr} {n c : Nat} {e : TypeId} {xs : List Int} (h : Own e iv w B (.slice A n c) xs) : IL w w.heap.size A xs := by
 obtain ⟨A', c', e, _, h'⟩ := Own.ret h
 injection e with e1
 subst e1
 exact h'
theorem psl_one {w : World} {B : Nat} {A : Option Addr} {n c : Nat} {e : TypeId} {xs : List ByteArray} (h : Own e Value.string w B (.slice A n c) xs) : SL w w.heap.size A xs := by
 obtain ⟨A', c', e, _, h'⟩ := Own.ret h
 injection e with e1
 subst e1
 exact h'
theorem pbl_one {w : World} {B : Nat} {A : Option Addr} {n c : Nat} {e : TypeId} {xs : List SB} (h : OwnG e gS 3 w B (.slice A n c) xs) : BL w w.heap.size A xs := by
 obtain ⟨A', c', e, _, h'⟩ := OwnG.ret gS_len h
 injection e with e1
 subst e1
 exact h'
theorem own_oth1 {α : Type} {f : α → Value} {e : TypeId} {w w' : World} {g B : Nat} {v : Value} {xs : List α} (ho : ∀ (M' : Nat) (T' : TypeId) (vs' : List Value), M' ≠ g → MT T' w M' vs' → MT T' w' M' vs') (hB : g < B) (h : Own e f w B v xs) : Own e f w' B v xs := by
 unfold Own at h ⊢
 refine ⟨h.1, ?_⟩
 rcases h.2 with h0 | ⟨q, cap, cur, rfl, hb, hq, hnc, hcm, hcs, htake⟩
 · exact .inl h0
 · exact .inr ⟨q, cap, cur, rfl, hb, ho q e cur.toList (by omega) hq, hnc, hcm, hcs, htake⟩
theorem xConn_any (B0 R : Nat) (A : Option Addr) (c : Nat) (l : List UInt8) (s0 : Int × Int) (hz0 : s0.2 = 0) (M : Nat) (w : World) (h : RP w R A c l s0.1) (hM : MT 38 w M (zC 1)) (hB : B0 ≤ M) (hRB : R < B0) (hsl : CL bv w R A l) (hc : l.length ≤ c) (hn : l.length ≤ 140737488355328) :
 Calls Tryz.prog 54 #[.pointer (some ⟨R, 0, none⟩), .pointer (some ⟨M, 0, none⟩)] w (RetXC B0 R A c l M (sConn l s0).1 (sConn l s0).2 w) := by
 cases hws : decide ((sBelow l 4 (sText l 16 (sText l 16 s0).2).2).1 = 2 ∨ (sBelow l 4 (sText l 16 (sText l 16 s0).2).2).1 = 3) with
 | false => exact xConn_false B0 R A c l s0 hz0 M w h hM hB hRB hsl hc hn hws
 | true => exact xConn_true B0 R A c l s0 hz0 M w h hM hB hRB hsl hc hn hws

theorem xPk_1 (R : Nat) (A : Option Addr) (c : Nat) (l : List UInt8) (s0 : Int × Int) (hz0 : s0.2 = 0) (w : World) (h : RP w R A c l s0.1) (hsl : CL bv w R A l) (hc : l.length ≤ c) (hn : l.length ≤ 140737488355328) (hkn : (sNum l s0).1 = 1) (he : (sNum l s0).2.2 = 0) :
 Calls Tryz.prog 17 #[.pointer (some ⟨R, 0, none⟩)] w (RetXP R A c l (sBody l 1 (sNum l s0).2).1 (sBody l 1 (sNum l s0).2).2 w) := by
 have hmf := @hmfT Tryz.prog
 have H0 : Hid (∀ w, RP w R A c l s0.1 → CL bv w R A l → Calls Tryz.prog 53 #[.pointer (some ⟨R, 0, none⟩)] w (RetX R A c l (.int .i64 (sNum l s0).1) (sNum l s0).2 w)) := Lib.hid (fun wv hv hsv => by
  obtain ⟨q, z⟩ := s0
  dsimp only at hz0 hv ⊢
  subst hz0
  exact xNum_any R A c l q wv hv hsv hc hn)
 generalize sNum l s0 = r0 at H0 hkn he ⊢
 obtain ⟨n, s1⟩ := r0
 dsimp only at H0 hkn he ⊢
 subst hkn
 have hbody : sBody l 1 s1 = sConn l s1 := by unfold sBody; simp
 rw [hbody]
 clear hbody
 have H1 : Hid (∀ (B0 M : Nat) w, s1.2 = 0 → RP w R A c l s1.1 → MT 38 w M (zC 1) → B0 ≤ M → R < B0 → CL bv w R A l → Calls Tryz.prog 54 #[.pointer (some ⟨R, 0, none⟩), .pointer (some ⟨M, 0, none⟩)] w (RetXC B0 R A c l M (sConn l s1).1 (sConn l s1).2 w)) := Lib.hid (fun B0 M wv hzv hv hM hB hR hsv => xConn_any B0 R A c l s1 hzv M wv hv hM hB hR hsv hc hn)
 generalize sConn l s1 = r1 at H1 ⊢
 obtain ⟨a1, s2⟩ := r1
 dsimp only at H1 ⊢
 clear hc hn hz0
 have HSL := Lib.hid hsl
 have hRw := h.lt
 have HR := Lib.hid h
 have HE := Lib.hid he
 clear hsl h he
 go_enter Tryz.func17, Tryz.ntmps17
 go_upto_region 1 with fail
 refine name_world (C := fun w1 => Code.wp _ _ _ _ w1) (w.alloc (.cells (pkC Pkt.zero PA.zero).toArray 38)) ?_
 rintro w0 hw0
 have hb0 : Below w.heap.size w w0 := by rw [hw0]; exact belA _ _
 have hm0 : MT 38 w0 w.heap.size (pkC Pkt.zero PA.zero) := by rw [hw0]; exact MT.new w _ _
 have HR0 := Lib.hid (HR.out.below hb0)
 have HT0 := Lib.hid hm0
 have HK0 := Lib.hid (KR.of_below hb0 (Nat.le_of_lt hRw))
 have hz0 : w.heap.size < w0.heap.size := hm0.lt
 clear hb0 hm0 hw0 HR
 go_wp2_with fail
 refine (H0.out w0 HR0.out (HSL.out.below HK0.out.1)).mono ?_
 intro e w1 h
 rcases h with ⟨z, rfl, hr, hk⟩ | ⟨z, _, _⟩
 rotate_left
 · exact absurd HE.out z
 have HR1x := Lib.hid hr
 have HT1x : Hid (MT 38 w1 w.heap.size (pkC Pkt.zero PA.zero)) := Lib.hid ((hk.2 _ HT0.out.lt (Nat.ne_of_gt hRw)).trans HT0.out)
 have HK1x := Lib.hid (HK0.out.trans hk)
 have hz1 : w.heap.size < w1.heap.size := Nat.lt_of_lt_of_le hz0 hk.size
 have HZ1 := HE
 clear z hr hk HT0 HK0 HR0 H0
 go_upto_region 2 with (refine wpList_store_blk (by rfl) 38 (.tmp 3) (.tmp 6) rfl rfl w1.heap.size 0 34 rfl (.agg (zC 1).toArray) rfl 38 (pkC Pkt.zero PA.zero) (zC 1) (zero_new w1) rfl rfl info33 (by rw [pkC_len]; decide) (one_cells rfl) ?_; rintro v1 hM hoth hbel; have HU1 : Hid (MT 38 v1 w1.heap.size (zC 1)) := Lib.hid (by rw [putC_all (pkC Pkt.zero PA.zero) (zC 1) rfl] at hM; exact hM); have HT1 : Hid (MT 38 v1 w.heap.size (pkC Pkt.zero PA.zero)) := Lib.hid (hoth _ _ _ (by omega) (HT1x.out.alloc _)); have HR1 : Hid (RP v1 R A c l s1.1) := Lib.hid ⟨hoth R _ _ (by omega) (MT.alloc HR1x.out.1 _), HR1x.out.2⟩; have HK1 : Hid (KR R w v1) := Lib.hid (HK1x.out.base (hbel w1.heap.size _ (Nat.le_refl _) (belA _ _)) HK1x.out.size (by omega)); clear hM hoth hbel)
 clear HT1x HR1x HK1x
 obtain ⟨C1, hC⟩ : ∃ C, C = zC 1 := ⟨_, rfl⟩
 have HL1 : Hid (C1.length = 34) := Lib.hid (by rw [hC]; rfl)
 have HU1 := Lib.hid (show MT 38 v1 w1.heap.size C1 by rw [hC]; exact HU1.out)
 have k0 : v1.cell? ⟨w1.heap.size, 0, none⟩ = some (.int .i64 1) := (HU1.out.cell 0).trans (by rw [hC]; rfl)
 have HC1 := Lib.hid hC
 clear hC
 have hM1 := HU1.out.lt
 go_wp2_with fail
 refine (H1.out w1.heap.size w1.heap.size v1 HZ1.out HR1.out (by rw [← HC1.out]; exact HU1.out) (Nat.le_refl _) (by omega) (HSL.out.below HK1.out.1)).mono ?_
 intro e w2 h
 rcases h with ⟨z, rfl, ⟨A9, c9, hm, hp, p1, p2, p3, p4⟩, hr, hk, hsz⟩ | ⟨z, rfl, hk⟩
 rotate_left
 · have HZ := Lib.hid z
   have HK := Lib.hid (HK1.out.kpT hk (by omega))
   clear z hk
   unfold pan
   go_wp2_with fail
   exact ⟨rfl, .inr ⟨HZ.out, rfl, HK.out⟩⟩
 have HZ2 := Lib.hid z
 have HR2 := Lib.hid hr
 have HU2 := Lib.hid hm
 have HPI := Lib.hid hp
 have HP5 := Lib.hid (And.intro p1 (And.intro p2 (And.intro p3 p4)))
 clear p1 p2 p3 p4
 have HT2 : Hid (MT 38 w2 w.heap.size (pkC Pkt.zero PA.zero)) := Lib.hid ((hk.2 _ hz1 (Nat.ne_of_gt hRw)).trans HT1.out)
 have HK2 := Lib.hid (HK1.out.kpT hk (by omega))
 clear z hr hk hm hp HU1 HT1 HR1 HK1 k0
 go_wp2_with (first | (refine wpList_load_all (by rfl) 38 (.tmp 3) rfl w1.heap.size rfl 38 _ (0, 0) _ HU2.out Tryz.underlying38 rfl info33 ?_) | (refine wpList_store_blk (by rfl) 38 (.tmp 2) (.tmp 80) rfl rfl w.heap.size 0 34 rfl (.agg (pkC a1 { PA.zero with v := A9, vc := c9 }).toArray) rfl 38 (pkC Pkt.zero PA.zero) (pkC a1 { PA.zero with v := A9, vc := c9 }) HT2.out rfl rfl info33 (by rw [pkC_len]; decide) (one_cells rfl) ?_; rintro w9 hM hoth hbel; have HM9 := Lib.hid hM; have HO9 := Lib.hid hoth; have HB9 := Lib.hid hbel; clear hM hoth hbel))
 have HPZ : Hid (PInN w9 w.heap.size w9.heap.size a1 { PA.zero with v := A9, vc := c9 }) := Lib.hid ⟨⟨by rw [HP5.out.1]; exact GL.nil _ _ _, own_pl (own_oth HO9.out hz1 HPI.out), by rw [HP5.out.2.1]; exact GL.nil _ _ _, by rw [HP5.out.2.2.1]; exact CL.nil _ _ _, by rw [HP5.out.2.2.2]; exact CL.nil _ _ _⟩, by rw [HP5.out.1]; exact AdN.nil _ _, adN_own (own_oth HO9.out hz1 HPI.out) (Nat.le_of_lt hz1), by rw [HP5.out.2.1]; exact AdN.nil _ _, by rw [HP5.out.2.2.1]; exact AdN.nil _ _, by rw [HP5.out.2.2.2]; exact AdN.nil _ _⟩
 exact bodyPost_ret (v := .agg (pkC a1 { PA.zero with v := A9, vc := c9 }).toArray) (results_cell_row rfl _ _ w.heap.size 38 _ (0, 0) _ rfl (by have := HM9.out; rw [putC_all (pkC Pkt.zero PA.zero) (pkC a1 { PA.zero with v := A9, vc := c9 }) rfl] at this; exact this) Tryz.underlying38 rfl info33) rfl (.inl ⟨HZ2.out, ⟨{ PA.zero with v := A9, vc := c9 }, rfl, HPZ.out⟩, ⟨HO9.out R _ _ (by omega) HR2.out.1, HR2.out.2⟩, HK2.out.base (HB9.out w.heap.size _ (Nat.le_refl _) (Below.refl _ _)) (Nat.le_refl _) (by omega)⟩)

theorem xPk_2 (R : Nat) (A : Option Addr) (c : Nat) (l : List UInt8) (s0 : Int × Int) (hz0 : s0.2 = 0) (w : World) (h : RP w R A c l s0.1) (hsl : CL bv w R A l) (hc : l.length ≤ c) (hn : l.length ≤ 140737488355328) (hkn : (sNum l s0).1 = 2) (he : (sNum l s0).2.2 = 0) :
 Calls Tryz.prog 17 #[.pointer (some ⟨R, 0, none⟩)] w (RetXP R A c l (sBody l 2 (sNum l s0).2).1 (sBody l 2 (sNum l s0).2).2 w) := by
 have hmf := @hmfT Tryz.prog
 have H0 : Hid (∀ w, RP w R A c l s0.1 → CL bv w R A l → Calls Tryz.prog 53 #[.pointer (some ⟨R, 0, none⟩)] w (RetX R A c l (.int .i64 (sNum l s0).1) (sNum l s0).2 w)) := Lib.hid (fun wv hv hsv => by
  obtain ⟨q, z⟩ := s0
  dsimp only at hz0 hv ⊢
  subst hz0
  exact xNum_any R A c l q wv hv hsv hc hn)
 generalize sNum l s0 = r0 at H0 hkn he ⊢
 obtain ⟨n, s1⟩ := r0
 dsimp only at H0 hkn he ⊢
 subst hkn
 have hbody : sBody l 2 s1 = ({ Pkt.zero with kind := 2, present := decide ((sBelow l 2 s1).1 = 1), code := (sNum l (sBelow l 2 s1).2).1 }, (sNum l (sBelow l 2 s1).2).2) := by unfold sBody; simp
 rw [hbody]
 clear hbody
 have H1 : Hid (∀ w, s1.2 = 0 → RP w R A c l s1.1 → CL bv w R A l → Calls Tryz.prog 55 #[.pointer (some ⟨R, 0, none⟩)] w (RetX R A c l (.bool (decide ((sBelow l 2 s1).1 = 1))) (sBelow l 2 s1).2 w)) := Lib.hid (fun wv hzv hv hsv => by
  obtain ⟨q, z⟩ := s1
  dsimp only at hzv hv ⊢
  subst hzv
  exact xFlag_any R A c l q wv hv hsv hc hn)
 have B1 : Hid (s1.2 ≠ 0 → (sBelow l 2 s1).2 = s1) := Lib.hid (fun h => by rw [sBelow_bad h])
 generalize sBelow l 2 s1 = r1 at H1 B1 ⊢
 obtain ⟨f1, s2⟩ := r1
 dsimp only at H1 B1 ⊢
 generalize decide (f1 = 1) = a1 at H1 ⊢
 have H2 : Hid (∀ w, s2.2 = 0 → RP w R A c l s2.1 → CL bv w R A l → Calls Tryz.prog 53 #[.pointer (some ⟨R, 0, none⟩)] w (RetX R A c l (.int .i64 ((sNum l s2).1)) (sNum l s2).2 w)) := Lib.hid (fun wv hzv hv hsv => by
  obtain ⟨q, z⟩ := s2
  dsimp only at hzv hv ⊢
  subst hzv
  exact xNum_any R A c l q wv hv hsv hc hn)
 have B2 : Hid (s2.2 ≠ 0 → (sNum l s2).2 = s2) := Lib.hid (fun h => by rw [sNum_bad h])
 generalize sNum l s2 = r2 at H2 B2 ⊢
 obtain ⟨a2, s3⟩ := r2
 dsimp only at H2 B2 ⊢
 have E3 : Hid (s3.2 ≠ 0 → s3 = s3) := Lib.hid (fun _ => rfl)
 have E2 : Hid (s2.2 ≠ 0 → s3 = s2) := Lib.hid (fun h => (E3.out (by rw [B2.out h]; exact h)).trans (B2.out h))
 clear B1 B2
 clear hc hn hz0
 have HSL := Lib.hid hsl
 have hRw := h.lt
 have HR := Lib.hid h
 have HE := Lib.hid he
 clear hsl h he
 go_enter Tryz.func17, Tryz.ntmps17
 go_upto_region 1 with fail
 refine name_world (C := fun w1 => Code.wp _ _ _ _ w1) (w.alloc (.cells (pkC Pkt.zero PA.zero).toArray 38)) ?_
 rintro w0 hw0
 have hb0 : Below w.heap.size w w0 := by rw [hw0]; exact belA _ _
 have hm0 : MT 38 w0 w.heap.size (pkC Pkt.zero PA.zero) := by rw [hw0]; exact MT.new w _ _
 have HR0 := Lib.hid (HR.out.below hb0)
 have HT0 := Lib.hid hm0
 have HK0 := Lib.hid (KR.of_below hb0 (Nat.le_of_lt hRw))
 have hz0 : w.heap.size < w0.heap.size := hm0.lt
 clear hb0 hm0 hw0 HR
 go_wp2_with fail
 refine (H0.out w0 HR0.out (HSL.out.below HK0.out.1)).mono ?_
 intro e w1 h
 rcases h with ⟨z, rfl, hr, hk⟩ | ⟨z, _, _⟩
 rotate_left
 · exact absurd HE.out z
 have HR1x := Lib.hid hr
 have HT1x : Hid (MT 38 w1 w.heap.size (pkC Pkt.zero PA.zero)) := Lib.hid ((hk.2 _ HT0.out.lt (Nat.ne_of_gt hRw)).trans HT0.out)
 have HK1x := Lib.hid (HK0.out.trans hk)
 have hz1 : w.heap.size < w1.heap.size := Nat.lt_of_lt_of_le hz0 hk.size
 have HZ1 := HE
 clear z hr hk HT0 HK0 HR0 H0
 go_upto_region 2 with (refine wpList_store_blk (by rfl) 38 (.tmp 3) (.tmp 6) rfl rfl w1.heap.size 0 34 rfl (.agg (zC 2).toArray) rfl 38 (pkC Pkt.zero PA.zero) (zC 2) (zero_new w1) rfl rfl info33 (by rw [pkC_len]; decide) (one_cells rfl) ?_; rintro v1 hM hoth hbel; have HU1 : Hid (MT 38 v1 w1.heap.size (zC 2)) := Lib.hid (by rw [putC_all (pkC Pkt.zero PA.zero) (zC 2) rfl] at hM; exact hM); have HT1 : Hid (MT 38 v1 w.heap.size (pkC Pkt.zero PA.zero)) := Lib.hid (hoth _ _ _ (by omega) (HT1x.out.alloc _)); have HR1 : Hid (RP v1 R A c l s1.1) := Lib.hid ⟨hoth R _ _ (by omega) (MT.alloc HR1x.out.1 _), HR1x.out.2⟩; have HK1 : Hid (KR R w v1) := Lib.hid (HK1x.out.base (hbel w1.heap.size _ (Nat.le_refl _) (belA _ _)) HK1x.out.size (by omega)); clear hM hoth hbel)
 clear HT1x HR1x HK1x
 obtain ⟨C1, hC⟩ : ∃ C, C = zC 2 := ⟨_, rfl⟩
 have HL1 : Hid (C1.length = 34) := Lib.hid (by rw [hC]; rfl)
 have HU1 := Lib.hid (show MT 38 v1 w1.heap.size C1 by rw [hC]; exact HU1.out)
 have k0 : v1.cell? ⟨w1.heap.size, 0, none⟩ = some (.int .i64 2) := (HU1.out.cell 0).trans (by rw [hC]; rfl)
 have HC1 := Lib.hid hC
 clear hC
 have hM1 := HU1.out.lt
 go_wp2_with fail
 clear k0
 have hMx := HU1.out.lt
 refine (H1.out v1 HZ1.out HR1.out (HSL.out.below HK1.out.1)).mono ?_
 intro e w2 h
 rcases h with ⟨z, rfl, hr, hk⟩ | ⟨z, rfl, hk⟩
 rotate_left
 · have HZ := Lib.hid z
   have HQ := Lib.hid (E2.out z)
   have HK := Lib.hid (HK1.out.trans hk)
   clear z hk
   unfold pan
   go_wp2_with fail
   exact ⟨rfl, .inr ⟨by rw [HQ.out]; exact HZ.out, by rw [HQ.out]; rfl, HK.out⟩⟩
 have HZ2 := Lib.hid z
 have HRx := Lib.hid hr
 have HUx : Hid (MT 38 w2 w1.heap.size C1) := Lib.hid ((hk.2 _ HU1.out.lt (by omega)).trans HU1.out)
 have HTx : Hid (MT 38 w2 w.heap.size (pkC Pkt.zero PA.zero)) := Lib.hid ((hk.2 _ HT1.out.lt (Nat.ne_of_gt hRw)).trans HT1.out)
 have HKx := Lib.hid (HK1.out.trans hk)
 clear z hr hk HU1 HT1 HR1 HK1 H1
 go_wp2_with (refine wpList_store_blk (by rfl) 4 _ _ rfl rfl w1.heap.size 29 1 rfl (.bool a1) rfl 38 C1 [.bool a1] HUx.out rfl rfl (oneSz _ (by simp)) (by rw [HL1.out]; decide) (one_cells rfl) ?_; rintro v2 hM hoth hbel; have HUy := Lib.hid hM; have HOy := Lib.hid hoth; have HBy := Lib.hid hbel; clear hM hoth hbel)
 obtain ⟨C2, hC⟩ : ∃ C, C = putC C1 29 [.bool a1] := ⟨_, rfl⟩
 have HL2 : Hid (C2.length = 34) := Lib.hid (by rw [hC]; exact (putC_len (by rw [HL1.out]; simp)).trans HL1.out)
 have HU2 : Hid (MT 38 v2 w1.heap.size C2) := Lib.hid (by rw [hC]; exact HUy.out)
 have HC2 := Lib.hid hC
 have HT2 : Hid (MT 38 v2 w.heap.size (pkC Pkt.zero PA.zero)) := Lib.hid (HOy.out _ _ _ (by omega) HTx.out)
 have HR2 : Hid (RP v2 R A c l s2.1) := Lib.hid ⟨HOy.out R _ _ (by omega) HRx.out.1, HRx.out.2⟩
 have HK2 : Hid (KR R w v2) := Lib.hid (HKx.out.base (HBy.out w1.heap.size _ (Nat.le_refl _) (Below.refl _ _)) (by omega) (by omega))
 clear hC HUy HOy HBy HUx HTx HRx HKx hMx
 go_wp2_with fail
 have hMx := HU2.out.lt
 refine (H2.out v2 HZ2.out HR2.out (HSL.out.below HK2.out.1)).mono ?_
 intro e w3 h
 rcases h with ⟨z, rfl, hr, hk⟩ | ⟨z, rfl, hk⟩
 rotate_left
 · have HZ := Lib.hid z
   have HK := Lib.hid (HK2.out.trans hk)
   clear z hk
   unfold pan
   go_wp2_with fail
   exact ⟨rfl, .inr ⟨HZ.out, rfl, HK.out⟩⟩
 have HZ3 := Lib.hid z
 have HRx := Lib.hid hr
 have HUx : Hid (MT 38 w3 w1.heap.size C2) := Lib.hid ((hk.2 _ HU2.out.lt (by omega)).trans HU2.out)
 have HTx : Hid (MT 38 w3 w.heap.size (pkC Pkt.zero PA.zero)) := Lib.hid ((hk.2 _ HT2.out.lt (Nat.ne_of_gt hRw)).trans HT2.out)
 have HKx := Lib.hid (HK2.out.trans hk)
 clear z hr hk HU2 HT2 HR2 HK2 H2
 go_upto_region 32 with (refine wpList_store_blk (by rfl) 3 _ _ rfl rfl w1.heap.size 30 1 rfl (.int .i64 a2) rfl 38 C2 [.int .i64 a2] HUx.out rfl rfl (oneSz _ (by simp)) (by rw [HL2.out]; decide) (one_cells rfl) ?_; rintro v3 hM hoth hbel; have HUy := Lib.hid hM; have HOy := Lib.hid hoth; have HBy := Lib.hid hbel; clear hM hoth hbel)
 obtain ⟨C3, hC⟩ : ∃ C, C = putC C2 30 [.int .i64 a2] := ⟨_, rfl⟩
 have HL3 : Hid (C3.length = 34) := Lib.hid (by rw [hC]; exact (putC_len (by rw [HL2.out]; simp)).trans HL2.out)
 have HU3 : Hid (MT 38 v3 w1.heap.size C3) := Lib.hid (by rw [hC]; exact HUy.out)
 have HC3 := Lib.hid hC
 have HT3 : Hid (MT 38 v3 w.heap.size (pkC Pkt.zero PA.zero)) := Lib.hid (HOy.out _ _ _ (by omega) HTx.out)
 have HR3 : Hid (RP v3 R A c l s3.1) := Lib.hid ⟨HOy.out R _ _ (by omega) HRx.out.1, HRx.out.2⟩
 have HK3 : Hid (KR R w v3) := Lib.hid (HKx.out.base (HBy.out w1.heap.size _ (Nat.le_refl _) (Below.refl _ _)) (by omega) (by omega))
 clear hC HUy HOy HBy HUx HTx HRx HKx hMx
 obtain ⟨P, hP⟩ : ∃ P, P = ({ Pkt.zero with kind := 2, present := a1, code := a2 } : Pkt) := ⟨_, rfl⟩
 obtain ⟨AA, hA⟩ : ∃ AA : PA, AA = PA.zero := ⟨_, rfl⟩
 have HU9 : Hid (MT 38 v3 w1.heap.size (pkC P AA)) := Lib.hid (by have := HU3.out; rw [HC3.out, HC2.out, HC1.out] at this; rw [hP, hA]; exact this)
 have HPQ := Lib.hid hP
 have HAQ := Lib.hid hA
 rw [← hP]
 clear hP hA
 go_wp2_with (first | (refine wpList_load_all (by rfl) 38 (.tmp 3) rfl w1.heap.size rfl 38 _ (0, 0) _ HU9.out Tryz.underlying38 rfl info33 ?_) | (refine wpList_store_blk (by rfl) 38 (.tmp 2) (.tmp 80) rfl rfl w.heap.size 0 34 rfl (.agg (pkC P AA).toArray) rfl 38 (pkC Pkt.zero PA.zero) (pkC P AA) HT3.out rfl rfl info33 (by rw [pkC_len]; decide) (one_cells rfl) ?_; rintro w9 hM hoth hbel; have HM9 := Lib.hid hM; have HO9 := Lib.hid hoth; have HB9 := Lib.hid hbel; clear hM hoth hbel))
 have HPZ : Hid (PInN w9 w.heap.size w9.heap.size P AA) := Lib.hid (by rw [HPQ.out, HAQ.out]; exact ⟨⟨GL.nil _ _ _, GL.nil _ _ _, GL.nil _ _ _, CL.nil _ _ _, CL.nil _ _ _⟩, AdN.nil _ _, AdN.nil _ _, AdN.nil _ _, AdN.nil _ _, AdN.nil _ _⟩)
 have hPP := HPQ.out
 subst hPP
 exact bodyPost_ret (v := .agg (pkC ({ Pkt.zero with kind := 2, present := a1, code := a2 } : Pkt) AA).toArray) (results_cell_row rfl _ _ w.heap.size 38 _ (0, 0) _ rfl (by have := HM9.out; rw [putC_all (pkC Pkt.zero PA.zero) (pkC ({ Pkt.zero with kind := 2, present := a1, code := a2 } : Pkt) AA) rfl] at this; exact this) Tryz.underlying38 rfl info33) rfl (.inl ⟨HZ3.out, ⟨AA, rfl, HPZ.out⟩, ⟨HO9.out R _ _ (by omega) HR3.out.1, HR3.out.2⟩, HK3.out.base (HB9.out w.heap.size _ (Nat.le_refl _) (Below.refl _ _)) (Nat.le_refl _) (by omega)⟩)

theorem xPk_3 (R : Nat) (A : Option Addr) (c : Nat) (l : List UInt8) (s0 : Int × Int) (hz0 : s0.2 = 0) (w : World) (h : RP w R A c l s0.1) (hsl : CL bv w R A l) (hc : l.length ≤ c) (hn : l.length ≤ 140737488355328) (hkn : (sNum l s0).1 = 3) (he : (sNum l s0).2.2 = 0) :
 Calls Tryz.prog 17 #[.pointer (some ⟨R, 0, none⟩)] w (RetXP R A c l (sBody l 3 (sNum l s0).2).1 (sBody l 3 (sNum l s0).2).2 w) := by
 have hmf := @hmfT Tryz.prog
 have H0 : Hid (∀ w, RP w R A c l s0.1 → CL bv w R A l → Calls Tryz.prog 53 #[.pointer (some ⟨R, 0, none⟩)] w (RetX R A c l (.int .i64 (sNum l s0).1) (sNum l s0).2 w)) := Lib.hid (fun wv hv hsv => by
  obtain ⟨q, z⟩ := s0
  dsimp only at hz0 hv ⊢
  subst hz0
  exact xNum_any R A c l q wv hv hsv hc hn)
 generalize sNum l s0 = r0 at H0 hkn he ⊢
 obtain ⟨n, s1⟩ := r0
 dsimp only at H0 hkn he ⊢
 subst hkn
 have hbody : sBody l 3 s1 = ({ Pkt.zero with kind := 3, id := (sNum l s1).1, dup := decide ((sBelow l 2 (sNum l s1).2).1 = 1), msg := (sMsg l (sBelow l 2 (sNum l s1).2).2).1 }, (sMsg l (sBelow l 2 (sNum l s1).2).2).2) := by unfold sBody; simp [sPub]
 rw [hbody]
 clear hbody
 have H1 : Hid (∀ w, s1.2 = 0 → RP w R A c l s1.1 → CL bv w R A l → Calls Tryz.prog 53 #[.pointer (some ⟨R, 0, none⟩)] w (RetX R A c l (.int .i64 ((sNum l s1).1)) (sNum l s1).2 w)) := Lib.hid (fun wv hzv hv hsv => by
  obtain ⟨q, z⟩ := s1
  dsimp only at hzv hv ⊢
  subst hzv
  exact xNum_any R A c l q wv hv hsv hc hn)
 have B1 : Hid (s1.2 ≠ 0 → (sNum l s1).2 = s1) := Lib.hid (fun h => by rw [sNum_bad h])
 generalize sNum l s1 = r1 at H1 B1 ⊢
 obtain ⟨a1, s2⟩ := r1
 dsimp only at H1 B1 ⊢
 have H2 : Hid (∀ w, s2.2 = 0 → RP w R A c l s2.1 → CL bv w R A l → Calls Tryz.prog 55 #[.pointer (some ⟨R, 0, none⟩)] w (RetX R A c l (.bool (decide ((sBelow l 2 s2).1 = 1))) (sBelow l 2 s2).2 w)) := Lib.hid (fun wv hzv hv hsv => by
  obtain ⟨q, z⟩ := s2
  dsimp only at hzv hv ⊢
  subst hzv
  exact xFlag_any R A c l q wv hv hsv hc hn)
 have B2 : Hid (s2.2 ≠ 0 → (sBelow l 2 s2).2 = s2) := Lib.hid (fun h => by rw [sBelow_bad h])
 generalize sBelow l 2 s2 = r2 at H2 B2 ⊢
 obtain ⟨f2, s3⟩ := r2
 dsimp only at H2 B2 ⊢
 generalize decide (f2 = 1) = a2 at H2 ⊢
 have H3 : Hid (∀ w, s3.2 = 0 → RP w R A c l s3.1 → CL bv w R A l → Calls Tryz.prog 56 #[.pointer (some ⟨R, 0, none⟩)] w (RetXM R A c l (sMsg l s3).1 (sMsg l s3).2 w)) := Lib.hid (fun wv hzv hv hsv => xMsg_any R A c l s3 hzv wv hv hsv hc hn)
 have B3 : Hid (s3.2 ≠ 0 → (sMsg l s3).2 = s3) := Lib.hid (fun h => sMsg_bad h)
 generalize sMsg l s3 = r3 at H3 B3 ⊢
 obtain ⟨a3, s4⟩ := r3
 dsimp only at H3 B3 ⊢
 have E4 : Hid (s4.2 ≠ 0 → s4 = s4) := Lib.hid (fun _ => rfl)
 have E3 : Hid (s3.2 ≠ 0 → s4 = s3) := Lib.hid (fun h => (E4.out (by rw [B3.out h]; exact h)).trans (B3.out h))
 have E2 : Hid (s2.2 ≠ 0 → s4 = s2) := Lib.hid (fun h => (E3.out (by rw [B2.out h]; exact h)).trans (B2.out h))
 clear B1 B2 B3
 clear hc hn hz0
 have HSL := Lib.hid hsl
 have hRw := h.lt
 have HR := Lib.hid h
 have HE := Lib.hid he
 clear hsl h he
 go_enter Tryz.func17, Tryz.ntmps17
 go_upto_region 1 with fail
 refine name_world (C := fun w1 => Code.wp _ _ _ _ w1) (w.alloc (.cells (pkC Pkt.zero PA.zero).toArray 38)) ?_
 rintro w0 hw0
 have hb0 : Below w.heap.size w w0 := by rw [hw0]; exact belA _ _
 have hm0 : MT 38 w0 w.heap.size (pkC Pkt.zero PA.zero) := by rw [hw0]; exact MT.new w _ _
 have HR0 := Lib.hid (HR.out.below hb0)
 have HT0 := Lib.hid hm0
 have HK0 := Lib.hid (KR.of_below hb0 (Nat.le_of_lt hRw))
 have hz0 : w.heap.size < w0.heap.size := hm0.lt
 clear hb0 hm0 hw0 HR
 go_wp2_with fail
 refine (H0.out w0 HR0.out (HSL.out.below HK0.out.1)).mono ?_
 intro e w1 h
 rcases h with ⟨z, rfl, hr, hk⟩ | ⟨z, _, _⟩
 rotate_left
 · exact absurd HE.out z
 have HR1x := Lib.hid hr
 have HT1x : Hid (MT 38 w1 w.heap.size (pkC Pkt.zero PA.zero)) := Lib.hid ((hk.2 _ HT0.out.lt (Nat.ne_of_gt hRw)).trans HT0.out)
 have HK1x := Lib.hid (HK0.out.trans hk)
 have hz1 : w.heap.size < w1.heap.size := Nat.lt_of_lt_of_le hz0 hk.size
 have HZ1 := HE
 clear z hr hk HT0 HK0 HR0 H0
 go_upto_region 2 with (refine wpList_store_blk (by rfl) 38 (.tmp 3) (.tmp 6) rfl rfl w1.heap.size 0 34 rfl (.agg (zC 3).toArray) rfl 38 (pkC Pkt.zero PA.zero) (zC 3) (zero_new w1) rfl rfl info33 (by rw [pkC_len]; decide) (one_cells rfl) ?_; rintro v1 hM hoth hbel; have HU1 : Hid (MT 38 v1 w1.heap.size (zC 3)) := Lib.hid (by rw [putC_all (pkC Pkt.zero PA.zero) (zC 3) rfl] at hM; exact hM); have HT1 : Hid (MT 38 v1 w.heap.size (pkC Pkt.zero PA.zero)) := Lib.hid (hoth _ _ _ (by omega) (HT1x.out.alloc _)); have HR1 : Hid (RP v1 R A c l s1.1) := Lib.hid ⟨hoth R _ _ (by omega) (MT.alloc HR1x.out.1 _), HR1x.out.2⟩; have HK1 : Hid (KR R w v1) := Lib.hid (HK1x.out.base (hbel w1.heap.size _ (Nat.le_refl _) (belA _ _)) HK1x.out.size (by omega)); clear hM hoth hbel)
 clear HT1x HR1x HK1x
 obtain ⟨C1, hC⟩ : ∃ C, C = zC 3 := ⟨_, rfl⟩
 have HL1 : Hid (C1.length = 34) := Lib.hid (by rw [hC]; rfl)
 have HU1 := Lib.hid (show MT 38 v1 w1.heap.size C1 by rw [hC]; exact HU1.out)
 have k0 : v1.cell? ⟨w1.heap.size, 0, none⟩ = some (.int .i64 3) := (HU1.out.cell 0).trans (by rw [hC]; rfl)
 have HC1 := Lib.hid hC
 clear hC
 have hM1 := HU1.out.lt
 go_wp2_with fail
 clear k0
 have hMx := HU1.out.lt
 refine (H1.out v1 HZ1.out HR1.out (HSL.out.below HK1.out.1)).mono ?_
 intro e w2 h
 rcases h with ⟨z, rfl, hr, hk⟩ | ⟨z, rfl, hk⟩
 rotate_left
 · have HZ := Lib.hid z
   have HQ := Lib.hid (E2.out z)
   have HK := Lib.hid (HK1.out.trans hk)
   clear z hk
   unfold pan
   go_wp2_with fail
   exact ⟨rfl, .inr ⟨by rw [HQ.out]; exact HZ.out, by rw [HQ.out]; rfl, HK.out⟩⟩
 have HZ2 := Lib.hid z
 have HRx := Lib.hid hr
 have HUx : Hid (MT 38 w2 w1.heap.size C1) := Lib.hid ((hk.2 _ HU1.out.lt (by omega)).trans HU1.out)
 have HTx : Hid (MT 38 w2 w.heap.size (pkC Pkt.zero PA.zero)) := Lib.hid ((hk.2 _ HT1.out.lt (Nat.ne_of_gt hRw)).trans HT1.out)
 have HKx := Lib.hid (HK1.out.trans hk)
 clear z hr hk HU1 HT1 HR1 HK1 H1
 go_wp2_with (refine wpList_store_blk (by rfl) 3 _ _ rfl rfl w1.heap.size 1 1 rfl (.int .i64 a1) rfl 38 C1 [.int .i64 a1] HUx.out rfl rfl (oneSz _ (by simp)) (by rw [HL1.out]; decide) (one_cells rfl) ?_; rintro v2 hM hoth hbel; have HUy := Lib.hid hM; have HOy := Lib.hid hoth; have HBy := Lib.hid hbel; clear hM hoth hbel)
 obtain ⟨C2, hC⟩ : ∃ C, C = putC C1 1 [.int .i64 a1] := ⟨_, rfl⟩
 have HL2 : Hid (C2.length = 34) := Lib.hid (by rw [hC]; exact (putC_len (by rw [HL1.out]; simp)).trans HL1.out)
 have HU2 : Hid (MT 38 v2 w1.heap.size C2) := Lib.hid (by rw [hC]; exact HUy.out)
 have HC2 := Lib.hid hC
 have HT2 : Hid (MT 38 v2 w.heap.size (pkC Pkt.zero PA.zero)) := Lib.hid (HOy.out _ _ _ (by omega) HTx.out)
 have HR2 : Hid (RP v2 R A c l s2.1) := Lib.hid ⟨HOy.out R _ _ (by omega) HRx.out.1, HRx.out.2⟩
 have HK2 : Hid (KR R w v2) := Lib.hid (HKx.out.base (HBy.out w1.heap.size _ (Nat.le_refl _) (Below.refl _ _)) (by omega) (by omega))
 clear hC HUy HOy HBy HUx HTx HRx HKx hMx
 go_wp2_with fail
 have hMx := HU2.out.lt
 refine (H2.out v2 HZ2.out HR2.out (HSL.out.below HK2.out.1)).mono ?_
 intro e w3 h
 rcases h with ⟨z, rfl, hr, hk⟩ | ⟨z, rfl, hk⟩
 rotate_left
 · have HZ := Lib.hid z
   have HQ := Lib.hid (E3.out z)
   have HK := Lib.hid (HK2.out.trans hk)
   clear z hk
   unfold pan
   go_wp2_with fail
   exact ⟨rfl, .inr ⟨by rw [HQ.out]; exact HZ.out, by rw [HQ.out]; rfl, HK.out⟩⟩
 have HZ3 := Lib.hid z
 have HRx := Lib.hid hr
 have HUx : Hid (MT 38 w3 w1.heap.size C2) := Lib.hid ((hk.2 _ HU2.out.lt (by omega)).trans HU2.out)
 have HTx : Hid (MT 38 w3 w.heap.size (pkC Pkt.zero PA.zero)) := Lib.hid ((hk.2 _ HT2.out.lt (Nat.ne_of_gt hRw)).trans HT2.out)
 have HKx := Lib.hid (HK2.out.trans hk)
 clear z hr hk HU2 HT2 HR2 HK2 H2
 go_wp2_with (refine wpList_store_blk (by rfl) 4 _ _ rfl rfl w1.heap.size 2 1 rfl (.bool a2) rfl 38 C2 [.bool a2] HUx.out rfl rfl (oneSz _ (by simp)) (by rw [HL2.out]; decide) (one_cells rfl) ?_; rintro v3 hM hoth hbel; have HUy := Lib.hid hM; have HOy := Lib.hid hoth; have HBy := Lib.hid hbel; clear hM hoth hbel)
 obtain ⟨C3, hC⟩ : ∃ C, C = putC C2 2 [.bool a2] := ⟨_, rfl⟩
 have HL3 : Hid (C3.length = 34) := Lib.hid (by rw [hC]; exact (putC_len (by rw [HL2.out]; simp)).trans HL2.out)
 have HU3 : Hid (MT 38 v3 w1.heap.size C3) := Lib.hid (by rw [hC]; exact HUy.out)
 have HC3 := Lib.hid hC
 have HT3 : Hid (MT 38 v3 w.heap.size (pkC Pkt.zero PA.zero)) := Lib.hid (HOy.out _ _ _ (by omega) HTx.out)
 have HR3 : Hid (RP v3 R A c l s3.1) := Lib.hid ⟨HOy.out R _ _ (by omega) HRx.out.1, HRx.out.2⟩
 have HK3 : Hid (KR R w v3) := Lib.hid (HKx.out.base (HBy.out w1.heap.size _ (Nat.le_refl _) (Below.refl _ _)) (by omega) (by omega))
 clear hC HUy HOy HBy HUx HTx HRx HKx hMx
 go_wp2_with fail
 have hMx := HU3.out.lt
 refine (H3.out v3 HZ3.out HR3.out (HSL.out.below HK3.out.1)).mono ?_
 intro e w4 h
 rcases h with ⟨z, ⟨A9, c9, rfl, hpl⟩, hr, hk⟩ | ⟨z, rfl, hk⟩
 rotate_left
 · have HZ := Lib.hid z
   have HK := Lib.hid (HK3.out.trans hk)
   clear z hk
   unfold pan
   go_wp2_with fail
   exact ⟨rfl, .inr ⟨HZ.out, rfl, HK.out⟩⟩
 have HZ4 := Lib.hid z
 have HRx := Lib.hid hr
 have HUx : Hid (MT 38 w4 w1.heap.size C3) := Lib.hid ((hk.2 _ HU3.out.lt (by omega)).trans HU3.out)
 have HTx : Hid (MT 38 w4 w.heap.size (pkC Pkt.zero PA.zero)) := Lib.hid ((hk.2 _ HT3.out.lt (Nat.ne_of_gt hRw)).trans HT3.out)
 have HKx := Lib.hid (HK3.out.trans hk)
 have HPL := Lib.hid hpl
 clear hpl
 clear z hr hk HU3 HT3 HR3 HK3 H3
 go_upto_region 32 with (refine wpList_store_blk (by rfl) 31 _ _ rfl rfl w1.heap.size 3 9 rfl (msgV a3 A9 c9) rfl 38 C3 (msgC a3 A9 c9) HUx.out (msg_cells a3 A9 c9) rfl info26 (by rw [HL3.out]; decide) (one_cells rfl) ?_; rintro v4 hM hoth hbel; have HUy := Lib.hid hM; have HOy := Lib.hid hoth; have HBy := Lib.hid hbel; clear hM hoth hbel)
 obtain ⟨C4, hC⟩ : ∃ C, C = putC C3 3 (msgC a3 A9 c9) := ⟨_, rfl⟩
 have HL4 : Hid (C4.length = 34) := Lib.hid (by rw [hC]; exact (putC_len (by rw [HL3.out]; simp [msgC])).trans HL3.out)
 have HU4 : Hid (MT 38 v4 w1.heap.size C4) := Lib.hid (by rw [hC]; exact HUy.out)
 have HC4 := Lib.hid hC
 have HT4 : Hid (MT 38 v4 w.heap.size (pkC Pkt.zero PA.zero)) := Lib.hid (HOy.out _ _ _ (by omega) HTx.out)
 have HR4 : Hid (RP v4 R A c l s4.1) := Lib.hid ⟨HOy.out R _ _ (by omega) HRx.out.1, HRx.out.2⟩
 have HK4 : Hid (KR R w v4) := Lib.hid (HKx.out.base (HBy.out w1.heap.size _ (Nat.le_refl _) (Below.refl _ _)) (by omega) (by omega))
 have HPI := Lib.hid (OwnG.weak (own_oth HOy.out hMx HPL.out) (Nat.le_of_lt hMx))
 clear hC HUy HOy HBy HUx HTx HRx HKx hMx
 obtain ⟨P, hP⟩ : ∃ P, P = ({ Pkt.zero with kind := 3, id := a1, dup := a2, msg := a3 } : Pkt) := ⟨_, rfl⟩
 obtain ⟨AA, hA⟩ : ∃ AA : PA, AA = { PA.zero with m := A9, mc := c9 } := ⟨_, rfl⟩
 have HU9 : Hid (MT 38 v4 w1.heap.size (pkC P AA)) := Lib.hid (by have := HU4.out; rw [HC4.out, HC3.out, HC2.out, HC1.out] at this; rw [hP, hA]; exact this)
 have HPQ := Lib.hid hP
 have HAQ := Lib.hid hA
 rw [← hP]
 clear hP hA
 go_wp2_with (first | (refine wpList_load_all (by rfl) 38 (.tmp 3) rfl w1.heap.size rfl 38 _ (0, 0) _ HU9.out Tryz.underlying38 rfl info33 ?_) | (refine wpList_store_blk (by rfl) 38 (.tmp 2) (.tmp 80) rfl rfl w.heap.size 0 34 rfl (.agg (pkC P AA).toArray) rfl 38 (pkC Pkt.zero PA.zero) (pkC P AA) HT4.out rfl rfl info33 (by rw [pkC_len]; decide) (one_cells rfl) ?_; rintro w9 hM hoth hbel; have HM9 := Lib.hid hM; have HO9 := Lib.hid hoth; have HB9 := Lib.hid hbel; clear hM hoth hbel))
 have HPZ : Hid (PInN w9 w.heap.size w9.heap.size P AA) := Lib.hid (by rw [HPQ.out, HAQ.out]; exact ⟨⟨own_pl (own_oth HO9.out hz1 HPI.out), GL.nil _ _ _, GL.nil _ _ _, CL.nil _ _ _, CL.nil _ _ _⟩, adN_own (own_oth HO9.out hz1 HPI.out) (Nat.le_of_lt hz1), AdN.nil _ _, AdN.nil _ _, AdN.nil _ _, AdN.nil _ _⟩)
 have hPP := HPQ.out
 subst hPP
 exact bodyPost_ret (v := .agg (pkC ({ Pkt.zero with kind := 3, id := a1, dup := a2, msg := a3 } : Pkt) AA).toArray) (results_cell_row rfl _ _ w.heap.size 38 _ (0, 0) _ rfl (by have := HM9.out; rw [putC_all (pkC Pkt.zero PA.zero) (pkC ({ Pkt.zero with kind := 3, id := a1, dup := a2, msg := a3 } : Pkt) AA) rfl] at this; exact this) Tryz.underlying38 rfl info33) rfl (.inl ⟨HZ4.out, ⟨AA, rfl, HPZ.out⟩, ⟨HO9.out R _ _ (by omega) HR4.out.1, HR4.out.2⟩, HK4.out.base (HB9.out w.heap.size _ (Nat.le_refl _) (Below.refl _ _)) (Nat.le_refl _) (by omega)⟩)

theorem xPk_4 (R : Nat) (A : Option Addr) (c : Nat) (l : List UInt8) (s0 : Int × Int) (hz0 : s0.2 = 0) (w : World) (h : RP w R A c l s0.1) (hsl : CL bv w R A l) (hc : l.length ≤ c) (hn : l.length ≤ 140737488355328) (hkn : (sNum l s0).1 = 4) (he : (sNum l s0).2.2 = 0) :
 Calls Tryz.prog 17 #[.pointer (some ⟨R, 0, none⟩)] w (RetXP R A c l (sBody l 4 (sNum l s0).2).1 (sBody l 4 (sNum l s0).2).2 w) := by
 have hmf := @hmfT Tryz.prog
 have H0 : Hid (∀ w, RP w R A c l s0.1 → CL bv w R A l → Calls Tryz.prog 53 #[.pointer (some ⟨R, 0, none⟩)] w (RetX R A c l (.int .i64 (sNum l s0).1) (sNum l s0).2 w)) := Lib.hid (fun wv hv hsv => by
  obtain ⟨q, z⟩ := s0
  dsimp only at hz0 hv ⊢
  subst hz0
  exact xNum_any R A c l q wv hv hsv hc hn)
 generalize sNum l s0 = r0 at H0 hkn he ⊢
 obtain ⟨n, s1⟩ := r0
 dsimp only at H0 hkn he ⊢
 subst hkn
 have hbody : sBody l 4 s1 = ({ Pkt.zero with kind := 4, id := (sNum l s1).1 }, (sNum l s1).2) := by unfold sBody; simp
 rw [hbody]
 clear hbody
 have H1 : Hid (∀ w, s1.2 = 0 → RP w R A c l s1.1 → CL bv w R A l → Calls Tryz.prog 53 #[.pointer (some ⟨R, 0, none⟩)] w (RetX R A c l (.int .i64 ((sNum l s1).1)) (sNum l s1).2 w)) := Lib.hid (fun wv hzv hv hsv => by
  obtain ⟨q, z⟩ := s1
  dsimp only at hzv hv ⊢
  subst hzv
  exact xNum_any R A c l q wv hv hsv hc hn)
 have B1 : Hid (s1.2 ≠ 0 → (sNum l s1).2 = s1) := Lib.hid (fun h => by rw [sNum_bad h])
 generalize sNum l s1 = r1 at H1 B1 ⊢
 obtain ⟨a1, s2⟩ := r1
 dsimp only at H1 B1 ⊢
 have E2 : Hid (s2.2 ≠ 0 → s2 = s2) := Lib.hid (fun _ => rfl)
 clear B1
 clear hc hn hz0
 have HSL := Lib.hid hsl
 have hRw := h.lt
 have HR := Lib.hid h
 have HE := Lib.hid he
 clear hsl h he
 go_enter Tryz.func17, Tryz.ntmps17
 go_upto_region 1 with fail
 refine name_world (C := fun w1 => Code.wp _ _ _ _ w1) (w.alloc (.cells (pkC Pkt.zero PA.zero).toArray 38)) ?_
 rintro w0 hw0
 have hb0 : Below w.heap.size w w0 := by rw [hw0]; exact belA _ _
 have hm0 : MT 38 w0 w.heap.size (pkC Pkt.zero PA.zero) := by rw [hw0]; exact MT.new w _ _
 have HR0 := Lib.hid (HR.out.below hb0)
 have HT0 := Lib.hid hm0
 have HK0 := Lib.hid (KR.of_below hb0 (Nat.le_of_lt hRw))
 have hz0 : w.heap.size < w0.heap.size := hm0.lt
 clear hb0 hm0 hw0 HR
 go_wp2_with fail
 refine (H0.out w0 HR0.out (HSL.out.below HK0.out.1)).mono ?_
 intro e w1 h
 rcases h with ⟨z, rfl, hr, hk⟩ | ⟨z, _, _⟩
 rotate_left
 · exact absurd HE.out z
 have HR1x := Lib.hid hr
 have HT1x : Hid (MT 38 w1 w.heap.size (pkC Pkt.zero PA.zero)) := Lib.hid ((hk.2 _ HT0.out.lt (Nat.ne_of_gt hRw)).trans HT0.out)
 have HK1x := Lib.hid (HK0.out.trans hk)
 have hz1 : w.heap.size < w1.heap.size := Nat.lt_of_lt_of_le hz0 hk.size
 have HZ1 := HE
 clear z hr hk HT0 HK0 HR0 H0
 go_upto_region 2 with (refine wpList_store_blk (by rfl) 38 (.tmp 3) (.tmp 6) rfl rfl w1.heap.size 0 34 rfl (.agg (zC 4).toArray) rfl 38 (pkC Pkt.zero PA.zero) (zC 4) (zero_new w1) rfl rfl info33 (by rw [pkC_len]; decide) (one_cells rfl) ?_; rintro v1 hM hoth hbel; have HU1 : Hid (MT 38 v1 w1.heap.size (zC 4)) := Lib.hid (by rw [putC_all (pkC Pkt.zero PA.zero) (zC 4) rfl] at hM; exact hM); have HT1 : Hid (MT 38 v1 w.heap.size (pkC Pkt.zero PA.zero)) := Lib.hid (hoth _ _ _ (by omega) (HT1x.out.alloc _)); have HR1 : Hid (RP v1 R A c l s1.1) := Lib.hid ⟨hoth R _ _ (by omega) (MT.alloc HR1x.out.1 _), HR1x.out.2⟩; have HK1 : Hid (KR R w v1) := Lib.hid (HK1x.out.base (hbel w1.heap.size _ (Nat.le_refl _) (belA _ _)) HK1x.out.size (by omega)); clear hM hoth hbel)
 clear HT1x HR1x HK1x
 obtain ⟨C1, hC⟩ : ∃ C, C = zC 4 := ⟨_, rfl⟩
 have HL1 : Hid (C1.length = 34) := Lib.hid (by rw [hC]; rfl)
 have HU1 := Lib.hid (show MT 38 v1 w1.heap.size C1 by rw [hC]; exact HU1.out)
 have k0 : v1.cell? ⟨w1.heap.size, 0, none⟩ = some (.int .i64 4) := (HU1.out.cell 0).trans (by rw [hC]; rfl)
 have HC1 := Lib.hid hC
 clear hC
 have hM1 := HU1.out.lt
 go_wp2_with fail
 clear k0
 have hMx := HU1.out.lt
 refine (H1.out v1 HZ1.out HR1.out (HSL.out.below HK1.out.1)).mono ?_
 intro e w2 h
 rcases h with ⟨z, rfl, hr, hk⟩ | ⟨z, rfl, hk⟩
 rotate_left
 · have HZ := Lib.hid z
   have HK := Lib.hid (HK1.out.trans hk)
   clear z hk
   unfold pan
   go_wp2_with fail
   exact ⟨rfl, .inr ⟨HZ.out, rfl, HK.out⟩⟩
 have HZ2 := Lib.hid z
 have HRx := Lib.hid hr
 have HUx : Hid (MT 38 w2 w1.heap.size C1) := Lib.hid ((hk.2 _ HU1.out.lt (by omega)).trans HU1.out)
 have HTx : Hid (MT 38 w2 w.heap.size (pkC Pkt.zero PA.zero)) := Lib.hid ((hk.2 _ HT1.out.lt (Nat.ne_of_gt hRw)).trans HT1.out)
 have HKx := Lib.hid (HK1.out.trans hk)
 clear z hr hk HU1 HT1 HR1 HK1 H1
 go_upto_region 32 with (refine wpList_store_blk (by rfl) 3 _ _ rfl rfl w1.heap.size 1 1 rfl (.int .i64 a1) rfl 38 C1 [.int .i64 a1] HUx.out rfl rfl (oneSz _ (by simp)) (by rw [HL1.out]; decide) (one_cells rfl) ?_; rintro v2 hM hoth hbel; have HUy := Lib.hid hM; have HOy := Lib.hid hoth; have HBy := Lib.hid hbel; clear hM hoth hbel)
 obtain ⟨C2, hC⟩ : ∃ C, C = putC C1 1 [.int .i64 a1] := ⟨_, rfl⟩
 have HL2 : Hid (C2.length = 34) := Lib.hid (by rw [hC]; exact (putC_len (by rw [HL1.out]; simp)).trans HL1.out)
 have HU2 : Hid (MT 38 v2 w1.heap.size C2) := Lib.hid (by rw [hC]; exact HUy.out)
 have HC2 := Lib.hid hC
 have HT2 : Hid (MT 38 v2 w.heap.size (pkC Pkt.zero PA.zero)) := Lib.hid (HOy.out _ _ _ (by omega) HTx.out)
 have HR2 : Hid (RP v2 R A c l s2.1) := Lib.hid ⟨HOy.out R _ _ (by omega) HRx.out.1, HRx.out.2⟩
 have HK2 : Hid (KR R w v2) := Lib.hid (HKx.out.base (HBy.out w1.heap.size _ (Nat.le_refl _) (Below.refl _ _)) (by omega) (by omega))
 clear hC HUy HOy HBy HUx HTx HRx HKx hMx
 obtain ⟨P, hP⟩ : ∃ P, P = ({ Pkt.zero with kind := 4, id := a1 } : Pkt) := ⟨_, rfl⟩
 obtain ⟨AA, hA⟩ : ∃ AA : PA, AA = PA.zero := ⟨_, rfl⟩
 have HU9 : Hid (MT 38 v2 w1.heap.size (pkC P AA)) := Lib.hid (by have := HU2.out; rw [HC2.out, HC1.out] at this; rw [hP, hA]; exact this)
 have HPQ := Lib.hid hP
 have HAQ := Lib.hid hA
 rw [← hP]
 clear hP hA
 go_wp2_with (first | (refine wpList_load_all (by rfl) 38 (.tmp 3) rfl w1.heap.size rfl 38 _ (0, 0) _ HU9.out Tryz.underlying38 rfl info33 ?_) | (refine wpList_store_blk (by rfl) 38 (.tmp 2) (.tmp 80) rfl rfl w.heap.size 0 34 rfl (.agg (pkC P AA).toArray) rfl 38 (pkC Pkt.zero PA.zero) (pkC P AA) HT2.out rfl rfl info33 (by rw [pkC_len]; decide) (one_cells rfl) ?_; rintro w9 hM hoth hbel; have HM9 := Lib.hid hM; have HO9 := Lib.hid hoth; have HB9 := Lib.hid hbel; clear hM hoth hbel))
 have HPZ : Hid (PInN w9 w.heap.size w9.heap.size P AA) := Lib.hid (by rw [HPQ.out, HAQ.out]; exact ⟨⟨GL.nil _ _ _, GL.nil _ _ _, GL.nil _ _ _, CL.nil _ _ _, CL.nil _ _ _⟩, AdN.nil _ _, AdN.nil _ _, AdN.nil _ _, AdN.nil _ _, AdN.nil _ _⟩)
 have hPP := HPQ.out
 subst hPP
 exact bodyPost_ret (v := .agg (pkC ({ Pkt.zero with kind := 4, id := a1 } : Pkt) AA).toArray) (results_cell_row rfl _ _ w.heap.size 38 _ (0, 0) _ rfl (by have := HM9.out; rw [putC_all (pkC Pkt.zero PA.zero) (pkC ({ Pkt.zero with kind := 4, id := a1 } : Pkt) AA) rfl] at this; exact this) Tryz.underlying38 rfl info33) rfl (.inl ⟨HZ2.out, ⟨AA, rfl, HPZ.out⟩, ⟨HO9.out R _ _ (by omega) HR2.out.1, HR2.out.2⟩, HK2.out.base (HB9.out w.heap.size _ (Nat.le_refl _) (Below.refl _ _)) (Nat.le_refl _) (by omega)⟩)

theorem xPk_5 (R : Nat) (A : Option Addr) (c : Nat) (l : List UInt8) (s0 : Int × Int) (hz0 : s0.2 = 0) (w : World) (h : RP w R A c l s0.1) (hsl : CL bv w R A l) (hc : l.length ≤ c) (hn : l.length ≤ 140737488355328) (hkn : (sNum l s0).1 = 5) (he : (sNum l s0).2.2 = 0) :
 Calls Tryz.prog 17 #[.pointer (some ⟨R, 0, none⟩)] w (RetXP R A c l (sBody l 5 (sNum l s0).2).1 (sBody l 5 (sNum l s0).2).2 w) := by
 have hmf := @hmfT Tryz.prog
 have H0 : Hid (∀ w, RP w R A c l s0.1 → CL bv w R A l → Calls Tryz.prog 53 #[.pointer (some ⟨R, 0, none⟩)] w (RetX R A c l (.int .i64 (sNum l s0).1) (sNum l s0).2 w)) := Lib.hid (fun wv hv hsv => by
  obtain ⟨q, z⟩ := s0
  dsimp only at hz0 hv ⊢
  subst hz0
  exact xNum_any R A c l q wv hv hsv hc hn)
 generalize sNum l s0 = r0 at H0 hkn he ⊢
 obtain ⟨n, s1⟩ := r0
 dsimp only at H0 hkn he ⊢
 subst hkn
 have hbody : sBody l 5 s1 = ({ Pkt.zero with kind := 5, id := (sNum l s1).1 }, (sNum l s1).2) := by unfold sBody; simp
 rw [hbody]
 clear hbody
 have H1 : Hid (∀ w, s1.2 = 0 → RP w R A c l s1.1 → CL bv w R A l → Calls Tryz.prog 53 #[.pointer (some ⟨R, 0, none⟩)] w (RetX R A c l (.int .i64 ((sNum l s1).1)) (sNum l s1).2 w)) := Lib.hid (fun wv hzv hv hsv => by
  obtain ⟨q, z⟩ := s1
  dsimp only at hzv hv ⊢
  subst hzv
  exact xNum_any R A c l q wv hv hsv hc hn)
 have B1 : Hid (s1.2 ≠ 0 → (sNum l s1).2 = s1) := Lib.hid (fun h => by rw [sNum_bad h])
 generalize sNum l s1 = r1 at H1 B1 ⊢
 obtain ⟨a1, s2⟩ := r1
 dsimp only at H1 B1 ⊢
 have E2 : Hid (s2.2 ≠ 0 → s2 = s2) := Lib.hid (fun _ => rfl)
 clear B1
 clear hc hn hz0
 have HSL := Lib.hid hsl
 have hRw := h.lt
 have HR := Lib.hid h
 have HE := Lib.hid he
 clear hsl h he
 go_enter Tryz.func17, Tryz.ntmps17
 go_upto_region 1 with fail
 refine name_world (C := fun w1 => Code.wp _ _ _ _ w1) (w.alloc (.cells (pkC Pkt.zero PA.zero).toArray 38)) ?_
 rintro w0 hw0
 have hb0 : Below w.heap.size w w0 := by rw [hw0]; exact belA _ _
 have hm0 : MT 38 w0 w.heap.size (pkC Pkt.zero PA.zero) := by rw [hw0]; exact MT.new w _ _
 have HR0 := Lib.hid (HR.out.below hb0)
 have HT0 := Lib.hid hm0
 have HK0 := Lib.hid (KR.of_below hb0 (Nat.le_of_lt hRw))
 have hz0 : w.heap.size < w0.heap.size := hm0.lt
 clear hb0 hm0 hw0 HR
 go_wp2_with fail
 refine (H0.out w0 HR0.out (HSL.out.below HK0.out.1)).mono ?_
 intro e w1 h
 rcases h with ⟨z, rfl, hr, hk⟩ | ⟨z, _, _⟩
 rotate_left
 · exact absurd HE.out z
 have HR1x := Lib.hid hr
 have HT1x : Hid (MT 38 w1 w.heap.size (pkC Pkt.zero PA.zero)) := Lib.hid ((hk.2 _ HT0.out.lt (Nat.ne_of_gt hRw)).trans HT0.out)
 have HK1x := Lib.hid (HK0.out.trans hk)
 have hz1 : w.heap.size < w1.heap.size := Nat.lt_of_lt_of_le hz0 hk.size
 have HZ1 := HE
 clear z hr hk HT0 HK0 HR0 H0
 go_upto_region 2 with (refine wpList_store_blk (by rfl) 38 (.tmp 3) (.tmp 6) rfl rfl w1.heap.size 0 34 rfl (.agg (zC 5).toArray) rfl 38 (pkC Pkt.zero PA.zero) (zC 5) (zero_new w1) rfl rfl info33 (by rw [pkC_len]; decide) (one_cells rfl) ?_; rintro v1 hM hoth hbel; have HU1 : Hid (MT 38 v1 w1.heap.size (zC 5)) := Lib.hid (by rw [putC_all (pkC Pkt.zero PA.zero) (zC 5) rfl] at hM; exact hM); have HT1 : Hid (MT 38 v1 w.heap.size (pkC Pkt.zero PA.zero)) := Lib.hid (hoth _ _ _ (by omega) (HT1x.out.alloc _)); have HR1 : Hid (RP v1 R A c l s1.1) := Lib.hid ⟨hoth R _ _ (by omega) (MT.alloc HR1x.out.1 _), HR1x.out.2⟩; have HK1 : Hid (KR R w v1) := Lib.hid (HK1x.out.base (hbel w1.heap.size _ (Nat.le_refl _) (belA _ _)) HK1x.out.size (by omega)); clear hM hoth hbel)
 clear HT1x HR1x HK1x
 obtain ⟨C1, hC⟩ : ∃ C, C = zC 5 := ⟨_, rfl⟩
 have HL1 : Hid (C1.length = 34) := Lib.hid (by rw [hC]; rfl)
 have HU1 := Lib.hid (show MT 38 v1 w1.heap.size C1 by rw [hC]; exact HU1.out)
 have k0 : v1.cell? ⟨w1.heap.size, 0, none⟩ = some (.int .i64 5) := (HU1.out.cell 0).trans (by rw [hC]; rfl)
 have HC1 := Lib.hid hC
 clear hC
 have hM1 := HU1.out.lt
 go_wp2_with fail
 clear k0
 have hMx := HU1.out.lt
 refine (H1.out v1 HZ1.out HR1.out (HSL.out.below HK1.out.1)).mono ?_
 intro e w2 h
 rcases h with ⟨z, rfl, hr, hk⟩ | ⟨z, rfl, hk⟩
 rotate_left
 · have HZ := Lib.hid z
   have HK := Lib.hid (HK1.out.trans hk)
   clear z hk
   unfold pan
   go_wp2_with fail
   exact ⟨rfl, .inr ⟨HZ.out, rfl, HK.out⟩⟩
 have HZ2 := Lib.hid z
 have HRx := Lib.hid hr
 have HUx : Hid (MT 38 w2 w1.heap.size C1) := Lib.hid ((hk.2 _ HU1.out.lt (by omega)).trans HU1.out)
 have HTx : Hid (MT 38 w2 w.heap.size (pkC Pkt.zero PA.zero)) := Lib.hid ((hk.2 _ HT1.out.lt (Nat.ne_of_gt hRw)).trans HT1.out)
 have HKx := Lib.hid (HK1.out.trans hk)
 clear z hr hk HU1 HT1 HR1 HK1 H1
 go_upto_region 32 with (refine wpList_store_blk (by rfl) 3 _ _ rfl rfl w1.heap.size 1 1 rfl (.int .i64 a1) rfl 38 C1 [.int .i64 a1] HUx.out rfl rfl (oneSz _ (by simp)) (by rw [HL1.out]; decide) (one_cells rfl) ?_; rintro v2 hM hoth hbel; have HUy := Lib.hid hM; have HOy := Lib.hid hoth; have HBy := Lib.hid hbel; clear hM hoth hbel)
 obtain ⟨C2, hC⟩ : ∃ C, C = putC C1 1 [.int .i64 a1] := ⟨_, rfl⟩
 have HL2 : Hid (C2.length = 34) := Lib.hid (by rw [hC]; exact (putC_len (by rw [HL1.out]; simp)).trans HL1.out)
 have HU2 : Hid (MT 38 v2 w1.heap.size C2) := Lib.hid (by rw [hC]; exact HUy.out)
 have HC2 := Lib.hid hC
 have HT2 : Hid (MT 38 v2 w.heap.size (pkC Pkt.zero PA.zero)) := Lib.hid (HOy.out _ _ _ (by omega) HTx.out)
 have HR2 : Hid (RP v2 R A c l s2.1) := Lib.hid ⟨HOy.out R _ _ (by omega) HRx.out.1, HRx.out.2⟩
 have HK2 : Hid (KR R w v2) := Lib.hid (HKx.out.base (HBy.out w1.heap.size _ (Nat.le_refl _) (Below.refl _ _)) (by omega) (by omega))
 clear hC HUy HOy HBy HUx HTx HRx HKx hMx
 obtain ⟨P, hP⟩ : ∃ P, P = ({ Pkt.zero with kind := 5, id := a1 } : Pkt) := ⟨_, rfl⟩
 obtain ⟨AA, hA⟩ : ∃ AA : PA, AA = PA.zero := ⟨_, rfl⟩
 have HU9 : Hid (MT 38 v2 w1.heap.size (pkC P AA)) := Lib.hid (by have := HU2.out; rw [HC2.out, HC1.out] at this; rw [hP, hA]; exact this)
 have HPQ := Lib.hid hP
 have HAQ := Lib.hid hA
 rw [← hP]
 clear hP hA
 go_wp2_with (first | (refine wpList_load_all (by rfl) 38 (.tmp 3) rfl w1.heap.size rfl 38 _ (0, 0) _ HU9.out Tryz.underlying38 rfl info33 ?_) | (refine wpList_store_blk (by rfl) 38 (.tmp 2) (.tmp 80) rfl rfl w.heap.size 0 34 rfl (.agg (pkC P AA).toArray) rfl 38 (pkC Pkt.zero PA.zero) (pkC P AA) HT2.out rfl rfl info33 (by rw [pkC_len]; decide) (one_cells rfl) ?_; rintro w9 hM hoth hbel; have HM9 := Lib.hid hM; have HO9 := Lib.hid hoth; have HB9 := Lib.hid hbel; clear hM hoth hbel))
 have HPZ : Hid (PInN w9 w.heap.size w9.heap.size P AA) := Lib.hid (by rw [HPQ.out, HAQ.out]; exact ⟨⟨GL.nil _ _ _, GL.nil _ _ _, GL.nil _ _ _, CL.nil _ _ _, CL.nil _ _ _⟩, AdN.nil _ _, AdN.nil _ _, AdN.nil _ _, AdN.nil _ _, AdN.nil _ _⟩)
 have hPP := HPQ.out
 subst hPP
 exact bodyPost_ret (v := .agg (pkC ({ Pkt.zero with kind := 5, id := a1 } : Pkt) AA).toArray) (results_cell_row rfl _ _ w.heap.size 38 _ (0, 0) _ rfl (by have := HM9.out; rw [putC_all (pkC Pkt.zero PA.zero) (pkC ({ Pkt.zero with kind := 5, id := a1 } : Pkt) AA) rfl] at this; exact this) Tryz.underlying38 rfl info33) rfl (.inl ⟨HZ2.out, ⟨AA, rfl, HPZ.out⟩, ⟨HO9.out R _ _ (by omega) HR2.out.1, HR2.out.2⟩, HK2.out.base (HB9.out w.heap.size _ (Nat.le_refl _) (Below.refl _ _)) (Nat.le_refl _) (by omega)⟩)

theorem xPk_6 (R : Nat) (A : Option Addr) (c : Nat) (l : List UInt8) (s0 : Int × Int) (hz0 : s0.2 = 0) (w : World) (h : RP w R A c l s0.1) (hsl : CL bv w R A l) (hc : l.length ≤ c) (hn : l.length ≤ 140737488355328) (hkn : (sNum l s0).1 = 6) (he : (sNum l s0).2.2 = 0) :
 Calls Tryz.prog 17 #[.pointer (some ⟨R, 0, none⟩)] w (RetXP R A c l (sBody l 6 (sNum l s0).2).1 (sBody l 6 (sNum l s0).2).2 w) := by
 have hmf := @hmfT Tryz.prog
 have H0 : Hid (∀ w, RP w R A c l s0.1 → CL bv w R A l → Calls Tryz.prog 53 #[.pointer (some ⟨R, 0, none⟩)] w (RetX R A c l (.int .i64 (sNum l s0).1) (sNum l s0).2 w)) := Lib.hid (fun wv hv hsv => by
  obtain ⟨q, z⟩ := s0
  dsimp only at hz0 hv ⊢
  subst hz0
  exact xNum_any R A c l q wv hv hsv hc hn)
 generalize sNum l s0 = r0 at H0 hkn he ⊢
 obtain ⟨n, s1⟩ := r0
 dsimp only at H0 hkn he ⊢
 subst hkn
 have hbody : sBody l 6 s1 = ({ Pkt.zero with kind := 6, id := (sNum l s1).1 }, (sNum l s1).2) := by unfold sBody; simp
 rw [hbody]
 clear hbody
 have H1 : Hid (∀ w, s1.2 = 0 → RP w R A c l s1.1 → CL bv w R A l → Calls Tryz.prog 53 #[.pointer (some ⟨R, 0, none⟩)] w (RetX R A c l (.int .i64 ((sNum l s1).1)) (sNum l s1).2 w)) := Lib.hid (fun wv hzv hv hsv => by
  obtain ⟨q, z⟩ := s1
  dsimp only at hzv hv ⊢
  subst hzv
  exact xNum_any R A c l q wv hv hsv hc hn)
 have B1 : Hid (s1.2 ≠ 0 → (sNum l s1).2 = s1) := Lib.hid (fun h => by rw [sNum_bad h])
 generalize sNum l s1 = r1 at H1 B1 ⊢
 obtain ⟨a1, s2⟩ := r1
 dsimp only at H1 B1 ⊢
 have E2 : Hid (s2.2 ≠ 0 → s2 = s2) := Lib.hid (fun _ => rfl)
 clear B1
 clear hc hn hz0
 have HSL := Lib.hid hsl
 have hRw := h.lt
 have HR := Lib.hid h
 have HE := Lib.hid he
 clear hsl h he
 go_enter Tryz.func17, Tryz.ntmps17
 go_upto_region 1 with fail
 refine name_world (C := fun w1 => Code.wp _ _ _ _ w1) (w.alloc (.cells (pkC Pkt.zero PA.zero).toArray 38)) ?_
 rintro w0 hw0
 have hb0 : Below w.heap.size w w0 := by rw [hw0]; exact belA _ _
 have hm0 : MT 38 w0 w.heap.size (pkC Pkt.zero PA.zero) := by rw [hw0]; exact MT.new w _ _
 have HR0 := Lib.hid (HR.out.below hb0)
 have HT0 := Lib.hid hm0
 have HK0 := Lib.hid (KR.of_below hb0 (Nat.le_of_lt hRw))
 have hz0 : w.heap.size < w0.heap.size := hm0.lt
 clear hb0 hm0 hw0 HR
 go_wp2_with fail
 refine (H0.out w0 HR0.out (HSL.out.below HK0.out.1)).mono ?_
 intro e w1 h
 rcases h with ⟨z, rfl, hr, hk⟩ | ⟨z, _, _⟩
 rotate_left
 · exact absurd HE.out z
 have HR1x := Lib.hid hr
 have HT1x : Hid (MT 38 w1 w.heap.size (pkC Pkt.zero PA.zero)) := Lib.hid ((hk.2 _ HT0.out.lt (Nat.ne_of_gt hRw)).trans HT0.out)
 have HK1x := Lib.hid (HK0.out.trans hk)
 have hz1 : w.heap.size < w1.heap.size := Nat.lt_of_lt_of_le hz0 hk.size
 have HZ1 := HE
 clear z hr hk HT0 HK0 HR0 H0
 go_upto_region 2 with (refine wpList_store_blk (by rfl) 38 (.tmp 3) (.tmp 6) rfl rfl w1.heap.size 0 34 rfl (.agg (zC 6).toArray) rfl 38 (pkC Pkt.zero PA.zero) (zC 6) (zero_new w1) rfl rfl info33 (by rw [pkC_len]; decide) (one_cells rfl) ?_; rintro v1 hM hoth hbel; have HU1 : Hid (MT 38 v1 w1.heap.size (zC 6)) := Lib.hid (by rw [putC_all (pkC Pkt.zero PA.zero) (zC 6) rfl] at hM; exact hM); have HT1 : Hid (MT 38 v1 w.heap.size (pkC Pkt.zero PA.zero)) := Lib.hid (hoth _ _ _ (by omega) (HT1x.out.alloc _)); have HR1 : Hid (RP v1 R A c l s1.1) := Lib.hid ⟨hoth R _ _ (by omega) (MT.alloc HR1x.out.1 _), HR1x.out.2⟩; have HK1 : Hid (KR R w v1) := Lib.hid (HK1x.out.base (hbel w1.heap.size _ (Nat.le_refl _) (belA _ _)) HK1x.out.size (by omega)); clear hM hoth hbel)
 clear HT1x HR1x HK1x
 obtain ⟨C1, hC⟩ : ∃ C, C = zC 6 := ⟨_, rfl⟩
 have HL1 : Hid (C1.length = 34) := Lib.hid (by rw [hC]; rfl)
 have HU1 := Lib.hid (show MT 38 v1 w1.heap.size C1 by rw [hC]; exact HU1.out)
 have k0 : v1.cell? ⟨w1.heap.size, 0, none⟩ = some (.int .i64 6) := (HU1.out.cell 0).trans (by rw [hC]; rfl)
 have HC1 := Lib.hid hC
 clear hC
 have hM1 := HU1.out.lt
 go_wp2_with fail
 clear k0
 have hMx := HU1.out.lt
 refine (H1.out v1 HZ1.out HR1.out (HSL.out.below HK1.out.1)).mono ?_
 intro e w2 h
 rcases h with ⟨z, rfl, hr, hk⟩ | ⟨z, rfl, hk⟩
 rotate_left
 · have HZ := Lib.hid z
   have HK := Lib.hid (HK1.out.trans hk)
   clear z hk
   unfold pan
   go_wp2_with fail
   exact ⟨rfl, .inr ⟨HZ.out, rfl, HK.out⟩⟩
 have HZ2 := Lib.hid z
 have HRx := Lib.hid hr
 have HUx : Hid (MT 38 w2 w1.heap.size C1) := Lib.hid ((hk.2 _ HU1.out.lt (by omega)).trans HU1.out)
 have HTx : Hid (MT 38 w2 w.heap.size (pkC Pkt.zero PA.zero)) := Lib.hid ((hk.2 _ HT1.out.lt (Nat.ne_of_gt hRw)).trans HT1.out)
 have HKx := Lib.hid (HK1.out.trans hk)
 clear z hr hk HU1 HT1 HR1 HK1 H1
 go_upto_region 32 with (refine wpList_store_blk (by rfl) 3 _ _ rfl rfl w1.heap.size 1 1 rfl (.int .i64 a1) rfl 38 C1 [.int .i64 a1] HUx.out rfl rfl (oneSz _ (by simp)) (by rw [HL1.out]; decide) (one_cells rfl) ?_; rintro v2 hM hoth hbel; have HUy := Lib.hid hM; have HOy := Lib.hid hoth; have HBy := Lib.hid hbel; clear hM hoth hbel)
 obtain ⟨C2, hC⟩ : ∃ C, C = putC C1 1 [.int .i64 a1] := ⟨_, rfl⟩
 have HL2 : Hid (C2.length = 34) := Lib.hid (by rw [hC]; exact (putC_len (by rw [HL1.out]; simp)).trans HL1.out)
 have HU2 : Hid (MT 38 v2 w1.heap.size C2) := Lib.hid (by rw [hC]; exact HUy.out)
 have HC2 := Lib.hid hC
 have HT2 : Hid (MT 38 v2 w.heap.size (pkC Pkt.zero PA.zero)) := Lib.hid (HOy.out _ _ _ (by omega) HTx.out)
 have HR2 : Hid (RP v2 R A c l s2.1) := Lib.hid ⟨HOy.out R _ _ (by omega) HRx.out.1, HRx.out.2⟩
 have HK2 : Hid (KR R w v2) := Lib.hid (HKx.out.base (HBy.out w1.heap.size _ (Nat.le_refl _) (Below.refl _ _)) (by omega) (by omega))
 clear hC HUy HOy HBy HUx HTx HRx HKx hMx
 obtain ⟨P, hP⟩ : ∃ P, P = ({ Pkt.zero with kind := 6, id := a1 } : Pkt) := ⟨_, rfl⟩
 obtain ⟨AA, hA⟩ : ∃ AA : PA, AA = PA.zero := ⟨_, rfl⟩
 have HU9 : Hid (MT 38 v2 w1.heap.size (pkC P AA)) := Lib.hid (by have := HU2.out; rw [HC2.out, HC1.out] at this; rw [hP, hA]; exact this)
 have HPQ := Lib.hid hP
 have HAQ := Lib.hid hA
 rw [← hP]
 clear hP hA
 go_wp2_with (first | (refine wpList_load_all (by rfl) 38 (.tmp 3) rfl w1.heap.size rfl 38 _ (0, 0) _ HU9.out Tryz.underlying38 rfl info33 ?_) | (refine wpList_store_blk (by rfl) 38 (.tmp 2) (.tmp 80) rfl rfl w.heap.size 0 34 rfl (.agg (pkC P AA).toArray) rfl 38 (pkC Pkt.zero PA.zero) (pkC P AA) HT2.out rfl rfl info33 (by rw [pkC_len]; decide) (one_cells rfl) ?_; rintro w9 hM hoth hbel; have HM9 := Lib.hid hM; have HO9 := Lib.hid hoth; have HB9 := Lib.hid hbel; clear hM hoth hbel))
 have HPZ : Hid (PInN w9 w.heap.size w9.heap.size P AA) := Lib.hid (by rw [HPQ.out, HAQ.out]; exact ⟨⟨GL.nil _ _ _, GL.nil _ _ _, GL.nil _ _ _, CL.nil _ _ _, CL.nil _ _ _⟩, AdN.nil _ _, AdN.nil _ _, AdN.nil _ _, AdN.nil _ _, AdN.nil _ _⟩)
 have hPP := HPQ.out
 subst hPP
 exact bodyPost_ret (v := .agg (pkC ({ Pkt.zero with kind := 6, id := a1 } : Pkt) AA).toArray) (results_cell_row rfl _ _ w.heap.size 38 _ (0, 0) _ rfl (by have := HM9.out; rw [putC_all (pkC Pkt.zero PA.zero) (pkC ({ Pkt.zero with kind := 6, id := a1 } : Pkt) AA) rfl] at this; exact this) Tryz.underlying38 rfl info33) rfl (.inl ⟨HZ2.out, ⟨AA, rfl, HPZ.out⟩, ⟨HO9.out R _ _ (by omega) HR2.out.1, HR2.out.2⟩, HK2.out.base (HB9.out w.heap.size _ (Nat.le_refl _) (Below.refl _ _)) (Nat.le_refl _) (by omega)⟩)

theorem xPk_7 (R : Nat) (A : Option Addr) (c : Nat) (l : List UInt8) (s0 : Int × Int) (hz0 : s0.2 = 0) (w : World) (h : RP w R A c l s0.1) (hsl : CL bv w R A l) (hc : l.length ≤ c) (hn : l.length ≤ 140737488355328) (hkn : (sNum l s0).1 = 7) (he : (sNum l s0).2.2 = 0) :
 Calls Tryz.prog 17 #[.pointer (some ⟨R, 0, none⟩)] w (RetXP R A c l (sBody l 7 (sNum l s0).2).1 (sBody l 7 (sNum l s0).2).2 w) := by
 have hmf := @hmfT Tryz.prog
 have H0 : Hid (∀ w, RP w R A c l s0.1 → CL bv w R A l → Calls Tryz.prog 53 #[.pointer (some ⟨R, 0, none⟩)] w (RetX R A c l (.int .i64 (sNum l s0).1) (sNum l s0).2 w)) := Lib.hid (fun wv hv hsv => by
  obtain ⟨q, z⟩ := s0
  dsimp only at hz0 hv ⊢
  subst hz0
  exact xNum_any R A c l q wv hv hsv hc hn)
 generalize sNum l s0 = r0 at H0 hkn he ⊢
 obtain ⟨n, s1⟩ := r0
 dsimp only at H0 hkn he ⊢
 subst hkn
 have hbody : sBody l 7 s1 = ({ Pkt.zero with kind := 7, id := (sNum l s1).1 }, (sNum l s1).2) := by unfold sBody; simp
 rw [hbody]
 clear hbody
 have H1 : Hid (∀ w, s1.2 = 0 → RP w R A c l s1.1 → CL bv w R A l → Calls Tryz.prog 53 #[.pointer (some ⟨R, 0, none⟩)] w (RetX R A c l (.int .i64 ((sNum l s1).1)) (sNum l s1).2 w)) := Lib.hid (fun wv hzv hv hsv => by
  obtain ⟨q, z⟩ := s1
  dsimp only at hzv hv ⊢
  subst hzv
  exact xNum_any R A c l q wv hv hsv hc hn)
 have B1 : Hid (s1.2 ≠ 0 → (sNum l s1).2 = s1) := Lib.hid (fun h => by rw [sNum_bad h])
 generalize sNum l s1 = r1 at H1 B1 ⊢
 obtain ⟨a1, s2⟩ := r1
 dsimp only at H1 B1 ⊢
 have E2 : Hid (s2.2 ≠ 0 → s2 = s2) := Lib.hid (fun _ => rfl)
 clear B1
 clear hc hn hz0
 have HSL := Lib.hid hsl
 have hRw := h.lt
 have HR := Lib.hid h
 have HE := Lib.hid he
 clear hsl h he
 go_enter Tryz.func17, Tryz.ntmps17
 go_upto_region 1 with fail
 refine name_world (C := fun w1 => Code.wp _ _ _ _ w1) (w.alloc (.cells (pkC Pkt.zero PA.zero).toArray 38)) ?_
 rintro w0 hw0
 have hb0 : Below w.heap.size w w0 := by rw [hw0]; exact belA _ _
 have hm0 : MT 38 w0 w.heap.size (pkC Pkt.zero PA.zero) := by rw [hw0]; exact MT.new w _ _
 have HR0 := Lib.hid (HR.out.below hb0)
 have HT0 := Lib.hid hm0
 have HK0 := Lib.hid (KR.of_below hb0 (Nat.le_of_lt hRw))
 have hz0 : w.heap.size < w0.heap.size := hm0.lt
 clear hb0 hm0 hw0 HR
 go_wp2_with fail
 refine (H0.out w0 HR0.out (HSL.out.below HK0.out.1)).mono ?_
 intro e w1 h
 rcases h with ⟨z, rfl, hr, hk⟩ | ⟨z, _, _⟩
 rotate_left
 · exact absurd HE.out z
 have HR1x := Lib.hid hr
 have HT1x : Hid (MT 38 w1 w.heap.size (pkC Pkt.zero PA.zero)) := Lib.hid ((hk.2 _ HT0.out.lt (Nat.ne_of_gt hRw)).trans HT0.out)
 have HK1x := Lib.hid (HK0.out.trans hk)
 have hz1 : w.heap.size < w1.heap.size := Nat.lt_of_lt_of_le hz0 hk.size
 have HZ1 := HE
 clear z hr hk HT0 HK0 HR0 H0
 go_upto_region 2 with (refine wpList_store_blk (by rfl) 38 (.tmp 3) (.tmp 6) rfl rfl w1.heap.size 0 34 rfl (.agg (zC 7).toArray) rfl 38 (pkC Pkt.zero PA.zero) (zC 7) (zero_new w1) rfl rfl info33 (by rw [pkC_len]; decide) (one_cells rfl) ?_; rintro v1 hM hoth hbel; have HU1 : Hid (MT 38 v1 w1.heap.size (zC 7)) := Lib.hid (by rw [putC_all (pkC Pkt.zero PA.zero) (zC 7) rfl] at hM; exact hM); have HT1 : Hid (MT 38 v1 w.heap.size (pkC Pkt.zero PA.zero)) := Lib.hid (hoth _ _ _ (by omega) (HT1x.out.alloc _)); have HR1 : Hid (RP v1 R A c l s1.1) := Lib.hid ⟨hoth R _ _ (by omega) (MT.alloc HR1x.out.1 _), HR1x.out.2⟩; have HK1 : Hid (KR R w v1) := Lib.hid (HK1x.out.base (hbel w1.heap.size _ (Nat.le_refl _) (belA _ _)) HK1x.out.size (by omega)); clear hM hoth hbel)
 clear HT1x HR1x HK1x
 obtain ⟨C1, hC⟩ : ∃ C, C = zC 7 := ⟨_, rfl⟩
 have HL1 : Hid (C1.length = 34) := Lib.hid (by rw [hC]; rfl)
 have HU1 := Lib.hid (show MT 38 v1 w1.heap.size C1 by rw [hC]; exact HU1.out)
 have k0 : v1.cell? ⟨w1.heap.size, 0, none⟩ = some (.int .i64 7) := (HU1.out.cell 0).trans (by rw [hC]; rfl)
 have HC1 := Lib.hid hC
 clear hC
 have hM1 := HU1.out.lt
 go_wp2_with fail
 clear k0
 have hMx := HU1.out.lt
 refine (H1.out v1 HZ1.out HR1.out (HSL.out.below HK1.out.1)).mono ?_
 intro e w2 h
 rcases h with ⟨z, rfl, hr, hk⟩ | ⟨z, rfl, hk⟩
 rotate_left
 · have HZ := Lib.hid z
   have HK := Lib.hid (HK1.out.trans hk)
   clear z hk
   unfold pan
   go_wp2_with fail
   exact ⟨rfl, .inr ⟨HZ.out, rfl, HK.out⟩⟩
 have HZ2 := Lib.hid z
 have HRx := Lib.hid hr
 have HUx : Hid (MT 38 w2 w1.heap.size C1) := Lib.hid ((hk.2 _ HU1.out.lt (by omega)).trans HU1.out)
 have HTx : Hid (MT 38 w2 w.heap.size (pkC Pkt.zero PA.zero)) := Lib.hid ((hk.2 _ HT1.out.lt (Nat.ne_of_gt hRw)).trans HT1.out)
 have HKx := Lib.hid (HK1.out.trans hk)
 clear z hr hk HU1 HT1 HR1 HK1 H1
 go_upto_region 32 with (refine wpList_store_blk (by rfl) 3 _ _ rfl rfl w1.heap.size 1 1 rfl (.int .i64 a1) rfl 38 C1 [.int .i64 a1] HUx.out rfl rfl (oneSz _ (by simp)) (by rw [HL1.out]; decide) (one_cells rfl) ?_; rintro v2 hM hoth hbel; have HUy := Lib.hid hM; have HOy := Lib.hid hoth; have HBy := Lib.hid hbel; clear hM hoth hbel)
 obtain ⟨C2, hC⟩ : ∃ C, C = putC C1 1 [.int .i64 a1] := ⟨_, rfl⟩
 have HL2 : Hid (C2.length = 34) := Lib.hid (by rw [hC]; exact (putC_len (by rw [HL1.out]; simp)).trans HL1.out)
 have HU2 : Hid (MT 38 v2 w1.heap.size C2) := Lib.hid (by rw [hC]; exact HUy.out)
 have HC2 := Lib.hid hC
 have HT2 : Hid (MT 38 v2 w.heap.size (pkC Pkt.zero PA.zero)) := Lib.hid (HOy.out _ _ _ (by omega) HTx.out)
 have HR2 : Hid (RP v2 R A c l s2.1) := Lib.hid ⟨HOy.out R _ _ (by omega) HRx.out.1, HRx.out.2⟩
 have HK2 : Hid (KR R w v2) := Lib.hid (HKx.out.base (HBy.out w1.heap.size _ (Nat.le_refl _) (Below.refl _ _)) (by omega) (by omega))
 clear hC HUy HOy HBy HUx HTx HRx HKx hMx
 obtain ⟨P, hP⟩ : ∃ P, P = ({ Pkt.zero with kind := 7, id := a1 } : Pkt) := ⟨_, rfl⟩
 obtain ⟨AA, hA⟩ : ∃ AA : PA, AA = PA.zero := ⟨_, rfl⟩
 have HU9 : Hid (MT 38 v2 w1.heap.size (pkC P AA)) := Lib.hid (by have := HU2.out; rw [HC2.out, HC1.out] at this; rw [hP, hA]; exact this)
 have HPQ := Lib.hid hP
 have HAQ := Lib.hid hA
 rw [← hP]
 clear hP hA
 go_wp2_with (first | (refine wpList_load_all (by rfl) 38 (.tmp 3) rfl w1.heap.size rfl 38 _ (0, 0) _ HU9.out Tryz.underlying38 rfl info33 ?_) | (refine wpList_store_blk (by rfl) 38 (.tmp 2) (.tmp 80) rfl rfl w.heap.size 0 34 rfl (.agg (pkC P AA).toArray) rfl 38 (pkC Pkt.zero PA.zero) (pkC P AA) HT2.out rfl rfl info33 (by rw [pkC_len]; decide) (one_cells rfl) ?_; rintro w9 hM hoth hbel; have HM9 := Lib.hid hM; have HO9 := Lib.hid hoth; have HB9 := Lib.hid hbel; clear hM hoth hbel))
 have HPZ : Hid (PInN w9 w.heap.size w9.heap.size P AA) := Lib.hid (by rw [HPQ.out, HAQ.out]; exact ⟨⟨GL.nil _ _ _, GL.nil _ _ _, GL.nil _ _ _, CL.nil _ _ _, CL.nil _ _ _⟩, AdN.nil _ _, AdN.nil _ _, AdN.nil _ _, AdN.nil _ _, AdN.nil _ _⟩)
 have hPP := HPQ.out
 subst hPP
 exact bodyPost_ret (v := .agg (pkC ({ Pkt.zero with kind := 7, id := a1 } : Pkt) AA).toArray) (results_cell_row rfl _ _ w.heap.size 38 _ (0, 0) _ rfl (by have := HM9.out; rw [putC_all (pkC Pkt.zero PA.zero) (pkC ({ Pkt.zero with kind := 7, id := a1 } : Pkt) AA) rfl] at this; exact this) Tryz.underlying38 rfl info33) rfl (.inl ⟨HZ2.out, ⟨AA, rfl, HPZ.out⟩, ⟨HO9.out R _ _ (by omega) HR2.out.1, HR2.out.2⟩, HK2.out.base (HB9.out w.heap.size _ (Nat.le_refl _) (Below.refl _ _)) (Nat.le_refl _) (by omega)⟩)

theorem xPk_8 (R : Nat) (A : Option Addr) (c : Nat) (l : List UInt8) (s0 : Int × Int) (hz0 : s0.2 = 0) (w : World) (h : RP w R A c l s0.1) (hsl : CL bv w R A l) (hc : l.length ≤ c) (hn : l.length ≤ 140737488355328) (hkn : (sNum l s0).1 = 8) (he : (sNum l s0).2.2 = 0) :
 Calls Tryz.prog 17 #[.pointer (some ⟨R, 0, none⟩)] w (RetXP R A c l (sBody l 8 (sNum l s0).2).1 (sBody l 8 (sNum l s0).2).2 w) := by
 have hmf := @hmfT Tryz.prog
 have H0 : Hid (∀ w, RP w R A c l s0.1 → CL bv w R A l → Calls Tryz.prog 53 #[.pointer (some ⟨R, 0, none⟩)] w (RetX R A c l (.int .i64 (sNum l s0).1) (sNum l s0).2 w)) := Lib.hid (fun wv hv hsv => by
  obtain ⟨q, z⟩ := s0
  dsimp only at hz0 hv ⊢
  subst hz0
  exact xNum_any R A c l q wv hv hsv hc hn)
 generalize sNum l s0 = r0 at H0 hkn he ⊢
 obtain ⟨n, s1⟩ := r0
 dsimp only at H0 hkn he ⊢
 subst hkn
 have hbody : sBody l 8 s1 = ({ Pkt.zero with kind := 8, id := (sNum l s1).1, subs := (sList (sSub l) (sCount l 32 (sNum l s1).2).1.toNat (sCount l 32 (sNum l s1).2).2 []).1 }, (sList (sSub l) (sCount l 32 (sNum l s1).2).1.toNat (sCount l 32 (sNum l s1).2).2 []).2) := by unfold sBody; simp [sLists]
 rw [hbody]
 clear hbody
 have H1 : Hid (∀ w, s1.2 = 0 → RP w R A c l s1.1 → CL bv w R A l → Calls Tryz.prog 53 #[.pointer (some ⟨R, 0, none⟩)] w (RetX R A c l (.int .i64 ((sNum l s1).1)) (sNum l s1).2 w)) := Lib.hid (fun wv hzv hv hsv => by
  obtain ⟨q, z⟩ := s1
  dsimp only at hzv hv ⊢
  subst hzv
  exact xNum_any R A c l q wv hv hsv hc hn)
 have B1 : Hid (s1.2 ≠ 0 → (sNum l s1).2 = s1) := Lib.hid (fun h => by rw [sNum_bad h])
 generalize sNum l s1 = r1 at H1 B1 ⊢
 obtain ⟨a1, s2⟩ := r1
 dsimp only at H1 B1 ⊢
 have H2 : Hid (∀ w, s2.2 = 0 → RP w R A c l s2.1 → CL bv w R A l → Calls Tryz.prog 57 #[.pointer (some ⟨R, 0, none⟩), .int .i64 32, .func (.func 58) #[.pointer (some ⟨R, 0, none⟩)] #[]] w (RetXL R A c l (fun w' v => OwnG 49 gS 3 w' w.heap.size v (sList (sSub l) (sCount l 32 s2).1.toNat (sCount l 32 s2).2 []).1) (sList (sSub l) (sCount l 32 s2).1.toNat (sCount l 32 s2).2 []).2 w)) := Lib.hid (fun wv hzv hv hsv => by
  obtain ⟨q, z⟩ := s2
  dsimp only at hzv hv
  subst hzv
  exact xElS_any R A c l q wv hv hsv hc hn)
 have B2 : Hid (s2.2 ≠ 0 → (sList (sSub l) (sCount l 32 s2).1.toNat (sCount l 32 s2).2 []).2 = s2) := Lib.hid (fun h => by rw [sCount_bad h, sList_bad h])
 generalize sList (sSub l) (sCount l 32 s2).1.toNat (sCount l 32 s2).2 [] = r2 at H2 B2 ⊢
 obtain ⟨a2, s3⟩ := r2
 dsimp only at H2 B2 ⊢
 have E3 : Hid (s3.2 ≠ 0 → s3 = s3) := Lib.hid (fun _ => rfl)
 have E2 : Hid (s2.2 ≠ 0 → s3 = s2) := Lib.hid (fun h => (E3.out (by rw [B2.out h]; exact h)).trans (B2.out h))
 clear B1 B2
 clear hc hn hz0
 have HSL := Lib.hid hsl
 have hRw := h.lt
 have HR := Lib.hid h
 have HE := Lib.hid he
 clear hsl h he
 go_enter Tryz.func17, Tryz.ntmps17
 go_upto_region 1 with fail
 refine name_world (C := fun w1 => Code.wp _ _ _ _ w1) (w.alloc (.cells (pkC Pkt.zero PA.zero).toArray 38)) ?_
 rintro w0 hw0
 have hb0 : Below w.heap.size w w0 := by rw [hw0]; exact belA _ _
 have hm0 : MT 38 w0 w.heap.size (pkC Pkt.zero PA.zero) := by rw [hw0]; exact MT.new w _ _
 have HR0 := Lib.hid (HR.out.below hb0)
 have HT0 := Lib.hid hm0
 have HK0 := Lib.hid (KR.of_below hb0 (Nat.le_of_lt hRw))
 have hz0 : w.heap.size < w0.heap.size := hm0.lt
 clear hb0 hm0 hw0 HR
 go_wp2_with fail
 refine (H0.out w0 HR0.out (HSL.out.below HK0.out.1)).mono ?_
 intro e w1 h
 rcases h with ⟨z, rfl, hr, hk⟩ | ⟨z, _, _⟩
 rotate_left
 · exact absurd HE.out z
 have HR1x := Lib.hid hr
 have HT1x : Hid (MT 38 w1 w.heap.size (pkC Pkt.zero PA.zero)) := Lib.hid ((hk.2 _ HT0.out.lt (Nat.ne_of_gt hRw)).trans HT0.out)
 have HK1x := Lib.hid (HK0.out.trans hk)
 have hz1 : w.heap.size < w1.heap.size := Nat.lt_of_lt_of_le hz0 hk.size
 have HZ1 := HE
 clear z hr hk HT0 HK0 HR0 H0
 go_upto_region 2 with (refine wpList_store_blk (by rfl) 38 (.tmp 3) (.tmp 6) rfl rfl w1.heap.size 0 34 rfl (.agg (zC 8).toArray) rfl 38 (pkC Pkt.zero PA.zero) (zC 8) (zero_new w1) rfl rfl info33 (by rw [pkC_len]; decide) (one_cells rfl) ?_; rintro v1 hM hoth hbel; have HU1 : Hid (MT 38 v1 w1.heap.size (zC 8)) := Lib.hid (by rw [putC_all (pkC Pkt.zero PA.zero) (zC 8) rfl] at hM; exact hM); have HT1 : Hid (MT 38 v1 w.heap.size (pkC Pkt.zero PA.zero)) := Lib.hid (hoth _ _ _ (by omega) (HT1x.out.alloc _)); have HR1 : Hid (RP v1 R A c l s1.1) := Lib.hid ⟨hoth R _ _ (by omega) (MT.alloc HR1x.out.1 _), HR1x.out.2⟩; have HK1 : Hid (KR R w v1) := Lib.hid (HK1x.out.base (hbel w1.heap.size _ (Nat.le_refl _) (belA _ _)) HK1x.out.size (by omega)); clear hM hoth hbel)
 clear HT1x HR1x HK1x
 obtain ⟨C1, hC⟩ : ∃ C, C = zC 8 := ⟨_, rfl⟩
 have HL1 : Hid (C1.length = 34) := Lib.hid (by rw [hC]; rfl)
 have HU1 := Lib.hid (show MT 38 v1 w1.heap.size C1 by rw [hC]; exact HU1.out)
 have k0 : v1.cell? ⟨w1.heap.size, 0, none⟩ = some (.int .i64 8) := (HU1.out.cell 0).trans (by rw [hC]; rfl)
 have HC1 := Lib.hid hC
 clear hC
 have hM1 := HU1.out.lt
 go_wp2_with fail
 clear k0
 have hMx := HU1.out.lt
 refine (H1.out v1 HZ1.out HR1.out (HSL.out.below HK1.out.1)).mono ?_
 intro e w2 h
 rcases h with ⟨z, rfl, hr, hk⟩ | ⟨z, rfl, hk⟩
 rotate_left
 · have HZ := Lib.hid z
   have HQ := Lib.hid (E2.out z)
   have HK := Lib.hid (HK1.out.trans hk)
   clear z hk
   unfold pan
   go_wp2_with fail
   exact ⟨rfl, .inr ⟨by rw [HQ.out]; exact HZ.out, by rw [HQ.out]; rfl, HK.out⟩⟩
 have HZ2 := Lib.hid z
 have HRx := Lib.hid hr
 have HUx : Hid (MT 38 w2 w1.heap.size C1) := Lib.hid ((hk.2 _ HU1.out.lt (by omega)).trans HU1.out)
 have HTx : Hid (MT 38 w2 w.heap.size (pkC Pkt.zero PA.zero)) := Lib.hid ((hk.2 _ HT1.out.lt (Nat.ne_of_gt hRw)).trans HT1.out)
 have HKx := Lib.hid (HK1.out.trans hk)
 clear z hr hk HU1 HT1 HR1 HK1 H1
 go_wp2_with (refine wpList_store_blk (by rfl) 3 _ _ rfl rfl w1.heap.size 1 1 rfl (.int .i64 a1) rfl 38 C1 [.int .i64 a1] HUx.out rfl rfl (oneSz _ (by simp)) (by rw [HL1.out]; decide) (one_cells rfl) ?_; rintro v2 hM hoth hbel; have HUy := Lib.hid hM; have HOy := Lib.hid hoth; have HBy := Lib.hid hbel; clear hM hoth hbel)
 obtain ⟨C2, hC⟩ : ∃ C, C = putC C1 1 [.int .i64 a1] := ⟨_, rfl⟩
 have HL2 : Hid (C2.length = 34) := Lib.hid (by rw [hC]; exact (putC_len (by rw [HL1.out]; simp)).trans HL1.out)
 have HU2 : Hid (MT 38 v2 w1.heap.size C2) := Lib.hid (by rw [hC]; exact HUy.out)
 have HC2 := Lib.hid hC
 have HT2 : Hid (MT 38 v2 w.heap.size (pkC Pkt.zero PA.zero)) := Lib.hid (HOy.out _ _ _ (by omega) HTx.out)
 have HR2 : Hid (RP v2 R A c l s2.1) := Lib.hid ⟨HOy.out R _ _ (by omega) HRx.out.1, HRx.out.2⟩
 have HK2 : Hid (KR R w v2) := Lib.hid (HKx.out.base (HBy.out w1.heap.size _ (Nat.le_refl _) (Below.refl _ _)) (by omega) (by omega))
 clear hC HUy HOy HBy HUx HTx HRx HKx hMx
 go_wp2_with fail
 have hMx := HU2.out.lt
 refine (H2.out v2 HZ2.out HR2.out (HSL.out.below HK2.out.1)).mono ?_
 intro e w3 h
 rcases h with ⟨z, ⟨v, rfl, hown⟩, hr, hk⟩ | ⟨z, rfl, hk⟩
 rotate_left
 · have HZ := Lib.hid z
   have HK := Lib.hid (HK2.out.trans hk)
   clear z hk
   unfold pan
   go_wp2_with fail
   exact ⟨rfl, .inr ⟨HZ.out, rfl, HK.out⟩⟩
 have HZ3 := Lib.hid z
 have HRx := Lib.hid hr
 have HUx : Hid (MT 38 w3 w1.heap.size C2) := Lib.hid ((hk.2 _ HU2.out.lt (by omega)).trans HU2.out)
 have HTx : Hid (MT 38 w3 w.heap.size (pkC Pkt.zero PA.zero)) := Lib.hid ((hk.2 _ HT2.out.lt (Nat.ne_of_gt hRw)).trans HT2.out)
 have HKx := Lib.hid (HK2.out.trans hk)
 have HOW := Lib.hid hown
 obtain ⟨A9, c9, hv, _, _⟩ := OwnG.ret gS_len hown
 subst hv
 clear hown
 clear z hr hk HU2 HT2 HR2 HK2 H2
 go_upto_region 32 with (refine wpList_store_blk (by rfl) 34 _ _ rfl rfl w1.heap.size 31 1 rfl (.slice A9 a2.length c9) rfl 38 C2 [.slice A9 a2.length c9] HUx.out rfl rfl (oneSz _ (by simp)) (by rw [HL2.out]; decide) (one_cells rfl) ?_; rintro v3 hM hoth hbel; have HUy := Lib.hid hM; have HOy := Lib.hid hoth; have HBy := Lib.hid hbel; clear hM hoth hbel)
 obtain ⟨C3, hC⟩ : ∃ C, C = putC C2 31 [.slice A9 a2.length c9] := ⟨_, rfl⟩
 have HL3 : Hid (C3.length = 34) := Lib.hid (by rw [hC]; exact (putC_len (by rw [HL2.out]; simp)).trans HL2.out)
 have HU3 : Hid (MT 38 v3 w1.heap.size C3) := Lib.hid (by rw [hC]; exact HUy.out)
 have HC3 := Lib.hid hC
 have HT3 : Hid (MT 38 v3 w.heap.size (pkC Pkt.zero PA.zero)) := Lib.hid (HOy.out _ _ _ (by omega) HTx.out)
 have HR3 : Hid (RP v3 R A c l s3.1) := Lib.hid ⟨HOy.out R _ _ (by omega) HRx.out.1, HRx.out.2⟩
 have HK3 : Hid (KR R w v3) := Lib.hid (HKx.out.base (HBy.out w1.heap.size _ (Nat.le_refl _) (Below.refl _ _)) (by omega) (by omega))
 have HPI := Lib.hid (OwnG.weak (own_oth HOy.out hMx HOW.out) (Nat.le_of_lt hMx))
 clear hC HUy HOy HBy HUx HTx HRx HKx hMx
 obtain ⟨P, hP⟩ : ∃ P, P = ({ Pkt.zero with kind := 8, id := a1, subs := a2 } : Pkt) := ⟨_, rfl⟩
 obtain ⟨AA, hA⟩ : ∃ AA : PA, AA = { PA.zero with s := A9, sc := c9 } := ⟨_, rfl⟩
 have HU9 : Hid (MT 38 v3 w1.heap.size (pkC P AA)) := Lib.hid (by have := HU3.out; rw [HC3.out, HC2.out, HC1.out] at this; rw [hP, hA]; exact this)
 have HPQ := Lib.hid hP
 have HAQ := Lib.hid hA
 rw [← hP]
 clear hP hA
 go_wp2_with (first | (refine wpList_load_all (by rfl) 38 (.tmp 3) rfl w1.heap.size rfl 38 _ (0, 0) _ HU9.out Tryz.underlying38 rfl info33 ?_) | (refine wpList_store_blk (by rfl) 38 (.tmp 2) (.tmp 80) rfl rfl w.heap.size 0 34 rfl (.agg (pkC P AA).toArray) rfl 38 (pkC Pkt.zero PA.zero) (pkC P AA) HT3.out rfl rfl info33 (by rw [pkC_len]; decide) (one_cells rfl) ?_; rintro w9 hM hoth hbel; have HM9 := Lib.hid hM; have HO9 := Lib.hid hoth; have HB9 := Lib.hid hbel; clear hM hoth hbel))
 have HPZ : Hid (PInN w9 w.heap.size w9.heap.size P AA) := Lib.hid (by rw [HPQ.out, HAQ.out]; exact ⟨⟨GL.nil _ _ _, GL.nil _ _ _, pbl_one (own_oth HO9.out hz1 HPI.out), CL.nil _ _ _, CL.nil _ _ _⟩, AdN.nil _ _, AdN.nil _ _, adN_own (own_oth HO9.out hz1 HPI.out) (Nat.le_of_lt hz1), AdN.nil _ _, AdN.nil _ _⟩)
 have hPP := HPQ.out
 subst hPP
 exact bodyPost_ret (v := .agg (pkC ({ Pkt.zero with kind := 8, id := a1, subs := a2 } : Pkt) AA).toArray) (results_cell_row rfl _ _ w.heap.size 38 _ (0, 0) _ rfl (by have := HM9.out; rw [putC_all (pkC Pkt.zero PA.zero) (pkC ({ Pkt.zero with kind := 8, id := a1, subs := a2 } : Pkt) AA) rfl] at this; exact this) Tryz.underlying38 rfl info33) rfl (.inl ⟨HZ3.out, ⟨AA, rfl, HPZ.out⟩, ⟨HO9.out R _ _ (by omega) HR3.out.1, HR3.out.2⟩, HK3.out.base (HB9.out w.heap.size _ (Nat.le_refl _) (Below.refl _ _)) (Nat.le_refl _) (by omega)⟩)

theorem xPk_9 (R : Nat) (A : Option Addr) (c : Nat) (l : List UInt8) (s0 : Int × Int) (hz0 : s0.2 = 0) (w : World) (h : RP w R A c l s0.1) (hsl : CL bv w R A l) (hc : l.length ≤ c) (hn : l.length ≤ 140737488355328) (hkn : (sNum l s0).1 = 9) (he : (sNum l s0).2.2 = 0) :
 Calls Tryz.prog 17 #[.pointer (some ⟨R, 0, none⟩)] w (RetXP R A c l (sBody l 9 (sNum l s0).2).1 (sBody l 9 (sNum l s0).2).2 w) := by
 have hmf := @hmfT Tryz.prog
 have H0 : Hid (∀ w, RP w R A c l s0.1 → CL bv w R A l → Calls Tryz.prog 53 #[.pointer (some ⟨R, 0, none⟩)] w (RetX R A c l (.int .i64 (sNum l s0).1) (sNum l s0).2 w)) := Lib.hid (fun wv hv hsv => by
  obtain ⟨q, z⟩ := s0
  dsimp only at hz0 hv ⊢
  subst hz0
  exact xNum_any R A c l q wv hv hsv hc hn)
 generalize sNum l s0 = r0 at H0 hkn he ⊢
 obtain ⟨n, s1⟩ := r0
 dsimp only at H0 hkn he ⊢
 subst hkn
 have hbody : sBody l 9 s1 = ({ Pkt.zero with kind := 9, id := (sNum l s1).1, codes := (sList (sNum l) (sCount l 32 (sNum l s1).2).1.toNat (sCount l 32 (sNum l s1).2).2 []).1 }, (sList (sNum l) (sCount l 32 (sNum l s1).2).1.toNat (sCount l 32 (sNum l s1).2).2 []).2) := by unfold sBody; simp [sLists]
 rw [hbody]
 clear hbody
 have H1 : Hid (∀ w, s1.2 = 0 → RP w R A c l s1.1 → CL bv w R A l → Calls Tryz.prog 53 #[.pointer (some ⟨R, 0, none⟩)] w (RetX R A c l (.int .i64 ((sNum l s1).1)) (sNum l s1).2 w)) := Lib.hid (fun wv hzv hv hsv => by
  obtain ⟨q, z⟩ := s1
  dsimp only at hzv hv ⊢
  subst hzv
  exact xNum_any R A c l q wv hv hsv hc hn)
 have B1 : Hid (s1.2 ≠ 0 → (sNum l s1).2 = s1) := Lib.hid (fun h => by rw [sNum_bad h])
 generalize sNum l s1 = r1 at H1 B1 ⊢
 obtain ⟨a1, s2⟩ := r1
 dsimp only at H1 B1 ⊢
 have H2 : Hid (∀ w, s2.2 = 0 → RP w R A c l s2.1 → CL bv w R A l → Calls Tryz.prog 59 #[.pointer (some ⟨R, 0, none⟩), .int .i64 32, .func (.func 53) #[.pointer (some ⟨R, 0, none⟩)] #[]] w (RetXL R A c l (fun w' v => Own 3 iv w' w.heap.size v (sList (sNum l) (sCount l 32 s2).1.toNat (sCount l 32 s2).2 []).1) (sList (sNum l) (sCount l 32 s2).1.toNat (sCount l 32 s2).2 []).2 w)) := Lib.hid (fun wv hzv hv hsv => by
  obtain ⟨q, z⟩ := s2
  dsimp only at hzv hv
  subst hzv
  exact xElI_any R A c l q wv hv hsv hc hn)
 have B2 : Hid (s2.2 ≠ 0 → (sList (sNum l) (sCount l 32 s2).1.toNat (sCount l 32 s2).2 []).2 = s2) := Lib.hid (fun h => by rw [sCount_bad h, sList_bad h])
 generalize sList (sNum l) (sCount l 32 s2).1.toNat (sCount l 32 s2).2 [] = r2 at H2 B2 ⊢
 obtain ⟨a2, s3⟩ := r2
 dsimp only at H2 B2 ⊢
 have E3 : Hid (s3.2 ≠ 0 → s3 = s3) := Lib.hid (fun _ => rfl)
 have E2 : Hid (s2.2 ≠ 0 → s3 = s2) := Lib.hid (fun h => (E3.out (by rw [B2.out h]; exact h)).trans (B2.out h))
 clear B1 B2
 clear hc hn hz0
 have HSL := Lib.hid hsl
 have hRw := h.lt
 have HR := Lib.hid h
 have HE := Lib.hid he
 clear hsl h he
 go_enter Tryz.func17, Tryz.ntmps17
 go_upto_region 1 with fail
 refine name_world (C := fun w1 => Code.wp _ _ _ _ w1) (w.alloc (.cells (pkC Pkt.zero PA.zero).toArray 38)) ?_
 rintro w0 hw0
 have hb0 : Below w.heap.size w w0 := by rw [hw0]; exact belA _ _
 have hm0 : MT 38 w0 w.heap.size (pkC Pkt.zero PA.zero) := by rw [hw0]; exact MT.new w _ _
 have HR0 := Lib.hid (HR.out.below hb0)
 have HT0 := Lib.hid hm0
 have HK0 := Lib.hid (KR.of_below hb0 (Nat.le_of_lt hRw))
 have hz0 : w.heap.size < w0.heap.size := hm0.lt
 clear hb0 hm0 hw0 HR
 go_wp2_with fail
 refine (H0.out w0 HR0.out (HSL.out.below HK0.out.1)).mono ?_
 intro e w1 h
 rcases h with ⟨z, rfl, hr, hk⟩ | ⟨z, _, _⟩
 rotate_left
 · exact absurd HE.out z
 have HR1x := Lib.hid hr
 have HT1x : Hid (MT 38 w1 w.heap.size (pkC Pkt.zero PA.zero)) := Lib.hid ((hk.2 _ HT0.out.lt (Nat.ne_of_gt hRw)).trans HT0.out)
 have HK1x := Lib.hid (HK0.out.trans hk)
 have hz1 : w.heap.size < w1.heap.size := Nat.lt_of_lt_of_le hz0 hk.size
 have HZ1 := HE
 clear z hr hk HT0 HK0 HR0 H0
 go_upto_region 2 with (refine wpList_store_blk (by rfl) 38 (.tmp 3) (.tmp 6) rfl rfl w1.heap.size 0 34 rfl (.agg (zC 9).toArray) rfl 38 (pkC Pkt.zero PA.zero) (zC 9) (zero_new w1) rfl rfl info33 (by rw [pkC_len]; decide) (one_cells rfl) ?_; rintro v1 hM hoth hbel; have HU1 : Hid (MT 38 v1 w1.heap.size (zC 9)) := Lib.hid (by rw [putC_all (pkC Pkt.zero PA.zero) (zC 9) rfl] at hM; exact hM); have HT1 : Hid (MT 38 v1 w.heap.size (pkC Pkt.zero PA.zero)) := Lib.hid (hoth _ _ _ (by omega) (HT1x.out.alloc _)); have HR1 : Hid (RP v1 R A c l s1.1) := Lib.hid ⟨hoth R _ _ (by omega) (MT.alloc HR1x.out.1 _), HR1x.out.2⟩; have HK1 : Hid (KR R w v1) := Lib.hid (HK1x.out.base (hbel w1.heap.size _ (Nat.le_refl _) (belA _ _)) HK1x.out.size (by omega)); clear hM hoth hbel)
 clear HT1x HR1x HK1x
 obtain ⟨C1, hC⟩ : ∃ C, C = zC 9 := ⟨_, rfl⟩
 have HL1 : Hid (C1.length = 34) := Lib.hid (by rw [hC]; rfl)
 have HU1 := Lib.hid (show MT 38 v1 w1.heap.size C1 by rw [hC]; exact HU1.out)
 have k0 : v1.cell? ⟨w1.heap.size, 0, none⟩ = some (.int .i64 9) := (HU1.out.cell 0).trans (by rw [hC]; rfl)
 have HC1 := Lib.hid hC
 clear hC
 have hM1 := HU1.out.lt
 go_wp2_with fail
 clear k0
 have hMx := HU1.out.lt
 refine (H1.out v1 HZ1.out HR1.out (HSL.out.below HK1.out.1)).mono ?_
 intro e w2 h
 rcases h with ⟨z, rfl, hr, hk⟩ | ⟨z, rfl, hk⟩
 rotate_left
 · have HZ := Lib.hid z
   have HQ := Lib.hid (E2.out z)
   have HK := Lib.hid (HK1.out.trans hk)
   clear z hk
   unfold pan
   go_wp2_with fail
   exact ⟨rfl, .inr ⟨by rw [HQ.out]; exact HZ.out, by rw [HQ.out]; rfl, HK.out⟩⟩
 have HZ2 := Lib.hid z
 have HRx := Lib.hid hr
 have HUx : Hid (MT 38 w2 w1.heap.size C1) := Lib.hid ((hk.2 _ HU1.out.lt (by omega)).trans HU1.out)
 have HTx : Hid (MT 38 w2 w.heap.size (pkC Pkt.zero PA.zero)) := Lib.hid ((hk.2 _ HT1.out.lt (Nat.ne_of_gt hRw)).trans HT1.out)
 have HKx := Lib.hid (HK1.out.trans hk)
 clear z hr hk HU1 HT1 HR1 HK1 H1
 go_wp2_with (refine wpList_store_blk (by rfl) 3 _ _ rfl rfl w1.heap.size 1 1 rfl (.int .i64 a1) rfl 38 C1 [.int .i64 a1] HUx.out rfl rfl (oneSz _ (by simp)) (by rw [HL1.out]; decide) (one_cells rfl) ?_; rintro v2 hM hoth hbel; have HUy := Lib.hid hM; have HOy := Lib.hid hoth; have HBy := Lib.hid hbel; clear hM hoth hbel)
 obtain ⟨C2, hC⟩ : ∃ C, C = putC C1 1 [.int .i64 a1] := ⟨_, rfl⟩
 have HL2 : Hid (C2.length = 34) := Lib.hid (by rw [hC]; exact (putC_len (by rw [HL1.out]; simp)).trans HL1.out)
 have HU2 : Hid (MT 38 v2 w1.heap.size C2) := Lib.hid (by rw [hC]; exact HUy.out)
 have HC2 := Lib.hid hC
 have HT2 : Hid (MT 38 v2 w.heap.size (pkC Pkt.zero PA.zero)) := Lib.hid (HOy.out _ _ _ (by omega) HTx.out)
 have HR2 : Hid (RP v2 R A c l s2.1) := Lib.hid ⟨HOy.out R _ _ (by omega) HRx.out.1, HRx.out.2⟩
 have HK2 : Hid (KR R w v2) := Lib.hid (HKx.out.base (HBy.out w1.heap.size _ (Nat.le_refl _) (Below.refl _ _)) (by omega) (by omega))
 clear hC HUy HOy HBy HUx HTx HRx HKx hMx
 go_wp2_with fail
 have hMx := HU2.out.lt
 refine (H2.out v2 HZ2.out HR2.out (HSL.out.below HK2.out.1)).mono ?_
 intro e w3 h
 rcases h with ⟨z, ⟨v, rfl, hown⟩, hr, hk⟩ | ⟨z, rfl, hk⟩
 rotate_left
 · have HZ := Lib.hid z
   have HK := Lib.hid (HK2.out.trans hk)
   clear z hk
   unfold pan
   go_wp2_with fail
   exact ⟨rfl, .inr ⟨HZ.out, rfl, HK.out⟩⟩
 have HZ3 := Lib.hid z
 have HRx := Lib.hid hr
 have HUx : Hid (MT 38 w3 w1.heap.size C2) := Lib.hid ((hk.2 _ HU2.out.lt (by omega)).trans HU2.out)
 have HTx : Hid (MT 38 w3 w.heap.size (pkC Pkt.zero PA.zero)) := Lib.hid ((hk.2 _ HT2.out.lt (Nat.ne_of_gt hRw)).trans HT2.out)
 have HKx := Lib.hid (HK2.out.trans hk)
 have HOW := Lib.hid hown
 obtain ⟨A9, c9, hv, _, _⟩ := Own.ret hown
 subst hv
 clear hown
 clear z hr hk HU2 HT2 HR2 HK2 H2
 go_upto_region 32 with (refine wpList_store_blk (by rfl) 36 _ _ rfl rfl w1.heap.size 33 1 rfl (.slice A9 a2.length c9) rfl 38 C2 [.slice A9 a2.length c9] HUx.out rfl rfl (oneSz _ (by simp)) (by rw [HL2.out]; decide) (one_cells rfl) ?_; rintro v3 hM hoth hbel; have HUy := Lib.hid hM; have HOy := Lib.hid hoth; have HBy := Lib.hid hbel; clear hM hoth hbel)
 obtain ⟨C3, hC⟩ : ∃ C, C = putC C2 33 [.slice A9 a2.length c9] := ⟨_, rfl⟩
 have HL3 : Hid (C3.length = 34) := Lib.hid (by rw [hC]; exact (putC_len (by rw [HL2.out]; simp)).trans HL2.out)
 have HU3 : Hid (MT 38 v3 w1.heap.size C3) := Lib.hid (by rw [hC]; exact HUy.out)
 have HC3 := Lib.hid hC
 have HT3 : Hid (MT 38 v3 w.heap.size (pkC Pkt.zero PA.zero)) := Lib.hid (HOy.out _ _ _ (by omega) HTx.out)
 have HR3 : Hid (RP v3 R A c l s3.1) := Lib.hid ⟨HOy.out R _ _ (by omega) HRx.out.1, HRx.out.2⟩
 have HK3 : Hid (KR R w v3) := Lib.hid (HKx.out.base (HBy.out w1.heap.size _ (Nat.le_refl _) (Below.refl _ _)) (by omega) (by omega))
 have HPI := Lib.hid (Own.weak (own_oth1 HOy.out hMx HOW.out) (Nat.le_of_lt hMx))
 clear hC HUy HOy HBy HUx HTx HRx HKx hMx
 obtain ⟨P, hP⟩ : ∃ P, P = ({ Pkt.zero with kind := 9, id := a1, codes := a2 } : Pkt) := ⟨_, rfl⟩
 obtain ⟨AA, hA⟩ : ∃ AA : PA, AA = { PA.zero with c := A9, cc := c9 } := ⟨_, rfl⟩
 have HU9 : Hid (MT 38 v3 w1.heap.size (pkC P AA)) := Lib.hid (by have := HU3.out; rw [HC3.out, HC2.out, HC1.out] at this; rw [hP, hA]; exact this)
 have HPQ := Lib.hid hP
 have HAQ := Lib.hid hA
 rw [← hP]
 clear hP hA
 go_wp2_with (first | (refine wpList_load_all (by rfl) 38 (.tmp 3) rfl w1.heap.size rfl 38 _ (0, 0) _ HU9.out Tryz.underlying38 rfl info33 ?_) | (refine wpList_store_blk (by rfl) 38 (.tmp 2) (.tmp 80) rfl rfl w.heap.size 0 34 rfl (.agg (pkC P AA).toArray) rfl 38 (pkC Pkt.zero PA.zero) (pkC P AA) HT3.out rfl rfl info33 (by rw [pkC_len]; decide) (one_cells rfl) ?_; rintro w9 hM hoth hbel; have HM9 := Lib.hid hM; have HO9 := Lib.hid hoth; have HB9 := Lib.hid hbel; clear hM hoth hbel))
 have HPZ : Hid (PInN w9 w.heap.size w9.heap.size P AA) := Lib.hid (by rw [HPQ.out, HAQ.out]; exact ⟨⟨GL.nil _ _ _, GL.nil _ _ _, GL.nil _ _ _, CL.nil _ _ _, pil_one (own_oth1 HO9.out hz1 HPI.out)⟩, AdN.nil _ _, AdN.nil _ _, AdN.nil _ _, AdN.nil _ _, adN_own (own_oth1 HO9.out hz1 HPI.out) (Nat.le_of_lt hz1)⟩)
 have hPP := HPQ.out
 subst hPP
 exact bodyPost_ret (v := .agg (pkC ({ Pkt.zero with kind := 9, id := a1, codes := a2 } : Pkt) AA).toArray) (results_cell_row rfl _ _ w.heap.size 38 _ (0, 0) _ rfl (by have := HM9.out; rw [putC_all (pkC Pkt.zero PA.zero) (pkC ({ Pkt.zero with kind := 9, id := a1, codes := a2 } : Pkt) AA) rfl] at this; exact this) Tryz.underlying38 rfl info33) rfl (.inl ⟨HZ3.out, ⟨AA, rfl, HPZ.out⟩, ⟨HO9.out R _ _ (by omega) HR3.out.1, HR3.out.2⟩, HK3.out.base (HB9.out w.heap.size _ (Nat.le_refl _) (Below.refl _ _)) (Nat.le_refl _) (by omega)⟩)

theorem xPk_10 (R : Nat) (A : Option Addr) (c : Nat) (l : List UInt8) (s0 : Int × Int) (hz0 : s0.2 = 0) (w : World) (h : RP w R A c l s0.1) (hsl : CL bv w R A l) (hc : l.length ≤ c) (hn : l.length ≤ 140737488355328) (hkn : (sNum l s0).1 = 10) (he : (sNum l s0).2.2 = 0) :
 Calls Tryz.prog 17 #[.pointer (some ⟨R, 0, none⟩)] w (RetXP R A c l (sBody l 10 (sNum l s0).2).1 (sBody l 10 (sNum l s0).2).2 w) := by
 have hmf := @hmfT Tryz.prog
 have H0 : Hid (∀ w, RP w R A c l s0.1 → CL bv w R A l → Calls Tryz.prog 53 #[.pointer (some ⟨R, 0, none⟩)] w (RetX R A c l (.int .i64 (sNum l s0).1) (sNum l s0).2 w)) := Lib.hid (fun wv hv hsv => by
  obtain ⟨q, z⟩ := s0
  dsimp only at hz0 hv ⊢
  subst hz0
  exact xNum_any R A c l q wv hv hsv hc hn)
 generalize sNum l s0 = r0 at H0 hkn he ⊢
 obtain ⟨n, s1⟩ := r0
 dsimp only at H0 hkn he ⊢
 subst hkn
 have hbody : sBody l 10 s1 = ({ Pkt.zero with kind := 10, id := (sNum l s1).1, filters := (sList (sText l 88) (sCount l 32 (sNum l s1).2).1.toNat (sCount l 32 (sNum l s1).2).2 []).1 }, (sList (sText l 88) (sCount l 32 (sNum l s1).2).1.toNat (sCount l 32 (sNum l s1).2).2 []).2) := by unfold sBody; simp [sLists]
 rw [hbody]
 clear hbody
 have H1 : Hid (∀ w, s1.2 = 0 → RP w R A c l s1.1 → CL bv w R A l → Calls Tryz.prog 53 #[.pointer (some ⟨R, 0, none⟩)] w (RetX R A c l (.int .i64 ((sNum l s1).1)) (sNum l s1).2 w)) := Lib.hid (fun wv hzv hv hsv => by
  obtain ⟨q, z⟩ := s1
  dsimp only at hzv hv ⊢
  subst hzv
  exact xNum_any R A c l q wv hv hsv hc hn)
 have B1 : Hid (s1.2 ≠ 0 → (sNum l s1).2 = s1) := Lib.hid (fun h => by rw [sNum_bad h])
 generalize sNum l s1 = r1 at H1 B1 ⊢
 obtain ⟨a1, s2⟩ := r1
 dsimp only at H1 B1 ⊢
 have H2 : Hid (∀ w, s2.2 = 0 → RP w R A c l s2.1 → CL bv w R A l → Calls Tryz.prog 60 #[.pointer (some ⟨R, 0, none⟩), .int .i64 32, .func (.func 61) #[.pointer (some ⟨R, 0, none⟩)] #[]] w (RetXL R A c l (fun w' v => Own 9 Value.string w' w.heap.size v (sList (sText l 88) (sCount l 32 s2).1.toNat (sCount l 32 s2).2 []).1) (sList (sText l 88) (sCount l 32 s2).1.toNat (sCount l 32 s2).2 []).2 w)) := Lib.hid (fun wv hzv hv hsv => by
  obtain ⟨q, z⟩ := s2
  dsimp only at hzv hv
  subst hzv
  exact xElT_any R A c l q wv hv hsv hc hn)
 have B2 : Hid (s2.2 ≠ 0 → (sList (sText l 88) (sCount l 32 s2).1.toNat (sCount l 32 s2).2 []).2 = s2) := Lib.hid (fun h => by rw [sCount_bad h, sList_bad h])
 generalize sList (sText l 88) (sCount l 32 s2).1.toNat (sCount l 32 s2).2 [] = r2 at H2 B2 ⊢
 obtain ⟨a2, s3⟩ := r2
 dsimp only at H2 B2 ⊢
 have E3 : Hid (s3.2 ≠ 0 → s3 = s3) := Lib.hid (fun _ => rfl)
 have E2 : Hid (s2.2 ≠ 0 → s3 = s2) := Lib.hid (fun h => (E3.out (by rw [B2.out h]; exact h)).trans (B2.out h))
 clear B1 B2
 clear hc hn hz0
 have HSL := Lib.hid hsl
 have hRw := h.lt
 have HR := Lib.hid h
 have HE := Lib.hid he
 clear hsl h he
 go_enter Tryz.func17, Tryz.ntmps17
 go_upto_region 1 with fail
 refine name_world (C := fun w1 => Code.wp _ _ _ _ w1) (w.alloc (.cells (pkC Pkt.zero PA.zero).toArray 38)) ?_
 rintro w0 hw0
 have hb0 : Below w.heap.size w w0 := by rw [hw0]; exact belA _ _
 have hm0 : MT 38 w0 w.heap.size (pkC Pkt.zero PA.zero) := by rw [hw0]; exact MT.new w _ _
 have HR0 := Lib.hid (HR.out.below hb0)
 have HT0 := Lib.hid hm0
 have HK0 := Lib.hid (KR.of_below hb0 (Nat.le_of_lt hRw))
 have hz0 : w.heap.size < w0.heap.size := hm0.lt
 clear hb0 hm0 hw0 HR
 go_wp2_with fail
 refine (H0.out w0 HR0.out (HSL.out.below HK0.out.1)).mono ?_
 intro e w1 h
 rcases h with ⟨z, rfl, hr, hk⟩ | ⟨z, _, _⟩
 rotate_left
 · exact absurd HE.out z
 have HR1x := Lib.hid hr
 have HT1x : Hid (MT 38 w1 w.heap.size (pkC Pkt.zero PA.zero)) := Lib.hid ((hk.2 _ HT0.out.lt (Nat.ne_of_gt hRw)).trans HT0.out)
 have HK1x := Lib.hid (HK0.out.trans hk)
 have hz1 : w.heap.size < w1.heap.size := Nat.lt_of_lt_of_le hz0 hk.size
 have HZ1 := HE
 clear z hr hk HT0 HK0 HR0 H0
 go_upto_region 2 with (refine wpList_store_blk (by rfl) 38 (.tmp 3) (.tmp 6) rfl rfl w1.heap.size 0 34 rfl (.agg (zC 10).toArray) rfl 38 (pkC Pkt.zero PA.zero) (zC 10) (zero_new w1) rfl rfl info33 (by rw [pkC_len]; decide) (one_cells rfl) ?_; rintro v1 hM hoth hbel; have HU1 : Hid (MT 38 v1 w1.heap.size (zC 10)) := Lib.hid (by rw [putC_all (pkC Pkt.zero PA.zero) (zC 10) rfl] at hM; exact hM); have HT1 : Hid (MT 38 v1 w.heap.size (pkC Pkt.zero PA.zero)) := Lib.hid (hoth _ _ _ (by omega) (HT1x.out.alloc _)); have HR1 : Hid (RP v1 R A c l s1.1) := Lib.hid ⟨hoth R _ _ (by omega) (MT.alloc HR1x.out.1 _), HR1x.out.2⟩; have HK1 : Hid (KR R w v1) := Lib.hid (HK1x.out.base (hbel w1.heap.size _ (Nat.le_refl _) (belA _ _)) HK1x.out.size (by omega)); clear hM hoth hbel)
 clear HT1x HR1x HK1x
 obtain ⟨C1, hC⟩ : ∃ C, C = zC 10 := ⟨_, rfl⟩
 have HL1 : Hid (C1.length = 34) := Lib.hid (by rw [hC]; rfl)
 have HU1 := Lib.hid (show MT 38 v1 w1.heap.size C1 by rw [hC]; exact HU1.out)
 have k0 : v1.cell? ⟨w1.heap.size, 0, none⟩ = some (.int .i64 10) := (HU1.out.cell 0).trans (by rw [hC]; rfl)
 have HC1 := Lib.hid hC
 clear hC
 have hM1 := HU1.out.lt
 go_wp2_with fail
 clear k0
 have hMx := HU1.out.lt
 refine (H1.out v1 HZ1.out HR1.out (HSL.out.below HK1.out.1)).mono ?_
 intro e w2 h
 rcases h with ⟨z, rfl, hr, hk⟩ | ⟨z, rfl, hk⟩
 rotate_left
 · have HZ := Lib.hid z
   have HQ := Lib.hid (E2.out z)
   have HK := Lib.hid (HK1.out.trans hk)
   clear z hk
   unfold pan
   go_wp2_with fail
   exact ⟨rfl, .inr ⟨by rw [HQ.out]; exact HZ.out, by rw [HQ.out]; rfl, HK.out⟩⟩
 have HZ2 := Lib.hid z
 have HRx := Lib.hid hr
 have HUx : Hid (MT 38 w2 w1.heap.size C1) := Lib.hid ((hk.2 _ HU1.out.lt (by omega)).trans HU1.out)
 have HTx : Hid (MT 38 w2 w.heap.size (pkC Pkt.zero PA.zero)) := Lib.hid ((hk.2 _ HT1.out.lt (Nat.ne_of_gt hRw)).trans HT1.out)
 have HKx := Lib.hid (HK1.out.trans hk)
 clear z hr hk HU1 HT1 HR1 HK1 H1
 go_wp2_with (refine wpList_store_blk (by rfl) 3 _ _ rfl rfl w1.heap.size 1 1 rfl (.int .i64 a1) rfl 38 C1 [.int .i64 a1] HUx.out rfl rfl (oneSz _ (by simp)) (by rw [HL1.out]; decide) (one_cells rfl) ?_; rintro v2 hM hoth hbel; have HUy := Lib.hid hM; have HOy := Lib.hid hoth; have HBy := Lib.hid hbel; clear hM hoth hbel)
 obtain ⟨C2, hC⟩ : ∃ C, C = putC C1 1 [.int .i64 a1] := ⟨_, rfl⟩
 have HL2 : Hid (C2.length = 34) := Lib.hid (by rw [hC]; exact (putC_len (by rw [HL1.out]; simp)).trans HL1.out)
 have HU2 : Hid (MT 38 v2 w1.heap.size C2) := Lib.hid (by rw [hC]; exact HUy.out)
 have HC2 := Lib.hid hC
 have HT2 : Hid (MT 38 v2 w.heap.size (pkC Pkt.zero PA.zero)) := Lib.hid (HOy.out _ _ _ (by omega) HTx.out)
 have HR2 : Hid (RP v2 R A c l s2.1) := Lib.hid ⟨HOy.out R _ _ (by omega) HRx.out.1, HRx.out.2⟩
 have HK2 : Hid (KR R w v2) := Lib.hid (HKx.out.base (HBy.out w1.heap.size _ (Nat.le_refl _) (Below.refl _ _)) (by omega) (by omega))
 clear hC HUy HOy HBy HUx HTx HRx HKx hMx
 go_wp2_with fail
 have hMx := HU2.out.lt
 refine (H2.out v2 HZ2.out HR2.out (HSL.out.below HK2.out.1)).mono ?_
 intro e w3 h
 rcases h with ⟨z, ⟨v, rfl, hown⟩, hr, hk⟩ | ⟨z, rfl, hk⟩
 rotate_left
 · have HZ := Lib.hid z
   have HK := Lib.hid (HK2.out.trans hk)
   clear z hk
   unfold pan
   go_wp2_with fail
   exact ⟨rfl, .inr ⟨HZ.out, rfl, HK.out⟩⟩
 have HZ3 := Lib.hid z
 have HRx := Lib.hid hr
 have HUx : Hid (MT 38 w3 w1.heap.size C2) := Lib.hid ((hk.2 _ HU2.out.lt (by omega)).trans HU2.out)
 have HTx : Hid (MT 38 w3 w.heap.size (pkC Pkt.zero PA.zero)) := Lib.hid ((hk.2 _ HT2.out.lt (Nat.ne_of_gt hRw)).trans HT2.out)
 have HKx := Lib.hid (HK2.out.trans hk)
 have HOW := Lib.hid hown
 obtain ⟨A9, c9, hv, _, _⟩ := Own.ret hown
 subst hv
 clear hown
 clear z hr hk HU2 HT2 HR2 HK2 H2
 go_upto_region 32 with (refine wpList_store_blk (by rfl) 35 _ _ rfl rfl w1.heap.size 32 1 rfl (.slice A9 a2.length c9) rfl 38 C2 [.slice A9 a2.length c9] HUx.out rfl rfl (oneSz _ (by simp)) (by rw [HL2.out]; decide) (one_cells rfl) ?_; rintro v3 hM hoth hbel; have HUy := Lib.hid hM; have HOy := Lib.hid hoth; have HBy := Lib.hid hbel; clear hM hoth hbel)
 obtain ⟨C3, hC⟩ : ∃ C, C = putC C2 32 [.slice A9 a2.length c9] := ⟨_, rfl⟩
 have HL3 : Hid (C3.length = 34) := Lib.hid (by rw [hC]; exact (putC_len (by rw [HL2.out]; simp)).trans HL2.out)
 have HU3 : Hid (MT 38 v3 w1.heap.size C3) := Lib.hid (by rw [hC]; exact HUy.out)
 have HC3 := Lib.hid hC
 have HT3 : Hid (MT 38 v3 w.heap.size (pkC Pkt.zero PA.zero)) := Lib.hid (HOy.out _ _ _ (by omega) HTx.out)
 have HR3 : Hid (RP v3 R A c l s3.1) := Lib.hid ⟨HOy.out R _ _ (by omega) HRx.out.1, HRx.out.2⟩
 have HK3 : Hid (KR R w v3) := Lib.hid (HKx.out.base (HBy.out w1.heap.size _ (Nat.le_refl _) (Below.refl _ _)) (by omega) (by omega))
 have HPI := Lib.hid (Own.weak (own_oth1 HOy.out hMx HOW.out) (Nat.le_of_lt hMx))
 clear hC HUy HOy HBy HUx HTx HRx HKx hMx
 obtain ⟨P, hP⟩ : ∃ P, P = ({ Pkt.zero with kind := 10, id := a1, filters := a2 } : Pkt) := ⟨_, rfl⟩
 obtain ⟨AA, hA⟩ : ∃ AA : PA, AA = { PA.zero with f := A9, fc := c9 } := ⟨_, rfl⟩
 have HU9 : Hid (MT 38 v3 w1.heap.size (pkC P AA)) := Lib.hid (by have := HU3.out; rw [HC3.out, HC2.out, HC1.out] at this; rw [hP, hA]; exact this)
 have HPQ := Lib.hid hP
 have HAQ := Lib.hid hA
 rw [← hP]
 clear hP hA
 go_wp2_with (first | (refine wpList_load_all (by rfl) 38 (.tmp 3) rfl w1.heap.size rfl 38 _ (0, 0) _ HU9.out Tryz.underlying38 rfl info33 ?_) | (refine wpList_store_blk (by rfl) 38 (.tmp 2) (.tmp 80) rfl rfl w.heap.size 0 34 rfl (.agg (pkC P AA).toArray) rfl 38 (pkC Pkt.zero PA.zero) (pkC P AA) HT3.out rfl rfl info33 (by rw [pkC_len]; decide) (one_cells rfl) ?_; rintro w9 hM hoth hbel; have HM9 := Lib.hid hM; have HO9 := Lib.hid hoth; have HB9 := Lib.hid hbel; clear hM hoth hbel))
 have HPZ : Hid (PInN w9 w.heap.size w9.heap.size P AA) := Lib.hid (by rw [HPQ.out, HAQ.out]; exact ⟨⟨GL.nil _ _ _, GL.nil _ _ _, GL.nil _ _ _, psl_one (own_oth1 HO9.out hz1 HPI.out), CL.nil _ _ _⟩, AdN.nil _ _, AdN.nil _ _, AdN.nil _ _, adN_own (own_oth1 HO9.out hz1 HPI.out) (Nat.le_of_lt hz1), AdN.nil _ _⟩)
 have hPP := HPQ.out
 subst hPP
 exact bodyPost_ret (v := .agg (pkC ({ Pkt.zero with kind := 10, id := a1, filters := a2 } : Pkt) AA).toArray) (results_cell_row rfl _ _ w.heap.size 38 _ (0, 0) _ rfl (by have := HM9.out; rw [putC_all (pkC Pkt.zero PA.zero) (pkC ({ Pkt.zero with kind := 10, id := a1, filters := a2 } : Pkt) AA) rfl] at this; exact this) Tryz.underlying38 rfl info33) rfl (.inl ⟨HZ3.out, ⟨AA, rfl, HPZ.out⟩, ⟨HO9.out R _ _ (by omega) HR3.out.1, HR3.out.2⟩, HK3.out.base (HB9.out w.heap.size _ (Nat.le_refl _) (Below.refl _ _)) (Nat.le_refl _) (by omega)⟩)

theorem xPk_11 (R : Nat) (A : Option Addr) (c : Nat) (l : List UInt8) (s0 : Int × Int) (hz0 : s0.2 = 0) (w : World) (h : RP w R A c l s0.1) (hsl : CL bv w R A l) (hc : l.length ≤ c) (hn : l.length ≤ 140737488355328) (hkn : (sNum l s0).1 = 11) (he : (sNum l s0).2.2 = 0) :
 Calls Tryz.prog 17 #[.pointer (some ⟨R, 0, none⟩)] w (RetXP R A c l (sBody l 11 (sNum l s0).2).1 (sBody l 11 (sNum l s0).2).2 w) := by
 have hmf := @hmfT Tryz.prog
 have H0 : Hid (∀ w, RP w R A c l s0.1 → CL bv w R A l → Calls Tryz.prog 53 #[.pointer (some ⟨R, 0, none⟩)] w (RetX R A c l (.int .i64 (sNum l s0).1) (sNum l s0).2 w)) := Lib.hid (fun wv hv hsv => by
  obtain ⟨q, z⟩ := s0
  dsimp only at hz0 hv ⊢
  subst hz0
  exact xNum_any R A c l q wv hv hsv hc hn)
 generalize sNum l s0 = r0 at H0 hkn he ⊢
 obtain ⟨n, s1⟩ := r0
 dsimp only at H0 hkn he ⊢
 subst hkn
 have hbody : sBody l 11 s1 = ({ Pkt.zero with kind := 11, id := (sNum l s1).1, codes := (sList (sNum l) (sCount l 32 (sNum l s1).2).1.toNat (sCount l 32 (sNum l s1).2).2 []).1 }, (sList (sNum l) (sCount l 32 (sNum l s1).2).1.toNat (sCount l 32 (sNum l s1).2).2 []).2) := by unfold sBody; simp [sLists]
 rw [hbody]
 clear hbody
 have H1 : Hid (∀ w, s1.2 = 0 → RP w R A c l s1.1 → CL bv w R A l → Calls Tryz.prog 53 #[.pointer (some ⟨R, 0, none⟩)] w (RetX R A c l (.int .i64 ((sNum l s1).1)) (sNum l s1).2 w)) := Lib.hid (fun wv hzv hv hsv => by
  obtain ⟨q, z⟩ := s1
  dsimp only at hzv hv ⊢
  subst hzv
  exact xNum_any R A c l q wv hv hsv hc hn)
 have B1 : Hid (s1.2 ≠ 0 → (sNum l s1).2 = s1) := Lib.hid (fun h => by rw [sNum_bad h])
 generalize sNum l s1 = r1 at H1 B1 ⊢
 obtain ⟨a1, s2⟩ := r1
 dsimp only at H1 B1 ⊢
 have H2 : Hid (∀ w, s2.2 = 0 → RP w R A c l s2.1 → CL bv w R A l → Calls Tryz.prog 59 #[.pointer (some ⟨R, 0, none⟩), .int .i64 32, .func (.func 53) #[.pointer (some ⟨R, 0, none⟩)] #[]] w (RetXL R A c l (fun w' v => Own 3 iv w' w.heap.size v (sList (sNum l) (sCount l 32 s2).1.toNat (sCount l 32 s2).2 []).1) (sList (sNum l) (sCount l 32 s2).1.toNat (sCount l 32 s2).2 []).2 w)) := Lib.hid (fun wv hzv hv hsv => by
  obtain ⟨q, z⟩ := s2
  dsimp only at hzv hv
  subst hzv
  exact xElI_any R A c l q wv hv hsv hc hn)
 have B2 : Hid (s2.2 ≠ 0 → (sList (sNum l) (sCount l 32 s2).1.toNat (sCount l 32 s2).2 []).2 = s2) := Lib.hid (fun h => by rw [sCount_bad h, sList_bad h])
 generalize sList (sNum l) (sCount l 32 s2).1.toNat (sCount l 32 s2).2 [] = r2 at H2 B2 ⊢
 obtain ⟨a2, s3⟩ := r2
 dsimp only at H2 B2 ⊢
 have E3 : Hid (s3.2 ≠ 0 → s3 = s3) := Lib.hid (fun _ => rfl)
 have E2 : Hid (s2.2 ≠ 0 → s3 = s2) := Lib.hid (fun h => (E3.out (by rw [B2.out h]; exact h)).trans (B2.out h))
 clear B1 B2
 clear hc hn hz0
 have HSL := Lib.hid hsl
 have hRw := h.lt
 have HR := Lib.hid h
 have HE := Lib.hid he
 clear hsl h he
 go_enter Tryz.func17, Tryz.ntmps17
 go_upto_region 1 with fail
 refine name_world (C := fun w1 => Code.wp _ _ _ _ w1) (w.alloc (.cells (pkC Pkt.zero PA.zero).toArray 38)) ?_
 rintro w0 hw0
 have hb0 : Below w.heap.size w w0 := by rw [hw0]; exact belA _ _
 have hm0 : MT 38 w0 w.heap.size (pkC Pkt.zero PA.zero) := by rw [hw0]; exact MT.new w _ _
 have HR0 := Lib.hid (HR.out.below hb0)
 have HT0 := Lib.hid hm0
 have HK0 := Lib.hid (KR.of_below hb0 (Nat.le_of_lt hRw))
 have hz0 : w.heap.size < w0.heap.size := hm0.lt
 clear hb0 hm0 hw0 HR
 go_wp2_with fail
 refine (H0.out w0 HR0.out (HSL.out.below HK0.out.1)).mono ?_
 intro e w1 h
 rcases h with ⟨z, rfl, hr, hk⟩ | ⟨z, _, _⟩
 rotate_left
 · exact absurd HE.out z
 have HR1x := Lib.hid hr
 have HT1x : Hid (MT 38 w1 w.heap.size (pkC Pkt.zero PA.zero)) := Lib.hid ((hk.2 _ HT0.out.lt (Nat.ne_of_gt hRw)).trans HT0.out)
 have HK1x := Lib.hid (HK0.out.trans hk)
 have hz1 : w.heap.size < w1.heap.size := Nat.lt_of_lt_of_le hz0 hk.size
 have HZ1 := HE
 clear z hr hk HT0 HK0 HR0 H0
 go_upto_region 2 with (refine wpList_store_blk (by rfl) 38 (.tmp 3) (.tmp 6) rfl rfl w1.heap.size 0 34 rfl (.agg (zC 11).toArray) rfl 38 (pkC Pkt.zero PA.zero) (zC 11) (zero_new w1) rfl rfl info33 (by rw [pkC_len]; decide) (one_cells rfl) ?_; rintro v1 hM hoth hbel; have HU1 : Hid (MT 38 v1 w1.heap.size (zC 11)) := Lib.hid (by rw [putC_all (pkC Pkt.zero PA.zero) (zC 11) rfl] at hM; exact hM); have HT1 : Hid (MT 38 v1 w.heap.size (pkC Pkt.zero PA.zero)) := Lib.hid (hoth _ _ _ (by omega) (HT1x.out.alloc _)); have HR1 : Hid (RP v1 R A c l s1.1) := Lib.hid ⟨hoth R _ _ (by omega) (MT.alloc HR1x.out.1 _), HR1x.out.2⟩; have HK1 : Hid (KR R w v1) := Lib.hid (HK1x.out.base (hbel w1.heap.size _ (Nat.le_refl _) (belA _ _)) HK1x.out.size (by omega)); clear hM hoth hbel)
 clear HT1x HR1x HK1x
 obtain ⟨C1, hC⟩ : ∃ C, C = zC 11 := ⟨_, rfl⟩
 have HL1 : Hid (C1.length = 34) := Lib.hid (by rw [hC]; rfl)
 have HU1 := Lib.hid (show MT 38 v1 w1.heap.size C1 by rw [hC]; exact HU1.out)
 have k0 : v1.cell? ⟨w1.heap.size, 0, none⟩ = some (.int .i64 11) := (HU1.out.cell 0).trans (by rw [hC]; rfl)
 have HC1 := Lib.hid hC
 clear hC
 have hM1 := HU1.out.lt
 go_wp2_with fail
 clear k0
 have hMx := HU1.out.lt
 refine (H1.out v1 HZ1.out HR1.out (HSL.out.below HK1.out.1)).mono ?_
 intro e w2 h
 rcases h with ⟨z, rfl, hr, hk⟩ | ⟨z, rfl, hk⟩
 rotate_left
 · have HZ := Lib.hid z
   have HQ := Lib.hid (E2.out z)
   have HK := Lib.hid (HK1.out.trans hk)
   clear z hk
   unfold pan
   go_wp2_with fail
   exact ⟨rfl, .inr ⟨by rw [HQ.out]; exact HZ.out, by rw [HQ.out]; rfl, HK.out⟩⟩
 have HZ2 := Lib.hid z
 have HRx := Lib.hid hr
 have HUx : Hid (MT 38 w2 w1.heap.size C1) := Lib.hid ((hk.2 _ HU1.out.lt (by omega)).trans HU1.out)
 have HTx : Hid (MT 38 w2 w.heap.size (pkC Pkt.zero PA.zero)) := Lib.hid ((hk.2 _ HT1.out.lt (Nat.ne_of_gt hRw)).trans HT1.out)
 have HKx := Lib.hid (HK1.out.trans hk)
 clear z hr hk HU1 HT1 HR1 HK1 H1
 go_wp2_with (refine wpList_store_blk (by rfl) 3 _ _ rfl rfl w1.heap.size 1 1 rfl (.int .i64 a1) rfl 38 C1 [.int .i64 a1] HUx.out rfl rfl (oneSz _ (by simp)) (by rw [HL1.out]; decide) (one_cells rfl) ?_; rintro v2 hM hoth hbel; have HUy := Lib.hid hM; have HOy := Lib.hid hoth; have HBy := Lib.hid hbel; clear hM hoth hbel)
 obtain ⟨C2, hC⟩ : ∃ C, C = putC C1 1 [.int .i64 a1] := ⟨_, rfl⟩
 have HL2 : Hid (C2.length = 34) := Lib.hid (by rw [hC]; exact (putC_len (by rw [HL1.out]; simp)).trans HL1.out)
 have HU2 : Hid (MT 38 v2 w1.heap.size C2) := Lib.hid (by rw [hC]; exact HUy.out)
 have HC2 := Lib.hid hC
 have HT2 : Hid (MT 38 v2 w.heap.size (pkC Pkt.zero PA.zero)) := Lib.hid (HOy.out _ _ _ (by omega) HTx.out)
 have HR2 : Hid (RP v2 R A c l s2.1) := Lib.hid ⟨HOy.out R _ _ (by omega) HRx.out.1, HRx.out.2⟩
 have HK2 : Hid (KR R w v2) := Lib.hid (HKx.out.base (HBy.out w1.heap.size _ (Nat.le_refl _) (Below.refl _ _)) (by omega) (by omega))
 clear hC HUy HOy HBy HUx HTx HRx HKx hMx
 go_wp2_with fail
 have hMx := HU2.out.lt
 refine (H2.out v2 HZ2.out HR2.out (HSL.out.below HK2.out.1)).mono ?_
 intro e w3 h
 rcases h with ⟨z, ⟨v, rfl, hown⟩, hr, hk⟩ | ⟨z, rfl, hk⟩
 rotate_left
 · have HZ := Lib.hid z
   have HK := Lib.hid (HK2.out.trans hk)
   clear z hk
   unfold pan
   go_wp2_with fail
   exact ⟨rfl, .inr ⟨HZ.out, rfl, HK.out⟩⟩
 have HZ3 := Lib.hid z
 have HRx := Lib.hid hr
 have HUx : Hid (MT 38 w3 w1.heap.size C2) := Lib.hid ((hk.2 _ HU2.out.lt (by omega)).trans HU2.out)
 have HTx : Hid (MT 38 w3 w.heap.size (pkC Pkt.zero PA.zero)) := Lib.hid ((hk.2 _ HT2.out.lt (Nat.ne_of_gt hRw)).trans HT2.out)
 have HKx := Lib.hid (HK2.out.trans hk)
 have HOW := Lib.hid hown
 obtain ⟨A9, c9, hv, _, _⟩ := Own.ret hown
 subst hv
 clear hown
 clear z hr hk HU2 HT2 HR2 HK2 H2
 go_upto_region 32 with (refine wpList_store_blk (by rfl) 36 _ _ rfl rfl w1.heap.size 33 1 rfl (.slice A9 a2.length c9) rfl 38 C2 [.slice A9 a2.length c9] HUx.out rfl rfl (oneSz _ (by simp)) (by rw [HL2.out]; decide) (one_cells rfl) ?_; rintro v3 hM hoth hbel; have HUy := Lib.hid hM; have HOy := Lib.hid hoth; have HBy := Lib.hid hbel; clear hM hoth hbel)
 obtain ⟨C3, hC⟩ : ∃ C, C = putC C2 33 [.slice A9 a2.length c9] := ⟨_, rfl⟩
 have HL3 : Hid (C3.length = 34) := Lib.hid (by rw [hC]; exact (putC_len (by rw [HL2.out]; simp)).trans HL2.out)
 have HU3 : Hid (MT 38 v3 w1.heap.size C3) := Lib.hid (by rw [hC]; exact HUy.out)
 have HC3 := Lib.hid hC
 have HT3 : Hid (MT 38 v3 w.heap.size (pkC Pkt.zero PA.zero)) := Lib.hid (HOy.out _ _ _ (by omega) HTx.out)
 have HR3 : Hid (RP v3 R A c l s3.1) := Lib.hid ⟨HOy.out R _ _ (by omega) HRx.out.1, HRx.out.2⟩
 have HK3 : Hid (KR R w v3) := Lib.hid (HKx.out.base (HBy.out w1.heap.size _ (Nat.le_refl _) (Below.refl _ _)) (by omega) (by omega))
 have HPI := Lib.hid (Own.weak (own_oth1 HOy.out hMx HOW.out) (Nat.le_of_lt hMx))
 clear hC HUy HOy HBy HUx HTx HRx HKx hMx
 obtain ⟨P, hP⟩ : ∃ P, P = ({ Pkt.zero with kind := 11, id := a1, codes := a2 } : Pkt) := ⟨_, rfl⟩
 obtain ⟨AA, hA⟩ : ∃ AA : PA, AA = { PA.zero with c := A9, cc := c9 } := ⟨_, rfl⟩
 have HU9 : Hid (MT 38 v3 w1.heap.size (pkC P AA)) := Lib.hid (by have := HU3.out; rw [HC3.out, HC2.out, HC1.out] at this; rw [hP, hA]; exact this)
 have HPQ := Lib.hid hP
 have HAQ := Lib.hid hA
 rw [← hP]
 clear hP hA
 go_wp2_with (first | (refine wpList_load_all (by rfl) 38 (.tmp 3) rfl w1.heap.size rfl 38 _ (0, 0) _ HU9.out Tryz.underlying38 rfl info33 ?_) | (refine wpList_store_blk (by rfl) 38 (.tmp 2) (.tmp 80) rfl rfl w.heap.size 0 34 rfl (.agg (pkC P AA).toArray) rfl 38 (pkC Pkt.zero PA.zero) (pkC P AA) HT3.out rfl rfl info33 (by rw [pkC_len]; decide) (one_cells rfl) ?_; rintro w9 hM hoth hbel; have HM9 := Lib.hid hM; have HO9 := Lib.hid hoth; have HB9 := Lib.hid hbel; clear hM hoth hbel))
 have HPZ : Hid (PInN w9 w.heap.size w9.heap.size P AA) := Lib.hid (by rw [HPQ.out, HAQ.out]; exact ⟨⟨GL.nil _ _ _, GL.nil _ _ _, GL.nil _ _ _, CL.nil _ _ _, pil_one (own_oth1 HO9.out hz1 HPI.out)⟩, AdN.nil _ _, AdN.nil _ _, AdN.nil _ _, AdN.nil _ _, adN_own (own_oth1 HO9.out hz1 HPI.out) (Nat.le_of_lt hz1)⟩)
 have hPP := HPQ.out
 subst hPP
 exact bodyPost_ret (v := .agg (pkC ({ Pkt.zero with kind := 11, id := a1, codes := a2 } : Pkt) AA).toArray) (results_cell_row rfl _ _ w.heap.size 38 _ (0, 0) _ rfl (by have := HM9.out; rw [putC_all (pkC Pkt.zero PA.zero) (pkC ({ Pkt.zero with kind := 11, id := a1, codes := a2 } : Pkt) AA) rfl] at this; exact this) Tryz.underlying38 rfl info33) rfl (.inl ⟨HZ3.out, ⟨AA, rfl, HPZ.out⟩, ⟨HO9.out R _ _ (by omega) HR3.out.1, HR3.out.2⟩, HK3.out.base (HB9.out w.heap.size _ (Nat.le_refl _) (Below.refl _ _)) (Nat.le_refl _) (by omega)⟩)

theorem xPk_12 (R : Nat) (A : Option Addr) (c : Nat) (l : List UInt8) (s0 : Int × Int) (hz0 : s0.2 = 0) (w : World) (h : RP w R A c l s0.1) (hsl : CL bv w R A l) (hc : l.length ≤ c) (hn : l.length ≤ 140737488355328) (hkn : (sNum l s0).1 = 12) (he : (sNum l s0).2.2 = 0) :
 Calls Tryz.prog 17 #[.pointer (some ⟨R, 0, none⟩)] w (RetXP R A c l (sBody l 12 (sNum l s0).2).1 (sBody l 12 (sNum l s0).2).2 w) := by
 have hmf := @hmfT Tryz.prog
 have H0 : Hid (∀ w, RP w R A c l s0.1 → CL bv w R A l → Calls Tryz.prog 53 #[.pointer (some ⟨R, 0, none⟩)] w (RetX R A c l (.int .i64 (sNum l s0).1) (sNum l s0).2 w)) := Lib.hid (fun wv hv hsv => by
  obtain ⟨q, z⟩ := s0
  dsimp only at hz0 hv ⊢
  subst hz0
  exact xNum_any R A c l q wv hv hsv hc hn)
 generalize sNum l s0 = r0 at H0 hkn he ⊢
 obtain ⟨n, s1⟩ := r0
 dsimp only at H0 hkn he ⊢
 subst hkn
 have hbody : sBody l 12 s1 = ({ Pkt.zero with kind := 12 }, s1) := by unfold sBody; simp
 rw [hbody]
 clear hbody
 clear hc hn hz0
 have HSL := Lib.hid hsl
 have hRw := h.lt
 have HR := Lib.hid h
 have HE := Lib.hid he
 clear hsl h he
 go_enter Tryz.func17, Tryz.ntmps17
 go_upto_region 1 with fail
 refine name_world (C := fun w1 => Code.wp _ _ _ _ w1) (w.alloc (.cells (pkC Pkt.zero PA.zero).toArray 38)) ?_
 rintro w0 hw0
 have hb0 : Below w.heap.size w w0 := by rw [hw0]; exact belA _ _
 have hm0 : MT 38 w0 w.heap.size (pkC Pkt.zero PA.zero) := by rw [hw0]; exact MT.new w _ _
 have HR0 := Lib.hid (HR.out.below hb0)
 have HT0 := Lib.hid hm0
 have HK0 := Lib.hid (KR.of_below hb0 (Nat.le_of_lt hRw))
 have hz0 : w.heap.size < w0.heap.size := hm0.lt
 clear hb0 hm0 hw0 HR
 go_wp2_with fail
 refine (H0.out w0 HR0.out (HSL.out.below HK0.out.1)).mono ?_
 intro e w1 h
 rcases h with ⟨z, rfl, hr, hk⟩ | ⟨z, _, _⟩
 rotate_left
 · exact absurd HE.out z
 have HR1x := Lib.hid hr
 have HT1x : Hid (MT 38 w1 w.heap.size (pkC Pkt.zero PA.zero)) := Lib.hid ((hk.2 _ HT0.out.lt (Nat.ne_of_gt hRw)).trans HT0.out)
 have HK1x := Lib.hid (HK0.out.trans hk)
 have hz1 : w.heap.size < w1.heap.size := Nat.lt_of_lt_of_le hz0 hk.size
 have HZ1 := HE
 clear z hr hk HT0 HK0 HR0 H0
 go_upto_region 2 with (refine wpList_store_blk (by rfl) 38 (.tmp 3) (.tmp 6) rfl rfl w1.heap.size 0 34 rfl (.agg (zC 12).toArray) rfl 38 (pkC Pkt.zero PA.zero) (zC 12) (zero_new w1) rfl rfl info33 (by rw [pkC_len]; decide) (one_cells rfl) ?_; rintro v1 hM hoth hbel; have HU1 : Hid (MT 38 v1 w1.heap.size (zC 12)) := Lib.hid (by rw [putC_all (pkC Pkt.zero PA.zero) (zC 12) rfl] at hM; exact hM); have HT1 : Hid (MT 38 v1 w.heap.size (pkC Pkt.zero PA.zero)) := Lib.hid (hoth _ _ _ (by omega) (HT1x.out.alloc _)); have HR1 : Hid (RP v1 R A c l s1.1) := Lib.hid ⟨hoth R _ _ (by omega) (MT.alloc HR1x.out.1 _), HR1x.out.2⟩; have HK1 : Hid (KR R w v1) := Lib.hid (HK1x.out.base (hbel w1.heap.size _ (Nat.le_refl _) (belA _ _)) HK1x.out.size (by omega)); clear hM hoth hbel)
 clear HT1x HR1x HK1x
 obtain ⟨C1, hC⟩ : ∃ C, C = zC 12 := ⟨_, rfl⟩
 have HL1 : Hid (C1.length = 34) := Lib.hid (by rw [hC]; rfl)
 have HU1 := Lib.hid (show MT 38 v1 w1.heap.size C1 by rw [hC]; exact HU1.out)
 have k0 : v1.cell? ⟨w1.heap.size, 0, none⟩ = some (.int .i64 12) := (HU1.out.cell 0).trans (by rw [hC]; rfl)
 have HC1 := Lib.hid hC
 clear hC
 have hM1 := HU1.out.lt
 obtain ⟨P, hP⟩ : ∃ P, P = ({ Pkt.zero with kind := 12 } : Pkt) := ⟨_, rfl⟩
 obtain ⟨AA, hA⟩ : ∃ AA : PA, AA = PA.zero := ⟨_, rfl⟩
 have HU9 : Hid (MT 38 v1 w1.heap.size (pkC P AA)) := Lib.hid (by have := HU1.out; rw [HC1.out] at this; rw [hP, hA]; exact this)
 have HPQ := Lib.hid hP
 have HAQ := Lib.hid hA
 rw [← hP]
 clear hP hA
 go_wp2_with (first | (refine wpList_load_all (by rfl) 38 (.tmp 3) rfl w1.heap.size rfl 38 _ (0, 0) _ HU9.out Tryz.underlying38 rfl info33 ?_) | (refine wpList_store_blk (by rfl) 38 (.tmp 2) (.tmp 80) rfl rfl w.heap.size 0 34 rfl (.agg (pkC P AA).toArray) rfl 38 (pkC Pkt.zero PA.zero) (pkC P AA) HT1.out rfl rfl info33 (by rw [pkC_len]; decide) (one_cells rfl) ?_; rintro w9 hM hoth hbel; have HM9 := Lib.hid hM; have HO9 := Lib.hid hoth; have HB9 := Lib.hid hbel; clear hM hoth hbel))
 have HPZ : Hid (PInN w9 w.heap.size w9.heap.size P AA) := Lib.hid (by rw [HPQ.out, HAQ.out]; exact ⟨⟨GL.nil _ _ _, GL.nil _ _ _, GL.nil _ _ _, CL.nil _ _ _, CL.nil _ _ _⟩, AdN.nil _ _, AdN.nil _ _, AdN.nil _ _, AdN.nil _ _, AdN.nil _ _⟩)
 have hPP := HPQ.out
 subst hPP
 exact bodyPost_ret (v := .agg (pkC ({ Pkt.zero with kind := 12 } : Pkt) AA).toArray) (results_cell_row rfl _ _ w.heap.size 38 _ (0, 0) _ rfl (by have := HM9.out; rw [putC_all (pkC Pkt.zero PA.zero) (pkC ({ Pkt.zero with kind := 12 } : Pkt) AA) rfl] at this; exact this) Tryz.underlying38 rfl info33) rfl (.inl ⟨HZ1.out, ⟨AA, rfl, HPZ.out⟩, ⟨HO9.out R _ _ (by omega) HR1.out.1, HR1.out.2⟩, HK1.out.base (HB9.out w.heap.size _ (Nat.le_refl _) (Below.refl _ _)) (Nat.le_refl _) (by omega)⟩)

theorem xPk_13 (R : Nat) (A : Option Addr) (c : Nat) (l : List UInt8) (s0 : Int × Int) (hz0 : s0.2 = 0) (w : World) (h : RP w R A c l s0.1) (hsl : CL bv w R A l) (hc : l.length ≤ c) (hn : l.length ≤ 140737488355328) (hkn : (sNum l s0).1 = 13) (he : (sNum l s0).2.2 = 0) :
 Calls Tryz.prog 17 #[.pointer (some ⟨R, 0, none⟩)] w (RetXP R A c l (sBody l 13 (sNum l s0).2).1 (sBody l 13 (sNum l s0).2).2 w) := by
 have hmf := @hmfT Tryz.prog
 have H0 : Hid (∀ w, RP w R A c l s0.1 → CL bv w R A l → Calls Tryz.prog 53 #[.pointer (some ⟨R, 0, none⟩)] w (RetX R A c l (.int .i64 (sNum l s0).1) (sNum l s0).2 w)) := Lib.hid (fun wv hv hsv => by
  obtain ⟨q, z⟩ := s0
  dsimp only at hz0 hv ⊢
  subst hz0
  exact xNum_any R A c l q wv hv hsv hc hn)
 generalize sNum l s0 = r0 at H0 hkn he ⊢
 obtain ⟨n, s1⟩ := r0
 dsimp only at H0 hkn he ⊢
 subst hkn
 have hbody : sBody l 13 s1 = ({ Pkt.zero with kind := 13 }, s1) := by unfold sBody; simp
 rw [hbody]
 clear hbody
 clear hc hn hz0
 have HSL := Lib.hid hsl
 have hRw := h.lt
 have HR := Lib.hid h
 have HE := Lib.hid he
 clear hsl h he
 go_enter Tryz.func17, Tryz.ntmps17
 go_upto_region 1 with fail
 refine name_world (C := fun w1 => Code.wp _ _ _ _ w1) (w.alloc (.cells (pkC Pkt.zero PA.zero).toArray 38)) ?_
 rintro w0 hw0
 have hb0 : Below w.heap.size w w0 := by rw [hw0]; exact belA _ _
 have hm0 : MT 38 w0 w.heap.size (pkC Pkt.zero PA.zero) := by rw [hw0]; exact MT.new w _ _
 have HR0 := Lib.hid (HR.out.below hb0)
 have HT0 := Lib.hid hm0
 have HK0 := Lib.hid (KR.of_below hb0 (Nat.le_of_lt hRw))
 have hz0 : w.heap.size < w0.heap.size := hm0.lt
 clear hb0 hm0 hw0 HR
 go_wp2_with fail
 refine (H0.out w0 HR0.out (HSL.out.below HK0.out.1)).mono ?_
 intro e w1 h
 rcases h with ⟨z, rfl, hr, hk⟩ | ⟨z, _, _⟩
 rotate_left
 · exact absurd HE.out z
 have HR1x := Lib.hid hr
 have HT1x : Hid (MT 38 w1 w.heap.size (pkC Pkt.zero PA.zero)) := Lib.hid ((hk.2 _ HT0.out.lt (Nat.ne_of_gt hRw)).trans HT0.out)
 have HK1x := Lib.hid (HK0.out.trans hk)
 have hz1 : w.heap.size < w1.heap.size := Nat.lt_of_lt_of_le hz0 hk.size
 have HZ1 := HE
 clear z hr hk HT0 HK0 HR0 H0
 go_upto_region 2 with (refine wpList_store_blk (by rfl) 38 (.tmp 3) (.tmp 6) rfl rfl w1.heap.size 0 34 rfl (.agg (zC 13).toArray) rfl 38 (pkC Pkt.zero PA.zero) (zC 13) (zero_new w1) rfl rfl info33 (by rw [pkC_len]; decide) (one_cells rfl) ?_; rintro v1 hM hoth hbel; have HU1 : Hid (MT 38 v1 w1.heap.size (zC 13)) := Lib.hid (by rw [putC_all (pkC Pkt.zero PA.zero) (zC 13) rfl] at hM; exact hM); have HT1 : Hid (MT 38 v1 w.heap.size (pkC Pkt.zero PA.zero)) := Lib.hid (hoth _ _ _ (by omega) (HT1x.out.alloc _)); have HR1 : Hid (RP v1 R A c l s1.1) := Lib.hid ⟨hoth R _ _ (by omega) (MT.alloc HR1x.out.1 _), HR1x.out.2⟩; have HK1 : Hid (KR R w v1) := Lib.hid (HK1x.out.base (hbel w1.heap.size _ (Nat.le_refl _) (belA _ _)) HK1x.out.size (by omega)); clear hM hoth hbel)
 clear HT1x HR1x HK1x
 obtain ⟨C1, hC⟩ : ∃ C, C = zC 13 := ⟨_, rfl⟩
 have HL1 : Hid (C1.length = 34) := Lib.hid (by rw [hC]; rfl)
 have HU1 := Lib.hid (show MT 38 v1 w1.heap.size C1 by rw [hC]; exact HU1.out)
 have k0 : v1.cell? ⟨w1.heap.size, 0, none⟩ = some (.int .i64 13) := (HU1.out.cell 0).trans (by rw [hC]; rfl)
 have HC1 := Lib.hid hC
 clear hC
 have hM1 := HU1.out.lt
 obtain ⟨P, hP⟩ : ∃ P, P = ({ Pkt.zero with kind := 13 } : Pkt) := ⟨_, rfl⟩
 obtain ⟨AA, hA⟩ : ∃ AA : PA, AA = PA.zero := ⟨_, rfl⟩
 have HU9 : Hid (MT 38 v1 w1.heap.size (pkC P AA)) := Lib.hid (by have := HU1.out; rw [HC1.out] at this; rw [hP, hA]; exact this)
 have HPQ := Lib.hid hP
 have HAQ := Lib.hid hA
 rw [← hP]
 clear hP hA
 go_wp2_with (first | (refine wpList_load_all (by rfl) 38 (.tmp 3) rfl w1.heap.size rfl 38 _ (0, 0) _ HU9.out Tryz.underlying38 rfl info33 ?_) | (refine wpList_store_blk (by rfl) 38 (.tmp 2) (.tmp 80) rfl rfl w.heap.size 0 34 rfl (.agg (pkC P AA).toArray) rfl 38 (pkC Pkt.zero PA.zero) (pkC P AA) HT1.out rfl rfl info33 (by rw [pkC_len]; decide) (one_cells rfl) ?_; rintro w9 hM hoth hbel; have HM9 := Lib.hid hM; have HO9 := Lib.hid hoth; have HB9 := Lib.hid hbel; clear hM hoth hbel))
 have HPZ : Hid (PInN w9 w.heap.size w9.heap.size P AA) := Lib.hid (by rw [HPQ.out, HAQ.out]; exact ⟨⟨GL.nil _ _ _, GL.nil _ _ _, GL.nil _ _ _, CL.nil _ _ _, CL.nil _ _ _⟩, AdN.nil _ _, AdN.nil _ _, AdN.nil _ _, AdN.nil _ _, AdN.nil _ _⟩)
 have hPP := HPQ.out
 subst hPP
 exact bodyPost_ret (v := .agg (pkC ({ Pkt.zero with kind := 13 } : Pkt) AA).toArray) (results_cell_row rfl _ _ w.heap.size 38 _ (0, 0) _ rfl (by have := HM9.out; rw [putC_all (pkC Pkt.zero PA.zero) (pkC ({ Pkt.zero with kind := 13 } : Pkt) AA) rfl] at this; exact this) Tryz.underlying38 rfl info33) rfl (.inl ⟨HZ1.out, ⟨AA, rfl, HPZ.out⟩, ⟨HO9.out R _ _ (by omega) HR1.out.1, HR1.out.2⟩, HK1.out.base (HB9.out w.heap.size _ (Nat.le_refl _) (Below.refl _ _)) (Nat.le_refl _) (by omega)⟩)

theorem xPk_14 (R : Nat) (A : Option Addr) (c : Nat) (l : List UInt8) (s0 : Int × Int) (hz0 : s0.2 = 0) (w : World) (h : RP w R A c l s0.1) (hsl : CL bv w R A l) (hc : l.length ≤ c) (hn : l.length ≤ 140737488355328) (hkn : (sNum l s0).1 = 14) (he : (sNum l s0).2.2 = 0) :
 Calls Tryz.prog 17 #[.pointer (some ⟨R, 0, none⟩)] w (RetXP R A c l (sBody l 14 (sNum l s0).2).1 (sBody l 14 (sNum l s0).2).2 w) := by
 have hmf := @hmfT Tryz.prog
 have H0 : Hid (∀ w, RP w R A c l s0.1 → CL bv w R A l → Calls Tryz.prog 53 #[.pointer (some ⟨R, 0, none⟩)] w (RetX R A c l (.int .i64 (sNum l s0).1) (sNum l s0).2 w)) := Lib.hid (fun wv hv hsv => by
  obtain ⟨q, z⟩ := s0
  dsimp only at hz0 hv ⊢
  subst hz0
  exact xNum_any R A c l q wv hv hsv hc hn)
 generalize sNum l s0 = r0 at H0 hkn he ⊢
 obtain ⟨n, s1⟩ := r0
 dsimp only at H0 hkn he ⊢
 subst hkn
 have hbody : sBody l 14 s1 = ({ Pkt.zero with kind := 14, code := (sNum l s1).1 }, (sNum l s1).2) := by unfold sBody; simp
 rw [hbody]
 clear hbody
 have H1 : Hid (∀ w, s1.2 = 0 → RP w R A c l s1.1 → CL bv w R A l → Calls Tryz.prog 53 #[.pointer (some ⟨R, 0, none⟩)] w (RetX R A c l (.int .i64 ((sNum l s1).1)) (sNum l s1).2 w)) := Lib.hid (fun wv hzv hv hsv => by
  obtain ⟨q, z⟩ := s1
  dsimp only at hzv hv ⊢
  subst hzv
  exact xNum_any R A c l q wv hv hsv hc hn)
 have B1 : Hid (s1.2 ≠ 0 → (sNum l s1).2 = s1) := Lib.hid (fun h => by rw [sNum_bad h])
 generalize sNum l s1 = r1 at H1 B1 ⊢
 obtain ⟨a1, s2⟩ := r1
 dsimp only at H1 B1 ⊢
 have E2 : Hid (s2.2 ≠ 0 → s2 = s2) := Lib.hid (fun _ => rfl)
 clear B1
 clear hc hn hz0
 have HSL := Lib.hid hsl
 have hRw := h.lt
 have HR := Lib.hid h
 have HE := Lib.hid he
 clear hsl h he
 go_enter Tryz.func17, Tryz.ntmps17
 go_upto_region 1 with fail
 refine name_world (C := fun w1 => Code.wp _ _ _ _ w1) (w.alloc (.cells (pkC Pkt.zero PA.zero).toArray 38)) ?_
 rintro w0 hw0
 have hb0 : Below w.heap.size w w0 := by rw [hw0]; exact belA _ _
 have hm0 : MT 38 w0 w.heap.size (pkC Pkt.zero PA.zero) := by rw [hw0]; exact MT.new w _ _
 have HR0 := Lib.hid (HR.out.below hb0)
 have HT0 := Lib.hid hm0
 have HK0 := Lib.hid (KR.of_below hb0 (Nat.le_of_lt hRw))
 have hz0 : w.heap.size < w0.heap.size := hm0.lt
 clear hb0 hm0 hw0 HR
 go_wp2_with fail
 refine (H0.out w0 HR0.out (HSL.out.below HK0.out.1)).mono ?_
 intro e w1 h
 rcases h with ⟨z, rfl, hr, hk⟩ | ⟨z, _, _⟩
 rotate_left
 · exact absurd HE.out z
 have HR1x := Lib.hid hr
 have HT1x : Hid (MT 38 w1 w.heap.size (pkC Pkt.zero PA.zero)) := Lib.hid ((hk.2 _ HT0.out.lt (Nat.ne_of_gt hRw)).trans HT0.out)
 have HK1x := Lib.hid (HK0.out.trans hk)
 have hz1 : w.heap.size < w1.heap.size := Nat.lt_of_lt_of_le hz0 hk.size
 have HZ1 := HE
 clear z hr hk HT0 HK0 HR0 H0
 go_upto_region 2 with (refine wpList_store_blk (by rfl) 38 (.tmp 3) (.tmp 6) rfl rfl w1.heap.size 0 34 rfl (.agg (zC 14).toArray) rfl 38 (pkC Pkt.zero PA.zero) (zC 14) (zero_new w1) rfl rfl info33 (by rw [pkC_len]; decide) (one_cells rfl) ?_; rintro v1 hM hoth hbel; have HU1 : Hid (MT 38 v1 w1.heap.size (zC 14)) := Lib.hid (by rw [putC_all (pkC Pkt.zero PA.zero) (zC 14) rfl] at hM; exact hM); have HT1 : Hid (MT 38 v1 w.heap.size (pkC Pkt.zero PA.zero)) := Lib.hid (hoth _ _ _ (by omega) (HT1x.out.alloc _)); have HR1 : Hid (RP v1 R A c l s1.1) := Lib.hid ⟨hoth R _ _ (by omega) (MT.alloc HR1x.out.1 _), HR1x.out.2⟩; have HK1 : Hid (KR R w v1) := Lib.hid (HK1x.out.base (hbel w1.heap.size _ (Nat.le_refl _) (belA _ _)) HK1x.out.size (by omega)); clear hM hoth hbel)
 clear HT1x HR1x HK1x
 obtain ⟨C1, hC⟩ : ∃ C, C = zC 14 := ⟨_, rfl⟩
 have HL1 : Hid (C1.length = 34) := Lib.hid (by rw [hC]; rfl)
 have HU1 := Lib.hid (show MT 38 v1 w1.heap.size C1 by rw [hC]; exact HU1.out)
 have k0 : v1.cell? ⟨w1.heap.size, 0, none⟩ = some (.int .i64 14) := (HU1.out.cell 0).trans (by rw [hC]; rfl)
 have HC1 := Lib.hid hC
 clear hC
 have hM1 := HU1.out.lt
 go_wp2_with fail
 clear k0
 have hMx := HU1.out.lt
 refine (H1.out v1 HZ1.out HR1.out (HSL.out.below HK1.out.1)).mono ?_
 intro e w2 h
 rcases h with ⟨z, rfl, hr, hk⟩ | ⟨z, rfl, hk⟩
 rotate_left
 · have HZ := Lib.hid z
   have HK := Lib.hid (HK1.out.trans hk)
   clear z hk
   unfold pan
   go_wp2_with fail
   exact ⟨rfl, .inr ⟨HZ.out, rfl, HK.out⟩⟩
 have HZ2 := Lib.hid z
 have HRx := Lib.hid hr
 have HUx : Hid (MT 38 w2 w1.heap.size C1) := Lib.hid ((hk.2 _ HU1.out.lt (by omega)).trans HU1.out)
 have HTx : Hid (MT 38 w2 w.heap.size (pkC Pkt.zero PA.zero)) := Lib.hid ((hk.2 _ HT1.out.lt (Nat.ne_of_gt hRw)).trans HT1.out)
 have HKx := Lib.hid (HK1.out.trans hk)
 clear z hr hk HU1 HT1 HR1 HK1 H1
 go_upto_region 32 with (refine wpList_store_blk (by rfl) 3 _ _ rfl rfl w1.heap.size 30 1 rfl (.int .i64 a1) rfl 38 C1 [.int .i64 a1] HUx.out rfl rfl (oneSz _ (by simp)) (by rw [HL1.out]; decide) (one_cells rfl) ?_; rintro v2 hM hoth hbel; have HUy := Lib.hid hM; have HOy := Lib.hid hoth; have HBy := Lib.hid hbel; clear hM hoth hbel)
 obtain ⟨C2, hC⟩ : ∃ C, C = putC C1 30 [.int .i64 a1] := ⟨_, rfl⟩
 have HL2 : Hid (C2.length = 34) := Lib.hid (by rw [hC]; exact (putC_len (by rw [HL1.out]; simp)).trans HL1.out)
 have HU2 : Hid (MT 38 v2 w1.heap.size C2) := Lib.hid (by rw [hC]; exact HUy.out)
 have HC2 := Lib.hid hC
 have HT2 : Hid (MT 38 v2 w.heap.size (pkC Pkt.zero PA.zero)) := Lib.hid (HOy.out _ _ _ (by omega) HTx.out)
 have HR2 : Hid (RP v2 R A c l s2.1) := Lib.hid ⟨HOy.out R _ _ (by omega) HRx.out.1, HRx.out.2⟩
 have HK2 : Hid (KR R w v2) := Lib.hid (HKx.out.base (HBy.out w1.heap.size _ (Nat.le_refl _) (Below.refl _ _)) (by omega) (by omega))
 clear hC HUy HOy HBy HUx HTx HRx HKx hMx
 obtain ⟨P, hP⟩ : ∃ P, P = ({ Pkt.zero with kind := 14, code := a1 } : Pkt) := ⟨_, rfl⟩
 obtain ⟨AA, hA⟩ : ∃ AA : PA, AA = PA.zero := ⟨_, rfl⟩
 have HU9 : Hid (MT 38 v2 w1.heap.size (pkC P AA)) := Lib.hid (by have := HU2.out; rw [HC2.out, HC1.out] at this; rw [hP, hA]; exact this)
 have HPQ := Lib.hid hP
 have HAQ := Lib.hid hA
 rw [← hP]
 clear hP hA
 go_wp2_with (first | (refine wpList_load_all (by rfl) 38 (.tmp 3) rfl w1.heap.size rfl 38 _ (0, 0) _ HU9.out Tryz.underlying38 rfl info33 ?_) | (refine wpList_store_blk (by rfl) 38 (.tmp 2) (.tmp 80) rfl rfl w.heap.size 0 34 rfl (.agg (pkC P AA).toArray) rfl 38 (pkC Pkt.zero PA.zero) (pkC P AA) HT2.out rfl rfl info33 (by rw [pkC_len]; decide) (one_cells rfl) ?_; rintro w9 hM hoth hbel; have HM9 := Lib.hid hM; have HO9 := Lib.hid hoth; have HB9 := Lib.hid hbel; clear hM hoth hbel))
 have HPZ : Hid (PInN w9 w.heap.size w9.heap.size P AA) := Lib.hid (by rw [HPQ.out, HAQ.out]; exact ⟨⟨GL.nil _ _ _, GL.nil _ _ _, GL.nil _ _ _, CL.nil _ _ _, CL.nil _ _ _⟩, AdN.nil _ _, AdN.nil _ _, AdN.nil _ _, AdN.nil _ _, AdN.nil _ _⟩)
 have hPP := HPQ.out
 subst hPP
 exact bodyPost_ret (v := .agg (pkC ({ Pkt.zero with kind := 14, code := a1 } : Pkt) AA).toArray) (results_cell_row rfl _ _ w.heap.size 38 _ (0, 0) _ rfl (by have := HM9.out; rw [putC_all (pkC Pkt.zero PA.zero) (pkC ({ Pkt.zero with kind := 14, code := a1 } : Pkt) AA) rfl] at this; exact this) Tryz.underlying38 rfl info33) rfl (.inl ⟨HZ2.out, ⟨AA, rfl, HPZ.out⟩, ⟨HO9.out R _ _ (by omega) HR2.out.1, HR2.out.2⟩, HK2.out.base (HB9.out w.heap.size _ (Nat.le_refl _) (Below.refl _ _)) (Nat.le_refl _) (by omega)⟩)

end Go.Proofs.YtdkegoaflabjoaaGreatDoor
