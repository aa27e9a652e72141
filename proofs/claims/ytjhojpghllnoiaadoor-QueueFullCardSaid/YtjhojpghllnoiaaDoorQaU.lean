/-
  QueueFull answers true, walked. Conditions: the texts fit; the library's bound on short texts holds a number.
-/
import Derived.Test.YtjhojpghllnoiaaDoorQaT
import Derived.Test.YtjhojpghllnoiaaDoorQaL
namespace Go.Proofs.YtjhojpghllnoiaaDoor
open Go.RowKit
open S2 (BK Put get_ops)

/-- a list of entries whose memory lies in the blocks from B to N -/
def EM (w : World) (B N : Nat) (A : Option Addr) (ys : List EE) : Prop := LI gE 12 EE.a eps w N A ys ∧ N ≤ w.heap.size ∧ NewL B A ∧ ∀ x ∈ ys, NewL B x.a
theorem EM.of {w : World} {B : Nat} {A : Option Addr} {ys : List EE} (h : EN w B A ys) : EM w B w.heap.size A ys := ⟨h.1, Nat.le_refl _, h.2⟩
theorem EM.en {w : World} {B N : Nat} {A : Option Addr} {ys : List EE} (h : EM w B N A ys) : EN w B A ys := ⟨h.1.more h.2.1, h.2.2⟩
theorem EM.step {w w' : World} {B N : Nat} {A : Option Addr} {ys : List EE} (h : EM w B N A ys) (hb : Below w.heap.size w w') : EM w' B N A ys := ⟨h.1.below (hb.mono h.2.1), Nat.le_trans h.2.1 hb.size, h.2.2⟩
theorem EM.put {w w' : World} {B N : Nat} {A : Option Addr} {ys : List EE} (h : EM w B N A ys) {q : Nat} (hp : Put q w w') (hq : q < B ∨ N ≤ q) : EM w' B N A ys := by
  refine ⟨?_, by rw [hp.size]; exact h.2.1, h.2.2⟩
  rcases hq with hq | hq
  · exact ⟨h.1.1.put hp (fun b o e => by have := h.2.2.1 b o e; omega), fun x hx => PL.put (h.1.2 x hx) hp (fun b o e => by have := h.2.2.2 x hx b o e; omega)⟩
  · exact h.1.below (hp.below (Below.refl _ _) hq)
/-- the queue behind k pushes, in the variable gQ; the description in gS -/
def FuP (w : World) (gS gQ : Nat) (s : Sp) (k : Nat) (wr : World) : Prop := BK 23 wr gS (spC s) ∧ ∃ A c ys, BK 26 wr gQ (quC s ((k : Int) + 1) (.slice A ys.length c)) ∧ EI wr wr.heap.size A ys ∧ ys.length ≤ c ∧ ys.map EE.x = fuL k ∧ Below w.heap.size w wr
/-- a queue in the variable g, its list elsewhere -/
def CutQ (w : World) (g : Nat) (s : Sp) (n : Int) (L : List En) (wx : World) : Prop := ∃ B A c ys, BK 26 wx g (quC s n (.slice A ys.length c)) ∧ EN wx B A ys ∧ g < B ∧ ys.length ≤ c ∧ ys.map EE.x = L ∧ Below w.heap.size w wx
theorem mq_nil {m : Msg} (h : m.props = []) (w : World) (n : Nat) (A : Option Addr) : PL w n A m.props := by rw [h]; exact GL.nil _ _ _

set_option maxRecDepth 20000 in
set_option maxHeartbeats 16000000 in
theorem queueFull_walk (S0 : Sp) (w : World) (hw : S1.Okw w) (hz : S0.name.size ≤ 9223372036854775807 ∧ S0.dead.size ≤ 9223372036854775807) : Calls Tryd.prog 7 #[spV S0] w fun e w' => e = .returned (.bool true) ∧ Below w.heap.size w w' := by
  have HO := Lib.hid hw
  have HC := Lib.hid (fun w1 => rqCheck_any S0 w1 hz)
  have HEX := Lib.hid (fun w1 h1 => exHoldsQ_any w1 h1)
  have HN := Lib.hid (fun w1 => qNew_any S0 w1 hz)
  have HMS := Lib.hid (fun p w1 => message_any p w1)
  have HSV : Hid (spV S0 = .agg (spC S0).toArray) := Lib.hid rfl
  rw [HSV.out] at HC HN ⊢
  clear hw hz
  go_enter Tryd.func7, Tryd.ntmps7
  go_upto_region 1 with fail
  refine name_world (C := fun w1 => Code.wp _ _ _ _ w1) (w.alloc (.cells (spC S0).toArray 23)) ?_
  intro w1 hw1
  have hb1 : Below w.heap.size w w1 := by rw [hw1]; exact S2.below_new w _
  have S_w1 : Hid (BK 23 w1 w.heap.size (spC S0)) := Lib.hid (by rw [hw1]; exact BK.new w _ _)
  have B_w1 := Lib.hid hb1
  clear hw1 hb1
  obtain ⟨gS, hgS⟩ : ∃ g, g = w.heap.size := ⟨_, rfl⟩
  rw [← hgS] at S_w1
  try rw [← hgS]
  have HGS := Lib.hid hgS
  clear hgS
  by_cases hk : specR S0 ≠ 0
  · have q1 : (((specR S0 : Nat) : Int) != 0) = true := by simpa using hk
    generalize specR S0 = ck at HC HN q1 hk
    clear HN HMS
    go_wp2_with first
      | (refine wpList_load_v (by rfl) 23 (.tmp 1) rfl ⟨gS, 0, none⟩ rfl (.agg (spC S0).toArray) (load_sp S_w1.out) ?_)
    refine (HC.out w1).mono ?_
    rintro e y1 ⟨rfl, hb⟩
    have B_y1 : Hid (Below w.heap.size w y1) := Lib.hid (stepB B_w1.out hb)
    have S_y1 : Hid (BK 23 y1 gS (spC S0)) := Lib.hid (S_w1.out.step hb)
    clear B_w1 S_w1
    clear hb
    clear hk
    go_wp2_with fail
    refine (HEX.out y1 (HO.out.step B_y1.out)).mono ?_
    rintro e y2 ⟨rfl, hb⟩
    have B_y2 : Hid (Below w.heap.size w y2) := Lib.hid (stepB B_y1.out hb)
    have S_y2 : Hid (BK 23 y2 gS (spC S0)) := Lib.hid (S_y1.out.step hb)
    clear B_y1 S_y1
    clear hb
    go_wp2
    go_ret
    exact ⟨rfl, B_y2.out⟩
  have hk0 : specR S0 = 0 := by omega
  clear hk
  obtain ⟨hp1, hp2, _, _⟩ := specR_parts hk0
  have HC2 := Lib.hid HC.out
  have HN2 := Lib.hid HN.out
  simp only [hk0] at HC2 HN2
  clear HC HN hp1 hk0
  by_cases hm : 20 < S0.max
  · have q1 : decide (20 < S0.max) = true := decide_eq_true hm
    have q2 : decide (S0.max > 20) = true := decide_eq_true hm
    have d1 : w1.cell? ⟨gS, 1, none⟩ = some (.int .i64 S0.max) := S_w1.out.cell 1 rfl
    go_wp2_with first
      | (refine wpList_load_v (by rfl) 23 (.tmp 1) rfl ⟨gS, 0, none⟩ rfl (.agg (spC S0).toArray) (load_sp S_w1.out) ?_)
    refine (HC2.out w1).mono ?_
    rintro e y3 ⟨rfl, hb⟩
    have B_y3 : Hid (Below w.heap.size w y3) := Lib.hid (stepB B_w1.out hb)
    have S_y3 : Hid (BK 23 y3 gS (spC S0)) := Lib.hid (S_w1.out.step hb)
    clear B_w1 S_w1
    clear hb
    clear d1
    have d1 := S_y3.out.cell 1 rfl
    go_wp2_with fail
    refine (HEX.out y3 (HO.out.step B_y3.out)).mono ?_
    rintro e y4 ⟨rfl, hb⟩
    have B_y4 : Hid (Below w.heap.size w y4) := Lib.hid (stepB B_y3.out hb)
    have S_y4 : Hid (BK 23 y4 gS (spC S0)) := Lib.hid (S_y3.out.step hb)
    clear B_y3 S_y3
    clear hb
    go_wp2
    go_ret
    exact ⟨rfl, B_y4.out⟩
  have q1 : decide (20 < S0.max) = false := decide_eq_false hm
  have q2 : decide (S0.max > 20) = false := decide_eq_false hm
  go_wp2_with first
    | (refine wpList_load_v (by rfl) 23 (.tmp 1) rfl ⟨gS, 0, none⟩ rfl (.agg (spC S0).toArray) (load_sp S_w1.out) ?_)
  refine (HC2.out w1).mono ?_
  rintro e y5 ⟨rfl, hb⟩
  have B_y5 : Hid (Below w.heap.size w y5) := Lib.hid (stepB B_w1.out hb)
  have S_y5 : Hid (BK 23 y5 gS (spC S0)) := Lib.hid (S_w1.out.step hb)
  clear B_w1 S_w1
  clear hb
  have d1 := S_y5.out.cell 1 rfl
  obtain ⟨M, hM⟩ : ∃ M : Nat, S0.max = (M : Int) := ⟨S0.max.toNat, by omega⟩
  have HM := Lib.hid hM
  have HM1 : Hid (0 < M) := Lib.hid (by omega)
  have HM2 : Hid (M ≤ 20) := Lib.hid (by omega)
  clear hM hm hp2
  go_upto_region 3 with fail
  clear d1 q1 q2
  go_wp2_with first
    | (refine wpList_load_v (by rfl) 23 (.tmp 1) rfl ⟨gS, 0, none⟩ rfl (.agg (spC S0).toArray) (load_sp S_y5.out) ?_)
  refine (HN2.out y5).mono ?_
  rintro e y6 ⟨v1, ys1, rfl, hys, hL, hb⟩
  have B_y6 : Hid (Below w.heap.size w y6) := Lib.hid (stepB B_y5.out hb)
  have S_y6 : Hid (BK 23 y6 gS (spC S0)) := Lib.hid (S_y5.out.step hb)
  clear B_y5 S_y5
  obtain ⟨A1, c1, rfl, hc1, hen1⟩ := LN.of gE_len hL
  have HY1 := Lib.hid hys
  have HC1 := Lib.hid hc1
  have L_y6 : Hid (EN y6 y5.heap.size A1 ys1) := Lib.hid hen1
  clear hL hys hc1 hen1
  clear hb
  have LWQ : Hid (gS < y6.heap.size) := Lib.hid S_y6.out.lt
  go_upto_region 4 with first
    | (refine S2.wpList_store_all (by rfl) 26 (.tmp 3) (.tmp 30) rfl rfl (y6.heap.size) rfl (quC S0 1 (.slice A1 ys1.length c1)) rfl 26 _ (BK.new y6 _ _) quSize rfl (ones rfl) ?_; intro y7 hM hP; have hb : Below y6.heap.size y6 y7 := hP.below (S2.below_new y6 _) (Nat.le_refl _); have B_y7 : Hid (Below w.heap.size w y7) := Lib.hid (stepB B_y6.out hb); have S_y7 : Hid (BK 23 y7 gS (spC S0)) := Lib.hid (S_y6.out.step hb); have L_y7 : Hid (EN y7 y5.heap.size A1 ys1) := Lib.hid (LN.step L_y6.out hb); have Q_y7 : Hid (BK 26 y7 (y6.heap.size) (quC S0 1 (.slice A1 ys1.length c1))) := Lib.hid hM; clear hM hP hb B_y6 S_y6 L_y6)
  have HGSQ0 : Hid (gS < y6.heap.size) := LWQ
  have HGQ0 : Hid (w.heap.size ≤ y6.heap.size) := Lib.hid (by have h1 := LWQ.out; have h2 := HGS.out; omega)
  obtain ⟨gQ, hgQ⟩ : ∃ g, g = y6.heap.size := ⟨_, rfl⟩
  rw [← hgQ] at LWQ Q_y7 HGSQ0 HGQ0
  try rw [← hgQ]
  have HGSQ := HGSQ0
  have HGQ := HGQ0
  clear hgQ HGSQ0 HGQ0
  have d1 := S_y7.out.cell 1 rfl
  have e0 := List.map_eq_nil_iff.1 HY1.out
  subst e0
  go_wp2_with fail
  go_loopg [34] M (fun g v wr => ∃ k : Nat, k + g = M ∧ v = .int .i64 k ∧ FuP w gS gQ S0 k wr)
  case atStart => exact ⟨0, by omega, rfl, S_y7.out, A1, c1, [], Q_y7.out, LI.nil _ _ _, Nat.zero_le _, rfl, B_y7.out⟩
  case round =>
    obtain ⟨k, hkg, rfl, hS, A2, c2, ys2, hq, hl, hc, hys, hbb⟩ := hrel
    have S_wr := Lib.hid hS
    have Q_wr := Lib.hid hq
    have K_wr := Lib.hid hl
    have HC2Y := Lib.hid hc
    have HY2 := Lib.hid hys
    have B_wr := Lib.hid hbb
    have HK := Lib.hid hkg
    clear hS hq hl hc hys hbb
    have d1 := S_wr.out.cell 1 rfl
    cases gk with
    | zero =>
      obtain rfl : k = M := by omega
      have e3 : decide ((k : Int) < S0.max) = false := decide_eq_false (by have := HM.out; omega)
      have HK100 : Hid (k ≤ 100) := Lib.hid (by have := HM2.out; omega)
      go_upto_region 11 with fail
      clear d1 e3 hkg
      go_wp2_with first
        | (refine wpList_load_v (by rfl) 26 (.tmp 3) rfl ⟨gQ, 0, none⟩ rfl (.agg (quC S0 ((k : Int) + 1) (.slice A2 ys2.length c2)).toArray) (load_qu Q_wr.out) ?_)
      refine (fPop HM1.out HK100.out A2 c2 ys2 wr K_wr.out HC2Y.out HY2.out).mono ?_
      rintro e y8 ⟨a7, c7, v8, ys8, rfl, hp7, hn7, hys8, hL8, hb⟩
      have B_y8 : Hid (Below w.heap.size w y8) := Lib.hid (stepB B_wr.out hb)
      have S_y8 : Hid (BK 23 y8 gS (spC S0)) := Lib.hid (S_wr.out.step hb)
      have Q_y8 : Hid (BK 26 y8 gQ (quC S0 ((k : Int) + 1) (.slice A2 ys2.length c2))) := Lib.hid (Q_wr.out.step hb)
      have K_y8 : Hid (EI y8 y8.heap.size A2 ys2) := Lib.hid (LI.step K_wr.out hb)
      clear B_wr S_wr Q_wr K_wr
      obtain ⟨A8, c8, rfl, hc8, hen8⟩ := LN.of gE_len hL8
      have HY8 := Lib.hid hys8
      clear hL8 hys8 hp7 hn7 hc8
      have L8_y8 : Hid (EI y8 y8.heap.size A8 ys8) := Lib.hid hen8.1
      clear hen8
      clear K_y8 Q_y8
      clear hb
      have HSW : Hid (gS < y8.heap.size) := Lib.hid S_y8.out.lt
      have HW8 : Hid (w.heap.size ≤ y8.heap.size) := Lib.hid B_y8.out.size
      go_upto_region 12 with first
        | (refine S2.wpList_store_all (by rfl) 34 (.tmp 7) (.tmp 49) rfl rfl y8.heap.size rfl (enX (fe 0) a7 c7) rfl 34 (enX En.zero none 0) (BK.alloc (BK.new y8 _ _) _) enSize rfl (enX_one _ _ _) ?_; intro y9 hM hP; have XM := Lib.hid hM; have XP := Lib.hid hP; clear hM hP)
        | (refine S2.wpList_store_all (by rfl) 26 (.tmp 8) (.tmp 50) rfl rfl (y8.heap.size + 1) rfl (quC S0 ((k : Int) + 1) (.slice A8 ys8.length c8)) rfl 26 zeroQ (XP.out.other (bk_new1 y8 _ _ _) (by omega)) quSize rfl (quC_one _ rfl) ?_; intro y10 hM hP; have hb : Below y8.heap.size y8 y10 := hP.below (XP.out.below (stepB (S2.below_new y8 _) (S2.below_new _ _)) (Nat.le_refl _)) (by omega); have E7_y10 : Hid (BK 34 y10 y8.heap.size (enX (fe 0) a7 c7)) := Lib.hid (hP.other XM.out (by omega)); have Q8_y10 : Hid (BK 26 y10 (y8.heap.size + 1) (quC S0 ((k : Int) + 1) (.slice A8 ys8.length c8))) := Lib.hid hM; have B_y10 : Hid (Below w.heap.size w y10) := Lib.hid (stepB B_y8.out hb); have S_y10 : Hid (BK 23 y10 gS (spC S0)) := Lib.hid (S_y8.out.step hb); have L8_y10 : Hid (EI y10 y10.heap.size A8 ys8) := Lib.hid (LI.step L8_y8.out hb); clear hM hP hb XM XP B_y8 S_y8 L8_y8)
      obtain ⟨g7, hg7⟩ : ∃ b, b = y8.heap.size := ⟨_, rfl⟩
      obtain ⟨g8, hg8⟩ : ∃ b, b = y8.heap.size + 1 := ⟨_, rfl⟩
      rw [← hg8] at Q8_y10
      have HG78 : Hid (gS < g8 ∧ g7 ≠ g8 ∧ w.heap.size ≤ g8) := Lib.hid (by have h1 := HSW.out; have h2 := HW8.out; omega)
      rw [← hg7] at E7_y10
      try rw [← hg8]
      try rw [← hg7]
      clear hg7 hg8 HSW HW8
      go_cut [10] from 52 to 57 (fun s10 wx => s10 = .int .i64 0 ∧ CutQ w g8 S0 ((k : Int) + 1 + 1) (fuP k) wx ∧ BK 23 wx gS (spC S0) ∧ BK 34 wx g7 (enX (fe 0) a7 c7))
      case first =>
        obtain ⟨y11, hy11⟩ : ∃ y11, y11 = World.drew y10 := ⟨_, rfl⟩
        have hbD : Below y10.heap.size y10 y11 := by rw [hy11]; exact (Below.refl _ _).drew
        have B_y11 : Hid (Below w.heap.size w y11) := Lib.hid (stepB B_y10.out hbD)
        have S_y11 : Hid (BK 23 y11 gS (spC S0)) := Lib.hid (S_y10.out.step hbD)
        have L8_y11 : Hid (EI y11 y11.heap.size A8 ys8) := Lib.hid (LI.step L8_y10.out hbD)
        have E7_y11 : Hid (BK 34 y11 g7 (enX (fe 0) a7 c7)) := Lib.hid (E7_y10.out.step hbD)
        have Q8_y11 : Hid (BK 26 y11 g8 (quC S0 ((k : Int) + 1) (.slice A8 ys8.length c8))) := Lib.hid (Q8_y10.out.step hbD)
        clear B_y10 S_y10 L8_y10 E7_y10 Q8_y10
        have hbd : (fun w' => Below w.heap.size w w') (World.drew y10) := by rw [← hy11]; exact B_y11.out
        have hSD : (fun w' => Below w.heap.size w w') y11 := B_y11.out
        have HWD := Lib.hid hy11
        clear hy11 hbD
        refine wp_region_held_drew (S := fun w' => Below w.heap.size w w') (by kernel_rfl) hbd (fun hHeld => ?_)
        rw [← HWD.out]
        clear hHeld
        have hHeld := hSD
        clear hSD hbd HWD
        refine wpAnyH_ready (rs := [0, 1]) (by kernel_rfl) (by simp) ?_
        refine (AllReadyH.cons (get_ops _ _ _ rfl) (fun K hK => ?_) (AllReadyH.cons (get_ops _ _ _ rfl) (fun K hK => ?_) AllReadyH.nil))
        · refine wp_load2 26 _ rfl ⟨g8, 0, none⟩ (by first | rfl | go_simp) (.agg (quC S0 ((k : Int) + 1) (.slice A8 ys8.length c8)).toArray) (load_qu Q8_y11.out) ?_
          clear hHeld
          refine hK.out _ _ B_y11.out (fun hHeld => ?_)
          clear hK K
          try simp only [Act.put, List.setIfInBounds_toArray, List.set_cons_zero, List.set_cons_succ]
          refine wpAnyH_ready (rs := [1]) (by kernel_rfl) (by simp) ?_
          refine (AllReadyH.cons (get_ops _ _ _ rfl) (fun K hK => ?_) AllReadyH.nil)
          go_simp
          refine (HMS.out 0 y11).mono ?_
          rintro e y12 ⟨rfl, hb⟩
          have B_y12 : Hid (Below w.heap.size w y12) := Lib.hid (stepB B_y11.out hb)
          have S_y12 : Hid (BK 23 y12 gS (spC S0)) := Lib.hid (S_y11.out.step hb)
          have L8_y12 : Hid (EI y12 y12.heap.size A8 ys8) := Lib.hid (LI.step L8_y11.out hb)
          have E7_y12 : Hid (BK 34 y12 g7 (enX (fe 0) a7 c7)) := Lib.hid (E7_y11.out.step hb)
          have Q8_y12 : Hid (BK 26 y12 g8 (quC S0 ((k : Int) + 1) (.slice A8 ys8.length c8))) := Lib.hid (Q8_y11.out.step hb)
          clear B_y11 S_y11 L8_y11 E7_y11 Q8_y11
          clear hHeld hb
          go_wp2_with fail
          refine hK.out _ _ B_y12.out (fun hHeld => ?_)
          clear hK K
          try simp only [Act.put, List.setIfInBounds_toArray, List.set_cons_zero, List.set_cons_succ]
          refine wpAnyH_ready (rs := [2]) (by kernel_rfl) (by simp) ?_
          refine (AllReadyH.cons (get_ops _ _ _ rfl) (fun K hK => ?_) AllReadyH.nil)
          have HB9 : Hid (g8 < y12.heap.size) := Lib.hid Q8_y12.out.lt
          go_simp
          refine ((fPush0 HM1.out (by have := HM.out; omega) HK100.out A8 c8 ys8 y12 (HO.out.step B_y12.out) L8_y12.out HY8.out)).mono ?_
          rintro e y13 ⟨v9, ys9, rfl, hys9, hL9, hb⟩
          have B_y13 : Hid (Below w.heap.size w y13) := Lib.hid (stepB B_y12.out hb)
          have S_y13 : Hid (BK 23 y13 gS (spC S0)) := Lib.hid (S_y12.out.step hb)
          have L8_y13 : Hid (EI y13 y13.heap.size A8 ys8) := Lib.hid (LI.step L8_y12.out hb)
          have E7_y13 : Hid (BK 34 y13 g7 (enX (fe 0) a7 c7)) := Lib.hid (E7_y12.out.step hb)
          have Q8_y13 : Hid (BK 26 y13 g8 (quC S0 ((k : Int) + 1) (.slice A8 ys8.length c8))) := Lib.hid (Q8_y12.out.step hb)
          clear B_y12 S_y12 L8_y12 E7_y12 Q8_y12
          obtain ⟨A9, c9, rfl, hc9, hen9⟩ := LN.of gE_len hL9
          have HY9 := Lib.hid hys9
          have HC9 := Lib.hid hc9
          have L9_y13 : Hid (EN y13 y12.heap.size A9 ys9) := Lib.hid hen9
          clear hL9 hen9 hys9 hc9
          clear L8_y13
          clear hHeld hb
          go_wp2_with fail
          refine hK.out _ _ B_y13.out (fun hHeld => ?_)
          clear hK K
          try simp only [Act.put, List.setIfInBounds_toArray, List.set_cons_zero, List.set_cons_succ]
          refine wpAnyH_take (i := 3) (v := (.tuple #[quV S0 ((k : Int) + 1 + 1) (.slice A9 ys9.length c9), .int .i64 0])) (get_ops _ _ _ rfl) (by kernel_rfl) (by kernel_rfl) (by kernel_rfl) (fun _ _ _ h => h) (Or.inl ⟨by rfl, fun wS hSw => by (try dsimp only at hSw); go_simp⟩) hHeld ?_
          try simp only [Act.put, List.setIfInBounds_toArray, List.set_cons_zero, List.set_cons_succ]
          refine wpAnyH_take (i := 4) (v := (quV S0 ((k : Int) + 1 + 1) (.slice A9 ys9.length c9))) (get_ops _ _ _ rfl) (by kernel_rfl) (by kernel_rfl) (by kernel_rfl) (fun _ _ _ h => h) (Or.inl ⟨by rfl, fun wS hSw => by (try dsimp only at hSw); go_simp⟩) hHeld ?_
          try simp only [Act.put, List.setIfInBounds_toArray, List.set_cons_zero, List.set_cons_succ]
          refine wpAnyH_take (i := 5) (v := (.int .i64 0)) (get_ops _ _ _ rfl) (by kernel_rfl) (by kernel_rfl) (by kernel_rfl) (fun _ _ _ h => h) (Or.inl ⟨by rfl, fun wS hSw => by (try dsimp only at hSw); go_simp⟩) hHeld ?_
          try simp only [Act.put, List.setIfInBounds_toArray, List.set_cons_zero, List.set_cons_succ]
          refine wpAnyH_ready (rs := [6]) (by kernel_rfl) (by simp) ?_
          refine (AllReadyH.cons (get_ops _ _ _ rfl) (fun K hK => ?_) AllReadyH.nil)
          refine S2.wp_store_all 26 _ _ rfl rfl g8 (by go_simp) (quC S0 ((k : Int) + 1 + 1) (.slice A9 ys9.length c9)) (by first | rfl | go_simp) 26 _ Q8_y13.out quSize rfl (quC_one _ rfl) ?_
          intro y14 hM hP
          have Q8_y14 : Hid (BK 26 y14 g8 (quC S0 ((k : Int) + 1 + 1) (.slice A9 ys9.length c9))) := Lib.hid (hM)
          have B_y14 : Hid (Below w.heap.size w y14) := Lib.hid (hP.below B_y13.out HG78.out.2.2)
          have S_y14 : Hid (BK 23 y14 gS (spC S0)) := Lib.hid (hP.other S_y13.out (Nat.ne_of_lt HG78.out.1))
          have E7_y14 : Hid (BK 34 y14 g7 (enX (fe 0) a7 c7)) := Lib.hid (hP.other E7_y13.out HG78.out.2.1)
          have L9_y14 : Hid (EN y14 y12.heap.size A9 ys9) := Lib.hid (LN.put L9_y13.out hP HB9.out)
          clear B_y13 S_y13 E7_y13 Q8_y13 L9_y13
          clear hM hP hHeld
          refine hK.out _ _ B_y14.out (fun hHeld => ?_)
          clear hK K
          try simp only [Act.put, List.setIfInBounds_toArray, List.set_cons_zero, List.set_cons_succ]
          refine wpAnyH_take (i := 7) (v := (.int .i64 0)) (get_ops _ _ _ rfl) (by kernel_rfl) (by kernel_rfl) (by kernel_rfl) (fun _ _ _ h => h) (Or.inl ⟨by rfl, fun wS hSw => by (try dsimp only at hSw); go_simp⟩) hHeld ?_
          try simp only [Act.put, List.setIfInBounds_toArray, List.set_cons_zero, List.set_cons_succ]
          refine wpAnyH_done (by kernel_rfl) ?_ _
          go_wp2_with fail
          go_meet
          exact ⟨rfl, ⟨y12.heap.size, A9, c9, ys9, Q8_y14.out, L9_y14.out, HB9.out, HC9.out, HY9.out, B_y14.out⟩, S_y14.out, E7_y14.out⟩
        · go_simp
          refine (HMS.out 0 y11).mono ?_
          rintro e y12 ⟨rfl, hb⟩
          have B_y12 : Hid (Below w.heap.size w y12) := Lib.hid (stepB B_y11.out hb)
          have S_y12 : Hid (BK 23 y12 gS (spC S0)) := Lib.hid (S_y11.out.step hb)
          have L8_y12 : Hid (EI y12 y12.heap.size A8 ys8) := Lib.hid (LI.step L8_y11.out hb)
          have E7_y12 : Hid (BK 34 y12 g7 (enX (fe 0) a7 c7)) := Lib.hid (E7_y11.out.step hb)
          have Q8_y12 : Hid (BK 26 y12 g8 (quC S0 ((k : Int) + 1) (.slice A8 ys8.length c8))) := Lib.hid (Q8_y11.out.step hb)
          clear B_y11 S_y11 L8_y11 E7_y11 Q8_y11
          clear hHeld hb
          go_wp2_with fail
          refine hK.out _ _ B_y12.out (fun hHeld => ?_)
          clear hK K
          try simp only [Act.put, List.setIfInBounds_toArray, List.set_cons_zero, List.set_cons_succ]
          refine wpAnyH_ready (rs := [0]) (by kernel_rfl) (by simp) ?_
          refine (AllReadyH.cons (get_ops _ _ _ rfl) (fun K hK => ?_) AllReadyH.nil)
          refine wp_load2 26 _ rfl ⟨g8, 0, none⟩ (by first | rfl | go_simp) (.agg (quC S0 ((k : Int) + 1) (.slice A8 ys8.length c8)).toArray) (load_qu Q8_y12.out) ?_
          clear hHeld
          refine hK.out _ _ B_y12.out (fun hHeld => ?_)
          clear hK K
          try simp only [Act.put, List.setIfInBounds_toArray, List.set_cons_zero, List.set_cons_succ]
          refine wpAnyH_ready (rs := [2]) (by kernel_rfl) (by simp) ?_
          refine (AllReadyH.cons (get_ops _ _ _ rfl) (fun K hK => ?_) AllReadyH.nil)
          have HB9 : Hid (g8 < y12.heap.size) := Lib.hid Q8_y12.out.lt
          go_simp
          refine ((fPush0 HM1.out (by have := HM.out; omega) HK100.out A8 c8 ys8 y12 (HO.out.step B_y12.out) L8_y12.out HY8.out)).mono ?_
          rintro e y13 ⟨v9, ys9, rfl, hys9, hL9, hb⟩
          have B_y13 : Hid (Below w.heap.size w y13) := Lib.hid (stepB B_y12.out hb)
          have S_y13 : Hid (BK 23 y13 gS (spC S0)) := Lib.hid (S_y12.out.step hb)
          have L8_y13 : Hid (EI y13 y13.heap.size A8 ys8) := Lib.hid (LI.step L8_y12.out hb)
          have E7_y13 : Hid (BK 34 y13 g7 (enX (fe 0) a7 c7)) := Lib.hid (E7_y12.out.step hb)
          have Q8_y13 : Hid (BK 26 y13 g8 (quC S0 ((k : Int) + 1) (.slice A8 ys8.length c8))) := Lib.hid (Q8_y12.out.step hb)
          clear B_y12 S_y12 L8_y12 E7_y12 Q8_y12
          obtain ⟨A9, c9, rfl, hc9, hen9⟩ := LN.of gE_len hL9
          have HY9 := Lib.hid hys9
          have HC9 := Lib.hid hc9
          have L9_y13 : Hid (EN y13 y12.heap.size A9 ys9) := Lib.hid hen9
          clear hL9 hen9 hys9 hc9
          clear L8_y13
          clear hHeld hb
          go_wp2_with fail
          refine hK.out _ _ B_y13.out (fun hHeld => ?_)
          clear hK K
          try simp only [Act.put, List.setIfInBounds_toArray, List.set_cons_zero, List.set_cons_succ]
          refine wpAnyH_take (i := 3) (v := (.tuple #[quV S0 ((k : Int) + 1 + 1) (.slice A9 ys9.length c9), .int .i64 0])) (get_ops _ _ _ rfl) (by kernel_rfl) (by kernel_rfl) (by kernel_rfl) (fun _ _ _ h => h) (Or.inl ⟨by rfl, fun wS hSw => by (try dsimp only at hSw); go_simp⟩) hHeld ?_
          try simp only [Act.put, List.setIfInBounds_toArray, List.set_cons_zero, List.set_cons_succ]
          refine wpAnyH_take (i := 4) (v := (quV S0 ((k : Int) + 1 + 1) (.slice A9 ys9.length c9))) (get_ops _ _ _ rfl) (by kernel_rfl) (by kernel_rfl) (by kernel_rfl) (fun _ _ _ h => h) (Or.inl ⟨by rfl, fun wS hSw => by (try dsimp only at hSw); go_simp⟩) hHeld ?_
          try simp only [Act.put, List.setIfInBounds_toArray, List.set_cons_zero, List.set_cons_succ]
          refine wpAnyH_take (i := 5) (v := (.int .i64 0)) (get_ops _ _ _ rfl) (by kernel_rfl) (by kernel_rfl) (by kernel_rfl) (fun _ _ _ h => h) (Or.inl ⟨by rfl, fun wS hSw => by (try dsimp only at hSw); go_simp⟩) hHeld ?_
          try simp only [Act.put, List.setIfInBounds_toArray, List.set_cons_zero, List.set_cons_succ]
          refine wpAnyH_ready (rs := [6]) (by kernel_rfl) (by simp) ?_
          refine (AllReadyH.cons (get_ops _ _ _ rfl) (fun K hK => ?_) AllReadyH.nil)
          refine S2.wp_store_all 26 _ _ rfl rfl g8 (by go_simp) (quC S0 ((k : Int) + 1 + 1) (.slice A9 ys9.length c9)) (by first | rfl | go_simp) 26 _ Q8_y13.out quSize rfl (quC_one _ rfl) ?_
          intro y14 hM hP
          have Q8_y14 : Hid (BK 26 y14 g8 (quC S0 ((k : Int) + 1 + 1) (.slice A9 ys9.length c9))) := Lib.hid (hM)
          have B_y14 : Hid (Below w.heap.size w y14) := Lib.hid (hP.below B_y13.out HG78.out.2.2)
          have S_y14 : Hid (BK 23 y14 gS (spC S0)) := Lib.hid (hP.other S_y13.out (Nat.ne_of_lt HG78.out.1))
          have E7_y14 : Hid (BK 34 y14 g7 (enX (fe 0) a7 c7)) := Lib.hid (hP.other E7_y13.out HG78.out.2.1)
          have L9_y14 : Hid (EN y14 y12.heap.size A9 ys9) := Lib.hid (LN.put L9_y13.out hP HB9.out)
          clear B_y13 S_y13 E7_y13 Q8_y13 L9_y13
          clear hM hP hHeld
          refine hK.out _ _ B_y14.out (fun hHeld => ?_)
          clear hK K
          try simp only [Act.put, List.setIfInBounds_toArray, List.set_cons_zero, List.set_cons_succ]
          refine wpAnyH_take (i := 7) (v := (.int .i64 0)) (get_ops _ _ _ rfl) (by kernel_rfl) (by kernel_rfl) (by kernel_rfl) (fun _ _ _ h => h) (Or.inl ⟨by rfl, fun wS hSw => by (try dsimp only at hSw); go_simp⟩) hHeld ?_
          try simp only [Act.put, List.setIfInBounds_toArray, List.set_cons_zero, List.set_cons_succ]
          refine wpAnyH_done (by kernel_rfl) ?_ _
          go_wp2_with fail
          go_meet
          exact ⟨rfl, ⟨y12.heap.size, A9, c9, ys9, Q8_y14.out, L9_y14.out, HB9.out, HC9.out, HY9.out, B_y14.out⟩, S_y14.out, E7_y14.out⟩
      case rest =>
      rename World => W12
      obtain ⟨rfl, ⟨N9, A9, c9, ys9, hq, hl, hlt, hc, hys, hbb⟩, hS, hE⟩ := hcut
      have Q8_W12 := Lib.hid hq
      have L9_W12 : Hid (EI W12 W12.heap.size A9 ys9) := Lib.hid hl.1
      have HY9 := Lib.hid hys
      have B_W12 := Lib.hid hbb
      have S_W12 := Lib.hid hS
      have E7_W12 := Lib.hid hE
      clear hq hl hlt hc hys hbb hS hE B_y10 S_y10 L8_y10 E7_y10 Q8_y10
      go_upto_region 13 with fail
      have B0 := Lib.hid (Below.refl W12.heap.size W12)
      go_cut [11, 12] from 58 to 63 (fun sa sb wx => sb = .int .i64 6 ∧ Below W12.heap.size W12 wx)
      case first =>
        have C_W12 := B0
        have HTQ : Hid (g8 < W12.heap.size) := Lib.hid Q8_W12.out.lt
        obtain ⟨y12, hy12⟩ : ∃ y12, y12 = World.drew W12 := ⟨_, rfl⟩
        have hbD : Below W12.heap.size W12 y12 := by rw [hy12]; exact (Below.refl _ _).drew
        have B_y12 : Hid (Below w.heap.size w y12) := Lib.hid (stepB B_W12.out hbD)
        have S_y12 : Hid (BK 23 y12 gS (spC S0)) := Lib.hid (S_W12.out.step hbD)
        have E7_y12 : Hid (BK 34 y12 g7 (enX (fe 0) a7 c7)) := Lib.hid (E7_W12.out.step hbD)
        have Q8_y12 : Hid (BK 26 y12 g8 (quC S0 ((k : Int) + 1 + 1) (.slice A9 ys9.length c9))) := Lib.hid (Q8_W12.out.step hbD)
        have L9_y12 : Hid (EI y12 y12.heap.size A9 ys9) := Lib.hid (LI.step L9_W12.out hbD)
        have C_y12 : Hid (Below W12.heap.size W12 y12) := Lib.hid (stepB C_W12.out hbD)
        clear B_W12 S_W12 E7_W12 Q8_W12 L9_W12 C_W12
        have hbd : (fun w' => BK 26 w' g8 (quC S0 ((k : Int) + 1 + 1) (.slice A9 ys9.length c9))) (World.drew W12) := by rw [← hy12]; exact Q8_y12.out
        have hSD : (fun w' => BK 26 w' g8 (quC S0 ((k : Int) + 1 + 1) (.slice A9 ys9.length c9))) y12 := Q8_y12.out
        have HWD := Lib.hid hy12
        clear hy12 hbD
        refine wp_region_held_drew (S := fun w' => BK 26 w' g8 (quC S0 ((k : Int) + 1 + 1) (.slice A9 ys9.length c9))) (by kernel_rfl) hbd (fun hHeld => ?_)
        rw [← HWD.out]
        clear hHeld
        have hHeld := hSD
        clear hSD hbd HWD
        refine wpAnyH_take (i := 0) (v := (.agg (quC S0 ((k : Int) + 1 + 1) (.slice A9 ys9.length c9)).toArray)) (get_ops _ _ _ rfl) (by kernel_rfl) (by kernel_rfl) (by kernel_rfl) (fun _ _ _ h => h) (Or.inl ⟨by rfl, fun wS hSw => by (try dsimp only at hSw); exact exec_load 26 _ rfl ⟨g8, 0, none⟩ (by go_simp) _ (load_qu hSw)⟩) hHeld ?_
        try simp only [Act.put, List.setIfInBounds_toArray, List.set_cons_zero, List.set_cons_succ]
        refine wpAnyH_ready (rs := [1, 6]) (by kernel_rfl) (by simp) ?_
        refine (AllReadyH.cons (get_ops _ _ _ rfl) (fun K hK => ?_) (AllReadyH.cons (get_ops _ _ _ rfl) (fun K hK => ?_) AllReadyH.nil))
        · go_simp
          refine (HMS.out 0 y12).mono ?_
          rintro e y13 ⟨rfl, hb⟩
          have B_y13 : Hid (Below w.heap.size w y13) := Lib.hid (stepB B_y12.out hb)
          have S_y13 : Hid (BK 23 y13 gS (spC S0)) := Lib.hid (S_y12.out.step hb)
          have E7_y13 : Hid (BK 34 y13 g7 (enX (fe 0) a7 c7)) := Lib.hid (E7_y12.out.step hb)
          have Q8_y13 : Hid (BK 26 y13 g8 (quC S0 ((k : Int) + 1 + 1) (.slice A9 ys9.length c9))) := Lib.hid (Q8_y12.out.step hb)
          have L9_y13 : Hid (EI y13 y13.heap.size A9 ys9) := Lib.hid (LI.step L9_y12.out hb)
          have C_y13 : Hid (Below W12.heap.size W12 y13) := Lib.hid (stepB C_y12.out hb)
          clear B_y12 S_y12 E7_y12 Q8_y12 L9_y12 C_y12
          clear hHeld hb
          go_wp2_with fail
          refine hK.out _ _ Q8_y13.out (fun hHeld => ?_)
          clear hK K
          try simp only [Act.put, List.setIfInBounds_toArray, List.set_cons_zero, List.set_cons_succ]
          refine wpAnyH_ready (rs := [2, 6]) (by kernel_rfl) (by simp) ?_
          refine (AllReadyH.cons (get_ops _ _ _ rfl) (fun K hK => ?_) (AllReadyH.cons (get_ops _ _ _ rfl) (fun K hK => ?_) AllReadyH.nil))
          · go_simp
            refine ((fPush6 HM1.out (by have := HM.out; omega) HK100.out A9 c9 ys9 y13 (HO.out.step B_y13.out) L9_y13.out HY9.out)).mono ?_
            rintro e y14 ⟨v13, ys13, rfl, hys13, hL13, hb⟩
            have B_y14 : Hid (Below w.heap.size w y14) := Lib.hid (stepB B_y13.out hb)
            have S_y14 : Hid (BK 23 y14 gS (spC S0)) := Lib.hid (S_y13.out.step hb)
            have E7_y14 : Hid (BK 34 y14 g7 (enX (fe 0) a7 c7)) := Lib.hid (E7_y13.out.step hb)
            have Q8_y14 : Hid (BK 26 y14 g8 (quC S0 ((k : Int) + 1 + 1) (.slice A9 ys9.length c9))) := Lib.hid (Q8_y13.out.step hb)
            have L9_y14 : Hid (EI y14 y14.heap.size A9 ys9) := Lib.hid (LI.step L9_y13.out hb)
            have C_y14 : Hid (Below W12.heap.size W12 y14) := Lib.hid (stepB C_y13.out hb)
            clear B_y13 S_y13 E7_y13 Q8_y13 L9_y13 C_y13
            obtain ⟨A13, c13, rfl, _⟩ := hL13.ret gE_len
            clear hL13 hys13
            clear hHeld hb
            go_wp2_with fail
            refine hK.out _ _ Q8_y14.out (fun hHeld => ?_)
            clear hK K
            try simp only [Act.put, List.setIfInBounds_toArray, List.set_cons_zero, List.set_cons_succ]
            refine wpAnyH_take (i := 3) (v := (.tuple #[quV Sp.zero 0 (.slice A13 ys13.length c13), .int .i64 6])) (get_ops _ _ _ rfl) (by kernel_rfl) (by kernel_rfl) (by kernel_rfl) (fun _ _ _ h => h) (Or.inl ⟨by rfl, fun wS hSw => by (try dsimp only at hSw); go_simp⟩) hHeld ?_
            try simp only [Act.put, List.setIfInBounds_toArray, List.set_cons_zero, List.set_cons_succ]
            refine wpAnyH_take (i := 4) (v := (quV Sp.zero 0 (.slice A13 ys13.length c13))) (get_ops _ _ _ rfl) (by kernel_rfl) (by kernel_rfl) (by kernel_rfl) (fun _ _ _ h => h) (Or.inl ⟨by rfl, fun wS hSw => by (try dsimp only at hSw); go_simp⟩) hHeld ?_
            try simp only [Act.put, List.setIfInBounds_toArray, List.set_cons_zero, List.set_cons_succ]
            refine wpAnyH_take (i := 5) (v := (.int .i64 6)) (get_ops _ _ _ rfl) (by kernel_rfl) (by kernel_rfl) (by kernel_rfl) (fun _ _ _ h => h) (Or.inl ⟨by rfl, fun wS hSw => by (try dsimp only at hSw); go_simp⟩) hHeld ?_
            try simp only [Act.put, List.setIfInBounds_toArray, List.set_cons_zero, List.set_cons_succ]
            refine wpAnyH_ready (rs := [6]) (by kernel_rfl) (by simp) ?_
            refine (AllReadyH.cons (get_ops _ _ _ rfl) (fun K hK => ?_) AllReadyH.nil)
            have HT0 : Hid (W12.heap.size ≤ y14.heap.size) := Lib.hid C_y14.out.size
            go_simp
            obtain ⟨y15, hy15⟩ : ∃ y15, y15 = y14.alloc (.cells ([.string ⟨#[]⟩, .int .i64 0, .int .i64 0, .int .i64 0, .string ⟨#[]⟩, .int .i64 0, .slice none 0 0] : List Value).toArray 26) := ⟨_, rfl⟩
            have hb : Below y14.heap.size y14 y15 := by rw [hy15]; exact S2.below_new _ _
            have hN : BK 26 y15 (y14.heap.size) ([.string ⟨#[]⟩, .int .i64 0, .int .i64 0, .int .i64 0, .string ⟨#[]⟩, .int .i64 0, .slice none 0 0] : List Value) := by rw [hy15]; exact BK.new _ _ _
            have B_y15 : Hid (Below w.heap.size w y15) := Lib.hid (stepB B_y14.out hb)
            have S_y15 : Hid (BK 23 y15 gS (spC S0)) := Lib.hid (S_y14.out.step hb)
            have E7_y15 : Hid (BK 34 y15 g7 (enX (fe 0) a7 c7)) := Lib.hid (E7_y14.out.step hb)
            have Q8_y15 : Hid (BK 26 y15 g8 (quC S0 ((k : Int) + 1 + 1) (.slice A9 ys9.length c9))) := Lib.hid (Q8_y14.out.step hb)
            have L9_y15 : Hid (EI y15 y15.heap.size A9 ys9) := Lib.hid (LI.step L9_y14.out hb)
            have C_y15 : Hid (Below W12.heap.size W12 y15) := Lib.hid (stepB C_y14.out hb)
            clear B_y14 S_y14 E7_y14 Q8_y14 L9_y14 C_y14
            have T_y15 := Lib.hid hN
            try rw [← hy15]
            clear hHeld hb hN hy15
            refine hK.out _ _ Q8_y15.out (fun hHeld => ?_)
            clear hK K
            try simp only [Act.put, List.setIfInBounds_toArray, List.set_cons_zero, List.set_cons_succ]
            refine wpAnyH_ready (rs := [7]) (by kernel_rfl) (by simp) ?_
            refine (AllReadyH.cons (get_ops _ _ _ rfl) (fun K hK => ?_) AllReadyH.nil)
            refine S2.wp_store_all 26 _ _ rfl rfl (y14.heap.size) (by go_simp) (quC Sp.zero 0 (.slice A13 ys13.length c13)) (by first | rfl | go_simp) 26 _ T_y15.out quSize rfl (quC_one _ rfl) ?_
            intro y16 hM hP
            have T_y16 : Hid (BK 26 y16 (y14.heap.size) (quC Sp.zero 0 (.slice A13 ys13.length c13))) := Lib.hid (hM)
            have Q8_y16 : Hid (BK 26 y16 g8 (quC S0 ((k : Int) + 1 + 1) (.slice A9 ys9.length c9))) := Lib.hid (hP.other Q8_y15.out (by have h1 := HT0.out; have h2 := HTQ.out; omega))
            have C_y16 : Hid (Below W12.heap.size W12 y16) := Lib.hid (hP.below C_y15.out HT0.out)
            clear B_y15 S_y15 E7_y15 Q8_y15 L9_y15 C_y15 T_y15
            clear hM hP hHeld
            refine hK.out _ _ Q8_y16.out (fun hHeld => ?_)
            clear hK K
            try simp only [Act.put, List.setIfInBounds_toArray, List.set_cons_zero, List.set_cons_succ]
            refine wpAnyH_take (i := 8) (v := (.int .i64 6)) (get_ops _ _ _ rfl) (by kernel_rfl) (by kernel_rfl) (by kernel_rfl) (fun _ _ _ h => h) (Or.inl ⟨by rfl, fun wS hSw => by (try dsimp only at hSw); go_simp⟩) hHeld ?_
            try simp only [Act.put, List.setIfInBounds_toArray, List.set_cons_zero, List.set_cons_succ]
            refine wpAnyH_done (by kernel_rfl) ?_ _
            go_wp2_with fail
            go_meet
            exact ⟨rfl, C_y16.out⟩
          · have HT0 : Hid (W12.heap.size ≤ y13.heap.size) := Lib.hid C_y13.out.size
            go_simp
            obtain ⟨y14, hy14⟩ : ∃ y14, y14 = y13.alloc (.cells ([.string ⟨#[]⟩, .int .i64 0, .int .i64 0, .int .i64 0, .string ⟨#[]⟩, .int .i64 0, .slice none 0 0] : List Value).toArray 26) := ⟨_, rfl⟩
            have hb : Below y13.heap.size y13 y14 := by rw [hy14]; exact S2.below_new _ _
            have hN : BK 26 y14 (y13.heap.size) ([.string ⟨#[]⟩, .int .i64 0, .int .i64 0, .int .i64 0, .string ⟨#[]⟩, .int .i64 0, .slice none 0 0] : List Value) := by rw [hy14]; exact BK.new _ _ _
            have B_y14 : Hid (Below w.heap.size w y14) := Lib.hid (stepB B_y13.out hb)
            have S_y14 : Hid (BK 23 y14 gS (spC S0)) := Lib.hid (S_y13.out.step hb)
            have E7_y14 : Hid (BK 34 y14 g7 (enX (fe 0) a7 c7)) := Lib.hid (E7_y13.out.step hb)
            have Q8_y14 : Hid (BK 26 y14 g8 (quC S0 ((k : Int) + 1 + 1) (.slice A9 ys9.length c9))) := Lib.hid (Q8_y13.out.step hb)
            have L9_y14 : Hid (EI y14 y14.heap.size A9 ys9) := Lib.hid (LI.step L9_y13.out hb)
            have C_y14 : Hid (Below W12.heap.size W12 y14) := Lib.hid (stepB C_y13.out hb)
            clear B_y13 S_y13 E7_y13 Q8_y13 L9_y13 C_y13
            have T_y14 := Lib.hid hN
            try rw [← hy14]
            clear hHeld hb hN hy14
            refine hK.out _ _ Q8_y14.out (fun hHeld => ?_)
            clear hK K
            try simp only [Act.put, List.setIfInBounds_toArray, List.set_cons_zero, List.set_cons_succ]
            refine wpAnyH_ready (rs := [2]) (by kernel_rfl) (by simp) ?_
            refine (AllReadyH.cons (get_ops _ _ _ rfl) (fun K hK => ?_) AllReadyH.nil)
            go_simp
            refine ((fPush6 HM1.out (by have := HM.out; omega) HK100.out A9 c9 ys9 y14 (HO.out.step B_y14.out) L9_y14.out HY9.out)).mono ?_
            rintro e y15 ⟨v13, ys13, rfl, hys13, hL13, hb⟩
            have B_y15 : Hid (Below w.heap.size w y15) := Lib.hid (stepB B_y14.out hb)
            have S_y15 : Hid (BK 23 y15 gS (spC S0)) := Lib.hid (S_y14.out.step hb)
            have E7_y15 : Hid (BK 34 y15 g7 (enX (fe 0) a7 c7)) := Lib.hid (E7_y14.out.step hb)
            have Q8_y15 : Hid (BK 26 y15 g8 (quC S0 ((k : Int) + 1 + 1) (.slice A9 ys9.length c9))) := Lib.hid (Q8_y14.out.step hb)
            have L9_y15 : Hid (EI y15 y15.heap.size A9 ys9) := Lib.hid (LI.step L9_y14.out hb)
            have C_y15 : Hid (Below W12.heap.size W12 y15) := Lib.hid (stepB C_y14.out hb)
            have T_y15 : Hid (BK 26 y15 (y13.heap.size) ([.string ⟨#[]⟩, .int .i64 0, .int .i64 0, .int .i64 0, .string ⟨#[]⟩, .int .i64 0, .slice none 0 0] : List Value)) := Lib.hid (T_y14.out.step hb)
            clear B_y14 S_y14 E7_y14 Q8_y14 L9_y14 C_y14 T_y14
            obtain ⟨A13, c13, rfl, _⟩ := hL13.ret gE_len
            clear hL13 hys13
            clear hHeld hb
            go_wp2_with fail
            refine hK.out _ _ Q8_y15.out (fun hHeld => ?_)
            clear hK K
            try simp only [Act.put, List.setIfInBounds_toArray, List.set_cons_zero, List.set_cons_succ]
            refine wpAnyH_take (i := 3) (v := (.tuple #[quV Sp.zero 0 (.slice A13 ys13.length c13), .int .i64 6])) (get_ops _ _ _ rfl) (by kernel_rfl) (by kernel_rfl) (by kernel_rfl) (fun _ _ _ h => h) (Or.inl ⟨by rfl, fun wS hSw => by (try dsimp only at hSw); go_simp⟩) hHeld ?_
            try simp only [Act.put, List.setIfInBounds_toArray, List.set_cons_zero, List.set_cons_succ]
            refine wpAnyH_take (i := 4) (v := (quV Sp.zero 0 (.slice A13 ys13.length c13))) (get_ops _ _ _ rfl) (by kernel_rfl) (by kernel_rfl) (by kernel_rfl) (fun _ _ _ h => h) (Or.inl ⟨by rfl, fun wS hSw => by (try dsimp only at hSw); go_simp⟩) hHeld ?_
            try simp only [Act.put, List.setIfInBounds_toArray, List.set_cons_zero, List.set_cons_succ]
            refine wpAnyH_take (i := 5) (v := (.int .i64 6)) (get_ops _ _ _ rfl) (by kernel_rfl) (by kernel_rfl) (by kernel_rfl) (fun _ _ _ h => h) (Or.inl ⟨by rfl, fun wS hSw => by (try dsimp only at hSw); go_simp⟩) hHeld ?_
            try simp only [Act.put, List.setIfInBounds_toArray, List.set_cons_zero, List.set_cons_succ]
            refine wpAnyH_ready (rs := [7]) (by kernel_rfl) (by simp) ?_
            refine (AllReadyH.cons (get_ops _ _ _ rfl) (fun K hK => ?_) AllReadyH.nil)
            refine S2.wp_store_all 26 _ _ rfl rfl (y13.heap.size) (by go_simp) (quC Sp.zero 0 (.slice A13 ys13.length c13)) (by first | rfl | go_simp) 26 _ T_y15.out quSize rfl (quC_one _ rfl) ?_
            intro y16 hM hP
            have T_y16 : Hid (BK 26 y16 (y13.heap.size) (quC Sp.zero 0 (.slice A13 ys13.length c13))) := Lib.hid (hM)
            have Q8_y16 : Hid (BK 26 y16 g8 (quC S0 ((k : Int) + 1 + 1) (.slice A9 ys9.length c9))) := Lib.hid (hP.other Q8_y15.out (by have h1 := HT0.out; have h2 := HTQ.out; omega))
            have C_y16 : Hid (Below W12.heap.size W12 y16) := Lib.hid (hP.below C_y15.out HT0.out)
            clear B_y15 S_y15 E7_y15 Q8_y15 L9_y15 C_y15 T_y15
            clear hM hP hHeld
            refine hK.out _ _ Q8_y16.out (fun hHeld => ?_)
            clear hK K
            try simp only [Act.put, List.setIfInBounds_toArray, List.set_cons_zero, List.set_cons_succ]
            refine wpAnyH_take (i := 8) (v := (.int .i64 6)) (get_ops _ _ _ rfl) (by kernel_rfl) (by kernel_rfl) (by kernel_rfl) (fun _ _ _ h => h) (Or.inl ⟨by rfl, fun wS hSw => by (try dsimp only at hSw); go_simp⟩) hHeld ?_
            try simp only [Act.put, List.setIfInBounds_toArray, List.set_cons_zero, List.set_cons_succ]
            refine wpAnyH_done (by kernel_rfl) ?_ _
            go_wp2_with fail
            go_meet
            exact ⟨rfl, C_y16.out⟩
        · have HT0 : Hid (W12.heap.size ≤ y12.heap.size) := Lib.hid C_y12.out.size
          go_simp
          obtain ⟨y13, hy13⟩ : ∃ y13, y13 = y12.alloc (.cells ([.string ⟨#[]⟩, .int .i64 0, .int .i64 0, .int .i64 0, .string ⟨#[]⟩, .int .i64 0, .slice none 0 0] : List Value).toArray 26) := ⟨_, rfl⟩
          have hb : Below y12.heap.size y12 y13 := by rw [hy13]; exact S2.below_new _ _
          have hN : BK 26 y13 (y12.heap.size) ([.string ⟨#[]⟩, .int .i64 0, .int .i64 0, .int .i64 0, .string ⟨#[]⟩, .int .i64 0, .slice none 0 0] : List Value) := by rw [hy13]; exact BK.new _ _ _
          have B_y13 : Hid (Below w.heap.size w y13) := Lib.hid (stepB B_y12.out hb)
          have S_y13 : Hid (BK 23 y13 gS (spC S0)) := Lib.hid (S_y12.out.step hb)
          have E7_y13 : Hid (BK 34 y13 g7 (enX (fe 0) a7 c7)) := Lib.hid (E7_y12.out.step hb)
          have Q8_y13 : Hid (BK 26 y13 g8 (quC S0 ((k : Int) + 1 + 1) (.slice A9 ys9.length c9))) := Lib.hid (Q8_y12.out.step hb)
          have L9_y13 : Hid (EI y13 y13.heap.size A9 ys9) := Lib.hid (LI.step L9_y12.out hb)
          have C_y13 : Hid (Below W12.heap.size W12 y13) := Lib.hid (stepB C_y12.out hb)
          clear B_y12 S_y12 E7_y12 Q8_y12 L9_y12 C_y12
          have T_y13 := Lib.hid hN
          try rw [← hy13]
          clear hHeld hb hN hy13
          refine hK.out _ _ Q8_y13.out (fun hHeld => ?_)
          clear hK K
          try simp only [Act.put, List.setIfInBounds_toArray, List.set_cons_zero, List.set_cons_succ]
          refine wpAnyH_ready (rs := [1]) (by kernel_rfl) (by simp) ?_
          refine (AllReadyH.cons (get_ops _ _ _ rfl) (fun K hK => ?_) AllReadyH.nil)
          go_simp
          refine (HMS.out 0 y13).mono ?_
          rintro e y14 ⟨rfl, hb⟩
          have B_y14 : Hid (Below w.heap.size w y14) := Lib.hid (stepB B_y13.out hb)
          have S_y14 : Hid (BK 23 y14 gS (spC S0)) := Lib.hid (S_y13.out.step hb)
          have E7_y14 : Hid (BK 34 y14 g7 (enX (fe 0) a7 c7)) := Lib.hid (E7_y13.out.step hb)
          have Q8_y14 : Hid (BK 26 y14 g8 (quC S0 ((k : Int) + 1 + 1) (.slice A9 ys9.length c9))) := Lib.hid (Q8_y13.out.step hb)
          have L9_y14 : Hid (EI y14 y14.heap.size A9 ys9) := Lib.hid (LI.step L9_y13.out hb)
          have C_y14 : Hid (Below W12.heap.size W12 y14) := Lib.hid (stepB C_y13.out hb)
          have T_y14 : Hid (BK 26 y14 (y12.heap.size) ([.string ⟨#[]⟩, .int .i64 0, .int .i64 0, .int .i64 0, .string ⟨#[]⟩, .int .i64 0, .slice none 0 0] : List Value)) := Lib.hid (T_y13.out.step hb)
          clear B_y13 S_y13 E7_y13 Q8_y13 L9_y13 C_y13 T_y13
          clear hHeld hb
          go_wp2_with fail
          refine hK.out _ _ Q8_y14.out (fun hHeld => ?_)
          clear hK K
          try simp only [Act.put, List.setIfInBounds_toArray, List.set_cons_zero, List.set_cons_succ]
          refine wpAnyH_ready (rs := [2]) (by kernel_rfl) (by simp) ?_
          refine (AllReadyH.cons (get_ops _ _ _ rfl) (fun K hK => ?_) AllReadyH.nil)
          go_simp
          refine ((fPush6 HM1.out (by have := HM.out; omega) HK100.out A9 c9 ys9 y14 (HO.out.step B_y14.out) L9_y14.out HY9.out)).mono ?_
          rintro e y15 ⟨v13, ys13, rfl, hys13, hL13, hb⟩
          have B_y15 : Hid (Below w.heap.size w y15) := Lib.hid (stepB B_y14.out hb)
          have S_y15 : Hid (BK 23 y15 gS (spC S0)) := Lib.hid (S_y14.out.step hb)
          have E7_y15 : Hid (BK 34 y15 g7 (enX (fe 0) a7 c7)) := Lib.hid (E7_y14.out.step hb)
          have Q8_y15 : Hid (BK 26 y15 g8 (quC S0 ((k : Int) + 1 + 1) (.slice A9 ys9.length c9))) := Lib.hid (Q8_y14.out.step hb)
          have L9_y15 : Hid (EI y15 y15.heap.size A9 ys9) := Lib.hid (LI.step L9_y14.out hb)
          have C_y15 : Hid (Below W12.heap.size W12 y15) := Lib.hid (stepB C_y14.out hb)
          have T_y15 : Hid (BK 26 y15 (y12.heap.size) ([.string ⟨#[]⟩, .int .i64 0, .int .i64 0, .int .i64 0, .string ⟨#[]⟩, .int .i64 0, .slice none 0 0] : List Value)) := Lib.hid (T_y14.out.step hb)
          clear B_y14 S_y14 E7_y14 Q8_y14 L9_y14 C_y14 T_y14
          obtain ⟨A13, c13, rfl, _⟩ := hL13.ret gE_len
          clear hL13 hys13
          clear hHeld hb
          go_wp2_with fail
          refine hK.out _ _ Q8_y15.out (fun hHeld => ?_)
          clear hK K
          try simp only [Act.put, List.setIfInBounds_toArray, List.set_cons_zero, List.set_cons_succ]
          refine wpAnyH_take (i := 3) (v := (.tuple #[quV Sp.zero 0 (.slice A13 ys13.length c13), .int .i64 6])) (get_ops _ _ _ rfl) (by kernel_rfl) (by kernel_rfl) (by kernel_rfl) (fun _ _ _ h => h) (Or.inl ⟨by rfl, fun wS hSw => by (try dsimp only at hSw); go_simp⟩) hHeld ?_
          try simp only [Act.put, List.setIfInBounds_toArray, List.set_cons_zero, List.set_cons_succ]
          refine wpAnyH_take (i := 4) (v := (quV Sp.zero 0 (.slice A13 ys13.length c13))) (get_ops _ _ _ rfl) (by kernel_rfl) (by kernel_rfl) (by kernel_rfl) (fun _ _ _ h => h) (Or.inl ⟨by rfl, fun wS hSw => by (try dsimp only at hSw); go_simp⟩) hHeld ?_
          try simp only [Act.put, List.setIfInBounds_toArray, List.set_cons_zero, List.set_cons_succ]
          refine wpAnyH_take (i := 5) (v := (.int .i64 6)) (get_ops _ _ _ rfl) (by kernel_rfl) (by kernel_rfl) (by kernel_rfl) (fun _ _ _ h => h) (Or.inl ⟨by rfl, fun wS hSw => by (try dsimp only at hSw); go_simp⟩) hHeld ?_
          try simp only [Act.put, List.setIfInBounds_toArray, List.set_cons_zero, List.set_cons_succ]
          refine wpAnyH_ready (rs := [7]) (by kernel_rfl) (by simp) ?_
          refine (AllReadyH.cons (get_ops _ _ _ rfl) (fun K hK => ?_) AllReadyH.nil)
          refine S2.wp_store_all 26 _ _ rfl rfl (y12.heap.size) (by go_simp) (quC Sp.zero 0 (.slice A13 ys13.length c13)) (by first | rfl | go_simp) 26 _ T_y15.out quSize rfl (quC_one _ rfl) ?_
          intro y16 hM hP
          have T_y16 : Hid (BK 26 y16 (y12.heap.size) (quC Sp.zero 0 (.slice A13 ys13.length c13))) := Lib.hid (hM)
          have Q8_y16 : Hid (BK 26 y16 g8 (quC S0 ((k : Int) + 1 + 1) (.slice A9 ys9.length c9))) := Lib.hid (hP.other Q8_y15.out (by have h1 := HT0.out; have h2 := HTQ.out; omega))
          have C_y16 : Hid (Below W12.heap.size W12 y16) := Lib.hid (hP.below C_y15.out HT0.out)
          clear B_y15 S_y15 E7_y15 Q8_y15 L9_y15 C_y15 T_y15
          clear hM hP hHeld
          refine hK.out _ _ Q8_y16.out (fun hHeld => ?_)
          clear hK K
          try simp only [Act.put, List.setIfInBounds_toArray, List.set_cons_zero, List.set_cons_succ]
          refine wpAnyH_take (i := 8) (v := (.int .i64 6)) (get_ops _ _ _ rfl) (by kernel_rfl) (by kernel_rfl) (by kernel_rfl) (fun _ _ _ h => h) (Or.inl ⟨by rfl, fun wS hSw => by (try dsimp only at hSw); go_simp⟩) hHeld ?_
          try simp only [Act.put, List.setIfInBounds_toArray, List.set_cons_zero, List.set_cons_succ]
          refine wpAnyH_done (by kernel_rfl) ?_ _
          go_wp2_with fail
          go_meet
          exact ⟨rfl, C_y16.out⟩
      case rest =>
      rename World => W13
      obtain ⟨rfl, hb⟩ := hcut
      clear B0
      have B_W13 : Hid (Below w.heap.size w W13) := Lib.hid (stepB B_W12.out hb)
      have S_W13 : Hid (BK 23 W13 gS (spC S0)) := Lib.hid (S_W12.out.step hb)
      have E7_W13 : Hid (BK 34 W13 g7 (enX (fe 0) a7 c7)) := Lib.hid (E7_W12.out.step hb)
      have Q8_W13 : Hid (BK 26 W13 g8 (quC S0 ((k : Int) + 1 + 1) (.slice A9 ys9.length c9))) := Lib.hid (Q8_W12.out.step hb)
      have L9_W13 : Hid (EI W13 W13.heap.size A9 ys9) := Lib.hid (LI.step L9_W12.out hb)
      clear B_W12 S_W12 E7_W12 Q8_W12 L9_W12
      clear hb
      go_upto_region 14 with fail
      go_wp2_with first
        | (refine wpList_load_v (by rfl) 26 (.tmp 8) rfl ⟨g8, 0, none⟩ rfl (.agg (quC S0 ((k : Int) + 1 + 1) (.slice A9 ys9.length c9)).toArray) (load_qu Q8_W13.out) ?_)
        | (refine wpList_load_v (by rfl) 34 (.tmp 7) rfl ⟨g7, 0, none⟩ rfl (.agg (enX (fe 0) a7 c7).toArray) (load_en0 E7_W13.out) ?_)
      refine ((fRet HM1.out HK100.out A9 c9 ys9 a7 c7 W13 (HO.out.step B_W13.out) L9_W13.out HY9.out)).mono ?_
      rintro e y13 ⟨v14, ys14, rfl, hys14, hL14, hb⟩
      have B_y13 : Hid (Below w.heap.size w y13) := Lib.hid (stepB B_W13.out hb)
      have S_y13 : Hid (BK 23 y13 gS (spC S0)) := Lib.hid (S_W13.out.step hb)
      have E7_y13 : Hid (BK 34 y13 g7 (enX (fe 0) a7 c7)) := Lib.hid (E7_W13.out.step hb)
      have Q8_y13 : Hid (BK 26 y13 g8 (quC S0 ((k : Int) + 1 + 1) (.slice A9 ys9.length c9))) := Lib.hid (Q8_W13.out.step hb)
      have L9_y13 : Hid (EI y13 y13.heap.size A9 ys9) := Lib.hid (LI.step L9_W13.out hb)
      clear B_W13 S_W13 E7_W13 Q8_W13 L9_W13
      obtain ⟨A14, c14, rfl, _⟩ := hL14.ret gE_len
      have HL14 : Hid ((ys14.length : Int) = (k : Int) + 1) := Lib.hid (by rw [len_map hys14, insQ_len, fuP_len HM1.out]; rfl)
      clear hL14 hys14
      clear hb
      go_upto_region 15 with first
        | (refine S2.wpList_store_all (by rfl) 26 (.tmp 13) (.tmp 68) rfl rfl (y13.heap.size) rfl (quC S0 ((k : Int) + 1 + 1) (.slice A14 ys14.length c14)) rfl 26 _ (BK.new y13 _ _) quSize rfl (ones rfl) ?_; intro y14 hM hP; have hb : Below y13.heap.size y13 y14 := hP.below (S2.below_new y13 _) (Nat.le_refl _); have B_y14 : Hid (Below w.heap.size w y14) := Lib.hid (stepB B_y13.out hb); have S_y14 : Hid (BK 23 y14 gS (spC S0)) := Lib.hid (S_y13.out.step hb); have E7_y14 : Hid (BK 34 y14 g7 (enX (fe 0) a7 c7)) := Lib.hid (E7_y13.out.step hb); have Q8_y14 : Hid (BK 26 y14 g8 (quC S0 ((k : Int) + 1 + 1) (.slice A9 ys9.length c9))) := Lib.hid (Q8_y13.out.step hb); have L9_y14 : Hid (EI y14 y14.heap.size A9 ys9) := Lib.hid (LI.step L9_y13.out hb); have Q13_y14 : Hid (BK 26 y14 (y13.heap.size) (quC S0 ((k : Int) + 1 + 1) (.slice A14 ys14.length c14))) := Lib.hid hM; clear hM hP hb B_y13 S_y13 E7_y13 Q8_y13 L9_y13)
      obtain ⟨gQ13, hgQ13⟩ : ∃ gQ13, gQ13 = y13.heap.size := ⟨_, rfl⟩
      rw [← hgQ13] at Q13_y14
      try rw [← hgQ13]
      clear hgQ13
      clear E7_y14 Q8_y14 L9_y14
      go_upto_region 16 with first
        | (refine wpList_load_v (by rfl) 23 (.tmp 1) rfl ⟨gS, 0, none⟩ rfl (.agg (spC S0).toArray) (load_sp S_y14.out) ?_)
        | (refine S2.wpList_store_all (by rfl) 26 (.tmp 15) (.tmp 71) rfl rfl (y14.heap.size) rfl (quC S0 1099511627776 (.slice none 0 0)) rfl 26 _ (BK.new y14 _ _) quSize rfl (ones rfl) ?_; intro y15 hM hP; have hb : Below y14.heap.size y14 y15 := hP.below (S2.below_new y14 _) (Nat.le_refl _); have B_y15 : Hid (Below w.heap.size w y15) := Lib.hid (stepB B_y14.out hb); have S_y15 : Hid (BK 23 y15 gS (spC S0)) := Lib.hid (S_y14.out.step hb); have Q13_y15 : Hid (BK 26 y15 gQ13 (quC S0 ((k : Int) + 1 + 1) (.slice A14 ys14.length c14))) := Lib.hid (Q13_y14.out.step hb); have Q15_y15 : Hid (BK 26 y15 (y14.heap.size) (quC S0 1099511627776 (.slice none 0 0))) := Lib.hid hM; clear hM hP hb B_y14 S_y14 Q13_y14)
      obtain ⟨gQ15, hgQ15⟩ : ∃ gQ15, gQ15 = y14.heap.size := ⟨_, rfl⟩
      rw [← hgQ15] at Q15_y15
      try rw [← hgQ15]
      clear hgQ15
      have B0 := Lib.hid (Below.refl y15.heap.size y15)
      go_cut [16, 17] from 72 to 77 (fun sa sb wx => sb = .int .i64 6 ∧ Below y15.heap.size y15 wx)
      case first =>
        have C_y15 := B0
        have HTQ : Hid (gQ15 < y15.heap.size) := Lib.hid Q15_y15.out.lt
        obtain ⟨y16, hy16⟩ : ∃ y16, y16 = World.drew y15 := ⟨_, rfl⟩
        have hbD : Below y15.heap.size y15 y16 := by rw [hy16]; exact (Below.refl _ _).drew
        have B_y16 : Hid (Below w.heap.size w y16) := Lib.hid (stepB B_y15.out hbD)
        have S_y16 : Hid (BK 23 y16 gS (spC S0)) := Lib.hid (S_y15.out.step hbD)
        have Q13_y16 : Hid (BK 26 y16 gQ13 (quC S0 ((k : Int) + 1 + 1) (.slice A14 ys14.length c14))) := Lib.hid (Q13_y15.out.step hbD)
        have Q15_y16 : Hid (BK 26 y16 gQ15 (quC S0 1099511627776 (.slice none 0 0))) := Lib.hid (Q15_y15.out.step hbD)
        have C_y16 : Hid (Below y15.heap.size y15 y16) := Lib.hid (stepB C_y15.out hbD)
        clear B_y15 S_y15 Q13_y15 Q15_y15 C_y15
        have hbd : (fun w' => BK 26 w' gQ15 (quC S0 1099511627776 (.slice none 0 0))) (World.drew y15) := by rw [← hy16]; exact Q15_y16.out
        have hSD : (fun w' => BK 26 w' gQ15 (quC S0 1099511627776 (.slice none 0 0))) y16 := Q15_y16.out
        have HWD := Lib.hid hy16
        clear hy16 hbD
        refine wp_region_held_drew (S := fun w' => BK 26 w' gQ15 (quC S0 1099511627776 (.slice none 0 0))) (by kernel_rfl) hbd (fun hHeld => ?_)
        rw [← HWD.out]
        clear hHeld
        have hHeld := hSD
        clear hSD hbd HWD
        refine wpAnyH_take (i := 0) (v := (.agg (quC S0 1099511627776 (.slice none 0 0)).toArray)) (get_ops _ _ _ rfl) (by kernel_rfl) (by kernel_rfl) (by kernel_rfl) (fun _ _ _ h => h) (Or.inl ⟨by rfl, fun wS hSw => by (try dsimp only at hSw); exact exec_load 26 _ rfl ⟨gQ15, 0, none⟩ (by go_simp) _ (load_qu hSw)⟩) hHeld ?_
        try simp only [Act.put, List.setIfInBounds_toArray, List.set_cons_zero, List.set_cons_succ]
        refine wpAnyH_ready (rs := [1, 6]) (by kernel_rfl) (by simp) ?_
        refine (AllReadyH.cons (get_ops _ _ _ rfl) (fun K hK => ?_) (AllReadyH.cons (get_ops _ _ _ rfl) (fun K hK => ?_) AllReadyH.nil))
        · go_simp
          refine (HMS.out 1 y16).mono ?_
          rintro e y17 ⟨rfl, hb⟩
          have B_y17 : Hid (Below w.heap.size w y17) := Lib.hid (stepB B_y16.out hb)
          have S_y17 : Hid (BK 23 y17 gS (spC S0)) := Lib.hid (S_y16.out.step hb)
          have Q13_y17 : Hid (BK 26 y17 gQ13 (quC S0 ((k : Int) + 1 + 1) (.slice A14 ys14.length c14))) := Lib.hid (Q13_y16.out.step hb)
          have Q15_y17 : Hid (BK 26 y17 gQ15 (quC S0 1099511627776 (.slice none 0 0))) := Lib.hid (Q15_y16.out.step hb)
          have C_y17 : Hid (Below y15.heap.size y15 y17) := Lib.hid (stepB C_y16.out hb)
          clear B_y16 S_y16 Q13_y16 Q15_y16 C_y16
          clear hHeld hb
          go_wp2_with fail
          refine hK.out _ _ Q15_y17.out (fun hHeld => ?_)
          clear hK K
          try simp only [Act.put, List.setIfInBounds_toArray, List.set_cons_zero, List.set_cons_succ]
          refine wpAnyH_ready (rs := [2, 6]) (by kernel_rfl) (by simp) ?_
          refine (AllReadyH.cons (get_ops _ _ _ rfl) (fun K hK => ?_) (AllReadyH.cons (get_ops _ _ _ rfl) (fun K hK => ?_) AllReadyH.nil))
          · go_simp
            refine ((fLast 0 y17 (HO.out.step B_y17.out))).mono ?_
            rintro e y18 ⟨v16, ys16, rfl, hys16, hL16, hb⟩
            have B_y18 : Hid (Below w.heap.size w y18) := Lib.hid (stepB B_y17.out hb)
            have S_y18 : Hid (BK 23 y18 gS (spC S0)) := Lib.hid (S_y17.out.step hb)
            have Q13_y18 : Hid (BK 26 y18 gQ13 (quC S0 ((k : Int) + 1 + 1) (.slice A14 ys14.length c14))) := Lib.hid (Q13_y17.out.step hb)
            have Q15_y18 : Hid (BK 26 y18 gQ15 (quC S0 1099511627776 (.slice none 0 0))) := Lib.hid (Q15_y17.out.step hb)
            have C_y18 : Hid (Below y15.heap.size y15 y18) := Lib.hid (stepB C_y17.out hb)
            clear B_y17 S_y17 Q13_y17 Q15_y17 C_y17
            obtain ⟨A16, c16, rfl, _⟩ := hL16.ret gE_len
            clear hL16 hys16
            clear hHeld hb
            go_wp2_with fail
            refine hK.out _ _ Q15_y18.out (fun hHeld => ?_)
            clear hK K
            try simp only [Act.put, List.setIfInBounds_toArray, List.set_cons_zero, List.set_cons_succ]
            refine wpAnyH_take (i := 3) (v := (.tuple #[quV Sp.zero 0 (.slice A16 ys16.length c16), .int .i64 6])) (get_ops _ _ _ rfl) (by kernel_rfl) (by kernel_rfl) (by kernel_rfl) (fun _ _ _ h => h) (Or.inl ⟨by rfl, fun wS hSw => by (try dsimp only at hSw); go_simp⟩) hHeld ?_
            try simp only [Act.put, List.setIfInBounds_toArray, List.set_cons_zero, List.set_cons_succ]
            refine wpAnyH_take (i := 4) (v := (quV Sp.zero 0 (.slice A16 ys16.length c16))) (get_ops _ _ _ rfl) (by kernel_rfl) (by kernel_rfl) (by kernel_rfl) (fun _ _ _ h => h) (Or.inl ⟨by rfl, fun wS hSw => by (try dsimp only at hSw); go_simp⟩) hHeld ?_
            try simp only [Act.put, List.setIfInBounds_toArray, List.set_cons_zero, List.set_cons_succ]
            refine wpAnyH_take (i := 5) (v := (.int .i64 6)) (get_ops _ _ _ rfl) (by kernel_rfl) (by kernel_rfl) (by kernel_rfl) (fun _ _ _ h => h) (Or.inl ⟨by rfl, fun wS hSw => by (try dsimp only at hSw); go_simp⟩) hHeld ?_
            try simp only [Act.put, List.setIfInBounds_toArray, List.set_cons_zero, List.set_cons_succ]
            refine wpAnyH_ready (rs := [6]) (by kernel_rfl) (by simp) ?_
            refine (AllReadyH.cons (get_ops _ _ _ rfl) (fun K hK => ?_) AllReadyH.nil)
            have HT0 : Hid (y15.heap.size ≤ y18.heap.size) := Lib.hid C_y18.out.size
            go_simp
            obtain ⟨y19, hy19⟩ : ∃ y19, y19 = y18.alloc (.cells ([.string ⟨#[]⟩, .int .i64 0, .int .i64 0, .int .i64 0, .string ⟨#[]⟩, .int .i64 0, .slice none 0 0] : List Value).toArray 26) := ⟨_, rfl⟩
            have hb : Below y18.heap.size y18 y19 := by rw [hy19]; exact S2.below_new _ _
            have hN : BK 26 y19 (y18.heap.size) ([.string ⟨#[]⟩, .int .i64 0, .int .i64 0, .int .i64 0, .string ⟨#[]⟩, .int .i64 0, .slice none 0 0] : List Value) := by rw [hy19]; exact BK.new _ _ _
            have B_y19 : Hid (Below w.heap.size w y19) := Lib.hid (stepB B_y18.out hb)
            have S_y19 : Hid (BK 23 y19 gS (spC S0)) := Lib.hid (S_y18.out.step hb)
            have Q13_y19 : Hid (BK 26 y19 gQ13 (quC S0 ((k : Int) + 1 + 1) (.slice A14 ys14.length c14))) := Lib.hid (Q13_y18.out.step hb)
            have Q15_y19 : Hid (BK 26 y19 gQ15 (quC S0 1099511627776 (.slice none 0 0))) := Lib.hid (Q15_y18.out.step hb)
            have C_y19 : Hid (Below y15.heap.size y15 y19) := Lib.hid (stepB C_y18.out hb)
            clear B_y18 S_y18 Q13_y18 Q15_y18 C_y18
            have T_y19 := Lib.hid hN
            try rw [← hy19]
            clear hHeld hb hN hy19
            refine hK.out _ _ Q15_y19.out (fun hHeld => ?_)
            clear hK K
            try simp only [Act.put, List.setIfInBounds_toArray, List.set_cons_zero, List.set_cons_succ]
            refine wpAnyH_ready (rs := [7]) (by kernel_rfl) (by simp) ?_
            refine (AllReadyH.cons (get_ops _ _ _ rfl) (fun K hK => ?_) AllReadyH.nil)
            refine S2.wp_store_all 26 _ _ rfl rfl (y18.heap.size) (by go_simp) (quC Sp.zero 0 (.slice A16 ys16.length c16)) (by first | rfl | go_simp) 26 _ T_y19.out quSize rfl (quC_one _ rfl) ?_
            intro y20 hM hP
            have T_y20 : Hid (BK 26 y20 (y18.heap.size) (quC Sp.zero 0 (.slice A16 ys16.length c16))) := Lib.hid (hM)
            have Q15_y20 : Hid (BK 26 y20 gQ15 (quC S0 1099511627776 (.slice none 0 0))) := Lib.hid (hP.other Q15_y19.out (by have h1 := HT0.out; have h2 := HTQ.out; omega))
            have C_y20 : Hid (Below y15.heap.size y15 y20) := Lib.hid (hP.below C_y19.out HT0.out)
            clear B_y19 S_y19 Q13_y19 Q15_y19 C_y19 T_y19
            clear hM hP hHeld
            refine hK.out _ _ Q15_y20.out (fun hHeld => ?_)
            clear hK K
            try simp only [Act.put, List.setIfInBounds_toArray, List.set_cons_zero, List.set_cons_succ]
            refine wpAnyH_take (i := 8) (v := (.int .i64 6)) (get_ops _ _ _ rfl) (by kernel_rfl) (by kernel_rfl) (by kernel_rfl) (fun _ _ _ h => h) (Or.inl ⟨by rfl, fun wS hSw => by (try dsimp only at hSw); go_simp⟩) hHeld ?_
            try simp only [Act.put, List.setIfInBounds_toArray, List.set_cons_zero, List.set_cons_succ]
            refine wpAnyH_done (by kernel_rfl) ?_ _
            go_wp2_with fail
            go_meet
            exact ⟨rfl, C_y20.out⟩
          · have HT0 : Hid (y15.heap.size ≤ y17.heap.size) := Lib.hid C_y17.out.size
            go_simp
            obtain ⟨y18, hy18⟩ : ∃ y18, y18 = y17.alloc (.cells ([.string ⟨#[]⟩, .int .i64 0, .int .i64 0, .int .i64 0, .string ⟨#[]⟩, .int .i64 0, .slice none 0 0] : List Value).toArray 26) := ⟨_, rfl⟩
            have hb : Below y17.heap.size y17 y18 := by rw [hy18]; exact S2.below_new _ _
            have hN : BK 26 y18 (y17.heap.size) ([.string ⟨#[]⟩, .int .i64 0, .int .i64 0, .int .i64 0, .string ⟨#[]⟩, .int .i64 0, .slice none 0 0] : List Value) := by rw [hy18]; exact BK.new _ _ _
            have B_y18 : Hid (Below w.heap.size w y18) := Lib.hid (stepB B_y17.out hb)
            have S_y18 : Hid (BK 23 y18 gS (spC S0)) := Lib.hid (S_y17.out.step hb)
            have Q13_y18 : Hid (BK 26 y18 gQ13 (quC S0 ((k : Int) + 1 + 1) (.slice A14 ys14.length c14))) := Lib.hid (Q13_y17.out.step hb)
            have Q15_y18 : Hid (BK 26 y18 gQ15 (quC S0 1099511627776 (.slice none 0 0))) := Lib.hid (Q15_y17.out.step hb)
            have C_y18 : Hid (Below y15.heap.size y15 y18) := Lib.hid (stepB C_y17.out hb)
            clear B_y17 S_y17 Q13_y17 Q15_y17 C_y17
            have T_y18 := Lib.hid hN
            try rw [← hy18]
            clear hHeld hb hN hy18
            refine hK.out _ _ Q15_y18.out (fun hHeld => ?_)
            clear hK K
            try simp only [Act.put, List.setIfInBounds_toArray, List.set_cons_zero, List.set_cons_succ]
            refine wpAnyH_ready (rs := [2]) (by kernel_rfl) (by simp) ?_
            refine (AllReadyH.cons (get_ops _ _ _ rfl) (fun K hK => ?_) AllReadyH.nil)
            go_simp
            refine ((fLast 0 y18 (HO.out.step B_y18.out))).mono ?_
            rintro e y19 ⟨v16, ys16, rfl, hys16, hL16, hb⟩
            have B_y19 : Hid (Below w.heap.size w y19) := Lib.hid (stepB B_y18.out hb)
            have S_y19 : Hid (BK 23 y19 gS (spC S0)) := Lib.hid (S_y18.out.step hb)
            have Q13_y19 : Hid (BK 26 y19 gQ13 (quC S0 ((k : Int) + 1 + 1) (.slice A14 ys14.length c14))) := Lib.hid (Q13_y18.out.step hb)
            have Q15_y19 : Hid (BK 26 y19 gQ15 (quC S0 1099511627776 (.slice none 0 0))) := Lib.hid (Q15_y18.out.step hb)
            have C_y19 : Hid (Below y15.heap.size y15 y19) := Lib.hid (stepB C_y18.out hb)
            have T_y19 : Hid (BK 26 y19 (y17.heap.size) ([.string ⟨#[]⟩, .int .i64 0, .int .i64 0, .int .i64 0, .string ⟨#[]⟩, .int .i64 0, .slice none 0 0] : List Value)) := Lib.hid (T_y18.out.step hb)
            clear B_y18 S_y18 Q13_y18 Q15_y18 C_y18 T_y18
            obtain ⟨A16, c16, rfl, _⟩ := hL16.ret gE_len
            clear hL16 hys16
            clear hHeld hb
            go_wp2_with fail
            refine hK.out _ _ Q15_y19.out (fun hHeld => ?_)
            clear hK K
            try simp only [Act.put, List.setIfInBounds_toArray, List.set_cons_zero, List.set_cons_succ]
            refine wpAnyH_take (i := 3) (v := (.tuple #[quV Sp.zero 0 (.slice A16 ys16.length c16), .int .i64 6])) (get_ops _ _ _ rfl) (by kernel_rfl) (by kernel_rfl) (by kernel_rfl) (fun _ _ _ h => h) (Or.inl ⟨by rfl, fun wS hSw => by (try dsimp only at hSw); go_simp⟩) hHeld ?_
            try simp only [Act.put, List.setIfInBounds_toArray, List.set_cons_zero, List.set_cons_succ]
            refine wpAnyH_take (i := 4) (v := (quV Sp.zero 0 (.slice A16 ys16.length c16))) (get_ops _ _ _ rfl) (by kernel_rfl) (by kernel_rfl) (by kernel_rfl) (fun _ _ _ h => h) (Or.inl ⟨by rfl, fun wS hSw => by (try dsimp only at hSw); go_simp⟩) hHeld ?_
            try simp only [Act.put, List.setIfInBounds_toArray, List.set_cons_zero, List.set_cons_succ]
            refine wpAnyH_take (i := 5) (v := (.int .i64 6)) (get_ops _ _ _ rfl) (by kernel_rfl) (by kernel_rfl) (by kernel_rfl) (fun _ _ _ h => h) (Or.inl ⟨by rfl, fun wS hSw => by (try dsimp only at hSw); go_simp⟩) hHeld ?_
            try simp only [Act.put, List.setIfInBounds_toArray, List.set_cons_zero, List.set_cons_succ]
            refine wpAnyH_ready (rs := [7]) (by kernel_rfl) (by simp) ?_
            refine (AllReadyH.cons (get_ops _ _ _ rfl) (fun K hK => ?_) AllReadyH.nil)
            refine S2.wp_store_all 26 _ _ rfl rfl (y17.heap.size) (by go_simp) (quC Sp.zero 0 (.slice A16 ys16.length c16)) (by first | rfl | go_simp) 26 _ T_y19.out quSize rfl (quC_one _ rfl) ?_
            intro y20 hM hP
            have T_y20 : Hid (BK 26 y20 (y17.heap.size) (quC Sp.zero 0 (.slice A16 ys16.length c16))) := Lib.hid (hM)
            have Q15_y20 : Hid (BK 26 y20 gQ15 (quC S0 1099511627776 (.slice none 0 0))) := Lib.hid (hP.other Q15_y19.out (by have h1 := HT0.out; have h2 := HTQ.out; omega))
            have C_y20 : Hid (Below y15.heap.size y15 y20) := Lib.hid (hP.below C_y19.out HT0.out)
            clear B_y19 S_y19 Q13_y19 Q15_y19 C_y19 T_y19
            clear hM hP hHeld
            refine hK.out _ _ Q15_y20.out (fun hHeld => ?_)
            clear hK K
            try simp only [Act.put, List.setIfInBounds_toArray, List.set_cons_zero, List.set_cons_succ]
            refine wpAnyH_take (i := 8) (v := (.int .i64 6)) (get_ops _ _ _ rfl) (by kernel_rfl) (by kernel_rfl) (by kernel_rfl) (fun _ _ _ h => h) (Or.inl ⟨by rfl, fun wS hSw => by (try dsimp only at hSw); go_simp⟩) hHeld ?_
            try simp only [Act.put, List.setIfInBounds_toArray, List.set_cons_zero, List.set_cons_succ]
            refine wpAnyH_done (by kernel_rfl) ?_ _
            go_wp2_with fail
            go_meet
            exact ⟨rfl, C_y20.out⟩
        · have HT0 : Hid (y15.heap.size ≤ y16.heap.size) := Lib.hid C_y16.out.size
          go_simp
          obtain ⟨y17, hy17⟩ : ∃ y17, y17 = y16.alloc (.cells ([.string ⟨#[]⟩, .int .i64 0, .int .i64 0, .int .i64 0, .string ⟨#[]⟩, .int .i64 0, .slice none 0 0] : List Value).toArray 26) := ⟨_, rfl⟩
          have hb : Below y16.heap.size y16 y17 := by rw [hy17]; exact S2.below_new _ _
          have hN : BK 26 y17 (y16.heap.size) ([.string ⟨#[]⟩, .int .i64 0, .int .i64 0, .int .i64 0, .string ⟨#[]⟩, .int .i64 0, .slice none 0 0] : List Value) := by rw [hy17]; exact BK.new _ _ _
          have B_y17 : Hid (Below w.heap.size w y17) := Lib.hid (stepB B_y16.out hb)
          have S_y17 : Hid (BK 23 y17 gS (spC S0)) := Lib.hid (S_y16.out.step hb)
          have Q13_y17 : Hid (BK 26 y17 gQ13 (quC S0 ((k : Int) + 1 + 1) (.slice A14 ys14.length c14))) := Lib.hid (Q13_y16.out.step hb)
          have Q15_y17 : Hid (BK 26 y17 gQ15 (quC S0 1099511627776 (.slice none 0 0))) := Lib.hid (Q15_y16.out.step hb)
          have C_y17 : Hid (Below y15.heap.size y15 y17) := Lib.hid (stepB C_y16.out hb)
          clear B_y16 S_y16 Q13_y16 Q15_y16 C_y16
          have T_y17 := Lib.hid hN
          try rw [← hy17]
          clear hHeld hb hN hy17
          refine hK.out _ _ Q15_y17.out (fun hHeld => ?_)
          clear hK K
          try simp only [Act.put, List.setIfInBounds_toArray, List.set_cons_zero, List.set_cons_succ]
          refine wpAnyH_ready (rs := [1]) (by kernel_rfl) (by simp) ?_
          refine (AllReadyH.cons (get_ops _ _ _ rfl) (fun K hK => ?_) AllReadyH.nil)
          go_simp
          refine (HMS.out 1 y17).mono ?_
          rintro e y18 ⟨rfl, hb⟩
          have B_y18 : Hid (Below w.heap.size w y18) := Lib.hid (stepB B_y17.out hb)
          have S_y18 : Hid (BK 23 y18 gS (spC S0)) := Lib.hid (S_y17.out.step hb)
          have Q13_y18 : Hid (BK 26 y18 gQ13 (quC S0 ((k : Int) + 1 + 1) (.slice A14 ys14.length c14))) := Lib.hid (Q13_y17.out.step hb)
          have Q15_y18 : Hid (BK 26 y18 gQ15 (quC S0 1099511627776 (.slice none 0 0))) := Lib.hid (Q15_y17.out.step hb)
          have C_y18 : Hid (Below y15.heap.size y15 y18) := Lib.hid (stepB C_y17.out hb)
          have T_y18 : Hid (BK 26 y18 (y16.heap.size) ([.string ⟨#[]⟩, .int .i64 0, .int .i64 0, .int .i64 0, .string ⟨#[]⟩, .int .i64 0, .slice none 0 0] : List Value)) := Lib.hid (T_y17.out.step hb)
          clear B_y17 S_y17 Q13_y17 Q15_y17 C_y17 T_y17
          clear hHeld hb
          go_wp2_with fail
          refine hK.out _ _ Q15_y18.out (fun hHeld => ?_)
          clear hK K
          try simp only [Act.put, List.setIfInBounds_toArray, List.set_cons_zero, List.set_cons_succ]
          refine wpAnyH_ready (rs := [2]) (by kernel_rfl) (by simp) ?_
          refine (AllReadyH.cons (get_ops _ _ _ rfl) (fun K hK => ?_) AllReadyH.nil)
          go_simp
          refine ((fLast 0 y18 (HO.out.step B_y18.out))).mono ?_
          rintro e y19 ⟨v16, ys16, rfl, hys16, hL16, hb⟩
          have B_y19 : Hid (Below w.heap.size w y19) := Lib.hid (stepB B_y18.out hb)
          have S_y19 : Hid (BK 23 y19 gS (spC S0)) := Lib.hid (S_y18.out.step hb)
          have Q13_y19 : Hid (BK 26 y19 gQ13 (quC S0 ((k : Int) + 1 + 1) (.slice A14 ys14.length c14))) := Lib.hid (Q13_y18.out.step hb)
          have Q15_y19 : Hid (BK 26 y19 gQ15 (quC S0 1099511627776 (.slice none 0 0))) := Lib.hid (Q15_y18.out.step hb)
          have C_y19 : Hid (Below y15.heap.size y15 y19) := Lib.hid (stepB C_y18.out hb)
          have T_y19 : Hid (BK 26 y19 (y16.heap.size) ([.string ⟨#[]⟩, .int .i64 0, .int .i64 0, .int .i64 0, .string ⟨#[]⟩, .int .i64 0, .slice none 0 0] : List Value)) := Lib.hid (T_y18.out.step hb)
          clear B_y18 S_y18 Q13_y18 Q15_y18 C_y18 T_y18
          obtain ⟨A16, c16, rfl, _⟩ := hL16.ret gE_len
          clear hL16 hys16
          clear hHeld hb
          go_wp2_with fail
          refine hK.out _ _ Q15_y19.out (fun hHeld => ?_)
          clear hK K
          try simp only [Act.put, List.setIfInBounds_toArray, List.set_cons_zero, List.set_cons_succ]
          refine wpAnyH_take (i := 3) (v := (.tuple #[quV Sp.zero 0 (.slice A16 ys16.length c16), .int .i64 6])) (get_ops _ _ _ rfl) (by kernel_rfl) (by kernel_rfl) (by kernel_rfl) (fun _ _ _ h => h) (Or.inl ⟨by rfl, fun wS hSw => by (try dsimp only at hSw); go_simp⟩) hHeld ?_
          try simp only [Act.put, List.setIfInBounds_toArray, List.set_cons_zero, List.set_cons_succ]
          refine wpAnyH_take (i := 4) (v := (quV Sp.zero 0 (.slice A16 ys16.length c16))) (get_ops _ _ _ rfl) (by kernel_rfl) (by kernel_rfl) (by kernel_rfl) (fun _ _ _ h => h) (Or.inl ⟨by rfl, fun wS hSw => by (try dsimp only at hSw); go_simp⟩) hHeld ?_
          try simp only [Act.put, List.setIfInBounds_toArray, List.set_cons_zero, List.set_cons_succ]
          refine wpAnyH_take (i := 5) (v := (.int .i64 6)) (get_ops _ _ _ rfl) (by kernel_rfl) (by kernel_rfl) (by kernel_rfl) (fun _ _ _ h => h) (Or.inl ⟨by rfl, fun wS hSw => by (try dsimp only at hSw); go_simp⟩) hHeld ?_
          try simp only [Act.put, List.setIfInBounds_toArray, List.set_cons_zero, List.set_cons_succ]
          refine wpAnyH_ready (rs := [7]) (by kernel_rfl) (by simp) ?_
          refine (AllReadyH.cons (get_ops _ _ _ rfl) (fun K hK => ?_) AllReadyH.nil)
          refine S2.wp_store_all 26 _ _ rfl rfl (y16.heap.size) (by go_simp) (quC Sp.zero 0 (.slice A16 ys16.length c16)) (by first | rfl | go_simp) 26 _ T_y19.out quSize rfl (quC_one _ rfl) ?_
          intro y20 hM hP
          have T_y20 : Hid (BK 26 y20 (y16.heap.size) (quC Sp.zero 0 (.slice A16 ys16.length c16))) := Lib.hid (hM)
          have Q15_y20 : Hid (BK 26 y20 gQ15 (quC S0 1099511627776 (.slice none 0 0))) := Lib.hid (hP.other Q15_y19.out (by have h1 := HT0.out; have h2 := HTQ.out; omega))
          have C_y20 : Hid (Below y15.heap.size y15 y20) := Lib.hid (hP.below C_y19.out HT0.out)
          clear B_y19 S_y19 Q13_y19 Q15_y19 C_y19 T_y19
          clear hM hP hHeld
          refine hK.out _ _ Q15_y20.out (fun hHeld => ?_)
          clear hK K
          try simp only [Act.put, List.setIfInBounds_toArray, List.set_cons_zero, List.set_cons_succ]
          refine wpAnyH_take (i := 8) (v := (.int .i64 6)) (get_ops _ _ _ rfl) (by kernel_rfl) (by kernel_rfl) (by kernel_rfl) (fun _ _ _ h => h) (Or.inl ⟨by rfl, fun wS hSw => by (try dsimp only at hSw); go_simp⟩) hHeld ?_
          try simp only [Act.put, List.setIfInBounds_toArray, List.set_cons_zero, List.set_cons_succ]
          refine wpAnyH_done (by kernel_rfl) ?_ _
          go_wp2_with fail
          go_meet
          exact ⟨rfl, C_y20.out⟩
      case rest =>
      rename World => W16
      obtain ⟨rfl, hb⟩ := hcut
      clear B0
      have B_W16 : Hid (Below w.heap.size w W16) := Lib.hid (stepB B_y15.out hb)
      have S_W16 : Hid (BK 23 W16 gS (spC S0)) := Lib.hid (S_y15.out.step hb)
      have Q13_W16 : Hid (BK 26 W16 gQ13 (quC S0 ((k : Int) + 1 + 1) (.slice A14 ys14.length c14))) := Lib.hid (Q13_y15.out.step hb)
      have Q15_W16 : Hid (BK 26 W16 gQ15 (quC S0 1099511627776 (.slice none 0 0))) := Lib.hid (Q15_y15.out.step hb)
      clear B_y15 S_y15 Q13_y15 Q15_y15
      clear hb
      have d6 := Q13_W16.out.cell 6 rfl
      have d1 := S_W16.out.cell 1 rfl
      have q1 : ((ys14.length : Int) == S0.max + 1) = true := by rw [HL14.out, HM.out]; simp
      have hmx : S0.max ≤ 20 := by have := HM.out; have := HM2.out; omega
      have hmn : 0 ≤ S0.max := by have := HM.out; omega
      go_wp2_with fail
      refine (HEX.out W16 (HO.out.step B_W16.out)).mono ?_
      rintro e y17 ⟨rfl, hb⟩
      have B_y17 : Hid (Below w.heap.size w y17) := Lib.hid (stepB B_W16.out hb)
      have S_y17 : Hid (BK 23 y17 gS (spC S0)) := Lib.hid (S_W16.out.step hb)
      have Q13_y17 : Hid (BK 26 y17 gQ13 (quC S0 ((k : Int) + 1 + 1) (.slice A14 ys14.length c14))) := Lib.hid (Q13_W16.out.step hb)
      have Q15_y17 : Hid (BK 26 y17 gQ15 (quC S0 1099511627776 (.slice none 0 0))) := Lib.hid (Q15_W16.out.step hb)
      clear B_W16 S_W16 Q13_W16 Q15_W16
      clear hb
      go_wp2
      go_ret
      exact ⟨rfl, B_y17.out⟩
    | succ g =>
      have hlt : k < M := by omega
      have e3 : decide ((k : Int) < S0.max) = true := decide_eq_true (by have := HM.out; omega)
      have HLT : Hid ((k : Int) < S0.max) := Lib.hid (by have := HM.out; omega)
      have HK100 : Hid (k ≤ 100) := Lib.hid (by have := HM2.out; omega)
      clear hlt
      go_upto_region 6 with fail
      clear d1 e3 hkg
      have HGW : Hid (gQ < wr.heap.size) := Lib.hid Q_wr.out.lt
      have HSW : Hid (gS < wr.heap.size) := Lib.hid S_wr.out.lt
      have HW0 : Hid (w.heap.size ≤ wr.heap.size) := Lib.hid B_wr.out.size
      have C_wr : Hid (Below wr.heap.size wr wr) := Lib.hid (Below.refl _ _)
      obtain ⟨y18, hy18⟩ : ∃ y18, y18 = World.drew wr := ⟨_, rfl⟩
      have hbD : Below wr.heap.size wr y18 := by rw [hy18]; exact (Below.refl _ _).drew
      have B_y18 : Hid (Below w.heap.size w y18) := Lib.hid (stepB B_wr.out hbD)
      have S_y18 : Hid (BK 23 y18 gS (spC S0)) := Lib.hid (S_wr.out.step hbD)
      have Q_y18 : Hid (BK 26 y18 gQ (quC S0 ((k : Int) + 1) (.slice A2 ys2.length c2))) := Lib.hid (Q_wr.out.step hbD)
      have K_y18 : Hid (EI y18 y18.heap.size A2 ys2) := Lib.hid (LI.step K_wr.out hbD)
      have C_y18 : Hid (Below wr.heap.size wr y18) := Lib.hid (stepB C_wr.out hbD)
      clear B_wr S_wr Q_wr K_wr C_wr
      have hbd : (fun w' => BK 26 w' gQ (quC S0 ((k : Int) + 1) (.slice A2 ys2.length c2))) (World.drew wr) := by rw [← hy18]; exact Q_y18.out
      have hSD : (fun w' => BK 26 w' gQ (quC S0 ((k : Int) + 1) (.slice A2 ys2.length c2))) y18 := Q_y18.out
      have HWD := Lib.hid hy18
      clear hy18 hbD
      refine wp_region_held_drew (S := fun w' => BK 26 w' gQ (quC S0 ((k : Int) + 1) (.slice A2 ys2.length c2))) (by kernel_rfl) hbd (fun hHeld => ?_)
      rw [← HWD.out]
      clear hHeld
      have hHeld := hSD
      clear hSD hbd HWD
      refine wpAnyH_take (i := 0) (v := (.agg (quC S0 ((k : Int) + 1) (.slice A2 ys2.length c2)).toArray)) (get_ops _ _ _ rfl) (by kernel_rfl) (by kernel_rfl) (by kernel_rfl) (fun _ _ _ h => h) (Or.inl ⟨by rfl, fun wS hSw => by (try dsimp only at hSw); exact exec_load 26 _ rfl ⟨gQ, 0, none⟩ (by go_simp) _ (load_qu hSw)⟩) hHeld ?_
      try simp only [Act.put, List.setIfInBounds_toArray, List.set_cons_zero, List.set_cons_succ]
      refine wpAnyH_ready (rs := [1, 6]) (by kernel_rfl) (by simp) ?_
      refine (AllReadyH.cons (get_ops _ _ _ rfl) (fun K hK => ?_) (AllReadyH.cons (get_ops _ _ _ rfl) (fun K hK => ?_) AllReadyH.nil))
      · go_simp
        refine (HMS.out 3 y18).mono ?_
        rintro e y19 ⟨rfl, hb⟩
        have B_y19 : Hid (Below w.heap.size w y19) := Lib.hid (stepB B_y18.out hb)
        have S_y19 : Hid (BK 23 y19 gS (spC S0)) := Lib.hid (S_y18.out.step hb)
        have Q_y19 : Hid (BK 26 y19 gQ (quC S0 ((k : Int) + 1) (.slice A2 ys2.length c2))) := Lib.hid (Q_y18.out.step hb)
        have K_y19 : Hid (EI y19 y19.heap.size A2 ys2) := Lib.hid (LI.step K_y18.out hb)
        have C_y19 : Hid (Below wr.heap.size wr y19) := Lib.hid (stepB C_y18.out hb)
        clear B_y18 S_y18 Q_y18 K_y18 C_y18
        clear hHeld hb
        go_wp2_with fail
        refine hK.out _ _ Q_y19.out (fun hHeld => ?_)
        clear hK K
        try simp only [Act.put, List.setIfInBounds_toArray, List.set_cons_zero, List.set_cons_succ]
        refine wpAnyH_ready (rs := [2, 6]) (by kernel_rfl) (by simp) ?_
        refine (AllReadyH.cons (get_ops _ _ _ rfl) (fun K hK => ?_) (AllReadyH.cons (get_ops _ _ _ rfl) (fun K hK => ?_) AllReadyH.nil))
        · have HB3 : Hid (wr.heap.size ≤ y19.heap.size) := Lib.hid C_y19.out.size
          go_simp
          refine ((fPush HLT.out HK100.out A2 c2 ys2 y19 (HO.out.step B_y19.out) K_y19.out HY2.out)).mono ?_
          rintro e y20 ⟨v3, ys3, rfl, hys3, hL3, hb⟩
          have B_y20 : Hid (Below w.heap.size w y20) := Lib.hid (stepB B_y19.out hb)
          have S_y20 : Hid (BK 23 y20 gS (spC S0)) := Lib.hid (S_y19.out.step hb)
          have Q_y20 : Hid (BK 26 y20 gQ (quC S0 ((k : Int) + 1) (.slice A2 ys2.length c2))) := Lib.hid (Q_y19.out.step hb)
          have K_y20 : Hid (EI y20 y20.heap.size A2 ys2) := Lib.hid (LI.step K_y19.out hb)
          have C_y20 : Hid (Below wr.heap.size wr y20) := Lib.hid (stepB C_y19.out hb)
          clear B_y19 S_y19 Q_y19 K_y19 C_y19
          obtain ⟨A3, c3, rfl, hc3, hen3⟩ := LN.of gE_len hL3
          have HY3 := Lib.hid hys3
          have HC3 := Lib.hid hc3
          have L_y20 : Hid (EM y20 y19.heap.size y20.heap.size A3 ys3) := Lib.hid (EM.of hen3)
          clear hL3 hen3 hys3 hc3
          clear K_y20
          clear hHeld hb
          go_wp2_with fail
          refine hK.out _ _ Q_y20.out (fun hHeld => ?_)
          clear hK K
          try simp only [Act.put, List.setIfInBounds_toArray, List.set_cons_zero, List.set_cons_succ]
          refine wpAnyH_take (i := 3) (v := (.tuple #[quV S0 ((k : Int) + 1 + 1) (.slice A3 ys3.length c3), .int .i64 0])) (get_ops _ _ _ rfl) (by kernel_rfl) (by kernel_rfl) (by kernel_rfl) (fun _ _ _ h => h) (Or.inl ⟨by rfl, fun wS hSw => by (try dsimp only at hSw); go_simp⟩) hHeld ?_
          try simp only [Act.put, List.setIfInBounds_toArray, List.set_cons_zero, List.set_cons_succ]
          refine wpAnyH_take (i := 4) (v := (quV S0 ((k : Int) + 1 + 1) (.slice A3 ys3.length c3))) (get_ops _ _ _ rfl) (by kernel_rfl) (by kernel_rfl) (by kernel_rfl) (fun _ _ _ h => h) (Or.inl ⟨by rfl, fun wS hSw => by (try dsimp only at hSw); go_simp⟩) hHeld ?_
          try simp only [Act.put, List.setIfInBounds_toArray, List.set_cons_zero, List.set_cons_succ]
          refine wpAnyH_take (i := 5) (v := (.int .i64 0)) (get_ops _ _ _ rfl) (by kernel_rfl) (by kernel_rfl) (by kernel_rfl) (fun _ _ _ h => h) (Or.inl ⟨by rfl, fun wS hSw => by (try dsimp only at hSw); go_simp⟩) hHeld ?_
          try simp only [Act.put, List.setIfInBounds_toArray, List.set_cons_zero, List.set_cons_succ]
          refine wpAnyH_ready (rs := [6]) (by kernel_rfl) (by simp) ?_
          refine (AllReadyH.cons (get_ops _ _ _ rfl) (fun K hK => ?_) AllReadyH.nil)
          have HRW0 : Hid (wr.heap.size ≤ y20.heap.size) := Lib.hid C_y20.out.size
          have HNL : Hid (y20.heap.size ≤ y20.heap.size) := Lib.hid L_y20.out.2.1
          go_simp
          obtain ⟨y21, hy21⟩ : ∃ y21, y21 = y20.alloc (.cells ([.string ⟨#[]⟩, .int .i64 0, .int .i64 0, .int .i64 0, .string ⟨#[]⟩, .int .i64 0, .slice none 0 0] : List Value).toArray 26) := ⟨_, rfl⟩
          have hb : Below y20.heap.size y20 y21 := by rw [hy21]; exact S2.below_new _ _
          have hN : BK 26 y21 (y20.heap.size) ([.string ⟨#[]⟩, .int .i64 0, .int .i64 0, .int .i64 0, .string ⟨#[]⟩, .int .i64 0, .slice none 0 0] : List Value) := by rw [hy21]; exact BK.new _ _ _
          have B_y21 : Hid (Below w.heap.size w y21) := Lib.hid (stepB B_y20.out hb)
          have S_y21 : Hid (BK 23 y21 gS (spC S0)) := Lib.hid (S_y20.out.step hb)
          have Q_y21 : Hid (BK 26 y21 gQ (quC S0 ((k : Int) + 1) (.slice A2 ys2.length c2))) := Lib.hid (Q_y20.out.step hb)
          have C_y21 : Hid (Below wr.heap.size wr y21) := Lib.hid (stepB C_y20.out hb)
          have L_y21 : Hid (EM y21 y19.heap.size y20.heap.size A3 ys3) := Lib.hid (EM.step L_y20.out hb)
          clear B_y20 S_y20 Q_y20 C_y20 L_y20
          have R_y21 := Lib.hid hN
          try rw [← hy21]
          clear hHeld hb hN hy21
          have HRW : Hid (wr.heap.size ≤ y20.heap.size) := Lib.hid HRW0.out
          refine hK.out _ _ Q_y21.out (fun hHeld => ?_)
          clear hK K
          try simp only [Act.put, List.setIfInBounds_toArray, List.set_cons_zero, List.set_cons_succ]
          refine wpAnyH_ready (rs := [7]) (by kernel_rfl) (by simp) ?_
          refine (AllReadyH.cons (get_ops _ _ _ rfl) (fun K hK => ?_) AllReadyH.nil)
          refine S2.wp_store_all 26 _ _ rfl rfl (y20.heap.size) (by go_simp) (quC S0 ((k : Int) + 1 + 1) (.slice A3 ys3.length c3)) (by first | rfl | go_simp) 26 _ R_y21.out quSize rfl (quC_one _ rfl) ?_
          intro y22 hM hP
          have R_y22 : Hid (BK 26 y22 (y20.heap.size) (quC S0 ((k : Int) + 1 + 1) (.slice A3 ys3.length c3))) := Lib.hid (hM)
          have B_y22 : Hid (Below w.heap.size w y22) := Lib.hid (hP.below B_y21.out (Nat.le_trans HW0.out HRW.out))
          have S_y22 : Hid (BK 23 y22 gS (spC S0)) := Lib.hid (hP.other S_y21.out (by have h1 := HSW.out; have h2 := HRW.out; omega))
          have Q_y22 : Hid (BK 26 y22 gQ (quC S0 ((k : Int) + 1) (.slice A2 ys2.length c2))) := Lib.hid (hP.other Q_y21.out (by have h1 := HGW.out; have h2 := HRW.out; omega))
          have C_y22 : Hid (Below wr.heap.size wr y22) := Lib.hid (hP.below C_y21.out HRW.out)
          have L_y22 : Hid (EM y22 y19.heap.size y20.heap.size A3 ys3) := Lib.hid (EM.put L_y21.out hP (Or.inr HNL.out))
          clear B_y21 S_y21 Q_y21 C_y21 L_y21 R_y21
          clear hM hP hHeld
          refine hK.out _ _ Q_y22.out (fun hHeld => ?_)
          clear hK K
          try simp only [Act.put, List.setIfInBounds_toArray, List.set_cons_zero, List.set_cons_succ]
          refine wpAnyH_take (i := 8) (v := (.int .i64 0)) (get_ops _ _ _ rfl) (by kernel_rfl) (by kernel_rfl) (by kernel_rfl) (fun _ _ _ h => h) (Or.inl ⟨by rfl, fun wS hSw => by (try dsimp only at hSw); go_simp⟩) hHeld ?_
          try simp only [Act.put, List.setIfInBounds_toArray, List.set_cons_zero, List.set_cons_succ]
          refine wpAnyH_done (by kernel_rfl) ?_ _
          go_wp2_with first
            | (refine wpList_load_v (by rfl) 26 (.tmp 5) rfl ⟨(y20.heap.size), 0, none⟩ rfl (.agg (quC S0 ((k : Int) + 1 + 1) (.slice A3 ys3.length c3)).toArray) (load_qu R_y22.out) ?_)
            | (refine S2.wpList_store_all (by rfl) 26 (.tmp 3) (.tmp 44) rfl rfl (gQ) rfl (quC S0 ((k : Int) + 1 + 1) (.slice A3 ys3.length c3)) rfl 26 _ Q_y22.out quSize rfl (ones rfl) ?_; intro y23 hM hP; have Q_y23 : Hid (BK 26 y23 (gQ) (quC S0 ((k : Int) + 1 + 1) (.slice A3 ys3.length c3))) := Lib.hid hM; have B_y23 : Hid (Below w.heap.size w y23) := Lib.hid (hP.below B_y22.out (by have h1 := HGQ.out; omega)); have S_y23 : Hid (BK 23 y23 gS (spC S0)) := Lib.hid (hP.other S_y22.out (by have h1 := HGSQ.out; omega)); have L_y23 : Hid (EM y23 y19.heap.size y20.heap.size A3 ys3) := Lib.hid (EM.put L_y22.out hP (Or.inl (by have h1 := HGW.out; have h2 := HB3.out; omega))); clear hM hP B_y22 S_y22 Q_y22 C_y22 L_y22 R_y22)
          go_roundg g
          case measure => omega
          case rel => exact ⟨k + 1, by have := HK.out; omega, (by have h9 := HK100.out; rw [wrap64_id _ (by omega) (by omega)]; rfl), S_y23.out, A3, c3, ys3, (by have h := Q_y23.out; rw [show ((k : Int) + 1 + 1) = (((k + 1 : Nat) : Int) + 1) by omega] at h; exact h), L_y23.out.en.1, HC3.out, HY3.out, B_y23.out⟩
        · have HRW0 : Hid (wr.heap.size ≤ y19.heap.size) := Lib.hid C_y19.out.size
          go_simp
          obtain ⟨y20, hy20⟩ : ∃ y20, y20 = y19.alloc (.cells ([.string ⟨#[]⟩, .int .i64 0, .int .i64 0, .int .i64 0, .string ⟨#[]⟩, .int .i64 0, .slice none 0 0] : List Value).toArray 26) := ⟨_, rfl⟩
          have hb : Below y19.heap.size y19 y20 := by rw [hy20]; exact S2.below_new _ _
          have hN : BK 26 y20 (y19.heap.size) ([.string ⟨#[]⟩, .int .i64 0, .int .i64 0, .int .i64 0, .string ⟨#[]⟩, .int .i64 0, .slice none 0 0] : List Value) := by rw [hy20]; exact BK.new _ _ _
          have B_y20 : Hid (Below w.heap.size w y20) := Lib.hid (stepB B_y19.out hb)
          have S_y20 : Hid (BK 23 y20 gS (spC S0)) := Lib.hid (S_y19.out.step hb)
          have Q_y20 : Hid (BK 26 y20 gQ (quC S0 ((k : Int) + 1) (.slice A2 ys2.length c2))) := Lib.hid (Q_y19.out.step hb)
          have K_y20 : Hid (EI y20 y20.heap.size A2 ys2) := Lib.hid (LI.step K_y19.out hb)
          have C_y20 : Hid (Below wr.heap.size wr y20) := Lib.hid (stepB C_y19.out hb)
          clear B_y19 S_y19 Q_y19 K_y19 C_y19
          have R_y20 := Lib.hid hN
          try rw [← hy20]
          clear hHeld hb hN hy20
          have HRW : Hid (wr.heap.size ≤ y19.heap.size) := Lib.hid HRW0.out
          refine hK.out _ _ Q_y20.out (fun hHeld => ?_)
          clear hK K
          try simp only [Act.put, List.setIfInBounds_toArray, List.set_cons_zero, List.set_cons_succ]
          refine wpAnyH_ready (rs := [2]) (by kernel_rfl) (by simp) ?_
          refine (AllReadyH.cons (get_ops _ _ _ rfl) (fun K hK => ?_) AllReadyH.nil)
          have HB3 : Hid (wr.heap.size ≤ y20.heap.size) := Lib.hid C_y20.out.size
          have HR3 : Hid ((y19.heap.size) < y20.heap.size) := Lib.hid R_y20.out.lt
          go_simp
          refine ((fPush HLT.out HK100.out A2 c2 ys2 y20 (HO.out.step B_y20.out) K_y20.out HY2.out)).mono ?_
          rintro e y21 ⟨v3, ys3, rfl, hys3, hL3, hb⟩
          have B_y21 : Hid (Below w.heap.size w y21) := Lib.hid (stepB B_y20.out hb)
          have S_y21 : Hid (BK 23 y21 gS (spC S0)) := Lib.hid (S_y20.out.step hb)
          have Q_y21 : Hid (BK 26 y21 gQ (quC S0 ((k : Int) + 1) (.slice A2 ys2.length c2))) := Lib.hid (Q_y20.out.step hb)
          have K_y21 : Hid (EI y21 y21.heap.size A2 ys2) := Lib.hid (LI.step K_y20.out hb)
          have C_y21 : Hid (Below wr.heap.size wr y21) := Lib.hid (stepB C_y20.out hb)
          have R_y21 : Hid (BK 26 y21 (y19.heap.size) ([.string ⟨#[]⟩, .int .i64 0, .int .i64 0, .int .i64 0, .string ⟨#[]⟩, .int .i64 0, .slice none 0 0] : List Value)) := Lib.hid (R_y20.out.step hb)
          clear B_y20 S_y20 Q_y20 K_y20 C_y20 R_y20
          obtain ⟨A3, c3, rfl, hc3, hen3⟩ := LN.of gE_len hL3
          have HY3 := Lib.hid hys3
          have HC3 := Lib.hid hc3
          have L_y21 : Hid (EM y21 y20.heap.size y21.heap.size A3 ys3) := Lib.hid (EM.of hen3)
          clear hL3 hen3 hys3 hc3
          clear K_y21
          clear hHeld hb
          go_wp2_with fail
          refine hK.out _ _ Q_y21.out (fun hHeld => ?_)
          clear hK K
          try simp only [Act.put, List.setIfInBounds_toArray, List.set_cons_zero, List.set_cons_succ]
          refine wpAnyH_take (i := 3) (v := (.tuple #[quV S0 ((k : Int) + 1 + 1) (.slice A3 ys3.length c3), .int .i64 0])) (get_ops _ _ _ rfl) (by kernel_rfl) (by kernel_rfl) (by kernel_rfl) (fun _ _ _ h => h) (Or.inl ⟨by rfl, fun wS hSw => by (try dsimp only at hSw); go_simp⟩) hHeld ?_
          try simp only [Act.put, List.setIfInBounds_toArray, List.set_cons_zero, List.set_cons_succ]
          refine wpAnyH_take (i := 4) (v := (quV S0 ((k : Int) + 1 + 1) (.slice A3 ys3.length c3))) (get_ops _ _ _ rfl) (by kernel_rfl) (by kernel_rfl) (by kernel_rfl) (fun _ _ _ h => h) (Or.inl ⟨by rfl, fun wS hSw => by (try dsimp only at hSw); go_simp⟩) hHeld ?_
          try simp only [Act.put, List.setIfInBounds_toArray, List.set_cons_zero, List.set_cons_succ]
          refine wpAnyH_take (i := 5) (v := (.int .i64 0)) (get_ops _ _ _ rfl) (by kernel_rfl) (by kernel_rfl) (by kernel_rfl) (fun _ _ _ h => h) (Or.inl ⟨by rfl, fun wS hSw => by (try dsimp only at hSw); go_simp⟩) hHeld ?_
          try simp only [Act.put, List.setIfInBounds_toArray, List.set_cons_zero, List.set_cons_succ]
          refine wpAnyH_ready (rs := [7]) (by kernel_rfl) (by simp) ?_
          refine (AllReadyH.cons (get_ops _ _ _ rfl) (fun K hK => ?_) AllReadyH.nil)
          refine S2.wp_store_all 26 _ _ rfl rfl (y19.heap.size) (by go_simp) (quC S0 ((k : Int) + 1 + 1) (.slice A3 ys3.length c3)) (by first | rfl | go_simp) 26 _ R_y21.out quSize rfl (quC_one _ rfl) ?_
          intro y22 hM hP
          have R_y22 : Hid (BK 26 y22 (y19.heap.size) (quC S0 ((k : Int) + 1 + 1) (.slice A3 ys3.length c3))) := Lib.hid (hM)
          have B_y22 : Hid (Below w.heap.size w y22) := Lib.hid (hP.below B_y21.out (Nat.le_trans HW0.out HRW.out))
          have S_y22 : Hid (BK 23 y22 gS (spC S0)) := Lib.hid (hP.other S_y21.out (by have h1 := HSW.out; have h2 := HRW.out; omega))
          have Q_y22 : Hid (BK 26 y22 gQ (quC S0 ((k : Int) + 1) (.slice A2 ys2.length c2))) := Lib.hid (hP.other Q_y21.out (by have h1 := HGW.out; have h2 := HRW.out; omega))
          have C_y22 : Hid (Below wr.heap.size wr y22) := Lib.hid (hP.below C_y21.out HRW.out)
          have L_y22 : Hid (EM y22 y20.heap.size y21.heap.size A3 ys3) := Lib.hid (EM.put L_y21.out hP (Or.inl HR3.out))
          clear B_y21 S_y21 Q_y21 C_y21 R_y21 L_y21
          clear hM hP hHeld
          refine hK.out _ _ Q_y22.out (fun hHeld => ?_)
          clear hK K
          try simp only [Act.put, List.setIfInBounds_toArray, List.set_cons_zero, List.set_cons_succ]
          refine wpAnyH_take (i := 8) (v := (.int .i64 0)) (get_ops _ _ _ rfl) (by kernel_rfl) (by kernel_rfl) (by kernel_rfl) (fun _ _ _ h => h) (Or.inl ⟨by rfl, fun wS hSw => by (try dsimp only at hSw); go_simp⟩) hHeld ?_
          try simp only [Act.put, List.setIfInBounds_toArray, List.set_cons_zero, List.set_cons_succ]
          refine wpAnyH_done (by kernel_rfl) ?_ _
          go_wp2_with first
            | (refine wpList_load_v (by rfl) 26 (.tmp 5) rfl ⟨(y19.heap.size), 0, none⟩ rfl (.agg (quC S0 ((k : Int) + 1 + 1) (.slice A3 ys3.length c3)).toArray) (load_qu R_y22.out) ?_)
            | (refine S2.wpList_store_all (by rfl) 26 (.tmp 3) (.tmp 44) rfl rfl (gQ) rfl (quC S0 ((k : Int) + 1 + 1) (.slice A3 ys3.length c3)) rfl 26 _ Q_y22.out quSize rfl (ones rfl) ?_; intro y23 hM hP; have Q_y23 : Hid (BK 26 y23 (gQ) (quC S0 ((k : Int) + 1 + 1) (.slice A3 ys3.length c3))) := Lib.hid hM; have B_y23 : Hid (Below w.heap.size w y23) := Lib.hid (hP.below B_y22.out (by have h1 := HGQ.out; omega)); have S_y23 : Hid (BK 23 y23 gS (spC S0)) := Lib.hid (hP.other S_y22.out (by have h1 := HGSQ.out; omega)); have L_y23 : Hid (EM y23 y20.heap.size y21.heap.size A3 ys3) := Lib.hid (EM.put L_y22.out hP (Or.inl (by have h1 := HGW.out; have h2 := HB3.out; omega))); clear hM hP B_y22 S_y22 Q_y22 C_y22 R_y22 L_y22)
          go_roundg g
          case measure => omega
          case rel => exact ⟨k + 1, by have := HK.out; omega, (by have h9 := HK100.out; rw [wrap64_id _ (by omega) (by omega)]; rfl), S_y23.out, A3, c3, ys3, (by have h := Q_y23.out; rw [show ((k : Int) + 1 + 1) = (((k + 1 : Nat) : Int) + 1) by omega] at h; exact h), L_y23.out.en.1, HC3.out, HY3.out, B_y23.out⟩
      · have HRW0 : Hid (wr.heap.size ≤ y18.heap.size) := Lib.hid C_y18.out.size
        go_simp
        obtain ⟨y19, hy19⟩ : ∃ y19, y19 = y18.alloc (.cells ([.string ⟨#[]⟩, .int .i64 0, .int .i64 0, .int .i64 0, .string ⟨#[]⟩, .int .i64 0, .slice none 0 0] : List Value).toArray 26) := ⟨_, rfl⟩
        have hb : Below y18.heap.size y18 y19 := by rw [hy19]; exact S2.below_new _ _
        have hN : BK 26 y19 (y18.heap.size) ([.string ⟨#[]⟩, .int .i64 0, .int .i64 0, .int .i64 0, .string ⟨#[]⟩, .int .i64 0, .slice none 0 0] : List Value) := by rw [hy19]; exact BK.new _ _ _
        have B_y19 : Hid (Below w.heap.size w y19) := Lib.hid (stepB B_y18.out hb)
        have S_y19 : Hid (BK 23 y19 gS (spC S0)) := Lib.hid (S_y18.out.step hb)
        have Q_y19 : Hid (BK 26 y19 gQ (quC S0 ((k : Int) + 1) (.slice A2 ys2.length c2))) := Lib.hid (Q_y18.out.step hb)
        have K_y19 : Hid (EI y19 y19.heap.size A2 ys2) := Lib.hid (LI.step K_y18.out hb)
        have C_y19 : Hid (Below wr.heap.size wr y19) := Lib.hid (stepB C_y18.out hb)
        clear B_y18 S_y18 Q_y18 K_y18 C_y18
        have R_y19 := Lib.hid hN
        try rw [← hy19]
        clear hHeld hb hN hy19
        have HRW : Hid (wr.heap.size ≤ y18.heap.size) := Lib.hid HRW0.out
        refine hK.out _ _ Q_y19.out (fun hHeld => ?_)
        clear hK K
        try simp only [Act.put, List.setIfInBounds_toArray, List.set_cons_zero, List.set_cons_succ]
        refine wpAnyH_ready (rs := [1]) (by kernel_rfl) (by simp) ?_
        refine (AllReadyH.cons (get_ops _ _ _ rfl) (fun K hK => ?_) AllReadyH.nil)
        go_simp
        refine (HMS.out 3 y19).mono ?_
        rintro e y20 ⟨rfl, hb⟩
        have B_y20 : Hid (Below w.heap.size w y20) := Lib.hid (stepB B_y19.out hb)
        have S_y20 : Hid (BK 23 y20 gS (spC S0)) := Lib.hid (S_y19.out.step hb)
        have Q_y20 : Hid (BK 26 y20 gQ (quC S0 ((k : Int) + 1) (.slice A2 ys2.length c2))) := Lib.hid (Q_y19.out.step hb)
        have K_y20 : Hid (EI y20 y20.heap.size A2 ys2) := Lib.hid (LI.step K_y19.out hb)
        have C_y20 : Hid (Below wr.heap.size wr y20) := Lib.hid (stepB C_y19.out hb)
        have R_y20 : Hid (BK 26 y20 (y18.heap.size) ([.string ⟨#[]⟩, .int .i64 0, .int .i64 0, .int .i64 0, .string ⟨#[]⟩, .int .i64 0, .slice none 0 0] : List Value)) := Lib.hid (R_y19.out.step hb)
        clear B_y19 S_y19 Q_y19 K_y19 C_y19 R_y19
        clear hHeld hb
        go_wp2_with fail
        refine hK.out _ _ Q_y20.out (fun hHeld => ?_)
        clear hK K
        try simp only [Act.put, List.setIfInBounds_toArray, List.set_cons_zero, List.set_cons_succ]
        refine wpAnyH_ready (rs := [2]) (by kernel_rfl) (by simp) ?_
        refine (AllReadyH.cons (get_ops _ _ _ rfl) (fun K hK => ?_) AllReadyH.nil)
        have HB3 : Hid (wr.heap.size ≤ y20.heap.size) := Lib.hid C_y20.out.size
        have HR3 : Hid ((y18.heap.size) < y20.heap.size) := Lib.hid R_y20.out.lt
        go_simp
        refine ((fPush HLT.out HK100.out A2 c2 ys2 y20 (HO.out.step B_y20.out) K_y20.out HY2.out)).mono ?_
        rintro e y21 ⟨v3, ys3, rfl, hys3, hL3, hb⟩
        have B_y21 : Hid (Below w.heap.size w y21) := Lib.hid (stepB B_y20.out hb)
        have S_y21 : Hid (BK 23 y21 gS (spC S0)) := Lib.hid (S_y20.out.step hb)
        have Q_y21 : Hid (BK 26 y21 gQ (quC S0 ((k : Int) + 1) (.slice A2 ys2.length c2))) := Lib.hid (Q_y20.out.step hb)
        have K_y21 : Hid (EI y21 y21.heap.size A2 ys2) := Lib.hid (LI.step K_y20.out hb)
        have C_y21 : Hid (Below wr.heap.size wr y21) := Lib.hid (stepB C_y20.out hb)
        have R_y21 : Hid (BK 26 y21 (y18.heap.size) ([.string ⟨#[]⟩, .int .i64 0, .int .i64 0, .int .i64 0, .string ⟨#[]⟩, .int .i64 0, .slice none 0 0] : List Value)) := Lib.hid (R_y20.out.step hb)
        clear B_y20 S_y20 Q_y20 K_y20 C_y20 R_y20
        obtain ⟨A3, c3, rfl, hc3, hen3⟩ := LN.of gE_len hL3
        have HY3 := Lib.hid hys3
        have HC3 := Lib.hid hc3
        have L_y21 : Hid (EM y21 y20.heap.size y21.heap.size A3 ys3) := Lib.hid (EM.of hen3)
        clear hL3 hen3 hys3 hc3
        clear K_y21
        clear hHeld hb
        go_wp2_with fail
        refine hK.out _ _ Q_y21.out (fun hHeld => ?_)
        clear hK K
        try simp only [Act.put, List.setIfInBounds_toArray, List.set_cons_zero, List.set_cons_succ]
        refine wpAnyH_take (i := 3) (v := (.tuple #[quV S0 ((k : Int) + 1 + 1) (.slice A3 ys3.length c3), .int .i64 0])) (get_ops _ _ _ rfl) (by kernel_rfl) (by kernel_rfl) (by kernel_rfl) (fun _ _ _ h => h) (Or.inl ⟨by rfl, fun wS hSw => by (try dsimp only at hSw); go_simp⟩) hHeld ?_
        try simp only [Act.put, List.setIfInBounds_toArray, List.set_cons_zero, List.set_cons_succ]
        refine wpAnyH_take (i := 4) (v := (quV S0 ((k : Int) + 1 + 1) (.slice A3 ys3.length c3))) (get_ops _ _ _ rfl) (by kernel_rfl) (by kernel_rfl) (by kernel_rfl) (fun _ _ _ h => h) (Or.inl ⟨by rfl, fun wS hSw => by (try dsimp only at hSw); go_simp⟩) hHeld ?_
        try simp only [Act.put, List.setIfInBounds_toArray, List.set_cons_zero, List.set_cons_succ]
        refine wpAnyH_take (i := 5) (v := (.int .i64 0)) (get_ops _ _ _ rfl) (by kernel_rfl) (by kernel_rfl) (by kernel_rfl) (fun _ _ _ h => h) (Or.inl ⟨by rfl, fun wS hSw => by (try dsimp only at hSw); go_simp⟩) hHeld ?_
        try simp only [Act.put, List.setIfInBounds_toArray, List.set_cons_zero, List.set_cons_succ]
        refine wpAnyH_ready (rs := [7]) (by kernel_rfl) (by simp) ?_
        refine (AllReadyH.cons (get_ops _ _ _ rfl) (fun K hK => ?_) AllReadyH.nil)
        refine S2.wp_store_all 26 _ _ rfl rfl (y18.heap.size) (by go_simp) (quC S0 ((k : Int) + 1 + 1) (.slice A3 ys3.length c3)) (by first | rfl | go_simp) 26 _ R_y21.out quSize rfl (quC_one _ rfl) ?_
        intro y22 hM hP
        have R_y22 : Hid (BK 26 y22 (y18.heap.size) (quC S0 ((k : Int) + 1 + 1) (.slice A3 ys3.length c3))) := Lib.hid (hM)
        have B_y22 : Hid (Below w.heap.size w y22) := Lib.hid (hP.below B_y21.out (Nat.le_trans HW0.out HRW.out))
        have S_y22 : Hid (BK 23 y22 gS (spC S0)) := Lib.hid (hP.other S_y21.out (by have h1 := HSW.out; have h2 := HRW.out; omega))
        have Q_y22 : Hid (BK 26 y22 gQ (quC S0 ((k : Int) + 1) (.slice A2 ys2.length c2))) := Lib.hid (hP.other Q_y21.out (by have h1 := HGW.out; have h2 := HRW.out; omega))
        have C_y22 : Hid (Below wr.heap.size wr y22) := Lib.hid (hP.below C_y21.out HRW.out)
        have L_y22 : Hid (EM y22 y20.heap.size y21.heap.size A3 ys3) := Lib.hid (EM.put L_y21.out hP (Or.inl HR3.out))
        clear B_y21 S_y21 Q_y21 C_y21 R_y21 L_y21
        clear hM hP hHeld
        refine hK.out _ _ Q_y22.out (fun hHeld => ?_)
        clear hK K
        try simp only [Act.put, List.setIfInBounds_toArray, List.set_cons_zero, List.set_cons_succ]
        refine wpAnyH_take (i := 8) (v := (.int .i64 0)) (get_ops _ _ _ rfl) (by kernel_rfl) (by kernel_rfl) (by kernel_rfl) (fun _ _ _ h => h) (Or.inl ⟨by rfl, fun wS hSw => by (try dsimp only at hSw); go_simp⟩) hHeld ?_
        try simp only [Act.put, List.setIfInBounds_toArray, List.set_cons_zero, List.set_cons_succ]
        refine wpAnyH_done (by kernel_rfl) ?_ _
        go_wp2_with first
          | (refine wpList_load_v (by rfl) 26 (.tmp 5) rfl ⟨(y18.heap.size), 0, none⟩ rfl (.agg (quC S0 ((k : Int) + 1 + 1) (.slice A3 ys3.length c3)).toArray) (load_qu R_y22.out) ?_)
          | (refine S2.wpList_store_all (by rfl) 26 (.tmp 3) (.tmp 44) rfl rfl (gQ) rfl (quC S0 ((k : Int) + 1 + 1) (.slice A3 ys3.length c3)) rfl 26 _ Q_y22.out quSize rfl (ones rfl) ?_; intro y23 hM hP; have Q_y23 : Hid (BK 26 y23 (gQ) (quC S0 ((k : Int) + 1 + 1) (.slice A3 ys3.length c3))) := Lib.hid hM; have B_y23 : Hid (Below w.heap.size w y23) := Lib.hid (hP.below B_y22.out (by have h1 := HGQ.out; omega)); have S_y23 : Hid (BK 23 y23 gS (spC S0)) := Lib.hid (hP.other S_y22.out (by have h1 := HGSQ.out; omega)); have L_y23 : Hid (EM y23 y20.heap.size y21.heap.size A3 ys3) := Lib.hid (EM.put L_y22.out hP (Or.inl (by have h1 := HGW.out; have h2 := HB3.out; omega))); clear hM hP B_y22 S_y22 Q_y22 C_y22 R_y22 L_y22)
        go_roundg g
        case measure => omega
        case rel => exact ⟨k + 1, by have := HK.out; omega, (by have h9 := HK100.out; rw [wrap64_id _ (by omega) (by omega)]; rfl), S_y23.out, A3, c3, ys3, (by have h := Q_y23.out; rw [show ((k : Int) + 1 + 1) = (((k + 1 : Nat) : Int) + 1) by omega] at h; exact h), L_y23.out.en.1, HC3.out, HY3.out, B_y23.out⟩

end Go.Proofs.YtjhojpghllnoiaaDoor
