/-
  What Start of brokerref14 answers: the window with the message in flight, the packet to send, the error. Conditions: the window and the message read as data; the window is valid, its items few; texts fit.
-/
import Derived.Test.YtjpikgphfhjilaaGreatDoorVp
import Derived.Test.YtjpikgphfhjilaaGreatDoorWo
namespace Go.Proofs.YtjpikgphfhjilaaGreatDoor
open Go.RowKit
open S2 (BK Put)

/-- a window, a packet and a code that a call answers -/
def RetT (r : PW × Pkt × Int) (W : World) (e : Ending) (w' : World) : Prop := ∃ A c ys A2 c2 a3 c3, e = .returned (.tuple #[wv r.1.1 A c ys A2 c2 r.1.2.2.1 r.1.2.2.2, pkV r.2.1 (pubA a3 c3), .int .i64 r.2.2]) ∧ ys.map FE.f = r.1.2.1 ∧ WOk w' A c ys A2 c2 r.1.2.2.1 ∧ PL w' w'.heap.size a3 r.2.1.msg.props ∧ Below W.heap.size W w'
/-- append of items onto items of a call's own, as an operation -/
theorem oper_appFs {o : Oper} {a : Act} {wr : World} {K : Act → World → Prop} {Q : Exit → Act → World → Prop} (s x : Operand)
    (ho : o.op = .call { callee := .builtin .append, args := #[s, x], argTypes := #[22, 22] }) (B : Nat) (v : Value) (xs ys : List FE) (vx : Value) (hs : a.eval s = v) (hown : OwnF wr B v xs)
    (hx : a.eval x = vx) (hsrc : Src Tryz.prog 11 22 vx ys.length (ys.flatMap gF) wr) (hB : B ≤ wr.heap.size) (hn : xs.length + ys.length ≤ 200000)
    (h : ∀ v' w', OwnF w' B v' (xs ++ ys) → wr.grownBy w' v.ownBlock → (∀ q n c, v' = .slice (some ⟨q, 0, none⟩) n c → (∃ n' c', v = .slice (some ⟨q, 0, none⟩) n' c') ∨ wr.heap.size ≤ q) → K (a.put o.dst v') w') : o.wp Tryz.prog a wr K Q := by
  obtain ⟨i, hi, hz, hz1, hz2⟩ := info_parts flInfo
  obtain ⟨v', w', hr, h2, h3, h4⟩ := app_own (P := Tryz.prog) wr B 22 22 o.type 60 i _ 11 128 Tryz.underlying22 hi hz hz1 hz2 rfl (by decide) v xs.length (xs.flatMap gF) hown _ ys.length (ys.flatMap gF) hsrc (by unfold maxLen; omega) (by omega) hB
  unfold Oper.wp execOp
  simp only [ho, resolve, invoke, builtin, Sem.run_bind, Sem.run_pure, Result.andThen_ok, List.map_toArray, List.map_cons, List.map_nil, hs, hx, hr]
  refine h v' w' ?_ h3 (fun q n c e => (h4 q n c e).imp id (fun hq => by omega))
  unfold OwnF OwnG
  simpa [List.flatMap_append] using h2

set_option maxRecDepth 20000 in
set_option maxHeartbeats 8000000 in
theorem rstart_any (L : Int) (A : Option Addr) (c : Nat) (xs : List FE) (A2 : Option Addr) (c2 : Nat) (X : List Int) (l : Int) (m : Msg) (am : Option Addr) (cm : Nat) (w : World) (hw : WOk w A c xs A2 c2 X) (hm : PL w w.heap.size am m.props) (ht : m.topic.size ≤ 9223372036854775807 ∧ m.frm.size ≤ 9223372036854775807 ∧ ∀ y ∈ m.props, y.1.size ≤ 9223372036854775807) (h0 : 0 ≤ L) (h1 : L ≤ 32) (hn : xs.length ≤ 32) (hX : S2.ckI X l = 0) (hXl : X.length ≤ xs.length) :
    Calls Tryz.prog 7 #[wv L A c xs A2 c2 X l, msgV m am cm] w (RetT (startR (L, xs.map FE.f, X, l) m) w) := by
  have HLF := Lib.hid (fun w1 => rleft_any L A c xs A2 c2 X l w1 h0 h1 hn)
  have HCK := Lib.hid (fun w1 h => rCheck_any m am cm w1 h ht.1 ht.2.1 ht.2.2)
  have HTK := Lib.hid (fun w1 h => S2.rTake_any A2 c2 X l w1 h hw.2.2.2 (by omega) (S2.ck_ok.1 hX).2.2.1 (S2.ck_ok.1 hX).2.2.2)
  have HPU := Lib.hid (fun x w1 => rpublish_any x false w1)
  have HW := Lib.hid hw
  have HM := Lib.hid hm
  have HXL := Lib.hid hXl
  have HLB := Lib.hid (And.intro h0 h1)
  obtain ⟨R, hR⟩ : ∃ R, startR (L, xs.map FE.f, X, l) m = R := ⟨_, rfl⟩
  rw [hR]
  have hse := start_err hR
  rw [List.length_map] at hse
  have HSE := Lib.hid hse
  clear hR hw hm hX hXl h0 h1 hse ht
  unfold msgV
  go_enter Tryz.func7, Tryz.ntmps7
  go_upto_region 1 with fail
  refine name_world (C := fun w1 => Code.wp _ _ _ _ w1) ((((w.alloc (.cells (wcs L A c xs A2 c2 X l).toArray 27)).alloc (.cells (msgC m am cm).toArray 30)).alloc (.cells (wcs 0 none 0 [] none 0 [] 0).toArray 27)).alloc (.cells zeroPk.toArray 39)) ?_
  intro w1 hw1
  obtain ⟨hB0, t1, t2, t3, t4⟩ := four hw1
  have T_w1 := Lib.hid t1
  have M_w1 := Lib.hid t2
  have R_w1 := Lib.hid t3
  have K_w1 := Lib.hid t4
  have B_w1 := Lib.hid hB0
  have d2 := t2.cell 2 rfl
  clear hw1 t1 t2 t3 t4 hB0
  by_cases hl : m.level = 0
  · have q1 : (m.level == 0) = true := by simp [hl]
    have HRR := Lib.hid (HSE.out.1 hl)
    clear hl
    go_wp2_with first
      | (refine S2.wpList_store_all (by rfl) 27 (.tmp 4) (.tmp 16) rfl rfl (w.heap.size + 1 + 1) rfl (wcs 0 none 0 [] none 0 [] 0) rfl 27 (wcs 0 none 0 [] none 0 [] 0) R_w1.out winSize rfl (ones rfl) ?_; intro wf hM hP; have MF := Lib.hid hM; have KF := Lib.hid (hP.other K_w1.out (by omega)); have BF := Lib.hid (hP.below B_w1.out (by omega)); clear hM hP)
      | (refine S2.wpList_store_all (by rfl) 39 (.tmp 5) (.tmp 17) rfl rfl (w.heap.size + 1 + 1 + 1) rfl zeroPk rfl 39 zeroPk KF.out pktSize rfl (pkOnes _ _) ?_; intro wg hM hP; have KG := Lib.hid hM; have MG := Lib.hid (hP.other MF.out (by omega)); have BG := Lib.hid (hP.below BF.out (by omega)); clear hM hP)
    rw [← HRR.out]
    exact bodyPost_ret (v := .tuple #[wv 0 none 0 [] none 0 [] 0, pkV Pkt.zero PA.zero, .int .i64 14]) (res221 rfl _ _ (w.heap.size + 1 + 1) (w.heap.size + 1 + 1 + 1) 27 39 (wcs 0 none 0 [] none 0 [] 0) zeroPk _ _ _ rfl rfl rfl MG.out KG.out Tryz.underlying27 rfl winSize Tryz.underlying39 rfl pktSize) rfl ⟨none, 0, [], none, 0, none, 0, rfl, rfl, ⟨FI.nil _ _ _, Nat.le_refl _, CL.nil _ _ _, Nat.le_refl _⟩, GL.nil _ _ _, BG.out⟩
  have q1 : (m.level == 0) = false := by simp [hl]
  go_wp2_with first
    | (refine wpList_load_v (by rfl) 27 (.tmp 2) rfl ⟨w.heap.size, 0, none⟩ rfl (wv L A c xs A2 c2 X l) (S2.run_load_all T_w1.out Tryz.underlying27 rfl winSize) ?_)
  refine (HLF.out w1).mono ?_
  rintro e w2 ⟨rfl, hb⟩
  have T_w2 := Lib.hid (T_w1.out.step hb)
  have M_w2 := Lib.hid (M_w1.out.step hb)
  have R_w2 := Lib.hid (R_w1.out.step hb)
  have K_w2 := Lib.hid (K_w1.out.step hb)
  have B_w2 := Lib.hid (stepB B_w1.out hb)
  clear hb T_w1 M_w1 R_w1 K_w1 B_w1 d2 q1 HLF
  by_cases hf : leftR L xs.length = 0
  · have q2 : (leftR L xs.length == 0) = true := by simp [hf]
    have HRR := Lib.hid (HSE.out.2.1 hl hf)
    clear hl hf
    go_wp2_with first
      | (refine S2.wpList_store_all (by rfl) 27 (.tmp 4) (.tmp 21) rfl rfl (w.heap.size + 1 + 1) rfl (wcs 0 none 0 [] none 0 [] 0) rfl 27 (wcs 0 none 0 [] none 0 [] 0) R_w2.out winSize rfl (ones rfl) ?_; intro wf hM hP; have MF := Lib.hid hM; have KF := Lib.hid (hP.other K_w2.out (by omega)); have BF := Lib.hid (hP.below B_w2.out (by omega)); clear hM hP)
      | (refine S2.wpList_store_all (by rfl) 39 (.tmp 5) (.tmp 22) rfl rfl (w.heap.size + 1 + 1 + 1) rfl zeroPk rfl 39 zeroPk KF.out pktSize rfl (pkOnes _ _) ?_; intro wg hM hP; have KG := Lib.hid hM; have MG := Lib.hid (hP.other MF.out (by omega)); have BG := Lib.hid (hP.below BF.out (by omega)); clear hM hP)
    rw [← HRR.out]
    exact bodyPost_ret (v := .tuple #[wv 0 none 0 [] none 0 [] 0, pkV Pkt.zero PA.zero, .int .i64 6]) (res221 rfl _ _ (w.heap.size + 1 + 1) (w.heap.size + 1 + 1 + 1) 27 39 (wcs 0 none 0 [] none 0 [] 0) zeroPk _ _ _ rfl rfl rfl MG.out KG.out Tryz.underlying27 rfl winSize Tryz.underlying39 rfl pktSize) rfl ⟨none, 0, [], none, 0, none, 0, rfl, rfl, ⟨FI.nil _ _ _, Nat.le_refl _, CL.nil _ _ _, Nat.le_refl _⟩, GL.nil _ _ _, BG.out⟩
  have q2 : (leftR L xs.length == 0) = false := by simp [hf]
  have HLFT : Hid (xs.length < 32 ∧ X.length < 32) := Lib.hid (by
    have := HLB.out
    have := HXL.out
    unfold leftR at hf
    split at hf
    · exact absurd rfl hf
    · omega)
  go_wp2_with first
    | (refine wpList_load_v (by rfl) 30 (.tmp 3) rfl ⟨w.heap.size + 1, 0, none⟩ rfl (msgV m am cm) (S2.run_load_all M_w2.out Tryz.underlying30 rfl msgSize) ?_)
  refine (HCK.out w2 (HM.out.step B_w2.out)).mono ?_
  rintro e w3 ⟨rfl, hb⟩
  have T_w3 := Lib.hid (T_w2.out.step hb)
  have M_w3 := Lib.hid (M_w2.out.step hb)
  have R_w3 := Lib.hid (R_w2.out.step hb)
  have K_w3 := Lib.hid (K_w2.out.step hb)
  have B_w3 := Lib.hid (stepB B_w2.out hb)
  clear hb T_w2 M_w2 R_w2 K_w2 B_w2 q2 HCK
  by_cases hc : checkR m = 0
  rotate_left
  · have q3 : ((checkR m : Int) != 0) = true := by simp; omega
    have HRR := Lib.hid (HSE.out.2.2.1 hl hf hc)
    clear hl hf hc
    generalize ((checkR m : Nat) : Int) = z at q3 HRR ⊢
    go_wp2_with first
      | (refine S2.wpList_store_all (by rfl) 27 (.tmp 4) (.tmp 27) rfl rfl (w.heap.size + 1 + 1) rfl (wcs 0 none 0 [] none 0 [] 0) rfl 27 (wcs 0 none 0 [] none 0 [] 0) R_w3.out winSize rfl (ones rfl) ?_; intro wf hM hP; have MF := Lib.hid hM; have KF := Lib.hid (hP.other K_w3.out (by omega)); have BF := Lib.hid (hP.below B_w3.out (by omega)); clear hM hP)
      | (refine S2.wpList_store_all (by rfl) 39 (.tmp 5) (.tmp 28) rfl rfl (w.heap.size + 1 + 1 + 1) rfl zeroPk rfl 39 zeroPk KF.out pktSize rfl (pkOnes _ _) ?_; intro wg hM hP; have KG := Lib.hid hM; have MG := Lib.hid (hP.other MF.out (by omega)); have BG := Lib.hid (hP.below BF.out (by omega)); clear hM hP)
    rw [← HRR.out]
    exact bodyPost_ret (v := .tuple #[wv 0 none 0 [] none 0 [] 0, pkV Pkt.zero PA.zero, .int .i64 z]) (res221 rfl _ _ (w.heap.size + 1 + 1) (w.heap.size + 1 + 1 + 1) 27 39 (wcs 0 none 0 [] none 0 [] 0) zeroPk _ _ _ rfl rfl rfl MG.out KG.out Tryz.underlying27 rfl winSize Tryz.underlying39 rfl pktSize) rfl ⟨none, 0, [], none, 0, none, 0, rfl, rfl, ⟨FI.nil _ _ _, Nat.le_refl _, CL.nil _ _ _, Nat.le_refl _⟩, GL.nil _ _ _, BG.out⟩
  have HML := Lib.hid (checkR_props hc)
  have HRR := Lib.hid (HSE.out.2.2.2 hl hf hc)
  rw [hc]
  clear hl hf hc HSE
  have htk : S2.tkR X l = (S2.tkI X l, S2.insI X (S2.tkI X l), S2.tkI X l, 0) := by unfold S2.tkR; rw [if_neg (by have := HLFT.out; omega)]
  rw [htk] at HTK
  have hxl5 : (S2.insI X (S2.tkI X l)).length = X.length + 1 := S2.ins_len _ _
  have HL5 : Hid (0 < (S2.insI X (S2.tkI X l)).length) := Lib.hid (by omega)
  clear htk hxl5
  generalize S2.insI X (S2.tkI X l) = X5 at HTK HRR HL5
  generalize S2.tkI X l = n5 at HTK HRR
  go_wp2_with first
    | (refine wpList_load_v (by rfl) 25 _ rfl ⟨w.heap.size, 2, none⟩ rfl (S2.pv A2 c2 X l) (bk_pool T_w3.out) ?_)
  refine (HTK.out w3 (CL.step HW.out.2.2.1 B_w3.out)).mono ?_
  rintro e w4 ⟨A5, c5, rfl, hc5, hil5, hfr5, hb⟩
  have T_w4 := Lib.hid (T_w3.out.step hb)
  have M_w4 := Lib.hid (M_w3.out.step hb)
  have R_w4 := Lib.hid (R_w3.out.step hb)
  have K_w4 := Lib.hid (K_w3.out.step hb)
  have B_w4 := Lib.hid (stepB B_w3.out hb)
  have HC5 := Lib.hid hc5
  have HI5 := Lib.hid hil5
  have HN5 : Hid (∀ b o, A5 = some ⟨b, o, none⟩ → b < w.heap.size ∨ w.heap.size + 1 + 1 + 1 < b) := Lib.hid (fun b o e => by
    have hk := K_w3.out.lt
    rcases hfr5 with h | ⟨h, h'⟩ | h
    · have := HL5.out
      have h' : X5 = [] := h
      rw [h'] at this
      simp at this
    · left
      rw [h] at e
      refine S2.IL.lt HW.out.2.2.1 b o e ?_
      rcases Nat.eq_zero_or_pos X.length with h2 | h2
      · have h3 : X5 = [] := h' (List.eq_nil_of_length_eq_zero h2)
        have := HL5.out
        rw [h3] at this
        simp at this
      · exact h2
    · have := h b o e
      omega)
  clear hb T_w3 M_w3 R_w3 K_w3 B_w3 hc5 hil5 hfr5 HTK
  dsimp only at HC5 HI5 HN5
  obtain ⟨x, hx⟩ : ∃ x : FE, x = ⟨⟨n5, 1, m⟩, am, cm⟩ := ⟨_, rfl⟩
  have HXM : Hid (x.f = ⟨n5, 1, m⟩) := Lib.hid (by rw [hx])
  have HXA : Hid (PL w w.heap.size x.a x.f.m.props) := Lib.hid (by rw [hx]; exact HM.out)
  have hgx : gF x = gF ⟨⟨n5, 1, m⟩, am, cm⟩ := by rw [hx]
  have HGX := Lib.hid hgx
  clear hx hgx
  go_upto_region 10 with first
    | (refine S2.wpList_store_all (by rfl) 25 (.tmp 9) (.tmp 35) rfl rfl w4.heap.size rfl [.slice A5 X5.length c5, .int .i64 n5] rfl 25 [.slice none 0 0, .int .i64 0] (BK.new w4 _ _) S2.infoP2 rfl (ones rfl) ?_; intro w5 hM hP; have P_w5 : Hid (BK 25 w5 w4.heap.size [.slice A5 X5.length c5, .int .i64 n5]) := Lib.hid hM; have hbx : Below w4.heap.size w4 w5 := hP.below (S2.below_new w4 _) (Nat.le_refl _); have T_w5 := Lib.hid (T_w4.out.step hbx); have M_w5 := Lib.hid (M_w4.out.step hbx); have R_w5 := Lib.hid (R_w4.out.step hbx); have K_w5 := Lib.hid (K_w4.out.step hbx); have B_w5 := Lib.hid (stepB B_w4.out hbx); have I_w5 : Hid (S2.IL w5 w5.heap.size A5 X5) := Lib.hid (CL.step HI5.out hbx); have ZP : Hid (w.heap.size + 1 + 1 + 1 < w4.heap.size) := Lib.hid K_w4.out.lt; have HLM : Hid ((loadVar 30 ⟨w.heap.size + 1, 0, none⟩).run Tryz.prog w5 = .ok (.agg #[.string m.topic, .string m.payload, .int .i64 m.level, .bool m.retain, .int .i64 m.prio, .int .i64 m.exps, .string m.frm, .int .i64 m.seq, .slice am m.props.length cm]) w5) := Lib.hid (S2.run_load_all M_w5.out Tryz.underlying30 rfl msgSize); clear hM hP hbx T_w4 M_w4 R_w4 K_w4 B_w4 HI5)
    | (refine wpList_load_v (by rfl) 30 (.tmp 3) rfl ⟨w.heap.size + 1, 0, none⟩ rfl _ HLM.out ?_)
    | (refine S2.wpList_store_all (by rfl) 60 (.tmp 11) (.tmp 39) rfl rfl w5.heap.size rfl (gF ⟨⟨n5, 1, m⟩, am, cm⟩) rfl 60 (gF FE.zero) (BK.new w5 _ _) flSize rfl (gF_one _) ?_; intro w7 hM hP; have F_w7 : Hid (BK 60 w7 w5.heap.size (gF x)) := Lib.hid (by rw [HGX.out]; exact hM); have hbx : Below w5.heap.size w5 w7 := hP.below (S2.below_new w5 _) (Nat.le_refl _); have T_w7 := Lib.hid (T_w5.out.step hbx); have R_w7 := Lib.hid (R_w5.out.step hbx); have K_w7 := Lib.hid (K_w5.out.step hbx); have P_w7 := Lib.hid (P_w5.out.step hbx); have B_w7 := Lib.hid (stepB B_w5.out hbx); have I_w7 : Hid (S2.IL w7 w7.heap.size A5 X5) := Lib.hid (CL.step I_w5.out hbx); have ZF : Hid (w4.heap.size < w5.heap.size) := Lib.hid P_w5.out.lt; have HI5B : Hid (∀ b o, A5 = some ⟨b, o, none⟩ → b < w5.heap.size) := Lib.hid (fun b o e => S2.IL.lt I_w5.out b o e HL5.out); clear hM hP hbx T_w5 R_w5 K_w5 P_w5 B_w5 I_w5 M_w5 HLM)
  have Z_w7 : Hid (w5.heap.size < w7.heap.size) := Lib.hid F_w7.out.lt
  obtain ⟨h1, hh1⟩ : ∃ h1, h1 = World.drew w7 := ⟨_, rfl⟩
  have hbD : Below w7.heap.size w7 h1 := by rw [hh1]; exact (Below.refl _ _).drew
  have T_h1 : Hid (BK 27 h1 w.heap.size (wcs L A c xs A2 c2 X l)) := Lib.hid (T_w7.out.step hbD)
  have R_h1 : Hid (BK 27 h1 (w.heap.size + 1 + 1) (wcs 0 none 0 [] none 0 [] 0)) := Lib.hid (R_w7.out.step hbD)
  have K_h1 : Hid (BK 39 h1 (w.heap.size + 1 + 1 + 1) zeroPk) := Lib.hid (K_w7.out.step hbD)
  have P_h1 : Hid (BK 25 h1 w4.heap.size [.slice A5 X5.length c5, .int .i64 n5]) := Lib.hid (P_w7.out.step hbD)
  have F_h1 : Hid (BK 60 h1 w5.heap.size (gF x)) := Lib.hid (F_w7.out.step hbD)
  have B_h1 : Hid (Below w.heap.size w h1) := Lib.hid (stepB B_w7.out hbD)
  have I_h1 : Hid (S2.IL h1 h1.heap.size A5 X5) := Lib.hid (CL.step I_w7.out hbD)
  have Z_h1 : Hid (w5.heap.size < h1.heap.size) := Lib.hid (Nat.lt_of_lt_of_le Z_w7.out hbD.size)
  clear T_w7 R_w7 K_w7 P_w7 F_w7 B_w7 I_w7 Z_w7
  have hbd : (fun w' => BK 27 w' w.heap.size (wcs L A c xs A2 c2 X l) ∧ BK 60 w' w5.heap.size (gF x)) (World.drew w7) := by rw [← hh1]; exact ⟨T_h1.out, F_h1.out⟩
  have hSD : (fun w' => BK 27 w' w.heap.size (wcs L A c xs A2 c2 X l) ∧ BK 60 w' w5.heap.size (gF x)) h1 := ⟨T_h1.out, F_h1.out⟩
  have HWD := Lib.hid hh1
  clear hh1 hbD
  refine wp_region_held_drew (S := fun w' => BK 27 w' w.heap.size (wcs L A c xs A2 c2 X l) ∧ BK 60 w' w5.heap.size (gF x)) (by kernel_rfl) hbd (fun hHeld => ?_)
  rw [← HWD.out]
  clear hHeld
  have hHeld := hSD
  clear hSD hbd HWD
  refine wpAnyH_take (i := 1) (v := .pointer (some ⟨w.heap.size, 1, none⟩)) (get_ops _ _ _ rfl) (by kernel_rfl) (by kernel_rfl) (by kernel_rfl) (fun _ _ _ h => h) (Or.inl ⟨by rfl, fun wS hSw => by (try dsimp only at hSw); go_simp⟩) hHeld ?_
  try simp only [Act.put, List.setIfInBounds_toArray, List.set_cons_zero, List.set_cons_succ]
  refine wpAnyH_take (i := 2) (v := .slice A xs.length c) (get_ops _ _ _ rfl) (by kernel_rfl) (by kernel_rfl) (by kernel_rfl) (fun _ _ _ h => h) (Or.inl ⟨by rfl, fun wS hSw => by (try dsimp only at hSw); have cS : wS.cell? ⟨w.heap.size, 1, none⟩ = some (.slice A xs.length c) := hSw.1.cell 1 rfl; clear hSw; go_simp⟩) hHeld ?_
  try simp only [Act.put, List.setIfInBounds_toArray, List.set_cons_zero, List.set_cons_succ]
  refine wpAnyH_take (i := 4) (v := fV x) (get_ops _ _ _ rfl) (by kernel_rfl) (by kernel_rfl) (by kernel_rfl) (fun _ _ _ h => h) (Or.inl ⟨by rfl, fun wS hSw => by (try dsimp only at hSw); exact exec_load 60 _ rfl ⟨w5.heap.size, 0, none⟩ (by go_simp) _ (bk_item hSw.2)⟩) hHeld ?_
  try simp only [Act.put, List.setIfInBounds_toArray, List.set_cons_zero, List.set_cons_succ]
  refine wpAnyH_ready (rs := [0, 5]) (by kernel_rfl) (by simp) ?_
  refine (AllReadyH.cons (get_ops _ _ _ rfl) (fun K hK => ?_) (AllReadyH.cons (get_ops _ _ _ rfl) (fun K hK => ?_) AllReadyH.nil))
  · go_simp
    obtain ⟨vq, hvq⟩ : ∃ vq, vq = h1.heap.size := ⟨_, rfl⟩
    refine name_world (C := fun w9 => K _ w9) (h1.alloc (.cells #[] 60)) ?_
    intro h2 hh2
    have hb : Below h1.heap.size h1 h2 := by rw [hh2]; exact S2.below_new _ _
    have hN : OwnF h2 (w5.heap.size + 1) (.slice (some ⟨vq, 0, none⟩) 0 0) [] := by rw [hh2, hvq]; exact OwnG.made _ 0 #[] _ Z_h1.out (by decide) rfl
    have T_h2 : Hid (BK 27 h2 w.heap.size (wcs L A c xs A2 c2 X l)) := Lib.hid (T_h1.out.step hb)
    have R_h2 : Hid (BK 27 h2 (w.heap.size + 1 + 1) (wcs 0 none 0 [] none 0 [] 0)) := Lib.hid (R_h1.out.step hb)
    have K_h2 : Hid (BK 39 h2 (w.heap.size + 1 + 1 + 1) zeroPk) := Lib.hid (K_h1.out.step hb)
    have P_h2 : Hid (BK 25 h2 w4.heap.size [.slice A5 X5.length c5, .int .i64 n5]) := Lib.hid (P_h1.out.step hb)
    have F_h2 : Hid (BK 60 h2 w5.heap.size (gF x)) := Lib.hid (F_h1.out.step hb)
    have B_h2 : Hid (Below w.heap.size w h2) := Lib.hid (stepB B_h1.out hb)
    have I_h2 : Hid (S2.IL h2 h2.heap.size A5 X5) := Lib.hid (CL.step I_h1.out hb)
    have Z_h2 : Hid (w5.heap.size < h2.heap.size) := Lib.hid (Nat.lt_of_lt_of_le Z_h1.out hb.size)
    clear T_h1 R_h1 K_h1 P_h1 F_h1 B_h1 I_h1 Z_h1
    have Y_h2 := Lib.hid hN
    try rw [← hvq]
    clear hHeld hb hN hh2 hvq
    refine hK.out _ _ ⟨T_h2.out, F_h2.out⟩ (fun hHeld => ?_)
    clear hK K
    try simp only [Act.put, List.setIfInBounds_toArray, List.set_cons_zero, List.set_cons_succ]
    refine wpAnyH_ready (rs := [3, 5]) (by kernel_rfl) (by simp) ?_
    refine (AllReadyH.cons (get_ops _ _ _ rfl) (fun K hK => ?_) (AllReadyH.cons (get_ops _ _ _ rfl) (fun K hK => ?_) AllReadyH.nil))
    · rw [if_pos (by rfl)]
      have hoy := Y_h2.out
      refine oper_appFs (.tmp 40) (.tmp 42) rfl (w5.heap.size + 1) (.slice (some ⟨vq, 0, none⟩) 0 0) [] xs (.slice A xs.length c) (by go_simp) hoy (by go_simp) (GL.src gF_len gF_one (HW.out.1.step B_h2.out).1 Tryz.underlying22 c) Z_h2.out (by simp; omega) ?_
      intro v1 h3 hown1 hgr hof
      obtain ⟨vv, hvv⟩ : ∃ vv : Value, vv = (.slice (some ⟨vq, 0, none⟩) 0 0) := ⟨_, rfl⟩
      rw [← hvv] at hoy hgr hof
      have hof0 : ∀ b, b < w5.heap.size + 1 → Off2 vv b := fun b hb2 q n c e2 => by have := ownG_lt hoy q n c e2; omega
      have T_h3 : Hid (BK 27 h3 w.heap.size (wcs L A c xs A2 c2 X l)) := Lib.hid (BK.grown T_h2.out hoy hgr (hof0 _ (by have := ZP.out; have := ZF.out; omega)))
      have R_h3 : Hid (BK 27 h3 (w.heap.size + 1 + 1) (wcs 0 none 0 [] none 0 [] 0)) := Lib.hid (BK.grown R_h2.out hoy hgr (hof0 _ (by have := ZP.out; have := ZF.out; omega)))
      have K_h3 : Hid (BK 39 h3 (w.heap.size + 1 + 1 + 1) zeroPk) := Lib.hid (BK.grown K_h2.out hoy hgr (hof0 _ (by have := ZP.out; have := ZF.out; omega)))
      have P_h3 : Hid (BK 25 h3 w4.heap.size [.slice A5 X5.length c5, .int .i64 n5]) := Lib.hid (BK.grown P_h2.out hoy hgr (hof0 _ (by have := ZP.out; have := ZF.out; omega)))
      have F_h3 : Hid (BK 60 h3 w5.heap.size (gF x)) := Lib.hid (BK.grown F_h2.out hoy hgr (hof0 _ (by have := ZP.out; have := ZF.out; omega)))
      have B_h3 : Hid (Below w.heap.size w h3) := Lib.hid (Below.grown' B_h2.out hoy hgr B_h2.out.size (by have := ZP.out; have := ZF.out; omega))
      have I_h3 : Hid (S2.IL h3 h3.heap.size A5 X5) := Lib.hid (IL.grown I_h2.out hoy hgr (fun b o e hn => hof0 b (by have := HI5B.out b o e; omega)))
      have Z_h3 : Hid (w5.heap.size < h3.heap.size) := Lib.hid (Nat.lt_of_lt_of_le Z_h2.out hgr.size)
      have U_h3 : Hid (OwnF h3 (w5.heap.size + 1) v1 xs) := Lib.hid (by simpa using hown1)
      clear hoy hown1 hgr hof hof0 hHeld T_h2 R_h2 K_h2 P_h2 F_h2 B_h2 I_h2 Z_h2 Y_h2
      clear hvv vv
      refine hK.out _ _ ⟨T_h3.out, F_h3.out⟩ (fun hHeld => ?_)
      clear hK K
      try simp only [Act.put, List.setIfInBounds_toArray, List.set_cons_zero, List.set_cons_succ]
      refine wpAnyH_ready (rs := [5]) (by kernel_rfl) (by simp) ?_
      refine (AllReadyH.cons (get_ops _ _ _ rfl) (fun K hK => ?_) AllReadyH.nil)
      simp only [fV, gF]
      go_simp
      obtain ⟨vb, hvb⟩ : ∃ vb, vb = h3.heap.size := ⟨_, rfl⟩
      refine name_world (C := fun w9 => K _ w9) (h3.alloc (.cells (gF x).toArray 60)) ?_
      intro h4 hh4
      have hb : Below h3.heap.size h3 h4 := by rw [hh4]; exact S2.below_new _ _
      have hN : BK 60 h4 vb (gF x) := by rw [hh4, hvb]; exact BK.new _ _ _
      have HO1 : Hid (Off2 v1 vb) := Lib.hid (fun q n c e2 => by have := ownG_lt U_h3.out q n c e2; omega)
      have T_h4 : Hid (BK 27 h4 w.heap.size (wcs L A c xs A2 c2 X l)) := Lib.hid (T_h3.out.step hb)
      have R_h4 : Hid (BK 27 h4 (w.heap.size + 1 + 1) (wcs 0 none 0 [] none 0 [] 0)) := Lib.hid (R_h3.out.step hb)
      have K_h4 : Hid (BK 39 h4 (w.heap.size + 1 + 1 + 1) zeroPk) := Lib.hid (K_h3.out.step hb)
      have P_h4 : Hid (BK 25 h4 w4.heap.size [.slice A5 X5.length c5, .int .i64 n5]) := Lib.hid (P_h3.out.step hb)
      have F_h4 : Hid (BK 60 h4 w5.heap.size (gF x)) := Lib.hid (F_h3.out.step hb)
      have B_h4 : Hid (Below w.heap.size w h4) := Lib.hid (stepB B_h3.out hb)
      have I_h4 : Hid (S2.IL h4 h4.heap.size A5 X5) := Lib.hid (CL.step I_h3.out hb)
      have Z_h4 : Hid (w5.heap.size < h4.heap.size) := Lib.hid (Nat.lt_of_lt_of_le Z_h3.out hb.size)
      have U_h4 : Hid (OwnF h4 (w5.heap.size + 1) v1 xs) := Lib.hid (OwnG.step U_h3.out hb)
      clear T_h3 R_h3 K_h3 P_h3 F_h3 B_h3 I_h3 Z_h3 U_h3
      have V_h4 := Lib.hid hN
      try rw [← hvb]
      clear hHeld hb hN hh4 hvb
      refine hK.out _ _ ⟨T_h4.out, F_h4.out⟩ (fun hHeld => ?_)
      clear hK K
      try simp only [Act.put, List.setIfInBounds_toArray, List.set_cons_zero, List.set_cons_succ]
      refine wpAnyH_ready (rs := [6]) (by kernel_rfl) (by simp) ?_
      refine (AllReadyH.cons (get_ops _ _ _ rfl) (fun K hK => ?_) AllReadyH.nil)
      rw [if_pos (by rfl)]
      have hoy := U_h4.out
      refine oper_appF (.tmp 43) (.tmp 45) rfl (w5.heap.size + 1) v1 xs x vb (by go_simp) hoy (by go_simp) V_h4.out Z_h4.out (by omega) ?_
      intro v3 h5 hown3 hgr
      obtain ⟨vv, hvv⟩ : ∃ vv : Value, vv = v1 := ⟨_, rfl⟩
      rw [← hvv] at hoy hgr
      have hof0 : ∀ b, b < w5.heap.size + 1 → Off2 vv b := fun b hb2 q n c e2 => by have := ownG_lt hoy q n c e2; omega
      have T_h5 : Hid (BK 27 h5 w.heap.size (wcs L A c xs A2 c2 X l)) := Lib.hid (BK.grown T_h4.out hoy hgr (hof0 _ (by have := ZP.out; have := ZF.out; omega)))
      have R_h5 : Hid (BK 27 h5 (w.heap.size + 1 + 1) (wcs 0 none 0 [] none 0 [] 0)) := Lib.hid (BK.grown R_h4.out hoy hgr (hof0 _ (by have := ZP.out; have := ZF.out; omega)))
      have K_h5 : Hid (BK 39 h5 (w.heap.size + 1 + 1 + 1) zeroPk) := Lib.hid (BK.grown K_h4.out hoy hgr (hof0 _ (by have := ZP.out; have := ZF.out; omega)))
      have P_h5 : Hid (BK 25 h5 w4.heap.size [.slice A5 X5.length c5, .int .i64 n5]) := Lib.hid (BK.grown P_h4.out hoy hgr (hof0 _ (by have := ZP.out; have := ZF.out; omega)))
      have F_h5 : Hid (BK 60 h5 w5.heap.size (gF x)) := Lib.hid (BK.grown F_h4.out hoy hgr (hof0 _ (by have := ZP.out; have := ZF.out; omega)))
      have B_h5 : Hid (Below w.heap.size w h5) := Lib.hid (Below.grown' B_h4.out hoy hgr B_h4.out.size (by have := ZP.out; have := ZF.out; omega))
      have I_h5 : Hid (S2.IL h5 h5.heap.size A5 X5) := Lib.hid (IL.grown I_h4.out hoy hgr (fun b o e hn => hof0 b (by have := HI5B.out b o e; omega)))
      have Z_h5 : Hid (w5.heap.size < h5.heap.size) := Lib.hid (Nat.lt_of_lt_of_le Z_h4.out hgr.size)
      have W_h5 : Hid (OwnF h5 (w5.heap.size + 1) v3 (xs ++ [x])) := Lib.hid hown3
      clear hoy hown3 hgr hof0 hHeld T_h4 R_h4 K_h4 P_h4 F_h4 B_h4 I_h4 Z_h4 U_h4 V_h4
      clear hvv vv
      refine hK.out _ _ ⟨T_h5.out, F_h5.out⟩ (fun hHeld => ?_)
      clear hK K
      try simp only [Act.put, List.setIfInBounds_toArray, List.set_cons_zero, List.set_cons_succ]
      refine wpAnyH_take (i := 7) (v := v3) (get_ops _ _ _ rfl) (by kernel_rfl) (by kernel_rfl) (by kernel_rfl) (fun _ _ _ h => h) (Or.inl ⟨by rfl, fun wS hSw => by (try dsimp only at hSw); go_simp⟩) hHeld ?_
      try simp only [Act.put, List.setIfInBounds_toArray, List.set_cons_zero, List.set_cons_succ]
      refine wpAnyH_done (by kernel_rfl) ?_ _
      go_upto_region 11 with fail
      obtain ⟨h6, hh6⟩ : ∃ h6, h6 = World.drew h5 := ⟨_, rfl⟩
      have hbD : Below h5.heap.size h5 h6 := by rw [hh6]; exact (Below.refl _ _).drew
      have T_h6 : Hid (BK 27 h6 w.heap.size (wcs L A c xs A2 c2 X l)) := Lib.hid (T_h5.out.step hbD)
      have R_h6 : Hid (BK 27 h6 (w.heap.size + 1 + 1) (wcs 0 none 0 [] none 0 [] 0)) := Lib.hid (R_h5.out.step hbD)
      have K_h6 : Hid (BK 39 h6 (w.heap.size + 1 + 1 + 1) zeroPk) := Lib.hid (K_h5.out.step hbD)
      have P_h6 : Hid (BK 25 h6 w4.heap.size [.slice A5 X5.length c5, .int .i64 n5]) := Lib.hid (P_h5.out.step hbD)
      have F_h6 : Hid (BK 60 h6 w5.heap.size (gF x)) := Lib.hid (F_h5.out.step hbD)
      have B_h6 : Hid (Below w.heap.size w h6) := Lib.hid (stepB B_h5.out hbD)
      have I_h6 : Hid (S2.IL h6 h6.heap.size A5 X5) := Lib.hid (CL.step I_h5.out hbD)
      have Z_h6 : Hid (w5.heap.size < h6.heap.size) := Lib.hid (Nat.lt_of_lt_of_le Z_h5.out hbD.size)
      have W_h6 : Hid (OwnF h6 (w5.heap.size + 1) v3 (xs ++ [x])) := Lib.hid (OwnG.step W_h5.out hbD)
      clear T_h5 R_h5 K_h5 P_h5 F_h5 B_h5 I_h5 Z_h5 W_h5
      have hbd : (fun w' => BK 27 w' w.heap.size (wcs L A c xs A2 c2 X l) ∧ BK 25 w' w4.heap.size [.slice A5 X5.length c5, .int .i64 n5] ∧ BK 60 w' w5.heap.size (gF x)) (World.drew h5) := by rw [← hh6]; exact ⟨T_h6.out, P_h6.out, F_h6.out⟩
      have hSD : (fun w' => BK 27 w' w.heap.size (wcs L A c xs A2 c2 X l) ∧ BK 25 w' w4.heap.size [.slice A5 X5.length c5, .int .i64 n5] ∧ BK 60 w' w5.heap.size (gF x)) h6 := ⟨T_h6.out, P_h6.out, F_h6.out⟩
      have HWD := Lib.hid hh6
      clear hh6 hbD
      refine wp_region_held_drew (S := fun w' => BK 27 w' w.heap.size (wcs L A c xs A2 c2 X l) ∧ BK 25 w' w4.heap.size [.slice A5 X5.length c5, .int .i64 n5] ∧ BK 60 w' w5.heap.size (gF x)) (by kernel_rfl) hbd (fun hHeld => ?_)
      rw [← HWD.out]
      clear hHeld
      have hHeld := hSD
      clear hSD hbd HWD
      refine wpAnyH_take (i := 0) (v := .pointer (some ⟨w.heap.size, 0, none⟩)) (get_ops _ _ _ rfl) (by kernel_rfl) (by kernel_rfl) (by kernel_rfl) (fun _ _ _ h => h) (Or.inl ⟨by rfl, fun wS hSw => by (try dsimp only at hSw); go_simp⟩) hHeld ?_
      try simp only [Act.put, List.setIfInBounds_toArray, List.set_cons_zero, List.set_cons_succ]
      refine wpAnyH_take (i := 1) (v := .int .i64 L) (get_ops _ _ _ rfl) (by kernel_rfl) (by kernel_rfl) (by kernel_rfl) (fun _ _ _ h => h) (Or.inl ⟨by rfl, fun wS hSw => by (try dsimp only at hSw); have cS : wS.cell? ⟨w.heap.size, 0, none⟩ = some (.int .i64 L) := hSw.1.cell 0 rfl; clear hSw; go_simp⟩) hHeld ?_
      try simp only [Act.put, List.setIfInBounds_toArray, List.set_cons_zero, List.set_cons_succ]
      refine wpAnyH_take (i := 2) (v := v3) (get_ops _ _ _ rfl) (by kernel_rfl) (by kernel_rfl) (by kernel_rfl) (fun _ _ _ h => h) (Or.inl ⟨by rfl, fun wS hSw => by (try dsimp only at hSw); go_simp⟩) hHeld ?_
      try simp only [Act.put, List.setIfInBounds_toArray, List.set_cons_zero, List.set_cons_succ]
      refine wpAnyH_take (i := 3) (v := S2.pv A5 c5 X5 n5) (get_ops _ _ _ rfl) (by kernel_rfl) (by kernel_rfl) (by kernel_rfl) (fun _ _ _ h => h) (Or.inl ⟨by rfl, fun wS hSw => by (try dsimp only at hSw); exact exec_load 25 _ rfl ⟨w4.heap.size, 0, none⟩ (by go_simp) _ (S2.run_load_all hSw.2.1 Tryz.underlying25 rfl S2.infoP2)⟩) hHeld ?_
      try simp only [Act.put, List.setIfInBounds_toArray, List.set_cons_zero, List.set_cons_succ]
      obtain ⟨A9, c9, hv9, hc9, hnew9, hgl9⟩ := OwnG.retB gF_len W_h6.out
      subst hv9
      have HC9 := Lib.hid hc9
      clear hc9 hgl9 hnew9
      refine wpAnyH_take (i := 4) (v := wv L A9 c9 (xs ++ [x]) A5 c5 X5 n5) (get_ops _ _ _ rfl) (by kernel_rfl) (by kernel_rfl) (by kernel_rfl) (fun _ _ _ h => h) (Or.inl ⟨by rfl, fun wS hSw => by (try dsimp only at hSw); go_simp⟩) hHeld ?_
      try simp only [Act.put, List.setIfInBounds_toArray, List.set_cons_zero, List.set_cons_succ]
      refine wpAnyH_take (i := 5) (v := fV x) (get_ops _ _ _ rfl) (by kernel_rfl) (by kernel_rfl) (by kernel_rfl) (fun _ _ _ h => h) (Or.inl ⟨by rfl, fun wS hSw => by (try dsimp only at hSw); exact exec_load 60 _ rfl ⟨w5.heap.size, 0, none⟩ (by go_simp) _ (bk_item hSw.2.2)⟩) hHeld ?_
      try simp only [Act.put, List.setIfInBounds_toArray, List.set_cons_zero, List.set_cons_succ]
      refine wpAnyH_ready (rs := [6]) (by kernel_rfl) (by simp) ?_
      refine (AllReadyH.cons (get_ops _ _ _ rfl) (fun K hK => ?_) AllReadyH.nil)
      go_simp
      refine (HPU.out x h6).mono ?_
      rintro e h7 ⟨rfl, hb⟩
      have T_h7 : Hid (BK 27 h7 w.heap.size (wcs L A c xs A2 c2 X l)) := Lib.hid (T_h6.out.step hb)
      have R_h7 : Hid (BK 27 h7 (w.heap.size + 1 + 1) (wcs 0 none 0 [] none 0 [] 0)) := Lib.hid (R_h6.out.step hb)
      have K_h7 : Hid (BK 39 h7 (w.heap.size + 1 + 1 + 1) zeroPk) := Lib.hid (K_h6.out.step hb)
      have P_h7 : Hid (BK 25 h7 w4.heap.size [.slice A5 X5.length c5, .int .i64 n5]) := Lib.hid (P_h6.out.step hb)
      have F_h7 : Hid (BK 60 h7 w5.heap.size (gF x)) := Lib.hid (F_h6.out.step hb)
      have B_h7 : Hid (Below w.heap.size w h7) := Lib.hid (stepB B_h6.out hb)
      have I_h7 : Hid (S2.IL h7 h7.heap.size A5 X5) := Lib.hid (CL.step I_h6.out hb)
      have Z_h7 : Hid (w5.heap.size < h7.heap.size) := Lib.hid (Nat.lt_of_lt_of_le Z_h6.out hb.size)
      have W_h7 : Hid (OwnF h7 (w5.heap.size + 1) (.slice A9 (xs ++ [x]).length c9) (xs ++ [x])) := Lib.hid (OwnG.step W_h6.out hb)
      clear T_h6 R_h6 K_h6 P_h6 F_h6 B_h6 I_h6 Z_h6 W_h6
      clear hHeld hb
      go_wp2_with fail
      refine hK.out _ _ ⟨T_h7.out, P_h7.out, F_h7.out⟩ (fun hHeld => ?_)
      clear hK K
      try simp only [Act.put, List.setIfInBounds_toArray, List.set_cons_zero, List.set_cons_succ]
      refine wpAnyH_ready (rs := [7]) (by kernel_rfl) (by simp) ?_
      refine (AllReadyH.cons (get_ops _ _ _ rfl) (fun K hK => ?_) AllReadyH.nil)
      refine S2.wp_store_all 27 _ _ rfl rfl (w.heap.size + 1 + 1) (by go_simp) (wcs L A9 c9 (xs ++ [x]) A5 c5 X5 n5) (by first | rfl | go_simp) 27 (wcs 0 none 0 [] none 0 [] 0) R_h7.out winSize rfl (ones rfl) ?_
      intro h8 hM hP
      have R_h8 : Hid (BK 27 h8 (w.heap.size + 1 + 1) (wcs L A9 c9 (xs ++ [x]) A5 c5 X5 n5)) := Lib.hid (hM)
      have T_h8 : Hid (BK 27 h8 w.heap.size (wcs L A c xs A2 c2 X l)) := Lib.hid (hP.other T_h7.out (by have := ZP.out; have := ZF.out; omega))
      have K_h8 : Hid (BK 39 h8 (w.heap.size + 1 + 1 + 1) zeroPk) := Lib.hid (hP.other K_h7.out (by have := ZP.out; have := ZF.out; omega))
      have P_h8 : Hid (BK 25 h8 w4.heap.size [.slice A5 X5.length c5, .int .i64 n5]) := Lib.hid (hP.other P_h7.out (by have := ZP.out; have := ZF.out; omega))
      have F_h8 : Hid (BK 60 h8 w5.heap.size (gF x)) := Lib.hid (hP.other F_h7.out (by have := ZP.out; have := ZF.out; omega))
      have B_h8 : Hid (Below w.heap.size w h8) := Lib.hid (hP.below B_h7.out (by omega))
      have I_h8 : Hid (S2.IL h8 h8.heap.size A5 X5) := Lib.hid (ILput I_h7.out hP (fun hn b o e => by have := HN5.out b o e; omega))
      have Z_h8 : Hid (w5.heap.size < h8.heap.size) := Lib.hid ((by rw [hP.size]; exact Z_h7.out))
      have W_h8 : Hid (OwnF h8 (w5.heap.size + 1) (.slice A9 (xs ++ [x]).length c9) (xs ++ [x])) := Lib.hid (W_h7.out.putA hP (fun q n c e => by have := ownG_lt W_h7.out q n c e; have := ZP.out; have := ZF.out; omega))
      clear T_h7 R_h7 K_h7 P_h7 F_h7 B_h7 I_h7 Z_h7 W_h7
      clear hM hP hHeld
      refine hK.out _ _ ⟨T_h8.out, P_h8.out, F_h8.out⟩ (fun hHeld => ?_)
      clear hK K
      try simp only [Act.put, List.setIfInBounds_toArray, List.set_cons_zero, List.set_cons_succ]
      refine wpAnyH_ready (rs := [8]) (by kernel_rfl) (by simp) ?_
      refine (AllReadyH.cons (get_ops _ _ _ rfl) (fun K hK => ?_) AllReadyH.nil)
      refine S2.wp_store_all 39 _ _ rfl rfl (w.heap.size + 1 + 1 + 1) (by go_simp) (pkC (pubP x.f false) (pubA x.a x.c)) (by first | rfl | go_simp) 39 zeroPk K_h8.out pktSize rfl (pkOnes _ _) ?_
      intro h9 hM hP
      have K_h9 : Hid (BK 39 h9 (w.heap.size + 1 + 1 + 1) (pkC (pubP x.f false) (pubA x.a x.c))) := Lib.hid (hM)
      have T_h9 : Hid (BK 27 h9 w.heap.size (wcs L A c xs A2 c2 X l)) := Lib.hid (hP.other T_h8.out (by have := ZP.out; have := ZF.out; omega))
      have R_h9 : Hid (BK 27 h9 (w.heap.size + 1 + 1) (wcs L A9 c9 (xs ++ [x]) A5 c5 X5 n5)) := Lib.hid (hP.other R_h8.out (by have := ZP.out; have := ZF.out; omega))
      have P_h9 : Hid (BK 25 h9 w4.heap.size [.slice A5 X5.length c5, .int .i64 n5]) := Lib.hid (hP.other P_h8.out (by have := ZP.out; have := ZF.out; omega))
      have F_h9 : Hid (BK 60 h9 w5.heap.size (gF x)) := Lib.hid (hP.other F_h8.out (by have := ZP.out; have := ZF.out; omega))
      have B_h9 : Hid (Below w.heap.size w h9) := Lib.hid (hP.below B_h8.out (by omega))
      have I_h9 : Hid (S2.IL h9 h9.heap.size A5 X5) := Lib.hid (ILput I_h8.out hP (fun hn b o e => by have := HN5.out b o e; omega))
      have Z_h9 : Hid (w5.heap.size < h9.heap.size) := Lib.hid ((by rw [hP.size]; exact Z_h8.out))
      have W_h9 : Hid (OwnF h9 (w5.heap.size + 1) (.slice A9 (xs ++ [x]).length c9) (xs ++ [x])) := Lib.hid (W_h8.out.putA hP (fun q n c e => by have := ownG_lt W_h8.out q n c e; have := ZP.out; have := ZF.out; omega))
      clear T_h8 R_h8 K_h8 P_h8 F_h8 B_h8 I_h8 Z_h8 W_h8
      clear hM hP hHeld
      refine hK.out _ _ ⟨T_h9.out, P_h9.out, F_h9.out⟩ (fun hHeld => ?_)
      clear hK K
      try simp only [Act.put, List.setIfInBounds_toArray, List.set_cons_zero, List.set_cons_succ]
      refine wpAnyH_take (i := 9) (v := .int .i64 0) (get_ops _ _ _ rfl) (by kernel_rfl) (by kernel_rfl) (by kernel_rfl) (fun _ _ _ h => h) (Or.inl ⟨by rfl, fun wS hSw => by (try dsimp only at hSw); go_simp⟩) hHeld ?_
      try simp only [Act.put, List.setIfInBounds_toArray, List.set_cons_zero, List.set_cons_succ]
      refine wpAnyH_done (by kernel_rfl) ?_ _
      go_wp2_with fail
      rw [← HRR.out]
      obtain ⟨A9x, c9x, hv9x, _, hfi9⟩ := OwnG.ret gF_len W_h9.out
      simp only [Value.slice.injEq] at hv9x
      obtain ⟨rfl, _, rfl⟩ := hv9x
      have HMP : Hid ((xs ++ [x]).map FE.f = xs.map FE.f ++ [⟨n5, 1, m⟩]) := Lib.hid (by rw [List.map_append, List.map_cons, List.map_nil, HXM.out])
      rw [← HXM.out]
      exact bodyPost_ret (v := .tuple #[wv L A9 c9 (xs ++ [x]) A5 c5 X5 n5, pkV (pubP x.f false) (pubA x.a x.c), .int .i64 0]) (res221 rfl _ _ (w.heap.size + 1 + 1) (w.heap.size + 1 + 1 + 1) 27 39 (wcs L A9 c9 (xs ++ [x]) A5 c5 X5 n5) (pkC (pubP x.f false) (pubA x.a x.c)) _ _ _ rfl rfl rfl R_h9.out K_h9.out Tryz.underlying27 rfl winSize Tryz.underlying39 rfl pktSize) rfl ⟨A9, c9, xs ++ [x], A5, c5, x.a, x.c, rfl, by rw [HMP.out, HXM.out], ⟨⟨hfi9, fun y hy => (by
    rcases List.mem_append.1 hy with hy | hy
    · exact (HW.out.1.step B_h9.out).2 y hy
    · simp at hy; subst hy; exact HXA.out.step B_h9.out)⟩, HC9.out, I_h9.out, HC5.out⟩, HXA.out.step B_h9.out, B_h9.out⟩
    · simp only [fV, gF]
      go_simp
      obtain ⟨vb, hvb⟩ : ∃ vb, vb = h2.heap.size := ⟨_, rfl⟩
      refine name_world (C := fun w9 => K _ w9) (h2.alloc (.cells (gF x).toArray 60)) ?_
      intro h3 hh3
      have hb : Below h2.heap.size h2 h3 := by rw [hh3]; exact S2.below_new _ _
      have hN : BK 60 h3 vb (gF x) := by rw [hh3, hvb]; exact BK.new _ _ _
      have HVQ : Hid (vb ≠ vq) := Lib.hid (by have := ownG_lt Y_h2.out vq 0 0 rfl; omega)
      have T_h3 : Hid (BK 27 h3 w.heap.size (wcs L A c xs A2 c2 X l)) := Lib.hid (T_h2.out.step hb)
      have R_h3 : Hid (BK 27 h3 (w.heap.size + 1 + 1) (wcs 0 none 0 [] none 0 [] 0)) := Lib.hid (R_h2.out.step hb)
      have K_h3 : Hid (BK 39 h3 (w.heap.size + 1 + 1 + 1) zeroPk) := Lib.hid (K_h2.out.step hb)
      have P_h3 : Hid (BK 25 h3 w4.heap.size [.slice A5 X5.length c5, .int .i64 n5]) := Lib.hid (P_h2.out.step hb)
      have F_h3 : Hid (BK 60 h3 w5.heap.size (gF x)) := Lib.hid (F_h2.out.step hb)
      have B_h3 : Hid (Below w.heap.size w h3) := Lib.hid (stepB B_h2.out hb)
      have I_h3 : Hid (S2.IL h3 h3.heap.size A5 X5) := Lib.hid (CL.step I_h2.out hb)
      have Z_h3 : Hid (w5.heap.size < h3.heap.size) := Lib.hid (Nat.lt_of_lt_of_le Z_h2.out hb.size)
      have Y_h3 : Hid (OwnF h3 (w5.heap.size + 1) (.slice (some ⟨vq, 0, none⟩) 0 0) []) := Lib.hid (OwnG.step Y_h2.out hb)
      clear T_h2 R_h2 K_h2 P_h2 F_h2 B_h2 I_h2 Z_h2 Y_h2
      have V_h3 := Lib.hid hN
      try rw [← hvb]
      clear hHeld hb hN hh3 hvb
      refine hK.out _ _ ⟨T_h3.out, F_h3.out⟩ (fun hHeld => ?_)
      clear hK K
      try simp only [Act.put, List.setIfInBounds_toArray, List.set_cons_zero, List.set_cons_succ]
      refine wpAnyH_ready (rs := [3]) (by kernel_rfl) (by simp) ?_
      refine (AllReadyH.cons (get_ops _ _ _ rfl) (fun K hK => ?_) AllReadyH.nil)
      rw [if_pos (by rfl)]
      have hoy := Y_h3.out
      refine oper_appFs (.tmp 40) (.tmp 42) rfl (w5.heap.size + 1) (.slice (some ⟨vq, 0, none⟩) 0 0) [] xs (.slice A xs.length c) (by go_simp) hoy (by go_simp) (GL.src gF_len gF_one (HW.out.1.step B_h3.out).1 Tryz.underlying22 c) Z_h3.out (by simp; omega) ?_
      intro v1 h4 hown1 hgr hof
      obtain ⟨vv, hvv⟩ : ∃ vv : Value, vv = (.slice (some ⟨vq, 0, none⟩) 0 0) := ⟨_, rfl⟩
      rw [← hvv] at hoy hgr hof
      have hof0 : ∀ b, b < w5.heap.size + 1 → Off2 vv b := fun b hb2 q n c e2 => by have := ownG_lt hoy q n c e2; omega
      have T_h4 : Hid (BK 27 h4 w.heap.size (wcs L A c xs A2 c2 X l)) := Lib.hid (BK.grown T_h3.out hoy hgr (hof0 _ (by have := ZP.out; have := ZF.out; omega)))
      have R_h4 : Hid (BK 27 h4 (w.heap.size + 1 + 1) (wcs 0 none 0 [] none 0 [] 0)) := Lib.hid (BK.grown R_h3.out hoy hgr (hof0 _ (by have := ZP.out; have := ZF.out; omega)))
      have K_h4 : Hid (BK 39 h4 (w.heap.size + 1 + 1 + 1) zeroPk) := Lib.hid (BK.grown K_h3.out hoy hgr (hof0 _ (by have := ZP.out; have := ZF.out; omega)))
      have P_h4 : Hid (BK 25 h4 w4.heap.size [.slice A5 X5.length c5, .int .i64 n5]) := Lib.hid (BK.grown P_h3.out hoy hgr (hof0 _ (by have := ZP.out; have := ZF.out; omega)))
      have F_h4 : Hid (BK 60 h4 w5.heap.size (gF x)) := Lib.hid (BK.grown F_h3.out hoy hgr (hof0 _ (by have := ZP.out; have := ZF.out; omega)))
      have B_h4 : Hid (Below w.heap.size w h4) := Lib.hid (Below.grown' B_h3.out hoy hgr B_h3.out.size (by have := ZP.out; have := ZF.out; omega))
      have I_h4 : Hid (S2.IL h4 h4.heap.size A5 X5) := Lib.hid (IL.grown I_h3.out hoy hgr (fun b o e hn => hof0 b (by have := HI5B.out b o e; omega)))
      have Z_h4 : Hid (w5.heap.size < h4.heap.size) := Lib.hid (Nat.lt_of_lt_of_le Z_h3.out hgr.size)
      have V_h4 : Hid (BK 60 h4 vb (gF x)) := Lib.hid (BK.grown V_h3.out hoy hgr (fun q n c e2 => by rw [hvv] at e2; have := HVQ.out; simp only [Value.slice.injEq, Option.some.injEq, Addr.mk.injEq, and_true] at e2; omega))
      have HO1 : Hid (Off2 v1 vb) := Lib.hid (fun q n c e2 => by
    rcases hof q n c e2 with ⟨n2, c9, e3⟩ | h3
    · rw [hvv] at e3; have := HVQ.out; simp only [Value.slice.injEq, Option.some.injEq, Addr.mk.injEq, and_true] at e3; omega
    · have := V_h3.out.lt; omega)
      have U_h4 : Hid (OwnF h4 (w5.heap.size + 1) v1 xs) := Lib.hid (by simpa using hown1)
      clear hoy hown1 hgr hof hof0 hHeld T_h3 R_h3 K_h3 P_h3 F_h3 B_h3 I_h3 Z_h3 Y_h3 V_h3
      clear hvv vv
      refine hK.out _ _ ⟨T_h4.out, F_h4.out⟩ (fun hHeld => ?_)
      clear hK K
      try simp only [Act.put, List.setIfInBounds_toArray, List.set_cons_zero, List.set_cons_succ]
      refine wpAnyH_ready (rs := [6]) (by kernel_rfl) (by simp) ?_
      refine (AllReadyH.cons (get_ops _ _ _ rfl) (fun K hK => ?_) AllReadyH.nil)
      rw [if_pos (by rfl)]
      have hoy := U_h4.out
      refine oper_appF (.tmp 43) (.tmp 45) rfl (w5.heap.size + 1) v1 xs x vb (by go_simp) hoy (by go_simp) V_h4.out Z_h4.out (by omega) ?_
      intro v3 h5 hown3 hgr
      obtain ⟨vv, hvv⟩ : ∃ vv : Value, vv = v1 := ⟨_, rfl⟩
      rw [← hvv] at hoy hgr
      have hof0 : ∀ b, b < w5.heap.size + 1 → Off2 vv b := fun b hb2 q n c e2 => by have := ownG_lt hoy q n c e2; omega
      have T_h5 : Hid (BK 27 h5 w.heap.size (wcs L A c xs A2 c2 X l)) := Lib.hid (BK.grown T_h4.out hoy hgr (hof0 _ (by have := ZP.out; have := ZF.out; omega)))
      have R_h5 : Hid (BK 27 h5 (w.heap.size + 1 + 1) (wcs 0 none 0 [] none 0 [] 0)) := Lib.hid (BK.grown R_h4.out hoy hgr (hof0 _ (by have := ZP.out; have := ZF.out; omega)))
      have K_h5 : Hid (BK 39 h5 (w.heap.size + 1 + 1 + 1) zeroPk) := Lib.hid (BK.grown K_h4.out hoy hgr (hof0 _ (by have := ZP.out; have := ZF.out; omega)))
      have P_h5 : Hid (BK 25 h5 w4.heap.size [.slice A5 X5.length c5, .int .i64 n5]) := Lib.hid (BK.grown P_h4.out hoy hgr (hof0 _ (by have := ZP.out; have := ZF.out; omega)))
      have F_h5 : Hid (BK 60 h5 w5.heap.size (gF x)) := Lib.hid (BK.grown F_h4.out hoy hgr (hof0 _ (by have := ZP.out; have := ZF.out; omega)))
      have B_h5 : Hid (Below w.heap.size w h5) := Lib.hid (Below.grown' B_h4.out hoy hgr B_h4.out.size (by have := ZP.out; have := ZF.out; omega))
      have I_h5 : Hid (S2.IL h5 h5.heap.size A5 X5) := Lib.hid (IL.grown I_h4.out hoy hgr (fun b o e hn => hof0 b (by have := HI5B.out b o e; omega)))
      have Z_h5 : Hid (w5.heap.size < h5.heap.size) := Lib.hid (Nat.lt_of_lt_of_le Z_h4.out hgr.size)
      have W_h5 : Hid (OwnF h5 (w5.heap.size + 1) v3 (xs ++ [x])) := Lib.hid hown3
      clear hoy hown3 hgr hof0 hHeld T_h4 R_h4 K_h4 P_h4 F_h4 B_h4 I_h4 Z_h4 V_h4 U_h4
      clear hvv vv
      refine hK.out _ _ ⟨T_h5.out, F_h5.out⟩ (fun hHeld => ?_)
      clear hK K
      try simp only [Act.put, List.setIfInBounds_toArray, List.set_cons_zero, List.set_cons_succ]
      refine wpAnyH_take (i := 7) (v := v3) (get_ops _ _ _ rfl) (by kernel_rfl) (by kernel_rfl) (by kernel_rfl) (fun _ _ _ h => h) (Or.inl ⟨by rfl, fun wS hSw => by (try dsimp only at hSw); go_simp⟩) hHeld ?_
      try simp only [Act.put, List.setIfInBounds_toArray, List.set_cons_zero, List.set_cons_succ]
      refine wpAnyH_done (by kernel_rfl) ?_ _
      go_upto_region 11 with fail
      obtain ⟨h6, hh6⟩ : ∃ h6, h6 = World.drew h5 := ⟨_, rfl⟩
      have hbD : Below h5.heap.size h5 h6 := by rw [hh6]; exact (Below.refl _ _).drew
      have T_h6 : Hid (BK 27 h6 w.heap.size (wcs L A c xs A2 c2 X l)) := Lib.hid (T_h5.out.step hbD)
      have R_h6 : Hid (BK 27 h6 (w.heap.size + 1 + 1) (wcs 0 none 0 [] none 0 [] 0)) := Lib.hid (R_h5.out.step hbD)
      have K_h6 : Hid (BK 39 h6 (w.heap.size + 1 + 1 + 1) zeroPk) := Lib.hid (K_h5.out.step hbD)
      have P_h6 : Hid (BK 25 h6 w4.heap.size [.slice A5 X5.length c5, .int .i64 n5]) := Lib.hid (P_h5.out.step hbD)
      have F_h6 : Hid (BK 60 h6 w5.heap.size (gF x)) := Lib.hid (F_h5.out.step hbD)
      have B_h6 : Hid (Below w.heap.size w h6) := Lib.hid (stepB B_h5.out hbD)
      have I_h6 : Hid (S2.IL h6 h6.heap.size A5 X5) := Lib.hid (CL.step I_h5.out hbD)
      have Z_h6 : Hid (w5.heap.size < h6.heap.size) := Lib.hid (Nat.lt_of_lt_of_le Z_h5.out hbD.size)
      have W_h6 : Hid (OwnF h6 (w5.heap.size + 1) v3 (xs ++ [x])) := Lib.hid (OwnG.step W_h5.out hbD)
      clear T_h5 R_h5 K_h5 P_h5 F_h5 B_h5 I_h5 Z_h5 W_h5
      have hbd : (fun w' => BK 27 w' w.heap.size (wcs L A c xs A2 c2 X l) ∧ BK 25 w' w4.heap.size [.slice A5 X5.length c5, .int .i64 n5] ∧ BK 60 w' w5.heap.size (gF x)) (World.drew h5) := by rw [← hh6]; exact ⟨T_h6.out, P_h6.out, F_h6.out⟩
      have hSD : (fun w' => BK 27 w' w.heap.size (wcs L A c xs A2 c2 X l) ∧ BK 25 w' w4.heap.size [.slice A5 X5.length c5, .int .i64 n5] ∧ BK 60 w' w5.heap.size (gF x)) h6 := ⟨T_h6.out, P_h6.out, F_h6.out⟩
      have HWD := Lib.hid hh6
      clear hh6 hbD
      refine wp_region_held_drew (S := fun w' => BK 27 w' w.heap.size (wcs L A c xs A2 c2 X l) ∧ BK 25 w' w4.heap.size [.slice A5 X5.length c5, .int .i64 n5] ∧ BK 60 w' w5.heap.size (gF x)) (by kernel_rfl) hbd (fun hHeld => ?_)
      rw [← HWD.out]
      clear hHeld
      have hHeld := hSD
      clear hSD hbd HWD
      refine wpAnyH_take (i := 0) (v := .pointer (some ⟨w.heap.size, 0, none⟩)) (get_ops _ _ _ rfl) (by kernel_rfl) (by kernel_rfl) (by kernel_rfl) (fun _ _ _ h => h) (Or.inl ⟨by rfl, fun wS hSw => by (try dsimp only at hSw); go_simp⟩) hHeld ?_
      try simp only [Act.put, List.setIfInBounds_toArray, List.set_cons_zero, List.set_cons_succ]
      refine wpAnyH_take (i := 1) (v := .int .i64 L) (get_ops _ _ _ rfl) (by kernel_rfl) (by kernel_rfl) (by kernel_rfl) (fun _ _ _ h => h) (Or.inl ⟨by rfl, fun wS hSw => by (try dsimp only at hSw); have cS : wS.cell? ⟨w.heap.size, 0, none⟩ = some (.int .i64 L) := hSw.1.cell 0 rfl; clear hSw; go_simp⟩) hHeld ?_
      try simp only [Act.put, List.setIfInBounds_toArray, List.set_cons_zero, List.set_cons_succ]
      refine wpAnyH_take (i := 2) (v := v3) (get_ops _ _ _ rfl) (by kernel_rfl) (by kernel_rfl) (by kernel_rfl) (fun _ _ _ h => h) (Or.inl ⟨by rfl, fun wS hSw => by (try dsimp only at hSw); go_simp⟩) hHeld ?_
      try simp only [Act.put, List.setIfInBounds_toArray, List.set_cons_zero, List.set_cons_succ]
      refine wpAnyH_take (i := 3) (v := S2.pv A5 c5 X5 n5) (get_ops _ _ _ rfl) (by kernel_rfl) (by kernel_rfl) (by kernel_rfl) (fun _ _ _ h => h) (Or.inl ⟨by rfl, fun wS hSw => by (try dsimp only at hSw); exact exec_load 25 _ rfl ⟨w4.heap.size, 0, none⟩ (by go_simp) _ (S2.run_load_all hSw.2.1 Tryz.underlying25 rfl S2.infoP2)⟩) hHeld ?_
      try simp only [Act.put, List.setIfInBounds_toArray, List.set_cons_zero, List.set_cons_succ]
      obtain ⟨A9, c9, hv9, hc9, hnew9, hgl9⟩ := OwnG.retB gF_len W_h6.out
      subst hv9
      have HC9 := Lib.hid hc9
      clear hc9 hgl9 hnew9
      refine wpAnyH_take (i := 4) (v := wv L A9 c9 (xs ++ [x]) A5 c5 X5 n5) (get_ops _ _ _ rfl) (by kernel_rfl) (by kernel_rfl) (by kernel_rfl) (fun _ _ _ h => h) (Or.inl ⟨by rfl, fun wS hSw => by (try dsimp only at hSw); go_simp⟩) hHeld ?_
      try simp only [Act.put, List.setIfInBounds_toArray, List.set_cons_zero, List.set_cons_succ]
      refine wpAnyH_take (i := 5) (v := fV x) (get_ops _ _ _ rfl) (by kernel_rfl) (by kernel_rfl) (by kernel_rfl) (fun _ _ _ h => h) (Or.inl ⟨by rfl, fun wS hSw => by (try dsimp only at hSw); exact exec_load 60 _ rfl ⟨w5.heap.size, 0, none⟩ (by go_simp) _ (bk_item hSw.2.2)⟩) hHeld ?_
      try simp only [Act.put, List.setIfInBounds_toArray, List.set_cons_zero, List.set_cons_succ]
      refine wpAnyH_ready (rs := [6]) (by kernel_rfl) (by simp) ?_
      refine (AllReadyH.cons (get_ops _ _ _ rfl) (fun K hK => ?_) AllReadyH.nil)
      go_simp
      refine (HPU.out x h6).mono ?_
      rintro e h7 ⟨rfl, hb⟩
      have T_h7 : Hid (BK 27 h7 w.heap.size (wcs L A c xs A2 c2 X l)) := Lib.hid (T_h6.out.step hb)
      have R_h7 : Hid (BK 27 h7 (w.heap.size + 1 + 1) (wcs 0 none 0 [] none 0 [] 0)) := Lib.hid (R_h6.out.step hb)
      have K_h7 : Hid (BK 39 h7 (w.heap.size + 1 + 1 + 1) zeroPk) := Lib.hid (K_h6.out.step hb)
      have P_h7 : Hid (BK 25 h7 w4.heap.size [.slice A5 X5.length c5, .int .i64 n5]) := Lib.hid (P_h6.out.step hb)
      have F_h7 : Hid (BK 60 h7 w5.heap.size (gF x)) := Lib.hid (F_h6.out.step hb)
      have B_h7 : Hid (Below w.heap.size w h7) := Lib.hid (stepB B_h6.out hb)
      have I_h7 : Hid (S2.IL h7 h7.heap.size A5 X5) := Lib.hid (CL.step I_h6.out hb)
      have Z_h7 : Hid (w5.heap.size < h7.heap.size) := Lib.hid (Nat.lt_of_lt_of_le Z_h6.out hb.size)
      have W_h7 : Hid (OwnF h7 (w5.heap.size + 1) (.slice A9 (xs ++ [x]).length c9) (xs ++ [x])) := Lib.hid (OwnG.step W_h6.out hb)
      clear T_h6 R_h6 K_h6 P_h6 F_h6 B_h6 I_h6 Z_h6 W_h6
      clear hHeld hb
      go_wp2_with fail
      refine hK.out _ _ ⟨T_h7.out, P_h7.out, F_h7.out⟩ (fun hHeld => ?_)
      clear hK K
      try simp only [Act.put, List.setIfInBounds_toArray, List.set_cons_zero, List.set_cons_succ]
      refine wpAnyH_ready (rs := [7]) (by kernel_rfl) (by simp) ?_
      refine (AllReadyH.cons (get_ops _ _ _ rfl) (fun K hK => ?_) AllReadyH.nil)
      refine S2.wp_store_all 27 _ _ rfl rfl (w.heap.size + 1 + 1) (by go_simp) (wcs L A9 c9 (xs ++ [x]) A5 c5 X5 n5) (by first | rfl | go_simp) 27 (wcs 0 none 0 [] none 0 [] 0) R_h7.out winSize rfl (ones rfl) ?_
      intro h8 hM hP
      have R_h8 : Hid (BK 27 h8 (w.heap.size + 1 + 1) (wcs L A9 c9 (xs ++ [x]) A5 c5 X5 n5)) := Lib.hid (hM)
      have T_h8 : Hid (BK 27 h8 w.heap.size (wcs L A c xs A2 c2 X l)) := Lib.hid (hP.other T_h7.out (by have := ZP.out; have := ZF.out; omega))
      have K_h8 : Hid (BK 39 h8 (w.heap.size + 1 + 1 + 1) zeroPk) := Lib.hid (hP.other K_h7.out (by have := ZP.out; have := ZF.out; omega))
      have P_h8 : Hid (BK 25 h8 w4.heap.size [.slice A5 X5.length c5, .int .i64 n5]) := Lib.hid (hP.other P_h7.out (by have := ZP.out; have := ZF.out; omega))
      have F_h8 : Hid (BK 60 h8 w5.heap.size (gF x)) := Lib.hid (hP.other F_h7.out (by have := ZP.out; have := ZF.out; omega))
      have B_h8 : Hid (Below w.heap.size w h8) := Lib.hid (hP.below B_h7.out (by omega))
      have I_h8 : Hid (S2.IL h8 h8.heap.size A5 X5) := Lib.hid (ILput I_h7.out hP (fun hn b o e => by have := HN5.out b o e; omega))
      have Z_h8 : Hid (w5.heap.size < h8.heap.size) := Lib.hid ((by rw [hP.size]; exact Z_h7.out))
      have W_h8 : Hid (OwnF h8 (w5.heap.size + 1) (.slice A9 (xs ++ [x]).length c9) (xs ++ [x])) := Lib.hid (W_h7.out.putA hP (fun q n c e => by have := ownG_lt W_h7.out q n c e; have := ZP.out; have := ZF.out; omega))
      clear T_h7 R_h7 K_h7 P_h7 F_h7 B_h7 I_h7 Z_h7 W_h7
      clear hM hP hHeld
      refine hK.out _ _ ⟨T_h8.out, P_h8.out, F_h8.out⟩ (fun hHeld => ?_)
      clear hK K
      try simp only [Act.put, List.setIfInBounds_toArray, List.set_cons_zero, List.set_cons_succ]
      refine wpAnyH_ready (rs := [8]) (by kernel_rfl) (by simp) ?_
      refine (AllReadyH.cons (get_ops _ _ _ rfl) (fun K hK => ?_) AllReadyH.nil)
      refine S2.wp_store_all 39 _ _ rfl rfl (w.heap.size + 1 + 1 + 1) (by go_simp) (pkC (pubP x.f false) (pubA x.a x.c)) (by first | rfl | go_simp) 39 zeroPk K_h8.out pktSize rfl (pkOnes _ _) ?_
      intro h9 hM hP
      have K_h9 : Hid (BK 39 h9 (w.heap.size + 1 + 1 + 1) (pkC (pubP x.f false) (pubA x.a x.c))) := Lib.hid (hM)
      have T_h9 : Hid (BK 27 h9 w.heap.size (wcs L A c xs A2 c2 X l)) := Lib.hid (hP.other T_h8.out (by have := ZP.out; have := ZF.out; omega))
      have R_h9 : Hid (BK 27 h9 (w.heap.size + 1 + 1) (wcs L A9 c9 (xs ++ [x]) A5 c5 X5 n5)) := Lib.hid (hP.other R_h8.out (by have := ZP.out; have := ZF.out; omega))
      have P_h9 : Hid (BK 25 h9 w4.heap.size [.slice A5 X5.length c5, .int .i64 n5]) := Lib.hid (hP.other P_h8.out (by have := ZP.out; have := ZF.out; omega))
      have F_h9 : Hid (BK 60 h9 w5.heap.size (gF x)) := Lib.hid (hP.other F_h8.out (by have := ZP.out; have := ZF.out; omega))
      have B_h9 : Hid (Below w.heap.size w h9) := Lib.hid (hP.below B_h8.out (by omega))
      have I_h9 : Hid (S2.IL h9 h9.heap.size A5 X5) := Lib.hid (ILput I_h8.out hP (fun hn b o e => by have := HN5.out b o e; omega))
      have Z_h9 : Hid (w5.heap.size < h9.heap.size) := Lib.hid ((by rw [hP.size]; exact Z_h8.out))
      have W_h9 : Hid (OwnF h9 (w5.heap.size + 1) (.slice A9 (xs ++ [x]).length c9) (xs ++ [x])) := Lib.hid (W_h8.out.putA hP (fun q n c e => by have := ownG_lt W_h8.out q n c e; have := ZP.out; have := ZF.out; omega))
      clear T_h8 R_h8 K_h8 P_h8 F_h8 B_h8 I_h8 Z_h8 W_h8
      clear hM hP hHeld
      refine hK.out _ _ ⟨T_h9.out, P_h9.out, F_h9.out⟩ (fun hHeld => ?_)
      clear hK K
      try simp only [Act.put, List.setIfInBounds_toArray, List.set_cons_zero, List.set_cons_succ]
      refine wpAnyH_take (i := 9) (v := .int .i64 0) (get_ops _ _ _ rfl) (by kernel_rfl) (by kernel_rfl) (by kernel_rfl) (fun _ _ _ h => h) (Or.inl ⟨by rfl, fun wS hSw => by (try dsimp only at hSw); go_simp⟩) hHeld ?_
      try simp only [Act.put, List.setIfInBounds_toArray, List.set_cons_zero, List.set_cons_succ]
      refine wpAnyH_done (by kernel_rfl) ?_ _
      go_wp2_with fail
      rw [← HRR.out]
      obtain ⟨A9x, c9x, hv9x, _, hfi9⟩ := OwnG.ret gF_len W_h9.out
      simp only [Value.slice.injEq] at hv9x
      obtain ⟨rfl, _, rfl⟩ := hv9x
      have HMP : Hid ((xs ++ [x]).map FE.f = xs.map FE.f ++ [⟨n5, 1, m⟩]) := Lib.hid (by rw [List.map_append, List.map_cons, List.map_nil, HXM.out])
      rw [← HXM.out]
      exact bodyPost_ret (v := .tuple #[wv L A9 c9 (xs ++ [x]) A5 c5 X5 n5, pkV (pubP x.f false) (pubA x.a x.c), .int .i64 0]) (res221 rfl _ _ (w.heap.size + 1 + 1) (w.heap.size + 1 + 1 + 1) 27 39 (wcs L A9 c9 (xs ++ [x]) A5 c5 X5 n5) (pkC (pubP x.f false) (pubA x.a x.c)) _ _ _ rfl rfl rfl R_h9.out K_h9.out Tryz.underlying27 rfl winSize Tryz.underlying39 rfl pktSize) rfl ⟨A9, c9, xs ++ [x], A5, c5, x.a, x.c, rfl, by rw [HMP.out, HXM.out], ⟨⟨hfi9, fun y hy => (by
    rcases List.mem_append.1 hy with hy | hy
    · exact (HW.out.1.step B_h9.out).2 y hy
    · simp at hy; subst hy; exact HXA.out.step B_h9.out)⟩, HC9.out, I_h9.out, HC5.out⟩, HXA.out.step B_h9.out, B_h9.out⟩
  · simp only [fV, gF]
    go_simp
    obtain ⟨vb, hvb⟩ : ∃ vb, vb = h1.heap.size := ⟨_, rfl⟩
    refine name_world (C := fun w9 => K _ w9) (h1.alloc (.cells (gF x).toArray 60)) ?_
    intro h2 hh2
    have hb : Below h1.heap.size h1 h2 := by rw [hh2]; exact S2.below_new _ _
    have hN : BK 60 h2 vb (gF x) := by rw [hh2, hvb]; exact BK.new _ _ _
    have T_h2 : Hid (BK 27 h2 w.heap.size (wcs L A c xs A2 c2 X l)) := Lib.hid (T_h1.out.step hb)
    have R_h2 : Hid (BK 27 h2 (w.heap.size + 1 + 1) (wcs 0 none 0 [] none 0 [] 0)) := Lib.hid (R_h1.out.step hb)
    have K_h2 : Hid (BK 39 h2 (w.heap.size + 1 + 1 + 1) zeroPk) := Lib.hid (K_h1.out.step hb)
    have P_h2 : Hid (BK 25 h2 w4.heap.size [.slice A5 X5.length c5, .int .i64 n5]) := Lib.hid (P_h1.out.step hb)
    have F_h2 : Hid (BK 60 h2 w5.heap.size (gF x)) := Lib.hid (F_h1.out.step hb)
    have B_h2 : Hid (Below w.heap.size w h2) := Lib.hid (stepB B_h1.out hb)
    have I_h2 : Hid (S2.IL h2 h2.heap.size A5 X5) := Lib.hid (CL.step I_h1.out hb)
    have Z_h2 : Hid (w5.heap.size < h2.heap.size) := Lib.hid (Nat.lt_of_lt_of_le Z_h1.out hb.size)
    clear T_h1 R_h1 K_h1 P_h1 F_h1 B_h1 I_h1 Z_h1
    have V_h2 := Lib.hid hN
    try rw [← hvb]
    clear hHeld hb hN hh2 hvb
    refine hK.out _ _ ⟨T_h2.out, F_h2.out⟩ (fun hHeld => ?_)
    clear hK K
    try simp only [Act.put, List.setIfInBounds_toArray, List.set_cons_zero, List.set_cons_succ]
    refine wpAnyH_ready (rs := [0]) (by kernel_rfl) (by simp) ?_
    refine (AllReadyH.cons (get_ops _ _ _ rfl) (fun K hK => ?_) AllReadyH.nil)
    go_simp
    obtain ⟨vq, hvq⟩ : ∃ vq, vq = h2.heap.size := ⟨_, rfl⟩
    refine name_world (C := fun w9 => K _ w9) (h2.alloc (.cells #[] 60)) ?_
    intro h3 hh3
    have hb : Below h2.heap.size h2 h3 := by rw [hh3]; exact S2.below_new _ _
    have hN : OwnF h3 (w5.heap.size + 1) (.slice (some ⟨vq, 0, none⟩) 0 0) [] := by rw [hh3, hvq]; exact OwnG.made _ 0 #[] _ Z_h2.out (by decide) rfl
    have HVQ : Hid (vb ≠ vq) := Lib.hid (by have := V_h2.out.lt; omega)
    have T_h3 : Hid (BK 27 h3 w.heap.size (wcs L A c xs A2 c2 X l)) := Lib.hid (T_h2.out.step hb)
    have R_h3 : Hid (BK 27 h3 (w.heap.size + 1 + 1) (wcs 0 none 0 [] none 0 [] 0)) := Lib.hid (R_h2.out.step hb)
    have K_h3 : Hid (BK 39 h3 (w.heap.size + 1 + 1 + 1) zeroPk) := Lib.hid (K_h2.out.step hb)
    have P_h3 : Hid (BK 25 h3 w4.heap.size [.slice A5 X5.length c5, .int .i64 n5]) := Lib.hid (P_h2.out.step hb)
    have F_h3 : Hid (BK 60 h3 w5.heap.size (gF x)) := Lib.hid (F_h2.out.step hb)
    have B_h3 : Hid (Below w.heap.size w h3) := Lib.hid (stepB B_h2.out hb)
    have I_h3 : Hid (S2.IL h3 h3.heap.size A5 X5) := Lib.hid (CL.step I_h2.out hb)
    have Z_h3 : Hid (w5.heap.size < h3.heap.size) := Lib.hid (Nat.lt_of_lt_of_le Z_h2.out hb.size)
    have V_h3 : Hid (BK 60 h3 vb (gF x)) := Lib.hid (V_h2.out.step hb)
    clear T_h2 R_h2 K_h2 P_h2 F_h2 B_h2 I_h2 Z_h2 V_h2
    have Y_h3 := Lib.hid hN
    try rw [← hvq]
    clear hHeld hb hN hh3 hvq
    refine hK.out _ _ ⟨T_h3.out, F_h3.out⟩ (fun hHeld => ?_)
    clear hK K
    try simp only [Act.put, List.setIfInBounds_toArray, List.set_cons_zero, List.set_cons_succ]
    refine wpAnyH_ready (rs := [3]) (by kernel_rfl) (by simp) ?_
    refine (AllReadyH.cons (get_ops _ _ _ rfl) (fun K hK => ?_) AllReadyH.nil)
    rw [if_pos (by rfl)]
    have hoy := Y_h3.out
    refine oper_appFs (.tmp 40) (.tmp 42) rfl (w5.heap.size + 1) (.slice (some ⟨vq, 0, none⟩) 0 0) [] xs (.slice A xs.length c) (by go_simp) hoy (by go_simp) (GL.src gF_len gF_one (HW.out.1.step B_h3.out).1 Tryz.underlying22 c) Z_h3.out (by simp; omega) ?_
    intro v1 h4 hown1 hgr hof
    obtain ⟨vv, hvv⟩ : ∃ vv : Value, vv = (.slice (some ⟨vq, 0, none⟩) 0 0) := ⟨_, rfl⟩
    rw [← hvv] at hoy hgr hof
    have hof0 : ∀ b, b < w5.heap.size + 1 → Off2 vv b := fun b hb2 q n c e2 => by have := ownG_lt hoy q n c e2; omega
    have T_h4 : Hid (BK 27 h4 w.heap.size (wcs L A c xs A2 c2 X l)) := Lib.hid (BK.grown T_h3.out hoy hgr (hof0 _ (by have := ZP.out; have := ZF.out; omega)))
    have R_h4 : Hid (BK 27 h4 (w.heap.size + 1 + 1) (wcs 0 none 0 [] none 0 [] 0)) := Lib.hid (BK.grown R_h3.out hoy hgr (hof0 _ (by have := ZP.out; have := ZF.out; omega)))
    have K_h4 : Hid (BK 39 h4 (w.heap.size + 1 + 1 + 1) zeroPk) := Lib.hid (BK.grown K_h3.out hoy hgr (hof0 _ (by have := ZP.out; have := ZF.out; omega)))
    have P_h4 : Hid (BK 25 h4 w4.heap.size [.slice A5 X5.length c5, .int .i64 n5]) := Lib.hid (BK.grown P_h3.out hoy hgr (hof0 _ (by have := ZP.out; have := ZF.out; omega)))
    have F_h4 : Hid (BK 60 h4 w5.heap.size (gF x)) := Lib.hid (BK.grown F_h3.out hoy hgr (hof0 _ (by have := ZP.out; have := ZF.out; omega)))
    have B_h4 : Hid (Below w.heap.size w h4) := Lib.hid (Below.grown' B_h3.out hoy hgr B_h3.out.size (by have := ZP.out; have := ZF.out; omega))
    have I_h4 : Hid (S2.IL h4 h4.heap.size A5 X5) := Lib.hid (IL.grown I_h3.out hoy hgr (fun b o e hn => hof0 b (by have := HI5B.out b o e; omega)))
    have Z_h4 : Hid (w5.heap.size < h4.heap.size) := Lib.hid (Nat.lt_of_lt_of_le Z_h3.out hgr.size)
    have V_h4 : Hid (BK 60 h4 vb (gF x)) := Lib.hid (BK.grown V_h3.out hoy hgr (fun q n c e2 => by rw [hvv] at e2; have := HVQ.out; simp only [Value.slice.injEq, Option.some.injEq, Addr.mk.injEq, and_true] at e2; omega))
    have HO1 : Hid (Off2 v1 vb) := Lib.hid (fun q n c e2 => by
    rcases hof q n c e2 with ⟨n2, c9, e3⟩ | h3
    · rw [hvv] at e3; have := HVQ.out; simp only [Value.slice.injEq, Option.some.injEq, Addr.mk.injEq, and_true] at e3; omega
    · have := V_h3.out.lt; omega)
    have U_h4 : Hid (OwnF h4 (w5.heap.size + 1) v1 xs) := Lib.hid (by simpa using hown1)
    clear hoy hown1 hgr hof hof0 hHeld T_h3 R_h3 K_h3 P_h3 F_h3 B_h3 I_h3 Z_h3 V_h3 Y_h3
    clear hvv vv
    refine hK.out _ _ ⟨T_h4.out, F_h4.out⟩ (fun hHeld => ?_)
    clear hK K
    try simp only [Act.put, List.setIfInBounds_toArray, List.set_cons_zero, List.set_cons_succ]
    refine wpAnyH_ready (rs := [6]) (by kernel_rfl) (by simp) ?_
    refine (AllReadyH.cons (get_ops _ _ _ rfl) (fun K hK => ?_) AllReadyH.nil)
    rw [if_pos (by rfl)]
    have hoy := U_h4.out
    refine oper_appF (.tmp 43) (.tmp 45) rfl (w5.heap.size + 1) v1 xs x vb (by go_simp) hoy (by go_simp) V_h4.out Z_h4.out (by omega) ?_
    intro v3 h5 hown3 hgr
    obtain ⟨vv, hvv⟩ : ∃ vv : Value, vv = v1 := ⟨_, rfl⟩
    rw [← hvv] at hoy hgr
    have hof0 : ∀ b, b < w5.heap.size + 1 → Off2 vv b := fun b hb2 q n c e2 => by have := ownG_lt hoy q n c e2; omega
    have T_h5 : Hid (BK 27 h5 w.heap.size (wcs L A c xs A2 c2 X l)) := Lib.hid (BK.grown T_h4.out hoy hgr (hof0 _ (by have := ZP.out; have := ZF.out; omega)))
    have R_h5 : Hid (BK 27 h5 (w.heap.size + 1 + 1) (wcs 0 none 0 [] none 0 [] 0)) := Lib.hid (BK.grown R_h4.out hoy hgr (hof0 _ (by have := ZP.out; have := ZF.out; omega)))
    have K_h5 : Hid (BK 39 h5 (w.heap.size + 1 + 1 + 1) zeroPk) := Lib.hid (BK.grown K_h4.out hoy hgr (hof0 _ (by have := ZP.out; have := ZF.out; omega)))
    have P_h5 : Hid (BK 25 h5 w4.heap.size [.slice A5 X5.length c5, .int .i64 n5]) := Lib.hid (BK.grown P_h4.out hoy hgr (hof0 _ (by have := ZP.out; have := ZF.out; omega)))
    have F_h5 : Hid (BK 60 h5 w5.heap.size (gF x)) := Lib.hid (BK.grown F_h4.out hoy hgr (hof0 _ (by have := ZP.out; have := ZF.out; omega)))
    have B_h5 : Hid (Below w.heap.size w h5) := Lib.hid (Below.grown' B_h4.out hoy hgr B_h4.out.size (by have := ZP.out; have := ZF.out; omega))
    have I_h5 : Hid (S2.IL h5 h5.heap.size A5 X5) := Lib.hid (IL.grown I_h4.out hoy hgr (fun b o e hn => hof0 b (by have := HI5B.out b o e; omega)))
    have Z_h5 : Hid (w5.heap.size < h5.heap.size) := Lib.hid (Nat.lt_of_lt_of_le Z_h4.out hgr.size)
    have W_h5 : Hid (OwnF h5 (w5.heap.size + 1) v3 (xs ++ [x])) := Lib.hid hown3
    clear hoy hown3 hgr hof0 hHeld T_h4 R_h4 K_h4 P_h4 F_h4 B_h4 I_h4 Z_h4 V_h4 U_h4
    clear hvv vv
    refine hK.out _ _ ⟨T_h5.out, F_h5.out⟩ (fun hHeld => ?_)
    clear hK K
    try simp only [Act.put, List.setIfInBounds_toArray, List.set_cons_zero, List.set_cons_succ]
    refine wpAnyH_take (i := 7) (v := v3) (get_ops _ _ _ rfl) (by kernel_rfl) (by kernel_rfl) (by kernel_rfl) (fun _ _ _ h => h) (Or.inl ⟨by rfl, fun wS hSw => by (try dsimp only at hSw); go_simp⟩) hHeld ?_
    try simp only [Act.put, List.setIfInBounds_toArray, List.set_cons_zero, List.set_cons_succ]
    refine wpAnyH_done (by kernel_rfl) ?_ _
    go_upto_region 11 with fail
    obtain ⟨h6, hh6⟩ : ∃ h6, h6 = World.drew h5 := ⟨_, rfl⟩
    have hbD : Below h5.heap.size h5 h6 := by rw [hh6]; exact (Below.refl _ _).drew
    have T_h6 : Hid (BK 27 h6 w.heap.size (wcs L A c xs A2 c2 X l)) := Lib.hid (T_h5.out.step hbD)
    have R_h6 : Hid (BK 27 h6 (w.heap.size + 1 + 1) (wcs 0 none 0 [] none 0 [] 0)) := Lib.hid (R_h5.out.step hbD)
    have K_h6 : Hid (BK 39 h6 (w.heap.size + 1 + 1 + 1) zeroPk) := Lib.hid (K_h5.out.step hbD)
    have P_h6 : Hid (BK 25 h6 w4.heap.size [.slice A5 X5.length c5, .int .i64 n5]) := Lib.hid (P_h5.out.step hbD)
    have F_h6 : Hid (BK 60 h6 w5.heap.size (gF x)) := Lib.hid (F_h5.out.step hbD)
    have B_h6 : Hid (Below w.heap.size w h6) := Lib.hid (stepB B_h5.out hbD)
    have I_h6 : Hid (S2.IL h6 h6.heap.size A5 X5) := Lib.hid (CL.step I_h5.out hbD)
    have Z_h6 : Hid (w5.heap.size < h6.heap.size) := Lib.hid (Nat.lt_of_lt_of_le Z_h5.out hbD.size)
    have W_h6 : Hid (OwnF h6 (w5.heap.size + 1) v3 (xs ++ [x])) := Lib.hid (OwnG.step W_h5.out hbD)
    clear T_h5 R_h5 K_h5 P_h5 F_h5 B_h5 I_h5 Z_h5 W_h5
    have hbd : (fun w' => BK 27 w' w.heap.size (wcs L A c xs A2 c2 X l) ∧ BK 25 w' w4.heap.size [.slice A5 X5.length c5, .int .i64 n5] ∧ BK 60 w' w5.heap.size (gF x)) (World.drew h5) := by rw [← hh6]; exact ⟨T_h6.out, P_h6.out, F_h6.out⟩
    have hSD : (fun w' => BK 27 w' w.heap.size (wcs L A c xs A2 c2 X l) ∧ BK 25 w' w4.heap.size [.slice A5 X5.length c5, .int .i64 n5] ∧ BK 60 w' w5.heap.size (gF x)) h6 := ⟨T_h6.out, P_h6.out, F_h6.out⟩
    have HWD := Lib.hid hh6
    clear hh6 hbD
    refine wp_region_held_drew (S := fun w' => BK 27 w' w.heap.size (wcs L A c xs A2 c2 X l) ∧ BK 25 w' w4.heap.size [.slice A5 X5.length c5, .int .i64 n5] ∧ BK 60 w' w5.heap.size (gF x)) (by kernel_rfl) hbd (fun hHeld => ?_)
    rw [← HWD.out]
    clear hHeld
    have hHeld := hSD
    clear hSD hbd HWD
    refine wpAnyH_take (i := 0) (v := .pointer (some ⟨w.heap.size, 0, none⟩)) (get_ops _ _ _ rfl) (by kernel_rfl) (by kernel_rfl) (by kernel_rfl) (fun _ _ _ h => h) (Or.inl ⟨by rfl, fun wS hSw => by (try dsimp only at hSw); go_simp⟩) hHeld ?_
    try simp only [Act.put, List.setIfInBounds_toArray, List.set_cons_zero, List.set_cons_succ]
    refine wpAnyH_take (i := 1) (v := .int .i64 L) (get_ops _ _ _ rfl) (by kernel_rfl) (by kernel_rfl) (by kernel_rfl) (fun _ _ _ h => h) (Or.inl ⟨by rfl, fun wS hSw => by (try dsimp only at hSw); have cS : wS.cell? ⟨w.heap.size, 0, none⟩ = some (.int .i64 L) := hSw.1.cell 0 rfl; clear hSw; go_simp⟩) hHeld ?_
    try simp only [Act.put, List.setIfInBounds_toArray, List.set_cons_zero, List.set_cons_succ]
    refine wpAnyH_take (i := 2) (v := v3) (get_ops _ _ _ rfl) (by kernel_rfl) (by kernel_rfl) (by kernel_rfl) (fun _ _ _ h => h) (Or.inl ⟨by rfl, fun wS hSw => by (try dsimp only at hSw); go_simp⟩) hHeld ?_
    try simp only [Act.put, List.setIfInBounds_toArray, List.set_cons_zero, List.set_cons_succ]
    refine wpAnyH_take (i := 3) (v := S2.pv A5 c5 X5 n5) (get_ops _ _ _ rfl) (by kernel_rfl) (by kernel_rfl) (by kernel_rfl) (fun _ _ _ h => h) (Or.inl ⟨by rfl, fun wS hSw => by (try dsimp only at hSw); exact exec_load 25 _ rfl ⟨w4.heap.size, 0, none⟩ (by go_simp) _ (S2.run_load_all hSw.2.1 Tryz.underlying25 rfl S2.infoP2)⟩) hHeld ?_
    try simp only [Act.put, List.setIfInBounds_toArray, List.set_cons_zero, List.set_cons_succ]
    obtain ⟨A9, c9, hv9, hc9, hnew9, hgl9⟩ := OwnG.retB gF_len W_h6.out
    subst hv9
    have HC9 := Lib.hid hc9
    clear hc9 hgl9 hnew9
    refine wpAnyH_take (i := 4) (v := wv L A9 c9 (xs ++ [x]) A5 c5 X5 n5) (get_ops _ _ _ rfl) (by kernel_rfl) (by kernel_rfl) (by kernel_rfl) (fun _ _ _ h => h) (Or.inl ⟨by rfl, fun wS hSw => by (try dsimp only at hSw); go_simp⟩) hHeld ?_
    try simp only [Act.put, List.setIfInBounds_toArray, List.set_cons_zero, List.set_cons_succ]
    refine wpAnyH_take (i := 5) (v := fV x) (get_ops _ _ _ rfl) (by kernel_rfl) (by kernel_rfl) (by kernel_rfl) (fun _ _ _ h => h) (Or.inl ⟨by rfl, fun wS hSw => by (try dsimp only at hSw); exact exec_load 60 _ rfl ⟨w5.heap.size, 0, none⟩ (by go_simp) _ (bk_item hSw.2.2)⟩) hHeld ?_
    try simp only [Act.put, List.setIfInBounds_toArray, List.set_cons_zero, List.set_cons_succ]
    refine wpAnyH_ready (rs := [6]) (by kernel_rfl) (by simp) ?_
    refine (AllReadyH.cons (get_ops _ _ _ rfl) (fun K hK => ?_) AllReadyH.nil)
    go_simp
    refine (HPU.out x h6).mono ?_
    rintro e h7 ⟨rfl, hb⟩
    have T_h7 : Hid (BK 27 h7 w.heap.size (wcs L A c xs A2 c2 X l)) := Lib.hid (T_h6.out.step hb)
    have R_h7 : Hid (BK 27 h7 (w.heap.size + 1 + 1) (wcs 0 none 0 [] none 0 [] 0)) := Lib.hid (R_h6.out.step hb)
    have K_h7 : Hid (BK 39 h7 (w.heap.size + 1 + 1 + 1) zeroPk) := Lib.hid (K_h6.out.step hb)
    have P_h7 : Hid (BK 25 h7 w4.heap.size [.slice A5 X5.length c5, .int .i64 n5]) := Lib.hid (P_h6.out.step hb)
    have F_h7 : Hid (BK 60 h7 w5.heap.size (gF x)) := Lib.hid (F_h6.out.step hb)
    have B_h7 : Hid (Below w.heap.size w h7) := Lib.hid (stepB B_h6.out hb)
    have I_h7 : Hid (S2.IL h7 h7.heap.size A5 X5) := Lib.hid (CL.step I_h6.out hb)
    have Z_h7 : Hid (w5.heap.size < h7.heap.size) := Lib.hid (Nat.lt_of_lt_of_le Z_h6.out hb.size)
    have W_h7 : Hid (OwnF h7 (w5.heap.size + 1) (.slice A9 (xs ++ [x]).length c9) (xs ++ [x])) := Lib.hid (OwnG.step W_h6.out hb)
    clear T_h6 R_h6 K_h6 P_h6 F_h6 B_h6 I_h6 Z_h6 W_h6
    clear hHeld hb
    go_wp2_with fail
    refine hK.out _ _ ⟨T_h7.out, P_h7.out, F_h7.out⟩ (fun hHeld => ?_)
    clear hK K
    try simp only [Act.put, List.setIfInBounds_toArray, List.set_cons_zero, List.set_cons_succ]
    refine wpAnyH_ready (rs := [7]) (by kernel_rfl) (by simp) ?_
    refine (AllReadyH.cons (get_ops _ _ _ rfl) (fun K hK => ?_) AllReadyH.nil)
    refine S2.wp_store_all 27 _ _ rfl rfl (w.heap.size + 1 + 1) (by go_simp) (wcs L A9 c9 (xs ++ [x]) A5 c5 X5 n5) (by first | rfl | go_simp) 27 (wcs 0 none 0 [] none 0 [] 0) R_h7.out winSize rfl (ones rfl) ?_
    intro h8 hM hP
    have R_h8 : Hid (BK 27 h8 (w.heap.size + 1 + 1) (wcs L A9 c9 (xs ++ [x]) A5 c5 X5 n5)) := Lib.hid (hM)
    have T_h8 : Hid (BK 27 h8 w.heap.size (wcs L A c xs A2 c2 X l)) := Lib.hid (hP.other T_h7.out (by have := ZP.out; have := ZF.out; omega))
    have K_h8 : Hid (BK 39 h8 (w.heap.size + 1 + 1 + 1) zeroPk) := Lib.hid (hP.other K_h7.out (by have := ZP.out; have := ZF.out; omega))
    have P_h8 : Hid (BK 25 h8 w4.heap.size [.slice A5 X5.length c5, .int .i64 n5]) := Lib.hid (hP.other P_h7.out (by have := ZP.out; have := ZF.out; omega))
    have F_h8 : Hid (BK 60 h8 w5.heap.size (gF x)) := Lib.hid (hP.other F_h7.out (by have := ZP.out; have := ZF.out; omega))
    have B_h8 : Hid (Below w.heap.size w h8) := Lib.hid (hP.below B_h7.out (by omega))
    have I_h8 : Hid (S2.IL h8 h8.heap.size A5 X5) := Lib.hid (ILput I_h7.out hP (fun hn b o e => by have := HN5.out b o e; omega))
    have Z_h8 : Hid (w5.heap.size < h8.heap.size) := Lib.hid ((by rw [hP.size]; exact Z_h7.out))
    have W_h8 : Hid (OwnF h8 (w5.heap.size + 1) (.slice A9 (xs ++ [x]).length c9) (xs ++ [x])) := Lib.hid (W_h7.out.putA hP (fun q n c e => by have := ownG_lt W_h7.out q n c e; have := ZP.out; have := ZF.out; omega))
    clear T_h7 R_h7 K_h7 P_h7 F_h7 B_h7 I_h7 Z_h7 W_h7
    clear hM hP hHeld
    refine hK.out _ _ ⟨T_h8.out, P_h8.out, F_h8.out⟩ (fun hHeld => ?_)
    clear hK K
    try simp only [Act.put, List.setIfInBounds_toArray, List.set_cons_zero, List.set_cons_succ]
    refine wpAnyH_ready (rs := [8]) (by kernel_rfl) (by simp) ?_
    refine (AllReadyH.cons (get_ops _ _ _ rfl) (fun K hK => ?_) AllReadyH.nil)
    refine S2.wp_store_all 39 _ _ rfl rfl (w.heap.size + 1 + 1 + 1) (by go_simp) (pkC (pubP x.f false) (pubA x.a x.c)) (by first | rfl | go_simp) 39 zeroPk K_h8.out pktSize rfl (pkOnes _ _) ?_
    intro h9 hM hP
    have K_h9 : Hid (BK 39 h9 (w.heap.size + 1 + 1 + 1) (pkC (pubP x.f false) (pubA x.a x.c))) := Lib.hid (hM)
    have T_h9 : Hid (BK 27 h9 w.heap.size (wcs L A c xs A2 c2 X l)) := Lib.hid (hP.other T_h8.out (by have := ZP.out; have := ZF.out; omega))
    have R_h9 : Hid (BK 27 h9 (w.heap.size + 1 + 1) (wcs L A9 c9 (xs ++ [x]) A5 c5 X5 n5)) := Lib.hid (hP.other R_h8.out (by have := ZP.out; have := ZF.out; omega))
    have P_h9 : Hid (BK 25 h9 w4.heap.size [.slice A5 X5.length c5, .int .i64 n5]) := Lib.hid (hP.other P_h8.out (by have := ZP.out; have := ZF.out; omega))
    have F_h9 : Hid (BK 60 h9 w5.heap.size (gF x)) := Lib.hid (hP.other F_h8.out (by have := ZP.out; have := ZF.out; omega))
    have B_h9 : Hid (Below w.heap.size w h9) := Lib.hid (hP.below B_h8.out (by omega))
    have I_h9 : Hid (S2.IL h9 h9.heap.size A5 X5) := Lib.hid (ILput I_h8.out hP (fun hn b o e => by have := HN5.out b o e; omega))
    have Z_h9 : Hid (w5.heap.size < h9.heap.size) := Lib.hid ((by rw [hP.size]; exact Z_h8.out))
    have W_h9 : Hid (OwnF h9 (w5.heap.size + 1) (.slice A9 (xs ++ [x]).length c9) (xs ++ [x])) := Lib.hid (W_h8.out.putA hP (fun q n c e => by have := ownG_lt W_h8.out q n c e; have := ZP.out; have := ZF.out; omega))
    clear T_h8 R_h8 K_h8 P_h8 F_h8 B_h8 I_h8 Z_h8 W_h8
    clear hM hP hHeld
    refine hK.out _ _ ⟨T_h9.out, P_h9.out, F_h9.out⟩ (fun hHeld => ?_)
    clear hK K
    try simp only [Act.put, List.setIfInBounds_toArray, List.set_cons_zero, List.set_cons_succ]
    refine wpAnyH_take (i := 9) (v := .int .i64 0) (get_ops _ _ _ rfl) (by kernel_rfl) (by kernel_rfl) (by kernel_rfl) (fun _ _ _ h => h) (Or.inl ⟨by rfl, fun wS hSw => by (try dsimp only at hSw); go_simp⟩) hHeld ?_
    try simp only [Act.put, List.setIfInBounds_toArray, List.set_cons_zero, List.set_cons_succ]
    refine wpAnyH_done (by kernel_rfl) ?_ _
    go_wp2_with fail
    rw [← HRR.out]
    obtain ⟨A9x, c9x, hv9x, _, hfi9⟩ := OwnG.ret gF_len W_h9.out
    simp only [Value.slice.injEq] at hv9x
    obtain ⟨rfl, _, rfl⟩ := hv9x
    have HMP : Hid ((xs ++ [x]).map FE.f = xs.map FE.f ++ [⟨n5, 1, m⟩]) := Lib.hid (by rw [List.map_append, List.map_cons, List.map_nil, HXM.out])
    rw [← HXM.out]
    exact bodyPost_ret (v := .tuple #[wv L A9 c9 (xs ++ [x]) A5 c5 X5 n5, pkV (pubP x.f false) (pubA x.a x.c), .int .i64 0]) (res221 rfl _ _ (w.heap.size + 1 + 1) (w.heap.size + 1 + 1 + 1) 27 39 (wcs L A9 c9 (xs ++ [x]) A5 c5 X5 n5) (pkC (pubP x.f false) (pubA x.a x.c)) _ _ _ rfl rfl rfl R_h9.out K_h9.out Tryz.underlying27 rfl winSize Tryz.underlying39 rfl pktSize) rfl ⟨A9, c9, xs ++ [x], A5, c5, x.a, x.c, rfl, by rw [HMP.out, HXM.out], ⟨⟨hfi9, fun y hy => (by
    rcases List.mem_append.1 hy with hy | hy
    · exact (HW.out.1.step B_h9.out).2 y hy
    · simp at hy; subst hy; exact HXA.out.step B_h9.out)⟩, HC9.out, I_h9.out, HC5.out⟩, HXA.out.step B_h9.out, B_h9.out⟩
end Go.Proofs.YtjpikgphfhjilaaGreatDoor
