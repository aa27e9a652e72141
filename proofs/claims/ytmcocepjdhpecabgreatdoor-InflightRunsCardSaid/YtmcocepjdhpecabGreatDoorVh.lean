/-
  What Start of brokerref14 answers: the window with the message in flight, the packet to send, the error. Conditions: the window and the message read as data; the window is valid, its items few; texts fit.
  Lists of structs with a message each, whatever else they hold: as they came in, and rows that a call writes over, element by element. No function of the program is walked here.
  What released and without of brokerref14 answer: the window with an item released, the window without it. Conditions: the window reads as data; its items are few; the index is one of them.
  Valid windows as plain data: what Check says, and that Start and Handle keep windows valid. No function of the program is walked here.
  What Handle of brokerref14 answers: the window, the packets to send, the error. Conditions: the window and the packet read as data; few items, all of them valid.
-/
import Derived.Test.YtmcocepjdhpecabGreatDoorVp
import Derived.Test.YtmcocepjdhpecabGreatDoorWo
import Derived.Test.YtmcocepjdhpecabGreatDoorLx
import Derived.Test.YtmcocepjdhpecabGreatDoorIdB
import Derived.Test.YtmcocepjdhpecabGreatDoorVl
namespace Go.Proofs.YtmcocepjdhpecabGreatDoor
open Go.RowKit
open S2 (BK Put)

/-- a window, a packet and a code that a call answers -/
def RetT (r : PW × Pkt × Int) (W : World) (e : Ending) (w' : World) : Prop := ∃ A c ys A2 c2 a3 c3, e = .returned (.tuple #[wv r.1.1 A c ys A2 c2 r.1.2.2.1 r.1.2.2.2, pkV r.2.1 (pubA a3 c3), .int .i64 r.2.2]) ∧ ys.map FE.f = r.1.2.1 ∧ WOk w' A c ys A2 c2 r.1.2.2.1 ∧ PL w' w'.heap.size a3 r.2.1.msg.props ∧ Below W.heap.size W w'
/-- no list of a window lies in block g -/
def OffW (g : Nat) (A : Option Addr) (xs : List FE) (A2 : Option Addr) (X : List Int) : Prop := (0 < xs.length → ∀ b o, A = some ⟨b, o, none⟩ → b ≠ g) ∧ (∀ x ∈ xs, Away g x.a x.f.m.props.length) ∧ S2.Off g A2 X
theorem OffW.nil (g : Nat) : OffW g none [] none [] := ⟨fun h => (by cases h), fun x hx => (by cases hx), fun b o _ h => (by cases h)⟩
/-- the same; the lists lie off where those that were given lie off -/
def RetTo (A0 : Option Addr) (xs0 : List FE) (A20 : Option Addr) (X0 : List Int) (am : Option Addr) (nm : Nat) (r : PW × Pkt × Int) (W : World) (e : Ending) (w' : World) : Prop := ∃ A c ys A2 c2 a3 c3, e = .returned (.tuple #[wv r.1.1 A c ys A2 c2 r.1.2.2.1 r.1.2.2.2, pkV r.2.1 (pubA a3 c3), .int .i64 r.2.2]) ∧ ys.map FE.f = r.1.2.1 ∧ WOk w' A c ys A2 c2 r.1.2.2.1 ∧ PL w' w'.heap.size a3 r.2.1.msg.props ∧ Below W.heap.size W w' ∧ ∀ g, g < W.heap.size → OffW g A0 xs0 A20 X0 → Away g am nm → OffW g A ys A2 r.1.2.2.1 ∧ Away g a3 r.2.1.msg.props.length
/-- append of items onto items of a call's own, as an operation -/
theorem oper_appFs {o : Oper} {a : Act} {wr : World} {K : Act → World → Prop} {Q : Exit → Act → World → Prop} (s x : Operand)
    (ho : o.op = .call { callee := .builtin .append, args := #[s, x], argTypes := #[23, 23] }) (B : Nat) (v : Value) (xs ys : List FE) (vx : Value) (hs : a.eval s = v) (hown : OwnF wr B v xs)
    (hx : a.eval x = vx) (hsrc : Src Tryz.prog 11 23 vx ys.length (ys.flatMap gF) wr) (hB : B ≤ wr.heap.size) (hn : xs.length + ys.length ≤ 200000)
    (h : ∀ v' w', OwnF w' B v' (xs ++ ys) → wr.grownBy w' v.ownBlock → (∀ q n c, v' = .slice (some ⟨q, 0, none⟩) n c → (∃ n' c', v = .slice (some ⟨q, 0, none⟩) n' c') ∨ wr.heap.size ≤ q) → K (a.put o.dst v') w') : o.wp Tryz.prog a wr K Q := by
  obtain ⟨i, hi, hz, hz1, hz2⟩ := info_parts flInfo
  obtain ⟨v', w', hr, h2, h3, h4⟩ := app_own (P := Tryz.prog) wr B 23 23 o.type 56 i _ 11 128 Tryz.underlying23 hi hz hz1 hz2 rfl (by decide) v xs.length (xs.flatMap gF) hown _ ys.length (ys.flatMap gF) hsrc (by unfold maxLen; omega) (by omega) hB
  unfold Oper.wp execOp
  simp only [ho, resolve, invoke, builtin, Sem.run_bind, Sem.run_pure, Result.andThen_ok, List.map_toArray, List.map_cons, List.map_nil, hs, hx, hr]
  refine h v' w' ?_ h3 (fun q n c e => (h4 q n c e).imp id (fun hq => by omega))
  unfold OwnF OwnG
  simpa [List.flatMap_append] using h2

set_option maxRecDepth 20000 in
set_option maxHeartbeats 8000000 in
theorem rstarto_any (L : Int) (A : Option Addr) (c : Nat) (xs : List FE) (A2 : Option Addr) (c2 : Nat) (X : List Int) (l : Int) (m : Msg) (am : Option Addr) (cm : Nat) (w : World) (hw : WOk w A c xs A2 c2 X) (hm : PL w w.heap.size am m.props) (ht : m.topic.size ≤ 9223372036854775807 ∧ m.frm.size ≤ 9223372036854775807 ∧ ∀ y ∈ m.props, y.1.size ≤ 9223372036854775807) (h0 : 0 ≤ L) (h1 : L ≤ 32) (hn : xs.length ≤ 32) (hX : S2.ckI X l = 0) (hXl : X.length ≤ xs.length) :
    Calls Tryz.prog 8 #[wv L A c xs A2 c2 X l, msgV m am cm] w (RetTo A xs A2 X am m.props.length (startR (L, xs.map FE.f, X, l) m) w) := by
  have HLF := Lib.hid (fun w1 => rleft_any L A c xs A2 c2 X l w1 h0 h1 hn)
  have HCK := Lib.hid (fun w1 h => rCheck_any m am cm w1 h ht.1 ht.2.1 ht.2.2)
  have HTK := Lib.hid (fun w1 h => S2.rTake_any A2 c2 X l w1 h hw.2.2.2 (by omega) (S2.ck_ok.1 hX).2.2.1 (S2.ck_ok.1 hX).2.2.2)
  have HPU := Lib.hid (fun x w1 => rpublish_any x false w1)
  have HW := Lib.hid hw
  have HM := Lib.hid hm
  have HXL := Lib.hid hXl
  have HLB := Lib.hid (And.intro h0 h1)
  obtain ⟨R, hR⟩ : ∃ R, startR (L, xs.map FE.f, X, l) m = R := ⟨_, rfl⟩
  rw [hR]
  have hse := start_err hR
  rw [List.length_map] at hse
  have HSE := Lib.hid hse
  clear hR hw hm hX hXl h0 h1 hse ht
  unfold msgV
  go_enter Tryz.func8, Tryz.ntmps8
  go_upto_region 1 with fail
  refine name_world (C := fun w1 => Code.wp _ _ _ _ w1) ((((w.alloc (.cells (wcs L A c xs A2 c2 X l).toArray 28)).alloc (.cells (msgC m am cm).toArray 34)).alloc (.cells (wcs 0 none 0 [] none 0 [] 0).toArray 28)).alloc (.cells zeroPk.toArray 42)) ?_
  intro w1 hw1
  obtain ⟨hB0, t1, t2, t3, t4⟩ := four hw1
  have T_w1 := Lib.hid t1
  have M_w1 := Lib.hid t2
  have R_w1 := Lib.hid t3
  have K_w1 := Lib.hid t4
  have B_w1 := Lib.hid hB0
  have d2 := t2.cell 2 rfl
  clear hw1 t1 t2 t3 t4 hB0
  by_cases hl : m.level = 0
  · have q1 : (m.level == 0) = true := by simp [hl]
    have HRR := Lib.hid (HSE.out.1 hl)
    clear hl
    go_wp2_with first
      | (refine S2.wpList_store_all (by rfl) 28 (.tmp 4) (.tmp 16) rfl rfl (w.heap.size + 1 + 1) rfl (wcs 0 none 0 [] none 0 [] 0) rfl 28 (wcs 0 none 0 [] none 0 [] 0) R_w1.out winSize rfl (ones rfl) ?_; intro wf hM hP; have MF := Lib.hid hM; have KF := Lib.hid (hP.other K_w1.out (by omega)); have BF := Lib.hid (hP.below B_w1.out (by omega)); clear hM hP)
      | (refine S2.wpList_store_all (by rfl) 42 (.tmp 5) (.tmp 17) rfl rfl (w.heap.size + 1 + 1 + 1) rfl zeroPk rfl 42 zeroPk KF.out pktSize rfl (pkOnes _ _) ?_; intro wg hM hP; have KG := Lib.hid hM; have MG := Lib.hid (hP.other MF.out (by omega)); have BG := Lib.hid (hP.below BF.out (by omega)); clear hM hP)
    rw [← HRR.out]
    exact bodyPost_ret (v := .tuple #[wv 0 none 0 [] none 0 [] 0, pkV Pkt.zero PA.zero, .int .i64 14]) (res221 rfl _ _ (w.heap.size + 1 + 1) (w.heap.size + 1 + 1 + 1) 28 42 (wcs 0 none 0 [] none 0 [] 0) zeroPk _ _ _ rfl rfl rfl MG.out KG.out Tryz.underlying28 rfl winSize Tryz.underlying42 rfl pktSize) rfl ⟨none, 0, [], none, 0, none, 0, rfl, rfl, ⟨FI.nil _ _ _, Nat.le_refl _, CL.nil _ _ _, Nat.le_refl _⟩, GL.nil _ _ _, BG.out, fun g _ _ _ => ⟨OffW.nil g, fun h => by cases h⟩⟩
  have q1 : (m.level == 0) = false := by simp [hl]
  go_wp2_with first
    | (refine wpList_load_v (by rfl) 28 (.tmp 2) rfl ⟨w.heap.size, 0, none⟩ rfl (wv L A c xs A2 c2 X l) (S2.run_load_all T_w1.out Tryz.underlying28 rfl winSize) ?_)
  refine (HLF.out w1).mono ?_
  rintro e w2 ⟨rfl, hb⟩
  have T_w2 := Lib.hid (T_w1.out.step hb)
  have M_w2 := Lib.hid (M_w1.out.step hb)
  have R_w2 := Lib.hid (R_w1.out.step hb)
  have K_w2 := Lib.hid (K_w1.out.step hb)
  have B_w2 := Lib.hid (stepB B_w1.out hb)
  clear hb T_w1 M_w1 R_w1 K_w1 B_w1 d2 q1 HLF
  by_cases hf : leftR L xs.length = 0
  · have q2 : (leftR L xs.length == 0) = true := by simp [hf]
    have HRR := Lib.hid (HSE.out.2.1 hl hf)
    clear hl hf
    go_wp2_with first
      | (refine S2.wpList_store_all (by rfl) 28 (.tmp 4) (.tmp 21) rfl rfl (w.heap.size + 1 + 1) rfl (wcs 0 none 0 [] none 0 [] 0) rfl 28 (wcs 0 none 0 [] none 0 [] 0) R_w2.out winSize rfl (ones rfl) ?_; intro wf hM hP; have MF := Lib.hid hM; have KF := Lib.hid (hP.other K_w2.out (by omega)); have BF := Lib.hid (hP.below B_w2.out (by omega)); clear hM hP)
      | (refine S2.wpList_store_all (by rfl) 42 (.tmp 5) (.tmp 22) rfl rfl (w.heap.size + 1 + 1 + 1) rfl zeroPk rfl 42 zeroPk KF.out pktSize rfl (pkOnes _ _) ?_; intro wg hM hP; have KG := Lib.hid hM; have MG := Lib.hid (hP.other MF.out (by omega)); have BG := Lib.hid (hP.below BF.out (by omega)); clear hM hP)
    rw [← HRR.out]
    exact bodyPost_ret (v := .tuple #[wv 0 none 0 [] none 0 [] 0, pkV Pkt.zero PA.zero, .int .i64 6]) (res221 rfl _ _ (w.heap.size + 1 + 1) (w.heap.size + 1 + 1 + 1) 28 42 (wcs 0 none 0 [] none 0 [] 0) zeroPk _ _ _ rfl rfl rfl MG.out KG.out Tryz.underlying28 rfl winSize Tryz.underlying42 rfl pktSize) rfl ⟨none, 0, [], none, 0, none, 0, rfl, rfl, ⟨FI.nil _ _ _, Nat.le_refl _, CL.nil _ _ _, Nat.le_refl _⟩, GL.nil _ _ _, BG.out, fun g _ _ _ => ⟨OffW.nil g, fun h => by cases h⟩⟩
  have q2 : (leftR L xs.length == 0) = false := by simp [hf]
  have HLFT : Hid (xs.length < 32 ∧ X.length < 32) := Lib.hid (by
    have := HLB.out
    have := HXL.out
    unfold leftR at hf
    split at hf
    · exact absurd rfl hf
    · omega)
  go_wp2_with first
    | (refine wpList_load_v (by rfl) 34 (.tmp 3) rfl ⟨w.heap.size + 1, 0, none⟩ rfl (msgV m am cm) (S2.run_load_all M_w2.out Tryz.underlying34 rfl msgSize) ?_)
  refine (HCK.out w2 (HM.out.step B_w2.out)).mono ?_
  rintro e w3 ⟨rfl, hb⟩
  have T_w3 := Lib.hid (T_w2.out.step hb)
  have M_w3 := Lib.hid (M_w2.out.step hb)
  have R_w3 := Lib.hid (R_w2.out.step hb)
  have K_w3 := Lib.hid (K_w2.out.step hb)
  have B_w3 := Lib.hid (stepB B_w2.out hb)
  clear hb T_w2 M_w2 R_w2 K_w2 B_w2 q2 HCK
  by_cases hc : checkR m = 0
  rotate_left
  · have q3 : ((checkR m : Int) != 0) = true := by simp; omega
    have HRR := Lib.hid (HSE.out.2.2.1 hl hf hc)
    clear hl hf hc
    generalize ((checkR m : Nat) : Int) = z at q3 HRR ⊢
    go_wp2_with first
      | (refine S2.wpList_store_all (by rfl) 28 (.tmp 4) (.tmp 27) rfl rfl (w.heap.size + 1 + 1) rfl (wcs 0 none 0 [] none 0 [] 0) rfl 28 (wcs 0 none 0 [] none 0 [] 0) R_w3.out winSize rfl (ones rfl) ?_; intro wf hM hP; have MF := Lib.hid hM; have KF := Lib.hid (hP.other K_w3.out (by omega)); have BF := Lib.hid (hP.below B_w3.out (by omega)); clear hM hP)
      | (refine S2.wpList_store_all (by rfl) 42 (.tmp 5) (.tmp 28) rfl rfl (w.heap.size + 1 + 1 + 1) rfl zeroPk rfl 42 zeroPk KF.out pktSize rfl (pkOnes _ _) ?_; intro wg hM hP; have KG := Lib.hid hM; have MG := Lib.hid (hP.other MF.out (by omega)); have BG := Lib.hid (hP.below BF.out (by omega)); clear hM hP)
    rw [← HRR.out]
    exact bodyPost_ret (v := .tuple #[wv 0 none 0 [] none 0 [] 0, pkV Pkt.zero PA.zero, .int .i64 z]) (res221 rfl _ _ (w.heap.size + 1 + 1) (w.heap.size + 1 + 1 + 1) 28 42 (wcs 0 none 0 [] none 0 [] 0) zeroPk _ _ _ rfl rfl rfl MG.out KG.out Tryz.underlying28 rfl winSize Tryz.underlying42 rfl pktSize) rfl ⟨none, 0, [], none, 0, none, 0, rfl, rfl, ⟨FI.nil _ _ _, Nat.le_refl _, CL.nil _ _ _, Nat.le_refl _⟩, GL.nil _ _ _, BG.out, fun g _ _ _ => ⟨OffW.nil g, fun h => by cases h⟩⟩
  have HML := Lib.hid (checkR_props hc)
  have HRR := Lib.hid (HSE.out.2.2.2 hl hf hc)
  rw [hc]
  clear hl hf hc HSE
  have htk : S2.tkR X l = (S2.tkI X l, S2.insI X (S2.tkI X l), S2.tkI X l, 0) := by unfold S2.tkR; rw [if_neg (by have := HLFT.out; omega)]
  rw [htk] at HTK
  have hxl5 : (S2.insI X (S2.tkI X l)).length = X.length + 1 := S2.ins_len _ _
  have HL5 : Hid (0 < (S2.insI X (S2.tkI X l)).length) := Lib.hid (by omega)
  clear htk hxl5
  generalize S2.insI X (S2.tkI X l) = X5 at HTK HRR HL5
  generalize S2.tkI X l = n5 at HTK HRR
  go_wp2_with first
    | (refine wpList_load_v (by rfl) 26 _ rfl ⟨w.heap.size, 2, none⟩ rfl (S2.pv A2 c2 X l) (bk_pool T_w3.out) ?_)
  refine (HTK.out w3 (CL.step HW.out.2.2.1 B_w3.out)).mono ?_
  rintro e w4 ⟨A5, c5, rfl, hc5, hil5, hfr5, hb⟩
  have T_w4 := Lib.hid (T_w3.out.step hb)
  have M_w4 := Lib.hid (M_w3.out.step hb)
  have R_w4 := Lib.hid (R_w3.out.step hb)
  have K_w4 := Lib.hid (K_w3.out.step hb)
  have B_w4 := Lib.hid (stepB B_w3.out hb)
  have HC5 := Lib.hid hc5
  have HI5 := Lib.hid hil5
  have HO5 : Hid (∀ g, g < w.heap.size → S2.Off g A2 X → S2.Off g A5 X5) := Lib.hid (fun g hg h => h.fr hfr5 (Nat.lt_of_lt_of_le hg B_w3.out.size))
  have HN5 : Hid (∀ b o, A5 = some ⟨b, o, none⟩ → b < w.heap.size ∨ w.heap.size + 1 + 1 + 1 < b) := Lib.hid (fun b o e => by
    have hk := K_w3.out.lt
    rcases hfr5 with h | ⟨h, h'⟩ | h
    · have := HL5.out
      have h' : X5 = [] := h
      rw [h'] at this
      simp at this
    · left
      rw [h] at e
      refine S2.IL.lt HW.out.2.2.1 b o e ?_
      rcases Nat.eq_zero_or_pos X.length with h2 | h2
      · have h3 : X5 = [] := h' (List.eq_nil_of_length_eq_zero h2)
        have := HL5.out
        rw [h3] at this
        simp at this
      · exact h2
    · have := h b o e
      omega)
  clear hb T_w3 M_w3 R_w3 K_w3 B_w3 hc5 hil5 hfr5 HTK
  dsimp only at HC5 HI5 HN5
  obtain ⟨x, hx⟩ : ∃ x : FE, x = ⟨⟨n5, 1, m⟩, am, cm⟩ := ⟨_, rfl⟩
  have HXM : Hid (x.f = ⟨n5, 1, m⟩) := Lib.hid (by rw [hx])
  have HXA : Hid (PL w w.heap.size x.a x.f.m.props) := Lib.hid (by rw [hx]; exact HM.out)
  have HXW : Hid (∀ g, Away g am m.props.length → Away g x.a x.f.m.props.length) := Lib.hid (by rw [hx]; exact fun g h => h)
  have hgx : gF x = gF ⟨⟨n5, 1, m⟩, am, cm⟩ := by rw [hx]
  have HGX := Lib.hid hgx
  clear hx hgx
  go_upto_region 10 with first
    | (refine S2.wpList_store_all (by rfl) 26 (.tmp 9) (.tmp 35) rfl rfl w4.heap.size rfl [.slice A5 X5.length c5, .int .i64 n5] rfl 26 [.slice none 0 0, .int .i64 0] (BK.new w4 _ _) S2.infoP2 rfl (ones rfl) ?_; intro w5 hM hP; have P_w5 : Hid (BK 26 w5 w4.heap.size [.slice A5 X5.length c5, .int .i64 n5]) := Lib.hid hM; have hbx : Below w4.heap.size w4 w5 := hP.below (S2.below_new w4 _) (Nat.le_refl _); have T_w5 := Lib.hid (T_w4.out.step hbx); have M_w5 := Lib.hid (M_w4.out.step hbx); have R_w5 := Lib.hid (R_w4.out.step hbx); have K_w5 := Lib.hid (K_w4.out.step hbx); have B_w5 := Lib.hid (stepB B_w4.out hbx); have I_w5 : Hid (S2.IL w5 w5.heap.size A5 X5) := Lib.hid (CL.step HI5.out hbx); have ZP : Hid (w.heap.size + 1 + 1 + 1 < w4.heap.size) := Lib.hid K_w4.out.lt; have HLM : Hid ((loadVar 34 ⟨w.heap.size + 1, 0, none⟩).run Tryz.prog w5 = .ok (.agg #[.string m.topic, .string m.payload, .int .i64 m.level, .bool m.retain, .int .i64 m.prio, .int .i64 m.exps, .string m.frm, .int .i64 m.seq, .slice am m.props.length cm]) w5) := Lib.hid (S2.run_load_all M_w5.out Tryz.underlying34 rfl msgSize); clear hM hP hbx T_w4 M_w4 R_w4 K_w4 B_w4 HI5)
    | (refine wpList_load_v (by rfl) 34 (.tmp 3) rfl ⟨w.heap.size + 1, 0, none⟩ rfl _ HLM.out ?_)
    | (refine S2.wpList_store_all (by rfl) 56 (.tmp 11) (.tmp 39) rfl rfl w5.heap.size rfl (gF ⟨⟨n5, 1, m⟩, am, cm⟩) rfl 56 (gF FE.zero) (BK.new w5 _ _) flSize rfl (gF_one _) ?_; intro w7 hM hP; have F_w7 : Hid (BK 56 w7 w5.heap.size (gF x)) := Lib.hid (by rw [HGX.out]; exact hM); have hbx : Below w5.heap.size w5 w7 := hP.below (S2.below_new w5 _) (Nat.le_refl _); have T_w7 := Lib.hid (T_w5.out.step hbx); have R_w7 := Lib.hid (R_w5.out.step hbx); have K_w7 := Lib.hid (K_w5.out.step hbx); have P_w7 := Lib.hid (P_w5.out.step hbx); have B_w7 := Lib.hid (stepB B_w5.out hbx); have I_w7 : Hid (S2.IL w7 w7.heap.size A5 X5) := Lib.hid (CL.step I_w5.out hbx); have ZF : Hid (w4.heap.size < w5.heap.size) := Lib.hid P_w5.out.lt; have HI5B : Hid (∀ b o, A5 = some ⟨b, o, none⟩ → b < w5.heap.size) := Lib.hid (fun b o e => S2.IL.lt I_w5.out b o e HL5.out); clear hM hP hbx T_w5 R_w5 K_w5 P_w5 B_w5 I_w5 M_w5 HLM)
  have Z_w7 : Hid (w5.heap.size < w7.heap.size) := Lib.hid F_w7.out.lt
  obtain ⟨h1, hh1⟩ : ∃ h1, h1 = World.drew w7 := ⟨_, rfl⟩
  have hbD : Below w7.heap.size w7 h1 := by rw [hh1]; exact (Below.refl _ _).drew
  have T_h1 : Hid (BK 28 h1 w.heap.size (wcs L A c xs A2 c2 X l)) := Lib.hid (T_w7.out.step hbD)
  have R_h1 : Hid (BK 28 h1 (w.heap.size + 1 + 1) (wcs 0 none 0 [] none 0 [] 0)) := Lib.hid (R_w7.out.step hbD)
  have K_h1 : Hid (BK 42 h1 (w.heap.size + 1 + 1 + 1) zeroPk) := Lib.hid (K_w7.out.step hbD)
  have P_h1 : Hid (BK 26 h1 w4.heap.size [.slice A5 X5.length c5, .int .i64 n5]) := Lib.hid (P_w7.out.step hbD)
  have F_h1 : Hid (BK 56 h1 w5.heap.size (gF x)) := Lib.hid (F_w7.out.step hbD)
  have B_h1 : Hid (Below w.heap.size w h1) := Lib.hid (stepB B_w7.out hbD)
  have I_h1 : Hid (S2.IL h1 h1.heap.size A5 X5) := Lib.hid (CL.step I_w7.out hbD)
  have Z_h1 : Hid (w5.heap.size < h1.heap.size) := Lib.hid (Nat.lt_of_lt_of_le Z_w7.out hbD.size)
  clear T_w7 R_w7 K_w7 P_w7 F_w7 B_w7 I_w7 Z_w7
  have hbd : (fun w' => BK 28 w' w.heap.size (wcs L A c xs A2 c2 X l) ∧ BK 56 w' w5.heap.size (gF x)) (World.drew w7) := by rw [← hh1]; exact ⟨T_h1.out, F_h1.out⟩
  have hSD : (fun w' => BK 28 w' w.heap.size (wcs L A c xs A2 c2 X l) ∧ BK 56 w' w5.heap.size (gF x)) h1 := ⟨T_h1.out, F_h1.out⟩
  have HWD := Lib.hid hh1
  clear hh1 hbD
  refine wp_region_held_drew (S := fun w' => BK 28 w' w.heap.size (wcs L A c xs A2 c2 X l) ∧ BK 56 w' w5.heap.size (gF x)) (by kernel_rfl) hbd (fun hHeld => ?_)
  rw [← HWD.out]
  clear hHeld
  have hHeld := hSD
  clear hSD hbd HWD
  refine wpAnyH_take (i := 1) (v := .pointer (some ⟨w.heap.size, 1, none⟩)) (get_ops _ _ _ rfl) (by kernel_rfl) (by kernel_rfl) (by kernel_rfl) (fun _ _ _ h => h) (Or.inl ⟨by rfl, fun wS hSw => by (try dsimp only at hSw); go_simp⟩) hHeld ?_
  try simp only [Act.put, List.setIfInBounds_toArray, List.set_cons_zero, List.set_cons_succ]
  refine wpAnyH_take (i := 2) (v := .slice A xs.length c) (get_ops _ _ _ rfl) (by kernel_rfl) (by kernel_rfl) (by kernel_rfl) (fun _ _ _ h => h) (Or.inl ⟨by rfl, fun wS hSw => by (try dsimp only at hSw); have cS : wS.cell? ⟨w.heap.size, 1, none⟩ = some (.slice A xs.length c) := hSw.1.cell 1 rfl; clear hSw; go_simp⟩) hHeld ?_
  try simp only [Act.put, List.setIfInBounds_toArray, List.set_cons_zero, List.set_cons_succ]
  refine wpAnyH_take (i := 4) (v := fV x) (get_ops _ _ _ rfl) (by kernel_rfl) (by kernel_rfl) (by kernel_rfl) (fun _ _ _ h => h) (Or.inl ⟨by rfl, fun wS hSw => by (try dsimp only at hSw); exact exec_load 56 _ rfl ⟨w5.heap.size, 0, none⟩ (by go_simp) _ (bk_item hSw.2)⟩) hHeld ?_
  try simp only [Act.put, List.setIfInBounds_toArray, List.set_cons_zero, List.set_cons_succ]
  refine wpAnyH_ready (rs := [0, 5]) (by kernel_rfl) (by simp) ?_
  refine (AllReadyH.cons (get_ops _ _ _ rfl) (fun K hK => ?_) (AllReadyH.cons (get_ops _ _ _ rfl) (fun K hK => ?_) AllReadyH.nil))
  · go_simp
    obtain ⟨vq, hvq⟩ : ∃ vq, vq = h1.heap.size := ⟨_, rfl⟩
    refine name_world (C := fun w9 => K _ w9) (h1.alloc (.cells #[] 56)) ?_
    intro h2 hh2
    have hb : Below h1.heap.size h1 h2 := by rw [hh2]; exact S2.below_new _ _
    have hN : OwnF h2 (w5.heap.size + 1) (.slice (some ⟨vq, 0, none⟩) 0 0) [] := by rw [hh2, hvq]; exact OwnG.made _ 0 #[] _ Z_h1.out (by decide) rfl
    have T_h2 : Hid (BK 28 h2 w.heap.size (wcs L A c xs A2 c2 X l)) := Lib.hid (T_h1.out.step hb)
    have R_h2 : Hid (BK 28 h2 (w.heap.size + 1 + 1) (wcs 0 none 0 [] none 0 [] 0)) := Lib.hid (R_h1.out.step hb)
    have K_h2 : Hid (BK 42 h2 (w.heap.size + 1 + 1 + 1) zeroPk) := Lib.hid (K_h1.out.step hb)
    have P_h2 : Hid (BK 26 h2 w4.heap.size [.slice A5 X5.length c5, .int .i64 n5]) := Lib.hid (P_h1.out.step hb)
    have F_h2 : Hid (BK 56 h2 w5.heap.size (gF x)) := Lib.hid (F_h1.out.step hb)
    have B_h2 : Hid (Below w.heap.size w h2) := Lib.hid (stepB B_h1.out hb)
    have I_h2 : Hid (S2.IL h2 h2.heap.size A5 X5) := Lib.hid (CL.step I_h1.out hb)
    have Z_h2 : Hid (w5.heap.size < h2.heap.size) := Lib.hid (Nat.lt_of_lt_of_le Z_h1.out hb.size)
    clear T_h1 R_h1 K_h1 P_h1 F_h1 B_h1 I_h1 Z_h1
    have Y_h2 := Lib.hid hN
    try rw [← hvq]
    clear hHeld hb hN hh2 hvq
    refine hK.out _ _ ⟨T_h2.out, F_h2.out⟩ (fun hHeld => ?_)
    clear hK K
    try simp only [Act.put, List.setIfInBounds_toArray, List.set_cons_zero, List.set_cons_succ]
    refine wpAnyH_ready (rs := [3, 5]) (by kernel_rfl) (by simp) ?_
    refine (AllReadyH.cons (get_ops _ _ _ rfl) (fun K hK => ?_) (AllReadyH.cons (get_ops _ _ _ rfl) (fun K hK => ?_) AllReadyH.nil))
    · rw [if_pos (by rfl)]
      have hoy := Y_h2.out
      refine oper_appFs (.tmp 40) (.tmp 42) rfl (w5.heap.size + 1) (.slice (some ⟨vq, 0, none⟩) 0 0) [] xs (.slice A xs.length c) (by go_simp) hoy (by go_simp) (GL.src gF_len gF_one (HW.out.1.step B_h2.out).1 Tryz.underlying23 c) Z_h2.out (by simp; omega) ?_
      intro v1 h3 hown1 hgr hof
      obtain ⟨vv, hvv⟩ : ∃ vv : Value, vv = (.slice (some ⟨vq, 0, none⟩) 0 0) := ⟨_, rfl⟩
      rw [← hvv] at hoy hgr hof
      have hof0 : ∀ b, b < w5.heap.size + 1 → Off2 vv b := fun b hb2 q n c e2 => by have := ownG_lt hoy q n c e2; omega
      have T_h3 : Hid (BK 28 h3 w.heap.size (wcs L A c xs A2 c2 X l)) := Lib.hid (BK.grown T_h2.out hoy hgr (hof0 _ (by have := ZP.out; have := ZF.out; omega)))
      have R_h3 : Hid (BK 28 h3 (w.heap.size + 1 + 1) (wcs 0 none 0 [] none 0 [] 0)) := Lib.hid (BK.grown R_h2.out hoy hgr (hof0 _ (by have := ZP.out; have := ZF.out; omega)))
      have K_h3 : Hid (BK 42 h3 (w.heap.size + 1 + 1 + 1) zeroPk) := Lib.hid (BK.grown K_h2.out hoy hgr (hof0 _ (by have := ZP.out; have := ZF.out; omega)))
      have P_h3 : Hid (BK 26 h3 w4.heap.size [.slice A5 X5.length c5, .int .i64 n5]) := Lib.hid (BK.grown P_h2.out hoy hgr (hof0 _ (by have := ZP.out; have := ZF.out; omega)))
      have F_h3 : Hid (BK 56 h3 w5.heap.size (gF x)) := Lib.hid (BK.grown F_h2.out hoy hgr (hof0 _ (by have := ZP.out; have := ZF.out; omega)))
      have B_h3 : Hid (Below w.heap.size w h3) := Lib.hid (Below.grown' B_h2.out hoy hgr B_h2.out.size (by have := ZP.out; have := ZF.out; omega))
      have I_h3 : Hid (S2.IL h3 h3.heap.size A5 X5) := Lib.hid (IL.grown I_h2.out hoy hgr (fun b o e hn => hof0 b (by have := HI5B.out b o e; omega)))
      have Z_h3 : Hid (w5.heap.size < h3.heap.size) := Lib.hid (Nat.lt_of_lt_of_le Z_h2.out hgr.size)
      have U_h3 : Hid (OwnF h3 (w5.heap.size + 1) v1 xs) := Lib.hid (by simpa using hown1)
      clear hoy hown1 hgr hof hof0 hHeld T_h2 R_h2 K_h2 P_h2 F_h2 B_h2 I_h2 Z_h2 Y_h2
      clear hvv vv
      refine hK.out _ _ ⟨T_h3.out, F_h3.out⟩ (fun hHeld => ?_)
      clear hK K
      try simp only [Act.put, List.setIfInBounds_toArray, List.set_cons_zero, List.set_cons_succ]
      refine wpAnyH_ready (rs := [5]) (by kernel_rfl) (by simp) ?_
      refine (AllReadyH.cons (get_ops _ _ _ rfl) (fun K hK => ?_) AllReadyH.nil)
      simp only [fV, gF]
      go_simp
      obtain ⟨vb, hvb⟩ : ∃ vb, vb = h3.heap.size := ⟨_, rfl⟩
      refine name_world (C := fun w9 => K _ w9) (h3.alloc (.cells (gF x).toArray 56)) ?_
      intro h4 hh4
      have hb : Below h3.heap.size h3 h4 := by rw [hh4]; exact S2.below_new _ _
      have hN : BK 56 h4 vb (gF x) := by rw [hh4, hvb]; exact BK.new _ _ _
      have HO1 : Hid (Off2 v1 vb) := Lib.hid (fun q n c e2 => by have := ownG_lt U_h3.out q n c e2; omega)
      have T_h4 : Hid (BK 28 h4 w.heap.size (wcs L A c xs A2 c2 X l)) := Lib.hid (T_h3.out.step hb)
      have R_h4 : Hid (BK 28 h4 (w.heap.size + 1 + 1) (wcs 0 none 0 [] none 0 [] 0)) := Lib.hid (R_h3.out.step hb)
      have K_h4 : Hid (BK 42 h4 (w.heap.size + 1 + 1 + 1) zeroPk) := Lib.hid (K_h3.out.step hb)
      have P_h4 : Hid (BK 26 h4 w4.heap.size [.slice A5 X5.length c5, .int .i64 n5]) := Lib.hid (P_h3.out.step hb)
      have F_h4 : Hid (BK 56 h4 w5.heap.size (gF x)) := Lib.hid (F_h3.out.step hb)
      have B_h4 : Hid (Below w.heap.size w h4) := Lib.hid (stepB B_h3.out hb)
      have I_h4 : Hid (S2.IL h4 h4.heap.size A5 X5) := Lib.hid (CL.step I_h3.out hb)
      have Z_h4 : Hid (w5.heap.size < h4.heap.size) := Lib.hid (Nat.lt_of_lt_of_le Z_h3.out hb.size)
      have U_h4 : Hid (OwnF h4 (w5.heap.size + 1) v1 xs) := Lib.hid (OwnG.step U_h3.out hb)
      clear T_h3 R_h3 K_h3 P_h3 F_h3 B_h3 I_h3 Z_h3 U_h3
      have V_h4 := Lib.hid hN
      try rw [← hvb]
      clear hHeld hb hN hh4 hvb
      refine hK.out _ _ ⟨T_h4.out, F_h4.out⟩ (fun hHeld => ?_)
      clear hK K
      try simp only [Act.put, List.setIfInBounds_toArray, List.set_cons_zero, List.set_cons_succ]
      refine wpAnyH_ready (rs := [6]) (by kernel_rfl) (by simp) ?_
      refine (AllReadyH.cons (get_ops _ _ _ rfl) (fun K hK => ?_) AllReadyH.nil)
      rw [if_pos (by rfl)]
      have hoy := U_h4.out
      refine oper_appF (.tmp 43) (.tmp 45) rfl (w5.heap.size + 1) v1 xs x vb (by go_simp) hoy (by go_simp) V_h4.out Z_h4.out (by omega) ?_
      intro v3 h5 hown3 hgr
      obtain ⟨vv, hvv⟩ : ∃ vv : Value, vv = v1 := ⟨_, rfl⟩
      rw [← hvv] at hoy hgr
      have hof0 : ∀ b, b < w5.heap.size + 1 → Off2 vv b := fun b hb2 q n c e2 => by have := ownG_lt hoy q n c e2; omega
      have T_h5 : Hid (BK 28 h5 w.heap.size (wcs L A c xs A2 c2 X l)) := Lib.hid (BK.grown T_h4.out hoy hgr (hof0 _ (by have := ZP.out; have := ZF.out; omega)))
      have R_h5 : Hid (BK 28 h5 (w.heap.size + 1 + 1) (wcs 0 none 0 [] none 0 [] 0)) := Lib.hid (BK.grown R_h4.out hoy hgr (hof0 _ (by have := ZP.out; have := ZF.out; omega)))
      have K_h5 : Hid (BK 42 h5 (w.heap.size + 1 + 1 + 1) zeroPk) := Lib.hid (BK.grown K_h4.out hoy hgr (hof0 _ (by have := ZP.out; have := ZF.out; omega)))
      have P_h5 : Hid (BK 26 h5 w4.heap.size [.slice A5 X5.length c5, .int .i64 n5]) := Lib.hid (BK.grown P_h4.out hoy hgr (hof0 _ (by have := ZP.out; have := ZF.out; omega)))
      have F_h5 : Hid (BK 56 h5 w5.heap.size (gF x)) := Lib.hid (BK.grown F_h4.out hoy hgr (hof0 _ (by have := ZP.out; have := ZF.out; omega)))
      have B_h5 : Hid (Below w.heap.size w h5) := Lib.hid (Below.grown' B_h4.out hoy hgr B_h4.out.size (by have := ZP.out; have := ZF.out; omega))
      have I_h5 : Hid (S2.IL h5 h5.heap.size A5 X5) := Lib.hid (IL.grown I_h4.out hoy hgr (fun b o e hn => hof0 b (by have := HI5B.out b o e; omega)))
      have Z_h5 : Hid (w5.heap.size < h5.heap.size) := Lib.hid (Nat.lt_of_lt_of_le Z_h4.out hgr.size)
      have W_h5 : Hid (OwnF h5 (w5.heap.size + 1) v3 (xs ++ [x])) := Lib.hid hown3
      clear hoy hown3 hgr hof0 hHeld T_h4 R_h4 K_h4 P_h4 F_h4 B_h4 I_h4 Z_h4 U_h4 V_h4
      clear hvv vv
      refine hK.out _ _ ⟨T_h5.out, F_h5.out⟩ (fun hHeld => ?_)
      clear hK K
      try simp only [Act.put, List.setIfInBounds_toArray, List.set_cons_zero, List.set_cons_succ]
      refine wpAnyH_take (i := 7) (v := v3) (get_ops _ _ _ rfl) (by kernel_rfl) (by kernel_rfl) (by kernel_rfl) (fun _ _ _ h => h) (Or.inl ⟨by rfl, fun wS hSw => by (try dsimp only at hSw); go_simp⟩) hHeld ?_
      try simp only [Act.put, List.setIfInBounds_toArray, List.set_cons_zero, List.set_cons_succ]
      refine wpAnyH_done (by kernel_rfl) ?_ _
      go_upto_region 11 with fail
      obtain ⟨h6, hh6⟩ : ∃ h6, h6 = World.drew h5 := ⟨_, rfl⟩
      have hbD : Below h5.heap.size h5 h6 := by rw [hh6]; exact (Below.refl _ _).drew
      have T_h6 : Hid (BK 28 h6 w.heap.size (wcs L A c xs A2 c2 X l)) := Lib.hid (T_h5.out.step hbD)
      have R_h6 : Hid (BK 28 h6 (w.heap.size + 1 + 1) (wcs 0 none 0 [] none 0 [] 0)) := Lib.hid (R_h5.out.step hbD)
      have K_h6 : Hid (BK 42 h6 (w.heap.size + 1 + 1 + 1) zeroPk) := Lib.hid (K_h5.out.step hbD)
      have P_h6 : Hid (BK 26 h6 w4.heap.size [.slice A5 X5.length c5, .int .i64 n5]) := Lib.hid (P_h5.out.step hbD)
      have F_h6 : Hid (BK 56 h6 w5.heap.size (gF x)) := Lib.hid (F_h5.out.step hbD)
      have B_h6 : Hid (Below w.heap.size w h6) := Lib.hid (stepB B_h5.out hbD)
      have I_h6 : Hid (S2.IL h6 h6.heap.size A5 X5) := Lib.hid (CL.step I_h5.out hbD)
      have Z_h6 : Hid (w5.heap.size < h6.heap.size) := Lib.hid (Nat.lt_of_lt_of_le Z_h5.out hbD.size)
      have W_h6 : Hid (OwnF h6 (w5.heap.size + 1) v3 (xs ++ [x])) := Lib.hid (OwnG.step W_h5.out hbD)
      clear T_h5 R_h5 K_h5 P_h5 F_h5 B_h5 I_h5 Z_h5 W_h5
      have hbd : (fun w' => BK 28 w' w.heap.size (wcs L A c xs A2 c2 X l) ∧ BK 26 w' w4.heap.size [.slice A5 X5.length c5, .int .i64 n5] ∧ BK 56 w' w5.heap.size (gF x)) (World.drew h5) := by rw [← hh6]; exact ⟨T_h6.out, P_h6.out, F_h6.out⟩
      have hSD : (fun w' => BK 28 w' w.heap.size (wcs L A c xs A2 c2 X l) ∧ BK 26 w' w4.heap.size [.slice A5 X5.length c5, .int .i64 n5] ∧ BK 56 w' w5.heap.size (gF x)) h6 := ⟨T_h6.out, P_h6.out, F_h6.out⟩
      have HWD := Lib.hid hh6
      clear hh6 hbD
      refine wp_region_held_drew (S := fun w' => BK 28 w' w.heap.size (wcs L A c xs A2 c2 X l) ∧ BK 26 w' w4.heap.size [.slice A5 X5.length c5, .int .i64 n5] ∧ BK 56 w' w5.heap.size (gF x)) (by kernel_rfl) hbd (fun hHeld => ?_)
      rw [← HWD.out]
      clear hHeld
      have hHeld := hSD
      clear hSD hbd HWD
      refine wpAnyH_take (i := 0) (v := .pointer (some ⟨w.heap.size, 0, none⟩)) (get_ops _ _ _ rfl) (by kernel_rfl) (by kernel_rfl) (by kernel_rfl) (fun _ _ _ h => h) (Or.inl ⟨by rfl, fun wS hSw => by (try dsimp only at hSw); go_simp⟩) hHeld ?_
      try simp only [Act.put, List.setIfInBounds_toArray, List.set_cons_zero, List.set_cons_succ]
      refine wpAnyH_take (i := 1) (v := .int .i64 L) (get_ops _ _ _ rfl) (by kernel_rfl) (by kernel_rfl) (by kernel_rfl) (fun _ _ _ h => h) (Or.inl ⟨by rfl, fun wS hSw => by (try dsimp only at hSw); have cS : wS.cell? ⟨w.heap.size, 0, none⟩ = some (.int .i64 L) := hSw.1.cell 0 rfl; clear hSw; go_simp⟩) hHeld ?_
      try simp only [Act.put, List.setIfInBounds_toArray, List.set_cons_zero, List.set_cons_succ]
      refine wpAnyH_take (i := 2) (v := v3) (get_ops _ _ _ rfl) (by kernel_rfl) (by kernel_rfl) (by kernel_rfl) (fun _ _ _ h => h) (Or.inl ⟨by rfl, fun wS hSw => by (try dsimp only at hSw); go_simp⟩) hHeld ?_
      try simp only [Act.put, List.setIfInBounds_toArray, List.set_cons_zero, List.set_cons_succ]
      refine wpAnyH_take (i := 3) (v := S2.pv A5 c5 X5 n5) (get_ops _ _ _ rfl) (by kernel_rfl) (by kernel_rfl) (by kernel_rfl) (fun _ _ _ h => h) (Or.inl ⟨by rfl, fun wS hSw => by (try dsimp only at hSw); exact exec_load 26 _ rfl ⟨w4.heap.size, 0, none⟩ (by go_simp) _ (S2.run_load_all hSw.2.1 Tryz.underlying26 rfl S2.infoP2)⟩) hHeld ?_
      try simp only [Act.put, List.setIfInBounds_toArray, List.set_cons_zero, List.set_cons_succ]
      obtain ⟨A9, c9, hv9, hc9, hnew9, hgl9⟩ := OwnG.retB gF_len W_h6.out
      subst hv9
      have HC9 := Lib.hid hc9
      have HN9 := Lib.hid hnew9
      clear hc9 hgl9 hnew9
      refine wpAnyH_take (i := 4) (v := wv L A9 c9 (xs ++ [x]) A5 c5 X5 n5) (get_ops _ _ _ rfl) (by kernel_rfl) (by kernel_rfl) (by kernel_rfl) (fun _ _ _ h => h) (Or.inl ⟨by rfl, fun wS hSw => by (try dsimp only at hSw); go_simp⟩) hHeld ?_
      try simp only [Act.put, List.setIfInBounds_toArray, List.set_cons_zero, List.set_cons_succ]
      refine wpAnyH_take (i := 5) (v := fV x) (get_ops _ _ _ rfl) (by kernel_rfl) (by kernel_rfl) (by kernel_rfl) (fun _ _ _ h => h) (Or.inl ⟨by rfl, fun wS hSw => by (try dsimp only at hSw); exact exec_load 56 _ rfl ⟨w5.heap.size, 0, none⟩ (by go_simp) _ (bk_item hSw.2.2)⟩) hHeld ?_
      try simp only [Act.put, List.setIfInBounds_toArray, List.set_cons_zero, List.set_cons_succ]
      refine wpAnyH_ready (rs := [6]) (by kernel_rfl) (by simp) ?_
      refine (AllReadyH.cons (get_ops _ _ _ rfl) (fun K hK => ?_) AllReadyH.nil)
      go_simp
      refine (HPU.out x h6).mono ?_
      rintro e h7 ⟨rfl, hb⟩
      have T_h7 : Hid (BK 28 h7 w.heap.size (wcs L A c xs A2 c2 X l)) := Lib.hid (T_h6.out.step hb)
      have R_h7 : Hid (BK 28 h7 (w.heap.size + 1 + 1) (wcs 0 none 0 [] none 0 [] 0)) := Lib.hid (R_h6.out.step hb)
      have K_h7 : Hid (BK 42 h7 (w.heap.size + 1 + 1 + 1) zeroPk) := Lib.hid (K_h6.out.step hb)
      have P_h7 : Hid (BK 26 h7 w4.heap.size [.slice A5 X5.length c5, .int .i64 n5]) := Lib.hid (P_h6.out.step hb)
      have F_h7 : Hid (BK 56 h7 w5.heap.size (gF x)) := Lib.hid (F_h6.out.step hb)
      have B_h7 : Hid (Below w.heap.size w h7) := Lib.hid (stepB B_h6.out hb)
      have I_h7 : Hid (S2.IL h7 h7.heap.size A5 X5) := Lib.hid (CL.step I_h6.out hb)
      have Z_h7 : Hid (w5.heap.size < h7.heap.size) := Lib.hid (Nat.lt_of_lt_of_le Z_h6.out hb.size)
      have W_h7 : Hid (OwnF h7 (w5.heap.size + 1) (.slice A9 (xs ++ [x]).length c9) (xs ++ [x])) := Lib.hid (OwnG.step W_h6.out hb)
      clear T_h6 R_h6 K_h6 P_h6 F_h6 B_h6 I_h6 Z_h6 W_h6
      clear hHeld hb
      go_wp2_with fail
      refine hK.out _ _ ⟨T_h7.out, P_h7.out, F_h7.out⟩ (fun hHeld => ?_)
      clear hK K
      try simp only [Act.put, List.setIfInBounds_toArray, List.set_cons_zero, List.set_cons_succ]
      refine wpAnyH_ready (rs := [7]) (by kernel_rfl) (by simp) ?_
      refine (AllReadyH.cons (get_ops _ _ _ rfl) (fun K hK => ?_) AllReadyH.nil)
      refine S2.wp_store_all 28 _ _ rfl rfl (w.heap.size + 1 + 1) (by go_simp) (wcs L A9 c9 (xs ++ [x]) A5 c5 X5 n5) (by first | rfl | go_simp) 28 (wcs 0 none 0 [] none 0 [] 0) R_h7.out winSize rfl (ones rfl) ?_
      intro h8 hM hP
      have R_h8 : Hid (BK 28 h8 (w.heap.size + 1 + 1) (wcs L A9 c9 (xs ++ [x]) A5 c5 X5 n5)) := Lib.hid (hM)
      have T_h8 : Hid (BK 28 h8 w.heap.size (wcs L A c xs A2 c2 X l)) := Lib.hid (hP.other T_h7.out (by have := ZP.out; have := ZF.out; omega))
      have K_h8 : Hid (BK 42 h8 (w.heap.size + 1 + 1 + 1) zeroPk) := Lib.hid (hP.other K_h7.out (by have := ZP.out; have := ZF.out; omega))
      have P_h8 : Hid (BK 26 h8 w4.heap.size [.slice A5 X5.length c5, .int .i64 n5]) := Lib.hid (hP.other P_h7.out (by have := ZP.out; have := ZF.out; omega))
      have F_h8 : Hid (BK 56 h8 w5.heap.size (gF x)) := Lib.hid (hP.other F_h7.out (by have := ZP.out; have := ZF.out; omega))
      have B_h8 : Hid (Below w.heap.size w h8) := Lib.hid (hP.below B_h7.out (by omega))
      have I_h8 : Hid (S2.IL h8 h8.heap.size A5 X5) := Lib.hid (ILput I_h7.out hP (fun hn b o e => by have := HN5.out b o e; omega))
      have Z_h8 : Hid (w5.heap.size < h8.heap.size) := Lib.hid ((by rw [hP.size]; exact Z_h7.out))
      have W_h8 : Hid (OwnF h8 (w5.heap.size + 1) (.slice A9 (xs ++ [x]).length c9) (xs ++ [x])) := Lib.hid (W_h7.out.putA hP (fun q n c e => by have := ownG_lt W_h7.out q n c e; have := ZP.out; have := ZF.out; omega))
      clear T_h7 R_h7 K_h7 P_h7 F_h7 B_h7 I_h7 Z_h7 W_h7
      clear hM hP hHeld
      refine hK.out _ _ ⟨T_h8.out, P_h8.out, F_h8.out⟩ (fun hHeld => ?_)
      clear hK K
      try simp only [Act.put, List.setIfInBounds_toArray, List.set_cons_zero, List.set_cons_succ]
      refine wpAnyH_ready (rs := [8]) (by kernel_rfl) (by simp) ?_
      refine (AllReadyH.cons (get_ops _ _ _ rfl) (fun K hK => ?_) AllReadyH.nil)
      refine S2.wp_store_all 42 _ _ rfl rfl (w.heap.size + 1 + 1 + 1) (by go_simp) (pkC (pubP x.f false) (pubA x.a x.c)) (by first | rfl | go_simp) 42 zeroPk K_h8.out pktSize rfl (pkOnes _ _) ?_
      intro h9 hM hP
      have K_h9 : Hid (BK 42 h9 (w.heap.size + 1 + 1 + 1) (pkC (pubP x.f false) (pubA x.a x.c))) := Lib.hid (hM)
      have T_h9 : Hid (BK 28 h9 w.heap.size (wcs L A c xs A2 c2 X l)) := Lib.hid (hP.other T_h8.out (by have := ZP.out; have := ZF.out; omega))
      have R_h9 : Hid (BK 28 h9 (w.heap.size + 1 + 1) (wcs L A9 c9 (xs ++ [x]) A5 c5 X5 n5)) := Lib.hid (hP.other R_h8.out (by have := ZP.out; have := ZF.out; omega))
      have P_h9 : Hid (BK 26 h9 w4.heap.size [.slice A5 X5.length c5, .int .i64 n5]) := Lib.hid (hP.other P_h8.out (by have := ZP.out; have := ZF.out; omega))
      have F_h9 : Hid (BK 56 h9 w5.heap.size (gF x)) := Lib.hid (hP.other F_h8.out (by have := ZP.out; have := ZF.out; omega))
      have B_h9 : Hid (Below w.heap.size w h9) := Lib.hid (hP.below B_h8.out (by omega))
      have I_h9 : Hid (S2.IL h9 h9.heap.size A5 X5) := Lib.hid (ILput I_h8.out hP (fun hn b o e => by have := HN5.out b o e; omega))
      have Z_h9 : Hid (w5.heap.size < h9.heap.size) := Lib.hid ((by rw [hP.size]; exact Z_h8.out))
      have W_h9 : Hid (OwnF h9 (w5.heap.size + 1) (.slice A9 (xs ++ [x]).length c9) (xs ++ [x])) := Lib.hid (W_h8.out.putA hP (fun q n c e => by have := ownG_lt W_h8.out q n c e; have := ZP.out; have := ZF.out; omega))
      clear T_h8 R_h8 K_h8 P_h8 F_h8 B_h8 I_h8 Z_h8 W_h8
      clear hM hP hHeld
      refine hK.out _ _ ⟨T_h9.out, P_h9.out, F_h9.out⟩ (fun hHeld => ?_)
      clear hK K
      try simp only [Act.put, List.setIfInBounds_toArray, List.set_cons_zero, List.set_cons_succ]
      refine wpAnyH_take (i := 9) (v := .int .i64 0) (get_ops _ _ _ rfl) (by kernel_rfl) (by kernel_rfl) (by kernel_rfl) (fun _ _ _ h => h) (Or.inl ⟨by rfl, fun wS hSw => by (try dsimp only at hSw); go_simp⟩) hHeld ?_
      try simp only [Act.put, List.setIfInBounds_toArray, List.set_cons_zero, List.set_cons_succ]
      refine wpAnyH_done (by kernel_rfl) ?_ _
      go_wp2_with fail
      rw [← HRR.out]
      obtain ⟨A9x, c9x, hv9x, _, hfi9⟩ := OwnG.ret gF_len W_h9.out
      simp only [Value.slice.injEq] at hv9x
      obtain ⟨rfl, _, rfl⟩ := hv9x
      have HMP : Hid ((xs ++ [x]).map FE.f = xs.map FE.f ++ [⟨n5, 1, m⟩]) := Lib.hid (by rw [List.map_append, List.map_cons, List.map_nil, HXM.out])
      rw [← HXM.out]
      exact bodyPost_ret (v := .tuple #[wv L A9 c9 (xs ++ [x]) A5 c5 X5 n5, pkV (pubP x.f false) (pubA x.a x.c), .int .i64 0]) (res221 rfl _ _ (w.heap.size + 1 + 1) (w.heap.size + 1 + 1 + 1) 28 42 (wcs L A9 c9 (xs ++ [x]) A5 c5 X5 n5) (pkC (pubP x.f false) (pubA x.a x.c)) _ _ _ rfl rfl rfl R_h9.out K_h9.out Tryz.underlying28 rfl winSize Tryz.underlying42 rfl pktSize) rfl ⟨A9, c9, xs ++ [x], A5, c5, x.a, x.c, rfl, by rw [HMP.out, HXM.out], ⟨⟨hfi9, fun y hy => (by
    rcases List.mem_append.1 hy with hy | hy
    · exact (HW.out.1.step B_h9.out).2 y hy
    · simp at hy; subst hy; exact HXA.out.step B_h9.out)⟩, HC9.out, I_h9.out, HC5.out⟩, HXA.out.step B_h9.out, B_h9.out, fun g hg ho ha => ⟨⟨fun _ b o e => (by have := HN9.out b o e; have := ZP.out; have := ZF.out; omega), fun y hy => (by
    rcases List.mem_append.1 hy with hy | hy
    · exact ho.2.1 y hy
    · simp at hy; subst hy; exact HXW.out g ha), HO5.out g hg ho.2.2⟩, HXW.out g ha⟩⟩
    · simp only [fV, gF]
      go_simp
      obtain ⟨vb, hvb⟩ : ∃ vb, vb = h2.heap.size := ⟨_, rfl⟩
      refine name_world (C := fun w9 => K _ w9) (h2.alloc (.cells (gF x).toArray 56)) ?_
      intro h3 hh3
      have hb : Below h2.heap.size h2 h3 := by rw [hh3]; exact S2.below_new _ _
      have hN : BK 56 h3 vb (gF x) := by rw [hh3, hvb]; exact BK.new _ _ _
      have HVQ : Hid (vb ≠ vq) := Lib.hid (by have := ownG_lt Y_h2.out vq 0 0 rfl; omega)
      have T_h3 : Hid (BK 28 h3 w.heap.size (wcs L A c xs A2 c2 X l)) := Lib.hid (T_h2.out.step hb)
      have R_h3 : Hid (BK 28 h3 (w.heap.size + 1 + 1) (wcs 0 none 0 [] none 0 [] 0)) := Lib.hid (R_h2.out.step hb)
      have K_h3 : Hid (BK 42 h3 (w.heap.size + 1 + 1 + 1) zeroPk) := Lib.hid (K_h2.out.step hb)
      have P_h3 : Hid (BK 26 h3 w4.heap.size [.slice A5 X5.length c5, .int .i64 n5]) := Lib.hid (P_h2.out.step hb)
      have F_h3 : Hid (BK 56 h3 w5.heap.size (gF x)) := Lib.hid (F_h2.out.step hb)
      have B_h3 : Hid (Below w.heap.size w h3) := Lib.hid (stepB B_h2.out hb)
      have I_h3 : Hid (S2.IL h3 h3.heap.size A5 X5) := Lib.hid (CL.step I_h2.out hb)
      have Z_h3 : Hid (w5.heap.size < h3.heap.size) := Lib.hid (Nat.lt_of_lt_of_le Z_h2.out hb.size)
      have Y_h3 : Hid (OwnF h3 (w5.heap.size + 1) (.slice (some ⟨vq, 0, none⟩) 0 0) []) := Lib.hid (OwnG.step Y_h2.out hb)
      clear T_h2 R_h2 K_h2 P_h2 F_h2 B_h2 I_h2 Z_h2 Y_h2
      have V_h3 := Lib.hid hN
      try rw [← hvb]
      clear hHeld hb hN hh3 hvb
      refine hK.out _ _ ⟨T_h3.out, F_h3.out⟩ (fun hHeld => ?_)
      clear hK K
      try simp only [Act.put, List.setIfInBounds_toArray, List.set_cons_zero, List.set_cons_succ]
      refine wpAnyH_ready (rs := [3]) (by kernel_rfl) (by simp) ?_
      refine (AllReadyH.cons (get_ops _ _ _ rfl) (fun K hK => ?_) AllReadyH.nil)
      rw [if_pos (by rfl)]
      have hoy := Y_h3.out
      refine oper_appFs (.tmp 40) (.tmp 42) rfl (w5.heap.size + 1) (.slice (some ⟨vq, 0, none⟩) 0 0) [] xs (.slice A xs.length c) (by go_simp) hoy (by go_simp) (GL.src gF_len gF_one (HW.out.1.step B_h3.out).1 Tryz.underlying23 c) Z_h3.out (by simp; omega) ?_
      intro v1 h4 hown1 hgr hof
      obtain ⟨vv, hvv⟩ : ∃ vv : Value, vv = (.slice (some ⟨vq, 0, none⟩) 0 0) := ⟨_, rfl⟩
      rw [← hvv] at hoy hgr hof
      have hof0 : ∀ b, b < w5.heap.size + 1 → Off2 vv b := fun b hb2 q n c e2 => by have := ownG_lt hoy q n c e2; omega
      have T_h4 : Hid (BK 28 h4 w.heap.size (wcs L A c xs A2 c2 X l)) := Lib.hid (BK.grown T_h3.out hoy hgr (hof0 _ (by have := ZP.out; have := ZF.out; omega)))
      have R_h4 : Hid (BK 28 h4 (w.heap.size + 1 + 1) (wcs 0 none 0 [] none 0 [] 0)) := Lib.hid (BK.grown R_h3.out hoy hgr (hof0 _ (by have := ZP.out; have := ZF.out; omega)))
      have K_h4 : Hid (BK 42 h4 (w.heap.size + 1 + 1 + 1) zeroPk) := Lib.hid (BK.grown K_h3.out hoy hgr (hof0 _ (by have := ZP.out; have := ZF.out; omega)))
      have P_h4 : Hid (BK 26 h4 w4.heap.size [.slice A5 X5.length c5, .int .i64 n5]) := Lib.hid (BK.grown P_h3.out hoy hgr (hof0 _ (by have := ZP.out; have := ZF.out; omega)))
      have F_h4 : Hid (BK 56 h4 w5.heap.size (gF x)) := Lib.hid (BK.grown F_h3.out hoy hgr (hof0 _ (by have := ZP.out; have := ZF.out; omega)))
      have B_h4 : Hid (Below w.heap.size w h4) := Lib.hid (Below.grown' B_h3.out hoy hgr B_h3.out.size (by have := ZP.out; have := ZF.out; omega))
      have I_h4 : Hid (S2.IL h4 h4.heap.size A5 X5) := Lib.hid (IL.grown I_h3.out hoy hgr (fun b o e hn => hof0 b (by have := HI5B.out b o e; omega)))
      have Z_h4 : Hid (w5.heap.size < h4.heap.size) := Lib.hid (Nat.lt_of_lt_of_le Z_h3.out hgr.size)
      have V_h4 : Hid (BK 56 h4 vb (gF x)) := Lib.hid (BK.grown V_h3.out hoy hgr (fun q n c e2 => by rw [hvv] at e2; have := HVQ.out; simp only [Value.slice.injEq, Option.some.injEq, Addr.mk.injEq, and_true] at e2; omega))
      have HO1 : Hid (Off2 v1 vb) := Lib.hid (fun q n c e2 => by
    rcases hof q n c e2 with ⟨n2, c9, e3⟩ | h3
    · rw [hvv] at e3; have := HVQ.out; simp only [Value.slice.injEq, Option.some.injEq, Addr.mk.injEq, and_true] at e3; omega
    · have := V_h3.out.lt; omega)
      have U_h4 : Hid (OwnF h4 (w5.heap.size + 1) v1 xs) := Lib.hid (by simpa using hown1)
      clear hoy hown1 hgr hof hof0 hHeld T_h3 R_h3 K_h3 P_h3 F_h3 B_h3 I_h3 Z_h3 Y_h3 V_h3
      clear hvv vv
      refine hK.out _ _ ⟨T_h4.out, F_h4.out⟩ (fun hHeld => ?_)
      clear hK K
      try simp only [Act.put, List.setIfInBounds_toArray, List.set_cons_zero, List.set_cons_succ]
      refine wpAnyH_ready (rs := [6]) (by kernel_rfl) (by simp) ?_
      refine (AllReadyH.cons (get_ops _ _ _ rfl) (fun K hK => ?_) AllReadyH.nil)
      rw [if_pos (by rfl)]
      have hoy := U_h4.out
      refine oper_appF (.tmp 43) (.tmp 45) rfl (w5.heap.size + 1) v1 xs x vb (by go_simp) hoy (by go_simp) V_h4.out Z_h4.out (by omega) ?_
      intro v3 h5 hown3 hgr
      obtain ⟨vv, hvv⟩ : ∃ vv : Value, vv = v1 := ⟨_, rfl⟩
      rw [← hvv] at hoy hgr
      have hof0 : ∀ b, b < w5.heap.size + 1 → Off2 vv b := fun b hb2 q n c e2 => by have := ownG_lt hoy q n c e2; omega
      have T_h5 : Hid (BK 28 h5 w.heap.size (wcs L A c xs A2 c2 X l)) := Lib.hid (BK.grown T_h4.out hoy hgr (hof0 _ (by have := ZP.out; have := ZF.out; omega)))
      have R_h5 : Hid (BK 28 h5 (w.heap.size + 1 + 1) (wcs 0 none 0 [] none 0 [] 0)) := Lib.hid (BK.grown R_h4.out hoy hgr (hof0 _ (by have := ZP.out; have := ZF.out; omega)))
      have K_h5 : Hid (BK 42 h5 (w.heap.size + 1 + 1 + 1) zeroPk) := Lib.hid (BK.grown K_h4.out hoy hgr (hof0 _ (by have := ZP.out; have := ZF.out; omega)))
      have P_h5 : Hid (BK 26 h5 w4.heap.size [.slice A5 X5.length c5, .int .i64 n5]) := Lib.hid (BK.grown P_h4.out hoy hgr (hof0 _ (by have := ZP.out; have := ZF.out; omega)))
      have F_h5 : Hid (BK 56 h5 w5.heap.size (gF x)) := Lib.hid (BK.grown F_h4.out hoy hgr (hof0 _ (by have := ZP.out; have := ZF.out; omega)))
      have B_h5 : Hid (Below w.heap.size w h5) := Lib.hid (Below.grown' B_h4.out hoy hgr B_h4.out.size (by have := ZP.out; have := ZF.out; omega))
      have I_h5 : Hid (S2.IL h5 h5.heap.size A5 X5) := Lib.hid (IL.grown I_h4.out hoy hgr (fun b o e hn => hof0 b (by have := HI5B.out b o e; omega)))
      have Z_h5 : Hid (w5.heap.size < h5.heap.size) := Lib.hid (Nat.lt_of_lt_of_le Z_h4.out hgr.size)
      have W_h5 : Hid (OwnF h5 (w5.heap.size + 1) v3 (xs ++ [x])) := Lib.hid hown3
      clear hoy hown3 hgr hof0 hHeld T_h4 R_h4 K_h4 P_h4 F_h4 B_h4 I_h4 Z_h4 V_h4 U_h4
      clear hvv vv
      refine hK.out _ _ ⟨T_h5.out, F_h5.out⟩ (fun hHeld => ?_)
      clear hK K
      try simp only [Act.put, List.setIfInBounds_toArray, List.set_cons_zero, List.set_cons_succ]
      refine wpAnyH_take (i := 7) (v := v3) (get_ops _ _ _ rfl) (by kernel_rfl) (by kernel_rfl) (by kernel_rfl) (fun _ _ _ h => h) (Or.inl ⟨by rfl, fun wS hSw => by (try dsimp only at hSw); go_simp⟩) hHeld ?_
      try simp only [Act.put, List.setIfInBounds_toArray, List.set_cons_zero, List.set_cons_succ]
      refine wpAnyH_done (by kernel_rfl) ?_ _
      go_upto_region 11 with fail
      obtain ⟨h6, hh6⟩ : ∃ h6, h6 = World.drew h5 := ⟨_, rfl⟩
      have hbD : Below h5.heap.size h5 h6 := by rw [hh6]; exact (Below.refl _ _).drew
      have T_h6 : Hid (BK 28 h6 w.heap.size (wcs L A c xs A2 c2 X l)) := Lib.hid (T_h5.out.step hbD)
      have R_h6 : Hid (BK 28 h6 (w.heap.size + 1 + 1) (wcs 0 none 0 [] none 0 [] 0)) := Lib.hid (R_h5.out.step hbD)
      have K_h6 : Hid (BK 42 h6 (w.heap.size + 1 + 1 + 1) zeroPk) := Lib.hid (K_h5.out.step hbD)
      have P_h6 : Hid (BK 26 h6 w4.heap.size [.slice A5 X5.length c5, .int .i64 n5]) := Lib.hid (P_h5.out.step hbD)
      have F_h6 : Hid (BK 56 h6 w5.heap.size (gF x)) := Lib.hid (F_h5.out.step hbD)
      have B_h6 : Hid (Below w.heap.size w h6) := Lib.hid (stepB B_h5.out hbD)
      have I_h6 : Hid (S2.IL h6 h6.heap.size A5 X5) := Lib.hid (CL.step I_h5.out hbD)
      have Z_h6 : Hid (w5.heap.size < h6.heap.size) := Lib.hid (Nat.lt_of_lt_of_le Z_h5.out hbD.size)
      have W_h6 : Hid (OwnF h6 (w5.heap.size + 1) v3 (xs ++ [x])) := Lib.hid (OwnG.step W_h5.out hbD)
      clear T_h5 R_h5 K_h5 P_h5 F_h5 B_h5 I_h5 Z_h5 W_h5
      have hbd : (fun w' => BK 28 w' w.heap.size (wcs L A c xs A2 c2 X l) ∧ BK 26 w' w4.heap.size [.slice A5 X5.length c5, .int .i64 n5] ∧ BK 56 w' w5.heap.size (gF x)) (World.drew h5) := by rw [← hh6]; exact ⟨T_h6.out, P_h6.out, F_h6.out⟩
      have hSD : (fun w' => BK 28 w' w.heap.size (wcs L A c xs A2 c2 X l) ∧ BK 26 w' w4.heap.size [.slice A5 X5.length c5, .int .i64 n5] ∧ BK 56 w' w5.heap.size (gF x)) h6 := ⟨T_h6.out, P_h6.out, F_h6.out⟩
      have HWD := Lib.hid hh6
      clear hh6 hbD
      refine wp_region_held_drew (S := fun w' => BK 28 w' w.heap.size (wcs L A c xs A2 c2 X l) ∧ BK 26 w' w4.heap.size [.slice A5 X5.length c5, .int .i64 n5] ∧ BK 56 w' w5.heap.size (gF x)) (by kernel_rfl) hbd (fun hHeld => ?_)
      rw [← HWD.out]
      clear hHeld
      have hHeld := hSD
      clear hSD hbd HWD
      refine wpAnyH_take (i := 0) (v := .pointer (some ⟨w.heap.size, 0, none⟩)) (get_ops _ _ _ rfl) (by kernel_rfl) (by kernel_rfl) (by kernel_rfl) (fun _ _ _ h => h) (Or.inl ⟨by rfl, fun wS hSw => by (try dsimp only at hSw); go_simp⟩) hHeld ?_
      try simp only [Act.put, List.setIfInBounds_toArray, List.set_cons_zero, List.set_cons_succ]
      refine wpAnyH_take (i := 1) (v := .int .i64 L) (get_ops _ _ _ rfl) (by kernel_rfl) (by kernel_rfl) (by kernel_rfl) (fun _ _ _ h => h) (Or.inl ⟨by rfl, fun wS hSw => by (try dsimp only at hSw); have cS : wS.cell? ⟨w.heap.size, 0, none⟩ = some (.int .i64 L) := hSw.1.cell 0 rfl; clear hSw; go_simp⟩) hHeld ?_
      try simp only [Act.put, List.setIfInBounds_toArray, List.set_cons_zero, List.set_cons_succ]
      refine wpAnyH_take (i := 2) (v := v3) (get_ops _ _ _ rfl) (by kernel_rfl) (by kernel_rfl) (by kernel_rfl) (fun _ _ _ h => h) (Or.inl ⟨by rfl, fun wS hSw => by (try dsimp only at hSw); go_simp⟩) hHeld ?_
      try simp only [Act.put, List.setIfInBounds_toArray, List.set_cons_zero, List.set_cons_succ]
      refine wpAnyH_take (i := 3) (v := S2.pv A5 c5 X5 n5) (get_ops _ _ _ rfl) (by kernel_rfl) (by kernel_rfl) (by kernel_rfl) (fun _ _ _ h => h) (Or.inl ⟨by rfl, fun wS hSw => by (try dsimp only at hSw); exact exec_load 26 _ rfl ⟨w4.heap.size, 0, none⟩ (by go_simp) _ (S2.run_load_all hSw.2.1 Tryz.underlying26 rfl S2.infoP2)⟩) hHeld ?_
      try simp only [Act.put, List.setIfInBounds_toArray, List.set_cons_zero, List.set_cons_succ]
      obtain ⟨A9, c9, hv9, hc9, hnew9, hgl9⟩ := OwnG.retB gF_len W_h6.out
      subst hv9
      have HC9 := Lib.hid hc9
      have HN9 := Lib.hid hnew9
      clear hc9 hgl9 hnew9
      refine wpAnyH_take (i := 4) (v := wv L A9 c9 (xs ++ [x]) A5 c5 X5 n5) (get_ops _ _ _ rfl) (by kernel_rfl) (by kernel_rfl) (by kernel_rfl) (fun _ _ _ h => h) (Or.inl ⟨by rfl, fun wS hSw => by (try dsimp only at hSw); go_simp⟩) hHeld ?_
      try simp only [Act.put, List.setIfInBounds_toArray, List.set_cons_zero, List.set_cons_succ]
      refine wpAnyH_take (i := 5) (v := fV x) (get_ops _ _ _ rfl) (by kernel_rfl) (by kernel_rfl) (by kernel_rfl) (fun _ _ _ h => h) (Or.inl ⟨by rfl, fun wS hSw => by (try dsimp only at hSw); exact exec_load 56 _ rfl ⟨w5.heap.size, 0, none⟩ (by go_simp) _ (bk_item hSw.2.2)⟩) hHeld ?_
      try simp only [Act.put, List.setIfInBounds_toArray, List.set_cons_zero, List.set_cons_succ]
      refine wpAnyH_ready (rs := [6]) (by kernel_rfl) (by simp) ?_
      refine (AllReadyH.cons (get_ops _ _ _ rfl) (fun K hK => ?_) AllReadyH.nil)
      go_simp
      refine (HPU.out x h6).mono ?_
      rintro e h7 ⟨rfl, hb⟩
      have T_h7 : Hid (BK 28 h7 w.heap.size (wcs L A c xs A2 c2 X l)) := Lib.hid (T_h6.out.step hb)
      have R_h7 : Hid (BK 28 h7 (w.heap.size + 1 + 1) (wcs 0 none 0 [] none 0 [] 0)) := Lib.hid (R_h6.out.step hb)
      have K_h7 : Hid (BK 42 h7 (w.heap.size + 1 + 1 + 1) zeroPk) := Lib.hid (K_h6.out.step hb)
      have P_h7 : Hid (BK 26 h7 w4.heap.size [.slice A5 X5.length c5, .int .i64 n5]) := Lib.hid (P_h6.out.step hb)
      have F_h7 : Hid (BK 56 h7 w5.heap.size (gF x)) := Lib.hid (F_h6.out.step hb)
      have B_h7 : Hid (Below w.heap.size w h7) := Lib.hid (stepB B_h6.out hb)
      have I_h7 : Hid (S2.IL h7 h7.heap.size A5 X5) := Lib.hid (CL.step I_h6.out hb)
      have Z_h7 : Hid (w5.heap.size < h7.heap.size) := Lib.hid (Nat.lt_of_lt_of_le Z_h6.out hb.size)
      have W_h7 : Hid (OwnF h7 (w5.heap.size + 1) (.slice A9 (xs ++ [x]).length c9) (xs ++ [x])) := Lib.hid (OwnG.step W_h6.out hb)
      clear T_h6 R_h6 K_h6 P_h6 F_h6 B_h6 I_h6 Z_h6 W_h6
      clear hHeld hb
      go_wp2_with fail
      refine hK.out _ _ ⟨T_h7.out, P_h7.out, F_h7.out⟩ (fun hHeld => ?_)
      clear hK K
      try simp only [Act.put, List.setIfInBounds_toArray, List.set_cons_zero, List.set_cons_succ]
      refine wpAnyH_ready (rs := [7]) (by kernel_rfl) (by simp) ?_
      refine (AllReadyH.cons (get_ops _ _ _ rfl) (fun K hK => ?_) AllReadyH.nil)
      refine S2.wp_store_all 28 _ _ rfl rfl (w.heap.size + 1 + 1) (by go_simp) (wcs L A9 c9 (xs ++ [x]) A5 c5 X5 n5) (by first | rfl | go_simp) 28 (wcs 0 none 0 [] none 0 [] 0) R_h7.out winSize rfl (ones rfl) ?_
      intro h8 hM hP
      have R_h8 : Hid (BK 28 h8 (w.heap.size + 1 + 1) (wcs L A9 c9 (xs ++ [x]) A5 c5 X5 n5)) := Lib.hid (hM)
      have T_h8 : Hid (BK 28 h8 w.heap.size (wcs L A c xs A2 c2 X l)) := Lib.hid (hP.other T_h7.out (by have := ZP.out; have := ZF.out; omega))
      have K_h8 : Hid (BK 42 h8 (w.heap.size + 1 + 1 + 1) zeroPk) := Lib.hid (hP.other K_h7.out (by have := ZP.out; have := ZF.out; omega))
      have P_h8 : Hid (BK 26 h8 w4.heap.size [.slice A5 X5.length c5, .int .i64 n5]) := Lib.hid (hP.other P_h7.out (by have := ZP.out; have := ZF.out; omega))
      have F_h8 : Hid (BK 56 h8 w5.heap.size (gF x)) := Lib.hid (hP.other F_h7.out (by have := ZP.out; have := ZF.out; omega))
      have B_h8 : Hid (Below w.heap.size w h8) := Lib.hid (hP.below B_h7.out (by omega))
      have I_h8 : Hid (S2.IL h8 h8.heap.size A5 X5) := Lib.hid (ILput I_h7.out hP (fun hn b o e => by have := HN5.out b o e; omega))
      have Z_h8 : Hid (w5.heap.size < h8.heap.size) := Lib.hid ((by rw [hP.size]; exact Z_h7.out))
      have W_h8 : Hid (OwnF h8 (w5.heap.size + 1) (.slice A9 (xs ++ [x]).length c9) (xs ++ [x])) := Lib.hid (W_h7.out.putA hP (fun q n c e => by have := ownG_lt W_h7.out q n c e; have := ZP.out; have := ZF.out; omega))
      clear T_h7 R_h7 K_h7 P_h7 F_h7 B_h7 I_h7 Z_h7 W_h7
      clear hM hP hHeld
      refine hK.out _ _ ⟨T_h8.out, P_h8.out, F_h8.out⟩ (fun hHeld => ?_)
      clear hK K
      try simp only [Act.put, List.setIfInBounds_toArray, List.set_cons_zero, List.set_cons_succ]
      refine wpAnyH_ready (rs := [8]) (by kernel_rfl) (by simp) ?_
      refine (AllReadyH.cons (get_ops _ _ _ rfl) (fun K hK => ?_) AllReadyH.nil)
      refine S2.wp_store_all 42 _ _ rfl rfl (w.heap.size + 1 + 1 + 1) (by go_simp) (pkC (pubP x.f false) (pubA x.a x.c)) (by first | rfl | go_simp) 42 zeroPk K_h8.out pktSize rfl (pkOnes _ _) ?_
      intro h9 hM hP
      have K_h9 : Hid (BK 42 h9 (w.heap.size + 1 + 1 + 1) (pkC (pubP x.f false) (pubA x.a x.c))) := Lib.hid (hM)
      have T_h9 : Hid (BK 28 h9 w.heap.size (wcs L A c xs A2 c2 X l)) := Lib.hid (hP.other T_h8.out (by have := ZP.out; have := ZF.out; omega))
      have R_h9 : Hid (BK 28 h9 (w.heap.size + 1 + 1) (wcs L A9 c9 (xs ++ [x]) A5 c5 X5 n5)) := Lib.hid (hP.other R_h8.out (by have := ZP.out; have := ZF.out; omega))
      have P_h9 : Hid (BK 26 h9 w4.heap.size [.slice A5 X5.length c5, .int .i64 n5]) := Lib.hid (hP.other P_h8.out (by have := ZP.out; have := ZF.out; omega))
      have F_h9 : Hid (BK 56 h9 w5.heap.size (gF x)) := Lib.hid (hP.other F_h8.out (by have := ZP.out; have := ZF.out; omega))
      have B_h9 : Hid (Below w.heap.size w h9) := Lib.hid (hP.below B_h8.out (by omega))
      have I_h9 : Hid (S2.IL h9 h9.heap.size A5 X5) := Lib.hid (ILput I_h8.out hP (fun hn b o e => by have := HN5.out b o e; omega))
      have Z_h9 : Hid (w5.heap.size < h9.heap.size) := Lib.hid ((by rw [hP.size]; exact Z_h8.out))
      have W_h9 : Hid (OwnF h9 (w5.heap.size + 1) (.slice A9 (xs ++ [x]).length c9) (xs ++ [x])) := Lib.hid (W_h8.out.putA hP (fun q n c e => by have := ownG_lt W_h8.out q n c e; have := ZP.out; have := ZF.out; omega))
      clear T_h8 R_h8 K_h8 P_h8 F_h8 B_h8 I_h8 Z_h8 W_h8
      clear hM hP hHeld
      refine hK.out _ _ ⟨T_h9.out, P_h9.out, F_h9.out⟩ (fun hHeld => ?_)
      clear hK K
      try simp only [Act.put, List.setIfInBounds_toArray, List.set_cons_zero, List.set_cons_succ]
      refine wpAnyH_take (i := 9) (v := .int .i64 0) (get_ops _ _ _ rfl) (by kernel_rfl) (by kernel_rfl) (by kernel_rfl) (fun _ _ _ h => h) (Or.inl ⟨by rfl, fun wS hSw => by (try dsimp only at hSw); go_simp⟩) hHeld ?_
      try simp only [Act.put, List.setIfInBounds_toArray, List.set_cons_zero, List.set_cons_succ]
      refine wpAnyH_done (by kernel_rfl) ?_ _
      go_wp2_with fail
      rw [← HRR.out]
      obtain ⟨A9x, c9x, hv9x, _, hfi9⟩ := OwnG.ret gF_len W_h9.out
      simp only [Value.slice.injEq] at hv9x
      obtain ⟨rfl, _, rfl⟩ := hv9x
      have HMP : Hid ((xs ++ [x]).map FE.f = xs.map FE.f ++ [⟨n5, 1, m⟩]) := Lib.hid (by rw [List.map_append, List.map_cons, List.map_nil, HXM.out])
      rw [← HXM.out]
      exact bodyPost_ret (v := .tuple #[wv L A9 c9 (xs ++ [x]) A5 c5 X5 n5, pkV (pubP x.f false) (pubA x.a x.c), .int .i64 0]) (res221 rfl _ _ (w.heap.size + 1 + 1) (w.heap.size + 1 + 1 + 1) 28 42 (wcs L A9 c9 (xs ++ [x]) A5 c5 X5 n5) (pkC (pubP x.f false) (pubA x.a x.c)) _ _ _ rfl rfl rfl R_h9.out K_h9.out Tryz.underlying28 rfl winSize Tryz.underlying42 rfl pktSize) rfl ⟨A9, c9, xs ++ [x], A5, c5, x.a, x.c, rfl, by rw [HMP.out, HXM.out], ⟨⟨hfi9, fun y hy => (by
    rcases List.mem_append.1 hy with hy | hy
    · exact (HW.out.1.step B_h9.out).2 y hy
    · simp at hy; subst hy; exact HXA.out.step B_h9.out)⟩, HC9.out, I_h9.out, HC5.out⟩, HXA.out.step B_h9.out, B_h9.out, fun g hg ho ha => ⟨⟨fun _ b o e => (by have := HN9.out b o e; have := ZP.out; have := ZF.out; omega), fun y hy => (by
    rcases List.mem_append.1 hy with hy | hy
    · exact ho.2.1 y hy
    · simp at hy; subst hy; exact HXW.out g ha), HO5.out g hg ho.2.2⟩, HXW.out g ha⟩⟩
  · simp only [fV, gF]
    go_simp
    obtain ⟨vb, hvb⟩ : ∃ vb, vb = h1.heap.size := ⟨_, rfl⟩
    refine name_world (C := fun w9 => K _ w9) (h1.alloc (.cells (gF x).toArray 56)) ?_
    intro h2 hh2
    have hb : Below h1.heap.size h1 h2 := by rw [hh2]; exact S2.below_new _ _
    have hN : BK 56 h2 vb (gF x) := by rw [hh2, hvb]; exact BK.new _ _ _
    have T_h2 : Hid (BK 28 h2 w.heap.size (wcs L A c xs A2 c2 X l)) := Lib.hid (T_h1.out.step hb)
    have R_h2 : Hid (BK 28 h2 (w.heap.size + 1 + 1) (wcs 0 none 0 [] none 0 [] 0)) := Lib.hid (R_h1.out.step hb)
    have K_h2 : Hid (BK 42 h2 (w.heap.size + 1 + 1 + 1) zeroPk) := Lib.hid (K_h1.out.step hb)
    have P_h2 : Hid (BK 26 h2 w4.heap.size [.slice A5 X5.length c5, .int .i64 n5]) := Lib.hid (P_h1.out.step hb)
    have F_h2 : Hid (BK 56 h2 w5.heap.size (gF x)) := Lib.hid (F_h1.out.step hb)
    have B_h2 : Hid (Below w.heap.size w h2) := Lib.hid (stepB B_h1.out hb)
    have I_h2 : Hid (S2.IL h2 h2.heap.size A5 X5) := Lib.hid (CL.step I_h1.out hb)
    have Z_h2 : Hid (w5.heap.size < h2.heap.size) := Lib.hid (Nat.lt_of_lt_of_le Z_h1.out hb.size)
    clear T_h1 R_h1 K_h1 P_h1 F_h1 B_h1 I_h1 Z_h1
    have V_h2 := Lib.hid hN
    try rw [← hvb]
    clear hHeld hb hN hh2 hvb
    refine hK.out _ _ ⟨T_h2.out, F_h2.out⟩ (fun hHeld => ?_)
    clear hK K
    try simp only [Act.put, List.setIfInBounds_toArray, List.set_cons_zero, List.set_cons_succ]
    refine wpAnyH_ready (rs := [0]) (by kernel_rfl) (by simp) ?_
    refine (AllReadyH.cons (get_ops _ _ _ rfl) (fun K hK => ?_) AllReadyH.nil)
    go_simp
    obtain ⟨vq, hvq⟩ : ∃ vq, vq = h2.heap.size := ⟨_, rfl⟩
    refine name_world (C := fun w9 => K _ w9) (h2.alloc (.cells #[] 56)) ?_
    intro h3 hh3
    have hb : Below h2.heap.size h2 h3 := by rw [hh3]; exact S2.below_new _ _
    have hN : OwnF h3 (w5.heap.size + 1) (.slice (some ⟨vq, 0, none⟩) 0 0) [] := by rw [hh3, hvq]; exact OwnG.made _ 0 #[] _ Z_h2.out (by decide) rfl
    have HVQ : Hid (vb ≠ vq) := Lib.hid (by have := V_h2.out.lt; omega)
    have T_h3 : Hid (BK 28 h3 w.heap.size (wcs L A c xs A2 c2 X l)) := Lib.hid (T_h2.out.step hb)
    have R_h3 : Hid (BK 28 h3 (w.heap.size + 1 + 1) (wcs 0 none 0 [] none 0 [] 0)) := Lib.hid (R_h2.out.step hb)
    have K_h3 : Hid (BK 42 h3 (w.heap.size + 1 + 1 + 1) zeroPk) := Lib.hid (K_h2.out.step hb)
    have P_h3 : Hid (BK 26 h3 w4.heap.size [.slice A5 X5.length c5, .int .i64 n5]) := Lib.hid (P_h2.out.step hb)
    have F_h3 : Hid (BK 56 h3 w5.heap.size (gF x)) := Lib.hid (F_h2.out.step hb)
    have B_h3 : Hid (Below w.heap.size w h3) := Lib.hid (stepB B_h2.out hb)
    have I_h3 : Hid (S2.IL h3 h3.heap.size A5 X5) := Lib.hid (CL.step I_h2.out hb)
    have Z_h3 : Hid (w5.heap.size < h3.heap.size) := Lib.hid (Nat.lt_of_lt_of_le Z_h2.out hb.size)
    have V_h3 : Hid (BK 56 h3 vb (gF x)) := Lib.hid (V_h2.out.step hb)
    clear T_h2 R_h2 K_h2 P_h2 F_h2 B_h2 I_h2 Z_h2 V_h2
    have Y_h3 := Lib.hid hN
    try rw [← hvq]
    clear hHeld hb hN hh3 hvq
    refine hK.out _ _ ⟨T_h3.out, F_h3.out⟩ (fun hHeld => ?_)
    clear hK K
    try simp only [Act.put, List.setIfInBounds_toArray, List.set_cons_zero, List.set_cons_succ]
    refine wpAnyH_ready (rs := [3]) (by kernel_rfl) (by simp) ?_
    refine (AllReadyH.cons (get_ops _ _ _ rfl) (fun K hK => ?_) AllReadyH.nil)
    rw [if_pos (by rfl)]
    have hoy := Y_h3.out
    refine oper_appFs (.tmp 40) (.tmp 42) rfl (w5.heap.size + 1) (.slice (some ⟨vq, 0, none⟩) 0 0) [] xs (.slice A xs.length c) (by go_simp) hoy (by go_simp) (GL.src gF_len gF_one (HW.out.1.step B_h3.out).1 Tryz.underlying23 c) Z_h3.out (by simp; omega) ?_
    intro v1 h4 hown1 hgr hof
    obtain ⟨vv, hvv⟩ : ∃ vv : Value, vv = (.slice (some ⟨vq, 0, none⟩) 0 0) := ⟨_, rfl⟩
    rw [← hvv] at hoy hgr hof
    have hof0 : ∀ b, b < w5.heap.size + 1 → Off2 vv b := fun b hb2 q n c e2 => by have := ownG_lt hoy q n c e2; omega
    have T_h4 : Hid (BK 28 h4 w.heap.size (wcs L A c xs A2 c2 X l)) := Lib.hid (BK.grown T_h3.out hoy hgr (hof0 _ (by have := ZP.out; have := ZF.out; omega)))
    have R_h4 : Hid (BK 28 h4 (w.heap.size + 1 + 1) (wcs 0 none 0 [] none 0 [] 0)) := Lib.hid (BK.grown R_h3.out hoy hgr (hof0 _ (by have := ZP.out; have := ZF.out; omega)))
    have K_h4 : Hid (BK 42 h4 (w.heap.size + 1 + 1 + 1) zeroPk) := Lib.hid (BK.grown K_h3.out hoy hgr (hof0 _ (by have := ZP.out; have := ZF.out; omega)))
    have P_h4 : Hid (BK 26 h4 w4.heap.size [.slice A5 X5.length c5, .int .i64 n5]) := Lib.hid (BK.grown P_h3.out hoy hgr (hof0 _ (by have := ZP.out; have := ZF.out; omega)))
    have F_h4 : Hid (BK 56 h4 w5.heap.size (gF x)) := Lib.hid (BK.grown F_h3.out hoy hgr (hof0 _ (by have := ZP.out; have := ZF.out; omega)))
    have B_h4 : Hid (Below w.heap.size w h4) := Lib.hid (Below.grown' B_h3.out hoy hgr B_h3.out.size (by have := ZP.out; have := ZF.out; omega))
    have I_h4 : Hid (S2.IL h4 h4.heap.size A5 X5) := Lib.hid (IL.grown I_h3.out hoy hgr (fun b o e hn => hof0 b (by have := HI5B.out b o e; omega)))
    have Z_h4 : Hid (w5.heap.size < h4.heap.size) := Lib.hid (Nat.lt_of_lt_of_le Z_h3.out hgr.size)
    have V_h4 : Hid (BK 56 h4 vb (gF x)) := Lib.hid (BK.grown V_h3.out hoy hgr (fun q n c e2 => by rw [hvv] at e2; have := HVQ.out; simp only [Value.slice.injEq, Option.some.injEq, Addr.mk.injEq, and_true] at e2; omega))
    have HO1 : Hid (Off2 v1 vb) := Lib.hid (fun q n c e2 => by
    rcases hof q n c e2 with ⟨n2, c9, e3⟩ | h3
    · rw [hvv] at e3; have := HVQ.out; simp only [Value.slice.injEq, Option.some.injEq, Addr.mk.injEq, and_true] at e3; omega
    · have := V_h3.out.lt; omega)
    have U_h4 : Hid (OwnF h4 (w5.heap.size + 1) v1 xs) := Lib.hid (by simpa using hown1)
    clear hoy hown1 hgr hof hof0 hHeld T_h3 R_h3 K_h3 P_h3 F_h3 B_h3 I_h3 Z_h3 V_h3 Y_h3
    clear hvv vv
    refine hK.out _ _ ⟨T_h4.out, F_h4.out⟩ (fun hHeld => ?_)
    clear hK K
    try simp only [Act.put, List.setIfInBounds_toArray, List.set_cons_zero, List.set_cons_succ]
    refine wpAnyH_ready (rs := [6]) (by kernel_rfl) (by simp) ?_
    refine (AllReadyH.cons (get_ops _ _ _ rfl) (fun K hK => ?_) AllReadyH.nil)
    rw [if_pos (by rfl)]
    have hoy := U_h4.out
    refine oper_appF (.tmp 43) (.tmp 45) rfl (w5.heap.size + 1) v1 xs x vb (by go_simp) hoy (by go_simp) V_h4.out Z_h4.out (by omega) ?_
    intro v3 h5 hown3 hgr
    obtain ⟨vv, hvv⟩ : ∃ vv : Value, vv = v1 := ⟨_, rfl⟩
    rw [← hvv] at hoy hgr
    have hof0 : ∀ b, b < w5.heap.size + 1 → Off2 vv b := fun b hb2 q n c e2 => by have := ownG_lt hoy q n c e2; omega
    have T_h5 : Hid (BK 28 h5 w.heap.size (wcs L A c xs A2 c2 X l)) := Lib.hid (BK.grown T_h4.out hoy hgr (hof0 _ (by have := ZP.out; have := ZF.out; omega)))
    have R_h5 : Hid (BK 28 h5 (w.heap.size + 1 + 1) (wcs 0 none 0 [] none 0 [] 0)) := Lib.hid (BK.grown R_h4.out hoy hgr (hof0 _ (by have := ZP.out; have := ZF.out; omega)))
    have K_h5 : Hid (BK 42 h5 (w.heap.size + 1 + 1 + 1) zeroPk) := Lib.hid (BK.grown K_h4.out hoy hgr (hof0 _ (by have := ZP.out; have := ZF.out; omega)))
    have P_h5 : Hid (BK 26 h5 w4.heap.size [.slice A5 X5.length c5, .int .i64 n5]) := Lib.hid (BK.grown P_h4.out hoy hgr (hof0 _ (by have := ZP.out; have := ZF.out; omega)))
    have F_h5 : Hid (BK 56 h5 w5.heap.size (gF x)) := Lib.hid (BK.grown F_h4.out hoy hgr (hof0 _ (by have := ZP.out; have := ZF.out; omega)))
    have B_h5 : Hid (Below w.heap.size w h5) := Lib.hid (Below.grown' B_h4.out hoy hgr B_h4.out.size (by have := ZP.out; have := ZF.out; omega))
    have I_h5 : Hid (S2.IL h5 h5.heap.size A5 X5) := Lib.hid (IL.grown I_h4.out hoy hgr (fun b o e hn => hof0 b (by have := HI5B.out b o e; omega)))
    have Z_h5 : Hid (w5.heap.size < h5.heap.size) := Lib.hid (Nat.lt_of_lt_of_le Z_h4.out hgr.size)
    have W_h5 : Hid (OwnF h5 (w5.heap.size + 1) v3 (xs ++ [x])) := Lib.hid hown3
    clear hoy hown3 hgr hof0 hHeld T_h4 R_h4 K_h4 P_h4 F_h4 B_h4 I_h4 Z_h4 V_h4 U_h4
    clear hvv vv
    refine hK.out _ _ ⟨T_h5.out, F_h5.out⟩ (fun hHeld => ?_)
    clear hK K
    try simp only [Act.put, List.setIfInBounds_toArray, List.set_cons_zero, List.set_cons_succ]
    refine wpAnyH_take (i := 7) (v := v3) (get_ops _ _ _ rfl) (by kernel_rfl) (by kernel_rfl) (by kernel_rfl) (fun _ _ _ h => h) (Or.inl ⟨by rfl, fun wS hSw => by (try dsimp only at hSw); go_simp⟩) hHeld ?_
    try simp only [Act.put, List.setIfInBounds_toArray, List.set_cons_zero, List.set_cons_succ]
    refine wpAnyH_done (by kernel_rfl) ?_ _
    go_upto_region 11 with fail
    obtain ⟨h6, hh6⟩ : ∃ h6, h6 = World.drew h5 := ⟨_, rfl⟩
    have hbD : Below h5.heap.size h5 h6 := by rw [hh6]; exact (Below.refl _ _).drew
    have T_h6 : Hid (BK 28 h6 w.heap.size (wcs L A c xs A2 c2 X l)) := Lib.hid (T_h5.out.step hbD)
    have R_h6 : Hid (BK 28 h6 (w.heap.size + 1 + 1) (wcs 0 none 0 [] none 0 [] 0)) := Lib.hid (R_h5.out.step hbD)
    have K_h6 : Hid (BK 42 h6 (w.heap.size + 1 + 1 + 1) zeroPk) := Lib.hid (K_h5.out.step hbD)
    have P_h6 : Hid (BK 26 h6 w4.heap.size [.slice A5 X5.length c5, .int .i64 n5]) := Lib.hid (P_h5.out.step hbD)
    have F_h6 : Hid (BK 56 h6 w5.heap.size (gF x)) := Lib.hid (F_h5.out.step hbD)
    have B_h6 : Hid (Below w.heap.size w h6) := Lib.hid (stepB B_h5.out hbD)
    have I_h6 : Hid (S2.IL h6 h6.heap.size A5 X5) := Lib.hid (CL.step I_h5.out hbD)
    have Z_h6 : Hid (w5.heap.size < h6.heap.size) := Lib.hid (Nat.lt_of_lt_of_le Z_h5.out hbD.size)
    have W_h6 : Hid (OwnF h6 (w5.heap.size + 1) v3 (xs ++ [x])) := Lib.hid (OwnG.step W_h5.out hbD)
    clear T_h5 R_h5 K_h5 P_h5 F_h5 B_h5 I_h5 Z_h5 W_h5
    have hbd : (fun w' => BK 28 w' w.heap.size (wcs L A c xs A2 c2 X l) ∧ BK 26 w' w4.heap.size [.slice A5 X5.length c5, .int .i64 n5] ∧ BK 56 w' w5.heap.size (gF x)) (World.drew h5) := by rw [← hh6]; exact ⟨T_h6.out, P_h6.out, F_h6.out⟩
    have hSD : (fun w' => BK 28 w' w.heap.size (wcs L A c xs A2 c2 X l) ∧ BK 26 w' w4.heap.size [.slice A5 X5.length c5, .int .i64 n5] ∧ BK 56 w' w5.heap.size (gF x)) h6 := ⟨T_h6.out, P_h6.out, F_h6.out⟩
    have HWD := Lib.hid hh6
    clear hh6 hbD
    refine wp_region_held_drew (S := fun w' => BK 28 w' w.heap.size (wcs L A c xs A2 c2 X l) ∧ BK 26 w' w4.heap.size [.slice A5 X5.length c5, .int .i64 n5] ∧ BK 56 w' w5.heap.size (gF x)) (by kernel_rfl) hbd (fun hHeld => ?_)
    rw [← HWD.out]
    clear hHeld
    have hHeld := hSD
    clear hSD hbd HWD
    refine wpAnyH_take (i := 0) (v := .pointer (some ⟨w.heap.size, 0, none⟩)) (get_ops _ _ _ rfl) (by kernel_rfl) (by kernel_rfl) (by kernel_rfl) (fun _ _ _ h => h) (Or.inl ⟨by rfl, fun wS hSw => by (try dsimp only at hSw); go_simp⟩) hHeld ?_
    try simp only [Act.put, List.setIfInBounds_toArray, List.set_cons_zero, List.set_cons_succ]
    refine wpAnyH_take (i := 1) (v := .int .i64 L) (get_ops _ _ _ rfl) (by kernel_rfl) (by kernel_rfl) (by kernel_rfl) (fun _ _ _ h => h) (Or.inl ⟨by rfl, fun wS hSw => by (try dsimp only at hSw); have cS : wS.cell? ⟨w.heap.size, 0, none⟩ = some (.int .i64 L) := hSw.1.cell 0 rfl; clear hSw; go_simp⟩) hHeld ?_
    try simp only [Act.put, List.setIfInBounds_toArray, List.set_cons_zero, List.set_cons_succ]
    refine wpAnyH_take (i := 2) (v := v3) (get_ops _ _ _ rfl) (by kernel_rfl) (by kernel_rfl) (by kernel_rfl) (fun _ _ _ h => h) (Or.inl ⟨by rfl, fun wS hSw => by (try dsimp only at hSw); go_simp⟩) hHeld ?_
    try simp only [Act.put, List.setIfInBounds_toArray, List.set_cons_zero, List.set_cons_succ]
    refine wpAnyH_take (i := 3) (v := S2.pv A5 c5 X5 n5) (get_ops _ _ _ rfl) (by kernel_rfl) (by kernel_rfl) (by kernel_rfl) (fun _ _ _ h => h) (Or.inl ⟨by rfl, fun wS hSw => by (try dsimp only at hSw); exact exec_load 26 _ rfl ⟨w4.heap.size, 0, none⟩ (by go_simp) _ (S2.run_load_all hSw.2.1 Tryz.underlying26 rfl S2.infoP2)⟩) hHeld ?_
    try simp only [Act.put, List.setIfInBounds_toArray, List.set_cons_zero, List.set_cons_succ]
    obtain ⟨A9, c9, hv9, hc9, hnew9, hgl9⟩ := OwnG.retB gF_len W_h6.out
    subst hv9
    have HC9 := Lib.hid hc9
    have HN9 := Lib.hid hnew9
    clear hc9 hgl9 hnew9
    refine wpAnyH_take (i := 4) (v := wv L A9 c9 (xs ++ [x]) A5 c5 X5 n5) (get_ops _ _ _ rfl) (by kernel_rfl) (by kernel_rfl) (by kernel_rfl) (fun _ _ _ h => h) (Or.inl ⟨by rfl, fun wS hSw => by (try dsimp only at hSw); go_simp⟩) hHeld ?_
    try simp only [Act.put, List.setIfInBounds_toArray, List.set_cons_zero, List.set_cons_succ]
    refine wpAnyH_take (i := 5) (v := fV x) (get_ops _ _ _ rfl) (by kernel_rfl) (by kernel_rfl) (by kernel_rfl) (fun _ _ _ h => h) (Or.inl ⟨by rfl, fun wS hSw => by (try dsimp only at hSw); exact exec_load 56 _ rfl ⟨w5.heap.size, 0, none⟩ (by go_simp) _ (bk_item hSw.2.2)⟩) hHeld ?_
    try simp only [Act.put, List.setIfInBounds_toArray, List.set_cons_zero, List.set_cons_succ]
    refine wpAnyH_ready (rs := [6]) (by kernel_rfl) (by simp) ?_
    refine (AllReadyH.cons (get_ops _ _ _ rfl) (fun K hK => ?_) AllReadyH.nil)
    go_simp
    refine (HPU.out x h6).mono ?_
    rintro e h7 ⟨rfl, hb⟩
    have T_h7 : Hid (BK 28 h7 w.heap.size (wcs L A c xs A2 c2 X l)) := Lib.hid (T_h6.out.step hb)
    have R_h7 : Hid (BK 28 h7 (w.heap.size + 1 + 1) (wcs 0 none 0 [] none 0 [] 0)) := Lib.hid (R_h6.out.step hb)
    have K_h7 : Hid (BK 42 h7 (w.heap.size + 1 + 1 + 1) zeroPk) := Lib.hid (K_h6.out.step hb)
    have P_h7 : Hid (BK 26 h7 w4.heap.size [.slice A5 X5.length c5, .int .i64 n5]) := Lib.hid (P_h6.out.step hb)
    have F_h7 : Hid (BK 56 h7 w5.heap.size (gF x)) := Lib.hid (F_h6.out.step hb)
    have B_h7 : Hid (Below w.heap.size w h7) := Lib.hid (stepB B_h6.out hb)
    have I_h7 : Hid (S2.IL h7 h7.heap.size A5 X5) := Lib.hid (CL.step I_h6.out hb)
    have Z_h7 : Hid (w5.heap.size < h7.heap.size) := Lib.hid (Nat.lt_of_lt_of_le Z_h6.out hb.size)
    have W_h7 : Hid (OwnF h7 (w5.heap.size + 1) (.slice A9 (xs ++ [x]).length c9) (xs ++ [x])) := Lib.hid (OwnG.step W_h6.out hb)
    clear T_h6 R_h6 K_h6 P_h6 F_h6 B_h6 I_h6 Z_h6 W_h6
    clear hHeld hb
    go_wp2_with fail
    refine hK.out _ _ ⟨T_h7.out, P_h7.out, F_h7.out⟩ (fun hHeld => ?_)
    clear hK K
    try simp only [Act.put, List.setIfInBounds_toArray, List.set_cons_zero, List.set_cons_succ]
    refine wpAnyH_ready (rs := [7]) (by kernel_rfl) (by simp) ?_
    refine (AllReadyH.cons (get_ops _ _ _ rfl) (fun K hK => ?_) AllReadyH.nil)
    refine S2.wp_store_all 28 _ _ rfl rfl (w.heap.size + 1 + 1) (by go_simp) (wcs L A9 c9 (xs ++ [x]) A5 c5 X5 n5) (by first | rfl | go_simp) 28 (wcs 0 none 0 [] none 0 [] 0) R_h7.out winSize rfl (ones rfl) ?_
    intro h8 hM hP
    have R_h8 : Hid (BK 28 h8 (w.heap.size + 1 + 1) (wcs L A9 c9 (xs ++ [x]) A5 c5 X5 n5)) := Lib.hid (hM)
    have T_h8 : Hid (BK 28 h8 w.heap.size (wcs L A c xs A2 c2 X l)) := Lib.hid (hP.other T_h7.out (by have := ZP.out; have := ZF.out; omega))
    have K_h8 : Hid (BK 42 h8 (w.heap.size + 1 + 1 + 1) zeroPk) := Lib.hid (hP.other K_h7.out (by have := ZP.out; have := ZF.out; omega))
    have P_h8 : Hid (BK 26 h8 w4.heap.size [.slice A5 X5.length c5, .int .i64 n5]) := Lib.hid (hP.other P_h7.out (by have := ZP.out; have := ZF.out; omega))
    have F_h8 : Hid (BK 56 h8 w5.heap.size (gF x)) := Lib.hid (hP.other F_h7.out (by have := ZP.out; have := ZF.out; omega))
    have B_h8 : Hid (Below w.heap.size w h8) := Lib.hid (hP.below B_h7.out (by omega))
    have I_h8 : Hid (S2.IL h8 h8.heap.size A5 X5) := Lib.hid (ILput I_h7.out hP (fun hn b o e => by have := HN5.out b o e; omega))
    have Z_h8 : Hid (w5.heap.size < h8.heap.size) := Lib.hid ((by rw [hP.size]; exact Z_h7.out))
    have W_h8 : Hid (OwnF h8 (w5.heap.size + 1) (.slice A9 (xs ++ [x]).length c9) (xs ++ [x])) := Lib.hid (W_h7.out.putA hP (fun q n c e => by have := ownG_lt W_h7.out q n c e; have := ZP.out; have := ZF.out; omega))
    clear T_h7 R_h7 K_h7 P_h7 F_h7 B_h7 I_h7 Z_h7 W_h7
    clear hM hP hHeld
    refine hK.out _ _ ⟨T_h8.out, P_h8.out, F_h8.out⟩ (fun hHeld => ?_)
    clear hK K
    try simp only [Act.put, List.setIfInBounds_toArray, List.set_cons_zero, List.set_cons_succ]
    refine wpAnyH_ready (rs := [8]) (by kernel_rfl) (by simp) ?_
    refine (AllReadyH.cons (get_ops _ _ _ rfl) (fun K hK => ?_) AllReadyH.nil)
    refine S2.wp_store_all 42 _ _ rfl rfl (w.heap.size + 1 + 1 + 1) (by go_simp) (pkC (pubP x.f false) (pubA x.a x.c)) (by first | rfl | go_simp) 42 zeroPk K_h8.out pktSize rfl (pkOnes _ _) ?_
    intro h9 hM hP
    have K_h9 : Hid (BK 42 h9 (w.heap.size + 1 + 1 + 1) (pkC (pubP x.f false) (pubA x.a x.c))) := Lib.hid (hM)
    have T_h9 : Hid (BK 28 h9 w.heap.size (wcs L A c xs A2 c2 X l)) := Lib.hid (hP.other T_h8.out (by have := ZP.out; have := ZF.out; omega))
    have R_h9 : Hid (BK 28 h9 (w.heap.size + 1 + 1) (wcs L A9 c9 (xs ++ [x]) A5 c5 X5 n5)) := Lib.hid (hP.other R_h8.out (by have := ZP.out; have := ZF.out; omega))
    have P_h9 : Hid (BK 26 h9 w4.heap.size [.slice A5 X5.length c5, .int .i64 n5]) := Lib.hid (hP.other P_h8.out (by have := ZP.out; have := ZF.out; omega))
    have F_h9 : Hid (BK 56 h9 w5.heap.size (gF x)) := Lib.hid (hP.other F_h8.out (by have := ZP.out; have := ZF.out; omega))
    have B_h9 : Hid (Below w.heap.size w h9) := Lib.hid (hP.below B_h8.out (by omega))
    have I_h9 : Hid (S2.IL h9 h9.heap.size A5 X5) := Lib.hid (ILput I_h8.out hP (fun hn b o e => by have := HN5.out b o e; omega))
    have Z_h9 : Hid (w5.heap.size < h9.heap.size) := Lib.hid ((by rw [hP.size]; exact Z_h8.out))
    have W_h9 : Hid (OwnF h9 (w5.heap.size + 1) (.slice A9 (xs ++ [x]).length c9) (xs ++ [x])) := Lib.hid (W_h8.out.putA hP (fun q n c e => by have := ownG_lt W_h8.out q n c e; have := ZP.out; have := ZF.out; omega))
    clear T_h8 R_h8 K_h8 P_h8 F_h8 B_h8 I_h8 Z_h8 W_h8
    clear hM hP hHeld
    refine hK.out _ _ ⟨T_h9.out, P_h9.out, F_h9.out⟩ (fun hHeld => ?_)
    clear hK K
    try simp only [Act.put, List.setIfInBounds_toArray, List.set_cons_zero, List.set_cons_succ]
    refine wpAnyH_take (i := 9) (v := .int .i64 0) (get_ops _ _ _ rfl) (by kernel_rfl) (by kernel_rfl) (by kernel_rfl) (fun _ _ _ h => h) (Or.inl ⟨by rfl, fun wS hSw => by (try dsimp only at hSw); go_simp⟩) hHeld ?_
    try simp only [Act.put, List.setIfInBounds_toArray, List.set_cons_zero, List.set_cons_succ]
    refine wpAnyH_done (by kernel_rfl) ?_ _
    go_wp2_with fail
    rw [← HRR.out]
    obtain ⟨A9x, c9x, hv9x, _, hfi9⟩ := OwnG.ret gF_len W_h9.out
    simp only [Value.slice.injEq] at hv9x
    obtain ⟨rfl, _, rfl⟩ := hv9x
    have HMP : Hid ((xs ++ [x]).map FE.f = xs.map FE.f ++ [⟨n5, 1, m⟩]) := Lib.hid (by rw [List.map_append, List.map_cons, List.map_nil, HXM.out])
    rw [← HXM.out]
    exact bodyPost_ret (v := .tuple #[wv L A9 c9 (xs ++ [x]) A5 c5 X5 n5, pkV (pubP x.f false) (pubA x.a x.c), .int .i64 0]) (res221 rfl _ _ (w.heap.size + 1 + 1) (w.heap.size + 1 + 1 + 1) 28 42 (wcs L A9 c9 (xs ++ [x]) A5 c5 X5 n5) (pkC (pubP x.f false) (pubA x.a x.c)) _ _ _ rfl rfl rfl R_h9.out K_h9.out Tryz.underlying28 rfl winSize Tryz.underlying42 rfl pktSize) rfl ⟨A9, c9, xs ++ [x], A5, c5, x.a, x.c, rfl, by rw [HMP.out, HXM.out], ⟨⟨hfi9, fun y hy => (by
    rcases List.mem_append.1 hy with hy | hy
    · exact (HW.out.1.step B_h9.out).2 y hy
    · simp at hy; subst hy; exact HXA.out.step B_h9.out)⟩, HC9.out, I_h9.out, HC5.out⟩, HXA.out.step B_h9.out, B_h9.out, fun g hg ho ha => ⟨⟨fun _ b o e => (by have := HN9.out b o e; have := ZP.out; have := ZF.out; omega), fun y hy => (by
    rcases List.mem_append.1 hy with hy | hy
    · exact ho.2.1 y hy
    · simp at hy; subst hy; exact HXW.out g ha), HO5.out g hg ho.2.2⟩, HXW.out g ha⟩⟩
theorem rstart_any (L : Int) (A : Option Addr) (c : Nat) (xs : List FE) (A2 : Option Addr) (c2 : Nat) (X : List Int) (l : Int) (m : Msg) (am : Option Addr) (cm : Nat) (w : World) (hw : WOk w A c xs A2 c2 X) (hm : PL w w.heap.size am m.props) (ht : m.topic.size ≤ 9223372036854775807 ∧ m.frm.size ≤ 9223372036854775807 ∧ ∀ y ∈ m.props, y.1.size ≤ 9223372036854775807) (h0 : 0 ≤ L) (h1 : L ≤ 32) (hn : xs.length ≤ 32) (hX : S2.ckI X l = 0) (hXl : X.length ≤ xs.length) :
    Calls Tryz.prog 8 #[wv L A c xs A2 c2 X l, msgV m am cm] w (RetT (startR (L, xs.map FE.f, X, l) m) w) :=
  (rstarto_any L A c xs A2 c2 X l m am cm w hw hm ht h0 h1 hn hX hXl).mono fun _ _ ⟨A1, c1, ys, A3, c3, a4, c4, h1, h2, h3, h4, h5, _⟩ => ⟨A1, c1, ys, A3, c3, a4, c4, h1, h2, h3, h4, h5⟩
end Go.Proofs.YtmcocepjdhpecabGreatDoor
namespace Go.Proofs.YtmcocepjdhpecabGreatDoor
open Go.RowKit
open S2 (BK Put)

/-- the slice with this address reads as these structs, below block B, their properties too -/
def LI {α : Type} (g : α → List Value) (k : Nat) (ad : α → Option Addr) (ps : α → List PR) (w : World) (B : Nat) (A : Option Addr) (xs : List α) : Prop := GL g k w B A xs ∧ ∀ x ∈ xs, PL w B (ad x) (ps x)
section
variable {α : Type} {g : α → List Value} {k : Nat} {ad : α → Option Addr} {ps : α → List PR} {w w' : World} {B : Nat} {A : Option Addr} {xs : List α}
theorem LI.nil (w : World) (B : Nat) (A : Option Addr) : LI g k ad ps w B A [] := ⟨GL.nil _ _ _, fun x hx => by cases hx⟩
theorem LI.below (h : LI g k ad ps w B A xs) (hb : Below B w w') : LI g k ad ps w' B A xs := ⟨h.1.below hb, fun x hx => (h.2 x hx).below hb⟩
theorem LI.more (h : LI g k ad ps w B A xs) {B' : Nat} (hB : B ≤ B') : LI g k ad ps w B' A xs := ⟨h.1.more hB, fun x hx => (h.2 x hx).more hB⟩
theorem LI.step (h : LI g k ad ps w w.heap.size A xs) (hb : Below w.heap.size w w') : LI g k ad ps w' w'.heap.size A xs := (h.below hb).more hb.size
theorem LI.at_ (h : LI g k ad ps w B A xs) {j : Nat} {x : α} (hx : xs[j]? = some x) :
    ∃ b o, A = some ⟨b, o, none⟩ ∧ b < B ∧ (∀ i v, (g x)[i]? = some v → w.cell? ⟨b, o + j * k + i, none⟩ = some v) ∧ PL w B (ad x) (ps x) := by
  obtain ⟨b, o, e, hb, hc⟩ := h.1 (Nat.lt_of_le_of_lt (Nat.zero_le _) (List.getElem?_eq_some_iff.1 hx).1)
  exact ⟨b, o, e, hb, fun i v hv => hc j x i v hx hv, h.2 x (List.mem_of_getElem? hx)⟩
theorem LI.take (h : LI g k ad ps w B A xs) (n : Nat) : LI g k ad ps w B A (xs.take n) := ⟨h.1.take n, fun x hx => h.2 x (List.mem_of_mem_take hx)⟩
theorem GL.drop (h : GL g k w B A xs) {n cap : Nat} (hn : n ≤ xs.length) (hc : xs.length ≤ cap) : GL g k w B (if cap = n then A else A.map (·.add (n * k))) (xs.drop n) := fun h0 => by
  rw [List.length_drop] at h0
  obtain ⟨b, o, e, hb, hcell⟩ := h (by omega)
  rw [if_neg (by omega), e]
  refine ⟨b, o + n * k, ?_, hb, fun j x i v hx hv => ?_⟩
  · simp only [Option.map_some, Addr.add]
    split
    · next h0 => rw [h0]; rfl
    · rfl
  · rw [List.getElem?_drop] at hx
    have := hcell _ x i v hx hv
    rw [Nat.add_mul, ← Nat.add_assoc o (n * k) (j * k)] at this
    exact this
theorem LI.drop (h : LI g k ad ps w B A xs) {n cap : Nat} (hn : n ≤ xs.length) (hc : xs.length ≤ cap) : LI g k ad ps w B (if cap = n then A else A.map (·.add (n * k))) (xs.drop n) := ⟨h.1.drop hn hc, fun x hx => h.2 x (List.mem_of_mem_drop hx)⟩
/-- its elements with other properties' addresses -/
theorem LI.app {e : TypeId} {v : Value} {ys : List α} (hg : ∀ x, (g x).length = k) (h : Lst e g k ad ps B w v ys) : ∃ A c, v = .slice A ys.length c ∧ ys.length ≤ c ∧ LI g k ad ps w w.heap.size A ys := by
  obtain ⟨A, c, hv, hc, _, hgl, hp⟩ := h.ret hg
  exact ⟨A, c, hv, hc, hgl, fun x hx => (hp x hx).1⟩
end

/-! ### Rows -/
section
variable {α π : Type} {e : TypeId} {g : α → List Value} {k : Nat} {ad : α → Option Addr} {ps : α → List PR} {pr : α → π} {w w' : World} {B : Nat}
theorem own_rowG {v : Value} {xs : List α} (h : OwnG e g k w B v xs) : (v = .slice none 0 0 ∧ xs = []) ∨ ∃ q cap sp, v = .slice (some ⟨q, 0, none⟩) xs.length cap ∧ B ≤ q ∧ BK e w q (xs.flatMap g ++ sp) ∧ xs.length ≤ cap ∧ cap ≤ maxLen ∧ (xs.flatMap g ++ sp).length = cap * k := by
  unfold OwnG at h
  have hlen := h.1
  rcases h.2 with ⟨rfl, hn⟩ | ⟨q, cap, cur, rfl, hb, hq, hnc, hcm, hcs, htake⟩
  · exact .inl ⟨rfl, List.eq_nil_of_length_eq_zero hn⟩
  · refine .inr ⟨q, cap, cur.toList.drop (xs.length * k), rfl, hb, ?_, hnc, hcm, ?_⟩
    · unfold BK; rw [← htake, List.take_append_drop]; simpa using hq
    · rw [← htake, List.take_append_drop]; simpa using hcs
theorem row_ownG (hg : ∀ x, (g x).length = k) {q cap : Nat} {xs : List α} {sp : List Value} (hb : B ≤ q) (hq : BK e w q (xs.flatMap g ++ sp)) (hnc : xs.length ≤ cap) (hcm : cap ≤ maxLen) (hl : (xs.flatMap g ++ sp).length = cap * k) : OwnG e g k w B (.slice (some ⟨q, 0, none⟩) xs.length cap) xs := by
  unfold OwnG
  exact ⟨flat_len hg xs, .inr ⟨q, cap, (xs.flatMap g ++ sp).toArray, rfl, hb, hq, hnc, hcm, by simpa using hl, by
    show (xs.flatMap g ++ sp).take (xs.length * k) = _
    rw [← flat_len hg xs, List.take_left' rfl]⟩⟩
theorem row_atG (hg : ∀ x, (g x).length = k) {T : TypeId} {q : Nat} {xs : List α} {sp : List Value} (h : BK T w q (xs.flatMap g ++ sp)) {j : Nat} {x : α} (hx : xs[j]? = some x) : ∀ i v, (g x)[i]? = some v → w.cell? ⟨q, j * k + i, none⟩ = some v := fun i v hv => by
  have hi : i < k := by rw [← hg x]; exact (List.getElem?_eq_some_iff.1 hv).1
  refine h.cell _ ?_
  have hj : j < xs.length := (List.getElem?_eq_some_iff.1 hx).1
  have : j * k + k ≤ xs.length * k := by rw [← Nat.succ_mul]; exact Nat.mul_le_mul hj (Nat.le_refl _)
  rw [List.getElem?_append_left (by rw [flat_len hg]; omega), flat_at hg xs j x i hx hi]
  exact hv
theorem putC_in (L M R cs : List Value) (off : Nat) (h : off + cs.length ≤ M.length) : putC (L ++ M ++ R) (L.length + off) cs = L ++ putC M off cs ++ R := by
  have e1 : M = M.take off ++ (M.drop off).take cs.length ++ M.drop (off + cs.length) := by
    rw [List.append_assoc, ← List.drop_drop, List.take_append_drop, List.take_append_drop]
  have h1 : (M.take off).length = off := by rw [List.length_take]; omega
  have h2 : ((M.drop off).take cs.length).length = cs.length := by rw [List.length_take, List.length_drop]; omega
  have := putC_mid (L ++ M.take off) ((M.drop off).take cs.length) (M.drop (off + cs.length) ++ R) cs h2.symm
  rw [List.length_append, h1] at this
  have e2 : L ++ M.take off ++ (M.drop off).take cs.length ++ (M.drop (off + cs.length) ++ R) = L ++ M ++ R := by
    conv => rhs; rw [e1]
    simp only [List.append_assoc]
  rw [e2] at this
  rw [this]
  unfold putC
  simp only [List.append_assoc]
theorem set_in (L M R : List Value) (off : Nat) (v : Value) (h : off < M.length) : (L ++ M ++ R).set (L.length + off) v = L ++ M.set off v ++ R := by
  rw [List.append_assoc, List.set_append_right _ _ (by omega), Nat.add_sub_cancel_left, List.set_append_left _ _ h, ← List.append_assoc]
/-- an element is written over in part -/
theorem put_atG (hg : ∀ x, (g x).length = k) {xs : List α} {j : Nat} {x : α} (h : xs[j]? = some x) (y : α) (off : Nat) (cs sp : List Value) (hy : g y = putC (g x) off cs) (hf : off + cs.length ≤ k) : putC (xs.flatMap g ++ sp) (j * k + off) cs = (xs.set j y).flatMap g ++ sp := by
  obtain ⟨e, hl⟩ := split_at h
  rw [set_split h y]
  conv => lhs; rw [e]
  rw [List.flatMap_append, List.flatMap_cons, List.flatMap_append, List.flatMap_cons, hy]
  have h1 : ((xs.take j).flatMap g).length = j * k := by rw [flat_len hg, hl]
  have := putC_in ((xs.take j).flatMap g) (g x) ((xs.drop (j + 1)).flatMap g ++ sp) cs off (by rw [hg]; exact hf)
  rw [h1] at this
  simp only [List.append_assoc] at this ⊢
  exact this
theorem set_atG (hg : ∀ x, (g x).length = k) {xs : List α} {j : Nat} {x : α} (h : xs[j]? = some x) (y : α) (off : Nat) (v : Value) (sp : List Value) (hy : g y = (g x).set off v) (hf : off < k) : (xs.flatMap g ++ sp).set (j * k + off) v = (xs.set j y).flatMap g ++ sp := by
  obtain ⟨e, hl⟩ := split_at h
  rw [set_split h y]
  conv => lhs; rw [e]
  rw [List.flatMap_append, List.flatMap_cons, List.flatMap_append, List.flatMap_cons, hy]
  have h1 : ((xs.take j).flatMap g).length = j * k := by rw [flat_len hg, hl]
  have := set_in ((xs.take j).flatMap g) (g x) ((xs.drop (j + 1)).flatMap g ++ sp) off v (by rw [hg]; exact hf)
  rw [h1] at this
  simp only [List.append_assoc] at this ⊢
  exact this

/-! ### A loop that gives each element properties of its own -/
/-- behind round j: the elements up to j have properties of their own -/
structure CIL (e : TypeId) (g : α → List Value) (ad : α → Option Addr) (ps : α → List PR) (pr : α → π) (xs : List α) (w w1 : World) (q : Nat) (sp : List Value) (j : Nat) (wr : World) (ys : List α) : Prop where
  same : ys.map pr = xs.map pr
  row : BK e wr q (ys.flatMap g ++ sp)
  new : ∀ i y, i < j → ys[i]? = some y → PL wr wr.heap.size (ad y) (ps y) ∧ NewL w1.heap.size (ad y)
  old : ∀ i, j ≤ i → ys[i]? = xs[i]?
  b0 : Below w.heap.size w wr
  b1 : w1.heap.size ≤ wr.heap.size
theorem CIL.zero {xs : List α} {w w1 : World} {q : Nat} {sp : List Value} (hb : Below w.heap.size w w1) (hq : BK e w1 q (xs.flatMap g ++ sp)) : CIL e g ad ps pr xs w w1 q sp 0 w1 xs :=
  ⟨rfl, hq, fun i y h => absurd h (by omega), fun _ _ => rfl, hb, Nat.le_refl _⟩
theorem CIL.len {xs ys : List α} {w w1 wr : World} {q j : Nat} {sp : List Value} (h : CIL e g ad ps pr xs w w1 q sp j wr ys) : ys.length = xs.length := by have := congrArg List.length h.same; simpa using this
theorem CIL.succ {xs ys : List α} {w w1 wr w2 w3 : World} {q j : Nat} {sp : List Value} (h : CIL e g ad ps pr xs w w1 q sp j wr ys) {y y' : α} (hy : ys[j]? = some y) (hp : pr y' = pr y)
    (h2 : PL w2 w2.heap.size (ad y') (ps y')) (hn : NewL wr.heap.size (ad y')) (hb : Below wr.heap.size wr w2) (hP : Put q w2 w3) (hrow : BK e w3 q ((ys.set j y').flatMap g ++ sp)) (hbq : w.heap.size ≤ q) (hq1 : q < w1.heap.size) : CIL e g ad ps pr xs w w1 q sp (j + 1) w3 (ys.set j y') := by
  have hz3 := hP.size
  have hz2 := hb.size
  have hz1 := h.b1
  refine ⟨?_, hrow, fun i z hi hz => ?_, fun i hi => ?_, hP.below (stepB h.b0 hb) hbq, by omega⟩
  · rw [List.map_set, h.same, hp]
    have : (xs.map pr)[j]? = some (pr y) := by rw [← h.same, List.getElem?_map, hy]; rfl
    obtain ⟨hk, e⟩ := List.getElem?_eq_some_iff.1 this
    conv => lhs; rw [← e]
    exact List.set_getElem_self hk
  · rw [List.getElem?_set] at hz
    split at hz
    · next hij =>
      have hjl : j < ys.length := (List.getElem?_eq_some_iff.1 hy).1
      rw [if_pos (by omega)] at hz
      obtain rfl := Option.some.inj hz
      refine ⟨?_, fun b o e => by have := hn b o e; omega⟩
      have := PL.put h2 hP (fun b o e => by have := hn b o e; omega)
      rw [hz3]
      exact this
    · next hij =>
      obtain ⟨p1, p2⟩ := h.new i z (by omega) hz
      refine ⟨?_, p2⟩
      have h3 := PL.put (p1.step hb) hP (fun b o e => by have := p2 b o e; omega)
      rw [hz3]
      exact h3
  · rw [List.getElem?_set_ne (by omega)]
    exact h.old i (by omega)
theorem CIL.done (hg : ∀ x, (g x).length = k) {xs ys : List α} {w w1 wr : World} {q cap : Nat} {sp : List Value} (h : CIL e g ad ps pr xs w w1 q sp xs.length wr ys) (hbq : w.heap.size ≤ q) (hq1 : q < w1.heap.size) (hnc : xs.length ≤ cap) (hcm : cap ≤ maxLen) (hcs : (xs.flatMap g ++ sp).length = cap * k) :
    ys.map pr = xs.map pr ∧ Lst e g k ad ps w.heap.size wr (.slice (some ⟨q, 0, none⟩) xs.length cap) ys ∧ Below w.heap.size w wr := by
  have hl := h.len
  refine ⟨h.same, ⟨?_, fun y hy => ?_⟩, h.b0⟩
  · rw [← hl]
    exact row_ownG hg hbq h.row (by omega) hcm (by rw [← hcs, List.length_append, List.length_append, flat_len hg, flat_len hg, hl])
  · obtain ⟨j, hj⟩ := List.mem_iff_getElem?.1 hy
    have hjl := (List.getElem?_eq_some_iff.1 hj).1
    obtain ⟨h1, h2⟩ := h.new j y (by omega) hj
    refine ⟨h1, fun b o e _ q' n c ev => ?_, fun b o e => by have := h2 b o e; omega⟩
    simp only [Value.slice.injEq, Option.some.injEq, Addr.mk.injEq, and_true] at ev
    have := h2 b o e
    omega
/-- a list that a call answers, in memory of its own -/
def RetLs (e : TypeId) (g : α → List Value) (k : Nat) (ad : α → Option Addr) (ps : α → List PR) (pr : α → π) (L : List π) (W : World) (E : Ending) (w' : World) : Prop := ∃ v ys, E = .returned v ∧ ys.map pr = L ∧ Lst e g k ad ps W.heap.size w' v ys ∧ Below W.heap.size W w'
end
/-! ### Lists that lie from a block on -/
/-- a list all of whose memory lies from block B on -/
def LN {α : Type} (g : α → List Value) (k : Nat) (ad : α → Option Addr) (ps : α → List PR) (w : World) (B : Nat) (A : Option Addr) (xs : List α) : Prop := LI g k ad ps w w.heap.size A xs ∧ NewL B A ∧ ∀ x ∈ xs, NewL B (ad x)
/-- properties that lie there -/
def PN (w : World) (B : Nat) (A : Option Addr) (xs : List PR) : Prop := PL w w.heap.size A xs ∧ NewL B A
theorem PN.step {w w' : World} {B : Nat} {A : Option Addr} {xs : List PR} (h : PN w B A xs) (hb : Below w.heap.size w w') : PN w' B A xs := ⟨h.1.step hb, h.2⟩
theorem PN.put {w w' : World} {B q : Nat} {A : Option Addr} {xs : List PR} (h : PN w B A xs) (hp : Put q w w') (hq : q < B) : PN w' B A xs := ⟨by rw [hp.size]; exact PL.put h.1 hp (fun b o e => by have := h.2 b o e; omega), h.2⟩
theorem GL.put {α : Type} {g : α → List Value} {k : Nat} {w w' : World} {B q : Nat} {A : Option Addr} {xs : List α} (h : GL g k w B A xs) (hp : Put q w w') (hne : ∀ b o, A = some ⟨b, o, none⟩ → b ≠ q) : GL g k w' B A xs := fun hn => by
  obtain ⟨b, o, e, hb, hc⟩ := h hn
  exact ⟨b, o, e, hb, fun j x i v hx hv => (hp.cell (p := ⟨b, o + j * k + i, none⟩) (hne b o e)).trans (hc j x i v hx hv)⟩
section
variable {α : Type} {e : TypeId} {g : α → List Value} {k : Nat} {ad : α → Option Addr} {ps : α → List PR} {w w' : World} {B : Nat} {A : Option Addr} {xs : List α}
theorem LN.nil : LN g k ad ps w B none [] := ⟨LI.nil _ _ _, (fun b o e => by cases e), (fun x hx => by cases hx)⟩
theorem LN.step (h : LN g k ad ps w B A xs) (hb : Below w.heap.size w w') : LN g k ad ps w' B A xs := ⟨h.1.step hb, h.2⟩
theorem LN.put (h : LN g k ad ps w B A xs) {q : Nat} (hp : Put q w w') (hq : q < B) : LN g k ad ps w' B A xs :=
  ⟨⟨by rw [hp.size]; exact h.1.1.put hp (fun b o e => by have := h.2.1 b o e; omega), fun x hx => by rw [hp.size]; exact PL.put (h.1.2 x hx) hp (fun b o e => by have := h.2.2 x hx b o e; omega)⟩, h.2⟩
theorem LN.weak (h : LN g k ad ps w B A xs) {B' : Nat} (hB : B' ≤ B) : LN g k ad ps w B' A xs := ⟨h.1, fun b o e => by have := h.2.1 b o e; omega, fun x hx b o e => by have := h.2.2 x hx b o e; omega⟩
theorem LN.of (hg : ∀ x, (g x).length = k) {v : Value} (h : Lst e g k ad ps B w v xs) : ∃ A c, v = .slice A xs.length c ∧ xs.length ≤ c ∧ LN g k ad ps w B A xs := by
  obtain ⟨A, c, hv, hc, hn, hgl, hp⟩ := h.ret hg
  exact ⟨A, c, hv, hc, ⟨hgl, fun x hx => (hp x hx).1⟩, hn, fun x hx => (hp x hx).2⟩
end

/-! ### append, as an operation -/
section
variable {P : Program} {α : Type} {g : α → List Value} {k : Nat} {e : TypeId}
theorem oper_appG {o : Oper} {a : Act} {wr : World} {K : Act → World → Prop} {Q : Exit → Act → World → Prop} (hk0 : 0 < k) (s x : Operand) (t tx : TypeId)
    (ho : o.op = .call { callee := .builtin .append, args := #[s, x], argTypes := #[t, tx] }) (z : Value) (bytes : Nat) (ht : P.underlying t = some (.slice e))
    (hi : (P.info? e).map (fun i => (i.zero, i.size, i.bytes)) = some (some z, k, bytes)) (hzs : z.cells.size = k) (hby : 0 < bytes) (B : Nat) (v : Value) (xs ys : List α) (vx : Value) (hs : a.eval s = v) (hown : OwnG e g k wr B v xs)
    (hx : a.eval x = vx) (hsrc : Src P k tx vx ys.length (ys.flatMap g) wr) (hB : B ≤ wr.heap.size) (hn : (xs.length + ys.length) * bytes ≤ 140737488355328)
    (h : ∀ v' w', OwnG e g k w' B v' (xs ++ ys) → wr.grownBy w' v.ownBlock → (∀ b, b < wr.heap.size → v.ownBlock ≠ some b → v'.ownBlock ≠ some b) → K (a.put o.dst v') w') : o.wp P a wr K Q := by
  obtain ⟨i, hi, hz, hz1, hz2⟩ := info_parts hi
  have hn2 : xs.length + ys.length ≤ 140737488355328 := Nat.le_trans (Nat.le_mul_of_pos_right _ hby) hn
  obtain ⟨v', w', hr, h2, h3, h4⟩ := app_own (P := P) wr B t tx o.type e i _ k bytes ht hi hz hz1 hz2 hzs hk0 v xs.length (xs.flatMap g) hown _ ys.length (ys.flatMap g) hsrc (by unfold maxLen; omega) hn hB
  unfold Oper.wp execOp
  simp only [ho, resolve, invoke, builtin, Sem.run_bind, Sem.run_pure, Result.andThen_ok, List.map_toArray, List.map_cons, List.map_nil, hs, hx, hr]
  refine h v' w' ?_ h3 (fun b hb hne e2 => ?_)
  · unfold OwnG
    simpa [List.flatMap_append] using h2
  · rcases h2.2 with ⟨rfl, _⟩ | ⟨q, cap, cur, rfl, _⟩
    · simp [Value.ownBlock] at e2
    · simp only [Value.ownBlock, Option.some.injEq] at e2
      subst e2
      rcases h4 _ _ _ rfl with ⟨n'', c'', hv⟩ | hq
      · exact hne (by rw [hv]; rfl)
      · omega
theorem BK.grow {T : TypeId} {w w' : World} {M : Nat} {vs : List Value} (h : BK T w M vs) {row : Option Nat} (hg : w.grownBy w' row) (hne : row ≠ some M) : BK T w' M vs :=
  (hg.block _ h.lt (fun e => hne e.symm)).trans h
theorem OwnG.off {w : World} {B : Nat} {v : Value} {xs : List α} (h : OwnG e g k w B v xs) {b : Nat} (hb : b < B) : v.ownBlock ≠ some b := fun e2 => by
  have := (World.ownsRow.lt h b e2).1
  omega
theorem OwnG.high {w : World} {B : Nat} {v : Value} {xs : List α} (h : OwnG e g k w B v xs) {b : Nat} (hb : w.heap.size ≤ b) : v.ownBlock ≠ some b := fun e2 => by
  have := (World.ownsRow.lt h b e2).2
  omega
theorem Below.grow {w w' w0 : World} {B0 B : Nat} {v : Value} {xs : List α} (hb : Below B0 w0 w) (h : OwnG e g k w B v xs) (hg : w.grownBy w' v.ownBlock) (hB : B0 ≤ w.heap.size) (hle : B0 ≤ B) : Below B0 w0 w' := hb.grown hg hB (fun j hj => Nat.le_trans hle (World.ownsRow.lt h j hj).1)
/-- another list of the call's own stays where one grows -/
theorem OwnG.grow {α' : Type} {g' : α' → List Value} {k' : Nat} {e' : TypeId} {w w' : World} {B : Nat} {v : Value} {xs : List α'} (h : OwnG e' g' k' w B v xs) {row : Option Nat} (hg : w.grownBy w' row) (hne : ∀ b, v.ownBlock = some b → row ≠ some b) : OwnG e' g' k' w' B v xs := by
  unfold OwnG at h ⊢
  refine ⟨h.1, ?_⟩
  rcases h.2 with h' | ⟨q, cap, cur, rfl, hB, hq, hnc, hcm, hcs, htake⟩
  · exact .inl h'
  · exact .inr ⟨q, cap, cur, rfl, hB, by rw [hg.block q (Array.getElem?_eq_some_iff.1 hq).1 (fun e2 => hne q rfl e2.symm)]; exact hq, hnc, hcm, hcs, htake⟩
/-- the one element of a new block, to be appended -/
theorem src_blk (hg : ∀ x, (g x).length = k) (h1 : ∀ x, ∀ u ∈ g x, u.oneCell' = true) {t : TypeId} (ht : P.underlying t = some (.slice e)) {w : World} {b : Nat} {x : α} (h : BK e w b (g x)) : Src P k t (.slice (some ⟨b, 0, none⟩) 1 1) 1 ([x].flatMap g) w := by
  have := GL.src (A := some ⟨b, 0, none⟩) (xs := [x]) (B := w.heap.size) hg h1 (w := w) (fun _ => ⟨b, 0, rfl, h.lt, fun j y i v hy hv => ?_⟩) ht 1
  · simpa using this
  · cases j with
    | zero =>
      simp at hy
      subst hy
      have hi : i < (g x).length := (List.getElem?_eq_some_iff.1 hv).1
      have := h.cell i hv
      simpa using this
    | succ j => simp at hy
/-- append onto a list at its full length: what comes lies in new memory -/
theorem wpList_appCut {ops : Array Oper} {rest : List Oper} {o : Oper} {a : Act} {Q : Exit → Act → World → Prop} (hg : ∀ x, (g x).length = k) (h1 : ∀ x, ∀ u ∈ g x, u.oneCell' = true) (hk0 : 0 < k) (wr : World) (hgd : o.guard = none) (s x : Operand) (t tx : TypeId)
    (ho : o.op = .call { callee := .builtin .append, args := #[s, x], argTypes := #[t, tx] }) (z : Value) (bytes : Nat) (ht : P.underlying t = some (.slice e))
    (hi : (P.info? e).map (fun i => (i.zero, i.size, i.bytes)) = some (some z, k, bytes)) (hzs : z.cells.size = k) (hby : 0 < bytes) {B : Nat} (A : Option Addr) (xs ys : List α) (hs : a.eval s = .slice A xs.length xs.length) (hA : GL g k wr B A xs)
    (vx : Value) (hx : a.eval x = vx) (hsrc : Src P k tx vx ys.length (ys.flatMap g) wr) (hy : 0 < ys.length) (hn : (xs.length + ys.length) * bytes ≤ 140737488355328)
    (h : ∀ v' w', OwnG e g k w' wr.heap.size v' (xs ++ ys) → Below wr.heap.size wr w' → wr.heap.size ≤ w'.heap.size → wpList P ops Q rest (a.put o.dst v') w') : wpList P ops Q (o :: rest) a wr :=
  wpList_plain hgd fun _ hK => by
    obtain ⟨i, hi2, hz, hz1, hz2⟩ := info_parts hi
    subst hz1
    subst hz2
    have hn2 : xs.length + ys.length ≤ 140737488355328 := Nat.le_trans (Nat.le_mul_of_pos_right _ hby) hn
    have hr := run_append_grow_src (P := P) wr t tx o.type e i z ht hi2 hz A xs.length xs.length (xs.flatMap g) (GL.src hg h1 hA ht xs.length).cellsD vx ys.length (ys.flatMap g) hsrc (by omega) (by omega) (growslice_fits (by omega) hn)
    have hge := grownCap_ge wr (xs.length + ys.length) xs.length e
    have hcm : grownCap wr (xs.length + ys.length) xs.length e ≤ maxLen := grownCap_le_maxLen wr (xs.length + ys.length) xs.length e (by unfold maxLen; omega)
    have hlen : (xs.flatMap g ++ ys.flatMap g).length = (xs.length + ys.length) * i.size := by rw [List.length_append, flat_len hg, flat_len hg, Nat.add_mul]
    unfold Oper.wp execOp
    simp only [ho, resolve, invoke, builtin, Sem.run_bind, Sem.run_pure, Result.andThen_ok, List.map_toArray, List.map_cons, List.map_nil, hs, hx, hr]
    refine hK _ _ (h _ _ ?_ ?_ (by simp))
    · unfold OwnG
      rw [List.length_append, List.flatMap_append]
      refine ⟨hlen, .inr ⟨wr.heap.size, _, _, rfl, Nat.le_refl _, heap_alloc_new wr.drew _, hge, hcm, ?_, ?_⟩⟩
      · simp only [Array.size_append, List.size_toArray, size_zeroCells, hzs, hlen]
        rw [← Nat.add_mul]
        congr 1
        omega
      · simp only [Array.toList_append]
        rw [← hlen]
        exact List.take_left
    · exact ((Below.refl wr.heap.size wr).drew).alloc (Nat.le_refl _) _
/-- the same, of one element, in the world that holds it -/
theorem wpList_cut1 {ops : Array Oper} {rest : List Oper} {o : Oper} {a : Act} {Q : Exit → Act → World → Prop} (hg : ∀ x, (g x).length = k) (h1 : ∀ x, ∀ u ∈ g x, u.oneCell' = true) (hk0 : 0 < k) (wr : World) (hgd : o.guard = none) (s x : Operand) (t : TypeId)
    (ho : o.op = .call { callee := .builtin .append, args := #[s, x], argTypes := #[t, t] }) (z : Value) (bytes : Nat) (ht : P.underlying t = some (.slice e))
    (hi : (P.info? e).map (fun i => (i.zero, i.size, i.bytes)) = some (some z, k, bytes)) (hzs : z.cells.size = k) (hby : 0 < bytes) (A : Option Addr) (xs : List α) (y : α) (hs : a.eval s = .slice A xs.length xs.length) (hA : GL g k wr wr.heap.size A xs)
    (hx : a.eval x = .slice (some ⟨wr.heap.size, 0, none⟩) 1 1) (hn : (xs.length + 1) * bytes ≤ 140737488355328)
    (h : ∀ v' w', OwnG e g k w' wr.heap.size v' (xs ++ [y]) → Below wr.heap.size wr w' → wr.heap.size ≤ w'.heap.size → wpList P ops Q rest (a.put o.dst v') w') : wpList P ops Q (o :: rest) a (wr.alloc (.cells (g y).toArray e)) := by
  have hst := S2.below_new wr (.cells (g y).toArray e)
  refine wpList_appCut hg h1 hk0 _ hgd s x t t ho z bytes ht hi hzs hby (B := wr.heap.size) A xs [y] hs (hA.below hst) _ hx (srcG_one hg h1 ht wr y) (by simp) (by simpa using hn) ?_
  intro v' w' hown hb hs'
  exact h v' w' (hown.weak hst.size) (stepB hst hb) (Nat.le_trans hst.size hs')
/-- one element behind a list of the own, in the world that holds it -/
theorem wpList_app1 {ops : Array Oper} {rest : List Oper} {o : Oper} {a : Act} {Q : Exit → Act → World → Prop} (hg : ∀ x, (g x).length = k) (h1 : ∀ x, ∀ u ∈ g x, u.oneCell' = true) (hk0 : 0 < k) (wr : World) (hgd : o.guard = none) (s x : Operand) (t : TypeId)
    (ho : o.op = .call { callee := .builtin .append, args := #[s, x], argTypes := #[t, t] }) (z : Value) (bytes : Nat) (ht : P.underlying t = some (.slice e))
    (hi : (P.info? e).map (fun i => (i.zero, i.size, i.bytes)) = some (some z, k, bytes)) (hzs : z.cells.size = k) (hby : 0 < bytes) (B : Nat) (v : Value) (xs : List α) (y : α) (hs : a.eval s = v) (hown : OwnG e g k wr B v xs)
    (hx : a.eval x = .slice (some ⟨wr.heap.size, 0, none⟩) 1 1) (w0 : World) (hb : Below B w0 wr) (hB : B ≤ wr.heap.size) (hn : (xs.length + 1) * bytes ≤ 140737488355328)
    (h : ∀ v' w', OwnG e g k w' B v' (xs ++ [y]) → Below B w0 w' → B ≤ w'.heap.size → wpList P ops Q rest (a.put o.dst v') w') : wpList P ops Q (o :: rest) a (wr.alloc (.cells (g y).toArray e)) := by
  have hst := S2.below_new wr (.cells (g y).toArray e)
  exact wpList_appG hk0 _ hgd s x t t ho z bytes ht hi hzs hby B v xs [y] hs (hown.step hst) _ hx (srcG_one hg h1 ht wr y) w0 (hb.alloc hB _) (by simp; omega) (by simpa using hn) h
end
/-! ### Two lists that a call builds side by side -/
structure Two {α : Type} (e : TypeId) (g : α → List Value) (k : Nat) (ad : α → Option Addr) (ps : α → List PR) (B : Nat) (w : World) (v1 : Value) (xs1 : List α) (v2 : Value) (xs2 : List α) : Prop where
  a : OwnG e g k w B v1 xs1
  b : OwnG e g k w B v2 xs2
  d : ∀ n, v1.ownBlock = some n → v2.ownBlock ≠ some n
  p : ∀ x, x ∈ xs1 ∨ x ∈ xs2 → PL w w.heap.size (ad x) (ps x) ∧ ∀ b o, ad x = some ⟨b, o, none⟩ → 0 < (ps x).length → v1.ownBlock ≠ some b ∧ v2.ownBlock ≠ some b
section
variable {α : Type} {e : TypeId} {g : α → List Value} {k : Nat} {ad : α → Option Addr} {ps : α → List PR} {B : Nat} {w w' : World} {v1 v2 : Value} {xs1 xs2 : List α}
theorem Two.nil : Two e g k ad ps B w (.slice none 0 0) [] (.slice none 0 0) [] := ⟨OwnG.nil _ _, OwnG.nil _ _, fun n h => by simp [Value.ownBlock] at h, fun x hx => by rcases hx with hx | hx <;> cases hx⟩
theorem Two.symm (h : Two e g k ad ps B w v1 xs1 v2 xs2) : Two e g k ad ps B w v2 xs2 v1 xs1 := ⟨h.b, h.a, fun n h2 h1 => h.d n h1 h2, fun x hx => ⟨(h.p x hx.symm).1, fun b o e hn => ((h.p x hx.symm).2 b o e hn).symm⟩⟩
theorem Two.step (h : Two e g k ad ps B w v1 xs1 v2 xs2) (hb : Below w.heap.size w w') : Two e g k ad ps B w' v1 xs1 v2 xs2 := ⟨h.a.step hb, h.b.step hb, h.d, fun x hx => ⟨(h.p x hx).1.step hb, (h.p x hx).2⟩⟩
theorem PL.grow {row : Option Nat} {A : Option Addr} {p : List PR} (h : PL w w.heap.size A p) (hg : w.grownBy w' row) (hne : ∀ b o, A = some ⟨b, o, none⟩ → 0 < p.length → row ≠ some b) : PL w' w'.heap.size A p := fun hn => by
  obtain ⟨b, o, e, hb, hc⟩ := h hn
  refine ⟨b, o, e, Nat.lt_of_lt_of_le hb hg.size, fun j x i u hx hu => ?_⟩
  rw [World.cell?_of_block (a := ⟨b, o + j * 2 + i, none⟩) (hg.block b hb (fun e2 => hne b o e hn e2.symm))]
  exact hc j x i u hx hu
theorem own_lt (h : OwnG e g k w B v1 xs1) (b : Nat) (e2 : v1.ownBlock = some b) : B ≤ b ∧ b < w.heap.size := World.ownsRow.lt h b e2
/-- one element behind the second -/
theorem wpList_two {P : Program} {ops : Array Oper} {rest : List Oper} {o : Oper} {a : Act} {Q : Exit → Act → World → Prop} (hg : ∀ x, (g x).length = k) (h1 : ∀ x, ∀ u ∈ g x, u.oneCell' = true) (hk0 : 0 < k) (wr : World) (hgd : o.guard = none) (s x : Operand) (t : TypeId)
    (ho : o.op = .call { callee := .builtin .append, args := #[s, x], argTypes := #[t, t] }) (z : Value) (bytes : Nat) (ht : P.underlying t = some (.slice e))
    (hi : (P.info? e).map (fun i => (i.zero, i.size, i.bytes)) = some (some z, k, bytes)) (hzs : z.cells.size = k) (y : α) (hs : a.eval s = v2) (hown : Two e g k ad ps B wr v1 xs1 v2 xs2)
    (hx : a.eval x = .slice (some ⟨wr.heap.size, 0, none⟩) 1 1) (hp : PL wr wr.heap.size (ad y) (ps y)) (hoff : ∀ b o, ad y = some ⟨b, o, none⟩ → 0 < (ps y).length → v1.ownBlock ≠ some b ∧ v2.ownBlock ≠ some b) (w0 : World) (hb : Below B w0 wr) (hB : B ≤ wr.heap.size) (hn : (xs2.length + 1) * bytes ≤ 140737488355328) (hby : 0 < bytes)
    (h : ∀ v' w', Two e g k ad ps B w' v1 xs1 v' (xs2 ++ [y]) → Below B w0 w' → B ≤ w'.heap.size → wpList P ops Q rest (a.put o.dst v') w') : wpList P ops Q (o :: rest) a (wr.alloc (.cells (g y).toArray e)) :=
  wpList_plain hgd fun _ hK => by
    have hst := S2.below_new wr (.cells (g y).toArray e)
    have ht2 := hown.step hst
    refine oper_appG (P := P) hk0 s x t t ho z bytes ht hi hzs hby B v2 xs2 [y] _ hs ht2.b hx (srcG_one hg h1 ht wr y) (by simp; omega) (by simpa using hn) ?_
    intro v' w' hown' hgr hoffs
    have keep : ∀ (A : Option Addr) (p : List PR), PL wr wr.heap.size A p → (∀ b o, A = some ⟨b, o, none⟩ → 0 < p.length → v1.ownBlock ≠ some b ∧ v2.ownBlock ≠ some b) → PL w' w'.heap.size A p ∧ (∀ b o, A = some ⟨b, o, none⟩ → 0 < p.length → v1.ownBlock ≠ some b ∧ v'.ownBlock ≠ some b) := fun A p hpl hof => by
      have hpl1 := hpl.step hst
      refine ⟨PL.grow hpl1 hgr (fun b o e2 hn => (hof b o e2 hn).2), fun b o e2 hn => ⟨(hof b o e2 hn).1, hoffs b ?_ (hof b o e2 hn).2⟩⟩
      exact PL.lt hpl1 hn b o e2
    refine hK _ _ (h v' w' ⟨ht2.a.grow hgr (fun b e2 => ht2.d b e2), hown', fun n e1 => hoffs n (own_lt ht2.a n e1).2 (ht2.d n e1), fun z hz => ?_⟩ (Below.grow (hb.alloc hB _) ht2.b hgr (by simp; omega) (Nat.le_refl _)) (by have := hgr.size; simp at this; omega))
    rcases hz with hz | hz
    · exact keep _ _ (hown.p z (Or.inl hz)).1 (hown.p z (Or.inl hz)).2
    · rcases List.mem_append.1 hz with hz | hz
      · exact keep _ _ (hown.p z (Or.inr hz)).1 (hown.p z (Or.inr hz)).2
      · simp at hz
        subst hz
        exact keep _ _ hp hoff
/-- both lists, to be read -/
theorem Two.ret (hg : ∀ x, (g x).length = k) (h : Two e g k ad ps B w v1 xs1 v2 xs2) : ∃ A1 c1 A2 c2, v1 = .slice A1 xs1.length c1 ∧ v2 = .slice A2 xs2.length c2 ∧ xs1.length ≤ c1 ∧ xs2.length ≤ c2 ∧ LI g k ad ps w w.heap.size A1 xs1 ∧ LI g k ad ps w w.heap.size A2 xs2 := by
  obtain ⟨A1, c1, e1, h1, g1⟩ := OwnG.ret hg h.a
  obtain ⟨A2, c2, e2, h2, g2⟩ := OwnG.ret hg h.b
  exact ⟨A1, c1, A2, c2, e1, e2, h1, h2, ⟨g1, fun x hx => (h.p x (Or.inl hx)).1⟩, ⟨g2, fun x hx => (h.p x (Or.inr hx)).1⟩⟩
end
end Go.Proofs.YtmcocepjdhpecabGreatDoor
namespace Go.Proofs.YtmcocepjdhpecabGreatDoor
open Go.RowKit
open S2 (BK Put)

theorem wok_putW {w w' : World} {g : Nat} {A : Option Addr} {c : Nat} {xs : List FE} {A2 : Option Addr} {c2 : Nat} {X : List Int} (h : WOk w A c xs A2 c2 X) (hp : Put g w w') (ho : OffW g A xs A2 X) : WOk w' A c xs A2 c2 X := by
  refine ⟨?_, h.2.1, ILput h.2.2.1 hp (fun hn b o e => ho.2.2 b o e hn), h.2.2.2⟩
  rw [hp.size]
  exact ⟨fun hn => by
    obtain ⟨b, o, e, hb, hc⟩ := h.1.1 hn
    exact ⟨b, o, e, hb, fun j x i v hx hv => (hp.cell (p := ⟨b, o + j * 11 + i, none⟩) (ho.1 hn b o e)).trans (hc j x i v hx hv)⟩, fun x hx => (h.1.2 x hx).putA hp (ho.2.1 x hx)⟩
theorem WOk.offW {w : World} {g : Nat} {A : Option Addr} {c : Nat} {xs : List FE} {A2 : Option Addr} {c2 : Nat} {X : List Int} (h : WOk w A c xs A2 c2 X) (hg : w.heap.size ≤ g) : OffW g A xs A2 X :=
  ⟨fun hn b o e => by
    obtain ⟨b', o', e', hb, _⟩ := h.1.1 hn
    rw [e] at e'
    simp only [Option.some.injEq, Addr.mk.injEq, and_true] at e'
    omega, fun x hx hn b o e => by have := (h.1.2 x hx).lt hn b o e; omega, fun b o e hn => by have := S2.IL.lt h.2.2.1 b o e hn; omega⟩
/-- a window that a call answers; its lists lie off where those of the one given lie off -/
def RetWr (A0 : Option Addr) (xs0 : List FE) (A20 : Option Addr) (X0 : List Int) (r : PW) (W : World) (e : Ending) (w' : World) : Prop := ∃ A c ys A2 c2, e = .returned (wv r.1 A c ys A2 c2 r.2.2.1 r.2.2.2) ∧ ys.map FE.f = r.2.1 ∧ WOk w' A c ys A2 c2 r.2.2.1 ∧ Below W.heap.size W w' ∧ ∀ g, g < W.heap.size → OffW g A0 xs0 A20 X0 → OffW g A ys A2 r.2.2.1
theorem set_parts {F : List Fl} {i : Nat} {x : Fl} (h : F[i]? = some x) : setRel F i = F.take i ++ [{ x with st := 2 }] ++ F.drop (i + 1) := by
  unfold setRel
  rw [h]
  show F.set i _ = _
  rw [set_split h, List.append_assoc]; rfl
theorem rem_parts {L : Int} {F : List Fl} {X : List Int} {l : Int} {i : Nat} {x : Fl} (h : F[i]? = some x) : remR (L, F, X, l) i = (L, F.take i ++ F.drop (i + 1), S2.delI X x.id, l) := by
  unfold remR
  show (match F[i]? with | some x => (L, F.eraseIdx i, S2.delI X x.id, l) | none => (L, F, X, l)) = _
  rw [h, List.eraseIdx_eq_take_drop_succ]
theorem OwnG.putB {w w' : World} {q g : Nat} {v : Value} {zs : List FE} (h : OwnG 56 gF 11 w q v zs) (hP : Put g w w') (hg : g < q) : OwnG 56 gF 11 w' q v zs := OwnF.putA h hP (fun q2 n c e => by have := ownG_lt h q2 n c e; omega)
theorem fi_of {w : World} {A : Option Addr} {ys : List FE} (h : GL gF 11 w w.heap.size A ys) (h2 : ∀ y ∈ ys, PL w w.heap.size y.a y.f.m.props) : FI w w.heap.size A ys := ⟨h, h2⟩

set_option maxRecDepth 20000 in
set_option maxHeartbeats 8000000 in
theorem rreleased_any (L : Int) (A : Option Addr) (c : Nat) (xs : List FE) (A2 : Option Addr) (c2 : Nat) (X : List Int) (l : Int) (i : Nat) (x : FE) (w : World) (hw : WOk w A c xs A2 c2 X) (hx : xs[i]? = some x) (hn : xs.length ≤ 1000) (_ : X.length ≤ 1000) :
    Calls Tryz.prog 39 #[wv L A c xs A2 c2 X l, .int .i64 i] w (RetWr A xs A2 X (relR (L, xs.map FE.f, X, l) i) w) := by
  have hi : i < xs.length := (List.getElem?_eq_some_iff.1 hx).1
  have hxf : (xs.map FE.f)[i]? = some x.f := by rw [List.getElem?_map, hx]; rfl
  obtain ⟨R, hR⟩ : ∃ R, relR (L, xs.map FE.f, X, l) i = R := ⟨_, rfl⟩
  rw [hR]
  have HRS : Hid (R = (L, (xs.map FE.f).take i ++ [{ x.f with st := 2 }] ++ (xs.map FE.f).drop (i + 1), X, l)) := Lib.hid (by rw [← hR]; unfold relR; rw [show setRel (L, xs.map FE.f, X, l).2.1 i = _ from set_parts hxf])
  obtain ⟨b, o, hA, hbB, hcl, hpl⟩ := hw.1.at_ hx
  have HCX : Hid (∀ w1, Below w.heap.size w w1 → ∀ j v, (gF x)[j]? = some v → w1.cell? ⟨b, o + i * 11 + j, none⟩ = some v) := Lib.hid (fun w1 h j v hv => (h.cell (p := ⟨b, o + i * 11 + j, none⟩) hbB).trans (hcl j v hv))
  have HPX := Lib.hid hpl
  have HXM : Hid (x ∈ xs) := Lib.hid (List.mem_of_getElem? hx)
  have HW := Lib.hid hw
  obtain ⟨ys, hys⟩ : ∃ ys, ys = xs.take i := ⟨_, rfl⟩
  obtain ⟨ds, hds⟩ : ∃ ds, ds = xs.drop (i + 1) := ⟨_, rfl⟩
  have hyl : ys.length = i := by rw [hys, List.length_take]; omega
  have hdl : ds.length = xs.length - (i + 1) := by rw [hds, List.length_drop]
  have hcc := hw.2.1
  obtain ⟨AD, hAD⟩ : ∃ AD, AD = (if c = i + 1 then A else A.map (·.add ((i + 1) * 11))) := ⟨_, rfl⟩
  obtain ⟨cd, hcd⟩ : ∃ cd, cd = c - (i + 1) := ⟨_, rfl⟩
  have HSY : Hid (∀ w1, FI w1 w1.heap.size A xs → GL gF 11 w1 w1.heap.size A ys) := Lib.hid (fun w1 h => by rw [hys]; exact GL.take h.1 i)
  have HSD : Hid (∀ w1, FI w1 w1.heap.size A xs → GL gF 11 w1 w1.heap.size AD ds) := Lib.hid (fun w1 h => by rw [hAD, hds]; exact GL.drop h.1 (by omega) hcc)
  have HDE : Hid (Value.slice AD ds.length cd = .slice (if c = i + 1 then A else A.map (·.add ((i + 1) * 11))) (xs.length - (i + 1)) (c - (i + 1))) := Lib.hid (by rw [hAD, hcd, hdl])
  have HPY : Hid (∀ y, y ∈ ys ∨ y ∈ ds → y ∈ xs) := Lib.hid (fun y hy => by
    rcases hy with hy | hy
    · rw [hys] at hy; exact List.mem_of_mem_take hy
    · rw [hds] at hy; exact List.mem_of_mem_drop hy)
  have HMY : Hid (ys.map FE.f = (xs.map FE.f).take i ∧ ds.map FE.f = (xs.map FE.f).drop (i + 1)) := Lib.hid (by rw [hys, hds, List.map_take, List.map_drop]; exact ⟨rfl, rfl⟩)
  have HLE : Hid (ys.length ≤ 1000 ∧ ds.length ≤ 1000) := Lib.hid (by omega)
  clear hys hds hAD hcd hdl hw hx hxf hR hcl hpl
  subst hyl
  subst hA
  have hwk : wrap64 ((ys.length : Int) + 1) = (ys.length : Int) + 1 := S2.wrap64_id _ (by omega) (by omega)
  have j0 : (0 : Int) ≤ (ys.length : Int) := by omega
  have j1 : (ys.length : Int) ≤ (c : Int) := by omega
  have j2 : (ys.length : Int) ≤ (xs.length : Int) := by omega
  have j3 : (0 : Int) ≤ (ys.length : Int) + 1 := by omega
  have j4 : (ys.length : Int) + 1 ≤ (c : Int) := by omega
  have j5 : (ys.length : Int) + 1 ≤ (xs.length : Int) := by omega
  have j6 : (ys.length : Int) < (xs.length : Int) := by omega
  have hyb : ys.length ≤ 1000 := by omega
  clear hcc hi hn hbB
  go_enter Tryz.func39, Tryz.ntmps39
  go_upto_region 1 with fail
  refine name_world (C := fun w1 => Code.wp _ _ _ _ w1) ((w.alloc (.cells (wcs L (some ⟨b, o, none⟩) c xs A2 c2 X l).toArray 28)).alloc (.cells (wcs 0 none 0 [] none 0 [] 0).toArray 28)) ?_
  intro w1 hw1
  obtain ⟨t1, t2, hs0, hb1⟩ := S2.two_laid (v1 := wcs L (some ⟨b, o, none⟩) c xs A2 c2 X l) (v2 := wcs 0 none 0 [] none 0 [] 0) hw1
  have T_w1 := Lib.hid t1
  have R_w1 := Lib.hid t2
  have B_w1 := Lib.hid hb1
  obtain ⟨q, hq⟩ : ∃ q, q = w1.heap.size := ⟨_, rfl⟩
  have HQ : Hid (w.heap.size + 1 < q) := Lib.hid (by rw [hq]; exact R_w1.out.lt)
  have Z_w1 : Hid (q ≤ w1.heap.size) := Lib.hid (by omega)
  clear hw1 t1 t2 hs0 hb1 hq
  have HB0 := Lib.hid (S2.below_new w1 (.cells #[] 56))
  have d1 : (w1.alloc (.cells #[] 56)).cell? ⟨w.heap.size, 1, none⟩ = some (.slice (some ⟨b, o, none⟩) xs.length c) := (T_w1.out.step HB0.out).cell 1 rfl
  go_upto_region 2 with first
    | (at_builtin; refine wpList_appG (g := gF) (k := 11) (e := 56) (by decide) _ rfl _ _ 23 23 rfl (.agg #[.int .i64 0, .int .i64 0, .string ByteArray.empty, .string ByteArray.empty, .int .i64 0, .bool false, .int .i64 0, .int .i64 0, .string ByteArray.empty, .int .i64 0, .slice none 0 0]) 128 Tryz.underlying23 flInfo rfl (by decide) q _ [] ys rfl (OwnG.made w1 0 #[] q Z_w1.out (by decide) rfl) _ rfl (GL.src gF_len gF_one (HSY.out _ (HW.out.1.step (stepB B_w1.out HB0.out))) Tryz.underlying23 c) w1 ((Below.refl q w1).alloc Z_w1.out _) (by have := Z_w1.out; simp; omega) (by have := HLE.out; simp; omega) ?_; intro va wa hown1 hba hsa; have La_wa : Hid (OwnG 56 gF 11 wa q va ys) := Lib.hid (by simpa using hown1); have B_wa : Hid (Below w.heap.size w wa) := Lib.hid (B_w1.out.trans (hba.mono (by have := HQ.out; omega))); have T_wa := Lib.hid (BK.keep T_w1.out (by have := HQ.out; omega) hba); have R_wa := Lib.hid (BK.keep R_w1.out (by have := HQ.out; omega) hba); have Z_wa : Hid (q ≤ wa.heap.size) := Lib.hid hsa; clear hown1 hba hsa)
  clear d1 T_w1 R_w1 B_w1 Z_w1 HB0
  obtain ⟨x1, hx1⟩ : ∃ x1, x1 = World.drew wa := ⟨_, rfl⟩
  have hbD : Below wa.heap.size wa x1 := by rw [hx1]; exact (Below.refl _ _).drew
  have T_x1 : Hid (BK 28 x1 w.heap.size (wcs L (some ⟨b, o, none⟩) c xs A2 c2 X l)) := Lib.hid (T_wa.out.step hbD)
  have R_x1 : Hid (BK 28 x1 (w.heap.size + 1) (wcs 0 none 0 [] none 0 [] 0)) := Lib.hid (R_wa.out.step hbD)
  have B_x1 : Hid (Below w.heap.size w x1) := Lib.hid (stepB B_wa.out hbD)
  have Z_x1 : Hid (q ≤ x1.heap.size) := Lib.hid (Nat.le_trans Z_wa.out hbD.size)
  have La_x1 : Hid (OwnG 56 gF 11 x1 q va ys) := Lib.hid (OwnG.step La_wa.out hbD)
  clear T_wa R_wa B_wa Z_wa La_wa
  have hbd : (fun w' => BK 28 w' w.heap.size (wcs L (some ⟨b, o, none⟩) c xs A2 c2 X l) ∧ Below w.heap.size w w') (World.drew wa) := by rw [← hx1]; exact ⟨T_x1.out, B_x1.out⟩
  have hSD : (fun w' => BK 28 w' w.heap.size (wcs L (some ⟨b, o, none⟩) c xs A2 c2 X l) ∧ Below w.heap.size w w') x1 := ⟨T_x1.out, B_x1.out⟩
  have HWD := Lib.hid hx1
  clear hx1 hbD
  refine wp_region_held_drew (S := fun w' => BK 28 w' w.heap.size (wcs L (some ⟨b, o, none⟩) c xs A2 c2 X l) ∧ Below w.heap.size w w') (by kernel_rfl) hbd (fun hHeld => ?_)
  rw [← HWD.out]
  clear hHeld
  have hHeld := hSD
  clear hSD hbd HWD
  refine wpAnyH_take (i := 0) (v := va) (get_ops _ _ _ rfl) (by kernel_rfl) (by kernel_rfl) (by kernel_rfl) (fun _ _ _ h => h) (Or.inl ⟨by rfl, fun wS hSw => by (try dsimp only at hSw); go_simp⟩) hHeld ?_
  try simp only [Act.put, List.setIfInBounds_toArray, List.set_cons_zero, List.set_cons_succ]
  refine wpAnyH_take (i := 1) (v := .pointer (some ⟨w.heap.size, 1, none⟩)) (get_ops _ _ _ rfl) (by kernel_rfl) (by kernel_rfl) (by kernel_rfl) (fun _ _ _ h => h) (Or.inl ⟨by rfl, fun wS hSw => by (try dsimp only at hSw); go_simp⟩) hHeld ?_
  try simp only [Act.put, List.setIfInBounds_toArray, List.set_cons_zero, List.set_cons_succ]
  refine wpAnyH_take (i := 2) (v := .slice (some ⟨b, o, none⟩) xs.length c) (get_ops _ _ _ rfl) (by kernel_rfl) (by kernel_rfl) (by kernel_rfl) (fun _ _ _ h => h) (Or.inl ⟨by rfl, fun wS hSw => by (try dsimp only at hSw); have cS : wS.cell? ⟨w.heap.size, 1, none⟩ = some (.slice (some ⟨b, o, none⟩) xs.length c) := hSw.1.cell 1 rfl; clear hSw; go_simp⟩) hHeld ?_
  try simp only [Act.put, List.setIfInBounds_toArray, List.set_cons_zero, List.set_cons_succ]
  refine wpAnyH_take (i := 3) (v := .int .i64 ys.length) (get_ops _ _ _ rfl) (by kernel_rfl) (by kernel_rfl) (by kernel_rfl) (fun _ _ _ h => h) (Or.inl ⟨by rfl, fun wS hSw => by (try dsimp only at hSw); go_simp⟩) hHeld ?_
  try simp only [Act.put, List.setIfInBounds_toArray, List.set_cons_zero, List.set_cons_succ]
  refine wpAnyH_take (i := 4) (v := .pointer (some ⟨b, o + ys.length * 11, none⟩)) (get_ops _ _ _ rfl) (by kernel_rfl) (by kernel_rfl) (by kernel_rfl) (fun _ _ _ h => h) (Or.inl ⟨by rfl, fun wS hSw => by (try dsimp only at hSw); go_simp⟩) hHeld ?_
  try simp only [Act.put, List.setIfInBounds_toArray, List.set_cons_zero, List.set_cons_succ]
  refine wpAnyH_take (i := 5) (v := .pointer (some ⟨b, o + ys.length * 11, none⟩)) (get_ops _ _ _ rfl) (by kernel_rfl) (by kernel_rfl) (by kernel_rfl) (fun _ _ _ h => h) (Or.inl ⟨by rfl, fun wS hSw => by (try dsimp only at hSw); go_simp⟩) hHeld ?_
  try simp only [Act.put, List.setIfInBounds_toArray, List.set_cons_zero, List.set_cons_succ]
  refine wpAnyH_take (i := 6) (v := .int .i64 x.f.id) (get_ops _ _ _ rfl) (by kernel_rfl) (by kernel_rfl) (by kernel_rfl) (fun _ _ _ h => h) (Or.inl ⟨by rfl, fun wS hSw => by (try dsimp only at hSw); have cS : wS.cell? ⟨b, o + ys.length * 11, none⟩ = some (.int .i64 x.f.id) := HCX.out _ hSw.2 0 _ rfl; clear hSw; go_simp⟩) hHeld ?_
  try simp only [Act.put, List.setIfInBounds_toArray, List.set_cons_zero, List.set_cons_succ]
  refine wpAnyH_take (i := 7) (v := .pointer (some ⟨w.heap.size, 1, none⟩)) (get_ops _ _ _ rfl) (by kernel_rfl) (by kernel_rfl) (by kernel_rfl) (fun _ _ _ h => h) (Or.inl ⟨by rfl, fun wS hSw => by (try dsimp only at hSw); go_simp⟩) hHeld ?_
  try simp only [Act.put, List.setIfInBounds_toArray, List.set_cons_zero, List.set_cons_succ]
  refine wpAnyH_take (i := 8) (v := .slice (some ⟨b, o, none⟩) xs.length c) (get_ops _ _ _ rfl) (by kernel_rfl) (by kernel_rfl) (by kernel_rfl) (fun _ _ _ h => h) (Or.inl ⟨by rfl, fun wS hSw => by (try dsimp only at hSw); have cS : wS.cell? ⟨w.heap.size, 1, none⟩ = some (.slice (some ⟨b, o, none⟩) xs.length c) := hSw.1.cell 1 rfl; clear hSw; go_simp⟩) hHeld ?_
  try simp only [Act.put, List.setIfInBounds_toArray, List.set_cons_zero, List.set_cons_succ]
  refine wpAnyH_take (i := 9) (v := .int .i64 ys.length) (get_ops _ _ _ rfl) (by kernel_rfl) (by kernel_rfl) (by kernel_rfl) (fun _ _ _ h => h) (Or.inl ⟨by rfl, fun wS hSw => by (try dsimp only at hSw); go_simp⟩) hHeld ?_
  try simp only [Act.put, List.setIfInBounds_toArray, List.set_cons_zero, List.set_cons_succ]
  refine wpAnyH_take (i := 10) (v := .pointer (some ⟨b, o + ys.length * 11, none⟩)) (get_ops _ _ _ rfl) (by kernel_rfl) (by kernel_rfl) (by kernel_rfl) (fun _ _ _ h => h) (Or.inl ⟨by rfl, fun wS hSw => by (try dsimp only at hSw); go_simp⟩) hHeld ?_
  try simp only [Act.put, List.setIfInBounds_toArray, List.set_cons_zero, List.set_cons_succ]
  refine wpAnyH_take (i := 11) (v := .pointer (some ⟨b, o + ys.length * 11 + 2, none⟩)) (get_ops _ _ _ rfl) (by kernel_rfl) (by kernel_rfl) (by kernel_rfl) (fun _ _ _ h => h) (Or.inl ⟨by rfl, fun wS hSw => by (try dsimp only at hSw); go_simp⟩) hHeld ?_
  try simp only [Act.put, List.setIfInBounds_toArray, List.set_cons_zero, List.set_cons_succ]
  refine wpAnyH_take (i := 12) (v := (.agg #[.string x.f.m.topic, .string x.f.m.payload, .int .i64 x.f.m.level, .bool x.f.m.retain, .int .i64 x.f.m.prio, .int .i64 x.f.m.exps, .string x.f.m.frm, .int .i64 x.f.m.seq, .slice x.a x.f.m.props.length x.c])) (get_ops _ _ _ rfl) (by kernel_rfl) (by kernel_rfl) (by kernel_rfl) (fun _ _ _ h => h) (Or.inl ⟨by rfl, fun wS hSw => by (try dsimp only at hSw); exact exec_load 34 _ rfl ⟨b, o + ys.length * 11 + 2, none⟩ (by go_simp) _ (load_item_msg (HCX.out _ hSw.2))⟩) hHeld ?_
  try simp only [Act.put, List.setIfInBounds_toArray, List.set_cons_zero, List.set_cons_succ]
  refine wpAnyH_take (i := 13) (v := (.agg #[.int .i64 x.f.id, .int .i64 2, .string x.f.m.topic, .string x.f.m.payload, .int .i64 x.f.m.level, .bool x.f.m.retain, .int .i64 x.f.m.prio, .int .i64 x.f.m.exps, .string x.f.m.frm, .int .i64 x.f.m.seq, .slice x.a x.f.m.props.length x.c])) (get_ops _ _ _ rfl) (by kernel_rfl) (by kernel_rfl) (by kernel_rfl) (fun _ _ _ h => h) (Or.inl ⟨by rfl, fun wS hSw => by (try dsimp only at hSw); go_simp⟩) hHeld ?_
  try simp only [Act.put, List.setIfInBounds_toArray, List.set_cons_zero, List.set_cons_succ]
  refine wpAnyH_ready (rs := [14]) (by kernel_rfl) (by simp) ?_
  refine (AllReadyH.cons (get_ops _ _ _ rfl) (fun K hK => ?_) AllReadyH.nil)
  go_simp
  obtain ⟨bm, hbm⟩ : ∃ n, n = x1.heap.size := ⟨_, rfl⟩
  refine name_world (C := fun w9 => K _ w9) (x1.alloc (.cells (gF (⟨{ x.f with st := 2 }, x.a, x.c⟩ : FE)).toArray 56)) ?_
  intro x2 hx2
  have hb : Below x1.heap.size x1 x2 := by rw [hx2]; exact S2.below_new _ _
  have hN : BK 56 x2 bm (gF (⟨{ x.f with st := 2 }, x.a, x.c⟩ : FE)) := by rw [hx2, hbm]; exact BK.new _ _ _
  have HD_a_m : Hid (va.ownBlock ≠ some bm) := Lib.hid (OwnG.high La_x1.out (by omega))
  have T_x2 : Hid (BK 28 x2 w.heap.size (wcs L (some ⟨b, o, none⟩) c xs A2 c2 X l)) := Lib.hid (T_x1.out.step hb)
  have R_x2 : Hid (BK 28 x2 (w.heap.size + 1) (wcs 0 none 0 [] none 0 [] 0)) := Lib.hid (R_x1.out.step hb)
  have B_x2 : Hid (Below w.heap.size w x2) := Lib.hid (stepB B_x1.out hb)
  have Z_x2 : Hid (q ≤ x2.heap.size) := Lib.hid (Nat.le_trans Z_x1.out hb.size)
  have La_x2 : Hid (OwnG 56 gF 11 x2 q va ys) := Lib.hid (OwnG.step La_x1.out hb)
  clear T_x1 R_x1 B_x1 Z_x1 La_x1
  have Xm_x2 := Lib.hid hN
  try rw [← hbm]
  clear hHeld hb hN hx2 hbm
  refine hK.out _ _ ⟨T_x2.out, B_x2.out⟩ (fun hHeld => ?_)
  clear hK K
  try simp only [Act.put, List.setIfInBounds_toArray, List.set_cons_zero, List.set_cons_succ]
  refine wpAnyH_ready (rs := [15]) (by kernel_rfl) (by simp) ?_
  refine (AllReadyH.cons (get_ops _ _ _ rfl) (fun K hK => ?_) AllReadyH.nil)
  rw [if_pos (by rfl)]
  have hoy := La_x2.out
  refine oper_appG (g := gF) (k := 11) (e := 56) (by decide) (.tmp 12) (.tmp 26) 23 23 rfl (.agg #[.int .i64 0, .int .i64 0, .string ByteArray.empty, .string ByteArray.empty, .int .i64 0, .bool false, .int .i64 0, .int .i64 0, .string ByteArray.empty, .int .i64 0, .slice none 0 0]) 128 Tryz.underlying23 flInfo rfl (by decide) q va ys [(⟨{ x.f with st := 2 }, x.a, x.c⟩ : FE)] _ (by go_simp) hoy (by go_simp) (src_blk gF_len gF_one Tryz.underlying23 Xm_x2.out) Z_x2.out (by have := HLE.out; simp; omega) ?_
  intro vb x3 hown hgr hoffs
  have T_x3 : Hid (BK 28 x3 w.heap.size (wcs L (some ⟨b, o, none⟩) c xs A2 c2 X l)) := Lib.hid (BK.grow T_x2.out hgr (OwnG.off hoy (by have := HQ.out; omega)))
  have R_x3 : Hid (BK 28 x3 (w.heap.size + 1) (wcs 0 none 0 [] none 0 [] 0)) := Lib.hid (BK.grow R_x2.out hgr (OwnG.off hoy (HQ.out)))
  have B_x3 : Hid (Below w.heap.size w x3) := Lib.hid (Below.grow B_x2.out hoy hgr B_x2.out.size (by have := HQ.out; omega))
  have Z_x3 : Hid (q ≤ x3.heap.size) := Lib.hid (Nat.le_trans Z_x2.out hgr.size)
  have Xm_x3 : Hid (BK 56 x3 bm (gF (⟨{ x.f with st := 2 }, x.a, x.c⟩ : FE))) := Lib.hid (BK.grow Xm_x2.out hgr HD_a_m.out)
  have HD_b_m : Hid (vb.ownBlock ≠ some bm) := Lib.hid (hoffs _ Xm_x2.out.lt HD_a_m.out)
  have Lb_x3 : Hid (OwnG 56 gF 11 x3 q vb (ys ++ [(⟨{ x.f with st := 2 }, x.a, x.c⟩ : FE)])) := Lib.hid hown
  clear hoy hown hgr hoffs hHeld T_x2 R_x2 B_x2 Z_x2 La_x2 Xm_x2
  refine hK.out _ _ ⟨T_x3.out, B_x3.out⟩ (fun hHeld => ?_)
  clear hK K
  try simp only [Act.put, List.setIfInBounds_toArray, List.set_cons_zero, List.set_cons_succ]
  refine wpAnyH_take (i := 16) (v := vb) (get_ops _ _ _ rfl) (by kernel_rfl) (by kernel_rfl) (by kernel_rfl) (fun _ _ _ h => h) (Or.inl ⟨by rfl, fun wS hSw => by (try dsimp only at hSw); go_simp⟩) hHeld ?_
  try simp only [Act.put, List.setIfInBounds_toArray, List.set_cons_zero, List.set_cons_succ]
  refine wpAnyH_done (by kernel_rfl) ?_ _
  go_upto_region 3 with fail
  obtain ⟨x4, hx4⟩ : ∃ x4, x4 = World.drew x3 := ⟨_, rfl⟩
  have hbD : Below x3.heap.size x3 x4 := by rw [hx4]; exact (Below.refl _ _).drew
  have T_x4 : Hid (BK 28 x4 w.heap.size (wcs L (some ⟨b, o, none⟩) c xs A2 c2 X l)) := Lib.hid (T_x3.out.step hbD)
  have R_x4 : Hid (BK 28 x4 (w.heap.size + 1) (wcs 0 none 0 [] none 0 [] 0)) := Lib.hid (R_x3.out.step hbD)
  have B_x4 : Hid (Below w.heap.size w x4) := Lib.hid (stepB B_x3.out hbD)
  have Z_x4 : Hid (q ≤ x4.heap.size) := Lib.hid (Nat.le_trans Z_x3.out hbD.size)
  have Xm_x4 : Hid (BK 56 x4 bm (gF (⟨{ x.f with st := 2 }, x.a, x.c⟩ : FE))) := Lib.hid (Xm_x3.out.step hbD)
  have Lb_x4 : Hid (OwnG 56 gF 11 x4 q vb (ys ++ [(⟨{ x.f with st := 2 }, x.a, x.c⟩ : FE)])) := Lib.hid (OwnG.step Lb_x3.out hbD)
  clear T_x3 R_x3 B_x3 Z_x3 Xm_x3 Lb_x3
  have hbd : (fun w' => BK 28 w' w.heap.size (wcs L (some ⟨b, o, none⟩) c xs A2 c2 X l) ∧ Below w.heap.size w w') (World.drew x3) := by rw [← hx4]; exact ⟨T_x4.out, B_x4.out⟩
  have hSD : (fun w' => BK 28 w' w.heap.size (wcs L (some ⟨b, o, none⟩) c xs A2 c2 X l) ∧ Below w.heap.size w w') x4 := ⟨T_x4.out, B_x4.out⟩
  have HWD := Lib.hid hx4
  clear hx4 hbD
  refine wp_region_held_drew (S := fun w' => BK 28 w' w.heap.size (wcs L (some ⟨b, o, none⟩) c xs A2 c2 X l) ∧ Below w.heap.size w w') (by kernel_rfl) hbd (fun hHeld => ?_)
  rw [← HWD.out]
  clear hHeld
  have hHeld := hSD
  clear hSD hbd HWD
  refine wpAnyH_take (i := 0) (v := .pointer (some ⟨w.heap.size, 0, none⟩)) (get_ops _ _ _ rfl) (by kernel_rfl) (by kernel_rfl) (by kernel_rfl) (fun _ _ _ h => h) (Or.inl ⟨by rfl, fun wS hSw => by (try dsimp only at hSw); go_simp⟩) hHeld ?_
  try simp only [Act.put, List.setIfInBounds_toArray, List.set_cons_zero, List.set_cons_succ]
  refine wpAnyH_take (i := 1) (v := .int .i64 L) (get_ops _ _ _ rfl) (by kernel_rfl) (by kernel_rfl) (by kernel_rfl) (fun _ _ _ h => h) (Or.inl ⟨by rfl, fun wS hSw => by (try dsimp only at hSw); have cS : wS.cell? ⟨w.heap.size, 0, none⟩ = some (.int .i64 L) := hSw.1.cell 0 rfl; clear hSw; go_simp⟩) hHeld ?_
  try simp only [Act.put, List.setIfInBounds_toArray, List.set_cons_zero, List.set_cons_succ]
  refine wpAnyH_take (i := 2) (v := vb) (get_ops _ _ _ rfl) (by kernel_rfl) (by kernel_rfl) (by kernel_rfl) (fun _ _ _ h => h) (Or.inl ⟨by rfl, fun wS hSw => by (try dsimp only at hSw); go_simp⟩) hHeld ?_
  try simp only [Act.put, List.setIfInBounds_toArray, List.set_cons_zero, List.set_cons_succ]
  refine wpAnyH_take (i := 3) (v := .pointer (some ⟨w.heap.size, 1, none⟩)) (get_ops _ _ _ rfl) (by kernel_rfl) (by kernel_rfl) (by kernel_rfl) (fun _ _ _ h => h) (Or.inl ⟨by rfl, fun wS hSw => by (try dsimp only at hSw); go_simp⟩) hHeld ?_
  try simp only [Act.put, List.setIfInBounds_toArray, List.set_cons_zero, List.set_cons_succ]
  refine wpAnyH_take (i := 4) (v := .slice (some ⟨b, o, none⟩) xs.length c) (get_ops _ _ _ rfl) (by kernel_rfl) (by kernel_rfl) (by kernel_rfl) (fun _ _ _ h => h) (Or.inl ⟨by rfl, fun wS hSw => by (try dsimp only at hSw); have cS : wS.cell? ⟨w.heap.size, 1, none⟩ = some (.slice (some ⟨b, o, none⟩) xs.length c) := hSw.1.cell 1 rfl; clear hSw; go_simp⟩) hHeld ?_
  try simp only [Act.put, List.setIfInBounds_toArray, List.set_cons_zero, List.set_cons_succ]
  refine wpAnyH_take (i := 5) (v := .int .i64 ys.length) (get_ops _ _ _ rfl) (by kernel_rfl) (by kernel_rfl) (by kernel_rfl) (fun _ _ _ h => h) (Or.inl ⟨by rfl, fun wS hSw => by (try dsimp only at hSw); go_simp⟩) hHeld ?_
  try simp only [Act.put, List.setIfInBounds_toArray, List.set_cons_zero, List.set_cons_succ]
  refine wpAnyH_take (i := 6) (v := .int .i64 ((ys.length : Int) + 1)) (get_ops _ _ _ rfl) (by kernel_rfl) (by kernel_rfl) (by kernel_rfl) (fun _ _ _ h => h) (Or.inl ⟨by rfl, fun wS hSw => by (try dsimp only at hSw); go_simp; rw [IntKind.wrap_i64]; omega⟩) hHeld ?_
  try simp only [Act.put, List.setIfInBounds_toArray, List.set_cons_zero, List.set_cons_succ]
  refine wpAnyH_take (i := 7) (v := (.slice AD ds.length cd)) (get_ops _ _ _ rfl) (by kernel_rfl) (by kernel_rfl) (by kernel_rfl) (fun _ _ _ h => h) (Or.inl ⟨by rfl, fun wS hSw => by (try dsimp only at hSw); rw [HDE.out]; go_simp⟩) hHeld ?_
  try simp only [Act.put, List.setIfInBounds_toArray, List.set_cons_zero, List.set_cons_succ]
  refine wpAnyH_take (i := 9) (v := .pointer (some ⟨w.heap.size, 2, none⟩)) (get_ops _ _ _ rfl) (by kernel_rfl) (by kernel_rfl) (by kernel_rfl) (fun _ _ _ h => h) (Or.inl ⟨by rfl, fun wS hSw => by (try dsimp only at hSw); go_simp⟩) hHeld ?_
  try simp only [Act.put, List.setIfInBounds_toArray, List.set_cons_zero, List.set_cons_succ]
  refine wpAnyH_take (i := 10) (v := S2.pv A2 c2 X l) (get_ops _ _ _ rfl) (by kernel_rfl) (by kernel_rfl) (by kernel_rfl) (fun _ _ _ h => h) (Or.inl ⟨by rfl, fun wS hSw => by (try dsimp only at hSw); exact exec_load 26 _ rfl ⟨w.heap.size, 2, none⟩ (by go_simp) _ (bk_pool hSw.1)⟩) hHeld ?_
  try simp only [Act.put, List.setIfInBounds_toArray, List.set_cons_zero, List.set_cons_succ]
  refine wpAnyH_ready (rs := [8]) (by kernel_rfl) (by simp) ?_
  refine (AllReadyH.cons (get_ops _ _ _ rfl) (fun K hK => ?_) AllReadyH.nil)
  rw [if_pos (by rfl)]
  have hoy := Lb_x4.out
  refine oper_appG (g := gF) (k := 11) (e := 56) (by decide) (.tmp 30) (.tmp 35) 23 23 rfl (.agg #[.int .i64 0, .int .i64 0, .string ByteArray.empty, .string ByteArray.empty, .int .i64 0, .bool false, .int .i64 0, .int .i64 0, .string ByteArray.empty, .int .i64 0, .slice none 0 0]) 128 Tryz.underlying23 flInfo rfl (by decide) q vb (ys ++ [(⟨{ x.f with st := 2 }, x.a, x.c⟩ : FE)]) ds _ (by go_simp) hoy (by go_simp) (GL.src gF_len gF_one (HSD.out _ (HW.out.1.step B_x4.out)) Tryz.underlying23 cd) Z_x4.out (by have := HLE.out; simp; omega) ?_
  intro vc x5 hown hgr hoffs
  have T_x5 : Hid (BK 28 x5 w.heap.size (wcs L (some ⟨b, o, none⟩) c xs A2 c2 X l)) := Lib.hid (BK.grow T_x4.out hgr (OwnG.off hoy (by have := HQ.out; omega)))
  have R_x5 : Hid (BK 28 x5 (w.heap.size + 1) (wcs 0 none 0 [] none 0 [] 0)) := Lib.hid (BK.grow R_x4.out hgr (OwnG.off hoy (HQ.out)))
  have B_x5 : Hid (Below w.heap.size w x5) := Lib.hid (Below.grow B_x4.out hoy hgr B_x4.out.size (by have := HQ.out; omega))
  have Z_x5 : Hid (q ≤ x5.heap.size) := Lib.hid (Nat.le_trans Z_x4.out hgr.size)
  have Xm_x5 : Hid (BK 56 x5 bm (gF (⟨{ x.f with st := 2 }, x.a, x.c⟩ : FE))) := Lib.hid (BK.grow Xm_x4.out hgr HD_b_m.out)
  have HD_c_m : Hid (vc.ownBlock ≠ some bm) := Lib.hid (hoffs _ Xm_x4.out.lt HD_b_m.out)
  have Lc_x5 : Hid (OwnG 56 gF 11 x5 q vc ((ys ++ [(⟨{ x.f with st := 2 }, x.a, x.c⟩ : FE)]) ++ ds)) := Lib.hid hown
  clear hoy hown hgr hoffs hHeld T_x4 R_x4 B_x4 Z_x4 Xm_x4 Lb_x4
  refine hK.out _ _ ⟨T_x5.out, B_x5.out⟩ (fun hHeld => ?_)
  clear hK K
  try simp only [Act.put, List.setIfInBounds_toArray, List.set_cons_zero, List.set_cons_succ]
  obtain ⟨A9, c9, hv9, hc9, hnew9, hgl9⟩ := OwnG.retB gF_len Lc_x5.out
  subst hv9
  have HC9 := Lib.hid hc9
  have HN9 := Lib.hid hnew9
  clear hc9 hgl9 hnew9
  refine wpAnyH_take (i := 11) (v := wv L A9 c9 ((ys ++ [(⟨{ x.f with st := 2 }, x.a, x.c⟩ : FE)]) ++ ds) A2 c2 X l) (get_ops _ _ _ rfl) (by kernel_rfl) (by kernel_rfl) (by kernel_rfl) (fun _ _ _ h => h) (Or.inl ⟨by rfl, fun wS hSw => by (try dsimp only at hSw); go_simp⟩) hHeld ?_
  try simp only [Act.put, List.setIfInBounds_toArray, List.set_cons_zero, List.set_cons_succ]
  refine wpAnyH_ready (rs := [12]) (by kernel_rfl) (by simp) ?_
  refine (AllReadyH.cons (get_ops _ _ _ rfl) (fun K hK => ?_) AllReadyH.nil)
  refine S2.wp_store_all 28 _ _ rfl rfl ((w.heap.size + 1)) (by go_simp) (wcs L A9 c9 ((ys ++ [(⟨{ x.f with st := 2 }, x.a, x.c⟩ : FE)]) ++ ds) A2 c2 X l) (by first | rfl | go_simp) 28 (wcs 0 none 0 [] none 0 [] 0) R_x5.out winSize rfl (ones rfl) ?_
  intro x6 hM hP
  have R_x6 : Hid (BK 28 x6 ((w.heap.size + 1)) (wcs L A9 c9 ((ys ++ [(⟨{ x.f with st := 2 }, x.a, x.c⟩ : FE)]) ++ ds) A2 c2 X l)) := Lib.hid (hM)
  have T_x6 : Hid (BK 28 x6 w.heap.size (wcs L (some ⟨b, o, none⟩) c xs A2 c2 X l)) := Lib.hid (hP.other T_x5.out (by omega))
  have B_x6 : Hid (Below w.heap.size w x6) := Lib.hid (hP.below B_x5.out (by omega))
  have Z_x6 : Hid (q ≤ x6.heap.size) := Lib.hid ((by rw [hP.size]; exact Z_x5.out))
  have Lc_x6 : Hid (OwnG 56 gF 11 x6 q (.slice A9 ((ys ++ [(⟨{ x.f with st := 2 }, x.a, x.c⟩ : FE)]) ++ ds).length c9) ((ys ++ [(⟨{ x.f with st := 2 }, x.a, x.c⟩ : FE)]) ++ ds)) := Lib.hid (OwnG.putB Lc_x5.out hP HQ.out)
  clear T_x5 R_x5 B_x5 Z_x5 Xm_x5 Lc_x5
  clear hM hP hHeld
  refine hK.out _ _ ⟨T_x6.out, B_x6.out⟩ (fun hHeld => ?_)
  clear hK K
  try simp only [Act.put, List.setIfInBounds_toArray, List.set_cons_zero, List.set_cons_succ]
  refine wpAnyH_done (by kernel_rfl) ?_ _
  obtain ⟨A8, c8, hv8, hc8, hgl8⟩ := OwnG.ret gF_len Lc_x6.out
  simp only [Value.slice.injEq] at hv8
  obtain ⟨rfl, _, rfl⟩ := hv8
  have HG8 := Lib.hid (And.intro hc8 hgl8)
  clear hc8 hgl8
  have hR9 := HRS.out
  subst hR9
  go_wp2_with fail
  refine bodyPost_ret (v := wv L A9 c9 ((ys ++ [(⟨{ x.f with st := 2 }, x.a, x.c⟩ : FE)]) ++ ds) A2 c2 X l) (S2.res_cell rfl _ _ (w.heap.size + 1) 28 (wcs L A9 c9 ((ys ++ [(⟨{ x.f with st := 2 }, x.a, x.c⟩ : FE)]) ++ ds) A2 c2 X l) _ rfl R_x6.out Tryz.underlying28 rfl winSize) rfl ⟨A9, c9, ((ys ++ [(⟨{ x.f with st := 2 }, x.a, x.c⟩ : FE)]) ++ ds), A2, c2, rfl, by simp [HMY.out.1, HMY.out.2], ⟨⟨HG8.out.2, fun y hy => ?_⟩, HG8.out.1, CL.step HW.out.2.2.1 B_x6.out, HW.out.2.2.2⟩, B_x6.out, fun g hg ho => ⟨fun _ b o e => by have := HN9.out b o e; have := HQ.out; omega, fun y hy => ?_, ho.2.2⟩⟩
  · rcases List.mem_append.1 hy with hy | hy
    · rcases List.mem_append.1 hy with hy | hy
      · exact (HW.out.1.2 y (HPY.out y (.inl hy))).step B_x6.out
      · simp only [List.mem_singleton] at hy; subst hy; exact GL.step HPX.out B_x6.out
    · exact (HW.out.1.2 y (HPY.out y (.inr hy))).step B_x6.out
  · rcases List.mem_append.1 hy with hy | hy
    · rcases List.mem_append.1 hy with hy | hy
      · exact ho.2.1 y (HPY.out y (.inl hy))
      · simp only [List.mem_singleton] at hy; subst hy; exact ho.2.1 x HXM.out
    · exact ho.2.1 y (HPY.out y (.inr hy))

/-- identifiers that lie below q -/
def ILq (q : Nat) (w : World) (A : Option Addr) (X : List Int) : Prop := q ≤ w.heap.size ∧ S2.IL w q A X
theorem ILq.below {q : Nat} {w w' : World} {A : Option Addr} {X : List Int} (h : ILq q w A X) (hb : Below q w w') : ILq q w' A X := ⟨Nat.le_trans h.1 hb.size, CL.below h.2 hb⟩
theorem ILq.step {q : Nat} {w w' : World} {A : Option Addr} {X : List Int} (h : ILq q w A X) (hb : Below w.heap.size w w') : ILq q w' A X := h.below (hb.mono h.1)
theorem ILq.grow {q : Nat} {w w' : World} {A : Option Addr} {X : List Int} {v : Value} {zs : List FE} (h : ILq q w A X) (ho : OwnG 56 gF 11 w q v zs) (hg : w.grownBy w' v.ownBlock) : ILq q w' A X := h.below (Below.grow (Below.refl q w) ho hg h.1 (Nat.le_refl q))
theorem ILq.put {q g : Nat} {w w' : World} {A : Option Addr} {X : List Int} (h : ILq q w A X) (hP : Put g w w') (hne : S2.Off g A X) : ILq q w' A X := ⟨by rw [hP.size]; exact h.1, fun hn => by
  obtain ⟨b, o, e, hb, hc⟩ := h.2 hn
  exact ⟨b, o, e, hb, fun j x hx => (hP.cell (p := ⟨b, o + j, none⟩) (hne b o e hn)).trans (hc j x hx)⟩⟩
theorem off_new {w : World} {A : Option Addr} {X : List Int} (h : S2.IL w w.heap.size A X) : S2.Off w.heap.size A X := fun b o e hn => Nat.ne_of_lt (IL.lt' h hn b o e)
theorem off_more {w : World} {A : Option Addr} {X : List Int} {g : Nat} (h : S2.IL w w.heap.size A X) (hg : w.heap.size ≤ g) : S2.Off g A X := fun b o e hn => by have := IL.lt' h hn b o e; omega

set_option maxRecDepth 20000 in
set_option maxHeartbeats 8000000 in
theorem rwithout_any (L : Int) (A : Option Addr) (c : Nat) (xs : List FE) (A2 : Option Addr) (c2 : Nat) (X : List Int) (l : Int) (i : Nat) (x : FE) (w : World) (hw : WOk w A c xs A2 c2 X) (hx : xs[i]? = some x) (hn : xs.length ≤ 1000) (hX : X.length ≤ 1000) :
    Calls Tryz.prog 40 #[wv L A c xs A2 c2 X l, .int .i64 i] w (RetWr A xs A2 X (remR (L, xs.map FE.f, X, l) i) w) := by
  have hi : i < xs.length := (List.getElem?_eq_some_iff.1 hx).1
  have hxf : (xs.map FE.f)[i]? = some x.f := by rw [List.getElem?_map, hx]; rfl
  obtain ⟨R, hR⟩ : ∃ R, remR (L, xs.map FE.f, X, l) i = R := ⟨_, rfl⟩
  rw [hR]
  obtain ⟨Y, hY⟩ : ∃ Y, Y = S2.delI X x.f.id := ⟨_, rfl⟩
  obtain ⟨bd, hbd⟩ : ∃ bd, bd = decide (x.f.id ∈ X) := ⟨_, rfl⟩
  have HRS : Hid (R = (L, (xs.map FE.f).take i ++ (xs.map FE.f).drop (i + 1), Y, l)) := Lib.hid (by rw [← hR, rem_parts hxf, hY])
  have HFR : Hid (∀ w1, S2.IL w1 w1.heap.size A2 X → Calls Tryz.prog 66 #[S2.pv A2 c2 X l, .int .i64 x.f.id] w1 (S2.RetPB A2 X Y l bd w1)) := Lib.hid (fun w1 h => by rw [hY, hbd]; exact S2.rFree_any A2 c2 X l x.f.id w1 h (by omega))
  clear hY hbd
  obtain ⟨b, o, hA, hbB, hcl, hpl⟩ := hw.1.at_ hx
  have HCX : Hid (∀ w1, Below w.heap.size w w1 → ∀ j v, (gF x)[j]? = some v → w1.cell? ⟨b, o + i * 11 + j, none⟩ = some v) := Lib.hid (fun w1 h j v hv => (h.cell (p := ⟨b, o + i * 11 + j, none⟩) hbB).trans (hcl j v hv))
  have HPX := Lib.hid hpl
  have HXM : Hid (x ∈ xs) := Lib.hid (List.mem_of_getElem? hx)
  have HW := Lib.hid hw
  obtain ⟨ys, hys⟩ : ∃ ys, ys = xs.take i := ⟨_, rfl⟩
  obtain ⟨ds, hds⟩ : ∃ ds, ds = xs.drop (i + 1) := ⟨_, rfl⟩
  have hyl : ys.length = i := by rw [hys, List.length_take]; omega
  have hdl : ds.length = xs.length - (i + 1) := by rw [hds, List.length_drop]
  have hcc := hw.2.1
  obtain ⟨AD, hAD⟩ : ∃ AD, AD = (if c = i + 1 then A else A.map (·.add ((i + 1) * 11))) := ⟨_, rfl⟩
  obtain ⟨cd, hcd⟩ : ∃ cd, cd = c - (i + 1) := ⟨_, rfl⟩
  have HSY : Hid (∀ w1, FI w1 w1.heap.size A xs → GL gF 11 w1 w1.heap.size A ys) := Lib.hid (fun w1 h => by rw [hys]; exact GL.take h.1 i)
  have HSD : Hid (∀ w1, FI w1 w1.heap.size A xs → GL gF 11 w1 w1.heap.size AD ds) := Lib.hid (fun w1 h => by rw [hAD, hds]; exact GL.drop h.1 (by omega) hcc)
  have HDE : Hid (Value.slice AD ds.length cd = .slice (if c = i + 1 then A else A.map (·.add ((i + 1) * 11))) (xs.length - (i + 1)) (c - (i + 1))) := Lib.hid (by rw [hAD, hcd, hdl])
  have HPY : Hid (∀ y, y ∈ ys ∨ y ∈ ds → y ∈ xs) := Lib.hid (fun y hy => by
    rcases hy with hy | hy
    · rw [hys] at hy; exact List.mem_of_mem_take hy
    · rw [hds] at hy; exact List.mem_of_mem_drop hy)
  have HMY : Hid (ys.map FE.f = (xs.map FE.f).take i ∧ ds.map FE.f = (xs.map FE.f).drop (i + 1)) := Lib.hid (by rw [hys, hds, List.map_take, List.map_drop]; exact ⟨rfl, rfl⟩)
  have HLE : Hid (ys.length ≤ 1000 ∧ ds.length ≤ 1000) := Lib.hid (by omega)
  clear hys hds hAD hcd hdl hw hx hxf hR hcl hpl
  subst hyl
  subst hA
  have hwk : wrap64 ((ys.length : Int) + 1) = (ys.length : Int) + 1 := S2.wrap64_id _ (by omega) (by omega)
  have j0 : (0 : Int) ≤ (ys.length : Int) := by omega
  have j1 : (ys.length : Int) ≤ (c : Int) := by omega
  have j2 : (ys.length : Int) ≤ (xs.length : Int) := by omega
  have j3 : (0 : Int) ≤ (ys.length : Int) + 1 := by omega
  have j4 : (ys.length : Int) + 1 ≤ (c : Int) := by omega
  have j5 : (ys.length : Int) + 1 ≤ (xs.length : Int) := by omega
  have j6 : (ys.length : Int) < (xs.length : Int) := by omega
  have hyb : ys.length ≤ 1000 := by omega
  clear hcc hi hn hbB hX
  go_enter Tryz.func40, Tryz.ntmps40
  go_upto_region 1 with fail
  refine name_world (C := fun w1 => Code.wp _ _ _ _ w1) ((w.alloc (.cells (wcs L (some ⟨b, o, none⟩) c xs A2 c2 X l).toArray 28)).alloc (.cells (wcs 0 none 0 [] none 0 [] 0).toArray 28)) ?_
  intro w1 hw1
  obtain ⟨t1, t2, hs0, hb1⟩ := S2.two_laid (v1 := wcs L (some ⟨b, o, none⟩) c xs A2 c2 X l) (v2 := wcs 0 none 0 [] none 0 [] 0) hw1
  have T_w1 := Lib.hid t1
  have R_w1 := Lib.hid t2
  have B_w1 := Lib.hid hb1
  obtain ⟨q, hq⟩ : ∃ q, q = w1.heap.size := ⟨_, rfl⟩
  have HQ : Hid (w.heap.size + 1 < q) := Lib.hid (by rw [hq]; exact R_w1.out.lt)
  have Z_w1 : Hid (q ≤ w1.heap.size) := Lib.hid (by omega)
  have S_w1 : Hid (S2.IL w1 w1.heap.size A2 X) := Lib.hid (CL.step HW.out.2.2.1 hb1)
  have HOR0 : Hid (S2.Off (w.heap.size + 1) A2 X) := Lib.hid (off_more HW.out.2.2.1 (by omega))
  clear hw1 t1 t2 hs0 hb1 hq
  obtain ⟨x1, hx1⟩ : ∃ x1, x1 = World.drew w1 := ⟨_, rfl⟩
  have hbD : Below w1.heap.size w1 x1 := by rw [hx1]; exact (Below.refl _ _).drew
  have T_x1 : Hid (BK 28 x1 w.heap.size (wcs L (some ⟨b, o, none⟩) c xs A2 c2 X l)) := Lib.hid (T_w1.out.step hbD)
  have R_x1 : Hid (BK 28 x1 (w.heap.size + 1) (wcs 0 none 0 [] none 0 [] 0)) := Lib.hid (R_w1.out.step hbD)
  have B_x1 : Hid (Below w.heap.size w x1) := Lib.hid (stepB B_w1.out hbD)
  have S_x1 : Hid (S2.IL x1 x1.heap.size A2 X) := Lib.hid (CL.step S_w1.out hbD)
  have Z_x1 : Hid (q ≤ x1.heap.size) := Lib.hid (Nat.le_trans Z_w1.out hbD.size)
  clear T_w1 R_w1 B_w1 S_w1 Z_w1
  have hbd : (fun w' => BK 28 w' w.heap.size (wcs L (some ⟨b, o, none⟩) c xs A2 c2 X l) ∧ Below w.heap.size w w') (World.drew w1) := by rw [← hx1]; exact ⟨T_x1.out, B_x1.out⟩
  have hSD : (fun w' => BK 28 w' w.heap.size (wcs L (some ⟨b, o, none⟩) c xs A2 c2 X l) ∧ Below w.heap.size w w') x1 := ⟨T_x1.out, B_x1.out⟩
  have HWD := Lib.hid hx1
  clear hx1 hbD
  refine wp_region_held_drew (S := fun w' => BK 28 w' w.heap.size (wcs L (some ⟨b, o, none⟩) c xs A2 c2 X l) ∧ Below w.heap.size w w') (by kernel_rfl) hbd (fun hHeld => ?_)
  rw [← HWD.out]
  clear hHeld
  have hHeld := hSD
  clear hSD hbd HWD
  refine wpAnyH_take (i := 0) (v := .pointer (some ⟨w.heap.size, 2, none⟩)) (get_ops _ _ _ rfl) (by kernel_rfl) (by kernel_rfl) (by kernel_rfl) (fun _ _ _ h => h) (Or.inl ⟨by rfl, fun wS hSw => by (try dsimp only at hSw); go_simp⟩) hHeld ?_
  try simp only [Act.put, List.setIfInBounds_toArray, List.set_cons_zero, List.set_cons_succ]
  refine wpAnyH_take (i := 1) (v := S2.pv A2 c2 X l) (get_ops _ _ _ rfl) (by kernel_rfl) (by kernel_rfl) (by kernel_rfl) (fun _ _ _ h => h) (Or.inl ⟨by rfl, fun wS hSw => by (try dsimp only at hSw); exact exec_load 26 _ rfl ⟨w.heap.size, 2, none⟩ (by go_simp) _ (bk_pool hSw.1)⟩) hHeld ?_
  try simp only [Act.put, List.setIfInBounds_toArray, List.set_cons_zero, List.set_cons_succ]
  refine wpAnyH_take (i := 2) (v := .pointer (some ⟨w.heap.size, 1, none⟩)) (get_ops _ _ _ rfl) (by kernel_rfl) (by kernel_rfl) (by kernel_rfl) (fun _ _ _ h => h) (Or.inl ⟨by rfl, fun wS hSw => by (try dsimp only at hSw); go_simp⟩) hHeld ?_
  try simp only [Act.put, List.setIfInBounds_toArray, List.set_cons_zero, List.set_cons_succ]
  refine wpAnyH_take (i := 3) (v := .slice (some ⟨b, o, none⟩) xs.length c) (get_ops _ _ _ rfl) (by kernel_rfl) (by kernel_rfl) (by kernel_rfl) (fun _ _ _ h => h) (Or.inl ⟨by rfl, fun wS hSw => by (try dsimp only at hSw); have cS : wS.cell? ⟨w.heap.size, 1, none⟩ = some (.slice (some ⟨b, o, none⟩) xs.length c) := hSw.1.cell 1 rfl; clear hSw; go_simp⟩) hHeld ?_
  try simp only [Act.put, List.setIfInBounds_toArray, List.set_cons_zero, List.set_cons_succ]
  refine wpAnyH_take (i := 4) (v := .int .i64 ys.length) (get_ops _ _ _ rfl) (by kernel_rfl) (by kernel_rfl) (by kernel_rfl) (fun _ _ _ h => h) (Or.inl ⟨by rfl, fun wS hSw => by (try dsimp only at hSw); go_simp⟩) hHeld ?_
  try simp only [Act.put, List.setIfInBounds_toArray, List.set_cons_zero, List.set_cons_succ]
  refine wpAnyH_take (i := 5) (v := .pointer (some ⟨b, o + ys.length * 11, none⟩)) (get_ops _ _ _ rfl) (by kernel_rfl) (by kernel_rfl) (by kernel_rfl) (fun _ _ _ h => h) (Or.inl ⟨by rfl, fun wS hSw => by (try dsimp only at hSw); go_simp⟩) hHeld ?_
  try simp only [Act.put, List.setIfInBounds_toArray, List.set_cons_zero, List.set_cons_succ]
  refine wpAnyH_take (i := 6) (v := .pointer (some ⟨b, o + ys.length * 11, none⟩)) (get_ops _ _ _ rfl) (by kernel_rfl) (by kernel_rfl) (by kernel_rfl) (fun _ _ _ h => h) (Or.inl ⟨by rfl, fun wS hSw => by (try dsimp only at hSw); go_simp⟩) hHeld ?_
  try simp only [Act.put, List.setIfInBounds_toArray, List.set_cons_zero, List.set_cons_succ]
  refine wpAnyH_take (i := 7) (v := .int .i64 x.f.id) (get_ops _ _ _ rfl) (by kernel_rfl) (by kernel_rfl) (by kernel_rfl) (fun _ _ _ h => h) (Or.inl ⟨by rfl, fun wS hSw => by (try dsimp only at hSw); have cS : wS.cell? ⟨b, o + ys.length * 11, none⟩ = some (.int .i64 x.f.id) := HCX.out _ hSw.2 0 _ rfl; clear hSw; go_simp⟩) hHeld ?_
  try simp only [Act.put, List.setIfInBounds_toArray, List.set_cons_zero, List.set_cons_succ]
  refine wpAnyH_ready (rs := [8, 12]) (by kernel_rfl) (by simp) ?_
  refine (AllReadyH.cons (get_ops _ _ _ rfl) (fun K hK => ?_) (AllReadyH.cons (get_ops _ _ _ rfl) (fun K hK => ?_) AllReadyH.nil))
  · have RO := R_x1
    go_simp
    refine (HFR.out x1 S_x1.out).mono ?_
    rintro e x2 ⟨a3, c3, rfl, hc3, hil3, hfr3, hb⟩
    have T_x2 : Hid (BK 28 x2 w.heap.size (wcs L (some ⟨b, o, none⟩) c xs A2 c2 X l)) := Lib.hid (T_x1.out.step hb)
    have R_x2 : Hid (BK 28 x2 (w.heap.size + 1) (wcs 0 none 0 [] none 0 [] 0)) := Lib.hid (R_x1.out.step hb)
    have B_x2 : Hid (Below w.heap.size w x2) := Lib.hid (stepB B_x1.out hb)
    have S_x2 : Hid (S2.IL x2 x2.heap.size A2 X) := Lib.hid (CL.step S_x1.out hb)
    have Z_x2 : Hid (q ≤ x2.heap.size) := Lib.hid (Nat.le_trans Z_x1.out hb.size)
    clear T_x1 R_x1 B_x1 S_x1 Z_x1
    have Q_x2 : Hid (S2.IL x2 x2.heap.size a3 Y) := Lib.hid (hil3)
    have HC3 := Lib.hid hc3
    have HFX : Hid (∀ g, g < w.heap.size → S2.Off g A2 X → S2.Off g a3 Y) := Lib.hid (fun g hg ho => S2.Off.fr ho hfr3 (by have := RO.out.lt; omega))
    have HOR : Hid (S2.Off (w.heap.size + 1) a3 Y) := Lib.hid (S2.Off.fr HOR0.out hfr3 RO.out.lt)
    clear hil3 hc3 hfr3 RO
    clear hHeld hb
    go_wp2_with fail
    refine hK.out _ _ ⟨T_x2.out, B_x2.out⟩ (fun hHeld => ?_)
    clear hK K
    try simp only [Act.put, List.setIfInBounds_toArray, List.set_cons_zero, List.set_cons_succ]
    refine wpAnyH_take (i := 9) (v := .tuple #[S2.pv a3 c3 Y l, .bool bd]) (get_ops _ _ _ rfl) (by kernel_rfl) (by kernel_rfl) (by kernel_rfl) (fun _ _ _ h => h) (Or.inl ⟨by rfl, fun wS hSw => by (try dsimp only at hSw); go_simp⟩) hHeld ?_
    try simp only [Act.put, List.setIfInBounds_toArray, List.set_cons_zero, List.set_cons_succ]
    refine wpAnyH_take (i := 10) (v := S2.pv a3 c3 Y l) (get_ops _ _ _ rfl) (by kernel_rfl) (by kernel_rfl) (by kernel_rfl) (fun _ _ _ h => h) (Or.inl ⟨by rfl, fun wS hSw => by (try dsimp only at hSw); go_simp⟩) hHeld ?_
    try simp only [Act.put, List.setIfInBounds_toArray, List.set_cons_zero, List.set_cons_succ]
    refine wpAnyH_take (i := 11) (v := .bool bd) (get_ops _ _ _ rfl) (by kernel_rfl) (by kernel_rfl) (by kernel_rfl) (fun _ _ _ h => h) (Or.inl ⟨by rfl, fun wS hSw => by (try dsimp only at hSw); go_simp⟩) hHeld ?_
    try simp only [Act.put, List.setIfInBounds_toArray, List.set_cons_zero, List.set_cons_succ]
    refine wpAnyH_ready (rs := [12]) (by kernel_rfl) (by simp) ?_
    refine (AllReadyH.cons (get_ops _ _ _ rfl) (fun K hK => ?_) AllReadyH.nil)
    go_simp
    obtain ⟨gp, hgp⟩ : ∃ gp, gp = x2.heap.size := ⟨_, rfl⟩
    obtain ⟨x3, hx3⟩ : ∃ x3, x3 = x2.alloc (.cells ([.slice none 0 0, .int .i64 0] : List Value).toArray 26) := ⟨_, rfl⟩
    have hb : Below x2.heap.size x2 x3 := by rw [hx3]; exact S2.below_new _ _
    have hN : BK 26 x3 gp [.slice none 0 0, .int .i64 0] := by rw [hx3, hgp]; exact BK.new _ _ _
    have HGP : Hid (w.heap.size + 1 < gp) := Lib.hid (by rw [hgp]; exact R_x2.out.lt)
    have HOG : Hid (S2.Off gp a3 Y) := Lib.hid (by rw [hgp]; exact off_new Q_x2.out)
    have T_x3 : Hid (BK 28 x3 w.heap.size (wcs L (some ⟨b, o, none⟩) c xs A2 c2 X l)) := Lib.hid (T_x2.out.step hb)
    have R_x3 : Hid (BK 28 x3 (w.heap.size + 1) (wcs 0 none 0 [] none 0 [] 0)) := Lib.hid (R_x2.out.step hb)
    have B_x3 : Hid (Below w.heap.size w x3) := Lib.hid (stepB B_x2.out hb)
    have S_x3 : Hid (S2.IL x3 x3.heap.size A2 X) := Lib.hid (CL.step S_x2.out hb)
    have Z_x3 : Hid (q ≤ x3.heap.size) := Lib.hid (Nat.le_trans Z_x2.out hb.size)
    have Q_x3 : Hid (S2.IL x3 x3.heap.size a3 Y) := Lib.hid (CL.step Q_x2.out hb)
    clear T_x2 R_x2 B_x2 S_x2 Z_x2 Q_x2
    have G_x3 := Lib.hid hN
    try rw [← hx3]
    try rw [← hgp]
    clear hHeld hb hN hx3 hgp
    refine hK.out _ _ ⟨T_x3.out, B_x3.out⟩ (fun hHeld => ?_)
    clear hK K
    try simp only [Act.put, List.setIfInBounds_toArray, List.set_cons_zero, List.set_cons_succ]
    refine wpAnyH_ready (rs := [13]) (by kernel_rfl) (by simp) ?_
    refine (AllReadyH.cons (get_ops _ _ _ rfl) (fun K hK => ?_) AllReadyH.nil)
    refine S2.wp_store_all 26 _ _ rfl rfl gp (by go_simp) [.slice a3 Y.length c3, .int .i64 l] (by first | rfl | go_simp) 26 [.slice none 0 0, .int .i64 0] G_x3.out S2.infoP2 rfl (ones rfl) ?_
    intro x4 hM hP
    have G_x4 : Hid (BK 26 x4 gp [.slice a3 Y.length c3, .int .i64 l]) := Lib.hid (hM)
    have T_x4 : Hid (BK 28 x4 w.heap.size (wcs L (some ⟨b, o, none⟩) c xs A2 c2 X l)) := Lib.hid (hP.other T_x3.out (by have := HGP.out; omega))
    have R_x4 : Hid (BK 28 x4 (w.heap.size + 1) (wcs 0 none 0 [] none 0 [] 0)) := Lib.hid (hP.other R_x3.out (by have := HGP.out; omega))
    have B_x4 : Hid (Below w.heap.size w x4) := Lib.hid (hP.below B_x3.out (by have := HGP.out; omega))
    have Z_x4 : Hid (q ≤ x4.heap.size) := Lib.hid ((by rw [hP.size]; exact Z_x3.out))
    have Q_x4 : Hid (S2.IL x4 x4.heap.size a3 Y) := Lib.hid (ILput Q_x3.out hP (fun hn b o e => HOG.out b o e hn))
    clear T_x3 R_x3 B_x3 S_x3 Z_x3 Q_x3 G_x3
    clear hM hP hHeld
    refine hK.out _ _ ⟨T_x4.out, B_x4.out⟩ (fun hHeld => ?_)
    clear hK K
    try simp only [Act.put, List.setIfInBounds_toArray, List.set_cons_zero, List.set_cons_succ]
    refine wpAnyH_take (i := 14) (v := .bool bd) (get_ops _ _ _ rfl) (by kernel_rfl) (by kernel_rfl) (by kernel_rfl) (fun _ _ _ h => h) (Or.inl ⟨by rfl, fun wS hSw => by (try dsimp only at hSw); go_simp⟩) hHeld ?_
    try simp only [Act.put, List.setIfInBounds_toArray, List.set_cons_zero, List.set_cons_succ]
    refine wpAnyH_done (by kernel_rfl) ?_ _
    clear HQ HOR0
    have HZQ : Hid (q ≤ x4.heap.size) := Z_x4
    obtain ⟨q2, hq2⟩ : ∃ q2, q2 = x4.heap.size := ⟨_, rfl⟩
    have HQ : Hid (w.heap.size + 1 < q2) := Lib.hid (by rw [hq2]; exact R_x4.out.lt)
    have HGQ : Hid (gp < q2) := Lib.hid (by rw [hq2]; exact G_x4.out.lt)
    have I_x4 : Hid (ILq q2 x4 a3 Y) := Lib.hid ⟨Nat.le_of_eq hq2, by rw [hq2]; exact Q_x4.out⟩
    clear Z_x4 HZQ Q_x4
    have Z_x4 : Hid (q2 ≤ x4.heap.size) := Lib.hid (Nat.le_of_eq hq2)
    clear hq2
    clear q
    rename Nat => q
    have HB0 := Lib.hid (S2.below_new x4 (.cells #[] 56))
    have d1 : (x4.alloc (.cells #[] 56)).cell? ⟨w.heap.size, 1, none⟩ = some (.slice (some ⟨b, o, none⟩) xs.length c) := (T_x4.out.step HB0.out).cell 1 rfl
    go_upto_region 3 with first
      | (at_builtin; refine wpList_appG (g := gF) (k := 11) (e := 56) (by decide) _ rfl _ _ 23 23 rfl (.agg #[.int .i64 0, .int .i64 0, .string ByteArray.empty, .string ByteArray.empty, .int .i64 0, .bool false, .int .i64 0, .int .i64 0, .string ByteArray.empty, .int .i64 0, .slice none 0 0]) 128 Tryz.underlying23 flInfo rfl (by decide) q _ [] ys rfl (OwnG.made x4 0 #[] q Z_x4.out (by decide) rfl) _ rfl (GL.src gF_len gF_one (HSY.out _ (HW.out.1.step (stepB B_x4.out HB0.out))) Tryz.underlying23 c) x4 ((Below.refl q x4).alloc Z_x4.out _) (by have := Z_x4.out; simp; omega) (by have := HLE.out; simp; omega) ?_; intro va wa hown1 hba hsa; have La_wa : Hid (OwnG 56 gF 11 wa q va ys) := Lib.hid (by simpa using hown1); have B_wa : Hid (Below w.heap.size w wa) := Lib.hid (B_x4.out.trans (hba.mono (by have := HQ.out; omega))); have T_wa := Lib.hid (BK.keep T_x4.out (by have := HQ.out; omega) hba); have R_wa := Lib.hid (BK.keep R_x4.out (by have := HQ.out; omega) hba); have Z_wa : Hid (q ≤ wa.heap.size) := Lib.hid hsa; have E_wa := Lib.hid (BK.keep G_x4.out HGQ.out hba); have I_wa : Hid (ILq q wa a3 Y) := Lib.hid (I_x4.out.below hba); clear hown1 hba hsa)
    clear d1 T_x4 R_x4 B_x4 Z_x4 HB0
    clear G_x4 I_x4
    obtain ⟨y1, hy1⟩ : ∃ y1, y1 = World.drew wa := ⟨_, rfl⟩
    have hbD : Below wa.heap.size wa y1 := by rw [hy1]; exact (Below.refl _ _).drew
    have T_y1 : Hid (BK 28 y1 w.heap.size (wcs L (some ⟨b, o, none⟩) c xs A2 c2 X l)) := Lib.hid (T_wa.out.step hbD)
    have R_y1 : Hid (BK 28 y1 (w.heap.size + 1) (wcs 0 none 0 [] none 0 [] 0)) := Lib.hid (R_wa.out.step hbD)
    have B_y1 : Hid (Below w.heap.size w y1) := Lib.hid (stepB B_wa.out hbD)
    have Z_y1 : Hid (q ≤ y1.heap.size) := Lib.hid (Nat.le_trans Z_wa.out hbD.size)
    have E_y1 : Hid (BK 26 y1 gp [.slice a3 Y.length c3, .int .i64 l]) := Lib.hid (E_wa.out.step hbD)
    have I_y1 : Hid (ILq q y1 a3 Y) := Lib.hid (I_wa.out.step hbD)
    have La_y1 : Hid (OwnG 56 gF 11 y1 q va ys) := Lib.hid (OwnG.step La_wa.out hbD)
    clear T_wa R_wa B_wa Z_wa E_wa I_wa La_wa
    have hbd : (fun w' => BK 28 w' w.heap.size (wcs L (some ⟨b, o, none⟩) c xs A2 c2 X l) ∧ Below w.heap.size w w' ∧ BK 26 w' gp [.slice a3 Y.length c3, .int .i64 l]) (World.drew wa) := by rw [← hy1]; exact ⟨T_y1.out, B_y1.out, E_y1.out⟩
    have hSD : (fun w' => BK 28 w' w.heap.size (wcs L (some ⟨b, o, none⟩) c xs A2 c2 X l) ∧ Below w.heap.size w w' ∧ BK 26 w' gp [.slice a3 Y.length c3, .int .i64 l]) y1 := ⟨T_y1.out, B_y1.out, E_y1.out⟩
    have HWD := Lib.hid hy1
    clear hy1 hbD
    refine wp_region_held_drew (S := fun w' => BK 28 w' w.heap.size (wcs L (some ⟨b, o, none⟩) c xs A2 c2 X l) ∧ Below w.heap.size w w' ∧ BK 26 w' gp [.slice a3 Y.length c3, .int .i64 l]) (by kernel_rfl) hbd (fun hHeld => ?_)
    rw [← HWD.out]
    clear hHeld
    have hHeld := hSD
    clear hSD hbd HWD
    refine wpAnyH_take (i := 0) (v := .pointer (some ⟨w.heap.size, 0, none⟩)) (get_ops _ _ _ rfl) (by kernel_rfl) (by kernel_rfl) (by kernel_rfl) (fun _ _ _ h => h) (Or.inl ⟨by rfl, fun wS hSw => by (try dsimp only at hSw); go_simp⟩) hHeld ?_
    try simp only [Act.put, List.setIfInBounds_toArray, List.set_cons_zero, List.set_cons_succ]
    refine wpAnyH_take (i := 1) (v := .int .i64 L) (get_ops _ _ _ rfl) (by kernel_rfl) (by kernel_rfl) (by kernel_rfl) (fun _ _ _ h => h) (Or.inl ⟨by rfl, fun wS hSw => by (try dsimp only at hSw); have cS : wS.cell? ⟨w.heap.size, 0, none⟩ = some (.int .i64 L) := hSw.1.cell 0 rfl; clear hSw; go_simp⟩) hHeld ?_
    try simp only [Act.put, List.setIfInBounds_toArray, List.set_cons_zero, List.set_cons_succ]
    refine wpAnyH_take (i := 2) (v := va) (get_ops _ _ _ rfl) (by kernel_rfl) (by kernel_rfl) (by kernel_rfl) (fun _ _ _ h => h) (Or.inl ⟨by rfl, fun wS hSw => by (try dsimp only at hSw); go_simp⟩) hHeld ?_
    try simp only [Act.put, List.setIfInBounds_toArray, List.set_cons_zero, List.set_cons_succ]
    refine wpAnyH_take (i := 3) (v := .pointer (some ⟨w.heap.size, 1, none⟩)) (get_ops _ _ _ rfl) (by kernel_rfl) (by kernel_rfl) (by kernel_rfl) (fun _ _ _ h => h) (Or.inl ⟨by rfl, fun wS hSw => by (try dsimp only at hSw); go_simp⟩) hHeld ?_
    try simp only [Act.put, List.setIfInBounds_toArray, List.set_cons_zero, List.set_cons_succ]
    refine wpAnyH_take (i := 4) (v := .slice (some ⟨b, o, none⟩) xs.length c) (get_ops _ _ _ rfl) (by kernel_rfl) (by kernel_rfl) (by kernel_rfl) (fun _ _ _ h => h) (Or.inl ⟨by rfl, fun wS hSw => by (try dsimp only at hSw); have cS : wS.cell? ⟨w.heap.size, 1, none⟩ = some (.slice (some ⟨b, o, none⟩) xs.length c) := hSw.1.cell 1 rfl; clear hSw; go_simp⟩) hHeld ?_
    try simp only [Act.put, List.setIfInBounds_toArray, List.set_cons_zero, List.set_cons_succ]
    refine wpAnyH_take (i := 5) (v := .int .i64 ys.length) (get_ops _ _ _ rfl) (by kernel_rfl) (by kernel_rfl) (by kernel_rfl) (fun _ _ _ h => h) (Or.inl ⟨by rfl, fun wS hSw => by (try dsimp only at hSw); go_simp⟩) hHeld ?_
    try simp only [Act.put, List.setIfInBounds_toArray, List.set_cons_zero, List.set_cons_succ]
    refine wpAnyH_take (i := 6) (v := .int .i64 ((ys.length : Int) + 1)) (get_ops _ _ _ rfl) (by kernel_rfl) (by kernel_rfl) (by kernel_rfl) (fun _ _ _ h => h) (Or.inl ⟨by rfl, fun wS hSw => by (try dsimp only at hSw); go_simp; rw [IntKind.wrap_i64]; omega⟩) hHeld ?_
    try simp only [Act.put, List.setIfInBounds_toArray, List.set_cons_zero, List.set_cons_succ]
    refine wpAnyH_take (i := 7) (v := (.slice AD ds.length cd)) (get_ops _ _ _ rfl) (by kernel_rfl) (by kernel_rfl) (by kernel_rfl) (fun _ _ _ h => h) (Or.inl ⟨by rfl, fun wS hSw => by (try dsimp only at hSw); rw [HDE.out]; go_simp⟩) hHeld ?_
    try simp only [Act.put, List.setIfInBounds_toArray, List.set_cons_zero, List.set_cons_succ]
    refine wpAnyH_take (i := 9) (v := S2.pv a3 c3 Y l) (get_ops _ _ _ rfl) (by kernel_rfl) (by kernel_rfl) (by kernel_rfl) (fun _ _ _ h => h) (Or.inl ⟨by rfl, fun wS hSw => by (try dsimp only at hSw); exact exec_load 26 _ rfl ⟨gp, 0, none⟩ (by go_simp) _ (S2.run_load_all hSw.2.2 Tryz.underlying26 rfl S2.infoP2)⟩) hHeld ?_
    try simp only [Act.put, List.setIfInBounds_toArray, List.set_cons_zero, List.set_cons_succ]
    refine wpAnyH_ready (rs := [8]) (by kernel_rfl) (by simp) ?_
    refine (AllReadyH.cons (get_ops _ _ _ rfl) (fun K hK => ?_) AllReadyH.nil)
    rw [if_pos (by rfl)]
    have hoy := La_y1.out
    refine oper_appG (g := gF) (k := 11) (e := 56) (by decide) (.tmp 28) (.tmp 33) 23 23 rfl (.agg #[.int .i64 0, .int .i64 0, .string ByteArray.empty, .string ByteArray.empty, .int .i64 0, .bool false, .int .i64 0, .int .i64 0, .string ByteArray.empty, .int .i64 0, .slice none 0 0]) 128 Tryz.underlying23 flInfo rfl (by decide) q va ys ds _ (by go_simp) hoy (by go_simp) (GL.src gF_len gF_one (HSD.out _ (HW.out.1.step B_y1.out)) Tryz.underlying23 cd) Z_y1.out (by have := HLE.out; simp; omega) ?_
    intro vb y2 hown hgr hoffs
    have T_y2 : Hid (BK 28 y2 w.heap.size (wcs L (some ⟨b, o, none⟩) c xs A2 c2 X l)) := Lib.hid (BK.grow T_y1.out hgr (OwnG.off hoy (by have := HQ.out; omega)))
    have R_y2 : Hid (BK 28 y2 (w.heap.size + 1) (wcs 0 none 0 [] none 0 [] 0)) := Lib.hid (BK.grow R_y1.out hgr (OwnG.off hoy (HQ.out)))
    have B_y2 : Hid (Below w.heap.size w y2) := Lib.hid (Below.grow B_y1.out hoy hgr B_y1.out.size (by have := HQ.out; omega))
    have Z_y2 : Hid (q ≤ y2.heap.size) := Lib.hid (Nat.le_trans Z_y1.out hgr.size)
    have E_y2 : Hid (BK 26 y2 gp [.slice a3 Y.length c3, .int .i64 l]) := Lib.hid (BK.grow E_y1.out hgr (OwnG.off hoy (HGQ.out)))
    have I_y2 : Hid (ILq q y2 a3 Y) := Lib.hid (I_y1.out.grow hoy hgr)
    have Lb_y2 : Hid (OwnG 56 gF 11 y2 q vb (ys ++ ds)) := Lib.hid hown
    clear hoy hown hgr hoffs hHeld T_y1 R_y1 B_y1 Z_y1 E_y1 I_y1 La_y1
    refine hK.out _ _ ⟨T_y2.out, B_y2.out, E_y2.out⟩ (fun hHeld => ?_)
    clear hK K
    try simp only [Act.put, List.setIfInBounds_toArray, List.set_cons_zero, List.set_cons_succ]
    obtain ⟨A9, c9, hv9, hc9, hnew9, hgl9⟩ := OwnG.retB gF_len Lb_y2.out
    subst hv9
    have HC9 := Lib.hid hc9
    have HN9 := Lib.hid hnew9
    clear hc9 hgl9 hnew9
    refine wpAnyH_take (i := 10) (v := wv L A9 c9 (ys ++ ds) a3 c3 Y l) (get_ops _ _ _ rfl) (by kernel_rfl) (by kernel_rfl) (by kernel_rfl) (fun _ _ _ h => h) (Or.inl ⟨by rfl, fun wS hSw => by (try dsimp only at hSw); go_simp⟩) hHeld ?_
    try simp only [Act.put, List.setIfInBounds_toArray, List.set_cons_zero, List.set_cons_succ]
    refine wpAnyH_ready (rs := [11]) (by kernel_rfl) (by simp) ?_
    refine (AllReadyH.cons (get_ops _ _ _ rfl) (fun K hK => ?_) AllReadyH.nil)
    refine S2.wp_store_all 28 _ _ rfl rfl ((w.heap.size + 1)) (by go_simp) (wcs L A9 c9 (ys ++ ds) a3 c3 Y l) (by first | rfl | go_simp) 28 (wcs 0 none 0 [] none 0 [] 0) R_y2.out winSize rfl (ones rfl) ?_
    intro y3 hM hP
    have R_y3 : Hid (BK 28 y3 ((w.heap.size + 1)) (wcs L A9 c9 (ys ++ ds) a3 c3 Y l)) := Lib.hid (hM)
    have T_y3 : Hid (BK 28 y3 w.heap.size (wcs L (some ⟨b, o, none⟩) c xs A2 c2 X l)) := Lib.hid (hP.other T_y2.out (by omega))
    have B_y3 : Hid (Below w.heap.size w y3) := Lib.hid (hP.below B_y2.out (by omega))
    have Z_y3 : Hid (q ≤ y3.heap.size) := Lib.hid ((by rw [hP.size]; exact Z_y2.out))
    have E_y3 : Hid (BK 26 y3 gp [.slice a3 Y.length c3, .int .i64 l]) := Lib.hid (hP.other E_y2.out (by have := HGP.out; omega))
    have I_y3 : Hid (ILq q y3 a3 Y) := Lib.hid (I_y2.out.put hP HOR.out)
    have Lb_y3 : Hid (OwnG 56 gF 11 y3 q (.slice A9 (ys ++ ds).length c9) (ys ++ ds)) := Lib.hid (OwnG.putB Lb_y2.out hP HQ.out)
    clear T_y2 R_y2 B_y2 Z_y2 E_y2 I_y2 Lb_y2
    clear hM hP hHeld
    refine hK.out _ _ ⟨T_y3.out, B_y3.out, E_y3.out⟩ (fun hHeld => ?_)
    clear hK K
    try simp only [Act.put, List.setIfInBounds_toArray, List.set_cons_zero, List.set_cons_succ]
    refine wpAnyH_done (by kernel_rfl) ?_ _
    obtain ⟨A8, c8, hv8, hc8, hgl8⟩ := OwnG.ret gF_len Lb_y3.out
    simp only [Value.slice.injEq] at hv8
    obtain ⟨rfl, _, rfl⟩ := hv8
    have HG8 := Lib.hid (And.intro hc8 hgl8)
    clear hc8 hgl8
    have hR9 := HRS.out
    subst hR9
    go_wp2_with fail
    refine bodyPost_ret (v := wv L A9 c9 (ys ++ ds) a3 c3 Y l) (S2.res_cell rfl _ _ (w.heap.size + 1) 28 (wcs L A9 c9 (ys ++ ds) a3 c3 Y l) _ rfl R_y3.out Tryz.underlying28 rfl winSize) rfl ⟨A9, c9, (ys ++ ds), a3, c3, rfl, by simp [HMY.out.1, HMY.out.2], ⟨⟨HG8.out.2, fun y hy => ?_⟩, HG8.out.1, CL.more I_y3.out.2 I_y3.out.1, HC3.out⟩, B_y3.out, fun g hg ho => ⟨fun _ b o e => by have := HN9.out b o e; have := HQ.out; omega, fun y hy => ?_, HFX.out g hg ho.2.2⟩⟩
    · rcases List.mem_append.1 hy with hy | hy
      · exact (HW.out.1.2 y (HPY.out y (.inl hy))).step B_y3.out
      · exact (HW.out.1.2 y (HPY.out y (.inr hy))).step B_y3.out
    · rcases List.mem_append.1 hy with hy | hy
      · exact ho.2.1 y (HPY.out y (.inl hy))
      · exact ho.2.1 y (HPY.out y (.inr hy))
  · go_simp
    obtain ⟨gp, hgp⟩ : ∃ gp, gp = x1.heap.size := ⟨_, rfl⟩
    obtain ⟨x2, hx2⟩ : ∃ x2, x2 = x1.alloc (.cells ([.slice none 0 0, .int .i64 0] : List Value).toArray 26) := ⟨_, rfl⟩
    have hb : Below x1.heap.size x1 x2 := by rw [hx2]; exact S2.below_new _ _
    have hN : BK 26 x2 gp [.slice none 0 0, .int .i64 0] := by rw [hx2, hgp]; exact BK.new _ _ _
    have HGP : Hid (w.heap.size + 1 < gp) := Lib.hid (by rw [hgp]; exact R_x1.out.lt)
    have HOG0 : Hid (S2.Off gp A2 X) := Lib.hid (by rw [hgp]; exact off_new S_x1.out)
    have T_x2 : Hid (BK 28 x2 w.heap.size (wcs L (some ⟨b, o, none⟩) c xs A2 c2 X l)) := Lib.hid (T_x1.out.step hb)
    have R_x2 : Hid (BK 28 x2 (w.heap.size + 1) (wcs 0 none 0 [] none 0 [] 0)) := Lib.hid (R_x1.out.step hb)
    have B_x2 : Hid (Below w.heap.size w x2) := Lib.hid (stepB B_x1.out hb)
    have S_x2 : Hid (S2.IL x2 x2.heap.size A2 X) := Lib.hid (CL.step S_x1.out hb)
    have Z_x2 : Hid (q ≤ x2.heap.size) := Lib.hid (Nat.le_trans Z_x1.out hb.size)
    clear T_x1 R_x1 B_x1 S_x1 Z_x1
    have G_x2 := Lib.hid hN
    try rw [← hx2]
    try rw [← hgp]
    clear hHeld hb hN hx2 hgp
    refine hK.out _ _ ⟨T_x2.out, B_x2.out⟩ (fun hHeld => ?_)
    clear hK K
    try simp only [Act.put, List.setIfInBounds_toArray, List.set_cons_zero, List.set_cons_succ]
    refine wpAnyH_ready (rs := [8]) (by kernel_rfl) (by simp) ?_
    refine (AllReadyH.cons (get_ops _ _ _ rfl) (fun K hK => ?_) AllReadyH.nil)
    have RO := R_x2
    have GO := G_x2
    go_simp
    refine (HFR.out x2 S_x2.out).mono ?_
    rintro e x3 ⟨a3, c3, rfl, hc3, hil3, hfr3, hb⟩
    have T_x3 : Hid (BK 28 x3 w.heap.size (wcs L (some ⟨b, o, none⟩) c xs A2 c2 X l)) := Lib.hid (T_x2.out.step hb)
    have R_x3 : Hid (BK 28 x3 (w.heap.size + 1) (wcs 0 none 0 [] none 0 [] 0)) := Lib.hid (R_x2.out.step hb)
    have B_x3 : Hid (Below w.heap.size w x3) := Lib.hid (stepB B_x2.out hb)
    have S_x3 : Hid (S2.IL x3 x3.heap.size A2 X) := Lib.hid (CL.step S_x2.out hb)
    have Z_x3 : Hid (q ≤ x3.heap.size) := Lib.hid (Nat.le_trans Z_x2.out hb.size)
    have G_x3 : Hid (BK 26 x3 gp [.slice none 0 0, .int .i64 0]) := Lib.hid (G_x2.out.step hb)
    clear T_x2 R_x2 B_x2 S_x2 Z_x2 G_x2
    have Q_x3 : Hid (S2.IL x3 x3.heap.size a3 Y) := Lib.hid (hil3)
    have HC3 := Lib.hid hc3
    have HFX : Hid (∀ g, g < w.heap.size → S2.Off g A2 X → S2.Off g a3 Y) := Lib.hid (fun g hg ho => S2.Off.fr ho hfr3 (by have := RO.out.lt; omega))
    have HOR : Hid (S2.Off (w.heap.size + 1) a3 Y) := Lib.hid (S2.Off.fr HOR0.out hfr3 RO.out.lt)
    have HOG : Hid (S2.Off gp a3 Y) := Lib.hid (S2.Off.fr HOG0.out hfr3 GO.out.lt)
    clear hil3 hc3 hfr3 RO GO
    clear hHeld hb
    go_wp2_with fail
    refine hK.out _ _ ⟨T_x3.out, B_x3.out⟩ (fun hHeld => ?_)
    clear hK K
    try simp only [Act.put, List.setIfInBounds_toArray, List.set_cons_zero, List.set_cons_succ]
    refine wpAnyH_take (i := 9) (v := .tuple #[S2.pv a3 c3 Y l, .bool bd]) (get_ops _ _ _ rfl) (by kernel_rfl) (by kernel_rfl) (by kernel_rfl) (fun _ _ _ h => h) (Or.inl ⟨by rfl, fun wS hSw => by (try dsimp only at hSw); go_simp⟩) hHeld ?_
    try simp only [Act.put, List.setIfInBounds_toArray, List.set_cons_zero, List.set_cons_succ]
    refine wpAnyH_take (i := 10) (v := S2.pv a3 c3 Y l) (get_ops _ _ _ rfl) (by kernel_rfl) (by kernel_rfl) (by kernel_rfl) (fun _ _ _ h => h) (Or.inl ⟨by rfl, fun wS hSw => by (try dsimp only at hSw); go_simp⟩) hHeld ?_
    try simp only [Act.put, List.setIfInBounds_toArray, List.set_cons_zero, List.set_cons_succ]
    refine wpAnyH_take (i := 11) (v := .bool bd) (get_ops _ _ _ rfl) (by kernel_rfl) (by kernel_rfl) (by kernel_rfl) (fun _ _ _ h => h) (Or.inl ⟨by rfl, fun wS hSw => by (try dsimp only at hSw); go_simp⟩) hHeld ?_
    try simp only [Act.put, List.setIfInBounds_toArray, List.set_cons_zero, List.set_cons_succ]
    refine wpAnyH_ready (rs := [13]) (by kernel_rfl) (by simp) ?_
    refine (AllReadyH.cons (get_ops _ _ _ rfl) (fun K hK => ?_) AllReadyH.nil)
    refine S2.wp_store_all 26 _ _ rfl rfl gp (by go_simp) [.slice a3 Y.length c3, .int .i64 l] (by first | rfl | go_simp) 26 [.slice none 0 0, .int .i64 0] G_x3.out S2.infoP2 rfl (ones rfl) ?_
    intro x4 hM hP
    have G_x4 : Hid (BK 26 x4 gp [.slice a3 Y.length c3, .int .i64 l]) := Lib.hid (hM)
    have T_x4 : Hid (BK 28 x4 w.heap.size (wcs L (some ⟨b, o, none⟩) c xs A2 c2 X l)) := Lib.hid (hP.other T_x3.out (by have := HGP.out; omega))
    have R_x4 : Hid (BK 28 x4 (w.heap.size + 1) (wcs 0 none 0 [] none 0 [] 0)) := Lib.hid (hP.other R_x3.out (by have := HGP.out; omega))
    have B_x4 : Hid (Below w.heap.size w x4) := Lib.hid (hP.below B_x3.out (by have := HGP.out; omega))
    have Z_x4 : Hid (q ≤ x4.heap.size) := Lib.hid ((by rw [hP.size]; exact Z_x3.out))
    have Q_x4 : Hid (S2.IL x4 x4.heap.size a3 Y) := Lib.hid (ILput Q_x3.out hP (fun hn b o e => HOG.out b o e hn))
    clear T_x3 R_x3 B_x3 S_x3 Z_x3 G_x3 Q_x3
    clear hM hP hHeld
    refine hK.out _ _ ⟨T_x4.out, B_x4.out⟩ (fun hHeld => ?_)
    clear hK K
    try simp only [Act.put, List.setIfInBounds_toArray, List.set_cons_zero, List.set_cons_succ]
    refine wpAnyH_take (i := 14) (v := .bool bd) (get_ops _ _ _ rfl) (by kernel_rfl) (by kernel_rfl) (by kernel_rfl) (fun _ _ _ h => h) (Or.inl ⟨by rfl, fun wS hSw => by (try dsimp only at hSw); go_simp⟩) hHeld ?_
    try simp only [Act.put, List.setIfInBounds_toArray, List.set_cons_zero, List.set_cons_succ]
    refine wpAnyH_done (by kernel_rfl) ?_ _
    clear HQ HOR0
    have HZQ : Hid (q ≤ x4.heap.size) := Z_x4
    obtain ⟨q2, hq2⟩ : ∃ q2, q2 = x4.heap.size := ⟨_, rfl⟩
    have HQ : Hid (w.heap.size + 1 < q2) := Lib.hid (by rw [hq2]; exact R_x4.out.lt)
    have HGQ : Hid (gp < q2) := Lib.hid (by rw [hq2]; exact G_x4.out.lt)
    have I_x4 : Hid (ILq q2 x4 a3 Y) := Lib.hid ⟨Nat.le_of_eq hq2, by rw [hq2]; exact Q_x4.out⟩
    clear Z_x4 HZQ Q_x4
    have Z_x4 : Hid (q2 ≤ x4.heap.size) := Lib.hid (Nat.le_of_eq hq2)
    clear hq2
    clear q
    rename Nat => q
    have HB0 := Lib.hid (S2.below_new x4 (.cells #[] 56))
    have d1 : (x4.alloc (.cells #[] 56)).cell? ⟨w.heap.size, 1, none⟩ = some (.slice (some ⟨b, o, none⟩) xs.length c) := (T_x4.out.step HB0.out).cell 1 rfl
    go_upto_region 3 with first
      | (at_builtin; refine wpList_appG (g := gF) (k := 11) (e := 56) (by decide) _ rfl _ _ 23 23 rfl (.agg #[.int .i64 0, .int .i64 0, .string ByteArray.empty, .string ByteArray.empty, .int .i64 0, .bool false, .int .i64 0, .int .i64 0, .string ByteArray.empty, .int .i64 0, .slice none 0 0]) 128 Tryz.underlying23 flInfo rfl (by decide) q _ [] ys rfl (OwnG.made x4 0 #[] q Z_x4.out (by decide) rfl) _ rfl (GL.src gF_len gF_one (HSY.out _ (HW.out.1.step (stepB B_x4.out HB0.out))) Tryz.underlying23 c) x4 ((Below.refl q x4).alloc Z_x4.out _) (by have := Z_x4.out; simp; omega) (by have := HLE.out; simp; omega) ?_; intro va wa hown1 hba hsa; have La_wa : Hid (OwnG 56 gF 11 wa q va ys) := Lib.hid (by simpa using hown1); have B_wa : Hid (Below w.heap.size w wa) := Lib.hid (B_x4.out.trans (hba.mono (by have := HQ.out; omega))); have T_wa := Lib.hid (BK.keep T_x4.out (by have := HQ.out; omega) hba); have R_wa := Lib.hid (BK.keep R_x4.out (by have := HQ.out; omega) hba); have Z_wa : Hid (q ≤ wa.heap.size) := Lib.hid hsa; have E_wa := Lib.hid (BK.keep G_x4.out HGQ.out hba); have I_wa : Hid (ILq q wa a3 Y) := Lib.hid (I_x4.out.below hba); clear hown1 hba hsa)
    clear d1 T_x4 R_x4 B_x4 Z_x4 HB0
    clear G_x4 I_x4
    obtain ⟨y1, hy1⟩ : ∃ y1, y1 = World.drew wa := ⟨_, rfl⟩
    have hbD : Below wa.heap.size wa y1 := by rw [hy1]; exact (Below.refl _ _).drew
    have T_y1 : Hid (BK 28 y1 w.heap.size (wcs L (some ⟨b, o, none⟩) c xs A2 c2 X l)) := Lib.hid (T_wa.out.step hbD)
    have R_y1 : Hid (BK 28 y1 (w.heap.size + 1) (wcs 0 none 0 [] none 0 [] 0)) := Lib.hid (R_wa.out.step hbD)
    have B_y1 : Hid (Below w.heap.size w y1) := Lib.hid (stepB B_wa.out hbD)
    have Z_y1 : Hid (q ≤ y1.heap.size) := Lib.hid (Nat.le_trans Z_wa.out hbD.size)
    have E_y1 : Hid (BK 26 y1 gp [.slice a3 Y.length c3, .int .i64 l]) := Lib.hid (E_wa.out.step hbD)
    have I_y1 : Hid (ILq q y1 a3 Y) := Lib.hid (I_wa.out.step hbD)
    have La_y1 : Hid (OwnG 56 gF 11 y1 q va ys) := Lib.hid (OwnG.step La_wa.out hbD)
    clear T_wa R_wa B_wa Z_wa E_wa I_wa La_wa
    have hbd : (fun w' => BK 28 w' w.heap.size (wcs L (some ⟨b, o, none⟩) c xs A2 c2 X l) ∧ Below w.heap.size w w' ∧ BK 26 w' gp [.slice a3 Y.length c3, .int .i64 l]) (World.drew wa) := by rw [← hy1]; exact ⟨T_y1.out, B_y1.out, E_y1.out⟩
    have hSD : (fun w' => BK 28 w' w.heap.size (wcs L (some ⟨b, o, none⟩) c xs A2 c2 X l) ∧ Below w.heap.size w w' ∧ BK 26 w' gp [.slice a3 Y.length c3, .int .i64 l]) y1 := ⟨T_y1.out, B_y1.out, E_y1.out⟩
    have HWD := Lib.hid hy1
    clear hy1 hbD
    refine wp_region_held_drew (S := fun w' => BK 28 w' w.heap.size (wcs L (some ⟨b, o, none⟩) c xs A2 c2 X l) ∧ Below w.heap.size w w' ∧ BK 26 w' gp [.slice a3 Y.length c3, .int .i64 l]) (by kernel_rfl) hbd (fun hHeld => ?_)
    rw [← HWD.out]
    clear hHeld
    have hHeld := hSD
    clear hSD hbd HWD
    refine wpAnyH_take (i := 0) (v := .pointer (some ⟨w.heap.size, 0, none⟩)) (get_ops _ _ _ rfl) (by kernel_rfl) (by kernel_rfl) (by kernel_rfl) (fun _ _ _ h => h) (Or.inl ⟨by rfl, fun wS hSw => by (try dsimp only at hSw); go_simp⟩) hHeld ?_
    try simp only [Act.put, List.setIfInBounds_toArray, List.set_cons_zero, List.set_cons_succ]
    refine wpAnyH_take (i := 1) (v := .int .i64 L) (get_ops _ _ _ rfl) (by kernel_rfl) (by kernel_rfl) (by kernel_rfl) (fun _ _ _ h => h) (Or.inl ⟨by rfl, fun wS hSw => by (try dsimp only at hSw); have cS : wS.cell? ⟨w.heap.size, 0, none⟩ = some (.int .i64 L) := hSw.1.cell 0 rfl; clear hSw; go_simp⟩) hHeld ?_
    try simp only [Act.put, List.setIfInBounds_toArray, List.set_cons_zero, List.set_cons_succ]
    refine wpAnyH_take (i := 2) (v := va) (get_ops _ _ _ rfl) (by kernel_rfl) (by kernel_rfl) (by kernel_rfl) (fun _ _ _ h => h) (Or.inl ⟨by rfl, fun wS hSw => by (try dsimp only at hSw); go_simp⟩) hHeld ?_
    try simp only [Act.put, List.setIfInBounds_toArray, List.set_cons_zero, List.set_cons_succ]
    refine wpAnyH_take (i := 3) (v := .pointer (some ⟨w.heap.size, 1, none⟩)) (get_ops _ _ _ rfl) (by kernel_rfl) (by kernel_rfl) (by kernel_rfl) (fun _ _ _ h => h) (Or.inl ⟨by rfl, fun wS hSw => by (try dsimp only at hSw); go_simp⟩) hHeld ?_
    try simp only [Act.put, List.setIfInBounds_toArray, List.set_cons_zero, List.set_cons_succ]
    refine wpAnyH_take (i := 4) (v := .slice (some ⟨b, o, none⟩) xs.length c) (get_ops _ _ _ rfl) (by kernel_rfl) (by kernel_rfl) (by kernel_rfl) (fun _ _ _ h => h) (Or.inl ⟨by rfl, fun wS hSw => by (try dsimp only at hSw); have cS : wS.cell? ⟨w.heap.size, 1, none⟩ = some (.slice (some ⟨b, o, none⟩) xs.length c) := hSw.1.cell 1 rfl; clear hSw; go_simp⟩) hHeld ?_
    try simp only [Act.put, List.setIfInBounds_toArray, List.set_cons_zero, List.set_cons_succ]
    refine wpAnyH_take (i := 5) (v := .int .i64 ys.length) (get_ops _ _ _ rfl) (by kernel_rfl) (by kernel_rfl) (by kernel_rfl) (fun _ _ _ h => h) (Or.inl ⟨by rfl, fun wS hSw => by (try dsimp only at hSw); go_simp⟩) hHeld ?_
    try simp only [Act.put, List.setIfInBounds_toArray, List.set_cons_zero, List.set_cons_succ]
    refine wpAnyH_take (i := 6) (v := .int .i64 ((ys.length : Int) + 1)) (get_ops _ _ _ rfl) (by kernel_rfl) (by kernel_rfl) (by kernel_rfl) (fun _ _ _ h => h) (Or.inl ⟨by rfl, fun wS hSw => by (try dsimp only at hSw); go_simp; rw [IntKind.wrap_i64]; omega⟩) hHeld ?_
    try simp only [Act.put, List.setIfInBounds_toArray, List.set_cons_zero, List.set_cons_succ]
    refine wpAnyH_take (i := 7) (v := (.slice AD ds.length cd)) (get_ops _ _ _ rfl) (by kernel_rfl) (by kernel_rfl) (by kernel_rfl) (fun _ _ _ h => h) (Or.inl ⟨by rfl, fun wS hSw => by (try dsimp only at hSw); rw [HDE.out]; go_simp⟩) hHeld ?_
    try simp only [Act.put, List.setIfInBounds_toArray, List.set_cons_zero, List.set_cons_succ]
    refine wpAnyH_take (i := 9) (v := S2.pv a3 c3 Y l) (get_ops _ _ _ rfl) (by kernel_rfl) (by kernel_rfl) (by kernel_rfl) (fun _ _ _ h => h) (Or.inl ⟨by rfl, fun wS hSw => by (try dsimp only at hSw); exact exec_load 26 _ rfl ⟨gp, 0, none⟩ (by go_simp) _ (S2.run_load_all hSw.2.2 Tryz.underlying26 rfl S2.infoP2)⟩) hHeld ?_
    try simp only [Act.put, List.setIfInBounds_toArray, List.set_cons_zero, List.set_cons_succ]
    refine wpAnyH_ready (rs := [8]) (by kernel_rfl) (by simp) ?_
    refine (AllReadyH.cons (get_ops _ _ _ rfl) (fun K hK => ?_) AllReadyH.nil)
    rw [if_pos (by rfl)]
    have hoy := La_y1.out
    refine oper_appG (g := gF) (k := 11) (e := 56) (by decide) (.tmp 28) (.tmp 33) 23 23 rfl (.agg #[.int .i64 0, .int .i64 0, .string ByteArray.empty, .string ByteArray.empty, .int .i64 0, .bool false, .int .i64 0, .int .i64 0, .string ByteArray.empty, .int .i64 0, .slice none 0 0]) 128 Tryz.underlying23 flInfo rfl (by decide) q va ys ds _ (by go_simp) hoy (by go_simp) (GL.src gF_len gF_one (HSD.out _ (HW.out.1.step B_y1.out)) Tryz.underlying23 cd) Z_y1.out (by have := HLE.out; simp; omega) ?_
    intro vb y2 hown hgr hoffs
    have T_y2 : Hid (BK 28 y2 w.heap.size (wcs L (some ⟨b, o, none⟩) c xs A2 c2 X l)) := Lib.hid (BK.grow T_y1.out hgr (OwnG.off hoy (by have := HQ.out; omega)))
    have R_y2 : Hid (BK 28 y2 (w.heap.size + 1) (wcs 0 none 0 [] none 0 [] 0)) := Lib.hid (BK.grow R_y1.out hgr (OwnG.off hoy (HQ.out)))
    have B_y2 : Hid (Below w.heap.size w y2) := Lib.hid (Below.grow B_y1.out hoy hgr B_y1.out.size (by have := HQ.out; omega))
    have Z_y2 : Hid (q ≤ y2.heap.size) := Lib.hid (Nat.le_trans Z_y1.out hgr.size)
    have E_y2 : Hid (BK 26 y2 gp [.slice a3 Y.length c3, .int .i64 l]) := Lib.hid (BK.grow E_y1.out hgr (OwnG.off hoy (HGQ.out)))
    have I_y2 : Hid (ILq q y2 a3 Y) := Lib.hid (I_y1.out.grow hoy hgr)
    have Lb_y2 : Hid (OwnG 56 gF 11 y2 q vb (ys ++ ds)) := Lib.hid hown
    clear hoy hown hgr hoffs hHeld T_y1 R_y1 B_y1 Z_y1 E_y1 I_y1 La_y1
    refine hK.out _ _ ⟨T_y2.out, B_y2.out, E_y2.out⟩ (fun hHeld => ?_)
    clear hK K
    try simp only [Act.put, List.setIfInBounds_toArray, List.set_cons_zero, List.set_cons_succ]
    obtain ⟨A9, c9, hv9, hc9, hnew9, hgl9⟩ := OwnG.retB gF_len Lb_y2.out
    subst hv9
    have HC9 := Lib.hid hc9
    have HN9 := Lib.hid hnew9
    clear hc9 hgl9 hnew9
    refine wpAnyH_take (i := 10) (v := wv L A9 c9 (ys ++ ds) a3 c3 Y l) (get_ops _ _ _ rfl) (by kernel_rfl) (by kernel_rfl) (by kernel_rfl) (fun _ _ _ h => h) (Or.inl ⟨by rfl, fun wS hSw => by (try dsimp only at hSw); go_simp⟩) hHeld ?_
    try simp only [Act.put, List.setIfInBounds_toArray, List.set_cons_zero, List.set_cons_succ]
    refine wpAnyH_ready (rs := [11]) (by kernel_rfl) (by simp) ?_
    refine (AllReadyH.cons (get_ops _ _ _ rfl) (fun K hK => ?_) AllReadyH.nil)
    refine S2.wp_store_all 28 _ _ rfl rfl ((w.heap.size + 1)) (by go_simp) (wcs L A9 c9 (ys ++ ds) a3 c3 Y l) (by first | rfl | go_simp) 28 (wcs 0 none 0 [] none 0 [] 0) R_y2.out winSize rfl (ones rfl) ?_
    intro y3 hM hP
    have R_y3 : Hid (BK 28 y3 ((w.heap.size + 1)) (wcs L A9 c9 (ys ++ ds) a3 c3 Y l)) := Lib.hid (hM)
    have T_y3 : Hid (BK 28 y3 w.heap.size (wcs L (some ⟨b, o, none⟩) c xs A2 c2 X l)) := Lib.hid (hP.other T_y2.out (by omega))
    have B_y3 : Hid (Below w.heap.size w y3) := Lib.hid (hP.below B_y2.out (by omega))
    have Z_y3 : Hid (q ≤ y3.heap.size) := Lib.hid ((by rw [hP.size]; exact Z_y2.out))
    have E_y3 : Hid (BK 26 y3 gp [.slice a3 Y.length c3, .int .i64 l]) := Lib.hid (hP.other E_y2.out (by have := HGP.out; omega))
    have I_y3 : Hid (ILq q y3 a3 Y) := Lib.hid (I_y2.out.put hP HOR.out)
    have Lb_y3 : Hid (OwnG 56 gF 11 y3 q (.slice A9 (ys ++ ds).length c9) (ys ++ ds)) := Lib.hid (OwnG.putB Lb_y2.out hP HQ.out)
    clear T_y2 R_y2 B_y2 Z_y2 E_y2 I_y2 Lb_y2
    clear hM hP hHeld
    refine hK.out _ _ ⟨T_y3.out, B_y3.out, E_y3.out⟩ (fun hHeld => ?_)
    clear hK K
    try simp only [Act.put, List.setIfInBounds_toArray, List.set_cons_zero, List.set_cons_succ]
    refine wpAnyH_done (by kernel_rfl) ?_ _
    obtain ⟨A8, c8, hv8, hc8, hgl8⟩ := OwnG.ret gF_len Lb_y3.out
    simp only [Value.slice.injEq] at hv8
    obtain ⟨rfl, _, rfl⟩ := hv8
    have HG8 := Lib.hid (And.intro hc8 hgl8)
    clear hc8 hgl8
    have hR9 := HRS.out
    subst hR9
    go_wp2_with fail
    refine bodyPost_ret (v := wv L A9 c9 (ys ++ ds) a3 c3 Y l) (S2.res_cell rfl _ _ (w.heap.size + 1) 28 (wcs L A9 c9 (ys ++ ds) a3 c3 Y l) _ rfl R_y3.out Tryz.underlying28 rfl winSize) rfl ⟨A9, c9, (ys ++ ds), a3, c3, rfl, by simp [HMY.out.1, HMY.out.2], ⟨⟨HG8.out.2, fun y hy => ?_⟩, HG8.out.1, CL.more I_y3.out.2 I_y3.out.1, HC3.out⟩, B_y3.out, fun g hg ho => ⟨fun _ b o e => by have := HN9.out b o e; have := HQ.out; omega, fun y hy => ?_, HFX.out g hg ho.2.2⟩⟩
    · rcases List.mem_append.1 hy with hy | hy
      · exact (HW.out.1.2 y (HPY.out y (.inl hy))).step B_y3.out
      · exact (HW.out.1.2 y (HPY.out y (.inr hy))).step B_y3.out
    · rcases List.mem_append.1 hy with hy | hy
      · exact ho.2.1 y (HPY.out y (.inl hy))
      · exact ho.2.1 y (HPY.out y (.inr hy))
end Go.Proofs.YtmcocepjdhpecabGreatDoor
namespace Go.Proofs.YtmcocepjdhpecabGreatDoor

def ItOk (x : Fl) : Prop := checkR x.m = 0 ∧ x.m.level ≠ 0 ∧ (x.st = 1 ∨ (x.st = 2 ∧ x.m.level = 2))
/-- a valid window -/
structure VW (W : PW) : Prop where
  lim : 0 ≤ W.1 ∧ W.1 ≤ 32
  len : W.2.1.length ≤ 32
  ck : S2.ckI W.2.2.1 W.2.2.2 = 0
  nd : (W.2.1.map Fl.id).Nodup
  ids : ∀ x ∈ W.2.1, x.id ∈ W.2.2.1
  its : ∀ x ∈ W.2.1, ItOk x
  few : W.2.2.1.length ≤ W.2.1.length

theorem posF_first {F : List Fl} {n : Int} {i : Nat} {x : Fl} (h : F[i]? = some x) (hn : x.id = n) : posF F n ≤ i := by
  rcases Nat.lt_or_ge i (posF F n) with hl | hl
  · obtain ⟨hi, e⟩ := List.getElem?_eq_some_iff.1 h
    have := List.not_of_lt_findIdx hl
    rw [e] at this
    simp [hn] at this
  · exact hl
theorem posF_is {F : List Fl} {n : Int} (h : posF F n < F.length) : ∃ x, F[posF F n]? = some x ∧ x.id = n := by
  refine ⟨F[posF F n], List.getElem?_eq_getElem h, ?_⟩
  have h' : F.findIdx (fun x : Fl => decide (x.id = n)) < F.length := h
  have := List.findIdx_getElem (xs := F) (p := fun x : Fl => decide (x.id = n)) (w := h')
  exact of_decide_eq_true this
theorem nd_inj {F : List Fl} (h : (F.map Fl.id).Nodup) {i j : Nat} {x y : Fl} (hi : F[i]? = some x) (hj : F[j]? = some y) (e : x.id = y.id) : i = j := by
  have h1 : (F.map Fl.id)[i]? = some x.id := by rw [List.getElem?_map, hi]; rfl
  have h2 : (F.map Fl.id)[j]? = some x.id := by rw [List.getElem?_map, hj, e]; rfl
  have hli : i < (F.map Fl.id).length := (List.getElem?_eq_some_iff.1 h1).1
  exact (List.getElem?_inj hli h).1 (by rw [h1, h2])
theorem posF_nd {F : List Fl} (h : (F.map Fl.id).Nodup) {i : Nat} {x : Fl} (hi : F[i]? = some x) : posF F x.id = i := by
  obtain ⟨y, hy, e⟩ := posF_is (posF_lt hi)
  exact nd_inj h hy hi e
theorem item_ok {F : List Fl} {X : List Int} {i : Nat} {x : Fl} : itemR F X i x = 0 ↔ x.id ∈ X ∧ ¬ posF F x.id < i ∧ ItOk x := by
  constructor
  · intro h
    have hc := item_cases h
    by_cases h1 : x.id ∈ X
    rotate_left
    · have := hc.1 h1; omega
    have h2 := hc.2 h1
    by_cases h3 : posF F x.id < i
    · have := h2.1 h3; omega
    have h4 := h2.2 h3
    by_cases h5 : checkR x.m = 0
    rotate_left
    · have := h4.1 h5; omega
    have h6 := h4.2 h5
    by_cases h7 : x.m.level = 0
    · have := h6.1 h7; omega
    have h8 := h6.2 h7
    by_cases h9 : x.st = 1 ∨ (x.st = 2 ∧ x.m.level = 2)
    rotate_left
    · have := h8.2 h9; omega
    exact ⟨h1, h3, h5, h7, h9⟩
  · rintro ⟨h1, h2, h3, h4, h5⟩
    exact ((((item_cases (rfl : itemR F X i x = _)).2 h1).2 h2).2 h3).2 h4 |>.1 h5 |>.symm
theorem items_ok {F : List Fl} {X : List Int} : ∀ (r : List Fl) (i : Nat), itemsR F X i r = 0 ↔ ∀ j x, r[j]? = some x → itemR F X (i + j) x = 0
  | [], _ => by
    refine ⟨fun _ j x h => by simp at h, fun _ => rfl⟩
  | y :: r, i => by
    have he : itemsR F X i (y :: r) = if itemR F X i y ≠ 0 then itemR F X i y else itemsR F X (i + 1) r := rfl
    rw [he]
    by_cases h0 : itemR F X i y = 0
    · rw [if_neg (by simpa using h0), items_ok r (i + 1)]
      constructor
      · intro h j x hx
        cases j with
        | zero => simp at hx; subst hx; simpa using h0
        | succ j => simp at hx; have := h j x hx; rwa [Nat.add_assoc, Nat.add_comm 1 j] at this
      · intro h j x hx
        have := h (j + 1) x (by simpa using hx)
        rwa [Nat.add_assoc, Nat.add_comm 1 j]
    · rw [if_pos h0]
      refine ⟨fun h => absurd h h0, fun h => h 0 y rfl⟩
theorem win_iff {W : PW} : winR W = 0 ↔ VW W := by
  obtain ⟨L, F, X, l⟩ := W
  constructor
  · intro h
    have hc := win_cases h
    by_cases h1 : L < 0 ∨ 32 < L
    · have := hc.1 h1; omega
    have h2 := hc.2 h1
    by_cases h3 : S2.ckI X l = 0
    rotate_left
    · have := h2.1 h3; omega
    have h4 := h2.2 h3
    by_cases h5 : 32 < F.length
    · have := h4.1 h5; omega
    have h6 := h4.2 h5
    by_cases h7 : itemsR F X 0 F = 0
    rotate_left
    · have := h6.1 h7; omega
    have h8 := h6.2 h7
    by_cases h9 : F.length < X.length
    · have := h8.1 h9; omega
    have hit : ∀ j x, F[j]? = some x → x.id ∈ X ∧ ¬ posF F x.id < j ∧ ItOk x := fun j x hx => by
      have := (items_ok F 0).1 h7 j x hx
      rw [Nat.zero_add] at this
      exact item_ok.1 this
    refine ⟨by show 0 ≤ L ∧ L ≤ 32; omega, by show F.length ≤ 32; omega, h3, ?_, fun x hx => ?_, fun x hx => ?_, by show X.length ≤ F.length; omega⟩
    · refine List.pairwise_iff_getElem.2 (fun i j hi hj hij e => ?_)
      dsimp only at hi hj e
      rw [List.length_map] at hj hi
      rw [List.getElem_map, List.getElem_map] at e
      have h10 := (hit j _ (List.getElem?_eq_getElem hj)).2.1
      have h11 := posF_first (F := F) (n := F[j].id) (i := i) (List.getElem?_eq_getElem (by omega)) e
      omega
    · obtain ⟨j, hj⟩ := List.mem_iff_getElem?.1 hx
      exact (hit j x hj).1
    · obtain ⟨j, hj⟩ := List.mem_iff_getElem?.1 hx
      exact (hit j x hj).2.2
  · intro h
    have hi : itemsR F X 0 F = 0 := (items_ok F 0).2 (fun j x hx => item_ok.2 ⟨h.ids x (List.mem_of_getElem? hx), by rw [posF_nd h.nd hx]; omega, h.its x (List.mem_of_getElem? hx)⟩)
    have hl := h.lim
    have hn := h.len
    have hf := h.few
    dsimp only at hl hn hf
    exact ((((win_cases (rfl : winR (L, F, X, l) = _)).2 (by omega)).2 h.ck).2 (by omega)).2 hi |>.2 (by omega) |>.symm

theorem vw_start {L : Int} {F : List Fl} {X : List Int} {l : Int} {m : Msg} (h : VW (L, F, X, l)) (h1 : m.level ≠ 0) (h2 : leftR L F.length ≠ 0) (h3 : checkR m = 0) : VW (L, F ++ [⟨S2.tkI X l, 1, m⟩], S2.insI X (S2.tkI X l), S2.tkI X l) := by
  have hl := h.lim
  have hn := h.len
  have hf := h.few
  dsimp only at hl hn hf
  have hlt : (F.length : Int) < L := by
    unfold leftR at h2
    split at h2
    · exact absurd rfl h2
    · omega
  obtain ⟨c1, c2, c3, c4⟩ := S2.ck_ok.1 h.ck
  dsimp only at c1 c2 c3 c4
  have hnew : S2.tkI X l ∉ X := S2.tk_new (by omega) c3 c4
  have hr := S2.tk_range (X := X) c3 c4
  refine ⟨hl, by show (F ++ [_]).length ≤ 32; simp; omega, ?_, ?_, fun x hx => ?_, fun x hx => ?_, ?_⟩
  · exact S2.ck_ok.2 ⟨by rw [S2.ins_len]; omega, S2.ins_up c2 (by omega) hr.2 hnew, by show 0 ≤ S2.tkI X l; omega, hr.2⟩
  · show ((F ++ [_]).map Fl.id).Nodup
    rw [List.map_append, List.nodup_append]
    refine ⟨h.nd, by simp, fun a ha b hb => ?_⟩
    simp at hb
    subst hb
    intro e
    subst e
    obtain ⟨x, hx, e⟩ := List.mem_map.1 ha
    exact hnew (by rw [← e]; exact h.ids x hx)
  · show x.id ∈ S2.insI X _
    rw [S2.ins_mem]
    rcases List.mem_append.1 hx with hx | hx
    · exact Or.inr (h.ids x hx)
    · simp at hx; subst hx; exact Or.inl rfl
  · rcases List.mem_append.1 hx with hx | hx
    · exact h.its x hx
    · simp at hx; subst hx; exact ⟨h3, h1, Or.inl rfl⟩
  · show (S2.insI X _).length ≤ (F ++ [_]).length
    rw [S2.ins_len]; simp; omega
theorem vw_rel {W : PW} {i : Nat} (h : VW W) (ha : ∀ x, W.2.1[i]? = some x → x.m.level = 2) : VW (relR W i) := by
  obtain ⟨L, F, X, l⟩ := W
  unfold relR
  dsimp only at ha ⊢
  cases hx : F[i]? with
  | none => rw [setRel_none hx]; exact h
  | some x =>
    rw [setRel_at hx]
    obtain ⟨hi, e⟩ := List.getElem?_eq_some_iff.1 hx
    have hm : (F.set i { x with st := 2 }).map Fl.id = F.map Fl.id := by
      rw [List.map_set]
      show (F.map Fl.id).set i x.id = _
      have : (F.map Fl.id)[i]'(by rw [List.length_map]; exact hi) = x.id := by rw [List.getElem_map, e]
      rw [← this, List.set_getElem_self]
    have hmem : ∀ y ∈ F.set i { x with st := 2 }, y ∈ F ∨ y = { x with st := 2 } := fun y hy => (List.mem_or_eq_of_mem_set hy)
    refine ⟨h.lim, by show (F.set _ _).length ≤ 32; rw [List.length_set]; exact h.len, h.ck, by show ((F.set _ _).map _).Nodup; rw [hm]; exact h.nd, fun y hy => ?_, fun y hy => ?_, by show X.length ≤ (F.set _ _).length; rw [List.length_set]; exact h.few⟩
    · rcases hmem y hy with hy | rfl
      · exact h.ids y hy
      · exact h.ids x (List.mem_of_getElem? hx)
    · rcases hmem y hy with hy | rfl
      · exact h.its y hy
      · have := h.its x (List.mem_of_getElem? hx)
        exact ⟨this.1, this.2.1, Or.inr ⟨rfl, ha x hx⟩⟩
theorem vw_rem {W : PW} {i : Nat} (h : VW W) : VW (remR W i) := by
  obtain ⟨L, F, X, l⟩ := W
  unfold remR
  dsimp only
  cases hx : F[i]? with
  | none => exact h
  | some x =>
    obtain ⟨hi, e⟩ := List.getElem?_eq_some_iff.1 hx
    obtain ⟨c1, c2, c3, c4⟩ := S2.ck_ok.1 h.ck
    dsimp only at c1 c2 c3 c4
    have hxX := h.ids x (List.mem_of_getElem? hx)
    have hdl := (S2.del_lt X x.id).2 hxX
    have hlen : (F.eraseIdx i).length = F.length - 1 := List.length_eraseIdx_of_lt hi
    have hf := h.few
    have hn := h.len
    dsimp only at hf hn
    have hsub := List.eraseIdx_sublist (l := F) i
    have hne : ∀ y ∈ F.eraseIdx i, y.id ≠ x.id := fun y hy e2 => by
      obtain ⟨j, hj⟩ := List.mem_iff_getElem?.1 hy
      rw [List.getElem?_eraseIdx] at hj
      split at hj
      · have := nd_inj h.nd hj hx e2; omega
      · have := nd_inj h.nd hj hx e2; omega
    refine ⟨h.lim, by show (F.eraseIdx i).length ≤ 32; omega, ?_, ?_, fun y hy => ?_, fun y hy => h.its y (hsub.subset hy), by show (S2.delI X x.id).length ≤ (F.eraseIdx i).length; omega⟩
    · exact S2.ck_ok.2 ⟨by have := S2.del_len X x.id; show (S2.delI X x.id).length ≤ 32; omega, S2.del_up c2, c3, c4⟩
    · exact (hsub.map Fl.id).nodup h.nd
    · exact (S2.del_mem X x.id y.id).2 ⟨h.ids y (hsub.subset hy), hne y hy⟩
theorem vw_handle {W : PW} {k n : Int} (h : VW W) (h0 : (handleR W k n).2.2 = 0) : VW (handleR W k n).1 := by
  unfold handleR at h0 ⊢
  by_cases h1 : k ≠ 4 ∧ k ≠ 5 ∧ k ≠ 7
  · rw [if_pos h1] at h0; simp at h0
  rw [if_neg h1] at h0 ⊢
  by_cases h2 : mayR W.2.1 (posF W.2.1 n) k = false
  · rw [if_pos h2] at h0; simp at h0
  rw [if_neg h2] at h0 ⊢
  by_cases h3 : k = 5
  · rw [if_pos h3]
    refine vw_rel h (fun x hx => ?_)
    rw [mayR_at hx, h3] at h2
    unfold awaitsR at h2
    simpa using h2
  · rw [if_neg h3]
    exact vw_rem h
end Go.Proofs.YtmcocepjdhpecabGreatDoor
namespace Go.Proofs.YtmcocepjdhpecabGreatDoor
open Go.RowKit
open S2 (BK Put)

/-- a window, packets and a code that a call answers -/
def RetHr (r : PW × List Pkt × Int) (W : World) (e : Ending) (w' : World) : Prop := ∃ A c ys A2 c2 A3 c3 ks, e = .returned (.tuple #[wv r.1.1 A c ys A2 c2 r.1.2.2.1 r.1.2.2.2, .slice A3 ks.length c3, .int .i64 r.2.2]) ∧ ys.map FE.f = r.1.2.1 ∧ WOk w' A c ys A2 c2 r.1.2.2.1 ∧ ks.map Prod.fst = r.2.1 ∧ KS w' w'.heap.size A3 ks ∧ Below W.heap.size W w'
/-- the same; the window's lists lie off where those that were given lie off -/
def RetHo (A0 : Option Addr) (xs0 : List FE) (A20 : Option Addr) (X0 : List Int) (r : PW × List Pkt × Int) (W : World) (e : Ending) (w' : World) : Prop := ∃ A c ys A2 c2 A3 c3 ks, e = .returned (.tuple #[wv r.1.1 A c ys A2 c2 r.1.2.2.1 r.1.2.2.2, .slice A3 ks.length c3, .int .i64 r.2.2]) ∧ ys.map FE.f = r.1.2.1 ∧ WOk w' A c ys A2 c2 r.1.2.2.1 ∧ ks.map Prod.fst = r.2.1 ∧ KS w' w'.heap.size A3 ks ∧ Below W.heap.size W w' ∧ ∀ g, g < W.heap.size → OffW g A0 xs0 A20 X0 → OffW g A ys A2 r.1.2.2.1
theorem hr_hit {W : PW} {k n : Int} {i : Nat} {x : Fl} (hk : k = 4 ∨ k = 5 ∨ k = 7) (hi : posF W.2.1 n = i) (hx : W.2.1[i]? = some x) : handleR W k n = if awaitsR x k = false then ((0, [], [], 0), [], 23) else if k = 5 then (relR W i, [relP n], 0) else (remR W i, [], 0) := by
  unfold handleR
  rw [if_neg (by omega), hi, mayR_at hx]
theorem hr_miss {W : PW} {k n : Int} (hk : k = 4 ∨ k = 5 ∨ k = 7) (h : ¬ posF W.2.1 n < W.2.1.length) : handleR W k n = (W, if k = 5 then [relP n] else [], 0) := by
  have hx : W.2.1[posF W.2.1 n]? = none := List.getElem?_eq_none (by omega)
  unfold handleR
  rw [if_neg (by omega), mayR_none hx, if_neg (by simp)]
  have h1 : relR W (posF W.2.1 n) = W := by unfold relR setRel; rw [hx]
  have h2 : remR W (posF W.2.1 n) = W := by unfold remR; rw [hx]
  rw [h1, h2]
  by_cases h5 : k = 5
  · rw [if_pos h5, if_pos h5]
  · rw [if_neg h5, if_neg h5]
theorem level_two {x : Fl} (h : ItOk x) : x.m.level = 1 ∨ x.m.level = 2 := by
  have := checkR_level h.1
  have := h.2.1
  omega

set_option maxRecDepth 20000 in
set_option maxHeartbeats 8000000 in
theorem rHandleo_any (L : Int) (A : Option Addr) (c : Nat) (xs : List FE) (A2 : Option Addr) (c2 : Nat) (X : List Int) (l : Int) (p : Pkt) (a : PA) (w : World) (hw : WOk w A c xs A2 c2 X) (hn : xs.length ≤ 1000) (hX : X.length ≤ 1000) (hit : ∀ x ∈ xs, ItOk x.f) :
    Calls Tryz.prog 12 #[wv L A c xs A2 c2 X l, pkV p a] w (RetHo A xs A2 X (handleR (L, xs.map FE.f, X, l) p.kind p.id) w) := by
  obtain ⟨R, hR⟩ : ∃ R, handleR (L, xs.map FE.f, X, l) p.kind p.id = R := ⟨_, rfl⟩
  rw [hR]
  have HRE := Lib.hid hR
  obtain ⟨t, ht⟩ : ∃ t, t = atR (xs.map FE.f) p.id := ⟨_, rfl⟩
  have HAT : Hid (∀ w1, FI w1 w1.heap.size A xs → Calls Tryz.prog 37 #[.slice A xs.length c, .int .i64 p.id] w1 fun e w' => e = .returned (.int .i64 t) ∧ Below w1.heap.size w1 w') := Lib.hid (fun w1 h => by rw [ht]; exact rat_any A c xs p.id w1 h (by omega))
  have HPR := Lib.hid (fun (n : Int) w1 => rpubrel_any n w1)
  have HTT := Lib.hid ht
  have HW := Lib.hid hw
  have HIT := Lib.hid hit
  have HN := Lib.hid (And.intro hn hX)
  clear hR ht hw hit hn hX
  unfold pkV
  go_enter Tryz.func12, Tryz.ntmps12
  go_upto_region 1 with fail
  refine name_world (C := fun w1 => Code.wp _ _ _ _ w1) (((w.alloc (.cells (wcs L A c xs A2 c2 X l).toArray 28)).alloc (.cells (pkC p a).toArray 42)).alloc (.cells (wcs 0 none 0 [] none 0 [] 0).toArray 28)) ?_
  intro w1 hw1
  obtain ⟨hB0, t1, t2, t3⟩ := three hw1
  have T_w1 : Hid (BK 28 w1 w.heap.size (wcs L A c xs A2 c2 X l)) := Lib.hid t1
  have K_w1 : Hid (BK 42 w1 (w.heap.size + 1) (pkC p a)) := Lib.hid t2
  have R_w1 : Hid (BK 28 w1 (w.heap.size + 1 + 1) (wcs 0 none 0 [] none 0 [] 0)) := Lib.hid t3
  have B_w1 := Lib.hid hB0
  clear hw1 t1 t2 t3 hB0
  by_cases hk : p.kind ≠ 4 ∧ p.kind ≠ 5 ∧ p.kind ≠ 7
  · have d0 := K_w1.out.cell 0 (pk0 p a)
    have q1 : (p.kind != 4) = true := by simp [hk.1]
    have q2 : (p.kind != 5) = true := by simp [hk.2.1]
    have q3 : (p.kind != 7) = true := by simp [hk.2.2]
    have HRR : Hid (((0, [], [], 0), [], 10) = R) := Lib.hid (by rw [← HRE.out]; unfold handleR; rw [if_pos hk])
    clear hk
    go_wp2_with first
      | (refine S2.wpList_store_all (by rfl) 28 (.tmp 4) (.tmp 22) rfl rfl (w.heap.size + 1 + 1) rfl (wcs 0 none 0 [] none 0 [] 0) rfl 28 (wcs 0 none 0 [] none 0 [] 0) R_w1.out winSize rfl (ones rfl) ?_; intro wf hM hP; have MF := Lib.hid hM; have PF := Lib.hid hP; clear hM hP)
    rw [← HRR.out]
    exact bodyPost_ret (v := .tuple #[wv 0 none 0 [] none 0 [] 0, .slice none 0 0, .int .i64 10]) (res3 rfl _ _ (w.heap.size + 1 + 1) 28 (wcs 0 none 0 [] none 0 [] 0) _ _ _ rfl rfl rfl MF.out Tryz.underlying28 rfl winSize) rfl ⟨none, 0, [], none, 0, none, 0, [], rfl, rfl, ⟨FI.nil _ _ _, Nat.le_refl _, CL.nil _ _ _, Nat.le_refl _⟩, rfl, KS.nil _ _ _, PF.out.below B_w1.out (by omega), fun g _ _ => OffW.nil g⟩
  · have HK3 : Hid (p.kind = 4 ∨ p.kind = 5 ∨ p.kind = 7) := Lib.hid (by omega)
    rcases HK3.out with h | h | h
    · have HK := Lib.hid h
      have d0 := K_w1.out.cell 0 (pk0 p a)
      rw [h] at d0
      have d1 := K_w1.out.cell 1 (pk1 p a)
      have d2 := T_w1.out.cell 1 rfl
      clear hk h
      go_wp2_with fail
      refine (HAT.out w1 (HW.out.1.step B_w1.out)).mono ?_
      rintro e w2 ⟨rfl, hb⟩
      clear d0 d1 d2
      have T_w2 := Lib.hid (T_w1.out.step hb)
      have K_w2 := Lib.hid (K_w1.out.step hb)
      have R_w2 := Lib.hid (R_w1.out.step hb)
      have B_w2 := Lib.hid (stepB B_w1.out hb)
      have d0 := K_w2.out.cell 0 (pk0 p a)
      rw [HK.out] at d0
      clear hb T_w1 K_w1 R_w1 B_w1 HAT
      by_cases hil : posF (xs.map FE.f) p.id < xs.length
      · obtain ⟨i, hi⟩ : ∃ i, posF (xs.map FE.f) p.id = i := ⟨_, rfl⟩
        rw [hi] at hil
        obtain ⟨x, hx⟩ : ∃ x, xs[i]? = some x := ⟨_, List.getElem?_eq_getElem hil⟩
        have hxf : (xs.map FE.f)[i]? = some x.f := by rw [List.getElem?_map, hx]; rfl
        have hti : t = (i : Int) := by rw [HTT.out, atR_pos (by rw [List.length_map, hi]; exact hil), hi]
        have HXI : Hid (x.f.id = p.id) := Lib.hid (by
          obtain ⟨x', h1, h2⟩ := posF_is (F := xs.map FE.f) (n := p.id) (by rw [List.length_map, hi]; exact hil)
          rw [hi, hxf] at h1
          cases h1
          exact h2)
        have HRR : Hid ((if awaitsR x.f p.kind = false then ((0, [], [], 0), [], 23) else if p.kind = 5 then (relR (L, xs.map FE.f, X, l) i, [relP p.id], 0) else (remR (L, xs.map FE.f, X, l) i, [], 0)) = R) := Lib.hid (by rw [← HRE.out]; exact (hr_hit HK3.out hi hxf).symm)
        have HIO := Lib.hid (HIT.out x (List.mem_of_getElem? hx))
        have HX := Lib.hid hx
        have HIL := Lib.hid hil
        obtain ⟨b, o, hA, hbB, hcl, hpl9⟩ := HW.out.1.at_ hx
        have HLD : Hid (∀ w9, Below w.heap.size w w9 → (loadVar 56 ⟨b, o + i * 11, none⟩).run Tryz.prog w9 = .ok (.agg (gF x).toArray) w9) := Lib.hid (fun w9 hb9 => load_item (fun j v hv => (hb9.cell (p := ⟨b, o + i * 11 + j, none⟩) hbB).trans (hcl j v hv)))
        subst hA hti
        have j1 : (0 : Int) ≤ (i : Int) := by omega
        have j2 : (i : Int) < (xs.length : Int) := by omega
        have j3 : ¬ ((i : Int) < 0) := by omega
        have e3 : decide ((i : Int) < 0) = false := decide_eq_false j3
        have d2 := T_w2.out.cell 1 rfl
        clear hi hx hxf hcl hpl9 hbB HTT HRE HIT hil j3
        go_upto_region 9 with first
          | (refine wpList_load_v (by rfl) 56 _ rfl ⟨b, o + i * 11, none⟩ (by simp [Act.eval, Act.put]) _ (HLD.out _ B_w2.out) ?_)
          | (refine S2.wpList_store_all (by rfl) 56 (.tmp 8) (.tmp 43) rfl rfl w2.heap.size rfl (gF x) rfl 56 _ (BK.new w2 _ _) flSize rfl (gF_one x) ?_; intro w3 hM hP; have M_w3 := Lib.hid hM; have hb : Below w2.heap.size w2 w3 := hP.below (S2.below_new w2 _) (Nat.le_refl _); have HSZ : Hid (w2.heap.size < w3.heap.size) := Lib.hid hM.lt; have HB := Lib.hid hb; clear hM hP hb)
        clear e3 d0 d2
        obtain ⟨gx, hgx⟩ : ∃ gx, gx = w2.heap.size := ⟨_, rfl⟩
        have HGX : Hid (w.heap.size + 1 + 1 < gx) := Lib.hid (by rw [hgx]; exact R_w2.out.lt)
        have T_w3 := Lib.hid (T_w2.out.step HB.out)
        have K_w3 := Lib.hid (K_w2.out.step HB.out)
        have R_w3 := Lib.hid (R_w2.out.step HB.out)
        have B_w3 := Lib.hid (stepB B_w2.out HB.out)
        clear T_w2 K_w2 R_w2 B_w2 HB HSZ HLD
        rw [← hgx] at M_w3 ⊢
        clear hgx
        have d0 := K_w3.out.cell 0 (pk0 p a)
        rw [HK.out] at d0
        rcases level_two HIO.out with h | h
        · have HH := Lib.hid h
          have d4 : w3.cell? ⟨gx, 4, none⟩ = some (.int .i64 x.f.m.level) := M_w3.out.cell 4 rfl
          rw [h] at d4
          have HRR : Hid ((remR (L, xs.map FE.f, X, l) i, [], 0) = R) := Lib.hid (by rw [← HRR.out, if_neg (by simp [awaitsR, HK.out, h]), if_neg (by rw [HK.out]; decide)])
          have HRM := Lib.hid (fun w1 h => rwithout_any L (some ⟨b, o, none⟩) c xs A2 c2 X l i x w1 h HX.out HN.out.1 HN.out.2)
          obtain ⟨RW, hRW⟩ : ∃ RW, remR (L, xs.map FE.f, X, l) i = RW := ⟨_, rfl⟩
          rw [hRW] at HRM HRR
          clear h hRW
          obtain ⟨r1, rF, r3, r4⟩ := RW
          go_wp2_with first
            | (refine wpList_load_v (by rfl) 28 (.tmp 2) rfl ⟨w.heap.size, 0, none⟩ rfl (wv L (some ⟨b, o, none⟩) c xs A2 c2 X l) (S2.run_load_all T_w3.out Tryz.underlying28 rfl winSize) ?_)
          refine (HRM.out w3 (HW.out.step B_w3.out)).mono ?_
          rintro e w4 ⟨A5, c5, ys, A6, c6, rfl, hys5, hok5, hb, hof5⟩
          have R_w4 := Lib.hid (R_w3.out.step hb)
          have B_w4 := Lib.hid (stepB B_w3.out hb)
          have HOF : Hid (OffW (w.heap.size + 1 + 1) A5 ys A6 r3) := Lib.hid (hof5 _ R_w3.out.lt (HW.out.offW (by omega)))
          have HOG : Hid (∀ g, g < w.heap.size → OffW g (some ⟨b, o, none⟩) xs A2 X → OffW g A5 ys A6 r3) := Lib.hid (fun g hg ho => hof5 g (Nat.lt_of_lt_of_le hg B_w3.out.size) ho)
          have HY5 := Lib.hid hys5
          have HO5 := Lib.hid hok5
          clear hb hys5 hok5 hof5 T_w3 K_w3 R_w3 B_w3 M_w3
          try clear d0
          try clear d4
          try clear d5
          go_wp2_with first
            | (refine S2.wpList_store_all (by rfl) 28 (.tmp 4) (.tmp 75) rfl rfl (w.heap.size + 1 + 1) rfl (wcs r1 A5 c5 ys A6 c6 r3 r4) rfl 28 (wcs 0 none 0 [] none 0 [] 0) R_w4.out winSize rfl (ones rfl) ?_; intro wf hM hP; have MF := Lib.hid hM; have PF := Lib.hid hP; clear hM hP)
          rw [← HRR.out]
          exact bodyPost_ret (v := .tuple #[wv r1 A5 c5 ys A6 c6 r3 r4, .slice none 0 0, .int .i64 0]) (res3 rfl _ _ (w.heap.size + 1 + 1) 28 (wcs r1 A5 c5 ys A6 c6 r3 r4) _ _ _ rfl rfl rfl MF.out Tryz.underlying28 rfl winSize) rfl ⟨A5, c5, ys, A6, c6, none, 0, [], rfl, HY5.out, wok_putW HO5.out PF.out HOF.out, rfl, KS.nil _ _ _, PF.out.below B_w4.out (by omega), HOG.out⟩
        · have HH := Lib.hid h
          have d4 : w3.cell? ⟨gx, 4, none⟩ = some (.int .i64 x.f.m.level) := M_w3.out.cell 4 rfl
          rw [h] at d4
          have HRR : Hid (((0, [], [], 0), [], 23) = R) := Lib.hid (by rw [← HRR.out, if_pos (by simp [awaitsR, HK.out, h])])
          clear h
          go_upto_region 10 with fail
          clear d0 d4 j1 j2
          go_wp2_with first
            | (refine S2.wpList_store_all (by rfl) 28 (.tmp 4) (.tmp 62) rfl rfl (w.heap.size + 1 + 1) rfl (wcs 0 none 0 [] none 0 [] 0) rfl 28 (wcs 0 none 0 [] none 0 [] 0) R_w3.out winSize rfl (ones rfl) ?_; intro wf hM hP; have MF := Lib.hid hM; have PF := Lib.hid hP; clear hM hP)
          rw [← HRR.out]
          exact bodyPost_ret (v := .tuple #[wv 0 none 0 [] none 0 [] 0, .slice none 0 0, .int .i64 23]) (res3 rfl _ _ (w.heap.size + 1 + 1) 28 (wcs 0 none 0 [] none 0 [] 0) _ _ _ rfl rfl rfl MF.out Tryz.underlying28 rfl winSize) rfl ⟨none, 0, [], none, 0, none, 0, [], rfl, rfl, ⟨FI.nil _ _ _, Nat.le_refl _, CL.nil _ _ _, Nat.le_refl _⟩, rfl, KS.nil _ _ _, PF.out.below B_w3.out (by omega), fun g _ _ => OffW.nil g⟩
      · have hti : t = -1 := by rw [HTT.out, atR_neg (by rw [List.length_map]; exact hil)]
        have HRR : Hid (((L, xs.map FE.f, X, l), [], 0) = R) := Lib.hid (by rw [← HRE.out, hr_miss HK3.out (by rw [List.length_map]; exact hil), if_neg (by rw [HK.out]; decide)])
        subst hti
        clear hil HTT HRE HIT
        go_wp2_with first
          | (refine wpList_load_v (by rfl) 28 (.tmp 2) rfl ⟨w.heap.size, 0, none⟩ rfl (wv L A c xs A2 c2 X l) (S2.run_load_all T_w2.out Tryz.underlying28 rfl winSize) ?_)
          | (refine S2.wpList_store_all (by rfl) 28 (.tmp 4) (.tmp 38) rfl rfl (w.heap.size + 1 + 1) rfl (wcs L A c xs A2 c2 X l) rfl 28 (wcs 0 none 0 [] none 0 [] 0) R_w2.out winSize rfl (ones rfl) ?_; intro wf hM hP; have MF := Lib.hid hM; have PF := Lib.hid hP; clear hM hP)
        rw [← HRR.out]
        exact bodyPost_ret (v := .tuple #[wv L A c xs A2 c2 X l, .slice none 0 0, .int .i64 0]) (res3 rfl _ _ (w.heap.size + 1 + 1) 28 (wcs L A c xs A2 c2 X l) _ _ _ rfl rfl rfl MF.out Tryz.underlying28 rfl winSize) rfl ⟨A, c, xs, A2, c2, none, 0, [], rfl, rfl, HW.out.step (PF.out.below B_w2.out (by omega)), rfl, KS.nil _ _ _, PF.out.below B_w2.out (by omega), fun g _ ho => ho⟩
    · have HK := Lib.hid h
      have d0 := K_w1.out.cell 0 (pk0 p a)
      rw [h] at d0
      have d1 := K_w1.out.cell 1 (pk1 p a)
      have d2 := T_w1.out.cell 1 rfl
      clear hk h
      go_wp2_with fail
      refine (HAT.out w1 (HW.out.1.step B_w1.out)).mono ?_
      rintro e w2 ⟨rfl, hb⟩
      clear d0 d1 d2
      have T_w2 := Lib.hid (T_w1.out.step hb)
      have K_w2 := Lib.hid (K_w1.out.step hb)
      have R_w2 := Lib.hid (R_w1.out.step hb)
      have B_w2 := Lib.hid (stepB B_w1.out hb)
      have d0 := K_w2.out.cell 0 (pk0 p a)
      rw [HK.out] at d0
      clear hb T_w1 K_w1 R_w1 B_w1 HAT
      by_cases hil : posF (xs.map FE.f) p.id < xs.length
      · obtain ⟨i, hi⟩ : ∃ i, posF (xs.map FE.f) p.id = i := ⟨_, rfl⟩
        rw [hi] at hil
        obtain ⟨x, hx⟩ : ∃ x, xs[i]? = some x := ⟨_, List.getElem?_eq_getElem hil⟩
        have hxf : (xs.map FE.f)[i]? = some x.f := by rw [List.getElem?_map, hx]; rfl
        have hti : t = (i : Int) := by rw [HTT.out, atR_pos (by rw [List.length_map, hi]; exact hil), hi]
        have HXI : Hid (x.f.id = p.id) := Lib.hid (by
          obtain ⟨x', h1, h2⟩ := posF_is (F := xs.map FE.f) (n := p.id) (by rw [List.length_map, hi]; exact hil)
          rw [hi, hxf] at h1
          cases h1
          exact h2)
        have HRR : Hid ((if awaitsR x.f p.kind = false then ((0, [], [], 0), [], 23) else if p.kind = 5 then (relR (L, xs.map FE.f, X, l) i, [relP p.id], 0) else (remR (L, xs.map FE.f, X, l) i, [], 0)) = R) := Lib.hid (by rw [← HRE.out]; exact (hr_hit HK3.out hi hxf).symm)
        have HIO := Lib.hid (HIT.out x (List.mem_of_getElem? hx))
        have HX := Lib.hid hx
        have HIL := Lib.hid hil
        obtain ⟨b, o, hA, hbB, hcl, hpl9⟩ := HW.out.1.at_ hx
        have HLD : Hid (∀ w9, Below w.heap.size w w9 → (loadVar 56 ⟨b, o + i * 11, none⟩).run Tryz.prog w9 = .ok (.agg (gF x).toArray) w9) := Lib.hid (fun w9 hb9 => load_item (fun j v hv => (hb9.cell (p := ⟨b, o + i * 11 + j, none⟩) hbB).trans (hcl j v hv)))
        subst hA hti
        have j1 : (0 : Int) ≤ (i : Int) := by omega
        have j2 : (i : Int) < (xs.length : Int) := by omega
        have j3 : ¬ ((i : Int) < 0) := by omega
        have e3 : decide ((i : Int) < 0) = false := decide_eq_false j3
        have d2 := T_w2.out.cell 1 rfl
        clear hi hx hxf hcl hpl9 hbB HTT HRE HIT hil j3
        go_upto_region 9 with first
          | (refine wpList_load_v (by rfl) 56 _ rfl ⟨b, o + i * 11, none⟩ (by simp [Act.eval, Act.put]) _ (HLD.out _ B_w2.out) ?_)
          | (refine S2.wpList_store_all (by rfl) 56 (.tmp 8) (.tmp 43) rfl rfl w2.heap.size rfl (gF x) rfl 56 _ (BK.new w2 _ _) flSize rfl (gF_one x) ?_; intro w3 hM hP; have M_w3 := Lib.hid hM; have hb : Below w2.heap.size w2 w3 := hP.below (S2.below_new w2 _) (Nat.le_refl _); have HSZ : Hid (w2.heap.size < w3.heap.size) := Lib.hid hM.lt; have HB := Lib.hid hb; clear hM hP hb)
        clear e3 d0 d2
        obtain ⟨gx, hgx⟩ : ∃ gx, gx = w2.heap.size := ⟨_, rfl⟩
        have HGX : Hid (w.heap.size + 1 + 1 < gx) := Lib.hid (by rw [hgx]; exact R_w2.out.lt)
        have T_w3 := Lib.hid (T_w2.out.step HB.out)
        have K_w3 := Lib.hid (K_w2.out.step HB.out)
        have R_w3 := Lib.hid (R_w2.out.step HB.out)
        have B_w3 := Lib.hid (stepB B_w2.out HB.out)
        clear T_w2 K_w2 R_w2 B_w2 HB HSZ HLD
        rw [← hgx] at M_w3 ⊢
        clear hgx
        have d0 := K_w3.out.cell 0 (pk0 p a)
        rw [HK.out] at d0
        rcases level_two HIO.out with h | h
        · have HH := Lib.hid h
          have d4 : w3.cell? ⟨gx, 4, none⟩ = some (.int .i64 x.f.m.level) := M_w3.out.cell 4 rfl
          rw [h] at d4
          have HRR : Hid (((0, [], [], 0), [], 23) = R) := Lib.hid (by rw [← HRR.out, if_pos (by simp [awaitsR, HK.out, h])])
          clear h
          go_upto_region 10 with fail
          clear d0 d4 j1 j2
          go_wp2_with first
            | (refine S2.wpList_store_all (by rfl) 28 (.tmp 4) (.tmp 62) rfl rfl (w.heap.size + 1 + 1) rfl (wcs 0 none 0 [] none 0 [] 0) rfl 28 (wcs 0 none 0 [] none 0 [] 0) R_w3.out winSize rfl (ones rfl) ?_; intro wf hM hP; have MF := Lib.hid hM; have PF := Lib.hid hP; clear hM hP)
          rw [← HRR.out]
          exact bodyPost_ret (v := .tuple #[wv 0 none 0 [] none 0 [] 0, .slice none 0 0, .int .i64 23]) (res3 rfl _ _ (w.heap.size + 1 + 1) 28 (wcs 0 none 0 [] none 0 [] 0) _ _ _ rfl rfl rfl MF.out Tryz.underlying28 rfl winSize) rfl ⟨none, 0, [], none, 0, none, 0, [], rfl, rfl, ⟨FI.nil _ _ _, Nat.le_refl _, CL.nil _ _ _, Nat.le_refl _⟩, rfl, KS.nil _ _ _, PF.out.below B_w3.out (by omega), fun g _ _ => OffW.nil g⟩
        · have HH := Lib.hid h
          have d4 : w3.cell? ⟨gx, 4, none⟩ = some (.int .i64 x.f.m.level) := M_w3.out.cell 4 rfl
          rw [h] at d4
          have HRR : Hid ((relR (L, xs.map FE.f, X, l) i, [relP x.f.id], 0) = R) := Lib.hid (by rw [← HRR.out, if_neg (by simp [awaitsR, HK.out, h]), if_pos HK.out, HXI.out])
          have HRL := Lib.hid (fun w1 h => rreleased_any L (some ⟨b, o, none⟩) c xs A2 c2 X l i x w1 h HX.out HN.out.1 HN.out.2)
          obtain ⟨RW, hRW⟩ : ∃ RW, relR (L, xs.map FE.f, X, l) i = RW := ⟨_, rfl⟩
          rw [hRW] at HRL HRR
          clear h hRW
          obtain ⟨r1, rF, r3, r4⟩ := RW
          go_upto_region 12 with fail
          clear d0 d4
          obtain ⟨h1, hh1⟩ : ∃ h1, h1 = World.drew w3 := ⟨_, rfl⟩
          have hbD : Below w3.heap.size w3 h1 := by rw [hh1]; exact (Below.refl _ _).drew
          have T_h1 : Hid (BK 28 h1 w.heap.size (wcs L (some ⟨b, o, none⟩) c xs A2 c2 X l)) := Lib.hid (T_w3.out.step hbD)
          have K_h1 : Hid (BK 42 h1 (w.heap.size + 1) (pkC p a)) := Lib.hid (K_w3.out.step hbD)
          have R_h1 : Hid (BK 28 h1 (w.heap.size + 1 + 1) (wcs 0 none 0 [] none 0 [] 0)) := Lib.hid (R_w3.out.step hbD)
          have B_h1 : Hid (Below w.heap.size w h1) := Lib.hid (stepB B_w3.out hbD)
          have M_h1 : Hid (BK 56 h1 gx (gF x)) := Lib.hid (M_w3.out.step hbD)
          clear T_w3 K_w3 R_w3 B_w3 M_w3
          have hbd : (fun w' => BK 28 w' w.heap.size (wcs L (some ⟨b, o, none⟩) c xs A2 c2 X l) ∧ BK 56 w' gx (gF x)) (World.drew w3) := by rw [← hh1]; exact ⟨T_h1.out, M_h1.out⟩
          have hSD : (fun w' => BK 28 w' w.heap.size (wcs L (some ⟨b, o, none⟩) c xs A2 c2 X l) ∧ BK 56 w' gx (gF x)) h1 := ⟨T_h1.out, M_h1.out⟩
          have HWD := Lib.hid hh1
          clear hh1 hbD
          refine wp_region_held_drew (S := fun w' => BK 28 w' w.heap.size (wcs L (some ⟨b, o, none⟩) c xs A2 c2 X l) ∧ BK 56 w' gx (gF x)) (by kernel_rfl) hbd (fun hHeld => ?_)
          rw [← HWD.out]
          clear hHeld
          have hHeld := hSD
          clear hSD hbd HWD
          refine wpAnyH_take (i := 0) (v := wv L (some ⟨b, o, none⟩) c xs A2 c2 X l) (get_ops _ _ _ rfl) (by kernel_rfl) (by kernel_rfl) (by kernel_rfl) (fun _ _ _ h => h) (Or.inl ⟨by rfl, fun wS hSw => by (try dsimp only at hSw); exact exec_load 28 _ rfl ⟨w.heap.size, 0, none⟩ (by go_simp) _ (S2.run_load_all hSw.1 Tryz.underlying28 rfl winSize)⟩) hHeld ?_
          try simp only [Act.put, List.setIfInBounds_toArray, List.set_cons_zero, List.set_cons_succ]
          refine wpAnyH_take (i := 1) (v := .int .i64 i) (get_ops _ _ _ rfl) (by kernel_rfl) (by kernel_rfl) (by kernel_rfl) (fun _ _ _ h => h) (Or.inl ⟨by rfl, fun wS hSw => by (try dsimp only at hSw); go_simp⟩) hHeld ?_
          try simp only [Act.put, List.setIfInBounds_toArray, List.set_cons_zero, List.set_cons_succ]
          refine wpAnyH_take (i := 3) (v := .pointer (some ⟨gx, 0, none⟩)) (get_ops _ _ _ rfl) (by kernel_rfl) (by kernel_rfl) (by kernel_rfl) (fun _ _ _ h => h) (Or.inl ⟨by rfl, fun wS hSw => by (try dsimp only at hSw); go_simp⟩) hHeld ?_
          try simp only [Act.put, List.setIfInBounds_toArray, List.set_cons_zero, List.set_cons_succ]
          refine wpAnyH_take (i := 4) (v := .int .i64 x.f.id) (get_ops _ _ _ rfl) (by kernel_rfl) (by kernel_rfl) (by kernel_rfl) (fun _ _ _ h => h) (Or.inl ⟨by rfl, fun wS hSw => by (try dsimp only at hSw); have cS : wS.cell? ⟨gx, 0, none⟩ = some (.int .i64 x.f.id) := hSw.2.cell 0 rfl; clear hSw; go_simp⟩) hHeld ?_
          try simp only [Act.put, List.setIfInBounds_toArray, List.set_cons_zero, List.set_cons_succ]
          refine wpAnyH_ready (rs := [2]) (by kernel_rfl) (by simp) ?_
          refine (AllReadyH.cons (get_ops _ _ _ rfl) (fun K hK => ?_) AllReadyH.nil)
          have ZO : Hid (w.heap.size + 1 + 1 < h1.heap.size) := Lib.hid R_h1.out.lt
          go_simp
          refine (HRL.out h1 (HW.out.step B_h1.out)).mono ?_
          rintro e h2 ⟨A5, c5, ys, A6, c6, rfl, hys5, hok5, hb, hof5⟩
          have T_h2 : Hid (BK 28 h2 w.heap.size (wcs L (some ⟨b, o, none⟩) c xs A2 c2 X l)) := Lib.hid (T_h1.out.step hb)
          have K_h2 : Hid (BK 42 h2 (w.heap.size + 1) (pkC p a)) := Lib.hid (K_h1.out.step hb)
          have R_h2 : Hid (BK 28 h2 (w.heap.size + 1 + 1) (wcs 0 none 0 [] none 0 [] 0)) := Lib.hid (R_h1.out.step hb)
          have B_h2 : Hid (Below w.heap.size w h2) := Lib.hid (stepB B_h1.out hb)
          have M_h2 : Hid (BK 56 h2 gx (gF x)) := Lib.hid (M_h1.out.step hb)
          clear T_h1 K_h1 R_h1 B_h1 M_h1
          have W_h2 : Hid (WOk h2 A5 c5 ys A6 c6 r3) := Lib.hid (hok5)
          have HOF : Hid (OffW (w.heap.size + 1 + 1) A5 ys A6 r3) := Lib.hid (hof5 _ ZO.out (HW.out.offW (by omega)))
          have HOG : Hid (∀ g, g < w.heap.size → OffW g (some ⟨b, o, none⟩) xs A2 X → OffW g A5 ys A6 r3) := Lib.hid (fun g hg ho => hof5 g (by have := ZO.out; omega) ho)
          have HY5 := Lib.hid hys5
          clear hok5 hof5 hys5 ZO
          clear hHeld hb
          go_wp2_with fail
          refine hK.out _ _ ⟨T_h2.out, M_h2.out⟩ (fun hHeld => ?_)
          clear hK K
          try simp only [Act.put, List.setIfInBounds_toArray, List.set_cons_zero, List.set_cons_succ]
          refine wpAnyH_ready (rs := [5]) (by kernel_rfl) (by simp) ?_
          refine (AllReadyH.cons (get_ops _ _ _ rfl) (fun K hK => ?_) AllReadyH.nil)
          go_simp
          refine (HPR.out (x.f.id) h2).mono ?_
          rintro e h3 ⟨rfl, hb⟩
          have T_h3 : Hid (BK 28 h3 w.heap.size (wcs L (some ⟨b, o, none⟩) c xs A2 c2 X l)) := Lib.hid (T_h2.out.step hb)
          have K_h3 : Hid (BK 42 h3 (w.heap.size + 1) (pkC p a)) := Lib.hid (K_h2.out.step hb)
          have R_h3 : Hid (BK 28 h3 (w.heap.size + 1 + 1) (wcs 0 none 0 [] none 0 [] 0)) := Lib.hid (R_h2.out.step hb)
          have B_h3 : Hid (Below w.heap.size w h3) := Lib.hid (stepB B_h2.out hb)
          have M_h3 : Hid (BK 56 h3 gx (gF x)) := Lib.hid (M_h2.out.step hb)
          have W_h3 : Hid (WOk h3 A5 c5 ys A6 c6 r3) := Lib.hid (W_h2.out.step hb)
          clear T_h2 K_h2 R_h2 B_h2 M_h2 W_h2
          clear hHeld hb
          go_wp2_with fail
          refine hK.out _ _ ⟨T_h3.out, M_h3.out⟩ (fun hHeld => ?_)
          clear hK K
          try simp only [Act.put, List.setIfInBounds_toArray, List.set_cons_zero, List.set_cons_succ]
          refine wpAnyH_ready (rs := [6, 7]) (by kernel_rfl) (by simp) ?_
          refine (AllReadyH.cons (get_ops _ _ _ rfl) (fun K hK => ?_) (AllReadyH.cons (get_ops _ _ _ rfl) (fun K hK => ?_) AllReadyH.nil))
          · simp only [pkV, pkC]
            go_simp
            obtain ⟨gs, hgs⟩ : ∃ gs, gs = h3.heap.size := ⟨_, rfl⟩
            refine name_world (C := fun w9 => K _ w9) (h3.alloc (.cells (gK (relP x.f.id, PA.zero)).toArray 42)) ?_
            intro h4 hh4
            have hb : Below h3.heap.size h3 h4 := by rw [hh4]; exact S2.below_new _ _
            have hN : BK 42 h4 gs (gK (relP x.f.id, PA.zero)) := by rw [hh4, hgs]; exact BK.new _ _ _
            have HGS : Hid (w.heap.size + 1 + 1 < gs) := Lib.hid (by rw [hgs]; exact R_h3.out.lt)
            have T_h4 : Hid (BK 28 h4 w.heap.size (wcs L (some ⟨b, o, none⟩) c xs A2 c2 X l)) := Lib.hid (T_h3.out.step hb)
            have K_h4 : Hid (BK 42 h4 (w.heap.size + 1) (pkC p a)) := Lib.hid (K_h3.out.step hb)
            have R_h4 : Hid (BK 28 h4 (w.heap.size + 1 + 1) (wcs 0 none 0 [] none 0 [] 0)) := Lib.hid (R_h3.out.step hb)
            have B_h4 : Hid (Below w.heap.size w h4) := Lib.hid (stepB B_h3.out hb)
            have M_h4 : Hid (BK 56 h4 gx (gF x)) := Lib.hid (M_h3.out.step hb)
            have W_h4 : Hid (WOk h4 A5 c5 ys A6 c6 r3) := Lib.hid (W_h3.out.step hb)
            clear T_h3 K_h3 R_h3 B_h3 M_h3 W_h3
            have V_h4 := Lib.hid hN
            try rw [← hh4]
            try rw [← hgs]
            clear hHeld hb hN hh4 hgs
            refine hK.out _ _ ⟨T_h4.out, M_h4.out⟩ (fun hHeld => ?_)
            clear hK K
            try simp only [Act.put, List.setIfInBounds_toArray, List.set_cons_zero, List.set_cons_succ]
            refine wpAnyH_ready (rs := [7]) (by kernel_rfl) (by simp) ?_
            refine (AllReadyH.cons (get_ops _ _ _ rfl) (fun K hK => ?_) AllReadyH.nil)
            refine S2.wp_store_all 28 _ _ rfl rfl (w.heap.size + 1 + 1) (by go_simp) (wcs r1 A5 c5 ys A6 c6 r3 r4) (by first | rfl | go_simp) 28 (wcs 0 none 0 [] none 0 [] 0) R_h4.out winSize rfl (ones rfl) ?_
            intro h5 hM hP
            have R_h5 : Hid (BK 28 h5 (w.heap.size + 1 + 1) (wcs r1 A5 c5 ys A6 c6 r3 r4)) := Lib.hid (hM)
            have T_h5 : Hid (BK 28 h5 w.heap.size (wcs L (some ⟨b, o, none⟩) c xs A2 c2 X l)) := Lib.hid (hP.other T_h4.out (by omega))
            have K_h5 : Hid (BK 42 h5 (w.heap.size + 1) (pkC p a)) := Lib.hid (hP.other K_h4.out (by omega))
            have B_h5 : Hid (Below w.heap.size w h5) := Lib.hid (hP.below B_h4.out (by omega))
            have M_h5 : Hid (BK 56 h5 gx (gF x)) := Lib.hid (hP.other M_h4.out (by have := HGX.out; omega))
            have W_h5 : Hid (WOk h5 A5 c5 ys A6 c6 r3) := Lib.hid (wok_putW W_h4.out hP HOF.out)
            have V_h5 : Hid (BK 42 h5 gs (gK (relP x.f.id, PA.zero))) := Lib.hid (hP.other V_h4.out (by have := HGS.out; omega))
            clear T_h4 K_h4 R_h4 B_h4 M_h4 W_h4 V_h4
            clear hM hP hHeld
            refine hK.out _ _ ⟨T_h5.out, M_h5.out⟩ (fun hHeld => ?_)
            clear hK K
            try simp only [Act.put, List.setIfInBounds_toArray, List.set_cons_zero, List.set_cons_succ]
            refine wpAnyH_take (i := 8) (v := .slice (some ⟨gs, 0, none⟩) 1 1) (get_ops _ _ _ rfl) (by kernel_rfl) (by kernel_rfl) (by kernel_rfl) (fun _ _ _ h => h) (Or.inl ⟨by rfl, fun wS hSw => by (try dsimp only at hSw); go_simp⟩) hHeld ?_
            try simp only [Act.put, List.setIfInBounds_toArray, List.set_cons_zero, List.set_cons_succ]
            refine wpAnyH_take (i := 9) (v := .int .i64 0) (get_ops _ _ _ rfl) (by kernel_rfl) (by kernel_rfl) (by kernel_rfl) (fun _ _ _ h => h) (Or.inl ⟨by rfl, fun wS hSw => by (try dsimp only at hSw); go_simp⟩) hHeld ?_
            try simp only [Act.put, List.setIfInBounds_toArray, List.set_cons_zero, List.set_cons_succ]
            refine wpAnyH_done (by kernel_rfl) ?_ _
            go_wp2_with fail
            rw [← HRR.out]
            exact bodyPost_ret (v := .tuple #[wv r1 A5 c5 ys A6 c6 r3 r4, .slice (some ⟨gs, 0, none⟩) 1 1, .int .i64 0]) (res3 rfl _ _ (w.heap.size + 1 + 1) 28 (wcs r1 A5 c5 ys A6 c6 r3 r4) _ _ _ rfl rfl rfl R_h5.out Tryz.underlying28 rfl winSize) rfl ⟨A5, c5, ys, A6, c6, some ⟨gs, 0, none⟩, 1, [(relP x.f.id, PA.zero)], rfl, HY5.out, W_h5.out, rfl, KS.one V_h5.out (KP.rel _ _ _ _), B_h5.out, HOG.out⟩
          · refine S2.wp_store_all 28 _ _ rfl rfl (w.heap.size + 1 + 1) (by go_simp) (wcs r1 A5 c5 ys A6 c6 r3 r4) (by first | rfl | go_simp) 28 (wcs 0 none 0 [] none 0 [] 0) R_h3.out winSize rfl (ones rfl) ?_
            intro h4 hM hP
            have R_h4 : Hid (BK 28 h4 (w.heap.size + 1 + 1) (wcs r1 A5 c5 ys A6 c6 r3 r4)) := Lib.hid (hM)
            have T_h4 : Hid (BK 28 h4 w.heap.size (wcs L (some ⟨b, o, none⟩) c xs A2 c2 X l)) := Lib.hid (hP.other T_h3.out (by omega))
            have K_h4 : Hid (BK 42 h4 (w.heap.size + 1) (pkC p a)) := Lib.hid (hP.other K_h3.out (by omega))
            have B_h4 : Hid (Below w.heap.size w h4) := Lib.hid (hP.below B_h3.out (by omega))
            have M_h4 : Hid (BK 56 h4 gx (gF x)) := Lib.hid (hP.other M_h3.out (by have := HGX.out; omega))
            have W_h4 : Hid (WOk h4 A5 c5 ys A6 c6 r3) := Lib.hid (wok_putW W_h3.out hP HOF.out)
            clear T_h3 K_h3 R_h3 B_h3 M_h3 W_h3
            clear hM hP hHeld
            refine hK.out _ _ ⟨T_h4.out, M_h4.out⟩ (fun hHeld => ?_)
            clear hK K
            try simp only [Act.put, List.setIfInBounds_toArray, List.set_cons_zero, List.set_cons_succ]
            refine wpAnyH_ready (rs := [6]) (by kernel_rfl) (by simp) ?_
            refine (AllReadyH.cons (get_ops _ _ _ rfl) (fun K hK => ?_) AllReadyH.nil)
            simp only [pkV, pkC]
            go_simp
            obtain ⟨gs, hgs⟩ : ∃ gs, gs = h4.heap.size := ⟨_, rfl⟩
            refine name_world (C := fun w9 => K _ w9) (h4.alloc (.cells (gK (relP x.f.id, PA.zero)).toArray 42)) ?_
            intro h5 hh5
            have hb : Below h4.heap.size h4 h5 := by rw [hh5]; exact S2.below_new _ _
            have hN : BK 42 h5 gs (gK (relP x.f.id, PA.zero)) := by rw [hh5, hgs]; exact BK.new _ _ _
            have HGS : Hid (w.heap.size + 1 + 1 < gs) := Lib.hid (by rw [hgs]; exact R_h4.out.lt)
            have T_h5 : Hid (BK 28 h5 w.heap.size (wcs L (some ⟨b, o, none⟩) c xs A2 c2 X l)) := Lib.hid (T_h4.out.step hb)
            have K_h5 : Hid (BK 42 h5 (w.heap.size + 1) (pkC p a)) := Lib.hid (K_h4.out.step hb)
            have R_h5 : Hid (BK 28 h5 (w.heap.size + 1 + 1) (wcs r1 A5 c5 ys A6 c6 r3 r4)) := Lib.hid (R_h4.out.step hb)
            have B_h5 : Hid (Below w.heap.size w h5) := Lib.hid (stepB B_h4.out hb)
            have M_h5 : Hid (BK 56 h5 gx (gF x)) := Lib.hid (M_h4.out.step hb)
            have W_h5 : Hid (WOk h5 A5 c5 ys A6 c6 r3) := Lib.hid (W_h4.out.step hb)
            clear T_h4 K_h4 R_h4 B_h4 M_h4 W_h4
            have V_h5 := Lib.hid hN
            try rw [← hh5]
            try rw [← hgs]
            clear hHeld hb hN hh5 hgs
            refine hK.out _ _ ⟨T_h5.out, M_h5.out⟩ (fun hHeld => ?_)
            clear hK K
            try simp only [Act.put, List.setIfInBounds_toArray, List.set_cons_zero, List.set_cons_succ]
            refine wpAnyH_take (i := 8) (v := .slice (some ⟨gs, 0, none⟩) 1 1) (get_ops _ _ _ rfl) (by kernel_rfl) (by kernel_rfl) (by kernel_rfl) (fun _ _ _ h => h) (Or.inl ⟨by rfl, fun wS hSw => by (try dsimp only at hSw); go_simp⟩) hHeld ?_
            try simp only [Act.put, List.setIfInBounds_toArray, List.set_cons_zero, List.set_cons_succ]
            refine wpAnyH_take (i := 9) (v := .int .i64 0) (get_ops _ _ _ rfl) (by kernel_rfl) (by kernel_rfl) (by kernel_rfl) (fun _ _ _ h => h) (Or.inl ⟨by rfl, fun wS hSw => by (try dsimp only at hSw); go_simp⟩) hHeld ?_
            try simp only [Act.put, List.setIfInBounds_toArray, List.set_cons_zero, List.set_cons_succ]
            refine wpAnyH_done (by kernel_rfl) ?_ _
            go_wp2_with fail
            rw [← HRR.out]
            exact bodyPost_ret (v := .tuple #[wv r1 A5 c5 ys A6 c6 r3 r4, .slice (some ⟨gs, 0, none⟩) 1 1, .int .i64 0]) (res3 rfl _ _ (w.heap.size + 1 + 1) 28 (wcs r1 A5 c5 ys A6 c6 r3 r4) _ _ _ rfl rfl rfl R_h5.out Tryz.underlying28 rfl winSize) rfl ⟨A5, c5, ys, A6, c6, some ⟨gs, 0, none⟩, 1, [(relP x.f.id, PA.zero)], rfl, HY5.out, W_h5.out, rfl, KS.one V_h5.out (KP.rel _ _ _ _), B_h5.out, HOG.out⟩
      · have hti : t = -1 := by rw [HTT.out, atR_neg (by rw [List.length_map]; exact hil)]
        have HRR : Hid (((L, xs.map FE.f, X, l), [relP p.id], 0) = R) := Lib.hid (by rw [← HRE.out, hr_miss HK3.out (by rw [List.length_map]; exact hil), if_pos HK.out])
        subst hti
        clear hil HTT HRE HIT
        go_upto_region 6 with fail
        clear d0
        obtain ⟨h1, hh1⟩ : ∃ h1, h1 = World.drew w2 := ⟨_, rfl⟩
        have hbD : Below w2.heap.size w2 h1 := by rw [hh1]; exact (Below.refl _ _).drew
        have T_h1 : Hid (BK 28 h1 w.heap.size (wcs L A c xs A2 c2 X l)) := Lib.hid (T_w2.out.step hbD)
        have K_h1 : Hid (BK 42 h1 (w.heap.size + 1) (pkC p a)) := Lib.hid (K_w2.out.step hbD)
        have R_h1 : Hid (BK 28 h1 (w.heap.size + 1 + 1) (wcs 0 none 0 [] none 0 [] 0)) := Lib.hid (R_w2.out.step hbD)
        have B_h1 : Hid (Below w.heap.size w h1) := Lib.hid (stepB B_w2.out hbD)
        clear T_w2 K_w2 R_w2 B_w2
        have hbd : (fun w' => BK 28 w' w.heap.size (wcs L A c xs A2 c2 X l) ∧ BK 42 w' (w.heap.size + 1) (pkC p a)) (World.drew w2) := by rw [← hh1]; exact ⟨T_h1.out, K_h1.out⟩
        have hSD : (fun w' => BK 28 w' w.heap.size (wcs L A c xs A2 c2 X l) ∧ BK 42 w' (w.heap.size + 1) (pkC p a)) h1 := ⟨T_h1.out, K_h1.out⟩
        have HWD := Lib.hid hh1
        clear hh1 hbD
        refine wp_region_held_drew (S := fun w' => BK 28 w' w.heap.size (wcs L A c xs A2 c2 X l) ∧ BK 42 w' (w.heap.size + 1) (pkC p a)) (by kernel_rfl) hbd (fun hHeld => ?_)
        rw [← HWD.out]
        clear hHeld
        have hHeld := hSD
        clear hSD hbd HWD
        refine wpAnyH_take (i := 0) (v := wv L A c xs A2 c2 X l) (get_ops _ _ _ rfl) (by kernel_rfl) (by kernel_rfl) (by kernel_rfl) (fun _ _ _ h => h) (Or.inl ⟨by rfl, fun wS hSw => by (try dsimp only at hSw); exact exec_load 28 _ rfl ⟨w.heap.size, 0, none⟩ (by go_simp) _ (S2.run_load_all hSw.1 Tryz.underlying28 rfl winSize)⟩) hHeld ?_
        try simp only [Act.put, List.setIfInBounds_toArray, List.set_cons_zero, List.set_cons_succ]
        refine wpAnyH_take (i := 1) (v := .pointer (some ⟨w.heap.size + 1, 1, none⟩)) (get_ops _ _ _ rfl) (by kernel_rfl) (by kernel_rfl) (by kernel_rfl) (fun _ _ _ h => h) (Or.inl ⟨by rfl, fun wS hSw => by (try dsimp only at hSw); go_simp⟩) hHeld ?_
        try simp only [Act.put, List.setIfInBounds_toArray, List.set_cons_zero, List.set_cons_succ]
        refine wpAnyH_take (i := 2) (v := .int .i64 p.id) (get_ops _ _ _ rfl) (by kernel_rfl) (by kernel_rfl) (by kernel_rfl) (fun _ _ _ h => h) (Or.inl ⟨by rfl, fun wS hSw => by (try dsimp only at hSw); have cS : wS.cell? ⟨w.heap.size + 1, 1, none⟩ = some (.int .i64 p.id) := hSw.2.cell 1 (pk1 p a); clear hSw; go_simp⟩) hHeld ?_
        try simp only [Act.put, List.setIfInBounds_toArray, List.set_cons_zero, List.set_cons_succ]
        refine wpAnyH_ready (rs := [3]) (by kernel_rfl) (by simp) ?_
        refine (AllReadyH.cons (get_ops _ _ _ rfl) (fun K hK => ?_) AllReadyH.nil)
        go_simp
        refine (HPR.out (p.id) h1).mono ?_
        rintro e h2 ⟨rfl, hb⟩
        have T_h2 : Hid (BK 28 h2 w.heap.size (wcs L A c xs A2 c2 X l)) := Lib.hid (T_h1.out.step hb)
        have K_h2 : Hid (BK 42 h2 (w.heap.size + 1) (pkC p a)) := Lib.hid (K_h1.out.step hb)
        have R_h2 : Hid (BK 28 h2 (w.heap.size + 1 + 1) (wcs 0 none 0 [] none 0 [] 0)) := Lib.hid (R_h1.out.step hb)
        have B_h2 : Hid (Below w.heap.size w h2) := Lib.hid (stepB B_h1.out hb)
        clear T_h1 K_h1 R_h1 B_h1
        clear hHeld hb
        go_wp2_with fail
        refine hK.out _ _ ⟨T_h2.out, K_h2.out⟩ (fun hHeld => ?_)
        clear hK K
        try simp only [Act.put, List.setIfInBounds_toArray, List.set_cons_zero, List.set_cons_succ]
        refine wpAnyH_ready (rs := [4, 5]) (by kernel_rfl) (by simp) ?_
        refine (AllReadyH.cons (get_ops _ _ _ rfl) (fun K hK => ?_) (AllReadyH.cons (get_ops _ _ _ rfl) (fun K hK => ?_) AllReadyH.nil))
        · simp only [pkV, pkC]
          go_simp
          obtain ⟨gs, hgs⟩ : ∃ gs, gs = h2.heap.size := ⟨_, rfl⟩
          refine name_world (C := fun w9 => K _ w9) (h2.alloc (.cells (gK (relP p.id, PA.zero)).toArray 42)) ?_
          intro h3 hh3
          have hb : Below h2.heap.size h2 h3 := by rw [hh3]; exact S2.below_new _ _
          have hN : BK 42 h3 gs (gK (relP p.id, PA.zero)) := by rw [hh3, hgs]; exact BK.new _ _ _
          have HGS : Hid (w.heap.size + 1 + 1 < gs) := Lib.hid (by rw [hgs]; exact R_h2.out.lt)
          have T_h3 : Hid (BK 28 h3 w.heap.size (wcs L A c xs A2 c2 X l)) := Lib.hid (T_h2.out.step hb)
          have K_h3 : Hid (BK 42 h3 (w.heap.size + 1) (pkC p a)) := Lib.hid (K_h2.out.step hb)
          have R_h3 : Hid (BK 28 h3 (w.heap.size + 1 + 1) (wcs 0 none 0 [] none 0 [] 0)) := Lib.hid (R_h2.out.step hb)
          have B_h3 : Hid (Below w.heap.size w h3) := Lib.hid (stepB B_h2.out hb)
          clear T_h2 K_h2 R_h2 B_h2
          have V_h3 := Lib.hid hN
          try rw [← hh3]
          try rw [← hgs]
          clear hHeld hb hN hh3 hgs
          refine hK.out _ _ ⟨T_h3.out, K_h3.out⟩ (fun hHeld => ?_)
          clear hK K
          try simp only [Act.put, List.setIfInBounds_toArray, List.set_cons_zero, List.set_cons_succ]
          refine wpAnyH_ready (rs := [5]) (by kernel_rfl) (by simp) ?_
          refine (AllReadyH.cons (get_ops _ _ _ rfl) (fun K hK => ?_) AllReadyH.nil)
          refine S2.wp_store_all 28 _ _ rfl rfl (w.heap.size + 1 + 1) (by go_simp) (wcs L A c xs A2 c2 X l) (by first | rfl | go_simp) 28 (wcs 0 none 0 [] none 0 [] 0) R_h3.out winSize rfl (ones rfl) ?_
          intro h4 hM hP
          have R_h4 : Hid (BK 28 h4 (w.heap.size + 1 + 1) (wcs L A c xs A2 c2 X l)) := Lib.hid (hM)
          have T_h4 : Hid (BK 28 h4 w.heap.size (wcs L A c xs A2 c2 X l)) := Lib.hid (hP.other T_h3.out (by omega))
          have K_h4 : Hid (BK 42 h4 (w.heap.size + 1) (pkC p a)) := Lib.hid (hP.other K_h3.out (by omega))
          have B_h4 : Hid (Below w.heap.size w h4) := Lib.hid (hP.below B_h3.out (by omega))
          have V_h4 : Hid (BK 42 h4 gs (gK (relP p.id, PA.zero))) := Lib.hid (hP.other V_h3.out (by have := HGS.out; omega))
          clear T_h3 K_h3 R_h3 B_h3 V_h3
          clear hM hP hHeld
          refine hK.out _ _ ⟨T_h4.out, K_h4.out⟩ (fun hHeld => ?_)
          clear hK K
          try simp only [Act.put, List.setIfInBounds_toArray, List.set_cons_zero, List.set_cons_succ]
          refine wpAnyH_take (i := 6) (v := .slice (some ⟨gs, 0, none⟩) 1 1) (get_ops _ _ _ rfl) (by kernel_rfl) (by kernel_rfl) (by kernel_rfl) (fun _ _ _ h => h) (Or.inl ⟨by rfl, fun wS hSw => by (try dsimp only at hSw); go_simp⟩) hHeld ?_
          try simp only [Act.put, List.setIfInBounds_toArray, List.set_cons_zero, List.set_cons_succ]
          refine wpAnyH_take (i := 7) (v := .int .i64 0) (get_ops _ _ _ rfl) (by kernel_rfl) (by kernel_rfl) (by kernel_rfl) (fun _ _ _ h => h) (Or.inl ⟨by rfl, fun wS hSw => by (try dsimp only at hSw); go_simp⟩) hHeld ?_
          try simp only [Act.put, List.setIfInBounds_toArray, List.set_cons_zero, List.set_cons_succ]
          refine wpAnyH_done (by kernel_rfl) ?_ _
          go_wp2_with fail
          rw [← HRR.out]
          exact bodyPost_ret (v := .tuple #[wv L A c xs A2 c2 X l, .slice (some ⟨gs, 0, none⟩) 1 1, .int .i64 0]) (res3 rfl _ _ (w.heap.size + 1 + 1) 28 (wcs L A c xs A2 c2 X l) _ _ _ rfl rfl rfl R_h4.out Tryz.underlying28 rfl winSize) rfl ⟨A, c, xs, A2, c2, some ⟨gs, 0, none⟩, 1, [(relP p.id, PA.zero)], rfl, rfl, HW.out.step B_h4.out, rfl, KS.one V_h4.out (KP.rel _ _ _ _), B_h4.out, fun g _ ho => ho⟩
        · refine S2.wp_store_all 28 _ _ rfl rfl (w.heap.size + 1 + 1) (by go_simp) (wcs L A c xs A2 c2 X l) (by first | rfl | go_simp) 28 (wcs 0 none 0 [] none 0 [] 0) R_h2.out winSize rfl (ones rfl) ?_
          intro h3 hM hP
          have R_h3 : Hid (BK 28 h3 (w.heap.size + 1 + 1) (wcs L A c xs A2 c2 X l)) := Lib.hid (hM)
          have T_h3 : Hid (BK 28 h3 w.heap.size (wcs L A c xs A2 c2 X l)) := Lib.hid (hP.other T_h2.out (by omega))
          have K_h3 : Hid (BK 42 h3 (w.heap.size + 1) (pkC p a)) := Lib.hid (hP.other K_h2.out (by omega))
          have B_h3 : Hid (Below w.heap.size w h3) := Lib.hid (hP.below B_h2.out (by omega))
          clear T_h2 K_h2 R_h2 B_h2
          clear hM hP hHeld
          refine hK.out _ _ ⟨T_h3.out, K_h3.out⟩ (fun hHeld => ?_)
          clear hK K
          try simp only [Act.put, List.setIfInBounds_toArray, List.set_cons_zero, List.set_cons_succ]
          refine wpAnyH_ready (rs := [4]) (by kernel_rfl) (by simp) ?_
          refine (AllReadyH.cons (get_ops _ _ _ rfl) (fun K hK => ?_) AllReadyH.nil)
          simp only [pkV, pkC]
          go_simp
          obtain ⟨gs, hgs⟩ : ∃ gs, gs = h3.heap.size := ⟨_, rfl⟩
          refine name_world (C := fun w9 => K _ w9) (h3.alloc (.cells (gK (relP p.id, PA.zero)).toArray 42)) ?_
          intro h4 hh4
          have hb : Below h3.heap.size h3 h4 := by rw [hh4]; exact S2.below_new _ _
          have hN : BK 42 h4 gs (gK (relP p.id, PA.zero)) := by rw [hh4, hgs]; exact BK.new _ _ _
          have HGS : Hid (w.heap.size + 1 + 1 < gs) := Lib.hid (by rw [hgs]; exact R_h3.out.lt)
          have T_h4 : Hid (BK 28 h4 w.heap.size (wcs L A c xs A2 c2 X l)) := Lib.hid (T_h3.out.step hb)
          have K_h4 : Hid (BK 42 h4 (w.heap.size + 1) (pkC p a)) := Lib.hid (K_h3.out.step hb)
          have R_h4 : Hid (BK 28 h4 (w.heap.size + 1 + 1) (wcs L A c xs A2 c2 X l)) := Lib.hid (R_h3.out.step hb)
          have B_h4 : Hid (Below w.heap.size w h4) := Lib.hid (stepB B_h3.out hb)
          clear T_h3 K_h3 R_h3 B_h3
          have V_h4 := Lib.hid hN
          try rw [← hh4]
          try rw [← hgs]
          clear hHeld hb hN hh4 hgs
          refine hK.out _ _ ⟨T_h4.out, K_h4.out⟩ (fun hHeld => ?_)
          clear hK K
          try simp only [Act.put, List.setIfInBounds_toArray, List.set_cons_zero, List.set_cons_succ]
          refine wpAnyH_take (i := 6) (v := .slice (some ⟨gs, 0, none⟩) 1 1) (get_ops _ _ _ rfl) (by kernel_rfl) (by kernel_rfl) (by kernel_rfl) (fun _ _ _ h => h) (Or.inl ⟨by rfl, fun wS hSw => by (try dsimp only at hSw); go_simp⟩) hHeld ?_
          try simp only [Act.put, List.setIfInBounds_toArray, List.set_cons_zero, List.set_cons_succ]
          refine wpAnyH_take (i := 7) (v := .int .i64 0) (get_ops _ _ _ rfl) (by kernel_rfl) (by kernel_rfl) (by kernel_rfl) (fun _ _ _ h => h) (Or.inl ⟨by rfl, fun wS hSw => by (try dsimp only at hSw); go_simp⟩) hHeld ?_
          try simp only [Act.put, List.setIfInBounds_toArray, List.set_cons_zero, List.set_cons_succ]
          refine wpAnyH_done (by kernel_rfl) ?_ _
          go_wp2_with fail
          rw [← HRR.out]
          exact bodyPost_ret (v := .tuple #[wv L A c xs A2 c2 X l, .slice (some ⟨gs, 0, none⟩) 1 1, .int .i64 0]) (res3 rfl _ _ (w.heap.size + 1 + 1) 28 (wcs L A c xs A2 c2 X l) _ _ _ rfl rfl rfl R_h4.out Tryz.underlying28 rfl winSize) rfl ⟨A, c, xs, A2, c2, some ⟨gs, 0, none⟩, 1, [(relP p.id, PA.zero)], rfl, rfl, HW.out.step B_h4.out, rfl, KS.one V_h4.out (KP.rel _ _ _ _), B_h4.out, fun g _ ho => ho⟩
    · have HK := Lib.hid h
      have d0 := K_w1.out.cell 0 (pk0 p a)
      rw [h] at d0
      have d1 := K_w1.out.cell 1 (pk1 p a)
      have d2 := T_w1.out.cell 1 rfl
      clear hk h
      go_wp2_with fail
      refine (HAT.out w1 (HW.out.1.step B_w1.out)).mono ?_
      rintro e w2 ⟨rfl, hb⟩
      clear d0 d1 d2
      have T_w2 := Lib.hid (T_w1.out.step hb)
      have K_w2 := Lib.hid (K_w1.out.step hb)
      have R_w2 := Lib.hid (R_w1.out.step hb)
      have B_w2 := Lib.hid (stepB B_w1.out hb)
      have d0 := K_w2.out.cell 0 (pk0 p a)
      rw [HK.out] at d0
      clear hb T_w1 K_w1 R_w1 B_w1 HAT
      by_cases hil : posF (xs.map FE.f) p.id < xs.length
      · obtain ⟨i, hi⟩ : ∃ i, posF (xs.map FE.f) p.id = i := ⟨_, rfl⟩
        rw [hi] at hil
        obtain ⟨x, hx⟩ : ∃ x, xs[i]? = some x := ⟨_, List.getElem?_eq_getElem hil⟩
        have hxf : (xs.map FE.f)[i]? = some x.f := by rw [List.getElem?_map, hx]; rfl
        have hti : t = (i : Int) := by rw [HTT.out, atR_pos (by rw [List.length_map, hi]; exact hil), hi]
        have HXI : Hid (x.f.id = p.id) := Lib.hid (by
          obtain ⟨x', h1, h2⟩ := posF_is (F := xs.map FE.f) (n := p.id) (by rw [List.length_map, hi]; exact hil)
          rw [hi, hxf] at h1
          cases h1
          exact h2)
        have HRR : Hid ((if awaitsR x.f p.kind = false then ((0, [], [], 0), [], 23) else if p.kind = 5 then (relR (L, xs.map FE.f, X, l) i, [relP p.id], 0) else (remR (L, xs.map FE.f, X, l) i, [], 0)) = R) := Lib.hid (by rw [← HRE.out]; exact (hr_hit HK3.out hi hxf).symm)
        have HIO := Lib.hid (HIT.out x (List.mem_of_getElem? hx))
        have HX := Lib.hid hx
        have HIL := Lib.hid hil
        obtain ⟨b, o, hA, hbB, hcl, hpl9⟩ := HW.out.1.at_ hx
        have HLD : Hid (∀ w9, Below w.heap.size w w9 → (loadVar 56 ⟨b, o + i * 11, none⟩).run Tryz.prog w9 = .ok (.agg (gF x).toArray) w9) := Lib.hid (fun w9 hb9 => load_item (fun j v hv => (hb9.cell (p := ⟨b, o + i * 11 + j, none⟩) hbB).trans (hcl j v hv)))
        subst hA hti
        have j1 : (0 : Int) ≤ (i : Int) := by omega
        have j2 : (i : Int) < (xs.length : Int) := by omega
        have j3 : ¬ ((i : Int) < 0) := by omega
        have e3 : decide ((i : Int) < 0) = false := decide_eq_false j3
        have d2 := T_w2.out.cell 1 rfl
        clear hi hx hxf hcl hpl9 hbB HTT HRE HIT hil j3
        go_upto_region 9 with first
          | (refine wpList_load_v (by rfl) 56 _ rfl ⟨b, o + i * 11, none⟩ (by simp [Act.eval, Act.put]) _ (HLD.out _ B_w2.out) ?_)
          | (refine S2.wpList_store_all (by rfl) 56 (.tmp 8) (.tmp 43) rfl rfl w2.heap.size rfl (gF x) rfl 56 _ (BK.new w2 _ _) flSize rfl (gF_one x) ?_; intro w3 hM hP; have M_w3 := Lib.hid hM; have hb : Below w2.heap.size w2 w3 := hP.below (S2.below_new w2 _) (Nat.le_refl _); have HSZ : Hid (w2.heap.size < w3.heap.size) := Lib.hid hM.lt; have HB := Lib.hid hb; clear hM hP hb)
        clear e3 d0 d2
        obtain ⟨gx, hgx⟩ : ∃ gx, gx = w2.heap.size := ⟨_, rfl⟩
        have HGX : Hid (w.heap.size + 1 + 1 < gx) := Lib.hid (by rw [hgx]; exact R_w2.out.lt)
        have T_w3 := Lib.hid (T_w2.out.step HB.out)
        have K_w3 := Lib.hid (K_w2.out.step HB.out)
        have R_w3 := Lib.hid (R_w2.out.step HB.out)
        have B_w3 := Lib.hid (stepB B_w2.out HB.out)
        clear T_w2 K_w2 R_w2 B_w2 HB HSZ HLD
        rw [← hgx] at M_w3 ⊢
        clear hgx
        have d0 := K_w3.out.cell 0 (pk0 p a)
        rw [HK.out] at d0
        rcases level_two HIO.out with h | h
        · have HH := Lib.hid h
          have d4 : w3.cell? ⟨gx, 4, none⟩ = some (.int .i64 x.f.m.level) := M_w3.out.cell 4 rfl
          rw [h] at d4
          have HRR : Hid (((0, [], [], 0), [], 23) = R) := Lib.hid (by rw [← HRR.out, if_pos (by simp [awaitsR, HK.out, h])])
          clear h
          go_upto_region 10 with fail
          clear d0 d4 j1 j2
          go_wp2_with first
            | (refine S2.wpList_store_all (by rfl) 28 (.tmp 4) (.tmp 62) rfl rfl (w.heap.size + 1 + 1) rfl (wcs 0 none 0 [] none 0 [] 0) rfl 28 (wcs 0 none 0 [] none 0 [] 0) R_w3.out winSize rfl (ones rfl) ?_; intro wf hM hP; have MF := Lib.hid hM; have PF := Lib.hid hP; clear hM hP)
          rw [← HRR.out]
          exact bodyPost_ret (v := .tuple #[wv 0 none 0 [] none 0 [] 0, .slice none 0 0, .int .i64 23]) (res3 rfl _ _ (w.heap.size + 1 + 1) 28 (wcs 0 none 0 [] none 0 [] 0) _ _ _ rfl rfl rfl MF.out Tryz.underlying28 rfl winSize) rfl ⟨none, 0, [], none, 0, none, 0, [], rfl, rfl, ⟨FI.nil _ _ _, Nat.le_refl _, CL.nil _ _ _, Nat.le_refl _⟩, rfl, KS.nil _ _ _, PF.out.below B_w3.out (by omega), fun g _ _ => OffW.nil g⟩
        · have HH := Lib.hid h
          have d4 : w3.cell? ⟨gx, 4, none⟩ = some (.int .i64 x.f.m.level) := M_w3.out.cell 4 rfl
          rw [h] at d4
          have d5 : w3.cell? ⟨gx, 1, none⟩ = some (.int .i64 x.f.st) := M_w3.out.cell 1 rfl
          rcases (show x.f.st = 1 ∨ x.f.st = 2 from HIO.out.2.2.imp id (fun q => q.1)) with hs | hs
          · rw [hs] at d5
            have HS := Lib.hid hs
            clear hs
            have HRR : Hid (((0, [], [], 0), [], 23) = R) := Lib.hid (by rw [← HRR.out, if_pos (by simp [awaitsR, HK.out, h, HS.out])])
            clear h
            go_upto_region 10 with fail
            clear d0 d4 j1 j2 d5
            go_wp2_with first
              | (refine S2.wpList_store_all (by rfl) 28 (.tmp 4) (.tmp 62) rfl rfl (w.heap.size + 1 + 1) rfl (wcs 0 none 0 [] none 0 [] 0) rfl 28 (wcs 0 none 0 [] none 0 [] 0) R_w3.out winSize rfl (ones rfl) ?_; intro wf hM hP; have MF := Lib.hid hM; have PF := Lib.hid hP; clear hM hP)
            rw [← HRR.out]
            exact bodyPost_ret (v := .tuple #[wv 0 none 0 [] none 0 [] 0, .slice none 0 0, .int .i64 23]) (res3 rfl _ _ (w.heap.size + 1 + 1) 28 (wcs 0 none 0 [] none 0 [] 0) _ _ _ rfl rfl rfl MF.out Tryz.underlying28 rfl winSize) rfl ⟨none, 0, [], none, 0, none, 0, [], rfl, rfl, ⟨FI.nil _ _ _, Nat.le_refl _, CL.nil _ _ _, Nat.le_refl _⟩, rfl, KS.nil _ _ _, PF.out.below B_w3.out (by omega), fun g _ _ => OffW.nil g⟩
          · rw [hs] at d5
            have HS := Lib.hid hs
            clear hs
            have HRR : Hid ((remR (L, xs.map FE.f, X, l) i, [], 0) = R) := Lib.hid (by rw [← HRR.out, if_neg (by simp [awaitsR, HK.out, h, HS.out]), if_neg (by rw [HK.out]; decide)])
            have HRM := Lib.hid (fun w1 h => rwithout_any L (some ⟨b, o, none⟩) c xs A2 c2 X l i x w1 h HX.out HN.out.1 HN.out.2)
            obtain ⟨RW, hRW⟩ : ∃ RW, remR (L, xs.map FE.f, X, l) i = RW := ⟨_, rfl⟩
            rw [hRW] at HRM HRR
            clear h hRW
            obtain ⟨r1, rF, r3, r4⟩ := RW
            go_wp2_with first
              | (refine wpList_load_v (by rfl) 28 (.tmp 2) rfl ⟨w.heap.size, 0, none⟩ rfl (wv L (some ⟨b, o, none⟩) c xs A2 c2 X l) (S2.run_load_all T_w3.out Tryz.underlying28 rfl winSize) ?_)
            refine (HRM.out w3 (HW.out.step B_w3.out)).mono ?_
            rintro e w4 ⟨A5, c5, ys, A6, c6, rfl, hys5, hok5, hb, hof5⟩
            have R_w4 := Lib.hid (R_w3.out.step hb)
            have B_w4 := Lib.hid (stepB B_w3.out hb)
            have HOF : Hid (OffW (w.heap.size + 1 + 1) A5 ys A6 r3) := Lib.hid (hof5 _ R_w3.out.lt (HW.out.offW (by omega)))
            have HOG : Hid (∀ g, g < w.heap.size → OffW g (some ⟨b, o, none⟩) xs A2 X → OffW g A5 ys A6 r3) := Lib.hid (fun g hg ho => hof5 g (Nat.lt_of_lt_of_le hg B_w3.out.size) ho)
            have HY5 := Lib.hid hys5
            have HO5 := Lib.hid hok5
            clear hb hys5 hok5 hof5 T_w3 K_w3 R_w3 B_w3 M_w3
            try clear d0
            try clear d4
            try clear d5
            go_wp2_with first
              | (refine S2.wpList_store_all (by rfl) 28 (.tmp 4) (.tmp 75) rfl rfl (w.heap.size + 1 + 1) rfl (wcs r1 A5 c5 ys A6 c6 r3 r4) rfl 28 (wcs 0 none 0 [] none 0 [] 0) R_w4.out winSize rfl (ones rfl) ?_; intro wf hM hP; have MF := Lib.hid hM; have PF := Lib.hid hP; clear hM hP)
            rw [← HRR.out]
            exact bodyPost_ret (v := .tuple #[wv r1 A5 c5 ys A6 c6 r3 r4, .slice none 0 0, .int .i64 0]) (res3 rfl _ _ (w.heap.size + 1 + 1) 28 (wcs r1 A5 c5 ys A6 c6 r3 r4) _ _ _ rfl rfl rfl MF.out Tryz.underlying28 rfl winSize) rfl ⟨A5, c5, ys, A6, c6, none, 0, [], rfl, HY5.out, wok_putW HO5.out PF.out HOF.out, rfl, KS.nil _ _ _, PF.out.below B_w4.out (by omega), HOG.out⟩
      · have hti : t = -1 := by rw [HTT.out, atR_neg (by rw [List.length_map]; exact hil)]
        have HRR : Hid (((L, xs.map FE.f, X, l), [], 0) = R) := Lib.hid (by rw [← HRE.out, hr_miss HK3.out (by rw [List.length_map]; exact hil), if_neg (by rw [HK.out]; decide)])
        subst hti
        clear hil HTT HRE HIT
        go_wp2_with first
          | (refine wpList_load_v (by rfl) 28 (.tmp 2) rfl ⟨w.heap.size, 0, none⟩ rfl (wv L A c xs A2 c2 X l) (S2.run_load_all T_w2.out Tryz.underlying28 rfl winSize) ?_)
          | (refine S2.wpList_store_all (by rfl) 28 (.tmp 4) (.tmp 38) rfl rfl (w.heap.size + 1 + 1) rfl (wcs L A c xs A2 c2 X l) rfl 28 (wcs 0 none 0 [] none 0 [] 0) R_w2.out winSize rfl (ones rfl) ?_; intro wf hM hP; have MF := Lib.hid hM; have PF := Lib.hid hP; clear hM hP)
        rw [← HRR.out]
        exact bodyPost_ret (v := .tuple #[wv L A c xs A2 c2 X l, .slice none 0 0, .int .i64 0]) (res3 rfl _ _ (w.heap.size + 1 + 1) 28 (wcs L A c xs A2 c2 X l) _ _ _ rfl rfl rfl MF.out Tryz.underlying28 rfl winSize) rfl ⟨A, c, xs, A2, c2, none, 0, [], rfl, rfl, HW.out.step (PF.out.below B_w2.out (by omega)), rfl, KS.nil _ _ _, PF.out.below B_w2.out (by omega), fun g _ ho => ho⟩
theorem rHandle_any (L : Int) (A : Option Addr) (c : Nat) (xs : List FE) (A2 : Option Addr) (c2 : Nat) (X : List Int) (l : Int) (p : Pkt) (a : PA) (w : World) (hw : WOk w A c xs A2 c2 X) (hn : xs.length ≤ 1000) (hX : X.length ≤ 1000) (hit : ∀ x ∈ xs, ItOk x.f) :
    Calls Tryz.prog 12 #[wv L A c xs A2 c2 X l, pkV p a] w (RetHr (handleR (L, xs.map FE.f, X, l) p.kind p.id) w) :=
  (rHandleo_any L A c xs A2 c2 X l p a w hw hn hX hit).mono fun _ _ ⟨A1, c1, ys, A3, c3, A4, c4, ks, h1, h2, h3, h4, h5, h6, _⟩ => ⟨A1, c1, ys, A3, c3, A4, c4, ks, h1, h2, h3, h4, h5, h6⟩
end Go.Proofs.YtmcocepjdhpecabGreatDoor
