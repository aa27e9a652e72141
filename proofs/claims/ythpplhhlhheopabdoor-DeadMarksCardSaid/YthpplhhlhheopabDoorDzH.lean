/-
  What Mark of dead's reference answers: the marked message. Conditions: the message is valid, the queue's name a name, the reason one of the four.
-/
import Derived.Test.YthpplhhlhheopabDoorDzG
namespace Go.Proofs.YthpplhhlhheopabDoor
open Go.RowKit
open S2 (BK Put)

def keptF (l : List PR) (k : Nat) : List PR := ((l.take k).filter otherP).take 6
theorem keptF_zero (l : List PR) : keptF l 0 = [] := rfl
theorem keptF_all (l : List PR) : keptF l l.length = keptP l := by unfold keptF keptP restP; rw [List.take_length]
theorem keptF_len (l : List PR) (k : Nat) : (keptF l k).length ≤ 6 := by unfold keptF; rw [List.length_take]; omega
theorem keptF_skip {l : List PR} {k : Nat} {x : PR} (hx : l[k]? = some x) (h : otherP x = false) : keptF l (k + 1) = keptF l k := by
  unfold keptF
  rw [filt_no hx h]
theorem keptF_full {l : List PR} {k : Nat} (h : ¬ (keptF l k).length < 6) : keptF l (k + 1) = keptF l k := by
  unfold keptF at h ⊢
  rw [List.length_take] at h
  obtain ⟨r, hr⟩ : ∃ r, (l.take (k + 1)).filter otherP = (l.take k).filter otherP ++ r := by
    cases hc : l[k]? with
    | none => exact ⟨[], by rw [List.take_add_one, hc]; simp⟩
    | some x => exact ⟨[x].filter otherP, by rw [List.take_add_one, hc, List.filter_append]; rfl⟩
  rw [hr, List.take_append_of_le_length (by omega)]
theorem keptF_add {l : List PR} {k : Nat} {x : PR} (hx : l[k]? = some x) (h : otherP x = true) (h6 : (keptF l k).length < 6) : keptF l (k + 1) = keptF l k ++ [x] := by
  unfold keptF at h6 ⊢
  rw [List.length_take] at h6
  rw [filt_yes hx h, List.take_of_length_le (l := (l.take k).filter otherP ++ [x]) (by rw [List.length_append]; simp; omega), List.take_of_length_le (l := (l.take k).filter otherP) (by omega)]
theorem other_deaths {x : PR} (h : x.1 = kDeaths) : otherP x = false := by unfold otherP; rw [h]; simp
theorem other_died {x : PR} (h : x.1 = kDied) : otherP x = false := by unfold otherP; rw [h]; simp
theorem other_yes {x : PR} (h1 : x.1 ≠ kDeaths) (h2 : x.1 ≠ kDied) : otherP x = true := by unfold otherP; rw [decide_eq_true h1, decide_eq_true h2]; rfl
theorem own_put {g : Nat} {w w' : World} {B : Nat} {v : Value} {xs : List PR} (h : OwnP w B v xs) (hp : Put g w w') (hne : v.ownBlock ≠ some g) : OwnP w' B v xs := by
  rcases own_rowG h with ⟨rfl, rfl⟩ | ⟨q, cap, sp, rfl, hb, hq, hnc, hcm, hl⟩
  · exact OwnG.nil _ _
  · exact row_ownG gP_len hb (hp.other hq (fun e => hne (by rw [← e]; rfl))) hnc hcm hl
theorem own_new {w : World} {B : Nat} {v : Value} {xs : List PR} (h : OwnP w B v xs) : ∃ A c, v = .slice A xs.length c ∧ PL w w.heap.size A xs ∧ NewL B A := by
  obtain ⟨A, c, hv, _, hn, hg⟩ := h.retB gP_len
  exact ⟨A, c, hv, hg w (Nat.le_refl _) (fun _ _ => rfl), hn⟩

set_option maxRecDepth 20000 in
set_option maxHeartbeats 16000000 in
theorem rMark_any (q : ByteArray) (m : Msg) (r : Nat) (A : Option Addr) (c : Nat) (w : World) (hw : Okd w) (hsl : PL w w.heap.size A m.props) (hc : checkR m = 0) (hq : nameR q = true) (hr : r < 10) :
    Calls Tryd.prog 20 #[.string q, msgV m A c, .int .i64 (r : Int)] w (RetM (markR q m r) w) := by
  have hp := checkR_parts hc
  have hpw := (propsR_parts hp).2.1
  have hl8 := (propsR_parts hp).1
  have HD := Lib.hid (fun w1 h1 h2 => rDeaths_any m A c w1 h1 h2 (by omega) (val160 hp))
  have HI1 := Lib.hid (fun w1 h => itoaN_any (nextD m) (nextD_le m) w1 h)
  have HI2 := Lib.hid (fun w1 h => itoaN_any r (by omega) w1 h)
  have HP1 := Lib.hid (fun v B w1 h1 h2 => rput_any v (keptP m.props) kDeaths (numT (nextD m)) B w1 h1 (keptP_pw hpw) (by have := keptP_len m.props; omega) h2)
  have HP2 := Lib.hid (fun v B w1 h1 h2 => rput_any v (setL (keptP m.props) kDeaths (numT (nextD m))) kDied (diedT q r) B w1 h1 (mark1_pw hpw) (by rw [mark1_len hpw]; have := keptP_len m.props; omega) h2)
  rw [← setL_ins (keptP_pw hpw) (fun x hx => (keptP_mem hx).2.1)] at HP1
  rw [← setL_ins (mark1_pw hpw) mark1_ne] at HP2
  have hk1 : wrap64 ((deathsM m : Int) + 1) = (deathsM m : Int) + 1 := wrap64_id _ (by have := deathsT_le (getR m.props kDeaths).1; unfold deathsM; omega) (by have := deathsT_le (getR m.props kDeaths).1; unfold deathsM; omega)
  have hk2 : min ((deathsM m : Int) + 1) 1099511627776 = (nextD m : Int) := by unfold nextD; omega
  have HAP := Lib.hid (died_app q r hr)
  have HQS : Hid (q.size ≤ 16) := Lib.hid (name_len hq)
  have HTS : Hid ((numT r).size ≤ 13) := Lib.hid (numT_size (by omega))
  have HMR : Hid ({ ({ m with exps := 0 } : Msg) with props := setL (setL (keptP m.props) kDeaths (numT (nextD m))) kDied (diedT q r) } = markR q m r) := Lib.hid rfl
  have HS := Lib.hid hsl
  have HO := Lib.hid hw
  have HL8 := Lib.hid hl8
  generalize diedT q r = Te at HP2 HAP HMR
  generalize numT r = Tr at HI2 HAP HTS
  generalize hTn : numT (nextD m) = Tn at HI1 HP1 HP2 HMR
  generalize nextD m = nd at *
  generalize deathsM m = n at HD hk1 hk2
  generalize hX : setL (setL (keptP m.props) kDeaths Tn) kDied Te = X at HP2 HMR
  generalize hY : setL (keptP m.props) kDeaths Tn = Y at HP1 HP2
  clear hsl hw hc hq hr hp hpw hTn hX hY hl8
  rw [← HAP.out] at HP2
  unfold kDeaths at HP1
  unfold kDied at HP2
  have HV : Hid (msgV m A c = .agg (msgC m A c).toArray) := Lib.hid rfl
  rw [HV.out] at HD ⊢
  go_enter Tryd.func20, Tryd.ntmps20
  go_upto_region 1 with fail
  refine name_world (C := fun w1 => Code.wp _ _ _ _ w1) ((w.alloc (.cells (msgC m A c).toArray 26)).alloc (.cells zeroM.toArray 26)) ?_
  intro w1 hw1
  have hb1 : Below w.heap.size w w1 := by rw [hw1]; exact stepB (S2.below_new w _) (S2.below_new _ _)
  have B_w1 := Lib.hid hb1
  have P_w1 : Hid (PL w1 w1.heap.size A m.props) := Lib.hid (GL.step HS.out hb1)
  have M_w1 : Hid (BK 26 w1 w.heap.size (msgC m A c)) := Lib.hid (by rw [hw1]; exact BK.alloc (BK.new w _ _) _)
  have K_w1 : Hid (BK 26 w1 (w.heap.size + 1) zeroM) := Lib.hid (by rw [hw1]; exact bk_new1 w _ _ _)
  clear hw1 hb1
  have d8 : w1.cell? ⟨w.heap.size, 8, none⟩ = some (.slice A m.props.length c) := M_w1.out.cell 8 rfl
  go_wp2
  clear d8
  go_loopg [7, 14] m.props.length (fun g u v wr => ∃ k : Nat, k + g = m.props.length ∧ v = .int .i64 k ∧ OwnP wr w1.heap.size u (keptF m.props k) ∧ Below w1.heap.size w1 wr)
  case atStart => exact ⟨0, by omega, rfl, OwnG.nil _ _, Below.refl _ _⟩
  case round =>
    obtain ⟨k, hkg, rfl, hown, hb⟩ := hrel
    have HB := Lib.hid hb
    have HG := Lib.hid hkg
    have HOW := Lib.hid hown
    obtain ⟨A4, c4, hu, _⟩ := hown.ret gP_len
    subst hu
    clear hown
    cases gk with
    | succ g =>
      have hlt : k < m.props.length := by omega
      have e3 : decide ((k : Int) < (m.props.length : Int)) = true := decide_eq_true (by omega)
      obtain ⟨x, hx⟩ : ∃ x, m.props[k]? = some x := ⟨_, List.getElem?_eq_getElem hlt⟩
      obtain ⟨b, o, hA, hbB, kk, kv⟩ := PL.at_ (GL.step P_w1.out hb) hx
      subst hA
      have j1 : (0 : Int) ≤ (k : Int) := by omega
      have j2 : (k : Int) < (m.props.length : Int) := by omega
      have hk9 : k < 9 := by have := HL8.out; omega
      have HX := Lib.hid hx
      have q1e : (x.1.toList == kDeaths.toList) = decide (x.1 = kDeaths) := eq_data _ _
      have q2e : (x.1.toList == kDied.toList) = decide (x.1 = kDied) := eq_data _ _
      rw [show kDeaths.toList = [100, 101, 97, 116, 104, 115] from Lib.toList_data _] at q1e
      rw [show kDied.toList = [100, 105, 101, 100] from Lib.toList_data _] at q2e
      by_cases h1 : x.1 = kDeaths
      · rw [decide_eq_true h1] at q1e
        have HN := Lib.hid (keptF_skip hx (other_deaths h1))
        clear h1 q2e hx hkg hb hbB hlt
        go_wp2
        go_roundg g
        case measure => have := HL8.out; omega
        case rel => exact ⟨k + 1, by have := HG.out; omega, by go_num, by rw [HN.out]; exact HOW.out.alloc _, stepB HB.out (S2.below_new _ _)⟩
      rw [decide_eq_false h1] at q1e
      by_cases h2 : x.1 = kDied
      · rw [decide_eq_true h2] at q2e
        have HN := Lib.hid (keptF_skip hx (other_died h2))
        clear h1 h2 hx hkg hb hbB hlt
        go_wp2
        go_roundg g
        case measure => have := HL8.out; omega
        case rel => exact ⟨k + 1, by have := HG.out; omega, by go_num, by rw [HN.out]; exact HOW.out.alloc _, stepB HB.out (S2.below_new _ _)⟩
      rw [decide_eq_false h2] at q2e
      have HOT := Lib.hid (other_yes h1 h2)
      clear h1 h2
      by_cases h6 : (keptF m.props k).length < 6
      · have q6 : decide (((keptF m.props k).length : Int) < 6) = true := decide_eq_true (by omega)
        have HN := Lib.hid (keptF_add hx HOT.out h6)
        have hszr : w1.heap.size ≤ wr.heap.size := hb.size
        have H6 := Lib.hid h6
        clear h6 hx hkg hb hbB hlt
        go_wp2_with (at_builtin; go_must (refine wpList_appP1 (wr.alloc (.cells #[.string x.1, .string x.2] 35)) rfl _ _ rfl w1.heap.size _ (keptF m.props k) x.1 x.2 (HOW.out.alloc _) rfl (by first | rfl | (show Value.slice (some ⟨wr.heap.size + 1, 0, none⟩) 1 1 = _; simp)) w1 (stepB HB.out (S2.below_new _ _)) (Nat.le_trans hszr (S2.below_new _ _).size) (by have := H6.out; omega) ?_); intro v' w3 hown' hb' hsz')
        have HO' := Lib.hid hown'
        have HB' := Lib.hid hb'
        clear hown' hb' hszr hsz'
        go_wp2
        go_roundg g
        case measure => have := HL8.out; omega
        case rel => exact ⟨k + 1, by have := HG.out; omega, by go_num, by rw [HN.out]; exact HO'.out, HB'.out⟩
      · have q6 : decide (((keptF m.props k).length : Int) < 6) = false := decide_eq_false (by omega)
        have HN := Lib.hid (keptF_full h6)
        clear h6 hx hkg hb hbB hlt
        go_wp2
        go_roundg g
        case measure => have := HL8.out; omega
        case rel => exact ⟨k + 1, by have := HG.out; omega, by go_num, by rw [HN.out]; exact HOW.out.alloc _, stepB HB.out (S2.below_new _ _)⟩
    | zero =>
      obtain rfl : k = m.props.length := by omega
      have HOW2 := HOW.out
      rw [keptF_all] at HOW2
      have HOZ := Lib.hid HOW2
      have M_wr := Lib.hid (M_w1.out.step hb)
      have HLM := Lib.hid (load_ms M_wr.out)
      rw [HV.out] at HLM
      have HOC := Lib.hid (keptF_all m.props)
      rw [HOC.out]
      have B_wr := Lib.hid (stepB B_w1.out hb)
      have Z_wr : Hid (w.heap.size + 2 ≤ w1.heap.size) := Lib.hid (by have := K_w1.out.lt; omega)
      have Y_wr := Lib.hid hb.size
      have L_wr := Lib.hid hb
      have e3 : decide ((m.props.length : Int) < (m.props.length : Int)) = false := decide_eq_false (by omega)
      clear hkg hb HOW HB HOC
      go_upto_region 10 with first
        | (refine wpList_load_v (by rfl) 26 _ rfl ⟨w.heap.size, 0, none⟩ (by first | rfl | go_simp) _ HLM.out ?_)
        | (refine S2.wpList_store_all (by rfl) 26 (.tmp 10) (.tmp 36) rfl rfl wr.heap.size rfl (msgC m A c) rfl 26 _ (BK.new wr _ _) msgSize rfl (msgC_one _ _ _) ?_; intro w4 hM hP; have M4 := Lib.hid hM; have hb4 := hP.below (S2.below_new wr _) (Nat.le_refl _); have B4 := Lib.hid hb4; clear hM hP hb4)
        | (refine wpList_store_row (by rfl) 3 (.tmp 37) _ rfl rfl wr.heap.size 5 1 rfl (.int .i64 0) rfl 26 _ [.int .i64 0] M4.out rfl rfl (by kernel_rfl) (by show 6 ≤ 9; decide) (ones rfl) ?_; intro w5 hM hP hk; rw [msgC5] at hM; have M5 := Lib.hid hM; have P5 := Lib.hid hP; clear hM hP hk)
      have O5 : Hid (OwnP w5 w1.heap.size (.slice A4 (keptP m.props).length c4) (keptP m.props)) := Lib.hid (by
        have h := HOZ.out
        exact own_put (h.step B4.out) P5.out (OwnG.high h (Nat.le_refl _)))
      have N5 : Hid ((Value.slice A4 (keptP m.props).length c4).ownBlock ≠ some (wr.heap.size)) := Lib.hid (by
        have h := HOZ.out
        exact OwnG.high h (Nat.le_refl _))
      have B5 : Hid (Below w1.heap.size w1 w5) := Lib.hid (P5.out.below (stepB L_wr.out B4.out) Y_wr.out)
      have G5 : Hid (w1.heap.size ≤ (wr.heap.size)) := Lib.hid Y_wr.out
      clear M4 B4 P5 HLM HOZ M_wr B_wr Y_wr L_wr
      generalize Value.slice A4 (keptP m.props).length c4 = u at O5 N5 ⊢
      have BB5 : Hid (Below w.heap.size w w5) := Lib.hid (B_w1.out.trans (B5.out.mono B_w1.out.size))
      have M_5 : Hid (BK 26 w5 w.heap.size (msgC m A c)) := Lib.hid (M_w1.out.keep M_w1.out.lt B5.out)
      have HL5 := Lib.hid (load_ms M_5.out)
      rw [HV.out] at HL5
      have P_5 : Hid (PL w5 w5.heap.size A m.props) := Lib.hid (GL.more (GL.below HS.out BB5.out) BB5.out.size)
      have O_5 : Hid (Okd w5) := Lib.hid (HO.out.step BB5.out)
      have Z5 : Hid (w1.heap.size ≤ w5.heap.size) := Lib.hid B5.out.size
      clear M_5
      go_wp2_with first
        | (refine wpList_load_v (by rfl) 26 _ rfl ⟨w.heap.size, 0, none⟩ (by first | rfl | go_simp) _ HL5.out ?_)
      refine (HD.out w5 O_5.out P_5.out).mono ?_
      rintro e w6 ⟨rfl, hb⟩
      have O_6 := Lib.hid (O_5.out.step hb)
      have M6 := Lib.hid (M5.out.step hb)
      have V6 := Lib.hid (O5.out.step hb)
      have B6 : Hid (Below w1.heap.size w1 w6) := Lib.hid (B5.out.trans (hb.mono Z5.out))
      clear hb HL5 P_5 O_5 M5 O5 B5 Z5 BB5
      go_wp2_with fail
      refine (HI1.out w6 O_6.out).mono ?_
      rintro e w7 ⟨rfl, hb⟩
      have M7 := Lib.hid (M6.out.step hb)
      have V7 := Lib.hid (V6.out.step hb)
      have B7 : Hid (Below w1.heap.size w1 w7) := Lib.hid (B6.out.trans (hb.mono B6.out.size))
      clear hb O_6 M6 V6 B6
      go_wp2_with fail
      refine (HP1.out u w1.heap.size w7 V7.out B7.out.size).mono ?_
      rintro e w8 ⟨v8, rfl, hown, hb, hins⟩
      have V8 := Lib.hid hown
      have B8 : Hid (Below w1.heap.size w1 w8) := Lib.hid (B7.out.trans hb)
      have M8 : Hid (BK 26 w8 (wr.heap.size) (msgC { m with exps := 0 } A c)) := Lib.hid ((hins (wr.heap.size) M7.out.lt N5.out).1.trans M7.out)
      have N8 : Hid (v8.ownBlock ≠ some (wr.heap.size)) := Lib.hid (hins (wr.heap.size) M7.out.lt N5.out).2
      have O_8 : Hid (Okd w8) := Lib.hid (HO.out.step (B_w1.out.trans (B8.out.mono B_w1.out.size)))
      have hqs : q.size ≤ 16 := HQS.out
      clear hb hown hins M7 V7 B7 N5
      go_wp2_with fail
      refine (HI2.out w8 O_8.out).mono ?_
      rintro e w9 ⟨rfl, hb⟩
      have M9 := Lib.hid (M8.out.step hb)
      have V9 := Lib.hid (V8.out.step hb)
      have B9 : Hid (Below w1.heap.size w1 w9) := Lib.hid (B8.out.trans (hb.mono B8.out.size))
      have hts : Tr.size ≤ 13 := HTS.out
      clear hb O_8 M8 V8 B8
      go_wp2_with fail
      refine (HP2.out v8 w1.heap.size w9 V9.out B9.out.size).mono ?_
      rintro e w10 ⟨v10, rfl, hown, hb, hins⟩
      obtain ⟨A10, c10, hv10, _, _⟩ := own_new hown
      subst hv10
      have V10 := Lib.hid hown
      have B10 : Hid (Below w1.heap.size w1 w10) := Lib.hid (B9.out.trans hb)
      have M10 : Hid (BK 26 w10 (wr.heap.size) (msgC { m with exps := 0 } A c)) := Lib.hid ((hins (wr.heap.size) M9.out.lt N8.out).1.trans M9.out)
      have N10 : Hid ((Value.slice A10 X.length c10).ownBlock ≠ some (wr.heap.size)) := Lib.hid (hins (wr.heap.size) M9.out.lt N8.out).2
      clear hb hown hins M9 V9 B9 N8 hqs hts
      go_upto_region 12 with first
        | (refine wpList_store_row (by rfl) 24 (.tmp 54) (.tmp 53) rfl rfl (wr.heap.size) 8 1 rfl (.slice A10 X.length c10) rfl 26 _ [.slice A10 X.length c10] M10.out rfl rfl (by kernel_rfl) (by show 9 ≤ 9; decide) (ones rfl) ?_; intro w11 hM hP hk; rw [msgC8] at hM; have M11 := Lib.hid hM; have P11 := Lib.hid hP; clear hM hP hk)
      rw [HMR.out] at M11
      have V11 : Hid (OwnP w11 w1.heap.size (.slice A10 X.length c10) X) := Lib.hid (own_put V10.out P11.out N10.out)
      have B11 : Hid (Below w1.heap.size w1 w11) := Lib.hid (P11.out.below B10.out G5.out)
      have HPX : Hid (X = (markR q m r).props) := Lib.hid (by rw [← HMR.out])
      clear M10 P11 B10 V10 N10
      have HL11 := Lib.hid (load_ms M11.out)
      have HVR : Hid (msgV (markR q m r) A10 c10 = .agg (msgC (markR q m r) A10 c10).toArray) := Lib.hid rfl
      rw [HVR.out] at HL11
      have K11 : Hid (BK 26 w11 (w.heap.size + 1) zeroM) := Lib.hid (K_w1.out.keep K_w1.out.lt B11.out)
      go_wp2_with first
        | (refine wpList_load_v (by rfl) 26 _ rfl ⟨(wr.heap.size), 0, none⟩ (by first | rfl | go_simp) _ HL11.out ?_)
        | (refine S2.wpList_store_all (by rfl) 26 (.tmp 6) (.tmp 55) rfl rfl (w.heap.size + 1) rfl (msgC (markR q m r) A10 c10) rfl 26 _ K11.out msgSize rfl (msgC_one _ _ _) ?_; intro we hM hP; have ME := Lib.hid hM; have PE := Lib.hid hP; clear hM hP)
      have VE := own_put V11.out PE.out (OwnG.off V11.out K_w1.out.lt)
      obtain ⟨A12, c12, e12, hpl, hnw⟩ := own_new VE
      simp only [Value.slice.injEq, true_and] at e12
      obtain ⟨rfl, rfl⟩ := e12
      rw [HPX.out] at hpl
      exact bodyPost_ret (v := msgV (markR q m r) A10 c10) (S2.res_cell rfl _ _ (w.heap.size + 1) 26 (msgC (markR q m r) A10 c10) _ rfl ME.out Tryd.underlying26 rfl msgSize) rfl ⟨A10, c10, rfl, hpl, fun b o e => Nat.le_trans B_w1.out.size (hnw b o e), PE.out.below (B_w1.out.trans (B11.out.mono B_w1.out.size)) (Nat.le_succ _)⟩

end Go.Proofs.YthpplhhlhheopabDoor
