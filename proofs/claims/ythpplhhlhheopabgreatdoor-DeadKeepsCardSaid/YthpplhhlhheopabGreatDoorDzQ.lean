/-
  What DeadReasons, DeadReads and DeadMarks answer: true. Conditions: the properties read as data; texts fit; the library's tables and errors are laid.
  What bare and DeadKeeps answer: true. Conditions: the properties read as data; texts fit; the library's tables and errors are laid.
-/
import Derived.Test.YthpplhhlhheopabGreatDoorDzK
namespace Go.Proofs.YthpplhhlhheopabGreatDoor
open Go.RowKit
open S2 (BK Put get_ops)

/-- what a queue's name, a message and a reason must be for a mark -/
def fitsR (q : ByteArray) (m : Msg) (r : Int) : Bool := nameR q && decide (checkR m = 0) && decide (1 ≤ r) && decide (r ≤ 4)
theorem fits_parts {q : ByteArray} {m : Msg} {r : Int} (h : fitsR q m r = true) : nameR q = true ∧ checkR m = 0 ∧ ∃ n : Nat, r = (n : Int) ∧ 1 ≤ n ∧ n ≤ 4 := by
  unfold fitsR at h
  simp only [Bool.and_eq_true, decide_eq_true_eq] at h
  exact ⟨h.1.1.1, h.1.1.2, r.toNat, by omega, by omega, by omega⟩
set_option maxHeartbeats 4000000 in
theorem fits_any (q : ByteArray) (m : Msg) (r : Int) (A : Option Addr) (c : Nat) (w : World) (hsl : PL w w.heap.size A m.props) (hq : q.size ≤ 9223372036854775807) (ht : m.topic.size ≤ 9223372036854775807) (hf : m.frm.size ≤ 9223372036854775807) (hz : ∀ x ∈ m.props, x.1.size ≤ 9223372036854775807) :
    Calls Tryz.prog 4 #[.string q, msgV m A c, .int .i64 r] w fun e w' => e = .returned (.bool (fitsR q m r)) ∧ Below w.heap.size w w' := by
  have HN := Lib.hid (fun w1 => rName_b q w1 hq)
  have HC := Lib.hid (fun w1 h => rCheck_any m A c w1 h ht hf hz)
  have HS := Lib.hid hsl
  unfold fitsR nameR
  obtain ⟨b1, hb1⟩ : ∃ b, S1.T.nameL q.data.toList = b := ⟨_, rfl⟩
  obtain ⟨ck, hck⟩ : ∃ k, checkR m = k := ⟨_, rfl⟩
  rw [hb1] at HN
  rw [hck] at HC
  rw [hb1, hck]
  clear hsl hq ht hf hz hb1 hck
  have HV : Hid (msgV m A c = .agg (msgC m A c).toArray) := Lib.hid rfl
  rw [HV.out] at HC ⊢
  have g1 : ∀ x y : Int, decide (x ≥ y) = decide (y ≤ x) := fun _ _ => rfl
  go_enter Tryz.func4, Tryz.ntmps4
  go_upto_region 1 with fail
  refine name_world (C := fun w1 => Code.wp _ _ _ _ w1) (w.alloc (.cells (msgC m A c).toArray 24)) ?_
  intro w1 hw1
  have hb1 : Below w.heap.size w w1 := by rw [hw1]; exact S2.below_new w _
  have B_w1 := Lib.hid hb1
  have P_w1 : Hid (PL w1 w1.heap.size A m.props) := Lib.hid (GL.step HS.out hb1)
  have V_w1 : Hid (BK 24 w1 w.heap.size (msgC m A c)) := Lib.hid (by rw [hw1]; exact BK.new w _ _)
  clear hw1 hb1
  go_wp2_with fail
  refine (HN.out w1).mono ?_
  rintro e w2 ⟨rfl, hb⟩
  have B_w2 := Lib.hid (stepB B_w1.out hb)
  have P_w2 := Lib.hid (GL.step P_w1.out hb)
  have V_w2 := Lib.hid (V_w1.out.step hb)
  clear hb
  cases b1 with
  | false =>
    go_wp2
    go_ret
    exact ⟨by simp, B_w2.out⟩
  | true =>
    have HLM := Lib.hid (load_ms V_w2.out)
    rw [HV.out] at HLM
    go_wp2_with first
      | (refine wpList_load_v (by rfl) 24 _ rfl ⟨w.heap.size, 0, none⟩ (by first | rfl | go_simp) _ HLM.out ?_)
    refine (HC.out w2 P_w2.out).mono ?_
    rintro e w3 ⟨rfl, hb⟩
    have B_w3 := Lib.hid (stepB B_w2.out hb)
    clear hb HLM
    by_cases h0 : ck = 0
    · have q0 : ((ck : Int) == 0) = true := by simp [h0]
      by_cases h1 : 1 ≤ r
      · have q1 : decide (1 ≤ r) = true := decide_eq_true h1
        go_wp2
        go_ret
        exact ⟨by simp [h0, h1], B_w3.out⟩
      · have q1 : decide (1 ≤ r) = false := decide_eq_false h1
        go_wp2
        go_ret
        exact ⟨by simp [h0]; omega, B_w3.out⟩
    · have q0 : ((ck : Int) == 0) = false := by simp; omega
      go_wp2
      go_ret
      exact ⟨by simp [h0], B_w3.out⟩

end Go.Proofs.YthpplhhlhheopabGreatDoor
namespace Go.Proofs.YthpplhhlhheopabGreatDoor
open Go.RowKit
open S2 (BK Put get_ops)

theorem nextD_min (m : Msg) : min ((deathsM m : Int) + 1) 1099511627776 = (nextD m : Int) := by unfold nextD; omega
theorem deaths_wrap (m : Msg) : IntKind.i64.wrap ((deathsM m : Int) + 1) = (deathsM m : Int) + 1 := by
  have h : deathsM m ≤ 1099511627776 := deathsT_le _
  rw [IntKind.wrap_i64]
  omega
set_option maxRecDepth 20000 in
set_option maxHeartbeats 8000000 in
theorem bare_any (A : Option Addr) (c : Nat) (l : List PR) (w : World) (hsl : PL w w.heap.size A l) (hn : l.length ≤ 1000) :
    Calls Tryz.prog 10 #[.slice A l.length c] w fun e w' => ∃ v, e = .returned v ∧ OwnP w' w.heap.size v (restP l) ∧ Below w.heap.size w w' := by
  have HS := Lib.hid hsl
  have HN := Lib.hid hn
  obtain ⟨F, hF⟩ : ∃ F : Nat → List PR, F = fun k => (l.take k).filter otherP := ⟨_, rfl⟩
  have Fe : Hid (F l.length = restP l) := Lib.hid (by rw [hF]; simp only [List.take_length]; rfl)
  have Fz : Hid (F 0 = []) := Lib.hid (by rw [hF]; rfl)
  have Fy : Hid (∀ k x, l[k]? = some x → otherP x = true → F (k + 1) = F k ++ [x]) := Lib.hid (fun k x hx hp => by rw [hF]; exact filt_yes hx hp)
  have Fn : Hid (∀ k x, l[k]? = some x → otherP x = false → F (k + 1) = F k) := Lib.hid (fun k x hx hp => by rw [hF]; exact filt_no hx hp)
  have Fl : Hid (∀ k, (F k).length ≤ 1000) := Lib.hid (fun k => by rw [hF]; exact Nat.le_trans (filt_len _ l k) hn)
  rw [← Fe.out]
  clear hsl hn hF
  go_enter Tryz.func10, Tryz.ntmps10
  go_wp2
  go_loopg [3, 8] l.length (fun g u v wr => ∃ k : Nat, k + g = l.length ∧ v = .int .i64 k ∧ OwnP wr w.heap.size u (F k) ∧ Below w.heap.size w wr)
  case atStart => exact ⟨0, by omega, rfl, by rw [Fz.out]; exact OwnG.nil _ _, Below.refl _ _⟩
  case round =>
    obtain ⟨k, hkg, rfl, hown, hb⟩ := hrel
    have HB := Lib.hid hb
    have HG := Lib.hid hkg
    have HO := Lib.hid hown
    clear hown
    cases gk with
    | zero =>
      obtain rfl : k = l.length := by omega
      have e3 : decide ((l.length : Int) < (l.length : Int)) = false := decide_eq_false (by omega)
      clear hkg hb
      go_wp2
      go_ret
      exact ⟨_, rfl, HO.out, HB.out⟩
    | succ g =>
      have hlt : k < l.length := by omega
      have e3 : decide ((k : Int) < (l.length : Int)) = true := decide_eq_true (by omega)
      obtain ⟨x, hx⟩ : ∃ x, l[k]? = some x := ⟨_, List.getElem?_eq_getElem hlt⟩
      obtain ⟨b, o, hA, hbB, kk, kv⟩ := PL.at_ (HS.out.step hb) hx
      subst hA
      have j1 : (0 : Int) ≤ (k : Int) := by omega
      have j2 : (k : Int) < (l.length : Int) := by omega
      have hk1 : k < 1001 := by have := HN.out; omega
      have q1e : (x.1.toList == kDeaths.toList) = decide (x.1 = kDeaths) := eq_data _ _
      have q2e : (x.1.toList == kDied.toList) = decide (x.1 = kDied) := eq_data _ _
      rw [show kDeaths.toList = [100, 101, 97, 116, 104, 115] from Lib.toList_data _] at q1e
      rw [show kDied.toList = [100, 105, 101, 100] from Lib.toList_data _] at q2e
      by_cases h1 : x.1 = kDeaths
      · rw [decide_eq_true h1] at q1e
        have HNX := Lib.hid (Fn.out k x hx (other_deaths h1))
        clear h1 q2e hx hkg hb hbB hlt
        go_wp2
        go_roundg g
        case measure => omega
        case rel => exact ⟨k + 1, by have := HG.out; omega, by go_num, by rw [HNX.out]; exact HO.out.alloc _, stepB HB.out (S2.below_new _ _)⟩
      rw [decide_eq_false h1] at q1e
      by_cases h2 : x.1 = kDied
      · rw [decide_eq_true h2] at q2e
        have HNX := Lib.hid (Fn.out k x hx (other_died h2))
        clear h1 h2 hx hkg hb hbB hlt
        go_wp2
        go_roundg g
        case measure => omega
        case rel => exact ⟨k + 1, by have := HG.out; omega, by go_num, by rw [HNX.out]; exact HO.out.alloc _, stepB HB.out (S2.below_new _ _)⟩
      rw [decide_eq_false h2] at q2e
      have HNX := Lib.hid (Fy.out k x hx (other_yes h1 h2))
      have hszr : w.heap.size ≤ wr.heap.size := hb.size
      clear h1 h2 hx hkg hb hbB hlt
      go_wp2_with (at_builtin; go_must (refine wpList_appP1 (wr.alloc (.cells #[.string x.1, .string x.2] 36)) rfl _ _ rfl w.heap.size _ (F k) x.1 x.2 (HO.out.alloc _) rfl (by first | rfl | (show Value.slice (some ⟨wr.heap.size + 1, 0, none⟩) 1 1 = _; simp)) w (stepB HB.out (S2.below_new _ _)) (Nat.le_trans hszr (S2.below_new _ _).size) (by have := Fl.out k; omega) ?_); intro v' w3 hown' hb' hsz')
      have HO' := Lib.hid hown'
      have HB' := Lib.hid hb'
      clear hown' hb' hszr hsz'
      go_wp2
      go_roundg g
      case measure => omega
      case rel => exact ⟨k + 1, by have := HG.out; omega, by go_num, by rw [HNX.out]; exact HO'.out, HB'.out⟩

set_option maxRecDepth 20000 in
set_option maxHeartbeats 16000000 in
theorem deadKeeps_walk (q : ByteArray) (m : Msg) (a : Option Addr) (c : Nat) (r : Int) (w : World) (hw : Okd w) (hsl : PL w w.heap.size a m.props) (hq : q.size ≤ 9223372036854775807) (ht : m.topic.size ≤ 9223372036854775807) (hf : m.frm.size ≤ 9223372036854775807) (hz : ∀ x ∈ m.props, x.1.size ≤ 9223372036854775807) :
    Calls Tryz.prog 3 #[.string q, msgV m a c, .int .i64 r] w fun e w' => e = .returned (.bool true) ∧ Below w.heap.size w w' := by
  have HO := Lib.hid hw
  have HS := Lib.hid hsl
  have HX := Lib.hid (fun w1 h => exHolds_any w1 h)
  have HFT := Lib.hid (fun w1 h => fits_any q m r a c w1 h hq ht hf hz)
  obtain ⟨bf, hbf⟩ : ∃ b, fitsR q m r = b := ⟨_, rfl⟩
  rw [hbf] at HFT
  have HBF := Lib.hid hbf
  clear hw hsl hq ht hf hz hbf
  have HV : Hid (∀ (m : Msg) a c, msgV m a c = .agg (msgC m a c).toArray) := Lib.hid (fun _ _ _ => rfl)
  rw [HV.out] at HFT ⊢
  go_enter Tryz.func3, Tryz.ntmps3
  go_upto_region 1 with fail
  refine name_world (C := fun w1 => Code.wp _ _ _ _ w1) (w.alloc (.cells (msgC m a c).toArray 24)) ?_
  intro w1 hw1
  have hb1 : Below w.heap.size w w1 := by rw [hw1]; exact S2.below_new w _
  have B_w1 := Lib.hid hb1
  have P_w1 : Hid (PL w1 w1.heap.size a m.props) := Lib.hid (GL.step HS.out hb1)
  have V_w1 : Hid (BK 24 w1 w.heap.size (msgC m a c)) := Lib.hid (by rw [hw1]; exact BK.new w _ _)
  clear hw1 hb1
  have HLM := Lib.hid (load_ms V_w1.out)
  rw [HV.out] at HLM
  go_wp2_with first
    | (refine wpList_load_v (by rfl) 24 _ rfl ⟨w.heap.size, 0, none⟩ (by first | rfl | go_simp) _ HLM.out ?_)
  refine (HFT.out w1 P_w1.out).mono ?_
  rintro e w2 ⟨rfl, hb⟩
  have B_w2 := Lib.hid (stepB B_w1.out hb)
  have V_w2 := Lib.hid (V_w1.out.step hb)
  clear hb HLM B_w1 P_w1 V_w1
  cases bf with
  | false =>
    go_wp2_with fail
    refine (HX.out w2 (HO.out.step B_w2.out)).mono ?_
    rintro e w3 ⟨rfl, hb⟩
    have B_w3 := Lib.hid (stepB B_w2.out hb)
    clear hb
    go_wp2
    go_ret
    exact ⟨rfl, B_w3.out⟩
  | true =>
    obtain ⟨hnm, hck, n, hr, hn1, hn4⟩ := fits_parts HBF.out
    subst hr
    obtain ⟨hp8, hpw, _⟩ := propsR_parts (checkR_parts hck)
    have hok1 : checkR (markR q m n) = 0 := markR_ok hck hnm
    have hok2 : checkR (markR q (markR q m n) n) = 0 := markR_ok hok1 hnm
    obtain ⟨hp81, hpw1, _⟩ := propsR_parts (checkR_parts hok1)
    obtain ⟨hp82, hpw2, _⟩ := propsR_parts (checkR_parts hok2)
    have hre1 : restP (markR q m n).props = keptP m.props := restP_mark hpw
    have hre2 : restP (markR q (markR q m n) n).props = keptP m.props := by
      show restP (markP (markR q m n).props _ _) = _
      rw [restP_mark hpw1]
      exact keptP_mark hpw
    have hfr : fromM (markR q m n) = (q, (n : Int)) := from_mark hck hnm hn1 hn4
    have hde : deathsM (markR q m n) = nextD m := deaths_mark hck
    have HM1 := Lib.hid (fun w1 h h1 => dMark_any q m n a c w1 h h1 hck hnm (by omega))
    have HM2 := Lib.hid (fun a c w1 h h1 => dMark_any q (markR q m n) n a c w1 h h1 hok1 hnm (by omega))
    have HFR := Lib.hid (fun a c w1 h h1 => dFrom_any (markR q m n) a c w1 h h1 (by omega) (val160 (checkR_parts hok1)))
    have HCK := Lib.hid (fun a c w1 h h1 => check_any (markR q m n) a c w1 h h1)
    have HD1 := Lib.hid (fun a c w1 h h1 => dDeaths_any (markR q m n) a c w1 h h1 (by omega) (val160 (checkR_parts hok1)))
    have HD0 := Lib.hid (fun w1 h h1 => dDeaths_any m a c w1 h h1 (by omega) (val160 (checkR_parts hck)))
    have HB0 := Lib.hid (fun w1 h => bare_any a c m.props w1 h (by omega))
    have HB1 := Lib.hid (fun a c w1 h => bare_any a c (markR q m n).props w1 h (by omega))
    have HB2 := Lib.hid (fun a c w1 h => bare_any a c (markR q (markR q m n) n).props w1 h (by omega))
    rw [hre1] at HB1
    rw [hre2] at HB2
    rw [hfr] at HFR
    rw [hok1] at HCK
    rw [hde] at HD1
    have HSM := Lib.hid (fun w1 h1 => rSame_any m m a a c c w1 h1 h1 (by omega))
    rw [show sameM m m = true from decide_eq_true rfl] at HSM
    have HEQ := Lib.hid (fun A A' c c' w1 h1 h2 => equalP_any A A' c c' (keptP m.props) (keptP m.props) w1 h1 h2 (by have := keptP_len m.props; omega))
    have HMX : Hid ({ ({ (markR q m n) with exps := m.exps } : Msg) with props := m.props } = m) := Lib.hid rfl
    have HME : Hid ((markR q m n).exps = 0) := Lib.hid rfl
    have hk1 : wrap64 ((deathsM m : Int) + 1) = (deathsM m : Int) + 1 := wrap64_id _ (by have := deathsT_le (getR m.props kDeaths).1; unfold deathsM; omega) (by have := deathsT_le (getR m.props kDeaths).1; unfold deathsM; omega)
    have hk2 := nextD_min m
    have hkw := deaths_wrap m
    have hrl : (restP m.props).length ≤ 8 := Nat.le_trans (List.length_filter_le _ _) hp8
    have HKP : Hid (keptP m.props = (restP m.props).take 6) := Lib.hid rfl
    have HRL := Lib.hid hrl
    generalize keptP m.props = KP at HB1 HB2 HEQ HKP
    generalize restP m.props = RP at HB0 HKP HRL
    generalize markR q (markR q m n) n = M2 at HM2 HB2
    generalize markR q m n = M1 at *
    generalize nextD m = nd at HD1 hk2
    generalize deathsM m = dn at HD0 hk1 hk2 hkw
    rw [decide_eq_true rfl] at HEQ
    rw [HV.out] at HM1 HD0
    have HK1 := Lib.hid hk1
    have HK2 := Lib.hid hk2
    have HKW := Lib.hid hkw
    clear HBF hnm hck hn1 hn4 hp8 hpw hok1 hok2 hp81 hpw1 hp82 hpw2 hre1 hre2 hfr hde hrl hk1 hk2 hkw
    go_wp2_with first
      | (refine wpList_load_v (by rfl) 24 (.tmp 4) rfl ⟨w.heap.size, 0, none⟩ rfl (.agg (msgC m a c).toArray) (S2.run_load_all V_w2.out Tryz.underlying24 rfl msgSize) ?_)
    refine (HM1.out w2 (HO.out.step B_w2.out) (GL.more (GL.below HS.out B_w2.out) B_w2.out.size)).mono ?_
    rintro e y1 ⟨a1, c1, rfl, hpl, hnw, hb⟩
    have V_y1 : Hid (BK 24 y1 w.heap.size (msgC m a c)) := Lib.hid (V_w2.out.step hb)
    have B_y1 : Hid (Below w.heap.size w y1) := Lib.hid (stepB B_w2.out hb)
    clear V_w2 B_w2
    have P1_y1 : Hid (PL y1 y1.heap.size a1 M1.props) := Lib.hid (hpl)
    clear hpl hnw
    clear hb
    have LVX : Hid (w.heap.size < y1.heap.size) := Lib.hid V_y1.out.lt
    go_upto_region 4 with first
      | (refine S2.wpList_store_all (by rfl) 24 (.tmp 7) (.tmp 22) rfl rfl (y1.heap.size) rfl (msgC M1 a1 c1) rfl 24 _ (BK.new y1 _ _) msgSize rfl (msgC_one _ _ _) ?_; intro y2 hM hP; have hb : Below y1.heap.size y1 y2 := hP.below (S2.below_new y1 _) (Nat.le_refl _); have V_y2 : Hid (BK 24 y2 w.heap.size (msgC m a c)) := Lib.hid (V_y1.out.step hb); have B_y2 : Hid (Below w.heap.size w y2) := Lib.hid (stepB B_y1.out hb); have P1_y2 : Hid (PL y2 y2.heap.size a1 M1.props) := Lib.hid (GL.step P1_y1.out hb); have X_y2 : Hid (BK 24 y2 (y1.heap.size) (msgC M1 a1 c1)) := Lib.hid hM; clear hM hP hb V_y1 B_y1 P1_y1)
    obtain ⟨gX, hgX⟩ : ∃ gX, gX = y1.heap.size := ⟨_, rfl⟩
    rw [← hgX] at LVX
    rw [← hgX] at X_y2
    try rw [← hgX]
    clear hgX
    have HFR1 := Lib.hid (HFR.out a1 c1 y2 (HO.out.step B_y2.out) P1_y2.out)
    rw [HV.out] at HFR1
    go_wp2_with first
      | (refine wpList_load_v (by rfl) 24 (.tmp 7) rfl ⟨gX, 0, none⟩ rfl (.agg (msgC M1 a1 c1).toArray) (S2.run_load_all X_y2.out Tryz.underlying24 rfl msgSize) ?_)
    refine (HFR1.out).mono ?_
    rintro e y3 ⟨rfl, hb⟩
    have V_y3 : Hid (BK 24 y3 w.heap.size (msgC m a c)) := Lib.hid (V_y2.out.step hb)
    have B_y3 : Hid (Below w.heap.size w y3) := Lib.hid (stepB B_y2.out hb)
    have P1_y3 : Hid (PL y3 y3.heap.size a1 M1.props) := Lib.hid (GL.step P1_y2.out hb)
    have X_y3 : Hid (BK 24 y3 gX (msgC M1 a1 c1)) := Lib.hid (X_y2.out.step hb)
    clear V_y2 B_y2 P1_y2 X_y2
    clear hb
    go_upto_region 5 with fail
    obtain ⟨y4, hy4⟩ : ∃ y4, y4 = World.drew y3 := ⟨_, rfl⟩
    have hbD : Below y3.heap.size y3 y4 := by rw [hy4]; exact (Below.refl _ _).drew
    have V_y4 : Hid (BK 24 y4 w.heap.size (msgC m a c)) := Lib.hid (V_y3.out.step hbD)
    have B_y4 : Hid (Below w.heap.size w y4) := Lib.hid (stepB B_y3.out hbD)
    have P1_y4 : Hid (PL y4 y4.heap.size a1 M1.props) := Lib.hid (GL.step P1_y3.out hbD)
    have X_y4 : Hid (BK 24 y4 gX (msgC M1 a1 c1)) := Lib.hid (X_y3.out.step hbD)
    clear V_y3 B_y3 P1_y3 X_y3
    have hbd : (fun w' => BK 24 w' w.heap.size (msgC m a c) ∧ BK 24 w' gX (msgC M1 a1 c1)) (World.drew y3) := by rw [← hy4]; exact ⟨V_y4.out, X_y4.out⟩
    have hSD : (fun w' => BK 24 w' w.heap.size (msgC m a c) ∧ BK 24 w' gX (msgC M1 a1 c1)) y4 := ⟨V_y4.out, X_y4.out⟩
    have HWD := Lib.hid hy4
    clear hy4 hbD
    refine wp_region_held_drew (S := fun w' => BK 24 w' w.heap.size (msgC m a c) ∧ BK 24 w' gX (msgC M1 a1 c1)) (by kernel_rfl) hbd (fun hHeld => ?_)
    rw [← HWD.out]
    clear hHeld
    have hHeld := hSD
    clear hSD hbd HWD
    refine wpAnyH_take (i := 0) (v := (.agg (msgC M1 a1 c1).toArray)) (get_ops _ _ _ rfl) (by kernel_rfl) (by kernel_rfl) (by kernel_rfl) (fun _ _ _ h => h) (Or.inl ⟨by rfl, fun wS hSw => by (try dsimp only at hSw); exact exec_load 24 _ rfl ⟨gX, 0, none⟩ (by go_simp) _ (load_ms hSw.2)⟩) hHeld ?_
    try simp only [Act.put, List.setIfInBounds_toArray, List.set_cons_zero, List.set_cons_succ]
    refine wpAnyH_ready (rs := [1]) (by kernel_rfl) (by simp) ?_
    refine (AllReadyH.cons (get_ops _ _ _ rfl) (fun K hK => ?_) AllReadyH.nil)
    have HQ1 := Lib.hid (HCK.out a1 c1 y4 (HO.out.step B_y4.out).k P1_y4.out)
    rw [HV.out] at HQ1
    go_simp
    refine (HQ1.out).mono ?_
    rintro e y5 ⟨rfl, hb⟩
    have V_y5 : Hid (BK 24 y5 w.heap.size (msgC m a c)) := Lib.hid (V_y4.out.step hb)
    have B_y5 : Hid (Below w.heap.size w y5) := Lib.hid (stepB B_y4.out hb)
    have P1_y5 : Hid (PL y5 y5.heap.size a1 M1.props) := Lib.hid (GL.step P1_y4.out hb)
    have X_y5 : Hid (BK 24 y5 gX (msgC M1 a1 c1)) := Lib.hid (X_y4.out.step hb)
    clear V_y4 B_y4 P1_y4 X_y4
    clear hHeld hb
    go_wp2_with fail
    refine hK.out _ _ ⟨V_y5.out, X_y5.out⟩ (fun hHeld => ?_)
    clear hK K
    try simp only [Act.put, List.setIfInBounds_toArray, List.set_cons_zero, List.set_cons_succ]
    refine wpAnyH_take (i := 2) (v := .bool false) (get_ops _ _ _ rfl) (by kernel_rfl) (by kernel_rfl) (by kernel_rfl) (fun _ _ _ h => h) (Or.inl ⟨by rfl, fun wS hSw => by (try dsimp only at hSw); go_simp⟩) hHeld ?_
    try simp only [Act.put, List.setIfInBounds_toArray, List.set_cons_zero, List.set_cons_succ]
    refine wpAnyH_take (i := 3) (v := .bool false) (get_ops _ _ _ rfl) (by kernel_rfl) (by kernel_rfl) (by kernel_rfl) (fun _ _ _ h => h) (Or.inl ⟨by rfl, fun wS hSw => by (try dsimp only at hSw); go_simp⟩) hHeld ?_
    try simp only [Act.put, List.setIfInBounds_toArray, List.set_cons_zero, List.set_cons_succ]
    refine wpAnyH_take (i := 4) (v := .string q) (get_ops _ _ _ rfl) (by kernel_rfl) (by kernel_rfl) (by kernel_rfl) (fun _ _ _ h => h) (Or.inl ⟨by rfl, fun wS hSw => by (try dsimp only at hSw); go_simp⟩) hHeld ?_
    try simp only [Act.put, List.setIfInBounds_toArray, List.set_cons_zero, List.set_cons_succ]
    refine wpAnyH_take (i := 5) (v := .string q) (get_ops _ _ _ rfl) (by kernel_rfl) (by kernel_rfl) (by kernel_rfl) (fun _ _ _ h => h) (Or.inl ⟨by rfl, fun wS hSw => by (try dsimp only at hSw); go_simp⟩) hHeld ?_
    try simp only [Act.put, List.setIfInBounds_toArray, List.set_cons_zero, List.set_cons_succ]
    refine wpAnyH_take (i := 6) (v := .bool false) (get_ops _ _ _ rfl) (by kernel_rfl) (by kernel_rfl) (by kernel_rfl) (fun _ _ _ h => h) (Or.inl ⟨by rfl, fun wS hSw => by (try dsimp only at hSw); go_simp⟩) hHeld ?_
    try simp only [Act.put, List.setIfInBounds_toArray, List.set_cons_zero, List.set_cons_succ]
    refine wpAnyH_take (i := 7) (v := .bool false) (get_ops _ _ _ rfl) (by kernel_rfl) (by kernel_rfl) (by kernel_rfl) (fun _ _ _ h => h) (Or.inl ⟨by rfl, fun wS hSw => by (try dsimp only at hSw); go_simp⟩) hHeld ?_
    try simp only [Act.put, List.setIfInBounds_toArray, List.set_cons_zero, List.set_cons_succ]
    refine wpAnyH_take (i := 8) (v := .bool false) (get_ops _ _ _ rfl) (by kernel_rfl) (by kernel_rfl) (by kernel_rfl) (fun _ _ _ h => h) (Or.inl ⟨by rfl, fun wS hSw => by (try dsimp only at hSw); go_simp⟩) hHeld ?_
    try simp only [Act.put, List.setIfInBounds_toArray, List.set_cons_zero, List.set_cons_succ]
    refine wpAnyH_take (i := 9) (v := .int .i64 (n : Int)) (get_ops _ _ _ rfl) (by kernel_rfl) (by kernel_rfl) (by kernel_rfl) (fun _ _ _ h => h) (Or.inl ⟨by rfl, fun wS hSw => by (try dsimp only at hSw); go_simp⟩) hHeld ?_
    try simp only [Act.put, List.setIfInBounds_toArray, List.set_cons_zero, List.set_cons_succ]
    refine wpAnyH_take (i := 10) (v := .int .i64 (n : Int)) (get_ops _ _ _ rfl) (by kernel_rfl) (by kernel_rfl) (by kernel_rfl) (fun _ _ _ h => h) (Or.inl ⟨by rfl, fun wS hSw => by (try dsimp only at hSw); go_simp⟩) hHeld ?_
    try simp only [Act.put, List.setIfInBounds_toArray, List.set_cons_zero, List.set_cons_succ]
    refine wpAnyH_take (i := 11) (v := .bool false) (get_ops _ _ _ rfl) (by kernel_rfl) (by kernel_rfl) (by kernel_rfl) (fun _ _ _ h => h) (Or.inl ⟨by rfl, fun wS hSw => by (try dsimp only at hSw); go_simp⟩) hHeld ?_
    try simp only [Act.put, List.setIfInBounds_toArray, List.set_cons_zero, List.set_cons_succ]
    refine wpAnyH_take (i := 12) (v := .bool false) (get_ops _ _ _ rfl) (by kernel_rfl) (by kernel_rfl) (by kernel_rfl) (fun _ _ _ h => h) (Or.inl ⟨by rfl, fun wS hSw => by (try dsimp only at hSw); go_simp⟩) hHeld ?_
    try simp only [Act.put, List.setIfInBounds_toArray, List.set_cons_zero, List.set_cons_succ]
    refine wpAnyH_take (i := 13) (v := .bool false) (get_ops _ _ _ rfl) (by kernel_rfl) (by kernel_rfl) (by kernel_rfl) (fun _ _ _ h => h) (Or.inl ⟨by rfl, fun wS hSw => by (try dsimp only at hSw); go_simp⟩) hHeld ?_
    try simp only [Act.put, List.setIfInBounds_toArray, List.set_cons_zero, List.set_cons_succ]
    refine wpAnyH_take (i := 14) (v := .pointer (some ⟨gX, 5, none⟩)) (get_ops _ _ _ rfl) (by kernel_rfl) (by kernel_rfl) (by kernel_rfl) (fun _ _ _ h => h) (Or.inl ⟨by rfl, fun wS hSw => by (try dsimp only at hSw); go_simp⟩) hHeld ?_
    try simp only [Act.put, List.setIfInBounds_toArray, List.set_cons_zero, List.set_cons_succ]
    refine wpAnyH_take (i := 15) (v := .int .i64 0) (get_ops _ _ _ rfl) (by kernel_rfl) (by kernel_rfl) (by kernel_rfl) (fun _ _ _ h => h) (Or.inl ⟨by rfl, fun wS hSw => by (try dsimp only at hSw); have cS : wS.cell? ⟨gX, 5, none⟩ = some (.int .i64 M1.exps) := hSw.2.cell 5 rfl; rw [HME.out] at cS; clear hSw; go_simp⟩) hHeld ?_
    try simp only [Act.put, List.setIfInBounds_toArray, List.set_cons_zero, List.set_cons_succ]
    refine wpAnyH_take (i := 16) (v := .bool false) (get_ops _ _ _ rfl) (by kernel_rfl) (by kernel_rfl) (by kernel_rfl) (fun _ _ _ h => h) (Or.inl ⟨by rfl, fun wS hSw => by (try dsimp only at hSw); go_simp⟩) hHeld ?_
    try simp only [Act.put, List.setIfInBounds_toArray, List.set_cons_zero, List.set_cons_succ]
    refine wpAnyH_take (i := 17) (v := .bool false) (get_ops _ _ _ rfl) (by kernel_rfl) (by kernel_rfl) (by kernel_rfl) (fun _ _ _ h => h) (Or.inl ⟨by rfl, fun wS hSw => by (try dsimp only at hSw); go_simp⟩) hHeld ?_
    try simp only [Act.put, List.setIfInBounds_toArray, List.set_cons_zero, List.set_cons_succ]
    refine wpAnyH_take (i := 18) (v := .bool false) (get_ops _ _ _ rfl) (by kernel_rfl) (by kernel_rfl) (by kernel_rfl) (fun _ _ _ h => h) (Or.inl ⟨by rfl, fun wS hSw => by (try dsimp only at hSw); go_simp⟩) hHeld ?_
    try simp only [Act.put, List.setIfInBounds_toArray, List.set_cons_zero, List.set_cons_succ]
    refine wpAnyH_take (i := 19) (v := (.agg (msgC M1 a1 c1).toArray)) (get_ops _ _ _ rfl) (by kernel_rfl) (by kernel_rfl) (by kernel_rfl) (fun _ _ _ h => h) (Or.inl ⟨by rfl, fun wS hSw => by (try dsimp only at hSw); exact exec_load 24 _ rfl ⟨gX, 0, none⟩ (by go_simp) _ (load_ms hSw.2)⟩) hHeld ?_
    try simp only [Act.put, List.setIfInBounds_toArray, List.set_cons_zero, List.set_cons_succ]
    refine wpAnyH_take (i := 21) (v := (.agg (msgC m a c).toArray)) (get_ops _ _ _ rfl) (by kernel_rfl) (by kernel_rfl) (by kernel_rfl) (fun _ _ _ h => h) (Or.inl ⟨by rfl, fun wS hSw => by (try dsimp only at hSw); exact exec_load 24 _ rfl ⟨w.heap.size, 0, none⟩ (by go_simp) _ (load_ms hSw.1)⟩) hHeld ?_
    try simp only [Act.put, List.setIfInBounds_toArray, List.set_cons_zero, List.set_cons_succ]
    refine wpAnyH_ready (rs := [20]) (by kernel_rfl) (by simp) ?_
    refine (AllReadyH.cons (get_ops _ _ _ rfl) (fun K hK => ?_) AllReadyH.nil)
    have HQ2 := Lib.hid (HD1.out a1 c1 y5 (HO.out.step B_y5.out) P1_y5.out)
    rw [HV.out] at HQ2
    go_simp
    refine (HQ2.out).mono ?_
    rintro e y6 ⟨rfl, hb⟩
    have V_y6 : Hid (BK 24 y6 w.heap.size (msgC m a c)) := Lib.hid (V_y5.out.step hb)
    have B_y6 : Hid (Below w.heap.size w y6) := Lib.hid (stepB B_y5.out hb)
    have P1_y6 : Hid (PL y6 y6.heap.size a1 M1.props) := Lib.hid (GL.step P1_y5.out hb)
    have X_y6 : Hid (BK 24 y6 gX (msgC M1 a1 c1)) := Lib.hid (X_y5.out.step hb)
    clear V_y5 B_y5 P1_y5 X_y5
    clear hHeld hb
    go_wp2_with fail
    refine hK.out _ _ ⟨V_y6.out, X_y6.out⟩ (fun hHeld => ?_)
    clear hK K
    try simp only [Act.put, List.setIfInBounds_toArray, List.set_cons_zero, List.set_cons_succ]
    refine wpAnyH_ready (rs := [22]) (by kernel_rfl) (by simp) ?_
    refine (AllReadyH.cons (get_ops _ _ _ rfl) (fun K hK => ?_) AllReadyH.nil)
    go_simp
    refine (HD0.out y6 (HO.out.step B_y6.out) (GL.more (GL.below HS.out B_y6.out) (Below.size B_y6.out))).mono ?_
    rintro e y7 ⟨rfl, hb⟩
    have V_y7 : Hid (BK 24 y7 w.heap.size (msgC m a c)) := Lib.hid (V_y6.out.step hb)
    have B_y7 : Hid (Below w.heap.size w y7) := Lib.hid (stepB B_y6.out hb)
    have P1_y7 : Hid (PL y7 y7.heap.size a1 M1.props) := Lib.hid (GL.step P1_y6.out hb)
    have X_y7 : Hid (BK 24 y7 gX (msgC M1 a1 c1)) := Lib.hid (X_y6.out.step hb)
    clear V_y6 B_y6 P1_y6 X_y6
    clear hHeld hb
    go_wp2_with fail
    refine hK.out _ _ ⟨V_y7.out, X_y7.out⟩ (fun hHeld => ?_)
    clear hK K
    try simp only [Act.put, List.setIfInBounds_toArray, List.set_cons_zero, List.set_cons_succ]
    refine wpAnyH_take (i := 23) (v := .int .i64 ((dn : Int) + 1)) (get_ops _ _ _ rfl) (by kernel_rfl) (by kernel_rfl) (by kernel_rfl) (fun _ _ _ h => h) (Or.inl ⟨by rfl, fun wS hSw => by (try dsimp only at hSw); have hk1 := HKW.out; go_simp⟩) hHeld ?_
    try simp only [Act.put, List.setIfInBounds_toArray, List.set_cons_zero, List.set_cons_succ]
    refine wpAnyH_take (i := 24) (v := .int .i64 (nd : Int)) (get_ops _ _ _ rfl) (by kernel_rfl) (by kernel_rfl) (by kernel_rfl) (fun _ _ _ h => h) (Or.inl ⟨by rfl, fun wS hSw => by (try dsimp only at hSw); have hk2 := HK2.out; go_simp⟩) hHeld ?_
    try simp only [Act.put, List.setIfInBounds_toArray, List.set_cons_zero, List.set_cons_succ]
    refine wpAnyH_take (i := 25) (v := .bool false) (get_ops _ _ _ rfl) (by kernel_rfl) (by kernel_rfl) (by kernel_rfl) (fun _ _ _ h => h) (Or.inl ⟨by rfl, fun wS hSw => by (try dsimp only at hSw); go_simp⟩) hHeld ?_
    try simp only [Act.put, List.setIfInBounds_toArray, List.set_cons_zero, List.set_cons_succ]
    refine wpAnyH_take (i := 26) (v := .bool false) (get_ops _ _ _ rfl) (by kernel_rfl) (by kernel_rfl) (by kernel_rfl) (fun _ _ _ h => h) (Or.inl ⟨by rfl, fun wS hSw => by (try dsimp only at hSw); go_simp⟩) hHeld ?_
    try simp only [Act.put, List.setIfInBounds_toArray, List.set_cons_zero, List.set_cons_succ]
    refine wpAnyH_done (by kernel_rfl) ?_ _
    go_upto_region 7 with fail
    obtain ⟨y8, hy8⟩ : ∃ y8, y8 = World.drew y7 := ⟨_, rfl⟩
    have hbD : Below y7.heap.size y7 y8 := by rw [hy8]; exact (Below.refl _ _).drew
    have V_y8 : Hid (BK 24 y8 w.heap.size (msgC m a c)) := Lib.hid (V_y7.out.step hbD)
    have B_y8 : Hid (Below w.heap.size w y8) := Lib.hid (stepB B_y7.out hbD)
    have P1_y8 : Hid (PL y8 y8.heap.size a1 M1.props) := Lib.hid (GL.step P1_y7.out hbD)
    have X_y8 : Hid (BK 24 y8 gX (msgC M1 a1 c1)) := Lib.hid (X_y7.out.step hbD)
    clear V_y7 B_y7 P1_y7 X_y7
    have hbd : (fun w' => BK 24 w' w.heap.size (msgC m a c) ∧ BK 24 w' gX (msgC M1 a1 c1)) (World.drew y7) := by rw [← hy8]; exact ⟨V_y8.out, X_y8.out⟩
    have hSD : (fun w' => BK 24 w' w.heap.size (msgC m a c) ∧ BK 24 w' gX (msgC M1 a1 c1)) y8 := ⟨V_y8.out, X_y8.out⟩
    have HWD := Lib.hid hy8
    clear hy8 hbD
    refine wp_region_held_drew (S := fun w' => BK 24 w' w.heap.size (msgC m a c) ∧ BK 24 w' gX (msgC M1 a1 c1)) (by kernel_rfl) hbd (fun hHeld => ?_)
    rw [← HWD.out]
    clear hHeld
    have hHeld := hSD
    clear hSD hbd HWD
    refine wpAnyH_take (i := 0) (v := .pointer (some ⟨w.heap.size, 8, none⟩)) (get_ops _ _ _ rfl) (by kernel_rfl) (by kernel_rfl) (by kernel_rfl) (fun _ _ _ h => h) (Or.inl ⟨by rfl, fun wS hSw => by (try dsimp only at hSw); go_simp⟩) hHeld ?_
    try simp only [Act.put, List.setIfInBounds_toArray, List.set_cons_zero, List.set_cons_succ]
    refine wpAnyH_take (i := 1) (v := .slice a m.props.length c) (get_ops _ _ _ rfl) (by kernel_rfl) (by kernel_rfl) (by kernel_rfl) (fun _ _ _ h => h) (Or.inl ⟨by rfl, fun wS hSw => by (try dsimp only at hSw); have cS : wS.cell? ⟨w.heap.size, 8, none⟩ = some (.slice a m.props.length c) := hSw.1.cell 8 rfl; clear hSw; go_simp⟩) hHeld ?_
    try simp only [Act.put, List.setIfInBounds_toArray, List.set_cons_zero, List.set_cons_succ]
    refine wpAnyH_take (i := 3) (v := .pointer (some ⟨gX, 8, none⟩)) (get_ops _ _ _ rfl) (by kernel_rfl) (by kernel_rfl) (by kernel_rfl) (fun _ _ _ h => h) (Or.inl ⟨by rfl, fun wS hSw => by (try dsimp only at hSw); go_simp⟩) hHeld ?_
    try simp only [Act.put, List.setIfInBounds_toArray, List.set_cons_zero, List.set_cons_succ]
    refine wpAnyH_take (i := 4) (v := .slice a1 M1.props.length c1) (get_ops _ _ _ rfl) (by kernel_rfl) (by kernel_rfl) (by kernel_rfl) (fun _ _ _ h => h) (Or.inl ⟨by rfl, fun wS hSw => by (try dsimp only at hSw); have cS : wS.cell? ⟨gX, 8, none⟩ = some (.slice a1 M1.props.length c1) := hSw.2.cell 8 rfl; clear hSw; go_simp⟩) hHeld ?_
    try simp only [Act.put, List.setIfInBounds_toArray, List.set_cons_zero, List.set_cons_succ]
    refine wpAnyH_ready (rs := [2]) (by kernel_rfl) (by simp) ?_
    refine (AllReadyH.cons (get_ops _ _ _ rfl) (fun K hK => ?_) AllReadyH.nil)
    go_simp
    refine (HB0.out y8 (GL.more (GL.below HS.out B_y8.out) (Below.size B_y8.out))).mono ?_
    rintro e y9 ⟨v10, rfl, hown, hb⟩
    have V_y9 : Hid (BK 24 y9 w.heap.size (msgC m a c)) := Lib.hid (V_y8.out.step hb)
    have B_y9 : Hid (Below w.heap.size w y9) := Lib.hid (stepB B_y8.out hb)
    have P1_y9 : Hid (PL y9 y9.heap.size a1 M1.props) := Lib.hid (GL.step P1_y8.out hb)
    have X_y9 : Hid (BK 24 y9 gX (msgC M1 a1 c1)) := Lib.hid (X_y8.out.step hb)
    clear V_y8 B_y8 P1_y8 X_y8
    have O0_y9 : Hid (OwnP y9 y8.heap.size v10 RP) := Lib.hid hown
    clear hown
    clear hHeld hb
    go_wp2_with fail
    refine hK.out _ _ ⟨V_y9.out, X_y9.out⟩ (fun hHeld => ?_)
    clear hK K
    try simp only [Act.put, List.setIfInBounds_toArray, List.set_cons_zero, List.set_cons_succ]
    refine wpAnyH_ready (rs := [5]) (by kernel_rfl) (by simp) ?_
    refine (AllReadyH.cons (get_ops _ _ _ rfl) (fun K hK => ?_) AllReadyH.nil)
    go_simp
    refine (HB1.out a1 c1 y9 P1_y9.out).mono ?_
    rintro e y10 ⟨v11, rfl, hown, hb⟩
    have V_y10 : Hid (BK 24 y10 w.heap.size (msgC m a c)) := Lib.hid (V_y9.out.step hb)
    have B_y10 : Hid (Below w.heap.size w y10) := Lib.hid (stepB B_y9.out hb)
    have P1_y10 : Hid (PL y10 y10.heap.size a1 M1.props) := Lib.hid (GL.step P1_y9.out hb)
    have X_y10 : Hid (BK 24 y10 gX (msgC M1 a1 c1)) := Lib.hid (X_y9.out.step hb)
    have O0_y10 : Hid (OwnP y10 y8.heap.size v10 RP) := Lib.hid (OwnG.step O0_y9.out hb)
    clear V_y9 B_y9 P1_y9 X_y9 O0_y9
    have O1_y10 : Hid (OwnP y10 y9.heap.size v11 KP) := Lib.hid hown
    clear hown
    clear hHeld hb
    go_wp2_with fail
    refine hK.out _ _ ⟨V_y10.out, X_y10.out⟩ (fun hHeld => ?_)
    clear hK K
    try simp only [Act.put, List.setIfInBounds_toArray, List.set_cons_zero, List.set_cons_succ]
    refine wpAnyH_take (i := 6) (v := v10) (get_ops _ _ _ rfl) (by kernel_rfl) (by kernel_rfl) (by kernel_rfl) (fun _ _ _ h => h) (Or.inl ⟨by rfl, fun wS hSw => by (try dsimp only at hSw); go_simp⟩) hHeld ?_
    try simp only [Act.put, List.setIfInBounds_toArray, List.set_cons_zero, List.set_cons_succ]
    refine wpAnyH_take (i := 7) (v := v11) (get_ops _ _ _ rfl) (by kernel_rfl) (by kernel_rfl) (by kernel_rfl) (fun _ _ _ h => h) (Or.inl ⟨by rfl, fun wS hSw => by (try dsimp only at hSw); go_simp⟩) hHeld ?_
    try simp only [Act.put, List.setIfInBounds_toArray, List.set_cons_zero, List.set_cons_succ]
    refine wpAnyH_done (by kernel_rfl) ?_ _
    obtain ⟨k, hk⟩ : ∃ k : Nat, min (RP.length : Int) 6 = (k : Int) := by
      by_cases h : (6 : Int) < (RP.length : Int)
      · exact ⟨6, by omega⟩
      · exact ⟨RP.length, by omega⟩
    have hk2 : k ≤ RP.length := by omega
    have hk3 : RP.take k = KP := by
      rw [HKP.out]
      by_cases h : 6 < RP.length
      · rw [show k = 6 by omega]
      · rw [List.take_of_length_le (by omega), List.take_of_length_le (by omega)]
    obtain ⟨A3, c3, hv3, hkc, hown3, hcut⟩ := take_own O0_y10.out k hk2
    subst hv3
    rw [hk3] at hown3
    have hkl : KP.length = k := by rw [← hk3, List.length_take]; omega
    obtain ⟨A4, c4, e4, hpl3, _⟩ := own_new hown3
    rw [hkl] at e4
    simp only [Value.slice.injEq, true_and] at e4
    obtain ⟨rfl, rfl⟩ := e4
    obtain ⟨A11, c11, hv11, hpl11, _⟩ := own_new O1_y10.out
    subst hv11
    have HE1 := Lib.hid (HEQ.out A11 A3 c11 c3 y10 hpl11 hpl3)
    rw [hkl] at HE1
    have hkl2 := Lib.hid hkl
    have s0 : (0 : Int) ≤ (k : Int) := by omega
    have s1 : (k : Int) ≤ (c3 : Int) := by omega
    have s2 : (k : Int) ≤ (RP.length : Int) := by omega
    have O1_y10 : Hid (OwnP y10 _ (.slice A11 k c11) KP) := Lib.hid (by have h := O1_y10.out; rw [hkl] at h; exact h)
    rw [hkl]
    clear hk2 hk3 hown3 hkl hkc hpl3 hpl11
    clear O0_y10
    go_wp2_with fail
    refine (HE1.out).mono ?_
    rintro e y11 ⟨rfl, hb⟩
    have V_y11 : Hid (BK 24 y11 w.heap.size (msgC m a c)) := Lib.hid (V_y10.out.step hb)
    have B_y11 : Hid (Below w.heap.size w y11) := Lib.hid (stepB B_y10.out hb)
    have P1_y11 : Hid (PL y11 y11.heap.size a1 M1.props) := Lib.hid (GL.step P1_y10.out hb)
    have X_y11 : Hid (BK 24 y11 gX (msgC M1 a1 c1)) := Lib.hid (X_y10.out.step hb)
    have O1_y11 : Hid (OwnP y11 y9.heap.size (.slice A11 k c11) KP) := Lib.hid (OwnG.step O1_y10.out hb)
    clear V_y10 B_y10 P1_y10 X_y10 O1_y10
    clear hb
    clear hcut s0 s1 s2 hk
    go_wp2_with first
      | (refine wpList_load_v (by rfl) 24 (.tmp 7) rfl ⟨gX, 0, none⟩ rfl (.agg (msgC M1 a1 c1).toArray) (S2.run_load_all X_y11.out Tryz.underlying24 rfl msgSize) ?_)
    have HQ3 := Lib.hid (HM2.out a1 c1 y11 (HO.out.step B_y11.out) P1_y11.out)
    rw [HV.out] at HQ3
    refine HQ3.out.mono ?_
    rintro e y12 ⟨a2, c2, rfl, hpl, hnw, hb⟩
    have V_y12 : Hid (BK 24 y12 w.heap.size (msgC m a c)) := Lib.hid (V_y11.out.step hb)
    have B_y12 : Hid (Below w.heap.size w y12) := Lib.hid (stepB B_y11.out hb)
    have P1_y12 : Hid (PL y12 y12.heap.size a1 M1.props) := Lib.hid (GL.step P1_y11.out hb)
    have X_y12 : Hid (BK 24 y12 gX (msgC M1 a1 c1)) := Lib.hid (X_y11.out.step hb)
    have O1_y12 : Hid (OwnP y12 y9.heap.size (.slice A11 k c11) KP) := Lib.hid (OwnG.step O1_y11.out hb)
    clear V_y11 B_y11 P1_y11 X_y11 O1_y11
    have P2_y12 : Hid (PL y12 y12.heap.size a2 M2.props) := Lib.hid (hpl)
    clear hpl hnw
    clear hb
    have LVY : Hid (w.heap.size < y12.heap.size) := Lib.hid V_y12.out.lt
    go_upto_region 11 with first
      | (refine S2.wpList_store_all (by rfl) 24 (.tmp 12) (.tmp 72) rfl rfl (y12.heap.size) rfl (msgC M2 a2 c2) rfl 24 _ (BK.new y12 _ _) msgSize rfl (msgC_one _ _ _) ?_; intro y13 hM hP; have hb : Below y12.heap.size y12 y13 := hP.below (S2.below_new y12 _) (Nat.le_refl _); have V_y13 : Hid (BK 24 y13 w.heap.size (msgC m a c)) := Lib.hid (V_y12.out.step hb); have B_y13 : Hid (Below w.heap.size w y13) := Lib.hid (stepB B_y12.out hb); have P1_y13 : Hid (PL y13 y13.heap.size a1 M1.props) := Lib.hid (GL.step P1_y12.out hb); have X_y13 : Hid (BK 24 y13 gX (msgC M1 a1 c1)) := Lib.hid (X_y12.out.step hb); have O1_y13 : Hid (OwnP y13 y9.heap.size (.slice A11 k c11) KP) := Lib.hid (OwnG.step O1_y12.out hb); have P2_y13 : Hid (PL y13 y13.heap.size a2 M2.props) := Lib.hid (GL.step P2_y12.out hb); have Y_y13 : Hid (BK 24 y13 (y12.heap.size) (msgC M2 a2 c2)) := Lib.hid hM; clear hM hP hb V_y12 B_y12 P1_y12 X_y12 O1_y12 P2_y12)
    obtain ⟨gY, hgY⟩ : ∃ gY, gY = y12.heap.size := ⟨_, rfl⟩
    rw [← hgY] at LVY
    rw [← hgY] at Y_y13
    try rw [← hgY]
    clear hgY
    have d8 : y13.cell? ⟨gY, 8, none⟩ = some (.slice a2 M2.props.length c2) := Y_y13.out.cell 8 rfl
    go_wp2_with fail
    clear d8
    refine (HB2.out a2 c2 y13 P2_y13.out).mono ?_
    rintro e y14 ⟨v12, rfl, hown, hb⟩
    have V_y14 : Hid (BK 24 y14 w.heap.size (msgC m a c)) := Lib.hid (V_y13.out.step hb)
    have B_y14 : Hid (Below w.heap.size w y14) := Lib.hid (stepB B_y13.out hb)
    have P1_y14 : Hid (PL y14 y14.heap.size a1 M1.props) := Lib.hid (GL.step P1_y13.out hb)
    have X_y14 : Hid (BK 24 y14 gX (msgC M1 a1 c1)) := Lib.hid (X_y13.out.step hb)
    have O1_y14 : Hid (OwnP y14 y9.heap.size (.slice A11 k c11) KP) := Lib.hid (OwnG.step O1_y13.out hb)
    have P2_y14 : Hid (PL y14 y14.heap.size a2 M2.props) := Lib.hid (GL.step P2_y13.out hb)
    have Y_y14 : Hid (BK 24 y14 gY (msgC M2 a2 c2)) := Lib.hid (Y_y13.out.step hb)
    clear V_y13 B_y13 P1_y13 X_y13 O1_y13 P2_y13 Y_y13
    obtain ⟨A12, c12, hv12, hpl12, _⟩ := own_new hown
    subst hv12
    rw [hkl2.out] at hown ⊢
    obtain ⟨A13, c13, e13, hpl11, _⟩ := own_new O1_y14.out
    rw [hkl2.out] at e13
    simp only [Value.slice.injEq, true_and] at e13
    obtain ⟨rfl, rfl⟩ := e13
    have HE2 := Lib.hid (HEQ.out A12 A11 c12 c11 y14 hpl12 hpl11)
    rw [hkl2.out] at HE2
    clear hb hown hpl12 hpl11
    clear O1_y14 P2_y14 Y_y14
    go_wp2_with fail
    refine (HE2.out).mono ?_
    rintro e y15 ⟨rfl, hb⟩
    have V_y15 : Hid (BK 24 y15 w.heap.size (msgC m a c)) := Lib.hid (V_y14.out.step hb)
    have B_y15 : Hid (Below w.heap.size w y15) := Lib.hid (stepB B_y14.out hb)
    have P1_y15 : Hid (PL y15 y15.heap.size a1 M1.props) := Lib.hid (GL.step P1_y14.out hb)
    have X_y15 : Hid (BK 24 y15 gX (msgC M1 a1 c1)) := Lib.hid (X_y14.out.step hb)
    clear V_y14 B_y14 P1_y14 X_y14
    clear hb
    have d5 : y15.cell? ⟨w.heap.size, 5, none⟩ = some (.int .i64 m.exps) := V_y15.out.cell 5 rfl
    go_upto_region 14 with first
      | (refine wpList_store_row (by rfl) 3 (.tmp 81) (.tmp 80) rfl rfl gX 5 1 rfl (.int .i64 m.exps) rfl 24 _ [.int .i64 m.exps] X_y15.out rfl rfl (by kernel_rfl) (by show 6 ≤ 9; decide) (ones rfl) ?_; intro y16 hM hP hk; have X_y16 : Hid (BK 24 y16 gX (msgC { M1 with exps := m.exps } a1 c1)) := Lib.hid hM; have V_y16 := Lib.hid (hP.other V_y15.out (by have := LVX.out; omega)); have B_y16 : Hid (Below w.heap.size w y16) := Lib.hid (hP.below B_y15.out (Nat.le_of_lt LVX.out)); clear hM hP hk)
    clear d5
    clear X_y15 V_y15 B_y15 P1_y15
    have d8 : y16.cell? ⟨w.heap.size, 8, none⟩ = some (.slice a m.props.length c) := V_y16.out.cell 8 rfl
    go_upto_region 15 with first
      | (refine wpList_store_row (by rfl) 22 (.tmp 84) (.tmp 83) rfl rfl gX 8 1 rfl (.slice a m.props.length c) rfl 24 _ [.slice a m.props.length c] X_y16.out rfl rfl (by kernel_rfl) (by show 9 ≤ 9; decide) (ones rfl) ?_; intro y17 hM hP hk; rw [msgC8] at hM; have X_y17 : Hid (BK 24 y17 gX (msgC m a c)) := Lib.hid (by rw [HMX.out] at hM; exact hM); have V_y17 := Lib.hid (hP.other V_y16.out (by have := LVX.out; omega)); have B_y17 : Hid (Below w.heap.size w y17) := Lib.hid (hP.below B_y16.out (Nat.le_of_lt LVX.out)); clear hM hP hk)
    clear d8 X_y16 V_y16 B_y16
    have HQ5 := Lib.hid (HSM.out y17 (GL.more (GL.below HS.out B_y17.out) B_y17.out.size))
    rw [HV.out] at HQ5
    go_wp2_with first
      | (refine wpList_load_v (by rfl) 24 (.tmp 7) rfl ⟨gX, 0, none⟩ rfl (.agg (msgC m a c).toArray) (S2.run_load_all X_y17.out Tryz.underlying24 rfl msgSize) ?_)
      | (refine wpList_load_v (by rfl) 24 (.tmp 4) rfl ⟨w.heap.size, 0, none⟩ rfl (.agg (msgC m a c).toArray) (S2.run_load_all V_y17.out Tryz.underlying24 rfl msgSize) ?_)
    refine (HQ5.out).mono ?_
    rintro e y18 ⟨rfl, hb⟩
    have V_y18 : Hid (BK 24 y18 w.heap.size (msgC m a c)) := Lib.hid (V_y17.out.step hb)
    have B_y18 : Hid (Below w.heap.size w y18) := Lib.hid (stepB B_y17.out hb)
    have X_y18 : Hid (BK 24 y18 gX (msgC m a c)) := Lib.hid (X_y17.out.step hb)
    clear V_y17 B_y17 X_y17
    clear hb
    go_wp2_with fail
    refine (HX.out y18 (HO.out.step B_y18.out)).mono ?_
    rintro e y19 ⟨rfl, hb⟩
    have V_y19 : Hid (BK 24 y19 w.heap.size (msgC m a c)) := Lib.hid (V_y18.out.step hb)
    have B_y19 : Hid (Below w.heap.size w y19) := Lib.hid (stepB B_y18.out hb)
    have X_y19 : Hid (BK 24 y19 gX (msgC m a c)) := Lib.hid (X_y18.out.step hb)
    clear V_y18 B_y18 X_y18
    clear hb
    go_wp2
    go_ret
    exact ⟨rfl, B_y19.out⟩

end Go.Proofs.YthpplhhlhheopabGreatDoor
