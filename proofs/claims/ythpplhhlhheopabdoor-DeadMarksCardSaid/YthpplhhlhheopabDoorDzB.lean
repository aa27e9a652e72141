/-
  What Deaths, From and Again of dead and of its reference answer. Conditions: the properties read as data; texts have at most a million bytes.
-/
import Derived.Test.YthpplhhlhheopabDoorDzO
namespace Go.Proofs.YthpplhhlhheopabDoor
open Go.RowKit
open S2 (BK Put)

set_option maxHeartbeats 2000000 in
theorem rget_any (m : Msg) (A : Option Addr) (c : Nat) (key : ByteArray) (w : World) (hsl : PL w w.heap.size A m.props) (hn : m.props.length ≤ 9223372036854775806) :
    Calls Tryd.prog 29 #[msgV m A c, .string key] w fun e w' => e = .returned (.string (getR m.props key).1) ∧ Below w.heap.size w w' := by
  unfold msgV
  generalize m.props = l at hsl hn ⊢
  have HS := Lib.hid hsl
  have HM := Lib.hid hn
  clear hsl
  go_enter Tryd.func29, Tryd.ntmps29
  go_upto_region 1 with fail
  refine name_world (C := fun w1 => Code.wp _ _ _ _ w1) (w.alloc (.cells #[.string m.topic, .string m.payload, .int .i64 m.level, .bool m.retain, .int .i64 m.prio, .int .i64 m.exps, .string m.frm, .int .i64 m.seq, .slice A l.length c] 26)) ?_
  intro w1 hw1
  have hb1 : Below w.heap.size w w1 := by rw [hw1]; exact S2.below_new w _
  have B_w1 := Lib.hid hb1
  have P_w1 : Hid (PL w1 w1.heap.size A l) := Lib.hid (GL.step HS.out hb1)
  have V_w1 : Hid (BK 26 w1 w.heap.size [.string m.topic, .string m.payload, .int .i64 m.level, .bool m.retain, .int .i64 m.prio, .int .i64 m.exps, .string m.frm, .int .i64 m.seq, .slice A l.length c]) := Lib.hid (by rw [hw1]; exact BK.new w _ _)
  clear hw1 hb1
  have d8 := V_w1.out.cell 8 rfl
  go_wp2
  clear d8
  go_loopg [10] l.length (fun g v wr => ∃ k : Nat, k + g = l.length ∧ v = .int .i64 k ∧ GetRel l key k ∧ Below w1.heap.size w1 wr)
  case atStart => exact ⟨0, by omega, rfl, GetRel.start _ _, Below.refl _ _⟩
  case round =>
    obtain ⟨k, hkg, rfl, hrel, hb⟩ := hrel
    have HR := Lib.hid hrel
    have HB := Lib.hid hb
    have HG := Lib.hid hkg
    clear hrel
    cases gk with
    | zero =>
      obtain rfl : k = l.length := by omega
      have HV := Lib.hid (GetRel.done HR.out)
      clear hkg hb
      go_wp2
      go_ret
      exact ⟨by rw [HV.out]; rfl, stepB B_w1.out HB.out⟩
    | succ g =>
      have hlt : k < l.length := by omega
      have e3 : decide ((k : Int) < (l.length : Int)) = true := decide_eq_true (by omega)
      obtain ⟨x, hx⟩ : ∃ x, l[k]? = some x := ⟨_, List.getElem?_eq_getElem hlt⟩
      obtain ⟨b, o, hA, hbB, kk, kv⟩ := PL.at_ (P_w1.out.step hb) hx
      subst hA
      have j1 : (0 : Int) ≤ (k : Int) := by omega
      have j2 : (k : Int) < (l.length : Int) := by omega
      have HX := Lib.hid hx
      by_cases he : x.1 = key
      · have HV := Lib.hid (HR.out.yes HX.out he)
        have q1 := streq_yes he
        clear hkg hb hx he
        go_wp2
        go_ret
        exact ⟨by rw [HV.out]; rfl, stepB B_w1.out (stepB HB.out ((Below.refl _ _).alloc (Nat.le_refl _) _))⟩
      · have HV := Lib.hid (HR.out.next HX.out he)
        have q1 := streq_no he
        clear hkg hb hx he
        go_wp2
        go_roundg g
        case measure => omega
        case rel => exact ⟨k + 1, by have := HG.out; omega, by go_num, HV.out, stepB HB.out ((Below.refl _ _).alloc (Nat.le_refl _) _)⟩

theorem getR_size {l : List PR} {key : ByteArray} {M : Nat} (h : ∀ x ∈ l, x.2.size ≤ M) : (getR l key).1.size ≤ M := by
  induction l with
  | nil => exact Nat.zero_le _
  | cons x r ih =>
    rw [getR_cons]
    split
    · exact h x (by simp)
    · exact ih fun y hy => h y (by simp [hy])
theorem itoa_cmp (v : Int) (s : ByteArray) : (ByteArray.toList ⟨(Lib.itoa v).toArray⟩ == s.toList) = decide (Lib.itoa v = dl s) := by
  rw [eq_data]
  by_cases h : Lib.itoa v = dl s
  · rw [decide_eq_true h, decide_eq_true (dl_inj (by rw [← h]; simp [dl]))]
  · rw [decide_eq_false h, decide_eq_false (fun e => h (by rw [← e]; simp [dl]))]

set_option maxHeartbeats 4000000 in
theorem dDeaths_any (m : Msg) (A : Option Addr) (c : Nat) (w : World) (hw : Okd w) (hsl : PL w w.heap.size A m.props) (hn : m.props.length ≤ 9223372036854775806) (hz : ∀ x ∈ m.props, x.2.size ≤ 1000000) :
    Calls Tryd.prog 13 #[msgV m A c] w fun e w' => e = .returned (.int .i64 (deathsM m : Nat)) ∧ Below w.heap.size w w' := by
  have HS := Lib.hid hsl
  have HO := Lib.hid hw
  have HGT := Lib.hid (fun w1 h => get_any A c m.props kDeaths w1 h hn)
  have hs := getR_size (key := kDeaths) hz
  unfold deathsM
  unfold retG at HGT
  obtain ⟨s, hs1⟩ : ∃ s, (getR m.props kDeaths).1 = s := ⟨_, rfl⟩
  obtain ⟨b, hb1⟩ : ∃ b, (getR m.props kDeaths).2 = b := ⟨_, rfl⟩
  rw [hs1, hb1] at HGT
  rw [hs1] at hs ⊢
  obtain ⟨R, hR⟩ : ∃ R : Int, ((deathsT s : Nat) : Int) = R := ⟨_, rfl⟩
  rw [hR]
  have HR := Lib.hid hR
  clear hR
  clear hsl hw hn hz hs1 hb1
  unfold kDeaths at HGT
  have HV : Hid (msgV m A c = .agg (msgC m A c).toArray) := Lib.hid rfl
  rw [HV.out]
  clear HV
  by_cases hok : ∃ v, Lib.atoiAll (dl s) = .ok v
  · obtain ⟨v, hv⟩ := hok
    have HD := Lib.hid (deaths_ok hv)
    have hvb := Lib.atoiAll_bounds hv
    have HAT := Lib.hid (fun w1 => atoi_ok s hs v hv w1)
    have HIT := Lib.hid (fun w1 h => itoa_any v hvb.1 hvb.2 w1 h)
    have q1 := itoa_cmp v s
    obtain ⟨T, hT⟩ : ∃ T : ByteArray, T = ⟨(Lib.itoa v).toArray⟩ := ⟨_, rfl⟩
    rw [← hT] at HIT q1
    obtain ⟨bT, hbT⟩ : ∃ b, decide (Lib.itoa v = dl s) = b := ⟨_, rfl⟩
    rw [hbT] at q1
    have HBT := Lib.hid hbT
    clear hv hvb hs hT hbT
    go_enter Tryd.func13, Tryd.ntmps13
    go_upto_region 1 with fail
    refine name_world (C := fun w1 => Code.wp _ _ _ _ w1) (w.alloc (.cells (msgC m A c).toArray 26)) ?_
    intro w1 hw1
    have hb1 : Below w.heap.size w w1 := by rw [hw1]; exact S2.below_new w _
    have B_w1 := Lib.hid hb1
    have P_w1 : Hid (PL w1 w1.heap.size A m.props) := Lib.hid (GL.step HS.out hb1)
    have V_w1 : Hid (BK 26 w1 w.heap.size (msgC m A c)) := Lib.hid (by rw [hw1]; exact BK.new w _ _)
    have O_w1 : Hid (Okd w1) := Lib.hid (HO.out.step hb1)
    clear hw1 hb1
    have d8 := V_w1.out.cell 8 rfl
    go_wp2_with fail
    refine (HGT.out w1 P_w1.out).mono ?_
    rintro e w2 ⟨rfl, hb⟩
    have B_w2 := Lib.hid (stepB B_w1.out hb)
    have O_w2 := Lib.hid (O_w1.out.step hb)
    clear hb d8
    go_wp2_with fail
    refine (HAT.out w2).mono ?_
    rintro e w3 ⟨rfl, hb⟩
    have B_w3 := Lib.hid (stepB B_w2.out hb)
    have O_w3 := Lib.hid (O_w2.out.step hb)
    clear hb
    go_wp2_with fail
    refine (HIT.out w3 O_w3.out).mono ?_
    rintro e w4 ⟨rfl, hb⟩
    have B_w4 := Lib.hid (stepB B_w3.out hb)
    clear hb
    cases bT with
    | false =>
      obtain rfl : R = 0 := by rw [← HR.out, ← HD.out, if_neg (fun h => of_decide_eq_false HBT.out h.1)]
      go_wp2
      go_ret
      exact ⟨rfl, B_w4.out⟩
    | true =>
      have hit := of_decide_eq_true HBT.out
      by_cases h0 : v < 0
      · have q2 : decide (v < 0) = true := decide_eq_true h0
        obtain rfl : R = 0 := by rw [← HR.out, ← HD.out, if_neg (fun h => by omega)]
        clear h0 hit
        go_wp2
        go_ret
        exact ⟨rfl, B_w4.out⟩
      have q2 : decide (v < 0) = false := decide_eq_false h0
      by_cases h1 : 1099511627776 < v
      · have q3 : decide ((1099511627776 : Int) < v) = true := decide_eq_true h1
        obtain rfl : R = 0 := by rw [← HR.out, ← HD.out, if_neg (fun h => by omega)]
        clear h0 h1 hit
        go_wp2
        go_ret
        exact ⟨rfl, B_w4.out⟩
      have q3 : decide ((1099511627776 : Int) < v) = false := decide_eq_false h1
      obtain rfl : v = R := by rw [← HR.out, ← HD.out, if_pos ⟨hit, by omega, by omega⟩]
      clear h0 h1 hit
      go_wp2
      go_ret
      exact ⟨rfl, B_w4.out⟩
  · obtain rfl : R = 0 := by
      have hz0 : deathsT s = 0 := deaths_bad fun v hv => hok ⟨v, hv⟩
      rw [← HR.out, hz0]; rfl
    have HAT := Lib.hid (fun w1 h => atoi_bad s hs (fun v hv => hok ⟨v, hv⟩) w1 h)
    clear hok hs
    go_enter Tryd.func13, Tryd.ntmps13
    go_upto_region 1 with fail
    refine name_world (C := fun w1 => Code.wp _ _ _ _ w1) (w.alloc (.cells (msgC m A c).toArray 26)) ?_
    intro w1 hw1
    have hb1 : Below w.heap.size w w1 := by rw [hw1]; exact S2.below_new w _
    have B_w1 := Lib.hid hb1
    have P_w1 : Hid (PL w1 w1.heap.size A m.props) := Lib.hid (GL.step HS.out hb1)
    have V_w1 : Hid (BK 26 w1 w.heap.size (msgC m A c)) := Lib.hid (by rw [hw1]; exact BK.new w _ _)
    have O_w1 : Hid (Okd w1) := Lib.hid (HO.out.step hb1)
    clear hw1 hb1
    have d8 := V_w1.out.cell 8 rfl
    go_wp2_with fail
    refine (HGT.out w1 P_w1.out).mono ?_
    rintro e w2 ⟨rfl, hb⟩
    have B_w2 := Lib.hid (stepB B_w1.out hb)
    have O_w2 := Lib.hid (O_w1.out.step hb)
    clear hb d8
    go_wp2_with fail
    refine (HAT.out w2 O_w2.out).mono ?_
    rintro e w3 ⟨v, N, rfl, hb⟩
    have B_w3 := Lib.hid (stepB B_w2.out hb)
    clear hb
    go_wp2
    go_ret
    exact ⟨rfl, B_w3.out⟩

theorem dec_cmp (n : Nat) (s : ByteArray) : ((numT n).toList == s.toList) = decide (Lib.decDigits n = dl s) := by
  have := itoa_cmp (n : Int) s
  rw [Lib.itoa_nonneg] at this
  exact this
set_option maxHeartbeats 4000000 in
theorem rDeaths_any (m : Msg) (A : Option Addr) (c : Nat) (w : World) (hw : Okd w) (hsl : PL w w.heap.size A m.props) (hn : m.props.length ≤ 9223372036854775806) (hz : ∀ x ∈ m.props, x.2.size ≤ 1000000) :
    Calls Tryd.prog 14 #[msgV m A c] w fun e w' => e = .returned (.int .i64 (deathsM m : Nat)) ∧ Below w.heap.size w w' := by
  have HS := Lib.hid hsl
  have HO := Lib.hid hw
  have HGT := Lib.hid (fun w1 h => rget_any m A c kDeaths w1 h hn)
  have hs := getR_size (key := kDeaths) hz
  unfold deathsM
  obtain ⟨s, hs1⟩ : ∃ s, (getR m.props kDeaths).1 = s := ⟨_, rfl⟩
  rw [hs1] at HGT hs ⊢
  obtain ⟨R, hR⟩ : ∃ R : Int, ((deathsT s : Nat) : Int) = R := ⟨_, rfl⟩
  rw [hR]
  have HR := Lib.hid hR
  clear hR
  clear hsl hw hn hz hs1
  unfold kDeaths at HGT
  have HV : Hid (msgV m A c = .agg (msgC m A c).toArray) := Lib.hid rfl
  rw [HV.out] at HGT ⊢
  go_enter Tryd.func14, Tryd.ntmps14
  go_upto_region 1 with fail
  refine name_world (C := fun w1 => Code.wp _ _ _ _ w1) (w.alloc (.cells (msgC m A c).toArray 26)) ?_
  intro w1 hw1
  have hb1 : Below w.heap.size w w1 := by rw [hw1]; exact S2.below_new w _
  have B_w1 := Lib.hid hb1
  have P_w1 : Hid (PL w1 w1.heap.size A m.props) := Lib.hid (GL.step HS.out hb1)
  have V_w1 : Hid (BK 26 w1 w.heap.size (msgC m A c)) := Lib.hid (by rw [hw1]; exact BK.new w _ _)
  have O_w1 : Hid (Okd w1) := Lib.hid (HO.out.step hb1)
  clear hw1 hb1
  have HLM := Lib.hid (S2.run_load_all V_w1.out Tryd.underlying26 rfl msgSize)
  go_wp2_with first
    | (refine wpList_load_v (by rfl) 26 _ rfl ⟨w.heap.size, 0, none⟩ (by first | rfl | go_simp) _ HLM.out ?_)
  refine (HGT.out w1 P_w1.out).mono ?_
  rintro e w2 ⟨rfl, hb⟩
  have B_w2 := Lib.hid (stepB B_w1.out hb)
  have O_w2 := Lib.hid (O_w1.out.step hb)
  clear hb HLM
  by_cases h0 : s.size < 1
  · have q0 : decide ((s.size : Int) < 1) = true := decide_eq_true (by omega)
    obtain rfl : R = 0 := by
      have hz0 : deathsT s = 0 := deaths_len (.inl h0)
      rw [← HR.out, hz0]; rfl
    clear h0 hs
    go_wp2
    go_ret
    exact ⟨rfl, B_w2.out⟩
  have q0 : decide ((s.size : Int) < 1) = false := decide_eq_false (by omega)
  by_cases h13 : 13 < s.size
  · have q1 : decide ((13 : Int) < (s.size : Int)) = true := decide_eq_true (by omega)
    obtain rfl : R = 0 := by
      have hz0 : deathsT s = 0 := deaths_len (.inr h13)
      rw [← HR.out, hz0]; rfl
    clear h0 h13 hs
    go_wp2
    go_ret
    exact ⟨rfl, B_w2.out⟩
  have q1 : decide ((13 : Int) < (s.size : Int)) = false := decide_eq_false (by omega)
  have HZ1 : Hid (1 ≤ s.size ∧ s.size ≤ 13) := Lib.hid ⟨by omega, by omega⟩
  clear h0 h13 hs
  go_wp2
  go_loopg [4, 18] s.size (fun g u v wr => ∃ i n : Nat, i + g = s.size ∧ v = .int .i64 i ∧ u = .int .i64 n ∧ Spell s i n ∧ wr = w2)
  case atStart => exact ⟨0, 0, by omega, rfl, rfl, Spell.zero s, rfl⟩
  case round =>
    obtain ⟨i, n, hig, rfl, rfl, hno, rfl⟩ := hrel
    have HN := Lib.hid hno
    have HG := Lib.hid hig
    clear hno
    cases gk with
    | zero =>
      obtain rfl : i = s.size := by omega
      have e3 : decide ((s.size : Int) < (s.size : Int)) = false := decide_eq_false (by omega)
      have hn13 := HN.out.lt HZ1.out.2
      have HIT := Lib.hid (fun w1 h => itoa_any (n : Int) (by omega) (by omega) w1 h)
      rw [Lib.itoa_nonneg] at HIT
      have HD := Lib.hid (Spell.done HN.out HZ1.out.1)
      have q5 := dec_cmp n s
      unfold numT at q5
      obtain ⟨T, hT⟩ : ∃ T : ByteArray, T = ⟨(Lib.decDigits n).toArray⟩ := ⟨_, rfl⟩
      rw [← hT] at HIT q5
      obtain ⟨bT, hbT⟩ : ∃ b, decide (Lib.decDigits n = dl s) = b := ⟨_, rfl⟩
      rw [hbT] at q5
      have HBT := Lib.hid hbT
      clear hT hbT hig
      go_wp2_with fail
      refine (HIT.out _ O_w2.out).mono ?_
      rintro e w4 ⟨rfl, hb⟩
      have B_w4 := Lib.hid (stepB B_w2.out hb)
      clear hb
      cases bT with
      | false =>
        obtain rfl : R = 0 := by
          have hz0 : deathsT s = 0 := by rw [HD.out, if_neg (fun h => of_decide_eq_false HBT.out h.1)]
          rw [← HR.out, hz0]; rfl
        clear hn13
        go_wp2
        go_ret
        exact ⟨rfl, B_w4.out⟩
      | true =>
        have hit := of_decide_eq_true HBT.out
        by_cases h1 : 1099511627776 < n
        · have q3 : decide ((1099511627776 : Int) < (n : Int)) = true := decide_eq_true (by omega)
          obtain rfl : R = 0 := by
            have hz0 : deathsT s = 0 := by rw [HD.out, if_neg (fun h => by omega)]
            rw [← HR.out, hz0]; rfl
          clear h1 hit hn13
          go_wp2
          go_ret
          exact ⟨rfl, B_w4.out⟩
        have q3 : decide ((1099511627776 : Int) < (n : Int)) = false := decide_eq_false (by omega)
        obtain rfl : R = (n : Int) := by
          have hz0 : deathsT s = n := by rw [HD.out, if_pos ⟨hit, by omega⟩]
          rw [← HR.out, hz0]
        clear h1 hit hn13
        go_wp2
        go_ret
        exact ⟨rfl, B_w4.out⟩
    | succ g =>
      have hlt : i < s.size := by omega
      have e3 : decide ((i : Int) < (s.size : Int)) = true := decide_eq_true (by omega)
      have j1 : (0 : Int) ≤ (i : Int) := by omega
      have j2 : (i : Int) < (s.size : Int) := by omega
      obtain ⟨x, hx⟩ : ∃ x : UInt8, s[i]'hlt = x := ⟨_, rfl⟩
      have HX : Hid ((dl s)[i]? = some x) := Lib.hid (by
        have h1 : i < (dl s).length := by rw [← size_dl]; exact hlt
        rw [List.getElem?_eq_getElem h1, ← hx]
        rfl)
      have hn13 := HN.out.lt (by have := HZ1.out.2; omega)
      by_cases h48 : x.toNat < 48
      · have q5 : decide ((x.toNat : Int) < 48) = true := decide_eq_true (by omega)
        obtain rfl : R = 0 := by
          have hz0 : deathsT s = 0 := deaths_char HX.out (.inl h48)
          rw [← HR.out, hz0]; rfl
        clear h48 hn13 hig
        go_wp2
        go_ret
        exact ⟨rfl, B_w2.out⟩
      have q5 : decide ((x.toNat : Int) < 48) = false := decide_eq_false (by omega)
      by_cases h57 : 57 < x.toNat
      · have q6 : decide ((57 : Int) < (x.toNat : Int)) = true := decide_eq_true (by omega)
        obtain rfl : R = 0 := by
          have hz0 : deathsT s = 0 := deaths_char HX.out (.inr h57)
          rw [← HR.out, hz0]; rfl
        clear h48 h57 hn13 hig
        go_wp2
        go_ret
        exact ⟨rfl, B_w2.out⟩
      have q6 : decide ((57 : Int) < (x.toNat : Int)) = false := decide_eq_false (by omega)
      have HS2 := Lib.hid (HN.out.succ HX.out (by omega) (by omega))
      have hxb : x.toNat < 256 := x.toNat_lt
      have hi13 : i < 13 := by have := HZ1.out.2; omega
      have k1 : wrap64 (10 * (n : Int)) = 10 * (n : Int) := wrap64_id _ (by omega) (by omega)
      have k2 : IntKind.u8.wrap ((x.toNat : Int) - 48) = ((x.toNat - 48 : Nat) : Int) := by
        show ((x.toNat : Int) - 48) % 256 = _
        omega
      have k3 : wrap64 ((x.toNat - 48 : Nat) : Int) = ((x.toNat - 48 : Nat) : Int) := wrap64_id _ (by omega) (by omega)
      have k4 : wrap64 (10 * (n : Int) + ((x.toNat - 48 : Nat) : Int)) = ((10 * n + (x.toNat - 48) : Nat) : Int) := by rw [wrap64_id _ (by omega) (by omega)]; omega
      have k5 : wrap64 ((i : Int) + 1) = ((i + 1 : Nat) : Int) := by rw [wrap64_id _ (by omega) (by omega)]; rfl
      generalize hd : x.toNat - 48 = d at k2 k3 k4 HS2
      clear h48 h57 hn13 hig
      go_wp2
      go_roundg g
      case measure => omega
      case rel => exact ⟨i + 1, 10 * n + d, by have := HG.out; omega, (by first | rfl | rw [k5]), (by first | rfl | rw [k4]), HS2.out, rfl⟩

theorem dAgain_any (m : Msg) (A : Option Addr) (c : Nat) (w : World) (hw : Okd w) (hsl : PL w w.heap.size A m.props) (hn : m.props.length ≤ 9223372036854775806) (hz : ∀ x ∈ m.props, x.2.size ≤ 1000000) :
    Calls Tryd.prog 15 #[msgV m A c] w fun e w' => e = .returned (.bool (againM m)) ∧ Below w.heap.size w w' := by
  have HS := Lib.hid hsl
  have HO := Lib.hid hw
  have HD := Lib.hid (fun w1 h1 h2 => dDeaths_any m A c w1 h1 h2 hn hz)
  unfold againM
  generalize deathsM m = n at HD ⊢
  clear hsl hw hn hz
  have HV : Hid (msgV m A c = .agg (msgC m A c).toArray) := Lib.hid rfl
  rw [HV.out] at HD ⊢
  obtain ⟨b, hb⟩ : ∃ b, decide (n < 8) = b := ⟨_, rfl⟩
  have q1 : decide ((n : Int) < 8) = b := by rw [← hb]; simp; omega
  rw [hb]
  clear hb
  go_enter Tryd.func15, Tryd.ntmps15
  go_upto_region 1 with fail
  refine name_world (C := fun w1 => Code.wp _ _ _ _ w1) (w.alloc (.cells (msgC m A c).toArray 26)) ?_
  intro w1 hw1
  have hb1 : Below w.heap.size w w1 := by rw [hw1]; exact S2.below_new w _
  have B_w1 := Lib.hid hb1
  have P_w1 : Hid (PL w1 w1.heap.size A m.props) := Lib.hid (GL.step HS.out hb1)
  have V_w1 : Hid (BK 26 w1 w.heap.size (msgC m A c)) := Lib.hid (by rw [hw1]; exact BK.new w _ _)
  have O_w1 : Hid (Okd w1) := Lib.hid (HO.out.step hb1)
  clear hw1 hb1
  have HLM := Lib.hid (S2.run_load_all V_w1.out Tryd.underlying26 rfl msgSize)
  go_wp2_with first
    | (refine wpList_load_v (by rfl) 26 _ rfl ⟨w.heap.size, 0, none⟩ (by first | rfl | go_simp) _ HLM.out ?_)
  refine (HD.out w1 O_w1.out P_w1.out).mono ?_
  rintro e w2 ⟨rfl, hb⟩
  have B_w2 := Lib.hid (stepB B_w1.out hb)
  clear hb HLM
  cases b
  all_goals
    go_wp2
    go_ret
    exact ⟨rfl, B_w2.out⟩

theorem rAgain_any (m : Msg) (A : Option Addr) (c : Nat) (w : World) (hw : Okd w) (hsl : PL w w.heap.size A m.props) (hn : m.props.length ≤ 9223372036854775806) (hz : ∀ x ∈ m.props, x.2.size ≤ 1000000) :
    Calls Tryd.prog 16 #[msgV m A c] w fun e w' => e = .returned (.bool (againM m)) ∧ Below w.heap.size w w' := by
  have HS := Lib.hid hsl
  have HO := Lib.hid hw
  have HD := Lib.hid (fun w1 h1 h2 => rDeaths_any m A c w1 h1 h2 hn hz)
  unfold againM
  generalize deathsM m = n at HD ⊢
  clear hsl hw hn hz
  have HV : Hid (msgV m A c = .agg (msgC m A c).toArray) := Lib.hid rfl
  rw [HV.out] at HD ⊢
  obtain ⟨b, hb⟩ : ∃ b, decide (n < 8) = b := ⟨_, rfl⟩
  have q1 : decide ((n : Int) < 8) = b := by rw [← hb]; simp; omega
  rw [hb]
  clear hb
  go_enter Tryd.func16, Tryd.ntmps16
  go_upto_region 1 with fail
  refine name_world (C := fun w1 => Code.wp _ _ _ _ w1) (w.alloc (.cells (msgC m A c).toArray 26)) ?_
  intro w1 hw1
  have hb1 : Below w.heap.size w w1 := by rw [hw1]; exact S2.below_new w _
  have B_w1 := Lib.hid hb1
  have P_w1 : Hid (PL w1 w1.heap.size A m.props) := Lib.hid (GL.step HS.out hb1)
  have V_w1 : Hid (BK 26 w1 w.heap.size (msgC m A c)) := Lib.hid (by rw [hw1]; exact BK.new w _ _)
  have O_w1 : Hid (Okd w1) := Lib.hid (HO.out.step hb1)
  clear hw1 hb1
  have HLM := Lib.hid (S2.run_load_all V_w1.out Tryd.underlying26 rfl msgSize)
  go_wp2_with first
    | (refine wpList_load_v (by rfl) 26 _ rfl ⟨w.heap.size, 0, none⟩ (by first | rfl | go_simp) _ HLM.out ?_)
  refine (HD.out w1 O_w1.out P_w1.out).mono ?_
  rintro e w2 ⟨rfl, hb⟩
  have B_w2 := Lib.hid (stepB B_w1.out hb)
  clear hb HLM
  cases b
  all_goals
    go_wp2
    go_ret
    exact ⟨rfl, B_w2.out⟩

end Go.Proofs.YthpplhhlhheopabDoor
