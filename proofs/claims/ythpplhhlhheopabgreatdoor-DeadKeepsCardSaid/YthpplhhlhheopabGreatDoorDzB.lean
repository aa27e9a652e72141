/-
  What Deaths, From and Again of dead and of its reference answer. Conditions: the properties read as data; texts have at most a million bytes.
-/
import Derived.Test.YthpplhhlhheopabGreatDoorDzO
namespace Go.Proofs.YthpplhhlhheopabGreatDoor
open Go.RowKit
open S2 (BK Put)

theorem getR_size {l : List PR} {key : ByteArray} {M : Nat} (h : ∀ x ∈ l, x.2.size ≤ M) : (getR l key).1.size ≤ M := by
  induction l with
  | nil => exact Nat.zero_le _
  | cons x r ih =>
    rw [getR_cons]
    split
    · exact h x (by simp)
    · exact ih fun y hy => h y (by simp [hy])
theorem itoa_cmp (v : Int) (s : ByteArray) : (ByteArray.toList ⟨(Lib.itoa v).toArray⟩ == s.toList) = decide (Lib.itoa v = dl s) := by
  rw [eq_data]
  by_cases h : Lib.itoa v = dl s
  · rw [decide_eq_true h, decide_eq_true (dl_inj (by rw [← h]; simp [dl]))]
  · rw [decide_eq_false h, decide_eq_false (fun e => h (by rw [← e]; simp [dl]))]

set_option maxHeartbeats 4000000 in
theorem dDeaths_any (m : Msg) (A : Option Addr) (c : Nat) (w : World) (hw : Okd w) (hsl : PL w w.heap.size A m.props) (hn : m.props.length ≤ 9223372036854775806) (hz : ∀ x ∈ m.props, x.2.size ≤ 1000000) :
    Calls Tryz.prog 9 #[msgV m A c] w fun e w' => e = .returned (.int .i64 (deathsM m : Nat)) ∧ Below w.heap.size w w' := by
  have HS := Lib.hid hsl
  have HO := Lib.hid hw
  have HGT := Lib.hid (fun w1 h => get_any A c m.props kDeaths w1 h hn)
  have hs := getR_size (key := kDeaths) hz
  unfold deathsM
  unfold retG at HGT
  obtain ⟨s, hs1⟩ : ∃ s, (getR m.props kDeaths).1 = s := ⟨_, rfl⟩
  obtain ⟨b, hb1⟩ : ∃ b, (getR m.props kDeaths).2 = b := ⟨_, rfl⟩
  rw [hs1, hb1] at HGT
  rw [hs1] at hs ⊢
  obtain ⟨R, hR⟩ : ∃ R : Int, ((deathsT s : Nat) : Int) = R := ⟨_, rfl⟩
  rw [hR]
  have HR := Lib.hid hR
  clear hR
  clear hsl hw hn hz hs1 hb1
  unfold kDeaths at HGT
  have HV : Hid (msgV m A c = .agg (msgC m A c).toArray) := Lib.hid rfl
  rw [HV.out]
  clear HV
  by_cases hok : ∃ v, Lib.atoiAll (dl s) = .ok v
  · obtain ⟨v, hv⟩ := hok
    have HD := Lib.hid (deaths_ok hv)
    have hvb := Lib.atoiAll_bounds hv
    have HAT := Lib.hid (fun w1 => atoi_ok s hs v hv w1)
    have HIT := Lib.hid (fun w1 h => itoa_any v hvb.1 hvb.2 w1 h)
    have q1 := itoa_cmp v s
    obtain ⟨T, hT⟩ : ∃ T : ByteArray, T = ⟨(Lib.itoa v).toArray⟩ := ⟨_, rfl⟩
    rw [← hT] at HIT q1
    obtain ⟨bT, hbT⟩ : ∃ b, decide (Lib.itoa v = dl s) = b := ⟨_, rfl⟩
    rw [hbT] at q1
    have HBT := Lib.hid hbT
    clear hv hvb hs hT hbT
    go_enter Tryz.func9, Tryz.ntmps9
    go_upto_region 1 with fail
    refine name_world (C := fun w1 => Code.wp _ _ _ _ w1) (w.alloc (.cells (msgC m A c).toArray 24)) ?_
    intro w1 hw1
    have hb1 : Below w.heap.size w w1 := by rw [hw1]; exact S2.below_new w _
    have B_w1 := Lib.hid hb1
    have P_w1 : Hid (PL w1 w1.heap.size A m.props) := Lib.hid (GL.step HS.out hb1)
    have V_w1 : Hid (BK 24 w1 w.heap.size (msgC m A c)) := Lib.hid (by rw [hw1]; exact BK.new w _ _)
    have O_w1 : Hid (Okd w1) := Lib.hid (HO.out.step hb1)
    clear hw1 hb1
    have d8 := V_w1.out.cell 8 rfl
    go_wp2_with fail
    refine (HGT.out w1 P_w1.out).mono ?_
    rintro e w2 ⟨rfl, hb⟩
    have B_w2 := Lib.hid (stepB B_w1.out hb)
    have O_w2 := Lib.hid (O_w1.out.step hb)
    clear hb d8
    go_wp2_with fail
    refine (HAT.out w2).mono ?_
    rintro e w3 ⟨rfl, hb⟩
    have B_w3 := Lib.hid (stepB B_w2.out hb)
    have O_w3 := Lib.hid (O_w2.out.step hb)
    clear hb
    go_wp2_with fail
    refine (HIT.out w3 O_w3.out).mono ?_
    rintro e w4 ⟨rfl, hb⟩
    have B_w4 := Lib.hid (stepB B_w3.out hb)
    clear hb
    cases bT with
    | false =>
      obtain rfl : R = 0 := by rw [← HR.out, ← HD.out, if_neg (fun h => of_decide_eq_false HBT.out h.1)]
      go_wp2
      go_ret
      exact ⟨rfl, B_w4.out⟩
    | true =>
      have hit := of_decide_eq_true HBT.out
      by_cases h0 : v < 0
      · have q2 : decide (v < 0) = true := decide_eq_true h0
        obtain rfl : R = 0 := by rw [← HR.out, ← HD.out, if_neg (fun h => by omega)]
        clear h0 hit
        go_wp2
        go_ret
        exact ⟨rfl, B_w4.out⟩
      have q2 : decide (v < 0) = false := decide_eq_false h0
      by_cases h1 : 1099511627776 < v
      · have q3 : decide ((1099511627776 : Int) < v) = true := decide_eq_true h1
        obtain rfl : R = 0 := by rw [← HR.out, ← HD.out, if_neg (fun h => by omega)]
        clear h0 h1 hit
        go_wp2
        go_ret
        exact ⟨rfl, B_w4.out⟩
      have q3 : decide ((1099511627776 : Int) < v) = false := decide_eq_false h1
      obtain rfl : v = R := by rw [← HR.out, ← HD.out, if_pos ⟨hit, by omega, by omega⟩]
      clear h0 h1 hit
      go_wp2
      go_ret
      exact ⟨rfl, B_w4.out⟩
  · obtain rfl : R = 0 := by
      have hz0 : deathsT s = 0 := deaths_bad fun v hv => hok ⟨v, hv⟩
      rw [← HR.out, hz0]; rfl
    have HAT := Lib.hid (fun w1 h => atoi_bad s hs (fun v hv => hok ⟨v, hv⟩) w1 h)
    clear hok hs
    go_enter Tryz.func9, Tryz.ntmps9
    go_upto_region 1 with fail
    refine name_world (C := fun w1 => Code.wp _ _ _ _ w1) (w.alloc (.cells (msgC m A c).toArray 24)) ?_
    intro w1 hw1
    have hb1 : Below w.heap.size w w1 := by rw [hw1]; exact S2.below_new w _
    have B_w1 := Lib.hid hb1
    have P_w1 : Hid (PL w1 w1.heap.size A m.props) := Lib.hid (GL.step HS.out hb1)
    have V_w1 : Hid (BK 24 w1 w.heap.size (msgC m A c)) := Lib.hid (by rw [hw1]; exact BK.new w _ _)
    have O_w1 : Hid (Okd w1) := Lib.hid (HO.out.step hb1)
    clear hw1 hb1
    have d8 := V_w1.out.cell 8 rfl
    go_wp2_with fail
    refine (HGT.out w1 P_w1.out).mono ?_
    rintro e w2 ⟨rfl, hb⟩
    have B_w2 := Lib.hid (stepB B_w1.out hb)
    have O_w2 := Lib.hid (O_w1.out.step hb)
    clear hb d8
    go_wp2_with fail
    refine (HAT.out w2 O_w2.out).mono ?_
    rintro e w3 ⟨v, N, rfl, hb⟩
    have B_w3 := Lib.hid (stepB B_w2.out hb)
    clear hb
    go_wp2
    go_ret
    exact ⟨rfl, B_w3.out⟩

theorem dec_cmp (n : Nat) (s : ByteArray) : ((numT n).toList == s.toList) = decide (Lib.decDigits n = dl s) := by
  have := itoa_cmp (n : Int) s
  rw [Lib.itoa_nonneg] at this
  exact this
theorem dAgain_any (m : Msg) (A : Option Addr) (c : Nat) (w : World) (hw : Okd w) (hsl : PL w w.heap.size A m.props) (hn : m.props.length ≤ 9223372036854775806) (hz : ∀ x ∈ m.props, x.2.size ≤ 1000000) :
    Calls Tryz.prog 17 #[msgV m A c] w fun e w' => e = .returned (.bool (againM m)) ∧ Below w.heap.size w w' := by
  have HS := Lib.hid hsl
  have HO := Lib.hid hw
  have HD := Lib.hid (fun w1 h1 h2 => dDeaths_any m A c w1 h1 h2 hn hz)
  unfold againM
  generalize deathsM m = n at HD ⊢
  clear hsl hw hn hz
  have HV : Hid (msgV m A c = .agg (msgC m A c).toArray) := Lib.hid rfl
  rw [HV.out] at HD ⊢
  obtain ⟨b, hb⟩ : ∃ b, decide (n < 8) = b := ⟨_, rfl⟩
  have q1 : decide ((n : Int) < 8) = b := by rw [← hb]; simp; omega
  rw [hb]
  clear hb
  go_enter Tryz.func17, Tryz.ntmps17
  go_upto_region 1 with fail
  refine name_world (C := fun w1 => Code.wp _ _ _ _ w1) (w.alloc (.cells (msgC m A c).toArray 24)) ?_
  intro w1 hw1
  have hb1 : Below w.heap.size w w1 := by rw [hw1]; exact S2.below_new w _
  have B_w1 := Lib.hid hb1
  have P_w1 : Hid (PL w1 w1.heap.size A m.props) := Lib.hid (GL.step HS.out hb1)
  have V_w1 : Hid (BK 24 w1 w.heap.size (msgC m A c)) := Lib.hid (by rw [hw1]; exact BK.new w _ _)
  have O_w1 : Hid (Okd w1) := Lib.hid (HO.out.step hb1)
  clear hw1 hb1
  have HLM := Lib.hid (S2.run_load_all V_w1.out Tryz.underlying24 rfl msgSize)
  go_wp2_with first
    | (refine wpList_load_v (by rfl) 24 _ rfl ⟨w.heap.size, 0, none⟩ (by first | rfl | go_simp) _ HLM.out ?_)
  refine (HD.out w1 O_w1.out P_w1.out).mono ?_
  rintro e w2 ⟨rfl, hb⟩
  have B_w2 := Lib.hid (stepB B_w1.out hb)
  clear hb HLM
  cases b
  all_goals
    go_wp2
    go_ret
    exact ⟨rfl, B_w2.out⟩

end Go.Proofs.YthpplhhlhheopabGreatDoor
