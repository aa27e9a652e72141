/-
  What From of dead and of its reference answers. Conditions: the properties read as data; texts have at most a million bytes.
-/
import Derived.Test.YthpplhhlhheopabDoorDzB
namespace Go.Proofs.YthpplhhlhheopabDoor
open Go.RowKit
open S2 (BK Put)

def fromM (m : Msg) : ByteArray × Int := fromT (getR m.props kDied).1
def one (d : UInt8) : ByteArray := ⟨#[d]⟩
theorem one_lt (d e : UInt8) : Op.bytesLess (one d).toList (one e).toList = decide (d.toNat < e.toNat) := by
  rw [Lib.toList_data, Lib.toList_data]
  show Op.bytesLess [d] [e] = _
  simp only [Op.bytesLess, Bool.and_false, Bool.or_false]
  rw [decide_eq_decide]
  exact UInt8.lt_iff_toNat_lt
theorem one_le (d e : UInt8) : (Op.bytesLess (one d).toList (one e).toList || (one d).toList == (one e).toList) = decide (d.toNat ≤ e.toNat) := by
  rw [le_data]
  unfold ltS
  show (!Op.bytesLess [e] [d]) = _
  simp only [Op.bytesLess, Bool.and_false, Bool.or_false]
  by_cases h : e < d
  · rw [decide_eq_true h, decide_eq_false (by rw [UInt8.lt_iff_toNat_lt] at h; omega)]; rfl
  · rw [decide_eq_false h, decide_eq_true (by rw [UInt8.lt_iff_toNat_lt] at h; omega)]; rfl
theorem one_gt (d e : UInt8) : (!Op.bytesLess (one d).toList [e] && !(one d).toList == [e]) = decide (e.toNat < d.toNat) := by
  have h := one_le d e
  rw [show (one e).toList = [e] from Lib.toList_data _] at h
  rw [← Bool.not_or, h]
  by_cases h1 : d.toNat ≤ e.toNat
  · rw [decide_eq_true h1, decide_eq_false (by omega)]; rfl
  · rw [decide_eq_false h1, decide_eq_true (by omega)]; rfl
theorem from_name {s : ByteArray} (h : S1.T.nameL (befS (dl s)) = false) : fromT s = (⟨#[]⟩, 0) := by
  unfold fromT fromOk
  rw [h, Bool.false_and, if_neg (by simp)]
theorem from_len {s : ByteArray} (h : (aftS (dl s)).length ≠ 1) : fromT s = (⟨#[]⟩, 0) := by
  unfold fromT fromOk
  rcases ha : aftS (dl s) with _ | ⟨d, _ | ⟨e, r⟩⟩
  · simp
  · rw [ha] at h; exact absurd rfl h
  · simp
theorem from_digit {s : ByteArray} {d : UInt8} (ha : aftS (dl s) = [d]) (h : d.toNat < 49 ∨ 52 < d.toNat) : fromT s = (⟨#[]⟩, 0) := by
  unfold fromT fromOk
  rw [ha]
  simp only
  rw [if_neg]
  simp only [Bool.and_eq_true, decide_eq_true_eq]
  omega
theorem from_ok {s : ByteArray} {d : UInt8} (hb : S1.T.nameL (befS (dl s)) = true) (ha : aftS (dl s) = [d]) (h1 : 49 ≤ d.toNat) (h2 : d.toNat ≤ 52) : fromT s = (bs (befS (dl s)), (d.toNat : Int) - 48) := by
  unfold fromT fromOk fromN
  rw [ha, hb]
  simp only
  rw [if_pos (by simp [h1, h2])]
  rfl
theorem aft_nil {l : List UInt8} (h : l.contains 32 = false) : aftS l = [] := by
  have := idx_befS l
  rcases this with ⟨_, h2, _⟩ | ⟨_, _, _, _, _, h5⟩
  · unfold aftS; rw [h2]; exact List.drop_eq_nil_of_le (by omega)
  · rw [h5] at h; cases h
theorem befS_size (s : ByteArray) : (bs (befS (dl s))).size ≤ s.size := by
  rw [size_bs, size_dl]
  unfold befS
  exact (List.takeWhile_sublist _).length_le
theorem nameR_bs (l : List UInt8) : nameR (bs l) = S1.T.nameL l := by
  show S1.T.nameL (dl (bs l)) = _
  rw [dl_bs]
theorem byte_wrap {d : UInt8} (h1 : 49 ≤ d.toNat) : IntKind.u8.wrap ((d.toNat : Int) - 48) = (d.toNat : Int) - 48 := by
  have := d.toNat_lt
  show ((d.toNat : Int) - 48) % 256 = _
  omega

set_option maxHeartbeats 4000000 in
theorem dFrom_any (m : Msg) (A : Option Addr) (c : Nat) (w : World) (hw : Okd w) (hsl : PL w w.heap.size A m.props) (hn : m.props.length ≤ 9223372036854775806) (hz : ∀ x ∈ m.props, x.2.size ≤ 1000000) :
    Calls Tryd.prog 11 #[msgV m A c] w fun e w' => e = .returned (.tuple #[.string (fromM m).1, .int .i64 (fromM m).2]) ∧ Below w.heap.size w w' := by
  have HS := Lib.hid hsl
  have HO := Lib.hid hw
  have HGT := Lib.hid (fun w1 h => get_any A c m.props kDied w1 h hn)
  have hs := getR_size (key := kDied) hz
  unfold fromM
  unfold retG at HGT
  obtain ⟨bG, hbG⟩ : ∃ b, (getR m.props kDied).2 = b := ⟨_, rfl⟩
  rw [hbG] at HGT
  clear hbG
  obtain ⟨s, hs1⟩ : ∃ s, (getR m.props kDied).1 = s := ⟨_, rfl⟩
  rw [hs1] at HGT hs ⊢
  obtain ⟨Q, R, hR⟩ : ∃ Q R, fromT s = (Q, R) := ⟨_, _, rfl⟩
  rw [hR]
  have HR := Lib.hid hR
  clear hsl hw hn hz hs1 hR
  unfold kDied at HGT
  have HCT := Lib.hid (fun w1 h => cutS_any s hs w1 h)
  have hbz := befS_size s
  have HNM := Lib.hid (fun w1 => isName_any (bs (befS (dl s))) w1 (by omega))
  rw [nameR_bs] at HNM
  obtain ⟨bN, hbN⟩ : ∃ b, S1.T.nameL (befS (dl s)) = b := ⟨_, rfl⟩
  rw [hbN] at HNM
  have HBN := Lib.hid hbN
  obtain ⟨N, hN⟩ : ∃ N, bs (befS (dl s)) = N := ⟨_, rfl⟩
  have HNN := Lib.hid hN
  rw [hN] at HCT HNM
  obtain ⟨bF, hbF⟩ : ∃ b, (dl s).contains 32 = b := ⟨_, rfl⟩
  rw [hbF] at HCT
  have HBF := Lib.hid hbF
  clear hbN hN hbF hbz hs
  have HV : Hid (msgV m A c = .agg (msgC m A c).toArray) := Lib.hid rfl
  rw [HV.out]
  clear HV
  cases bN with
  | false =>
    obtain ⟨rfl, rfl⟩ : Q = ⟨#[]⟩ ∧ R = 0 := by have h := HR.out.symm.trans (from_name HBN.out); exact ⟨congrArg Prod.fst h, congrArg Prod.snd h⟩
    generalize bs (aftS (dl s)) = T at HCT
    go_enter Tryd.func11, Tryd.ntmps11
    go_upto_region 1 with fail
    refine name_world (C := fun w1 => Code.wp _ _ _ _ w1) (w.alloc (.cells (msgC m A c).toArray 26)) ?_
    intro w1 hw1
    have hb1 : Below w.heap.size w w1 := by rw [hw1]; exact S2.below_new w _
    have B_w1 := Lib.hid hb1
    have P_w1 : Hid (PL w1 w1.heap.size A m.props) := Lib.hid (GL.step HS.out hb1)
    have V_w1 : Hid (BK 26 w1 w.heap.size (msgC m A c)) := Lib.hid (by rw [hw1]; exact BK.new w _ _)
    have O_w1 : Hid (Okd w1) := Lib.hid (HO.out.step hb1)
    clear hw1 hb1
    have d8 := V_w1.out.cell 8 rfl
    go_wp2_with fail
    refine (HGT.out w1 P_w1.out).mono ?_
    rintro e w2 ⟨rfl, hb⟩
    have B_w2 := Lib.hid (stepB B_w1.out hb)
    have O_w2 := Lib.hid (O_w1.out.step hb)
    clear hb d8
    go_wp2_with fail
    refine (HCT.out w2 O_w2.out.k).mono ?_
    rintro e w3 ⟨rfl, hb⟩
    have B_w3 := Lib.hid (stepB B_w2.out hb)
    clear hb
    go_wp2_with fail
    refine (HNM.out w3).mono ?_
    rintro e w4 ⟨rfl, hb⟩
    have B_w4 := Lib.hid (stepB B_w3.out hb)
    clear hb
    go_wp2
    go_ret2
    exact ⟨by first | rfl | (show Ending.returned (.tuple #[.string _, .int .i64 (wrap64 _)]) = _; rw [k2]), B_w4.out⟩
  | true =>
    by_cases ha : (aftS (dl s)).length = 1
    · obtain ⟨d, hd⟩ : ∃ d, aftS (dl s) = [d] := List.length_eq_one_iff.1 ha
      have HA := Lib.hid hd
      rw [hd, show bs [d] = one d from rfl] at HCT
      have hdb := d.toNat_lt
      have hT : (one d).size = 1 := rfl
      have h0 : 0 < (one d).size := by rw [hT]; decide
      have hx : (one d)[0]'h0 = d := rfl
      have l1 := one_lt d 49
      have l2 := one_gt d 52
      rw [show (49 : UInt8).toNat = 49 from rfl] at l1
      rw [show (52 : UInt8).toNat = 52 from rfl] at l2
      rw [show (one 49).toList = [49] from Lib.toList_data _] at l1
      generalize one d = T at HCT hT h0 hx l1 l2
      have q1 : ((T.size : Int) != 1) = false := by rw [hT]; rfl
      have q2 : (0 : Int) < (T.size : Int) := by rw [hT]; decide
      have k1 : wrap64 (d.toNat : Int) = (d.toNat : Int) := wrap64_id _ (by omega) (by omega)
      have k2 : wrap64 ((d.toNat : Int) - 48) = (d.toNat : Int) - 48 := wrap64_id _ (by omega) (by omega)
      clear ha hd hT
      by_cases h49 : d.toNat < 49
      · have q3 : decide ((d.toNat : Int) - 48 < 1) = true := decide_eq_true (by omega)
        rw [decide_eq_true h49] at l1
        obtain ⟨rfl, rfl⟩ : Q = ⟨#[]⟩ ∧ R = 0 := by have h := HR.out.symm.trans (from_digit HA.out (.inl h49)); exact ⟨congrArg Prod.fst h, congrArg Prod.snd h⟩
        clear h49 hdb l2
        go_enter Tryd.func11, Tryd.ntmps11
        go_upto_region 1 with fail
        refine name_world (C := fun w1 => Code.wp _ _ _ _ w1) (w.alloc (.cells (msgC m A c).toArray 26)) ?_
        intro w1 hw1
        have hb1 : Below w.heap.size w w1 := by rw [hw1]; exact S2.below_new w _
        have B_w1 := Lib.hid hb1
        have P_w1 : Hid (PL w1 w1.heap.size A m.props) := Lib.hid (GL.step HS.out hb1)
        have V_w1 : Hid (BK 26 w1 w.heap.size (msgC m A c)) := Lib.hid (by rw [hw1]; exact BK.new w _ _)
        have O_w1 : Hid (Okd w1) := Lib.hid (HO.out.step hb1)
        clear hw1 hb1
        have d8 := V_w1.out.cell 8 rfl
        go_wp2_with fail
        refine (HGT.out w1 P_w1.out).mono ?_
        rintro e w2 ⟨rfl, hb⟩
        have B_w2 := Lib.hid (stepB B_w1.out hb)
        have O_w2 := Lib.hid (O_w1.out.step hb)
        clear hb d8
        go_wp2_with fail
        refine (HCT.out w2 O_w2.out.k).mono ?_
        rintro e w3 ⟨rfl, hb⟩
        have B_w3 := Lib.hid (stepB B_w2.out hb)
        clear hb
        go_wp2_with fail
        refine (HNM.out w3).mono ?_
        rintro e w4 ⟨rfl, hb⟩
        have B_w4 := Lib.hid (stepB B_w3.out hb)
        clear hb
        go_wp2
        go_ret2
        exact ⟨by first | rfl | (show Ending.returned (.tuple #[.string _, .int .i64 (wrap64 _)]) = _; rw [k2]), B_w4.out⟩
      rw [decide_eq_false h49] at l1
      have q3 : decide ((d.toNat : Int) - 48 < 1) = false := decide_eq_false (by omega)
      by_cases h52 : 52 < d.toNat
      · have q4 : decide ((4 : Int) < (d.toNat : Int) - 48) = true := decide_eq_true (by omega)
        rw [decide_eq_true h52] at l2
        obtain ⟨rfl, rfl⟩ : Q = ⟨#[]⟩ ∧ R = 0 := by have h := HR.out.symm.trans (from_digit HA.out (.inr h52)); exact ⟨congrArg Prod.fst h, congrArg Prod.snd h⟩
        clear h49 h52 hdb
        go_enter Tryd.func11, Tryd.ntmps11
        go_upto_region 1 with fail
        refine name_world (C := fun w1 => Code.wp _ _ _ _ w1) (w.alloc (.cells (msgC m A c).toArray 26)) ?_
        intro w1 hw1
        have hb1 : Below w.heap.size w w1 := by rw [hw1]; exact S2.below_new w _
        have B_w1 := Lib.hid hb1
        have P_w1 : Hid (PL w1 w1.heap.size A m.props) := Lib.hid (GL.step HS.out hb1)
        have V_w1 : Hid (BK 26 w1 w.heap.size (msgC m A c)) := Lib.hid (by rw [hw1]; exact BK.new w _ _)
        have O_w1 : Hid (Okd w1) := Lib.hid (HO.out.step hb1)
        clear hw1 hb1
        have d8 := V_w1.out.cell 8 rfl
        go_wp2_with fail
        refine (HGT.out w1 P_w1.out).mono ?_
        rintro e w2 ⟨rfl, hb⟩
        have B_w2 := Lib.hid (stepB B_w1.out hb)
        have O_w2 := Lib.hid (O_w1.out.step hb)
        clear hb d8
        go_wp2_with fail
        refine (HCT.out w2 O_w2.out.k).mono ?_
        rintro e w3 ⟨rfl, hb⟩
        have B_w3 := Lib.hid (stepB B_w2.out hb)
        clear hb
        go_wp2_with fail
        refine (HNM.out w3).mono ?_
        rintro e w4 ⟨rfl, hb⟩
        have B_w4 := Lib.hid (stepB B_w3.out hb)
        clear hb
        go_wp2
        go_ret2
        exact ⟨by first | rfl | (show Ending.returned (.tuple #[.string _, .int .i64 (wrap64 _)]) = _; rw [k2]), B_w4.out⟩
      have q4 : decide ((4 : Int) < (d.toNat : Int) - 48) = false := decide_eq_false (by omega)
      rw [decide_eq_false h52] at l2
      have k3 := byte_wrap (d := d) (by omega)
      obtain ⟨rfl, rfl⟩ : N = Q ∧ R = (d.toNat : Int) - 48 := by have h := HR.out.symm.trans (from_ok HBN.out HA.out (by omega) (by omega)); rw [HNN.out] at h; exact ⟨(congrArg Prod.fst h).symm, congrArg Prod.snd h⟩
      clear h49 h52 hdb
      go_enter Tryd.func11, Tryd.ntmps11
      go_upto_region 1 with fail
      refine name_world (C := fun w1 => Code.wp _ _ _ _ w1) (w.alloc (.cells (msgC m A c).toArray 26)) ?_
      intro w1 hw1
      have hb1 : Below w.heap.size w w1 := by rw [hw1]; exact S2.below_new w _
      have B_w1 := Lib.hid hb1
      have P_w1 : Hid (PL w1 w1.heap.size A m.props) := Lib.hid (GL.step HS.out hb1)
      have V_w1 : Hid (BK 26 w1 w.heap.size (msgC m A c)) := Lib.hid (by rw [hw1]; exact BK.new w _ _)
      have O_w1 : Hid (Okd w1) := Lib.hid (HO.out.step hb1)
      clear hw1 hb1
      have d8 := V_w1.out.cell 8 rfl
      go_wp2_with fail
      refine (HGT.out w1 P_w1.out).mono ?_
      rintro e w2 ⟨rfl, hb⟩
      have B_w2 := Lib.hid (stepB B_w1.out hb)
      have O_w2 := Lib.hid (O_w1.out.step hb)
      clear hb d8
      go_wp2_with fail
      refine (HCT.out w2 O_w2.out.k).mono ?_
      rintro e w3 ⟨rfl, hb⟩
      have B_w3 := Lib.hid (stepB B_w2.out hb)
      clear hb
      go_wp2_with fail
      refine (HNM.out w3).mono ?_
      rintro e w4 ⟨rfl, hb⟩
      have B_w4 := Lib.hid (stepB B_w3.out hb)
      clear hb
      go_wp2
      go_ret2
      exact ⟨by first | rfl | (show Ending.returned (.tuple #[.string _, .int .i64 (wrap64 _)]) = _; rw [k2]), B_w4.out⟩
    · have hT : (bs (aftS (dl s))).size ≠ 1 := by rw [size_bs]; exact ha
      obtain ⟨rfl, rfl⟩ : Q = ⟨#[]⟩ ∧ R = 0 := by have h := HR.out.symm.trans (from_len ha); exact ⟨congrArg Prod.fst h, congrArg Prod.snd h⟩
      generalize bs (aftS (dl s)) = T at HCT hT
      have q1 : ((T.size : Int) != 1) = true := by rw [bne_iff_ne]; omega
      clear ha hT
      go_enter Tryd.func11, Tryd.ntmps11
      go_upto_region 1 with fail
      refine name_world (C := fun w1 => Code.wp _ _ _ _ w1) (w.alloc (.cells (msgC m A c).toArray 26)) ?_
      intro w1 hw1
      have hb1 : Below w.heap.size w w1 := by rw [hw1]; exact S2.below_new w _
      have B_w1 := Lib.hid hb1
      have P_w1 : Hid (PL w1 w1.heap.size A m.props) := Lib.hid (GL.step HS.out hb1)
      have V_w1 : Hid (BK 26 w1 w.heap.size (msgC m A c)) := Lib.hid (by rw [hw1]; exact BK.new w _ _)
      have O_w1 : Hid (Okd w1) := Lib.hid (HO.out.step hb1)
      clear hw1 hb1
      have d8 := V_w1.out.cell 8 rfl
      go_wp2_with fail
      refine (HGT.out w1 P_w1.out).mono ?_
      rintro e w2 ⟨rfl, hb⟩
      have B_w2 := Lib.hid (stepB B_w1.out hb)
      have O_w2 := Lib.hid (O_w1.out.step hb)
      clear hb d8
      go_wp2_with fail
      refine (HCT.out w2 O_w2.out.k).mono ?_
      rintro e w3 ⟨rfl, hb⟩
      have B_w3 := Lib.hid (stepB B_w2.out hb)
      clear hb
      go_wp2_with fail
      refine (HNM.out w3).mono ?_
      rintro e w4 ⟨rfl, hb⟩
      have B_w4 := Lib.hid (stepB B_w3.out hb)
      clear hb
      go_wp2
      go_ret2
      exact ⟨by first | rfl | (show Ending.returned (.tuple #[.string _, .int .i64 (wrap64 _)]) = _; rw [k2]), B_w4.out⟩

set_option maxHeartbeats 4000000 in
theorem rFrom_any (m : Msg) (A : Option Addr) (c : Nat) (w : World) (hw : Okd w) (hsl : PL w w.heap.size A m.props) (hn : m.props.length ≤ 9223372036854775806) (hz : ∀ x ∈ m.props, x.2.size ≤ 1000000) :
    Calls Tryd.prog 12 #[msgV m A c] w fun e w' => e = .returned (.tuple #[.string (fromM m).1, .int .i64 (fromM m).2]) ∧ Below w.heap.size w w' := by
  have HS := Lib.hid hsl
  have HO := Lib.hid hw
  have HGT := Lib.hid (fun w1 h => rget_any m A c kDied w1 h hn)
  have hs := getR_size (key := kDied) hz
  unfold fromM
  obtain ⟨s, hs1⟩ : ∃ s, (getR m.props kDied).1 = s := ⟨_, rfl⟩
  rw [hs1] at HGT hs ⊢
  obtain ⟨Q, R, hR⟩ : ∃ Q R, fromT s = (Q, R) := ⟨_, _, rfl⟩
  rw [hR]
  have HR := Lib.hid hR
  clear hsl hw hn hz hs1 hR
  unfold kDied at HGT
  have HCT := Lib.hid (fun w1 h => cutS_any s hs w1 h)
  have hbz := befS_size s
  have HNM := Lib.hid (fun w1 => rName_b (bs (befS (dl s))) w1 (by omega))
  rw [show S1.T.nameL (bs (befS (dl s))).data.toList = S1.T.nameL (befS (dl s)) from nameR_bs _] at HNM
  obtain ⟨bN, hbN⟩ : ∃ b, S1.T.nameL (befS (dl s)) = b := ⟨_, rfl⟩
  rw [hbN] at HNM
  have HBN := Lib.hid hbN
  obtain ⟨N, hN⟩ : ∃ N, bs (befS (dl s)) = N := ⟨_, rfl⟩
  have HNN := Lib.hid hN
  rw [hN] at HCT HNM
  obtain ⟨bF, hbF⟩ : ∃ b, (dl s).contains 32 = b := ⟨_, rfl⟩
  rw [hbF] at HCT
  have HBF := Lib.hid hbF
  clear hbN hN hbF hbz hs
  have HV : Hid (msgV m A c = .agg (msgC m A c).toArray) := Lib.hid rfl
  rw [HV.out] at HGT ⊢
  clear HV
  cases bF with
  | false =>
    obtain ⟨rfl, rfl⟩ : Q = ⟨#[]⟩ ∧ R = 0 := by have h := HR.out.symm.trans (from_len (by rw [aft_nil HBF.out]; decide)); exact ⟨congrArg Prod.fst h, congrArg Prod.snd h⟩
    generalize bs (aftS (dl s)) = T at HCT
    go_enter Tryd.func12, Tryd.ntmps12
    go_upto_region 1 with fail
    refine name_world (C := fun w1 => Code.wp _ _ _ _ w1) (w.alloc (.cells (msgC m A c).toArray 26)) ?_
    intro w1 hw1
    have hb1 : Below w.heap.size w w1 := by rw [hw1]; exact S2.below_new w _
    have B_w1 := Lib.hid hb1
    have P_w1 : Hid (PL w1 w1.heap.size A m.props) := Lib.hid (GL.step HS.out hb1)
    have V_w1 : Hid (BK 26 w1 w.heap.size (msgC m A c)) := Lib.hid (by rw [hw1]; exact BK.new w _ _)
    have O_w1 : Hid (Okd w1) := Lib.hid (HO.out.step hb1)
    clear hw1 hb1
    have HLM := Lib.hid (S2.run_load_all V_w1.out Tryd.underlying26 rfl msgSize)
    go_wp2_with first
      | (refine wpList_load_v (by rfl) 26 _ rfl ⟨w.heap.size, 0, none⟩ (by first | rfl | go_simp) _ HLM.out ?_)
    refine (HGT.out w1 P_w1.out).mono ?_
    rintro e w2 ⟨rfl, hb⟩
    have B_w2 := Lib.hid (stepB B_w1.out hb)
    have O_w2 := Lib.hid (O_w1.out.step hb)
    clear hb HLM
    go_wp2_with fail
    refine (HCT.out w2 O_w2.out.k).mono ?_
    rintro e w3 ⟨rfl, hb⟩
    have B_w3 := Lib.hid (stepB B_w2.out hb)
    clear hb
    go_wp2
    go_ret2
    exact ⟨by first | rfl | (show Ending.returned (.tuple #[.string _, .int .i64 (wrap64 _)]) = _; rw [k2]), B_w3.out⟩
  | true =>
    cases bN with
    | false =>
      obtain ⟨rfl, rfl⟩ : Q = ⟨#[]⟩ ∧ R = 0 := by have h := HR.out.symm.trans (from_name HBN.out); exact ⟨congrArg Prod.fst h, congrArg Prod.snd h⟩
      generalize bs (aftS (dl s)) = T at HCT
      go_enter Tryd.func12, Tryd.ntmps12
      go_upto_region 1 with fail
      refine name_world (C := fun w1 => Code.wp _ _ _ _ w1) (w.alloc (.cells (msgC m A c).toArray 26)) ?_
      intro w1 hw1
      have hb1 : Below w.heap.size w w1 := by rw [hw1]; exact S2.below_new w _
      have B_w1 := Lib.hid hb1
      have P_w1 : Hid (PL w1 w1.heap.size A m.props) := Lib.hid (GL.step HS.out hb1)
      have V_w1 : Hid (BK 26 w1 w.heap.size (msgC m A c)) := Lib.hid (by rw [hw1]; exact BK.new w _ _)
      have O_w1 : Hid (Okd w1) := Lib.hid (HO.out.step hb1)
      clear hw1 hb1
      have HLM := Lib.hid (S2.run_load_all V_w1.out Tryd.underlying26 rfl msgSize)
      go_wp2_with first
        | (refine wpList_load_v (by rfl) 26 _ rfl ⟨w.heap.size, 0, none⟩ (by first | rfl | go_simp) _ HLM.out ?_)
      refine (HGT.out w1 P_w1.out).mono ?_
      rintro e w2 ⟨rfl, hb⟩
      have B_w2 := Lib.hid (stepB B_w1.out hb)
      have O_w2 := Lib.hid (O_w1.out.step hb)
      clear hb HLM
      go_wp2_with fail
      refine (HCT.out w2 O_w2.out.k).mono ?_
      rintro e w3 ⟨rfl, hb⟩
      have B_w3 := Lib.hid (stepB B_w2.out hb)
      clear hb
      go_wp2_with fail
      refine (HNM.out w3).mono ?_
      rintro e w4 ⟨rfl, hb⟩
      have B_w4 := Lib.hid (stepB B_w3.out hb)
      clear hb
      go_wp2
      go_ret2
      exact ⟨by first | rfl | (show Ending.returned (.tuple #[.string _, .int .i64 (wrap64 _)]) = _; rw [k2]), B_w4.out⟩
    | true =>
      by_cases ha : (aftS (dl s)).length = 1
      · obtain ⟨d, hd⟩ : ∃ d, aftS (dl s) = [d] := List.length_eq_one_iff.1 ha
        have HA := Lib.hid hd
        rw [hd, show bs [d] = one d from rfl] at HCT
        have hdb := d.toNat_lt
        have hT : (one d).size = 1 := rfl
        have h0 : 0 < (one d).size := by rw [hT]; decide
        have hx : (one d)[0]'h0 = d := rfl
        have l1 := one_lt d 49
        have l2 := one_gt d 52
        rw [show (49 : UInt8).toNat = 49 from rfl] at l1
        rw [show (52 : UInt8).toNat = 52 from rfl] at l2
        rw [show (one 49).toList = [49] from Lib.toList_data _] at l1
        generalize one d = T at HCT hT h0 hx l1 l2
        have q1 : ((T.size : Int) != 1) = false := by rw [hT]; rfl
        have q2 : (0 : Int) < (T.size : Int) := by rw [hT]; decide
        have k1 : wrap64 (d.toNat : Int) = (d.toNat : Int) := wrap64_id _ (by omega) (by omega)
        have k2 : wrap64 ((d.toNat : Int) - 48) = (d.toNat : Int) - 48 := wrap64_id _ (by omega) (by omega)
        clear ha hd hT
        by_cases h49 : d.toNat < 49
        · have q3 : decide ((d.toNat : Int) - 48 < 1) = true := decide_eq_true (by omega)
          rw [decide_eq_true h49] at l1
          obtain ⟨rfl, rfl⟩ : Q = ⟨#[]⟩ ∧ R = 0 := by have h := HR.out.symm.trans (from_digit HA.out (.inl h49)); exact ⟨congrArg Prod.fst h, congrArg Prod.snd h⟩
          clear h49 hdb l2
          go_enter Tryd.func12, Tryd.ntmps12
          go_upto_region 1 with fail
          refine name_world (C := fun w1 => Code.wp _ _ _ _ w1) (w.alloc (.cells (msgC m A c).toArray 26)) ?_
          intro w1 hw1
          have hb1 : Below w.heap.size w w1 := by rw [hw1]; exact S2.below_new w _
          have B_w1 := Lib.hid hb1
          have P_w1 : Hid (PL w1 w1.heap.size A m.props) := Lib.hid (GL.step HS.out hb1)
          have V_w1 : Hid (BK 26 w1 w.heap.size (msgC m A c)) := Lib.hid (by rw [hw1]; exact BK.new w _ _)
          have O_w1 : Hid (Okd w1) := Lib.hid (HO.out.step hb1)
          clear hw1 hb1
          have HLM := Lib.hid (S2.run_load_all V_w1.out Tryd.underlying26 rfl msgSize)
          go_wp2_with first
            | (refine wpList_load_v (by rfl) 26 _ rfl ⟨w.heap.size, 0, none⟩ (by first | rfl | go_simp) _ HLM.out ?_)
          refine (HGT.out w1 P_w1.out).mono ?_
          rintro e w2 ⟨rfl, hb⟩
          have B_w2 := Lib.hid (stepB B_w1.out hb)
          have O_w2 := Lib.hid (O_w1.out.step hb)
          clear hb HLM
          go_wp2_with fail
          refine (HCT.out w2 O_w2.out.k).mono ?_
          rintro e w3 ⟨rfl, hb⟩
          have B_w3 := Lib.hid (stepB B_w2.out hb)
          clear hb
          go_wp2_with fail
          refine (HNM.out w3).mono ?_
          rintro e w4 ⟨rfl, hb⟩
          have B_w4 := Lib.hid (stepB B_w3.out hb)
          clear hb
          go_wp2
          go_ret2
          exact ⟨by first | rfl | (show Ending.returned (.tuple #[.string _, .int .i64 (wrap64 _)]) = _; rw [k2]), B_w4.out⟩
        rw [decide_eq_false h49] at l1
        have q3 : decide ((d.toNat : Int) - 48 < 1) = false := decide_eq_false (by omega)
        by_cases h52 : 52 < d.toNat
        · have q4 : decide ((4 : Int) < (d.toNat : Int) - 48) = true := decide_eq_true (by omega)
          rw [decide_eq_true h52] at l2
          obtain ⟨rfl, rfl⟩ : Q = ⟨#[]⟩ ∧ R = 0 := by have h := HR.out.symm.trans (from_digit HA.out (.inr h52)); exact ⟨congrArg Prod.fst h, congrArg Prod.snd h⟩
          clear h49 h52 hdb
          go_enter Tryd.func12, Tryd.ntmps12
          go_upto_region 1 with fail
          refine name_world (C := fun w1 => Code.wp _ _ _ _ w1) (w.alloc (.cells (msgC m A c).toArray 26)) ?_
          intro w1 hw1
          have hb1 : Below w.heap.size w w1 := by rw [hw1]; exact S2.below_new w _
          have B_w1 := Lib.hid hb1
          have P_w1 : Hid (PL w1 w1.heap.size A m.props) := Lib.hid (GL.step HS.out hb1)
          have V_w1 : Hid (BK 26 w1 w.heap.size (msgC m A c)) := Lib.hid (by rw [hw1]; exact BK.new w _ _)
          have O_w1 : Hid (Okd w1) := Lib.hid (HO.out.step hb1)
          clear hw1 hb1
          have HLM := Lib.hid (S2.run_load_all V_w1.out Tryd.underlying26 rfl msgSize)
          go_wp2_with first
            | (refine wpList_load_v (by rfl) 26 _ rfl ⟨w.heap.size, 0, none⟩ (by first | rfl | go_simp) _ HLM.out ?_)
          refine (HGT.out w1 P_w1.out).mono ?_
          rintro e w2 ⟨rfl, hb⟩
          have B_w2 := Lib.hid (stepB B_w1.out hb)
          have O_w2 := Lib.hid (O_w1.out.step hb)
          clear hb HLM
          go_wp2_with fail
          refine (HCT.out w2 O_w2.out.k).mono ?_
          rintro e w3 ⟨rfl, hb⟩
          have B_w3 := Lib.hid (stepB B_w2.out hb)
          clear hb
          go_wp2_with fail
          refine (HNM.out w3).mono ?_
          rintro e w4 ⟨rfl, hb⟩
          have B_w4 := Lib.hid (stepB B_w3.out hb)
          clear hb
          go_wp2
          go_ret2
          exact ⟨by first | rfl | (show Ending.returned (.tuple #[.string _, .int .i64 (wrap64 _)]) = _; rw [k2]), B_w4.out⟩
        have q4 : decide ((4 : Int) < (d.toNat : Int) - 48) = false := decide_eq_false (by omega)
        rw [decide_eq_false h52] at l2
        have k3 := byte_wrap (d := d) (by omega)
        obtain ⟨rfl, rfl⟩ : N = Q ∧ R = (d.toNat : Int) - 48 := by have h := HR.out.symm.trans (from_ok HBN.out HA.out (by omega) (by omega)); rw [HNN.out] at h; exact ⟨(congrArg Prod.fst h).symm, congrArg Prod.snd h⟩
        clear h49 h52 hdb
        go_enter Tryd.func12, Tryd.ntmps12
        go_upto_region 1 with fail
        refine name_world (C := fun w1 => Code.wp _ _ _ _ w1) (w.alloc (.cells (msgC m A c).toArray 26)) ?_
        intro w1 hw1
        have hb1 : Below w.heap.size w w1 := by rw [hw1]; exact S2.below_new w _
        have B_w1 := Lib.hid hb1
        have P_w1 : Hid (PL w1 w1.heap.size A m.props) := Lib.hid (GL.step HS.out hb1)
        have V_w1 : Hid (BK 26 w1 w.heap.size (msgC m A c)) := Lib.hid (by rw [hw1]; exact BK.new w _ _)
        have O_w1 : Hid (Okd w1) := Lib.hid (HO.out.step hb1)
        clear hw1 hb1
        have HLM := Lib.hid (S2.run_load_all V_w1.out Tryd.underlying26 rfl msgSize)
        go_wp2_with first
          | (refine wpList_load_v (by rfl) 26 _ rfl ⟨w.heap.size, 0, none⟩ (by first | rfl | go_simp) _ HLM.out ?_)
        refine (HGT.out w1 P_w1.out).mono ?_
        rintro e w2 ⟨rfl, hb⟩
        have B_w2 := Lib.hid (stepB B_w1.out hb)
        have O_w2 := Lib.hid (O_w1.out.step hb)
        clear hb HLM
        go_wp2_with fail
        refine (HCT.out w2 O_w2.out.k).mono ?_
        rintro e w3 ⟨rfl, hb⟩
        have B_w3 := Lib.hid (stepB B_w2.out hb)
        clear hb
        go_wp2_with fail
        refine (HNM.out w3).mono ?_
        rintro e w4 ⟨rfl, hb⟩
        have B_w4 := Lib.hid (stepB B_w3.out hb)
        clear hb
        go_upto_region 4 with fail
        go_quiet (fail)
        go_wp2
        go_ret2
        exact ⟨by first | rfl | (show Ending.returned (.tuple #[.string _, .int .i64 (wrap64 _)]) = _; rw [k2]), stepB B_w4.out ⟨rfl, rfl, rfl, Nat.le_refl _, fun _ _ => rfl⟩⟩
      · have hT : (bs (aftS (dl s))).size ≠ 1 := by rw [size_bs]; exact ha
        obtain ⟨rfl, rfl⟩ : Q = ⟨#[]⟩ ∧ R = 0 := by have h := HR.out.symm.trans (from_len ha); exact ⟨congrArg Prod.fst h, congrArg Prod.snd h⟩
        generalize bs (aftS (dl s)) = T at HCT hT
        have q1 : ((T.size : Int) != 1) = true := by rw [bne_iff_ne]; omega
        clear ha hT
        go_enter Tryd.func12, Tryd.ntmps12
        go_upto_region 1 with fail
        refine name_world (C := fun w1 => Code.wp _ _ _ _ w1) (w.alloc (.cells (msgC m A c).toArray 26)) ?_
        intro w1 hw1
        have hb1 : Below w.heap.size w w1 := by rw [hw1]; exact S2.below_new w _
        have B_w1 := Lib.hid hb1
        have P_w1 : Hid (PL w1 w1.heap.size A m.props) := Lib.hid (GL.step HS.out hb1)
        have V_w1 : Hid (BK 26 w1 w.heap.size (msgC m A c)) := Lib.hid (by rw [hw1]; exact BK.new w _ _)
        have O_w1 : Hid (Okd w1) := Lib.hid (HO.out.step hb1)
        clear hw1 hb1
        have HLM := Lib.hid (S2.run_load_all V_w1.out Tryd.underlying26 rfl msgSize)
        go_wp2_with first
          | (refine wpList_load_v (by rfl) 26 _ rfl ⟨w.heap.size, 0, none⟩ (by first | rfl | go_simp) _ HLM.out ?_)
        refine (HGT.out w1 P_w1.out).mono ?_
        rintro e w2 ⟨rfl, hb⟩
        have B_w2 := Lib.hid (stepB B_w1.out hb)
        have O_w2 := Lib.hid (O_w1.out.step hb)
        clear hb HLM
        go_wp2_with fail
        refine (HCT.out w2 O_w2.out.k).mono ?_
        rintro e w3 ⟨rfl, hb⟩
        have B_w3 := Lib.hid (stepB B_w2.out hb)
        clear hb
        go_wp2_with fail
        refine (HNM.out w3).mono ?_
        rintro e w4 ⟨rfl, hb⟩
        have B_w4 := Lib.hid (stepB B_w3.out hb)
        clear hb
        go_wp2
        go_ret2
        exact ⟨by first | rfl | (show Ending.returned (.tuple #[.string _, .int .i64 (wrap64 _)]) = _; rw [k2]), B_w4.out⟩

end Go.Proofs.YthpplhhlhheopabDoor
