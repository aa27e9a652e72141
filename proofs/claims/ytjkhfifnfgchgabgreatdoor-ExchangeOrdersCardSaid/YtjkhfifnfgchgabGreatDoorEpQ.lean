/-
  What Matches of exchange, and words and Matches of brokerref24 answer: whether a pattern matches a key. Conditions: the library's bound on short texts holds a number; few words.
-/
import Derived.Test.YtjkhfifnfgchgabGreatDoorEpO
import Derived.Laws.MakeOwn
import Derived.RegionTactic
namespace Go.Proofs.YtjkhfifnfgchgabGreatDoor
open Go.RowKit
open S2 (BK Put)

set_option maxRecDepth 20000 in
set_option maxHeartbeats 4000000 in
theorem xMatches_any (p k : ByteArray) (w : World) (hw : S1.Okw w) :
    Calls Tryz.prog 33 #[.string p, .string k] w fun e w' => e = .returned (.bool (mtR p k)) ∧ Below w.heap.size w w' := by
  have HC1 := Lib.hid (fun w1 => checkKey_any p w1)
  have HC2 := Lib.hid (fun w1 => checkKey_any k w1)
  have HW1 : Hid (txR p = 0 → ∀ w1, S1.Okw w1 → _) := Lib.hid (fun h w1 ho => words_any p w1 ho (by have := txR_size h; omega))
  have HW2 : Hid (txR k = 0 → ∀ w1, S1.Okw w1 → _) := Lib.hid (fun h w1 ho => words_any k w1 ho (by have := txR_size h; omega))
  have HM : Hid (txR p = 0 → txR k = 0 → ∀ A1 A2 w1, S1.SL w1 w1.heap.size A1 (wdB p) → S1.SL w1 w1.heap.size A2 (wdB k) → _) := Lib.hid (fun h1 h2 A1 A2 w1 g1 g2 => matchWords_any A1 A2 (wdB p) (wdB k) w1 g1 g2 (by have := wdB_le p; have := txR_size h1; omega) (by have := wdB_le k; have := txR_size h2; omega))
  have HO := Lib.hid hw
  unfold mtR
  generalize wdB p = wp at *
  generalize wdB k = wk at *
  generalize mtW wp wk = mm at *
  generalize txR p = tp at *
  generalize txR k = tk at *
  obtain ⟨np, hnp⟩ : ∃ n, wp.length = n := ⟨_, rfl⟩
  obtain ⟨nk, hnk⟩ : ∃ n, wk.length = n := ⟨_, rfl⟩
  rw [hnp, hnk] at HM
  rw [hnp] at HW1
  rw [hnk] at HW2
  clear hw hnp hnk
  by_cases h1 : tp = 0
  · by_cases h2 : tk = 0
    · have HWA := Lib.hid (HW1.out h1)
      have HWB := Lib.hid (HW2.out h2)
      have HMM := Lib.hid (HM.out h1 h2)
      clear HW1 HW2 HM
      subst h1 h2
      go_enter Tryz.func33, Tryz.ntmps33
      go_wp2_with fail
      refine (HC1.out _).mono ?_
      rintro e w1 ⟨rfl, rfl⟩
      go_wp2_with fail
      refine (HC2.out _).mono ?_
      rintro e w2 ⟨rfl, rfl⟩
      go_wp2_with fail
      refine (HWA.out _ HO.out).mono ?_
      rintro e w3 ⟨A1, rfl, hs, hb⟩
      have S_w3 := Lib.hid hs
      have B_w3 := Lib.hid hb
      have O_w3 := Lib.hid (HO.out.step hb)
      clear hs hb
      go_wp2_with fail
      refine (HWB.out _ O_w3.out).mono ?_
      rintro e w4 ⟨A2, rfl, hs, hb⟩
      have S2_w4 := Lib.hid hs
      have S_w4 := Lib.hid (S_w3.out.step hb)
      have B_w4 := Lib.hid (stepB B_w3.out hb)
      clear hs hb S_w3 B_w3
      go_wp2_with fail
      refine (HMM.out A1 A2 _ S_w4.out S2_w4.out).mono ?_
      rintro e w5 ⟨rfl, hb⟩
      have B_w5 := Lib.hid (stepB B_w4.out hb)
      clear hb
      cases mm
      all_goals
        go_wp2_with fail
        go_ret
        exact ⟨rfl, B_w5.out⟩
    · have q2 : (tk == 0) = false := beq_eq_false_iff_ne.2 h2
      have HD : Hid (decide (tk = 0) = false) := Lib.hid (decide_eq_false h2)
      subst h1
      clear h2 HW1 HW2 HM
      go_enter Tryz.func33, Tryz.ntmps33
      go_wp2_with fail
      refine (HC1.out _).mono ?_
      rintro e w1 ⟨rfl, rfl⟩
      go_wp2_with fail
      refine (HC2.out _).mono ?_
      rintro e w2 ⟨rfl, rfl⟩
      go_wp2_with fail
      go_ret
      exact ⟨retb (by rw [HD.out]; rfl), Below.refl _ _⟩
  · have q1 : (tp == 0) = false := beq_eq_false_iff_ne.2 h1
    have HD : Hid (decide (tp = 0) = false) := Lib.hid (decide_eq_false h1)
    clear h1 HW1 HW2 HM
    go_enter Tryz.func33, Tryz.ntmps33
    go_wp2_with fail
    refine (HC1.out _).mono ?_
    rintro e w1 ⟨rfl, rfl⟩
    go_wp2_with fail
    go_ret
    exact ⟨retb (by rw [HD.out]; rfl), Below.refl _ _⟩

theorem boolInfo : (Tryz.prog.info? 4).map (fun i => (i.zero, i.size, i.bytes)) = some (some (.bool false), 1, 1) := by kernel_rfl
/-- the row of the answers for the words of a pattern from q on -/
def RowM (p k : List ByteArray) (q : Nat) (cs : List Value) (t : Nat) : Prop := cs.length = k.length + 1 ∧ ∀ j, t ≤ j → j ≤ k.length → cs[j]? = some (.bool (mtW (p.drop q) (k.drop j)))
theorem RowM.set {p k : List ByteArray} {q t : Nat} {cs : List Value} (h : RowM p k q cs (t + 1)) (ht : t ≤ k.length) {b : Bool} (hb : b = mtW (p.drop q) (k.drop t)) : RowM p k q (cs.set t (.bool b)) t :=
  ⟨by rw [List.length_set]; exact h.1, fun j hj hjn => by
    rw [List.getElem?_set]
    by_cases e : t = j
    · subst e
      rw [if_pos rfl, if_pos (by rw [h.1]; omega), hb]
    · rw [if_neg e]
      exact h.2 j (by omega) hjn⟩
theorem made_at (n j : Nat) (h : j < n) : (madeCells #[.bool false] n)[j]? = some (.bool false) := by
  unfold madeCells
  rw [Array.getElem?_map, Array.getElem?_range, if_pos h]
  simp [Nat.mod_one]
theorem RowM.start (p k : List ByteArray) : RowM p k p.length ((madeCells #[.bool false] (k.length + 1)).toList.set k.length (.bool true)) 0 :=
  ⟨by rw [List.length_set, Array.length_toList, size_madeCells], fun j _ hj => by
    rw [List.getElem?_set, List.drop_length, mt_nil]
    by_cases e : k.length = j
    · subst e
      rw [if_pos rfl, if_pos (by simp [size_madeCells]), List.drop_length]; rfl
    · rw [if_neg e, Array.getElem?_toList, made_at _ _ (by omega)]
      have : k.drop j ≠ [] := fun h => by rw [List.drop_eq_nil_iff] at h; omega
      cases hk : k.drop j with
      | nil => exact absurd hk this
      | cons a b => rfl⟩
theorem RowM.fresh (p k : List ByteArray) (q : Nat) : RowM p k q (madeCells #[.bool false] (k.length + 1)).toList (k.length + 1) :=
  ⟨by rw [Array.length_toList, size_madeCells], fun j h1 h2 => by omega⟩
set_option maxRecDepth 20000 in
set_option maxHeartbeats 8000000 in
theorem rwords_any (A1 A2 : Option Addr) (p k : List ByteArray) (w : World) (h1 : S1.SL w w.heap.size A1 p) (h2 : S1.SL w w.heap.size A2 k) (hn1 : p.length ≤ 1000000) (hn2 : k.length ≤ 1000000) :
    Calls Tryz.prog 100 #[.slice A1 p.length p.length, .slice A2 k.length k.length] w fun e w' => e = .returned (.bool (mtW p k)) ∧ Below w.heap.size w w' := by
  obtain ⟨i0, hi0, hz0, hzs, hzb⟩ := info_parts boolInfo
  have hmk : ∀ W : World, (Instr.makeSlice 133 (.int .i64 ((k.length : Int) + 1)) (.int .i64 ((k.length : Int) + 1))).run Tryz.prog W = .ok (.slice (some ⟨W.heap.size, 0, none⟩) (k.length + 1) (k.length + 1)) (W.alloc (.cells (madeCells #[.bool false] (k.length + 1)) 4)) := fun W => by
    have h := run_make (P := Tryz.prog) W 133 4 i0 (.bool false) Tryz.underlying133 hi0 hz0 .i64 .i64 ((k.length : Int) + 1) ((k.length : Int) + 1) (by omega) (by omega) (by rw [hzb]; omega) (by omega)
    rw [hzs, show ((k.length : Int) + 1).toNat = k.length + 1 by omega, Nat.mul_one] at h
    exact h
  have HP := Lib.hid h1
  have HK := Lib.hid h2
  have HN1 := Lib.hid hn1
  have HN2 := Lib.hid hn2
  have HRS := Lib.hid (RowM.start p k)
  have HRF := Lib.hid (RowM.fresh p k)
  obtain ⟨R, hR⟩ : ∃ R, mtW p k = R := ⟨_, rfl⟩
  have HR := Lib.hid hR
  rw [hR]
  have HC0 : Hid ((madeCells #[.bool false] (k.length + 1)).toList.length = k.length + 1 ∧ (madeCells #[.bool false] (k.length + 1)).toList[k.length]? = some (.bool false)) := Lib.hid ⟨by rw [Array.length_toList, size_madeCells], by rw [Array.getElem?_toList, made_at _ _ (by omega)]⟩
  have HT : Hid ((madeCells #[Value.bool false] (k.length + 1)).toList.toArray = madeCells #[.bool false] (k.length + 1)) := Lib.hid (by simp)
  obtain ⟨C0, hC0⟩ : ∃ C : List Value, C = (madeCells #[.bool false] (k.length + 1)).toList := ⟨_, rfl⟩
  rw [← HT.out] at hmk
  rw [← hC0] at hmk HRS HRF HC0
  clear h1 h2 hn1 hn2 hR hi0 hz0 hzs hzb HT hC0
  have v1 : wrap64 ((k.length : Int) + 1) = (k.length : Int) + 1 := wrap64_id _ (by omega) (by have := HN2.out; omega)
  have v2 : wrap64 ((p.length : Int) - 1) = (p.length : Int) - 1 := wrap64_id _ (by omega) (by have := HN1.out; omega)
  have j1 : (0 : Int) ≤ (k.length : Int) := by omega
  have j2 : (k.length : Int) < (k.length : Int) + 1 := by omega
  have j3 : k.length < k.length + 1 := by omega
  go_enter Tryz.func100, Tryz.ntmps100
  go_upto_region 2 with fail
  refine name_world (C := fun w1 => Code.wp _ _ _ _ w1) (w.alloc (.cells C0.toArray 4)) ?_
  intro w1 hw1
  have hM : BK 4 w1 w.heap.size C0 := by rw [hw1]; exact BK.new w _ _
  have hb : Below w.heap.size w w1 := by rw [hw1]; exact S2.below_new w _
  have M_w1 := Lib.hid hM
  have B_w1 := Lib.hid hb
  have c0 := hM.cell k.length HC0.out.2
  have f0 := hM.free k.length
  have hlt := hM.lt
  clear hw1 hM hb
  go_upto_region 3 with fail
  refine name_world (C := fun w1 => Code.wp _ _ _ _ w1) (w1.setCell ⟨w.heap.size, k.length, none⟩ (.bool true)) ?_
  intro w2 hw2
  have M_w2 : Hid (BK 4 w2 w.heap.size (C0.set k.length (.bool true))) := Lib.hid (by rw [hw2]; exact M_w1.out.set k.length _)
  have B_w2 : Hid (Below w.heap.size w w2) := Lib.hid (by rw [hw2]; exact B_w1.out.setCell (p := ⟨w.heap.size, k.length, none⟩) (Nat.le_refl _) _)
  clear hw2 M_w1 B_w1 c0 f0 hlt
  obtain ⟨D0, hD0⟩ : ∃ D, D = C0.set k.length (.bool true) := ⟨_, rfl⟩
  rw [← hD0] at M_w2 HRS
  clear hD0
  go_wp2_with fail
  go_loopg [5, 6] p.length (fun g v5 v6 wr => ∃ (q : Nat) (iq : Int) (r : Nat) (cs : List Value), q = g ∧ v6 = .int .i64 iq ∧ iq = (q : Int) - 1 ∧ q ≤ p.length ∧ v5 = .slice (some ⟨r, 0, none⟩) (k.length + 1) (k.length + 1) ∧ w.heap.size ≤ r ∧ BK 4 wr r cs ∧ RowM p k q cs 0 ∧ Below w.heap.size w wr)
  case atStart => exact ⟨p.length, _, w.heap.size, D0, rfl, rfl, (by first | rfl | exact v2), Nat.le_refl _, rfl, Nat.le_refl _, M_w2.out, HRS.out, B_w2.out⟩
  case round =>
    obtain ⟨q, iq, r, cs, hq, rfl, hiq, hql, rfl, hr, hM, hrow, hb0⟩ := hrel
    have M_wr := Lib.hid hM
    have B_wr := Lib.hid hb0
    have HROW := Lib.hid hrow
    have HRR := Lib.hid hr
    have HQL := Lib.hid hql
    clear hM hb0 hrow M_w2 B_w2 hr hql
    subst hq
    cases q with
    | zero =>
      obtain rfl : iq = -1 := by omega
      clear hiq
      have c0 := M_wr.out.cell 0 (HROW.out.2 0 (Nat.le_refl _) (Nat.zero_le _))
      rw [List.drop_zero, List.drop_zero, HR.out] at c0
      have j4 : (0 : Int) < (k.length : Int) + 1 := by omega
      have j5 : 0 < k.length + 1 := by omega
      go_wp2_with fail
      go_ret
      exact ⟨rfl, B_wr.out⟩
    | succ q =>
      obtain rfl : iq = (q : Int) := by omega
      have n1 : decide ((0 : Int) ≤ (q : Int)) = true := decide_eq_true (by omega)
      have n2 : (0 : Int) ≤ (q : Int) := by omega
      have n3 : (q : Int) < (p.length : Int) := by have := HQL.out; omega
      have n4 : wrap64 ((q : Int) - 1) = (q : Int) - 1 := wrap64_id _ (by omega) (by have := HN1.out; have := HQL.out; omega)
      obtain ⟨x, hx⟩ : ∃ x, p[q]? = some x := ⟨_, List.getElem?_eq_getElem (by have := HQL.out; omega)⟩
      have HXX := Lib.hid hx
      have HDR := Lib.hid (drop_cons hx)
      clear hiq hx
      go_upto_region 7 with fail
      refine name_world (C := fun w1 => Code.wp _ _ _ _ w1) (wr.alloc (.cells C0.toArray 4)) ?_
      intro w3 hw3
      have hM : BK 4 w3 wr.heap.size C0 := by rw [hw3]; exact BK.new wr _ _
      have hb : Below wr.heap.size wr w3 := by rw [hw3]; exact S2.below_new wr _
      have N_w3 := Lib.hid hM
      have M_w3 := Lib.hid (M_wr.out.step hb)
      have B_w3 := Lib.hid (stepB B_wr.out hb)
      have HNR : Hid (r < wr.heap.size) := Lib.hid M_wr.out.lt
      have HNB : Hid (w.heap.size ≤ wr.heap.size) := Lib.hid B_wr.out.size
      obtain ⟨r2, hr2⟩ : ∃ r2, r2 = wr.heap.size := ⟨_, rfl⟩
      rw [← hr2] at N_w3 HNR HNB ⊢
      clear hw3 hM hb hr2 M_wr B_wr
      go_wp2_with fail
      go_loopg [8] (k.length + 1) (fun g v8 wr => ∃ (t : Nat) (ij : Int) (ds : List Value), t = g ∧ v8 = .int .i64 ij ∧ ij = (t : Int) - 1 ∧ t ≤ k.length + 1 ∧ BK 4 wr r2 ds ∧ RowM p k q ds t ∧ BK 4 wr r cs ∧ Below w.heap.size w wr)
      case atStart => exact ⟨k.length + 1, _, C0, rfl, rfl, by omega, Nat.le_refl _, N_w3.out, HRF.out q, M_w3.out, B_w3.out⟩
      case round =>
        rename World => wz
        obtain ⟨t, ij, ds, ht, rfl, hij, htl, hN, hrow2, hM, hb0⟩ := hrel
        have N_wz := Lib.hid hN
        have M_wz := Lib.hid hM
        have B_wz := Lib.hid hb0
        have HROW2 := Lib.hid hrow2
        have HTL := Lib.hid htl
        clear hN hM hb0 hrow2 htl N_w3 M_w3 B_w3
        subst ht
        cases t with
        | zero =>
          obtain rfl : ij = -1 := by omega
          clear hij
          go_wp2_with fail
          go_roundg q
          case measure => omega
          case rel => exact ⟨q, _, r2, ds, rfl, rfl, (by first | rfl | exact n4), by have := HQL.out; omega, rfl, HNB.out, N_wz.out, HROW2.out, B_wz.out⟩
        | succ t =>
          obtain rfl : ij = (t : Int) := by omega
          have htn : t ≤ k.length := by have := HTL.out; omega
          have t1 : decide ((0 : Int) ≤ (t : Int)) = true := decide_eq_true (by omega)
          have t2 : (0 : Int) ≤ (t : Int) := by omega
          have t3 : (t : Int) < (k.length : Int) + 1 := by omega
          have t3' : t < k.length + 1 := by omega
          have t4 : wrap64 ((t : Int) - 1) = (t : Int) - 1 := wrap64_id _ (by omega) (by have := HN2.out; omega)
          have t4' : IntKind.i64.wrap ((t : Int) + 1) = (t : Int) + 1 := wrap_i64_id _ (by omega) (by have := HN2.out; omega)
          have t5 : wrap64 ((t : Int) + 1) = (t : Int) + 1 := wrap64_id _ (by omega) (by have := HN2.out; omega)
          have t6 : (0 : Int) ≤ (t : Int) + 1 := by omega
          obtain ⟨b1, o1, hA1, _, hcl1⟩ := (HP.out.step B_wz.out) (by have := (List.getElem?_eq_some_iff.1 HXX.out).1; omega)
          have kx := hcl1 q x HXX.out
          subst hA1
          have q1 : (x.toList == [35]) = decide (x = hashB) := eqL x [35]
          have q2 : (x.toList == [42]) = decide (x = wordB) := eqL x [42]
          obtain ⟨old, hold⟩ : ∃ u, ds[t]? = some u := ⟨_, List.getElem?_eq_getElem (by rw [HROW2.out.1]; omega)⟩
          have cN := N_wz.out.cell t hold
          have fN := N_wz.out.free t
          have lN := N_wz.out.lt
          clear hij hcl1 hold
          by_cases hh : x = hashB
          · have hrh := mt_row_hash (p.drop (q + 1)) k t
            rw [← hh, ← HDR.out] at hrh
            rw [decide_eq_true hh] at q1
            have cR := M_wz.out.cell t (HROW.out.2 t (Nat.zero_le _) htn)
            obtain ⟨b1v, hb1v⟩ : ∃ b, mtW (p.drop (q + 1)) (k.drop t) = b := ⟨_, rfl⟩
            rw [hb1v] at cR hrh
            by_cases htk : t < k.length
            · have e1 : decide ((t : Int) < (k.length : Int)) = true := decide_eq_true (by omega)
              have e1' : decide (t < k.length) = true := decide_eq_true htk
              have j4 : (t : Int) + 1 < (k.length : Int) + 1 := by omega
              have j4' : t + 1 < k.length + 1 := by omega
              have cS : wz.cell? ⟨r2, t + 1, none⟩ = some (.bool (mtW (p.drop q) (k.drop (t + 1)))) := N_wz.out.cell (t + 1) (HROW2.out.2 (t + 1) (Nat.le_refl _) (by omega))
              obtain ⟨b2v, hb2v⟩ : ∃ b, mtW (p.drop q) (k.drop (t + 1)) = b := ⟨_, rfl⟩
              rw [hb2v] at cS hrh
              rw [e1', Bool.true_and] at hrh
              have HS := Lib.hid (fun b (h : b = (b1v || b2v)) => HROW2.out.set htn (b := b) (by rw [h]; exact hrh.symm))
              clear hh hrh hb1v hb2v htk q2 htn
              cases b1v <;> cases b2v
              all_goals
                go_upto_region 9 with fail
                refine name_world (C := fun w1 => Code.wp _ _ _ _ w1) (wz.setCell ⟨r2, t, none⟩ (.bool _)) ?_
                intro wy hwy
                have N_wy := Lib.hid (show BK 4 wy r2 (ds.set t (.bool _)) by rw [hwy]; exact N_wz.out.set t _)
                have M_wy : Hid (BK 4 wy r cs) := Lib.hid (by rw [hwy]; exact M_wz.out.other (by show r ≠ r2; have := HNR.out; omega) _)
                have B_wy : Hid (Below w.heap.size w wy) := Lib.hid (by rw [hwy]; exact B_wz.out.setCell (p := ⟨r2, t, none⟩) (by show w.heap.size ≤ r2; exact HNB.out) _)
                clear hwy cN fN cS cR lN
                go_wp2_with fail
                go_roundg t
                case measure => omega
                case rel => exact ⟨t, _, _, rfl, rfl, (by first | rfl | exact t4), by have := HTL.out; omega, N_wy.out, HS.out _ rfl, M_wy.out, B_wy.out⟩
            · have e1 : decide ((t : Int) < (k.length : Int)) = false := decide_eq_false (by omega)
              have e1' : decide (t < k.length) = false := decide_eq_false htk
              rw [e1', Bool.false_and, Bool.or_false] at hrh
              have HS := Lib.hid (fun b (h : b = b1v) => HROW2.out.set htn (b := b) (by rw [h]; exact hrh.symm))
              clear hh hrh hb1v htk q2 htn
              cases b1v
              all_goals
                go_upto_region 9 with fail
                refine name_world (C := fun w1 => Code.wp _ _ _ _ w1) (wz.setCell ⟨r2, t, none⟩ (.bool _)) ?_
                intro wy hwy
                have N_wy := Lib.hid (show BK 4 wy r2 (ds.set t (.bool _)) by rw [hwy]; exact N_wz.out.set t _)
                have M_wy : Hid (BK 4 wy r cs) := Lib.hid (by rw [hwy]; exact M_wz.out.other (by show r ≠ r2; have := HNR.out; omega) _)
                have B_wy : Hid (Below w.heap.size w wy) := Lib.hid (by rw [hwy]; exact B_wz.out.setCell (p := ⟨r2, t, none⟩) (by show w.heap.size ≤ r2; exact HNB.out) _)
                clear hwy cN fN cR lN
                go_wp2_with fail
                go_roundg t
                case measure => omega
                case rel => exact ⟨t, _, _, rfl, rfl, (by first | rfl | exact t4), by have := HTL.out; omega, N_wy.out, HS.out _ rfl, M_wy.out, B_wy.out⟩
          · rw [decide_eq_false hh] at q1
            by_cases htk : t < k.length
            · obtain ⟨c, hc⟩ : ∃ c, k[t]? = some c := ⟨_, List.getElem?_eq_getElem htk⟩
              have hrh := mt_row_word hh (p.drop (q + 1)) k hc
              rw [← HDR.out] at hrh
              obtain ⟨bk2, ok2, hA2, _, hcl2⟩ := (HK.out.step B_wz.out) (by omega)
              have kc := hcl2 t c hc
              subst hA2
              have q3 : (x.toList == c.toList) = decide (x = c) := str_dec x c
              have e1 : decide ((t : Int) < (k.length : Int)) = true := decide_eq_true (by omega)
              have e1' : decide (t < k.length) = true := decide_eq_true htk
              have e2 : (t : Int) < (k.length : Int) := by omega
              have j4 : (t : Int) + 1 < (k.length : Int) + 1 := by omega
              have j4' : t + 1 < k.length + 1 := by omega
              have cS : wz.cell? ⟨r, t + 1, none⟩ = some (.bool (mtW (p.drop (q + 1)) (k.drop (t + 1)))) := M_wz.out.cell (t + 1) (HROW.out.2 (t + 1) (Nat.zero_le _) (by omega))
              obtain ⟨b2v, hb2v⟩ : ∃ b, mtW (p.drop (q + 1)) (k.drop (t + 1)) = b := ⟨_, rfl⟩
              rw [hb2v] at cS hrh
              generalize decide (x = wordB) = d2 at *
              generalize decide (x = c) = d3 at *
              have HS := Lib.hid (fun b (h : b = ((d2 || d3) && b2v)) => HROW2.out.set htn (b := b) (by rw [h]; exact hrh.symm))
              clear hh hrh hb2v htk htn hc hcl2
              cases d2 <;> cases d3 <;> cases b2v
              all_goals
                go_wp2_with fail
                go_region
                refine name_world (C := fun w1 => Exit.inBlock _ _ _ _ w1) ((wz.setCell ⟨r2, t, none⟩ (.bool _)).drew) ?_
                intro wy hwy
                have N_wy := Lib.hid (show BK 4 wy r2 (ds.set t (.bool _)) by rw [hwy]; exact (N_wz.out.set t _).drew)
                have M_wy : Hid (BK 4 wy r cs) := Lib.hid (by rw [hwy]; exact (M_wz.out.other (by show r ≠ r2; have := HNR.out; omega) _).drew)
                have B_wy : Hid (Below w.heap.size w wy) := Lib.hid (by rw [hwy]; exact (B_wz.out.setCell (p := ⟨r2, t, none⟩) (by show w.heap.size ≤ r2; exact HNB.out) _).drew)
                clear hwy cN fN lN
                go_wp2_with fail
                go_roundg t
                case measure => omega
                case rel => exact ⟨t, _, _, rfl, rfl, (by first | rfl | exact t4), by have := HTL.out; omega, N_wy.out, HS.out _ rfl, M_wy.out, B_wy.out⟩
            · obtain rfl : t = k.length := by omega
              have hrh := mt_row_end hh (p.drop (q + 1)) k
              rw [← HDR.out] at hrh
              have e1 : decide ((k.length : Int) < (k.length : Int)) = false := decide_eq_false (by omega)
              have e1' : decide (k.length < k.length) = false := decide_eq_false htk
              have HS := Lib.hid (fun b (h : b = false) => HROW2.out.set htn (b := b) (by rw [h]; exact hrh.symm))
              clear hh hrh htk htn
              go_wp2_with fail
              go_region
              refine name_world (C := fun w1 => Exit.inBlock _ _ _ _ w1) ((wz.setCell ⟨r2, k.length, none⟩ (.bool _)).drew) ?_
              intro wy hwy
              have N_wy := Lib.hid (show BK 4 wy r2 (ds.set k.length (.bool _)) by rw [hwy]; exact (N_wz.out.set k.length _).drew)
              have M_wy : Hid (BK 4 wy r cs) := Lib.hid (by rw [hwy]; exact (M_wz.out.other (by show r ≠ r2; have := HNR.out; omega) _).drew)
              have B_wy : Hid (Below w.heap.size w wy) := Lib.hid (by rw [hwy]; exact (B_wz.out.setCell (p := ⟨r2, k.length, none⟩) (by show w.heap.size ≤ r2; exact HNB.out) _).drew)
              clear hwy cN fN lN
              go_wp2_with fail
              go_roundg k.length
              case measure => omega
              case rel => exact ⟨k.length, _, _, rfl, rfl, (by first | rfl | exact t4), by have := HTL.out; omega, N_wy.out, HS.out _ rfl, M_wy.out, B_wy.out⟩

set_option maxRecDepth 20000 in
set_option maxHeartbeats 4000000 in
theorem rMatches24_any (p k : ByteArray) (w : World) (hw : S1.Okw w) :
    Calls Tryz.prog 80 #[.string p, .string k] w fun e w' => e = .returned (.bool (mtR p k)) ∧ Below w.heap.size w w' := by
  have HC1 := Lib.hid (fun w1 => xText_any p w1)
  have HC2 := Lib.hid (fun w1 => xText_any k w1)
  have HW1 : Hid (txR p = 0 → ∀ w1, S1.Okw w1 → _) := Lib.hid (fun h w1 ho => split_any p w1 ho (by have := txR_size h; omega))
  have HW2 : Hid (txR k = 0 → ∀ w1, S1.Okw w1 → _) := Lib.hid (fun h w1 ho => split_any k w1 ho (by have := txR_size h; omega))
  have HM : Hid (txR p = 0 → txR k = 0 → ∀ A1 A2 w1, S1.SL w1 w1.heap.size A1 (wdB p) → S1.SL w1 w1.heap.size A2 (wdB k) → _) := Lib.hid (fun h1 h2 A1 A2 w1 g1 g2 => rwords_any A1 A2 (wdB p) (wdB k) w1 g1 g2 (by have := wdB_le p; have := txR_size h1; omega) (by have := wdB_le k; have := txR_size h2; omega))
  have HO := Lib.hid hw
  unfold mtR
  generalize wdB p = wp at *
  generalize wdB k = wk at *
  generalize mtW wp wk = mm at *
  generalize txR p = tp at *
  generalize txR k = tk at *
  obtain ⟨np, hnp⟩ : ∃ n, wp.length = n := ⟨_, rfl⟩
  obtain ⟨nk, hnk⟩ : ∃ n, wk.length = n := ⟨_, rfl⟩
  rw [hnp, hnk] at HM
  rw [hnp] at HW1
  rw [hnk] at HW2
  clear hw hnp hnk
  by_cases h1 : tp = 0
  · by_cases h2 : tk = 0
    · have HWA := Lib.hid (HW1.out h1)
      have HWB := Lib.hid (HW2.out h2)
      have HMM := Lib.hid (HM.out h1 h2)
      clear HW1 HW2 HM
      subst h1 h2
      go_enter Tryz.func80, Tryz.ntmps80
      go_wp2_with fail
      refine (HC1.out _).mono ?_
      rintro e w1 ⟨rfl, rfl⟩
      go_wp2_with fail
      refine (HC2.out _).mono ?_
      rintro e w2 ⟨rfl, rfl⟩
      go_wp2_with fail
      refine (HWA.out _ HO.out).mono ?_
      rintro e w3 ⟨A1, rfl, hs, hb⟩
      have S_w3 := Lib.hid hs
      have B_w3 := Lib.hid hb
      have O_w3 := Lib.hid (HO.out.step hb)
      clear hs hb
      go_wp2_with fail
      refine (HWB.out _ O_w3.out).mono ?_
      rintro e w4 ⟨A2, rfl, hs, hb⟩
      have S2_w4 := Lib.hid hs
      have S_w4 := Lib.hid (S_w3.out.step hb)
      have B_w4 := Lib.hid (stepB B_w3.out hb)
      clear hs hb S_w3 B_w3
      go_wp2_with fail
      refine (HMM.out A1 A2 _ S_w4.out S2_w4.out).mono ?_
      rintro e w5 ⟨rfl, hb⟩
      have B_w5 := Lib.hid (stepB B_w4.out hb)
      clear hb
      cases mm
      all_goals
        go_wp2_with fail
        go_ret
        exact ⟨rfl, B_w5.out⟩
    · have q2 : (tk == 0) = false := beq_eq_false_iff_ne.2 h2
      have HD : Hid (decide (tk = 0) = false) := Lib.hid (decide_eq_false h2)
      subst h1
      clear h2 HW1 HW2 HM
      go_enter Tryz.func80, Tryz.ntmps80
      go_wp2_with fail
      refine (HC1.out _).mono ?_
      rintro e w1 ⟨rfl, rfl⟩
      go_wp2_with fail
      refine (HC2.out _).mono ?_
      rintro e w2 ⟨rfl, rfl⟩
      go_wp2_with fail
      go_ret
      exact ⟨retb (by rw [HD.out]; rfl), Below.refl _ _⟩
  · have q1 : (tp == 0) = false := beq_eq_false_iff_ne.2 h1
    have HD : Hid (decide (tp = 0) = false) := Lib.hid (decide_eq_false h1)
    clear h1 HW1 HW2 HM
    go_enter Tryz.func80, Tryz.ntmps80
    go_wp2_with fail
    refine (HC1.out _).mono ?_
    rintro e w1 ⟨rfl, rfl⟩
    go_wp2_with fail
    go_ret
    exact ⟨retb (by rw [HD.out]; rfl), Below.refl _ _⟩
end Go.Proofs.YtjkhfifnfgchgabGreatDoor
