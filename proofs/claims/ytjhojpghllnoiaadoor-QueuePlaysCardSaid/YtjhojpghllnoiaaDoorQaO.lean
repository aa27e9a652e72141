/-
  What has and Valid of brokerref25 answer: the first error of a queue. Conditions: the lists read as data; few entries; texts fit.
-/
import Derived.Test.YtjhojpghllnoiaaDoorQaK
namespace Go.Proofs.YtjhojpghllnoiaaDoor
open Go.RowKit
open S2 (BK Put get_ops)

theorem cutHE (b o n c k : Nat) (hk : k ≤ c) (w : World) : (Instr.slice 24 (.slice (some ⟨b, o, none⟩) n c) none (some (.int .i64 (k : Int))) none).run Tryd.prog w = .ok (.slice (some ⟨b, o, none⟩) k c) w := by
  rw [run_slice_h (P := Tryd.prog) w 24 _ n c undX .i64 k (by omega) (by omega), sizeOfX]
  simp [Result.andThen, sliced, Addr.add]
set_option maxRecDepth 20000 in
set_option maxHeartbeats 4000000 in
theorem rHas_any (A : Option Addr) (c : Nat) (xs : List EE) (n : Int) (w : World) (h : EI w w.heap.size A xs) (hn : xs.length ≤ 1000000) :
    Calls Tryd.prog 33 #[.slice A xs.length c, .int .i64 n] w fun e' w' => e' = .returned (.bool (hasQ (xs.map EE.x) n)) ∧ Below w.heap.size w w' := by
  have HS := Lib.hid h
  obtain ⟨R, hR⟩ : ∃ R, hasQ (xs.map EE.x) n = R := ⟨_, rfl⟩
  have HR : Hid (R = hasQ ((xs.map EE.x).drop 0) n) := Lib.hid (by rw [← hR]; rfl)
  rw [hR]
  clear h hR
  go_enter Tryd.func33, Tryd.ntmps33
  go_wp2
  go_loopg [9] xs.length (fun m v wr => ∃ k : Nat, k + m = xs.length ∧ v = .int .i64 k ∧ R = hasQ ((xs.map EE.x).drop k) n ∧ Below w.heap.size w wr)
  case atStart => exact ⟨0, by omega, rfl, HR.out, Below.refl _ _⟩
  case round =>
    obtain ⟨k, hkg, rfl, hrel, hb0⟩ := hrel
    have HREL := Lib.hid hrel
    have HB0 := Lib.hid hb0
    have HG := Lib.hid hkg
    clear hrel hb0 HR
    cases gk with
    | zero =>
      obtain rfl : k = xs.length := by omega
      obtain rfl : R = false := by rw [HREL.out, List.drop_of_length_le (by simp)]; rfl
      clear hkg
      go_wp2
      go_ret
      exact ⟨rfl, HB0.out⟩
    | succ m =>
      have hlt : k < xs.length := by omega
      have e3 : decide ((k : Int) < (xs.length : Int)) = true := decide_eq_true (by omega)
      obtain ⟨x, hx⟩ : ∃ x, xs[k]? = some x := ⟨_, List.getElem?_eq_getElem hlt⟩
      obtain ⟨b, o, hA, hbB, hcl, _⟩ := LI.at_ (HS.out.step HB0.out) hx
      have HLD := Lib.hid (load_ent hcl)
      unfold enW enV at HLD
      have hxm : (xs.map EE.x)[k]? = some x.x := by rw [List.getElem?_map, hx]; rfl
      have HD : Hid (R = (decide (x.x.k = n) || hasQ ((xs.map EE.x).drop (k + 1)) n)) := Lib.hid (by rw [HREL.out, dropE hxm]; rfl)
      subst hA
      have j1 : (0 : Int) ≤ (k : Int) := by omega
      have j2 : (k : Int) < (xs.length : Int) := by omega
      clear hx hkg hlt hbB hcl HREL hxm
      by_cases hxy : x.x.k = n
      · obtain rfl : R = true := by rw [HD.out, decide_eq_true hxy]; rfl
        have q0 : (x.x.k == n) = true := by simp [hxy]
        clear hxy
        go_wp2_with first
          | (refine wpList_load_v (by rfl) 34 _ rfl ⟨b, o + k * 12, none⟩ (by simp [Act.eval, Act.put]) _ HLD.out ?_)
          | (refine S2.wpList_store_all (by rfl) 34 (.tmp 6) (.tmp 12) rfl rfl wr.heap.size rfl (gE x) rfl 34 (enX En.zero none 0) (BK.new wr _ _) enSize rfl (gE_one _) ?_; intro x2 hM hP; have v0 := hM.cell 0 rfl; have hb : Below wr.heap.size wr x2 := hP.below (S2.below_new wr _) (Nat.le_refl _); have B_x2 := Lib.hid (stepB HB0.out hb); clear hM hP hb HLD)
        go_ret
        exact ⟨rfl, B_x2.out⟩
      · have q0 : (x.x.k == n) = false := by simp [hxy]
        have HV : Hid (R = hasQ ((xs.map EE.x).drop (k + 1)) n) := Lib.hid (by rw [HD.out, decide_eq_false hxy]; rfl)
        clear hxy
        go_wp2_with first
          | (refine wpList_load_v (by rfl) 34 _ rfl ⟨b, o + k * 12, none⟩ (by simp [Act.eval, Act.put]) _ HLD.out ?_)
          | (refine S2.wpList_store_all (by rfl) 34 (.tmp 6) (.tmp 12) rfl rfl wr.heap.size rfl (gE x) rfl 34 (enX En.zero none 0) (BK.new wr _ _) enSize rfl (gE_one _) ?_; intro x2 hM hP; have v0 : x2.cell? ⟨wr.heap.size, 0, none⟩ = some (.int .i64 x.x.k) := hM.cell 0 rfl; have hb : Below wr.heap.size wr x2 := hP.below (S2.below_new wr _) (Nat.le_refl _); have B_x2 := Lib.hid (stepB HB0.out hb); clear hM hP hb HLD)
        go_roundg m
        case measure => omega
        case rel => exact ⟨k + 1, by have := HG.out; omega, by go_num, HV.out, B_x2.out⟩

set_option maxRecDepth 20000 in
set_option maxHeartbeats 16000000 in
theorem rValid_any (s : Sp) (n : Int) (A : Option Addr) (c : Nat) (l : List EE) (w : World) (hsl : EI w w.heap.size A l) (hz : s.name.size ≤ 9223372036854775807 ∧ s.dead.size ≤ 9223372036854775807) (hn : l.length ≤ 1000000) (hc : l.length ≤ c) (hzp : ∀ y ∈ l, y.x.m.topic.size ≤ 9223372036854775807 ∧ y.x.m.frm.size ≤ 9223372036854775807 ∧ ∀ z ∈ y.x.m.props, z.1.size ≤ 9223372036854775807) :
    Calls Tryd.prog 12 #[quV s n (.slice A l.length c)] w fun e w' => e = .returned (.int .i64 (validR s n (l.map EE.x))) ∧ Below w.heap.size w w' := by
  have HC := Lib.hid (fun w1 => rqCheck_any s w1 hz)
  have HT := Lib.hid (fun w1 => rIn_any n 1 1099511627776 w1)
  have HE := Lib.hid (fun (x : EE) w1 (hm : x ∈ l) (h1 : PL w1 w1.heap.size x.a x.x.m.props) (hn1 : 1 ≤ n ∧ n ≤ 1099511627776) => rEntry_any x.x x.a x.c n w1 hn1 h1 (hzp x hm))
  have HPR := Lib.hid (fun (x y : EE) w1 => rPrec_any x.x y.x x.a y.a x.c y.c w1)
  have HCC := Lib.hid hc
  have HS := Lib.hid hsl
  obtain ⟨R, hR⟩ : ∃ R, validR s n (l.map EE.x) = R := ⟨_, rfl⟩
  rw [hR]
  unfold validR at hR
  rw [List.length_map] at hR
  obtain ⟨L, hL⟩ : ∃ L, l.map EE.x = L := ⟨_, rfl⟩
  have HLL : Hid (L.length = l.length) := Lib.hid (by rw [← hL, List.length_map])
  have HLA : Hid (∀ (k : Nat) (x : EE), l[k]? = some x → L[k]? = some x.x) := Lib.hid (fun k x h => by rw [← hL, List.getElem?_map, h]; rfl)
  have HLE := Lib.hid hL
  rw [hL] at hR
  obtain ⟨ck, hck⟩ : ∃ b, specR s = b := ⟨_, rfl⟩
  obtain ⟨b1, hb1⟩ : ∃ b, inR n 1 1099511627776 = b := ⟨_, rfl⟩
  have HNR : Hid (b1 = true → 1 ≤ n ∧ n ≤ 1099511627776) := Lib.hid (fun h => inR_iff.1 (hb1.trans h))
  rw [hck] at HC hR
  rw [hb1] at HT hR
  have HR := Lib.hid hR
  clear hR hL hck hb1 hsl hz hzp hc
  have HSV : Hid (spV s = .agg (spC s).toArray) := Lib.hid rfl
  rw [HSV.out] at HC
  unfold enW enV at HE HPR
  unfold quV
  go_enter Tryd.func12, Tryd.ntmps12
  go_upto_region 1 with fail
  refine name_world (C := fun w1 => Code.wp _ _ _ _ w1) (w.alloc (.cells (quC s n (.slice A l.length c)).toArray 26)) ?_
  intro w1 hw1
  have hb1 : Below w.heap.size w w1 := by rw [hw1]; exact S2.below_new w _
  have Q_w1 : Hid (BK 26 w1 w.heap.size (quC s n (.slice A l.length c))) := Lib.hid (by rw [hw1]; exact BK.new w _ _)
  have B_w1 := Lib.hid hb1
  clear hw1 hb1
  have HL1 := Lib.hid (load_qsp Q_w1.out)
  rw [HSV.out] at HL1
  go_wp2_with first
    | (refine wpList_load_v (by rfl) 23 _ rfl ⟨w.heap.size, 0, none⟩ (by first | rfl | go_simp) _ HL1.out ?_)
  refine (HC.out w1).mono ?_
  rintro e w2 ⟨rfl, hb⟩
  have B_w2 := Lib.hid (stepB B_w1.out hb)
  have Q_w2 := Lib.hid (Q_w1.out.step hb)
  clear hb HL1
  by_cases h0 : ck ≠ 0
  · have q0 : ((ck : Int) != 0) = true := by simp; omega
    obtain rfl : R = (ck : Int) := by rw [← HR.out, if_pos h0]
    clear h0
    go_wp2
    go_ret
    exact ⟨rfl, B_w2.out⟩
  replace h0 := Decidable.not_not.1 h0
  subst h0
  have d5 := Q_w2.out.cell 5 rfl
  go_wp2_with fail
  refine (HT.out w2).mono ?_
  rintro e w3 ⟨rfl, hb⟩
  have B_w3 := Lib.hid (stepB B_w2.out hb)
  have Q_w3 := Lib.hid (Q_w2.out.step hb)
  clear hb d5
  cases b1 with
  | false =>
    obtain rfl : R = 1 := by rw [← HR.out]; simp
    go_wp2
    go_ret
    exact ⟨rfl, B_w3.out⟩
  | true =>
  have HN1 := Lib.hid (HNR.out (by trivial))
  have d6 := Q_w3.out.cell 6 rfl
  by_cases h1 : 4352 < (l.length : Int)
  · have q1 : decide (4352 < (l.length : Int)) = true := decide_eq_true h1
    have q2 : decide ((l.length : Int) > 4352) = true := decide_eq_true h1
    obtain rfl : R = 5 := by rw [← HR.out]; simp [h1]
    clear h1
    go_wp2
    go_ret
    exact ⟨rfl, B_w3.out⟩
  have q1 : decide (4352 < (l.length : Int)) = false := decide_eq_false h1
  have q2 : decide ((l.length : Int) > 4352) = false := decide_eq_false h1
  have HRV : Hid (R = vloop n (L.take 0) (L.drop 0)) := Lib.hid (by have h9 := HR.out; rw [← h9]; simp [h1])
  clear h1 HR
  go_wp2_with fail
  clear d6 q1 q2
  go_loopg [24] l.length (fun g v wr => ∃ (k : Nat), k + g = l.length ∧ v = .int .i64 k ∧ R = vloop n (L.take k) (L.drop k) ∧ BK 26 wr w.heap.size (quC s n (.slice A l.length c)) ∧ Below w.heap.size w wr)
  case atStart => exact ⟨0, by omega, rfl, HRV.out, Q_w3.out, B_w3.out⟩
  case round =>
    obtain ⟨k, hkg, rfl, hrv, hq, hb0⟩ := hrel
    have HRK := Lib.hid hrv
    have Q_wr := Lib.hid hq
    have B_wr := Lib.hid hb0
    have HK := Lib.hid hkg
    clear hrv hq hb0
    cases gk with
    | zero =>
      obtain rfl : k = l.length := by omega
      obtain rfl : R = 0 := by rw [HRK.out, ← HLL.out, List.drop_length]; rfl
      clear hkg
      go_wp2
      go_ret
      exact ⟨rfl, B_wr.out⟩
    | succ gk =>
      have hlt : k < l.length := by omega
      have e3 : decide ((k : Int) < (l.length : Int)) = true := decide_eq_true (by omega)
      obtain ⟨x, hx⟩ : ∃ x, l[k]? = some x := ⟨_, List.getElem?_eq_getElem hlt⟩
      obtain ⟨b, o, hA, hbB, hc, hpl⟩ := (HS.out.step B_wr.out).at_ hx
      have HLD := Lib.hid (load_ent hc)
      unfold enW enV at HLD
      have HXK := Lib.hid hx
      have HLX := Lib.hid (HLA.out k x hx)
      have HPL : Hid (PL wr wr.heap.size x.a x.x.m.props) := Lib.hid hpl
      have HRN : Hid (R = if entR x.x n ≠ 0 then entR x.x n else if hasQ (L.take k) x.x.k = true then 26 else if afterR (L.take k) x.x = false then 22 else vloop n (L.take (k + 1)) (L.drop (k + 1))) := Lib.hid (by
        rw [HRK.out, dropE HLX.out, List.take_add_one, HLX.out]
        rfl)
      have HEP := Lib.hid (fun (h : entR x.x n = 0) => (entR_parts h).1)
      have HEX := Lib.hid (fun w1 h2 => HE.out x w1 (List.mem_of_getElem? hx) h2 HN1.out)
      generalize hek : entR x.x n = ek at *
      subst hA
      have j1 : (0 : Int) ≤ (k : Int) := by omega
      have j2 : (k : Int) < (l.length : Int) := by omega
      have hlk : k ≤ 1000000 := by omega
      clear hx hc hpl hbB hkg HRK hek
      go_upto_region 11 with first
        | (refine wpList_load_v (by rfl) 34 _ rfl ⟨b, o + k * 12, none⟩ (by simp [Act.eval, Act.put]) _ HLD.out ?_)
        | (refine S2.wpList_store_all (by rfl) 34 (.tmp 5) (.tmp 28) rfl rfl wr.heap.size rfl (gE x) rfl 34 (enX En.zero none 0) (BK.new wr _ _) enSize rfl (gE_one _) ?_; intro x2 hM hP; have V_x2 : Hid (BK 34 x2 wr.heap.size (gE x)) := Lib.hid hM; have hb : Below wr.heap.size wr x2 := hP.below (S2.below_new wr _) (Nat.le_refl _); have Q_x2 := Lib.hid (Q_wr.out.step hb); have B_x2 := Lib.hid (stepB B_wr.out hb); have P_x2 : Hid (PL x2 x2.heap.size x.a x.x.m.props) := Lib.hid (GL.step HPL.out hb); clear hM hP hb HPL HLD)
      have HVQ : Hid (w.heap.size < wr.heap.size) := Lib.hid Q_wr.out.lt
      obtain ⟨gv, hgv⟩ : ∃ b, b = wr.heap.size := ⟨_, rfl⟩
      rw [← hgv] at V_x2 HVQ
      try rw [← hgv]
      clear hgv Q_wr B_wr
      have d5 := Q_x2.out.cell 5 rfl
      have HLV := Lib.hid (load_en0 (x := x.x) (a := x.a) (c := x.c) V_x2.out)
      unfold enW enV at HLV
      go_wp2_with first
        | (refine wpList_load_v (by rfl) 34 _ rfl ⟨gv, 0, none⟩ (by first | rfl | go_simp) _ HLV.out ?_)
      refine (HEX.out x2 P_x2.out).mono ?_
      rintro e x3 ⟨rfl, hb⟩
      have V_x3 := Lib.hid (V_x2.out.step hb)
      have Q_x3 := Lib.hid (Q_x2.out.step hb)
      have B_x3 := Lib.hid (stepB B_x2.out hb)
      clear hb d5 HLV V_x2 Q_x2 B_x2 P_x2 HEX
      by_cases h0 : ek ≠ 0
      · have q0 : (ek != 0) = true := by simp [h0]
        obtain rfl : R = ek := by rw [HRN.out, if_pos h0]
        clear h0
        go_wp2
        go_ret
        exact ⟨rfl, B_x3.out⟩
      replace h0 := Decidable.not_not.1 h0
      have HKB := Lib.hid (HEP.out h0)
      subst h0
      have HCU : Hid (∀ w', (Instr.slice 24 (.slice (some ⟨b, o, none⟩) l.length c) none (some (.int .i64 (k : Int))) none).run Tryd.prog w' = .ok (.slice (some ⟨b, o, none⟩) k c) w') := Lib.hid (fun w' => cutHE b o l.length c k (by have := HCC.out; omega) w')
      have hlt2 : (l.take k).length = k := by rw [List.length_take]; omega
      have hmt : (l.take k).map EE.x = L.take k := by rw [List.map_take, HLE.out]
      have HHS : Hid (∀ w1, EI w1 w1.heap.size (some ⟨b, o, none⟩) l → Calls Tryd.prog 33 #[.slice (some ⟨b, o, none⟩) k c, .int .i64 x.x.k] w1 fun e' w' => e' = .returned (.bool (hasQ (L.take k) x.x.k)) ∧ Below w1.heap.size w1 w') := Lib.hid (fun w1 h1 => by
        have h := rHas_any (some ⟨b, o, none⟩) c (l.take k) x.x.k w1 (LI.take h1 k) (by omega)
        rw [hlt2, hmt] at h
        exact h)
      obtain ⟨bh, hbh⟩ : ∃ b, hasQ (L.take k) x.x.k = b := ⟨_, rfl⟩
      rw [hbh] at HHS HRN
      have HQA := Lib.hid (fun w1 h1 => HS.out.step (w' := w1) h1)
      have HJK : Hid ((k : Int) ≤ (c : Int)) := Lib.hid (by have := HCC.out; omega)
      clear hlt2 hmt hbh
      go_upto_region 14 with fail
      obtain ⟨r1, hr1⟩ : ∃ r1, r1 = World.drew x3 := ⟨_, rfl⟩
      have hbD : Below x3.heap.size x3 r1 := by rw [hr1]; exact (Below.refl _ _).drew
      have B_r1 : Hid (Below w.heap.size w r1) := Lib.hid (stepB B_x3.out hbD)
      have Q_r1 : Hid (BK 26 r1 w.heap.size (quC s n (.slice (some ⟨b, o, none⟩) l.length c))) := Lib.hid (Q_x3.out.step hbD)
      have V_r1 : Hid (BK 34 r1 gv (gE x)) := Lib.hid (V_x3.out.step hbD)
      clear B_x3 Q_x3 V_x3
      have hbd : (fun w' => BK 26 w' w.heap.size (quC s n (.slice (some ⟨b, o, none⟩) l.length c)) ∧ BK 34 w' gv (gE x)) (World.drew x3) := by rw [← hr1]; exact ⟨Q_r1.out, V_r1.out⟩
      have hSD : (fun w' => BK 26 w' w.heap.size (quC s n (.slice (some ⟨b, o, none⟩) l.length c)) ∧ BK 34 w' gv (gE x)) r1 := ⟨Q_r1.out, V_r1.out⟩
      have HWD := Lib.hid hr1
      clear hr1 hbD
      refine wp_region_held_drew (S := fun w' => BK 26 w' w.heap.size (quC s n (.slice (some ⟨b, o, none⟩) l.length c)) ∧ BK 34 w' gv (gE x)) (by kernel_rfl) hbd (fun hHeld => ?_)
      rw [← HWD.out]
      clear hHeld
      have hHeld := hSD
      clear hSD hbd HWD
      refine wpAnyH_take (i := 0) (v := .pointer (some ⟨w.heap.size, 6, none⟩)) (get_ops _ _ _ rfl) (by kernel_rfl) (by kernel_rfl) (by kernel_rfl) (fun _ _ _ h => h) (Or.inl ⟨by rfl, fun wS hSw => by (try dsimp only at hSw); go_simp⟩) hHeld ?_
      try simp only [Act.put, List.setIfInBounds_toArray, List.set_cons_zero, List.set_cons_succ]
      refine wpAnyH_take (i := 1) (v := .slice (some ⟨b, o, none⟩) l.length c) (get_ops _ _ _ rfl) (by kernel_rfl) (by kernel_rfl) (by kernel_rfl) (fun _ _ _ h => h) (Or.inl ⟨by rfl, fun wS hSw => by (try dsimp only at hSw); have cS : wS.cell? ⟨w.heap.size, 6, none⟩ = some (.slice (some ⟨b, o, none⟩) l.length c) := hSw.1.cell 6 rfl; clear hSw; go_simp⟩) hHeld ?_
      try simp only [Act.put, List.setIfInBounds_toArray, List.set_cons_zero, List.set_cons_succ]
      refine wpAnyH_take (i := 2) (v := .int .i64 (k : Int)) (get_ops _ _ _ rfl) (by kernel_rfl) (by kernel_rfl) (by kernel_rfl) (fun _ _ _ h => h) (Or.inl ⟨by rfl, fun wS hSw => by (try dsimp only at hSw); go_simp⟩) hHeld ?_
      try simp only [Act.put, List.setIfInBounds_toArray, List.set_cons_zero, List.set_cons_succ]
      refine wpAnyH_take (i := 3) (v := .slice (some ⟨b, o, none⟩) k c) (get_ops _ _ _ rfl) (by kernel_rfl) (by kernel_rfl) (by kernel_rfl) (fun _ _ _ h => h) (Or.inl ⟨by rfl, fun wS hSw => by (try dsimp only at hSw); have hc := HCU.out; have hj := HJK.out; clear hSw; go_simp⟩) hHeld ?_
      try simp only [Act.put, List.setIfInBounds_toArray, List.set_cons_zero, List.set_cons_succ]
      refine wpAnyH_take (i := 4) (v := .pointer (some ⟨gv, 0, none⟩)) (get_ops _ _ _ rfl) (by kernel_rfl) (by kernel_rfl) (by kernel_rfl) (fun _ _ _ h => h) (Or.inl ⟨by rfl, fun wS hSw => by (try dsimp only at hSw); go_simp⟩) hHeld ?_
      try simp only [Act.put, List.setIfInBounds_toArray, List.set_cons_zero, List.set_cons_succ]
      refine wpAnyH_take (i := 5) (v := .int .i64 x.x.k) (get_ops _ _ _ rfl) (by kernel_rfl) (by kernel_rfl) (by kernel_rfl) (fun _ _ _ h => h) (Or.inl ⟨by rfl, fun wS hSw => by (try dsimp only at hSw); have cS : wS.cell? ⟨gv, 0, none⟩ = some (.int .i64 x.x.k) := hSw.2.cell 0 rfl; clear hSw; go_simp⟩) hHeld ?_
      try simp only [Act.put, List.setIfInBounds_toArray, List.set_cons_zero, List.set_cons_succ]
      refine wpAnyH_ready (rs := [6]) (by kernel_rfl) (by simp) ?_
      refine (AllReadyH.cons (get_ops _ _ _ rfl) (fun K hK => ?_) AllReadyH.nil)
      go_simp
      refine (HHS.out r1 (HQA.out r1 B_r1.out)).mono ?_
      rintro e r2 ⟨rfl, hb⟩
      have B_r2 : Hid (Below w.heap.size w r2) := Lib.hid (stepB B_r1.out hb)
      have Q_r2 : Hid (BK 26 r2 w.heap.size (quC s n (.slice (some ⟨b, o, none⟩) l.length c))) := Lib.hid (Q_r1.out.step hb)
      have V_r2 : Hid (BK 34 r2 gv (gE x)) := Lib.hid (V_r1.out.step hb)
      clear B_r1 Q_r1 V_r1
      clear hHeld hb
      go_wp2_with fail
      refine hK.out _ _ ⟨Q_r2.out, V_r2.out⟩ (fun hHeld => ?_)
      clear hK K
      try simp only [Act.put, List.setIfInBounds_toArray, List.set_cons_zero, List.set_cons_succ]
      refine wpAnyH_done (by kernel_rfl) ?_ _
      cases bh with
      | true =>
        obtain rfl : R = 26 := by rw [HRN.out]; simp
        go_wp2
        go_ret
        exact ⟨rfl, B_r2.out⟩
      | false =>
      have HRA : Hid (R = if afterR (L.take k) x.x = false then 22 else vloop n (L.take (k + 1)) (L.drop (k + 1))) := Lib.hid (by rw [HRN.out]; simp)
      go_upto_region 16 with fail
      clear HRN
      have HLS : Hid (∀ w', Below w.heap.size w w' → ∀ (kp : Nat) (y : EE), l[kp]? = some y → (loadVar 34 ⟨b, o + kp * 12, none⟩).run Tryd.prog w' = .ok (enW y.x y.a y.c) w') := Lib.hid (fun w' h' kp y hy => by
        obtain ⟨p', o', hA', _, hcl', _⟩ := LI.at_ (HS.out.step h') hy
        simp only [Option.some.injEq, Addr.mk.injEq, and_true] at hA'
        obtain ⟨rfl, rfl⟩ := hA'
        exact load_ent hcl')
      by_cases hk0 : k = 0
      · subst hk0
        have HRB : Hid (R = vloop n (L.take (0 + 1)) (L.drop (0 + 1))) := Lib.hid (by rw [HRA.out]; simp [afterR])
        clear HRA
        obtain ⟨p3, hp3⟩ : ∃ p3, p3 = World.drew r2 := ⟨_, rfl⟩
        have hbD : Below r2.heap.size r2 p3 := by rw [hp3]; exact (Below.refl _ _).drew
        have B_p3 : Hid (Below w.heap.size w p3) := Lib.hid (stepB B_r2.out hbD)
        have Q_p3 : Hid (BK 26 p3 w.heap.size (quC s n (.slice (some ⟨b, o, none⟩) l.length c))) := Lib.hid (Q_r2.out.step hbD)
        have V_p3 : Hid (BK 34 p3 gv (gE x)) := Lib.hid (V_r2.out.step hbD)
        clear B_r2 Q_r2 V_r2
        have hbd : (fun w' => BK 34 w' gv (gE x)) (World.drew r2) := by rw [← hp3]; exact V_p3.out
        have hSD : (fun w' => BK 34 w' gv (gE x)) p3 := V_p3.out
        have HWD := Lib.hid hp3
        clear hp3 hbD
        refine wp_region_held_drew (S := fun w' => BK 34 w' gv (gE x)) (by kernel_rfl) hbd (fun hHeld => ?_)
        rw [← HWD.out]
        clear hHeld
        have hHeld := hSD
        clear hSD hbd HWD
        refine wpAnyH_take (i := 0) (v := .int .i64 0) (get_ops _ _ _ rfl) (by kernel_rfl) (by kernel_rfl) (by kernel_rfl) (fun _ _ _ h => h) (Or.inl ⟨by rfl, fun wS hSw => by (try dsimp only at hSw); go_simp⟩) hHeld ?_
        try simp only [Act.put, List.setIfInBounds_toArray, List.set_cons_zero, List.set_cons_succ]
        refine wpAnyH_take (i := 1) (v := .bool false) (get_ops _ _ _ rfl) (by kernel_rfl) (by kernel_rfl) (by kernel_rfl) (fun _ _ _ h => h) (Or.inl ⟨by rfl, fun wS hSw => by (try dsimp only at hSw); go_simp⟩) hHeld ?_
        try simp only [Act.put, List.setIfInBounds_toArray, List.set_cons_zero, List.set_cons_succ]
        refine wpAnyH_take (i := 2) (v := .bool false) (get_ops _ _ _ rfl) (by kernel_rfl) (by kernel_rfl) (by kernel_rfl) (fun _ _ _ h => h) (Or.inl ⟨by rfl, fun wS hSw => by (try dsimp only at hSw); go_simp⟩) hHeld ?_
        try simp only [Act.put, List.setIfInBounds_toArray, List.set_cons_zero, List.set_cons_succ]
        refine wpAnyH_take (i := 3) (v := undef) (get_ops _ _ _ rfl) (by kernel_rfl) (by kernel_rfl) (by kernel_rfl) (fun _ _ _ h => h) (Or.inr ⟨by rfl, rfl⟩) hHeld ?_
        try simp only [Act.put, List.setIfInBounds_toArray, List.set_cons_zero, List.set_cons_succ]
        refine wpAnyH_take (i := 4) (v := undef) (get_ops _ _ _ rfl) (by kernel_rfl) (by kernel_rfl) (by kernel_rfl) (fun _ _ _ h => h) (Or.inr ⟨by rfl, rfl⟩) hHeld ?_
        try simp only [Act.put, List.setIfInBounds_toArray, List.set_cons_zero, List.set_cons_succ]
        refine wpAnyH_take (i := 5) (v := undef) (get_ops _ _ _ rfl) (by kernel_rfl) (by kernel_rfl) (by kernel_rfl) (fun _ _ _ h => h) (Or.inr ⟨by rfl, rfl⟩) hHeld ?_
        try simp only [Act.put, List.setIfInBounds_toArray, List.set_cons_zero, List.set_cons_succ]
        refine wpAnyH_take (i := 6) (v := undef) (get_ops _ _ _ rfl) (by kernel_rfl) (by kernel_rfl) (by kernel_rfl) (fun _ _ _ h => h) (Or.inr ⟨by rfl, rfl⟩) hHeld ?_
        try simp only [Act.put, List.setIfInBounds_toArray, List.set_cons_zero, List.set_cons_succ]
        refine wpAnyH_take (i := 7) (v := undef) (get_ops _ _ _ rfl) (by kernel_rfl) (by kernel_rfl) (by kernel_rfl) (fun _ _ _ h => h) (Or.inr ⟨by rfl, rfl⟩) hHeld ?_
        try simp only [Act.put, List.setIfInBounds_toArray, List.set_cons_zero, List.set_cons_succ]
        refine wpAnyH_take (i := 8) (v := undef) (get_ops _ _ _ rfl) (by kernel_rfl) (by kernel_rfl) (by kernel_rfl) (fun _ _ _ h => h) (Or.inr ⟨by rfl, rfl⟩) hHeld ?_
        try simp only [Act.put, List.setIfInBounds_toArray, List.set_cons_zero, List.set_cons_succ]
        refine wpAnyH_take (i := 9) (v := undef) (get_ops _ _ _ rfl) (by kernel_rfl) (by kernel_rfl) (by kernel_rfl) (fun _ _ _ h => h) (Or.inr ⟨by rfl, rfl⟩) hHeld ?_
        try simp only [Act.put, List.setIfInBounds_toArray, List.set_cons_zero, List.set_cons_succ]
        refine wpAnyH_take (i := 10) (v := undef) (get_ops _ _ _ rfl) (by kernel_rfl) (by kernel_rfl) (by kernel_rfl) (fun _ _ _ h => h) (Or.inr ⟨by rfl, rfl⟩) hHeld ?_
        try simp only [Act.put, List.setIfInBounds_toArray, List.set_cons_zero, List.set_cons_succ]
        refine wpAnyH_take (i := 11) (v := undef) (get_ops _ _ _ rfl) (by kernel_rfl) (by kernel_rfl) (by kernel_rfl) (fun _ _ _ h => h) (Or.inr ⟨by rfl, rfl⟩) hHeld ?_
        try simp only [Act.put, List.setIfInBounds_toArray, List.set_cons_zero, List.set_cons_succ]
        refine wpAnyH_take (i := 12) (v := .bool false) (get_ops _ _ _ rfl) (by kernel_rfl) (by kernel_rfl) (by kernel_rfl) (fun _ _ _ h => h) (Or.inl ⟨by rfl, fun wS hSw => by (try dsimp only at hSw); go_simp⟩) hHeld ?_
        try simp only [Act.put, List.setIfInBounds_toArray, List.set_cons_zero, List.set_cons_succ]
        refine wpAnyH_done (by kernel_rfl) ?_ _
        go_wp2_with fail
        go_roundg gk
        case measure => omega
        case rel => exact ⟨0 + 1, by have := HK.out; omega, by go_num, HRB.out, Q_p3.out, B_p3.out⟩
      · obtain ⟨kp, hkp⟩ : ∃ kp, k = kp + 1 := ⟨k - 1, by omega⟩
        obtain ⟨y, hy⟩ : ∃ y, l[kp]? = some y := ⟨_, List.getElem?_eq_getElem (by omega)⟩
        have HLY := Lib.hid (fun w' h' => HLS.out w' h' kp y hy)
        obtain ⟨bp, hbp⟩ : ∃ b, precR y.x x.x = b := ⟨_, rfl⟩
        have HRB : Hid (R = if bp = false then 22 else vloop n (L.take (k + 1)) (L.drop (k + 1))) := Lib.hid (by
          have h8 := HRA.out
          rw [hkp, afterR_take (HLA.out kp y hy), hbp, ← hkp] at h8
          exact h8)
        have HPB := Lib.hid (fun w1 => HPR.out y x w1)
        rw [hbp] at HPB
        have HKW : Hid (IntKind.i64.wrap ((k : Int) - 1) = (kp : Int) ∧ wrap64 ((k : Int) - 1) = (kp : Int)) := Lib.hid ⟨by rw [IntKind.wrap_i64]; omega, by rw [wrap64_id _ (by omega) (by omega)]; omega⟩
        have e5 : decide ((k : Int) > 0) = true := decide_eq_true (by omega)
        have e6 : decide ((0 : Int) < (k : Int)) = true := decide_eq_true (by omega)
        have e7 : (0 : Int) ≤ (kp : Int) := by omega
        have e8 : (kp : Int) < (l.length : Int) := by omega
        have HE58 := Lib.hid (And.intro e5 (And.intro e6 (And.intro e7 e8)))
        have HK0 : Hid (0 < k) := Lib.hid (by omega)
        clear HRA hy hbp hkp hk0
        obtain ⟨t3, ht3⟩ : ∃ t3, t3 = World.drew r2 := ⟨_, rfl⟩
        have hbD : Below r2.heap.size r2 t3 := by rw [ht3]; exact (Below.refl _ _).drew
        have B_t3 : Hid (Below w.heap.size w t3) := Lib.hid (stepB B_r2.out hbD)
        have Q_t3 : Hid (BK 26 t3 w.heap.size (quC s n (.slice (some ⟨b, o, none⟩) l.length c))) := Lib.hid (Q_r2.out.step hbD)
        have V_t3 : Hid (BK 34 t3 gv (gE x)) := Lib.hid (V_r2.out.step hbD)
        clear B_r2 Q_r2 V_r2
        have hbd : (fun w' => BK 26 w' w.heap.size (quC s n (.slice (some ⟨b, o, none⟩) l.length c)) ∧ BK 34 w' gv (gE x) ∧ Below w.heap.size w w') (World.drew r2) := by rw [← ht3]; exact ⟨Q_t3.out, V_t3.out, B_t3.out⟩
        have hSD : (fun w' => BK 26 w' w.heap.size (quC s n (.slice (some ⟨b, o, none⟩) l.length c)) ∧ BK 34 w' gv (gE x) ∧ Below w.heap.size w w') t3 := ⟨Q_t3.out, V_t3.out, B_t3.out⟩
        have HWD := Lib.hid ht3
        clear ht3 hbD
        refine wp_region_held_drew (S := fun w' => BK 26 w' w.heap.size (quC s n (.slice (some ⟨b, o, none⟩) l.length c)) ∧ BK 34 w' gv (gE x) ∧ Below w.heap.size w w') (by kernel_rfl) hbd (fun hHeld => ?_)
        rw [← HWD.out]
        clear hHeld
        have hHeld := hSD
        clear hSD hbd HWD
        refine wpAnyH_take (i := 0) (v := .int .i64 (k : Int)) (get_ops _ _ _ rfl) (by kernel_rfl) (by kernel_rfl) (by kernel_rfl) (fun _ _ _ h => h) (Or.inl ⟨by rfl, fun wS hSw => by (try dsimp only at hSw); go_simp⟩) hHeld ?_
        try simp only [Act.put, List.setIfInBounds_toArray, List.set_cons_zero, List.set_cons_succ]
        refine wpAnyH_take (i := 1) (v := .bool true) (get_ops _ _ _ rfl) (by kernel_rfl) (by kernel_rfl) (by kernel_rfl) (fun _ _ _ h => h) (Or.inl ⟨by rfl, fun wS hSw => by (try dsimp only at hSw); have h9 := HK0.out; clear hSw; go_simp; first | done | exact h9⟩) hHeld ?_
        try simp only [Act.put, List.setIfInBounds_toArray, List.set_cons_zero, List.set_cons_succ]
        refine wpAnyH_take (i := 2) (v := .bool true) (get_ops _ _ _ rfl) (by kernel_rfl) (by kernel_rfl) (by kernel_rfl) (fun _ _ _ h => h) (Or.inl ⟨by rfl, fun wS hSw => by (try dsimp only at hSw); go_simp⟩) hHeld ?_
        try simp only [Act.put, List.setIfInBounds_toArray, List.set_cons_zero, List.set_cons_succ]
        refine wpAnyH_take (i := 3) (v := .pointer (some ⟨w.heap.size, 6, none⟩)) (get_ops _ _ _ rfl) (by kernel_rfl) (by kernel_rfl) (by kernel_rfl) (fun _ _ _ h => h) (Or.inl ⟨by rfl, fun wS hSw => by (try dsimp only at hSw); go_simp⟩) hHeld ?_
        try simp only [Act.put, List.setIfInBounds_toArray, List.set_cons_zero, List.set_cons_succ]
        refine wpAnyH_take (i := 4) (v := .slice (some ⟨b, o, none⟩) l.length c) (get_ops _ _ _ rfl) (by kernel_rfl) (by kernel_rfl) (by kernel_rfl) (fun _ _ _ h => h) (Or.inl ⟨by rfl, fun wS hSw => by (try dsimp only at hSw); have cS : wS.cell? ⟨w.heap.size, 6, none⟩ = some (.slice (some ⟨b, o, none⟩) l.length c) := hSw.1.cell 6 rfl; clear hSw; go_simp⟩) hHeld ?_
        try simp only [Act.put, List.setIfInBounds_toArray, List.set_cons_zero, List.set_cons_succ]
        refine wpAnyH_take (i := 5) (v := .int .i64 (k : Int)) (get_ops _ _ _ rfl) (by kernel_rfl) (by kernel_rfl) (by kernel_rfl) (fun _ _ _ h => h) (Or.inl ⟨by rfl, fun wS hSw => by (try dsimp only at hSw); go_simp⟩) hHeld ?_
        try simp only [Act.put, List.setIfInBounds_toArray, List.set_cons_zero, List.set_cons_succ]
        refine wpAnyH_take (i := 6) (v := .int .i64 (kp : Int)) (get_ops _ _ _ rfl) (by kernel_rfl) (by kernel_rfl) (by kernel_rfl) (fun _ _ _ h => h) (Or.inl ⟨by rfl, fun wS hSw => by (try dsimp only at hSw); have h5 := HKW.out; obtain ⟨h5, h6⟩ := h5; clear hSw; go_simp⟩) hHeld ?_
        try simp only [Act.put, List.setIfInBounds_toArray, List.set_cons_zero, List.set_cons_succ]
        refine wpAnyH_take (i := 7) (v := .pointer (some ⟨b, o + kp * 12, none⟩)) (get_ops _ _ _ rfl) (by kernel_rfl) (by kernel_rfl) (by kernel_rfl) (fun _ _ _ h => h) (Or.inl ⟨by rfl, fun wS hSw => by (try dsimp only at hSw); clear hSw; go_simp⟩) hHeld ?_
        try simp only [Act.put, List.setIfInBounds_toArray, List.set_cons_zero, List.set_cons_succ]
        refine wpAnyH_take (i := 8) (v := (.agg (enX y.x y.a y.c).toArray)) (get_ops _ _ _ rfl) (by kernel_rfl) (by kernel_rfl) (by kernel_rfl) (fun _ _ _ h => h) (Or.inl ⟨by rfl, fun wS hSw => by (try dsimp only at hSw); exact exec_load 34 _ rfl ⟨b, o + kp * 12, none⟩ (by go_simp) _ (HLY.out wS hSw.2.2)⟩) hHeld ?_
        try simp only [Act.put, List.setIfInBounds_toArray, List.set_cons_zero, List.set_cons_succ]
        refine wpAnyH_take (i := 9) (v := (.agg (enX x.x x.a x.c).toArray)) (get_ops _ _ _ rfl) (by kernel_rfl) (by kernel_rfl) (by kernel_rfl) (fun _ _ _ h => h) (Or.inl ⟨by rfl, fun wS hSw => by (try dsimp only at hSw); exact exec_load 34 _ rfl ⟨gv, 0, none⟩ (by go_simp) _ (load_en0 hSw.2.1)⟩) hHeld ?_
        try simp only [Act.put, List.setIfInBounds_toArray, List.set_cons_zero, List.set_cons_succ]
        refine wpAnyH_ready (rs := [10]) (by kernel_rfl) (by simp) ?_
        refine (AllReadyH.cons (get_ops _ _ _ rfl) (fun K hK => ?_) AllReadyH.nil)
        go_simp
        refine (HPB.out t3).mono ?_
        rintro e t4 ⟨rfl, hb⟩
        have B_t4 : Hid (Below w.heap.size w t4) := Lib.hid (stepB B_t3.out hb)
        have Q_t4 : Hid (BK 26 t4 w.heap.size (quC s n (.slice (some ⟨b, o, none⟩) l.length c))) := Lib.hid (Q_t3.out.step hb)
        have V_t4 : Hid (BK 34 t4 gv (gE x)) := Lib.hid (V_t3.out.step hb)
        clear B_t3 Q_t3 V_t3
        clear hHeld hb
        go_wp2_with fail
        refine hK.out _ _ ⟨Q_t4.out, V_t4.out, B_t4.out⟩ (fun hHeld => ?_)
        clear hK K
        try simp only [Act.put, List.setIfInBounds_toArray, List.set_cons_zero, List.set_cons_succ]
        refine wpAnyH_take (i := 11) (v := .bool (!bp)) (get_ops _ _ _ rfl) (by kernel_rfl) (by kernel_rfl) (by kernel_rfl) (fun _ _ _ h => h) (Or.inl ⟨by rfl, fun wS hSw => by (try dsimp only at hSw); go_simp⟩) hHeld ?_
        try simp only [Act.put, List.setIfInBounds_toArray, List.set_cons_zero, List.set_cons_succ]
        refine wpAnyH_take (i := 12) (v := .bool (!bp)) (get_ops _ _ _ rfl) (by kernel_rfl) (by kernel_rfl) (by kernel_rfl) (fun _ _ _ h => h) (Or.inl ⟨by rfl, fun wS hSw => by (try dsimp only at hSw); go_simp⟩) hHeld ?_
        try simp only [Act.put, List.setIfInBounds_toArray, List.set_cons_zero, List.set_cons_succ]
        refine wpAnyH_done (by kernel_rfl) ?_ _
        cases bp with
        | false =>
          obtain rfl : R = 22 := by rw [HRB.out]; rfl
          go_wp2
          go_ret
          exact ⟨rfl, B_t4.out⟩
        | true =>
          replace HRB : Hid (R = vloop n (L.take (k + 1)) (L.drop (k + 1))) := Lib.hid (by rw [HRB.out]; rfl)
          go_wp2_with fail
          go_roundg gk
          case measure => omega
          case rel => exact ⟨k + 1, by have := HK.out; omega, by go_num, HRB.out, Q_t4.out, B_t4.out⟩
end Go.Proofs.YtjhojpghllnoiaaDoor
