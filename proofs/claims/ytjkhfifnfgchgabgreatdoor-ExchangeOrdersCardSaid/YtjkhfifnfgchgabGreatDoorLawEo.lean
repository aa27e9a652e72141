/-
  The law ExchangeOrders: it answers true. Conditions: the library's bound on short texts holds a number; the lists read as data; lengths fit an int.
-/
import Derived.Test.YtjkhfifnfgchgabGreatDoorEaU
import Derived.Test.YtjkhfifnfgchgabGreatDoorEaN
namespace Go.Proofs.YtjkhfifnfgchgabGreatDoor
open Go.RowKit
open S2 (BK Put get_ops exec_load)

theorem eqT_allo {A1 A2 : Option Addr} {c1 c2 B1 B2 : Nat} {xs : List ByteArray} {w : World} (h1 : TL w B1 A1 xs) (h2 : TL w B2 A2 xs) (hb : xs.length ≤ 1000000) :
    Calls Tryz.prog 21 #[.slice A1 xs.length c1, .slice A2 xs.length c2] w fun e w' => e = .returned (.bool true) ∧ Below w.heap.size w w' := by
  by_cases hn : 0 < xs.length
  · exact eqT_same h1 h2 hn hb
  · have h0 : xs.length = 0 := by omega
    rw [h0]
    refine (Tryz.slices_Equal_string_empty A1 A2 c1 0 c2 w (by decide)).mono ?_
    rintro e w' ⟨rfl, rfl⟩
    exact ⟨rfl, Below.refl _ _⟩
theorem VR.nonam {l : List Ex} {bs : List Bd} (hv : VR l bs) : getE l ⟨#[]⟩ = none := by
  cases hg : getE l ⟨#[]⟩ with
  | none => rfl
  | some x =>
    have h1 := getE_some hg
    have h2 := hv.ex x h1.2
    have h3 : nameR (⟨#[]⟩ : ByteArray) = false := by kernel_rfl
    unfold exR exE at h2
    rw [h1.1, h3] at h2
    simp at h2
/-- the first k exchanges without this alternate -/
def ysA (t : ByteArray) (l : List Ex) (k : Nat) : List Ex := (l.take k).map (aloneE t) ++ l.drop k
theorem strSz1 : (Tryz.prog.info? 9).map (·.size) = some 1 := by kernel_rfl
theorem ysA_len (t : ByteArray) (l : List Ex) (k : Nat) : (ysA t l k).length = l.length := by unfold ysA; rw [List.length_append, List.length_map, List.length_take, List.length_drop]; omega
theorem ysA_end (t : ByteArray) (l : List Ex) : ysA t l l.length = l.map (aloneE t) := by unfold ysA; rw [List.take_length, List.drop_length, List.append_nil]
theorem ysA_get (t : ByteArray) {l : List Ex} {k : Nat} {x : Ex} (h : l[k]? = some x) : (ysA t l k)[k]? = some x := by
  have hk := (List.getElem?_eq_some_iff.1 h).1
  have hl : ((l.take k).map (aloneE t)).length = k := by rw [List.length_map, List.length_take]; omega
  unfold ysA
  rw [List.getElem?_append_right (by omega), hl, Nat.sub_self, List.getElem?_drop, Nat.add_zero, h]
theorem ysA_next (t : ByteArray) {l : List Ex} {k : Nat} {x : Ex} (h : l[k]? = some x) : (ysA t l k).set k (aloneE t x) = ysA t l (k + 1) := by
  have hk := (List.getElem?_eq_some_iff.1 h).1
  have hl : ((l.take k).map (aloneE t)).length = k := by rw [List.length_map, List.length_take]; omega
  unfold ysA
  rw [List.set_append_right _ _ (by omega), hl, Nat.sub_self, dropG h, List.set_cons_zero, List.take_add_one, h, List.map_append, List.append_assoc]
  rfl
theorem ysA_skip (t : ByteArray) {l : List Ex} {k : Nat} {x : Ex} (h : l[k]? = some x) (hn : x.nm ≠ t) : ysA t l (k + 1) = ysA t l k := by
  rw [← ysA_next t h]
  have e : aloneE t x = x := by unfold aloneE; rw [if_neg hn]
  rw [e]
  have hg := ysA_get t h
  obtain ⟨hk, hv⟩ := List.getElem?_eq_some_iff.1 hg
  rw [← hv]
  exact List.set_getElem_self hk
/-- a copy of a list in a variable of one's own -/
structure Cutc {α : Type} (e : TypeId) (g : α → List Value) (k : Nat) (w0 wx : World) (xs : List α) (cells : Value → List Value) (q : Nat) (v : Value) : Prop where
  ob : OwnG e g k wx w0.heap.size v xs
  vb : BK 25 wx q (cells v)
  ne : v.ownBlock ≠ some q
  bw : Below w0.heap.size w0 wx
  ge : w0.heap.size ≤ q
set_option maxRecDepth 20000 in
set_option maxHeartbeats 32000000 in
theorem exchangeOrders_walk (A0 : Option Addr) (c0 : Nat) (l0 : List Ex) (B0 : Option Addr) (e0 : Nat) (xs0 : List BE) (to0 to1 : ByteArray) (Ap : Option Addr) (cp : Nat) (ps : List PR) (w : World) (ho : S1.Okw w) (h1 : EL w w.heap.size A0 l0) (h2 : BI w w.heap.size B0 xs0) (hc2 : xs0.length ≤ e0) (hz1 : ∀ X ∈ l0, SzX X) (hz2 : ∀ X ∈ xs0, X.d.ml.length ≤ 4398046511104 ∧ SzB X.d)
    (h3 : PL w w.heap.size Ap ps) (hnp : ps.length ≤ 4398046511104) :
    Calls Tryz.prog 5 #[rtV A0 l0.length c0 B0 xs0.length e0, .agg #[.string to0, .string to1], .slice Ap ps.length cp] w fun e w' => e = .returned (.bool true) ∧ Below w.heap.size w w' := by
  have HX := Lib.hid (fun w1 h => exHolds_any w1 h)
  have HFW := Lib.hid (fun w1 => few_any A0 l0.length c0 B0 xs0.length e0 w1)
  have HC0 := Lib.hid (fun w1 h1 h2 => rCheck24_any A0 c0 l0 B0 e0 xs0 w1 h1 h2 hc2 (fun X h => (hz2 X h).1) ⟨hz1, fun X h => (hz2 X h).2⟩)
  have HFE : Hid (Few xs0) := Lib.hid (fun X h => (hz2 X h).1)
  have HO := Lib.hid ho
  have HE := Lib.hid h1
  have HI := Lib.hid h2
  have HP := Lib.hid h3
  have HNP := Lib.hid hnp
  have HVV := Lib.hid (@vr_iff l0 (xs0.map BE.d))
  generalize ckR l0 (xs0.map BE.d) = R at HC0 HVV
  generalize fewR l0.length xs0.length = F at HFW
  unfold rtV at HFW HC0 ⊢
  clear ho h1 h2 h3 hnp hz1 hz2 hc2
  go_enter Tryz.func5, Tryz.ntmps5
  go_upto_region 1 with fail
  refine name_world (C := fun w1 => Code.wp _ _ _ _ w1) ((w.alloc (.cells [.slice A0 l0.length c0, .slice B0 xs0.length e0].toArray 25)).alloc (.cells [.string to0, .string to1].toArray 44)) ?_
  intro w1 hw1
  obtain ⟨u1, u2, hs0, hB0⟩ := S2.two_laid hw1
  have T_w1 := Lib.hid u1
  have Z_w1 := Lib.hid u2
  have B_w1 := Lib.hid hB0
  clear hw1 u1 u2 hB0 hs0
  have HLT := Lib.hid (S2.run_load_all T_w1.out Tryz.underlying25 rfl rtSize)
  go_wp2_with (refine wpList_load_v (by rfl) 25 (.tmp 3) rfl ⟨w.heap.size, 0, none⟩ rfl _ HLT.out ?_)
  refine (HFW.out w1).mono ?_
  rintro e w2 ⟨rfl, hb⟩
  have T_w2 := Lib.hid (T_w1.out.step hb)
  have Z_w2 := Lib.hid (Z_w1.out.step hb)
  have B_w2 := Lib.hid (stepB B_w1.out hb)
  clear hb HLT T_w1 Z_w1 B_w1 HFW
  cases F with
  | false =>
    go_wp2_with fail
    refine (HX.out w2 (HO.out.step B_w2.out)).mono ?_
    rintro e w3 ⟨rfl, hb⟩
    have B_w3 := Lib.hid (stepB B_w2.out hb)
    clear hb
    go_wp2_with fail
    go_ret
    exact ⟨rfl, B_w3.out⟩
  | true =>
  by_cases h20 : 20 < ps.length
  · have e1 : decide ((20 : Int) < (ps.length : Int)) = true := decide_eq_true (by omega)
    have e1' : decide (20 < ps.length) = true := decide_eq_true h20
    clear h20
    go_wp2_with fail
    refine (HX.out w2 (HO.out.step B_w2.out)).mono ?_
    rintro e w3 ⟨rfl, hb⟩
    have B_w3 := Lib.hid (stepB B_w2.out hb)
    clear hb
    go_wp2_with fail
    go_ret
    exact ⟨rfl, B_w3.out⟩
  have e1 : decide ((20 : Int) < (ps.length : Int)) = false := decide_eq_false (by omega)
  have e1' : decide (20 < ps.length) = false := decide_eq_false h20
  clear h20
  have HLT := Lib.hid (S2.run_load_all T_w2.out Tryz.underlying25 rfl rtSize)
  go_wp2_with (refine wpList_load_v (by rfl) 25 (.tmp 3) rfl ⟨w.heap.size, 0, none⟩ rfl _ HLT.out ?_)
  refine (HC0.out w2 (GL.step HE.out B_w2.out) (LI.step HI.out B_w2.out)).mono ?_
  rintro e w3 ⟨rfl, hb⟩
  have T_w3 := Lib.hid (T_w2.out.step hb)
  have Z_w3 := Lib.hid (Z_w2.out.step hb)
  have B_w3 := Lib.hid (stepB B_w2.out hb)
  clear hb HLT T_w2 Z_w2 B_w2 HC0
  by_cases hR : R = 0
  case neg =>
    have q1 : (R != 0) = true := bne_iff_ne.2 hR
    clear hR
    go_wp2_with fail
    refine (HX.out w3 (HO.out.step B_w3.out)).mono ?_
    rintro e w4 ⟨rfl, hb⟩
    have B_w4 := Lib.hid (stepB B_w3.out hb)
    clear hb
    go_wp2_with fail
    go_ret
    exact ⟨rfl, B_w4.out⟩
  have q1 : (R != 0) = false := by rw [hR]; rfl
  have HV := Lib.hid (HVV.out.1 hR)
  clear hR HVV e1 e1'
  have hnl : l0.length ≤ 32 := HV.out.nl
  have hnb : xs0.length ≤ 256 := by have := HV.out.nb; rwa [List.length_map] at this
  have hql : (routeR l0 (xs0.map BE.d) to0 to1 ps).1.length ≤ 1000 := route_len (by rw [List.length_map]; omega)
  have HR1 := Lib.hid (fun w1 h1 h2 h3 ho => Route2_any A0 c0 l0 B0 e0 xs0 to0 to1 ps Ap cp w1 h1 HV.out.asc HV.out.kinds (by omega) h2 (by omega) h3 ho HNP.out HFE.out)
  have HR2 := Lib.hid (fun Ab cb w1 h1 h2 h3 ho => Route2_any A0 c0 l0 Ab cb xs0.reverse to0 to1 ps Ap cp w1 h1 HV.out.asc HV.out.kinds (by omega) h2 (by rw [List.length_reverse]; omega) h3 ho HNP.out (fun x hx => HFE.out x (List.mem_reverse.1 hx)))
  have HR3 := Lib.hid (fun Ae ce w1 h1 h2 h3 ho => Route2_any Ae ce (l0.map (aloneE to0)) B0 e0 xs0 to0 to1 ps Ap cp w1 h1 (asc_alone to0 HV.out.asc) (kinds_alone to0 HV.out.kinds) (by rw [List.length_map]; omega) h2 (by omega) h3 ho HNP.out HFE.out)
  rw [List.map_reverse, routeR_rev, List.length_reverse] at HR2
  rw [List.length_map] at HR3
  have hra := route_alone (bs := xs0.map BE.d) HV.out.nonam to0 to1 ps
  have hrn := fun q h => route_name HV.out (ex := to0) (key := to1) (ps := ps) (q := q) h
  have hre := route_err (l := l0) (bs := xs0.map BE.d) (ex := to0) (key := to1) (ps := ps)
  have hrl := fun i j x y a b c => route_lt (l := l0) (bs := xs0.map BE.d) (ex := to0) (key := to1) (ps := ps) (i := i) (j := j) (x := x) (y := y) a b c
  obtain ⟨Q, hQ⟩ : ∃ Q, routeR l0 (xs0.map BE.d) to0 to1 ps = Q := ⟨_, rfl⟩
  obtain ⟨Q', hQ'⟩ : ∃ Q, routeR (l0.map (aloneE to0)) (xs0.map BE.d) to0 to1 ps = Q := ⟨_, rfl⟩
  rw [hQ] at hql HR1 HR2 hra
  rw [hQ'] at HR3 hra
  simp only [hQ] at hrn hre hrl
  obtain ⟨Q1, Q2⟩ := Q
  obtain ⟨C1, C2⟩ := Q'
  have HQL : Hid (Q1.length ≤ 1000) := Lib.hid hql
  have HRA : Hid (C2 = Q2 ∧ (C1 = [] ∨ C1 = Q1)) := Lib.hid hra
  have HRN : Hid (∀ q, q ∈ Q1 → nameR q = true) := Lib.hid hrn
  have HRE : Hid (Q2 ≠ 0 → Q1 = []) := Lib.hid hre
  have HRL : Hid (∀ i j x y, Q1[i]? = some x → Q1[j]? = some y → i < j → ltS x y = true) := Lib.hid hrl
  have HNL := Lib.hid hnl
  have HNB := Lib.hid hnb
  unfold rtV at HR1 HR2 HR3
  clear hnl hnb hql hQ hQ' hra hrn hre hrl
  have z0 := Z_w3.out.cell 0 rfl
  have z1 := Z_w3.out.cell 1 rfl
  have HLT := Lib.hid (S2.run_load_all T_w3.out Tryz.underlying25 rfl rtSize)
  go_wp2_with (refine wpList_load_v (by rfl) 25 (.tmp 3) rfl ⟨w.heap.size, 0, none⟩ rfl _ HLT.out ?_)
  refine (HR1.out w3 (GL.step HE.out B_w3.out) (LI.step HI.out B_w3.out) (GL.step HP.out B_w3.out) (HO.out.step B_w3.out)).mono ?_
  rintro e w4 ⟨v, rfl, hq, hb⟩
  obtain ⟨Aq, cq, hvq, hcq, hgl⟩ := OwnG.ret gT_len hq
  subst hvq
  have G_w4 := Lib.hid hgl
  have T_w4 := Lib.hid (T_w3.out.step hb)
  have Z_w4 := Lib.hid (Z_w3.out.step hb)
  have B_w4 := Lib.hid (stepB B_w3.out hb)
  clear hb hq hcq hgl HLT z0 z1 T_w3 Z_w3 B_w3 HR1
  have HCB := Lib.hid (fun w1 (hb : Below w.heap.size w w1) => cloneB_any B0 e0 xs0 w1 (GL.step HI.out.1 hb) (by have := HNB.out; omega))
  go_upto_region 4 with fail
  go_cut [9] from 9 to 47 (fun s wx => ∃ q v, s = .pointer (some ⟨q, 0, none⟩) ∧ Cutc 35 gB 5 w4 wx xs0 (fun v => [.slice A0 l0.length c0, v]) q v)
  case first =>
    obtain ⟨d1, hd1⟩ : ∃ d1, d1 = World.drew w4 := ⟨_, rfl⟩
    have hbD : Below w4.heap.size w4 d1 := by rw [hd1]; exact (Below.refl _ _).drew
    have T_d1 := Lib.hid (T_w4.out.step hbD)
    have W_d1 := Lib.hid hbD
    have hbd : (fun w' => BK 25 w' w.heap.size [.slice A0 l0.length c0, .slice B0 xs0.length e0]) (World.drew w4) := by rw [← hd1]; exact T_d1.out
    have hSD : (fun w' => BK 25 w' w.heap.size [.slice A0 l0.length c0, .slice B0 xs0.length e0]) d1 := T_d1.out
    have HWD := Lib.hid hd1
    clear hd1 hbD
    refine wp_region_held_drew (S := fun w' => BK 25 w' w.heap.size [.slice A0 l0.length c0, .slice B0 xs0.length e0]) (by kernel_rfl) hbd (fun hHeld => ?_)
    rw [← HWD.out]
    clear hHeld
    have hHeld := hSD
    clear hSD hbd HWD
    refine wpAnyH_take (i := 0) (v := .pointer (some ⟨w.heap.size, 0, none⟩)) (get_ops _ _ _ rfl) (by kernel_rfl) (by kernel_rfl) (by kernel_rfl) (fun _ _ _ h => h) (Or.inl ⟨by rfl, fun wS hSw => by (try dsimp only at hSw); go_simp⟩) hHeld ?_
    try simp only [Act.put, List.setIfInBounds_toArray, List.set_cons_zero, List.set_cons_succ]
    refine wpAnyH_take (i := 1) (v := .slice A0 l0.length c0) (get_ops _ _ _ rfl) (by kernel_rfl) (by kernel_rfl) (by kernel_rfl) (fun _ _ _ h => h) (Or.inl ⟨by rfl, fun wS hSw => by (try dsimp only at hSw); have cS : wS.cell? ⟨w.heap.size, 0, none⟩ = some (.slice A0 l0.length c0) := hSw.cell 0 rfl; clear hSw; go_simp⟩) hHeld ?_
    try simp only [Act.put, List.setIfInBounds_toArray, List.set_cons_zero, List.set_cons_succ]
    refine wpAnyH_take (i := 2) (v := .pointer (some ⟨w.heap.size, 1, none⟩)) (get_ops _ _ _ rfl) (by kernel_rfl) (by kernel_rfl) (by kernel_rfl) (fun _ _ _ h => h) (Or.inl ⟨by rfl, fun wS hSw => by (try dsimp only at hSw); go_simp⟩) hHeld ?_
    try simp only [Act.put, List.setIfInBounds_toArray, List.set_cons_zero, List.set_cons_succ]
    refine wpAnyH_take (i := 3) (v := .slice B0 xs0.length e0) (get_ops _ _ _ rfl) (by kernel_rfl) (by kernel_rfl) (by kernel_rfl) (fun _ _ _ h => h) (Or.inl ⟨by rfl, fun wS hSw => by (try dsimp only at hSw); have cS : wS.cell? ⟨w.heap.size, 1, none⟩ = some (.slice B0 xs0.length e0) := hSw.cell 1 rfl; clear hSw; go_simp⟩) hHeld ?_
    try simp only [Act.put, List.setIfInBounds_toArray, List.set_cons_zero, List.set_cons_succ]
    refine wpAnyH_ready (rs := [4, 6]) (by kernel_rfl) (by simp) ?_
    refine (AllReadyH.cons (get_ops _ _ _ rfl) (fun K hK => ?_) (AllReadyH.cons (get_ops _ _ _ rfl) (fun K hK => ?_) AllReadyH.nil))
    · go_simp
      refine (HCB.out d1 (stepB B_w4.out W_d1.out)).mono ?_
      rintro e d2 ⟨v, rfl, ho, hb⟩
      obtain ⟨Av, cv, hv, _, _⟩ := OwnG.ret gB_len ho
      subst hv
      have T_d2 := Lib.hid (T_d1.out.step hb)
      have O_d2 : Hid (OwnG 35 gB 5 d2 w4.heap.size (.slice Av xs0.length cv) xs0) := Lib.hid (OwnG.weak ho W_d1.out.size)
      have W_d2 := Lib.hid (stepB W_d1.out hb)
      clear hHeld hb ho
      go_wp2_with fail
      refine hK.out _ _ T_d2.out (fun hHeld => ?_)
      clear hK K
      try simp only [Act.put, List.setIfInBounds_toArray, List.set_cons_zero, List.set_cons_succ]
      refine wpAnyH_take (i := 5) (v := .agg #[.slice A0 l0.length c0, .slice Av xs0.length cv]) (get_ops _ _ _ rfl) (by kernel_rfl) (by kernel_rfl) (by kernel_rfl) (fun _ _ _ h => h) (Or.inl ⟨by rfl, fun wS hSw => by (try dsimp only at hSw); go_simp⟩) hHeld ?_
      try simp only [Act.put, List.setIfInBounds_toArray, List.set_cons_zero, List.set_cons_succ]
      refine wpAnyH_ready (rs := [6]) (by kernel_rfl) (by simp) ?_
      refine (AllReadyH.cons (get_ops _ _ _ rfl) (fun K hK => ?_) AllReadyH.nil)
      have HNE := Lib.hid (OwnG.high O_d2.out (Nat.le_refl _))
      go_simp
      obtain ⟨d3, hd3⟩ : ∃ d, d = d2.alloc (.cells [.slice none 0 0, .slice none 0 0].toArray 25) := ⟨_, rfl⟩
      have hb : Below d2.heap.size d2 d3 := by rw [hd3]; exact S2.below_new _ _
      have V_d3 : Hid (BK 25 d3 d2.heap.size [.slice none 0 0, .slice none 0 0]) := Lib.hid (by rw [hd3]; exact BK.new _ _ _)
      have T_d3 := Lib.hid (T_d2.out.step hb)
      have W_d3 := Lib.hid (stepB W_d2.out hb)
      have O_d3 := Lib.hid (OwnG.step O_d2.out hb)
      try rw [← hd3]
      clear hHeld hb hd3
      refine hK.out _ _ T_d3.out (fun hHeld => ?_)
      clear hK K
      try simp only [Act.put, List.setIfInBounds_toArray, List.set_cons_zero, List.set_cons_succ]
      refine wpAnyH_ready (rs := [7]) (by kernel_rfl) (by simp) ?_
      refine (AllReadyH.cons (get_ops _ _ _ rfl) (fun K hK => ?_) AllReadyH.nil)
      refine S2.wp_store_all 25 _ _ rfl rfl d2.heap.size (by go_simp) [.slice A0 l0.length c0, .slice Av xs0.length cv] (by first | rfl | go_simp) 25 [.slice none 0 0, .slice none 0 0] V_d3.out rtSize rfl (ones rfl) ?_
      intro d4 hM hP
      have V_d4 := Lib.hid hM
      have O_d4 := Lib.hid (OwnG.put O_d3.out HNE.out hP)
      have T_d4 := Lib.hid (hP.other T_d3.out (by have := T_d2.out.lt; omega))
      have W_d4 := Lib.hid (hP.below W_d3.out W_d2.out.size)
      clear hM hP hHeld
      refine hK.out _ _ T_d4.out (fun hHeld => ?_)
      clear hK K
      try simp only [Act.put, List.setIfInBounds_toArray, List.set_cons_zero, List.set_cons_succ]
      refine wpAnyH_done (by kernel_rfl) ?_ _
      clear hHeld
      go_wp2_with fail
      go_meet
      exact ⟨d2.heap.size, _, rfl, ⟨O_d4.out, V_d4.out, HNE.out, W_d4.out, W_d2.out.size⟩⟩
    · go_simp
      obtain ⟨d2, hd2⟩ : ∃ d, d = d1.alloc (.cells [.slice none 0 0, .slice none 0 0].toArray 25) := ⟨_, rfl⟩
      have hb : Below d1.heap.size d1 d2 := by rw [hd2]; exact S2.below_new _ _
      have V_d2 : Hid (BK 25 d2 d1.heap.size [.slice none 0 0, .slice none 0 0]) := Lib.hid (by rw [hd2]; exact BK.new _ _ _)
      have T_d2 := Lib.hid (T_d1.out.step hb)
      have W_d2 := Lib.hid (stepB W_d1.out hb)
      try rw [← hd2]
      clear hHeld hb hd2
      refine hK.out _ _ T_d2.out (fun hHeld => ?_)
      clear hK K
      try simp only [Act.put, List.setIfInBounds_toArray, List.set_cons_zero, List.set_cons_succ]
      refine wpAnyH_ready (rs := [4]) (by kernel_rfl) (by simp) ?_
      refine (AllReadyH.cons (get_ops _ _ _ rfl) (fun K hK => ?_) AllReadyH.nil)
      go_simp
      refine (HCB.out d2 (stepB B_w4.out W_d2.out)).mono ?_
      rintro e d3 ⟨v, rfl, ho, hb⟩
      obtain ⟨Av, cv, hv, _, _⟩ := OwnG.ret gB_len ho
      subst hv
      have T_d3 := Lib.hid (T_d2.out.step hb)
      have O_d3 : Hid (OwnG 35 gB 5 d3 w4.heap.size (.slice Av xs0.length cv) xs0) := Lib.hid (OwnG.weak ho W_d2.out.size)
      have W_d3 := Lib.hid (stepB W_d2.out hb)
      have V_d3 := Lib.hid (V_d2.out.step hb)
      have HNE := Lib.hid (OwnG.off ho (b := d1.heap.size) V_d2.out.lt)
      clear hHeld hb ho
      go_wp2_with fail
      refine hK.out _ _ T_d3.out (fun hHeld => ?_)
      clear hK K
      try simp only [Act.put, List.setIfInBounds_toArray, List.set_cons_zero, List.set_cons_succ]
      refine wpAnyH_take (i := 5) (v := .agg #[.slice A0 l0.length c0, .slice Av xs0.length cv]) (get_ops _ _ _ rfl) (by kernel_rfl) (by kernel_rfl) (by kernel_rfl) (fun _ _ _ h => h) (Or.inl ⟨by rfl, fun wS hSw => by (try dsimp only at hSw); go_simp⟩) hHeld ?_
      try simp only [Act.put, List.setIfInBounds_toArray, List.set_cons_zero, List.set_cons_succ]
      refine wpAnyH_ready (rs := [7]) (by kernel_rfl) (by simp) ?_
      refine (AllReadyH.cons (get_ops _ _ _ rfl) (fun K hK => ?_) AllReadyH.nil)
      refine S2.wp_store_all 25 _ _ rfl rfl d1.heap.size (by go_simp) [.slice A0 l0.length c0, .slice Av xs0.length cv] (by first | rfl | go_simp) 25 [.slice none 0 0, .slice none 0 0] V_d3.out rtSize rfl (ones rfl) ?_
      intro d4 hM hP
      have V_d4 := Lib.hid hM
      have O_d4 := Lib.hid (OwnG.put O_d3.out HNE.out hP)
      have T_d4 := Lib.hid (hP.other T_d3.out (by have := T_d1.out.lt; omega))
      have W_d4 := Lib.hid (hP.below W_d3.out W_d1.out.size)
      clear hM hP hHeld
      refine hK.out _ _ T_d4.out (fun hHeld => ?_)
      clear hK K
      try simp only [Act.put, List.setIfInBounds_toArray, List.set_cons_zero, List.set_cons_succ]
      refine wpAnyH_done (by kernel_rfl) ?_ _
      clear hHeld
      go_wp2_with fail
      go_meet
      exact ⟨d1.heap.size, _, rfl, ⟨O_d4.out, V_d4.out, HNE.out, W_d4.out, W_d1.out.size⟩⟩
  case rest =>
    rename World => wx
    obtain ⟨g9, vb, rfl, hcut⟩ := hcut
    have O_wx := Lib.hid hcut.ob
    have V_wx : Hid (BK 25 wx g9 [.slice A0 l0.length c0, vb]) := Lib.hid hcut.vb
    have HNE := Lib.hid hcut.ne
    have W_wx := Lib.hid hcut.bw
    have HREV := Lib.hid (reverseO_any vb w4.heap.size xs0 wx hcut.ob (by have := HNB.out; omega))
    have v1 := V_wx.out.cell 1 rfl
    clear hcut HCB
    go_wp2_with fail
    refine HREV.out.mono ?_
    rintro e wy ⟨rfl, hob, htn⟩
    have W_wy := Lib.hid (htn.below w4 W_wx.out)
    have V_wy : Hid (BK 25 wy g9 [.slice A0 l0.length c0, vb]) := Lib.hid ((htn.keep g9 V_wx.out.lt HNE.out).trans V_wx.out)
    have B_wy := Lib.hid (stepB B_w4.out W_wy.out)
    have T_wy := Lib.hid (T_w4.out.step W_wy.out)
    have Z_wy := Lib.hid (Z_w4.out.step W_wy.out)
    have G_wy := Lib.hid (GL.step G_w4.out W_wy.out)
    obtain ⟨Ab, cb, hv, hcb, hgb⟩ := OwnG.ret gB_len hob
    rw [List.length_reverse] at hv
    subst hv
    have S_wy : Hid (BI wy wy.heap.size Ab xs0.reverse) := Lib.hid ⟨hgb, fun x hx => (LI.step HI.out B_wy.out).2 x (List.mem_reverse.1 hx)⟩
    clear hob htn hcb hgb v1 HREV W_wx V_wx O_wx HNE T_w4 Z_w4 G_w4 B_w4
    have z0 := Z_wy.out.cell 0 rfl
    have z1 := Z_wy.out.cell 1 rfl
    have HLV := Lib.hid (S2.run_load_all V_wy.out Tryz.underlying25 rfl rtSize)
    go_wp2_with (refine wpList_load_v (by rfl) 25 (.tmp 9) rfl ⟨g9, 0, none⟩ rfl _ HLV.out ?_)
    refine (HR2.out Ab cb wy (GL.step HE.out B_wy.out) S_wy.out (GL.step HP.out B_wy.out) (HO.out.step B_wy.out)).mono ?_
    rintro e w6 ⟨v, rfl, hq, hb⟩
    obtain ⟨Ar, cr, hvq, hcr, hgl⟩ := OwnG.ret gT_len hq
    subst hvq
    have HEQ := Lib.hid (eqT_allo (c1 := cq) (c2 := cr) (GL.step G_wy.out hb) hgl (by have := HQL.out; omega))
    have T_w6 := Lib.hid (T_wy.out.step hb)
    have Z_w6 := Lib.hid (Z_wy.out.step hb)
    have B_w6 := Lib.hid (stepB B_wy.out hb)
    have G_w6 := Lib.hid (GL.step G_wy.out hb)
    clear hb hq hcr hgl HLV z0 z1 T_wy Z_wy B_wy G_wy V_wy S_wy W_wy HR2
    go_upto_region 7 with fail
    go_cut [78] from 61 to 78 (fun s wx => s = .bool false ∧ Below w6.heap.size w6 wx)
    case first =>
      have e5 : (Q2 != Q2) = false := by simp
      by_cases h0 : Q2 = 0
      · have k0 : (Q2 != 0) = false := by simp [h0]
        clear h0
        go_wp2_with fail
        refine HEQ.out.mono ?_
        rintro e w7 ⟨rfl, hb⟩
        have W_w7 := Lib.hid hb
        clear hb
        go_wp2_with fail
        go_meet
        exact ⟨rfl, W_w7.out⟩
      · have k0 : (Q2 != 0) = true := bne_iff_ne.2 h0
        have hq1 := HRE.out h0
        have k2 : decide ((0 : Int) < (Q1.length : Int)) = false := by rw [hq1]; rfl
        have k3 : decide (0 < Q1.length) = false := by rw [hq1]; rfl
        clear h0 hq1
        go_wp2_with fail
        refine HEQ.out.mono ?_
        rintro e w7 ⟨rfl, hb⟩
        have W_w7 := Lib.hid hb
        clear hb
        go_wp2_with fail
        go_meet
        exact ⟨rfl, W_w7.out⟩
    case rest =>
    rename World => w8
    obtain ⟨rfl, hW⟩ := hcut
    have T_w8 := Lib.hid (T_w6.out.step hW)
    have Z_w8 := Lib.hid (Z_w6.out.step hW)
    have B_w8 := Lib.hid (stepB B_w6.out hW)
    have G_w8 := Lib.hid (GL.step G_w6.out hW)
    clear hW HEQ T_w6 Z_w6 B_w6 G_w6
    go_wp2_with fail
    go_loopg [81] Q1.length (fun g v wr => ∃ k : Nat, k + g = Q1.length ∧ v = .int .i64 k ∧ Below w8.heap.size w8 wr)
    case atStart => exact ⟨0, by omega, rfl, Below.refl _ _⟩
    case round =>
      obtain ⟨k, hkg, rfl, hb0⟩ := hrel
      have HG := Lib.hid hkg
      have W_wr := Lib.hid hb0
      clear hb0
      cases gk with
      | succ n =>
        have hlt : k < Q1.length := by omega
        have e3 : decide ((k : Int) < (Q1.length : Int)) = true := decide_eq_true (by omega)
        obtain ⟨q, hq⟩ : ∃ q, Q1[k]? = some q := ⟨_, List.getElem?_eq_getElem hlt⟩
        obtain ⟨b, o, hA, hbB, hcl⟩ := (GL.step G_w8.out W_wr.out) (by omega)
        have kv := hcl k q 0 _ hq rfl
        rw [Nat.mul_one, Nat.add_zero] at kv
        have HNQ : Hid (∀ w1, Calls Tryz.prog 24 #[.string q] w1 fun e w' => e = .returned (.bool (nameR q)) ∧ Below w1.heap.size w1 w') := Lib.hid (fun w1 => S1.tName_any q w1)
        have hqn := HRN.out q (List.mem_of_getElem? hq)
        rw [hqn] at HNQ
        have HPV : Hid (∀ p, p + 1 = k → ∃ x, Q1[p]? = some x ∧ ltS x q = true ∧ wr.cell? ⟨b, o + p, none⟩ = some (.string x)) := Lib.hid (fun p hp => by
          obtain ⟨x, hx⟩ : ∃ x, Q1[p]? = some x := ⟨_, List.getElem?_eq_getElem (by omega)⟩
          have := hcl p x 0 _ hx rfl
          rw [Nat.mul_one, Nat.add_zero] at this
          exact ⟨x, hx, HRL.out p k x q hx hq (by omega), this⟩)
        have HBB : Hid (b < wr.heap.size) := Lib.hid hbB
        subst hA
        have j1 : (0 : Int) ≤ (k : Int) := by omega
        have j2 : (k : Int) < (Q1.length : Int) := by omega
        clear hq hkg hcl hqn hbB
        go_upto_region 12 with fail
        clear kv
        go_wp2_with fail
        refine (HNQ.out wr).mono ?_
        rintro e w9 ⟨rfl, hb⟩
        have W_w9 := Lib.hid (stepB W_wr.out hb)
        have HPV2 : Hid (∀ p, p + 1 = k → ∃ x, Q1[p]? = some x ∧ ltS x q = true ∧ w9.cell? ⟨b, o + p, none⟩ = some (.string x)) := Lib.hid (fun p hp => by
          obtain ⟨x, h1, h2, h3⟩ := HPV.out p hp
          exact ⟨x, h1, h2, (hb.cell (p := ⟨b, o + p, none⟩) HBB.out).trans h3⟩)
        clear hb HNQ HPV W_wr HBB
        by_cases hk0 : k = 0
        · have k0 : decide ((0 : Int) < (k : Int)) = false := decide_eq_false (by omega)
          have k0' : decide (0 < k) = false := decide_eq_false (by omega)
          clear hk0 hlt
          go_wp2_with fail
          go_roundg n
          case measure => omega
          case rel => exact ⟨k + 1, by have := HG.out; omega, nxt k (by have := HQL.out; have := HG.out; omega), W_w9.out⟩
        · obtain ⟨p, hp⟩ : ∃ p, p + 1 = k := ⟨k - 1, by omega⟩
          obtain ⟨x, _, hlt2, kp⟩ := HPV2.out p hp
          have k0 : decide ((0 : Int) < (k : Int)) = true := decide_eq_true (by omega)
          have k0' : decide (0 < k) = true := decide_eq_true (by omega)
          have j3 : wrap64 ((k : Int) - 1) = (p : Int) := by rw [wrap64_id _ (by omega) (by have := HQL.out; omega)]; omega
          have j4 : (0 : Int) ≤ (p : Int) := by omega
          have j5 : (p : Int) < (Q1.length : Int) := by omega
          have q3 : (Op.bytesLess q.toList x.toList || q.toList == x.toList) = false := by rw [le_data, hlt2]; rfl
          clear hk0 hp hlt2 hlt
          go_wp2_with fail
          go_roundg n
          case measure => omega
          case rel => exact ⟨k + 1, by have := HG.out; omega, nxt k (by have := HQL.out; have := HG.out; omega), W_w9.out⟩
      | zero =>
      obtain rfl : k = Q1.length := by omega
      have e3 : decide ((Q1.length : Int) < (Q1.length : Int)) = false := decide_eq_false (by omega)
      have T_wr := Lib.hid (T_w8.out.step W_wr.out)
      have Z_wr := Lib.hid (Z_w8.out.step W_wr.out)
      have B_wr := Lib.hid (stepB B_w8.out W_wr.out)
      have G_wr := Lib.hid (GL.step G_w8.out W_wr.out)
      clear hkg T_w8 Z_w8 B_w8 G_w8 W_wr
      obtain ⟨wb, hwb⟩ : ∃ wb, wb = wr := ⟨_, rfl⟩
      subst hwb
      have HCE := Lib.hid (fun w1 (hb : Below w.heap.size w w1) => cloneE_any A0 c0 l0 w1 (GL.step HE.out hb) (by have := HNL.out; omega))
      go_upto_region 15 with fail
      have T_wb := T_wr
      have B_wb := B_wr
      have Z_wb := Z_wr
      have G_wb := G_wr
      go_cut [14] from 14 to 108 (fun s wx => ∃ q v, s = .pointer (some ⟨q, 0, none⟩) ∧ Cutc 32 gE 3 wb wx l0 (fun v => [v, .slice B0 xs0.length e0]) q v)
      case first =>
        obtain ⟨d1, hd1⟩ : ∃ d1, d1 = World.drew wb := ⟨_, rfl⟩
        have hbD : Below wb.heap.size wb d1 := by rw [hd1]; exact (Below.refl _ _).drew
        have T_d1 := Lib.hid (T_wb.out.step hbD)
        have W_d1 := Lib.hid hbD
        have hbd : (fun w' => BK 25 w' w.heap.size [.slice A0 l0.length c0, .slice B0 xs0.length e0]) (World.drew wb) := by rw [← hd1]; exact T_d1.out
        have hSD : (fun w' => BK 25 w' w.heap.size [.slice A0 l0.length c0, .slice B0 xs0.length e0]) d1 := T_d1.out
        have HWD := Lib.hid hd1
        clear hd1 hbD
        refine wp_region_held_drew (S := fun w' => BK 25 w' w.heap.size [.slice A0 l0.length c0, .slice B0 xs0.length e0]) (by kernel_rfl) hbd (fun hHeld => ?_)
        rw [← HWD.out]
        clear hHeld
        have hHeld := hSD
        clear hSD hbd HWD
        refine wpAnyH_take (i := 0) (v := .pointer (some ⟨w.heap.size, 0, none⟩)) (get_ops _ _ _ rfl) (by kernel_rfl) (by kernel_rfl) (by kernel_rfl) (fun _ _ _ h => h) (Or.inl ⟨by rfl, fun wS hSw => by (try dsimp only at hSw); go_simp⟩) hHeld ?_
        try simp only [Act.put, List.setIfInBounds_toArray, List.set_cons_zero, List.set_cons_succ]
        refine wpAnyH_take (i := 1) (v := .slice A0 l0.length c0) (get_ops _ _ _ rfl) (by kernel_rfl) (by kernel_rfl) (by kernel_rfl) (fun _ _ _ h => h) (Or.inl ⟨by rfl, fun wS hSw => by (try dsimp only at hSw); have cS : wS.cell? ⟨w.heap.size, 0, none⟩ = some (.slice A0 l0.length c0) := hSw.cell 0 rfl; clear hSw; go_simp⟩) hHeld ?_
        try simp only [Act.put, List.setIfInBounds_toArray, List.set_cons_zero, List.set_cons_succ]
        refine wpAnyH_take (i := 3) (v := .pointer (some ⟨w.heap.size, 1, none⟩)) (get_ops _ _ _ rfl) (by kernel_rfl) (by kernel_rfl) (by kernel_rfl) (fun _ _ _ h => h) (Or.inl ⟨by rfl, fun wS hSw => by (try dsimp only at hSw); go_simp⟩) hHeld ?_
        try simp only [Act.put, List.setIfInBounds_toArray, List.set_cons_zero, List.set_cons_succ]
        refine wpAnyH_take (i := 4) (v := .slice B0 xs0.length e0) (get_ops _ _ _ rfl) (by kernel_rfl) (by kernel_rfl) (by kernel_rfl) (fun _ _ _ h => h) (Or.inl ⟨by rfl, fun wS hSw => by (try dsimp only at hSw); have cS : wS.cell? ⟨w.heap.size, 1, none⟩ = some (.slice B0 xs0.length e0) := hSw.cell 1 rfl; clear hSw; go_simp⟩) hHeld ?_
        try simp only [Act.put, List.setIfInBounds_toArray, List.set_cons_zero, List.set_cons_succ]
        refine wpAnyH_ready (rs := [2, 6]) (by kernel_rfl) (by simp) ?_
        refine (AllReadyH.cons (get_ops _ _ _ rfl) (fun K hK => ?_) (AllReadyH.cons (get_ops _ _ _ rfl) (fun K hK => ?_) AllReadyH.nil))
        · go_simp
          refine (HCE.out d1 (stepB B_wb.out W_d1.out)).mono ?_
          rintro e d2 ⟨v, rfl, ho, hb⟩
          obtain ⟨Av, cv, hv, _, _⟩ := OwnG.ret gE_len ho
          subst hv
          have T_d2 := Lib.hid (T_d1.out.step hb)
          have O_d2 : Hid (OwnG 32 gE 3 d2 wb.heap.size (.slice Av l0.length cv) l0) := Lib.hid (OwnG.weak ho W_d1.out.size)
          have W_d2 := Lib.hid (stepB W_d1.out hb)
          clear hHeld hb ho
          go_wp2_with fail
          refine hK.out _ _ T_d2.out (fun hHeld => ?_)
          clear hK K
          try simp only [Act.put, List.setIfInBounds_toArray, List.set_cons_zero, List.set_cons_succ]
          refine wpAnyH_take (i := 5) (v := .agg #[.slice Av l0.length cv, .slice B0 xs0.length e0]) (get_ops _ _ _ rfl) (by kernel_rfl) (by kernel_rfl) (by kernel_rfl) (fun _ _ _ h => h) (Or.inl ⟨by rfl, fun wS hSw => by (try dsimp only at hSw); go_simp⟩) hHeld ?_
          try simp only [Act.put, List.setIfInBounds_toArray, List.set_cons_zero, List.set_cons_succ]
          refine wpAnyH_ready (rs := [6]) (by kernel_rfl) (by simp) ?_
          refine (AllReadyH.cons (get_ops _ _ _ rfl) (fun K hK => ?_) AllReadyH.nil)
          have HNE := Lib.hid (OwnG.high O_d2.out (Nat.le_refl _))
          go_simp
          obtain ⟨d3, hd3⟩ : ∃ d, d = d2.alloc (.cells [.slice none 0 0, .slice none 0 0].toArray 25) := ⟨_, rfl⟩
          have hb : Below d2.heap.size d2 d3 := by rw [hd3]; exact S2.below_new _ _
          have V_d3 : Hid (BK 25 d3 d2.heap.size [.slice none 0 0, .slice none 0 0]) := Lib.hid (by rw [hd3]; exact BK.new _ _ _)
          have T_d3 := Lib.hid (T_d2.out.step hb)
          have W_d3 := Lib.hid (stepB W_d2.out hb)
          have O_d3 := Lib.hid (OwnG.step O_d2.out hb)
          try rw [← hd3]
          clear hHeld hb hd3
          refine hK.out _ _ T_d3.out (fun hHeld => ?_)
          clear hK K
          try simp only [Act.put, List.setIfInBounds_toArray, List.set_cons_zero, List.set_cons_succ]
          refine wpAnyH_ready (rs := [7]) (by kernel_rfl) (by simp) ?_
          refine (AllReadyH.cons (get_ops _ _ _ rfl) (fun K hK => ?_) AllReadyH.nil)
          refine S2.wp_store_all 25 _ _ rfl rfl d2.heap.size (by go_simp) [.slice Av l0.length cv, .slice B0 xs0.length e0] (by first | rfl | go_simp) 25 [.slice none 0 0, .slice none 0 0] V_d3.out rtSize rfl (ones rfl) ?_
          intro d4 hM hP
          have V_d4 := Lib.hid hM
          have O_d4 := Lib.hid (OwnG.put O_d3.out HNE.out hP)
          have T_d4 := Lib.hid (hP.other T_d3.out (by have := T_d2.out.lt; omega))
          have W_d4 := Lib.hid (hP.below W_d3.out W_d2.out.size)
          clear hM hP hHeld
          refine hK.out _ _ T_d4.out (fun hHeld => ?_)
          clear hK K
          try simp only [Act.put, List.setIfInBounds_toArray, List.set_cons_zero, List.set_cons_succ]
          refine wpAnyH_done (by kernel_rfl) ?_ _
          clear hHeld
          go_wp2_with fail
          go_meet
          exact ⟨d2.heap.size, _, rfl, ⟨O_d4.out, V_d4.out, HNE.out, W_d4.out, W_d2.out.size⟩⟩
        · go_simp
          obtain ⟨d2, hd2⟩ : ∃ d, d = d1.alloc (.cells [.slice none 0 0, .slice none 0 0].toArray 25) := ⟨_, rfl⟩
          have hb : Below d1.heap.size d1 d2 := by rw [hd2]; exact S2.below_new _ _
          have V_d2 : Hid (BK 25 d2 d1.heap.size [.slice none 0 0, .slice none 0 0]) := Lib.hid (by rw [hd2]; exact BK.new _ _ _)
          have T_d2 := Lib.hid (T_d1.out.step hb)
          have W_d2 := Lib.hid (stepB W_d1.out hb)
          try rw [← hd2]
          clear hHeld hb hd2
          refine hK.out _ _ T_d2.out (fun hHeld => ?_)
          clear hK K
          try simp only [Act.put, List.setIfInBounds_toArray, List.set_cons_zero, List.set_cons_succ]
          refine wpAnyH_ready (rs := [2]) (by kernel_rfl) (by simp) ?_
          refine (AllReadyH.cons (get_ops _ _ _ rfl) (fun K hK => ?_) AllReadyH.nil)
          go_simp
          refine (HCE.out d2 (stepB B_wb.out W_d2.out)).mono ?_
          rintro e d3 ⟨v, rfl, ho, hb⟩
          obtain ⟨Av, cv, hv, _, _⟩ := OwnG.ret gE_len ho
          subst hv
          have T_d3 := Lib.hid (T_d2.out.step hb)
          have O_d3 : Hid (OwnG 32 gE 3 d3 wb.heap.size (.slice Av l0.length cv) l0) := Lib.hid (OwnG.weak ho W_d2.out.size)
          have W_d3 := Lib.hid (stepB W_d2.out hb)
          have V_d3 := Lib.hid (V_d2.out.step hb)
          have HNE := Lib.hid (OwnG.off ho (b := d1.heap.size) V_d2.out.lt)
          clear hHeld hb ho
          go_wp2_with fail
          refine hK.out _ _ T_d3.out (fun hHeld => ?_)
          clear hK K
          try simp only [Act.put, List.setIfInBounds_toArray, List.set_cons_zero, List.set_cons_succ]
          refine wpAnyH_take (i := 5) (v := .agg #[.slice Av l0.length cv, .slice B0 xs0.length e0]) (get_ops _ _ _ rfl) (by kernel_rfl) (by kernel_rfl) (by kernel_rfl) (fun _ _ _ h => h) (Or.inl ⟨by rfl, fun wS hSw => by (try dsimp only at hSw); go_simp⟩) hHeld ?_
          try simp only [Act.put, List.setIfInBounds_toArray, List.set_cons_zero, List.set_cons_succ]
          refine wpAnyH_ready (rs := [7]) (by kernel_rfl) (by simp) ?_
          refine (AllReadyH.cons (get_ops _ _ _ rfl) (fun K hK => ?_) AllReadyH.nil)
          refine S2.wp_store_all 25 _ _ rfl rfl d1.heap.size (by go_simp) [.slice Av l0.length cv, .slice B0 xs0.length e0] (by first | rfl | go_simp) 25 [.slice none 0 0, .slice none 0 0] V_d3.out rtSize rfl (ones rfl) ?_
          intro d4 hM hP
          have V_d4 := Lib.hid hM
          have O_d4 := Lib.hid (OwnG.put O_d3.out HNE.out hP)
          have T_d4 := Lib.hid (hP.other T_d3.out (by have := T_d1.out.lt; omega))
          have W_d4 := Lib.hid (hP.below W_d3.out W_d1.out.size)
          clear hM hP hHeld
          refine hK.out _ _ T_d4.out (fun hHeld => ?_)
          clear hK K
          try simp only [Act.put, List.setIfInBounds_toArray, List.set_cons_zero, List.set_cons_succ]
          refine wpAnyH_done (by kernel_rfl) ?_ _
          clear hHeld
          go_wp2_with fail
          go_meet
          exact ⟨d1.heap.size, _, rfl, ⟨O_d4.out, V_d4.out, HNE.out, W_d4.out, W_d1.out.size⟩⟩
      case rest =>
        rename World => wx
        obtain ⟨g14, va, rfl, hcut⟩ := hcut
        have O_wx := Lib.hid hcut.ob
        have V_wx : Hid (BK 25 wx g14 [va, .slice B0 xs0.length e0]) := Lib.hid hcut.vb
        have HNE := Lib.hid hcut.ne
        have W_wx := Lib.hid hcut.bw
        have HGE := Lib.hid hcut.ge
        obtain ⟨Ae, ce, hv, _, _⟩ := OwnG.ret gE_len hcut.ob
        subst hv
        clear hcut HCE
        have v0 := V_wx.out.cell 0 rfl
        go_wp2_with fail
        clear v0
        go_loopg [112] l0.length (fun g v wr => ∃ k : Nat, k + g = l0.length ∧ v = .int .i64 k ∧ OwnG 32 gE 3 wr wb.heap.size (.slice Ae l0.length ce) (ysA to0 l0 k) ∧ BK 25 wr g14 [.slice Ae l0.length ce, .slice B0 xs0.length e0] ∧ Below wb.heap.size wb wr)
        case atStart => exact ⟨0, by omega, rfl, O_wx.out, V_wx.out, W_wx.out⟩
        case round =>
          obtain ⟨k, hkg, rfl, ho, hv, hb0⟩ := hrel
          have HG := Lib.hid hkg
          have O_wr := Lib.hid ho
          have V_wr := Lib.hid hv
          have W_wr := Lib.hid hb0
          clear ho hv hb0 O_wx V_wx W_wx
          cases gk with
          | succ n =>
            have hlt : k < l0.length := by omega
            have e3 : decide ((k : Int) < (l0.length : Int)) = true := decide_eq_true (by omega)
            obtain ⟨x, hx⟩ : ∃ x, l0[k]? = some x := ⟨_, List.getElem?_eq_getElem hlt⟩
            have hyk := ysA_get to0 hx
            have HYN := Lib.hid (ysA_next to0 hx)
            rcases own_rowG O_wr.out with ⟨hnil, _⟩ | ⟨q, cap, sp, hv, hB, hbk, hnc, hcm, hl⟩
            · simp only [Value.slice.injEq] at hnil; omega
            simp only [Value.slice.injEq] at hv
            obtain ⟨hA, hll, hc⟩ := hv
            subst hA
            subst hc
            have HLL := Lib.hid hll
            have HBQ := Lib.hid hB
            have HCP : Hid ((ysA to0 l0 k).length ≤ ce ∧ ce ≤ maxLen ∧ ((ysA to0 l0 k).flatMap gE ++ sp).length = ce * 3) := Lib.hid ⟨hnc, hcm, hl⟩
            have R_wr := Lib.hid hbk
            have HNQ : Hid (g14 ≠ q) := Lib.hid (fun e => HNE.out (by rw [e]; rfl))
            have kx : wr.cell? ⟨q, k * 3, none⟩ = some (.string x.nm) := row_atG gE_len hbk hyk 0 _ rfl
            have v0 := V_wr.out.cell 0 rfl
            have z0 := (Z_wb.out.step W_wr.out).cell 0 rfl
            have q1 : (x.nm.toList == to0.toList) = decide (x.nm = to0) := str_dec _ _
            have HYK := Lib.hid hyk
            have HAL : Hid (x.nm ≠ to0 → ysA to0 l0 (k + 1) = ysA to0 l0 k) := Lib.hid (fun h => ysA_skip to0 hx h)
            have HAY : Hid (x.nm = to0 → gE (aloneE to0 x) = putC (gE x) 2 [.string ⟨#[]⟩]) := Lib.hid (fun h => by unfold aloneE; rw [if_pos h]; rfl)
            have j1 : (0 : Int) ≤ (k : Int) := by omega
            have j2 : (k : Int) < (l0.length : Int) := by omega
            obtain ⟨b1, hb1⟩ : ∃ b, decide (x.nm = to0) = b := ⟨_, rfl⟩
            rw [hb1] at q1
            have HB1 := Lib.hid hb1
            clear hx hkg hlt hll hB hnc hcm hl hbk hyk hb1
            go_upto_region 19 with fail
            cases b1 with
            | false =>
              have HYS := Lib.hid (HAL.out (of_decide_eq_false HB1.out))
              go_quiet (fail)
              go_wp2_with fail
              go_roundg n
              case measure => omega
              case rel => exact ⟨k + 1, by have := HG.out; omega, nxt k (by have := HNL.out; have := HG.out; omega), by rw [HYS.out]; exact OwnG.step O_wr.out (below_drewN _ _), V_wr.out.step (below_drewN _ _), stepB W_wr.out (below_drewN _ _)⟩
            | true =>
              have HPX := Lib.hid (HAY.out (of_decide_eq_true HB1.out))
              have HST : Hid (putC ((ysA to0 l0 k).flatMap gE ++ sp) (k * 3 + 2) [.string ⟨#[]⟩] = (ysA to0 l0 (k + 1)).flatMap gE ++ sp) := Lib.hid (by rw [← HYN.out]; exact put_atG gE_len HYK.out (aloneE to0 x) 2 [.string ⟨#[]⟩] sp HPX.out (by decide))
              go_quiet (fail)
              obtain ⟨wq, hwq⟩ : ∃ wq, wq = wr.drewN nq := ⟨_, rfl⟩
              have hb : Below wr.heap.size wr wq := by rw [hwq]; exact below_drewN _ _
              rw [← hwq]
              have V_wq := Lib.hid (V_wr.out.step hb)
              have R_wq := Lib.hid (R_wr.out.step hb)
              have W_wq := Lib.hid (stepB W_wr.out hb)
              clear hwq hb kx v0 z0 V_wr R_wr W_wr O_wr
              have v0 := V_wq.out.cell 0 rfl
              go_wp2_with (refine wpList_store_row (by rfl) 9 (.tmp 128) (.const (.string ⟨#[]⟩)) rfl rfl q (k * 3 + 2) 1 rfl _ rfl 32 ((ysA to0 l0 k).flatMap gE ++ sp) [.string ⟨#[]⟩] R_wq.out rfl rfl strSz1 (by have h1 := HCP.out.2.2; have h2 := HCP.out.1; have h3 := ysA_len to0 l0 k; omega) (fun u hu => by simp only [List.mem_cons, List.not_mem_nil, or_false] at hu; subst hu; rfl) ?_; intro ws hM hP hO; have R_ws : Hid (BK 32 ws q ((ysA to0 l0 (k + 1)).flatMap gE ++ sp)) := Lib.hid (by rw [HST.out] at hM; exact hM); have V_ws := Lib.hid (hP.other V_wq.out HNQ.out); have W_ws := Lib.hid (hP.below W_wq.out HBQ.out); clear hM hP hO R_wq V_wq W_wq v0)
              have O_ws := Lib.hid (row_ownG (q := q) (cap := ce) (xs := ysA to0 l0 (k + 1)) (sp := sp) gE_len HBQ.out R_ws.out (by have h2 := HCP.out.1; have h3 := ysA_len to0 l0 k; have h4 := ysA_len to0 l0 (k + 1); omega) HCP.out.2.1 (by have h := HCP.out.2.2; rw [List.length_append, flat_len gE_len, ysA_len] at h ⊢; exact h))
              rw [ysA_len] at O_ws
              go_roundg n
              case measure => omega
              case rel => exact ⟨k + 1, by have := HG.out; omega, nxt k (by have := HNL.out; have := HG.out; omega), O_ws.out, V_ws.out, W_ws.out⟩
          | zero =>
          obtain rfl : k = l0.length := by omega
          have e3 : decide ((l0.length : Int) < (l0.length : Int)) = false := decide_eq_false (by omega)
          have hown := O_wr.out
          rw [ysA_end] at hown
          obtain ⟨A', c', hv, _, hel⟩ := OwnG.ret gE_len hown
          simp only [Value.slice.injEq] at hv
          obtain ⟨hA, hz1, hz2⟩ := hv
          clear hz1 hz2
          subst hA
          have T_wr := Lib.hid (T_wb.out.step W_wr.out)
          have Z_wr := Lib.hid (Z_wb.out.step W_wr.out)
          have B_wr := Lib.hid (stepB B_wb.out W_wr.out)
          have G_wr2 := Lib.hid (GL.step G_wb.out W_wr.out)
          have E_wr := Lib.hid hel
          have z0 := Z_wr.out.cell 0 rfl
          have z1 := Z_wr.out.cell 1 rfl
          have HLV := Lib.hid (S2.run_load_all V_wr.out Tryz.underlying25 rfl rtSize)
          clear hkg hown hel
          go_wp2_with (refine wpList_load_v (by rfl) 25 (.tmp 14) rfl ⟨g14, 0, none⟩ rfl _ HLV.out ?_)
          refine (HR3.out Ae ce wr E_wr.out (LI.step HI.out B_wr.out) (GL.step HP.out B_wr.out) (HO.out.step B_wr.out)).mono ?_
          rintro e w6 ⟨v, rfl, hq, hb⟩
          obtain ⟨Ar, cr, hvq, hcr, hgl⟩ := OwnG.ret gT_len hq
          subst hvq
          have G_w6 := Lib.hid (GL.step G_wr2.out hb)
          have B_w6 := Lib.hid (stepB B_wr.out hb)
          have HGL := Lib.hid hgl
          clear hb hq hcr hgl HLV z0 z1
          obtain ⟨hc2, hc1⟩ := HRA.out
          subst hc2
          have e5 : (C2 != C2) = false := by simp
          rcases hc1 with rfl | rfl
          · go_wp2_with fail
            refine (HX.out w6 (HO.out.step B_w6.out)).mono ?_
            rintro e w8 ⟨rfl, hb⟩
            have B_w8 := Lib.hid (stepB B_w6.out hb)
            clear hb
            go_wp2_with fail
            go_ret
            exact ⟨rfl, B_w8.out⟩
          by_cases h0 : 0 < C1.length
          · have k0 : decide ((0 : Int) < (C1.length : Int)) = true := decide_eq_true (by omega)
            have k0' : decide (0 < C1.length) = true := decide_eq_true h0
            have HEQ := Lib.hid (eqT_allo (c1 := cq) (c2 := cr) G_w6.out HGL.out (by have := HQL.out; omega))
            clear h0
            go_wp2_with fail
            refine HEQ.out.mono ?_
            rintro e w7 ⟨rfl, hb⟩
            have B_w7 := Lib.hid (stepB B_w6.out hb)
            clear hb
            go_wp2_with fail
            refine (HX.out w7 (HO.out.step B_w7.out)).mono ?_
            rintro e w8 ⟨rfl, hb⟩
            have B_w8 := Lib.hid (stepB B_w7.out hb)
            clear hb
            go_wp2_with fail
            go_ret
            exact ⟨rfl, B_w8.out⟩
          · have k0 : decide ((0 : Int) < (C1.length : Int)) = false := decide_eq_false (by omega)
            have k0' : decide (0 < C1.length) = false := decide_eq_false h0
            clear h0
            go_wp2_with fail
            refine (HX.out w6 (HO.out.step B_w6.out)).mono ?_
            rintro e w8 ⟨rfl, hb⟩
            have B_w8 := Lib.hid (stepB B_w6.out hb)
            clear hb
            go_wp2_with fail
            go_ret
            exact ⟨rfl, B_w8.out⟩
end Go.Proofs.YtjkhfifnfgchgabGreatDoor
