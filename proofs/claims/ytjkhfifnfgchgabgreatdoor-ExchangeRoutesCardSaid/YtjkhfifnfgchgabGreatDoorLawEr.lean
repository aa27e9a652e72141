/-
  The law ExchangeRoutes: it answers true. Conditions: the library's bound on short texts holds a number; the lists read as data; lengths fit an int.
-/
import Derived.Test.YtjkhfifnfgchgabGreatDoorEaT
import Derived.Test.YtjkhfifnfgchgabGreatDoorEaN
namespace Go.Proofs.YtjkhfifnfgchgabGreatDoor
open Go.RowKit
open S2 (BK Put get_ops exec_load)

theorem eqT_all {A1 A2 : Option Addr} {c1 c2 B1 B2 : Nat} {xs : List ByteArray} {w : World} (h1 : TL w B1 A1 xs) (h2 : TL w B2 A2 xs) (hb : xs.length ≤ 1000000) :
    Calls Tryz.prog 21 #[.slice A1 xs.length c1, .slice A2 xs.length c2] w fun e w' => e = .returned (.bool true) ∧ Below w.heap.size w w' := by
  by_cases hn : 0 < xs.length
  · exact eqT_same h1 h2 hn hb
  · have h0 : xs.length = 0 := by omega
    rw [h0]
    refine (Tryz.slices_Equal_string_empty A1 A2 c1 0 c2 w (by decide)).mono ?_
    rintro e w' ⟨rfl, rfl⟩
    exact ⟨rfl, Below.refl _ _⟩
theorem VR.noname {l : List Ex} {bs : List Bd} (hv : VR l bs) : getE l ⟨#[]⟩ = none := by
  cases hg : getE l ⟨#[]⟩ with
  | none => rfl
  | some x =>
    have h1 := getE_some hg
    have h2 := hv.ex x h1.2
    have h3 : nameR (⟨#[]⟩ : ByteArray) = false := by kernel_rfl
    unfold exR exE at h2
    rw [h1.1, h3] at h2
    simp at h2
set_option maxRecDepth 20000 in
set_option maxHeartbeats 32000000 in
theorem exchangeRoutes_walk (A0 : Option Addr) (c0 : Nat) (l0 : List Ex) (B0 : Option Addr) (e0 : Nat) (xs0 : List BE) (to0 to1 : ByteArray) (Ap : Option Addr) (cp : Nat) (ps : List PR) (w : World) (ho : S1.Okw w) (h1 : EL w w.heap.size A0 l0) (h2 : BI w w.heap.size B0 xs0) (hc2 : xs0.length ≤ e0) (hz1 : ∀ X ∈ l0, SzX X) (hz2 : ∀ X ∈ xs0, X.d.ml.length ≤ 4398046511104 ∧ SzB X.d)
    (htz : to0.size ≤ 9223372036854775807) (h3 : PL w w.heap.size Ap ps) (hpz : ∀ x ∈ ps, x.1.size ≤ 9223372036854775807) (hnp : ps.length ≤ 4398046511104) :
    Calls Tryz.prog 4 #[rtV A0 l0.length c0 B0 xs0.length e0, .agg #[.string to0, .string to1], .slice Ap ps.length cp] w fun e w' => e = .returned (.bool true) ∧ Below w.heap.size w w' := by
  have HX := Lib.hid (fun w1 h => exHolds_any w1 h)
  have HFW := Lib.hid (fun w1 => few_any A0 l0.length c0 B0 xs0.length e0 w1)
  have HC0 := Lib.hid (fun w1 h1 h2 => rCheck24_any A0 c0 l0 B0 e0 xs0 w1 h1 h2 hc2 (fun X h => (hz2 X h).1) ⟨hz1, fun X h => (hz2 X h).2⟩)
  have HFE : Hid (Few xs0) := Lib.hid (fun X h => (hz2 X h).1)
  have HO := Lib.hid ho
  have HE := Lib.hid h1
  have HI := Lib.hid h2
  have HP := Lib.hid h3
  have HPZ := Lib.hid hpz
  have HNP := Lib.hid hnp
  have HTZ := Lib.hid htz
  have HVV := Lib.hid (@vr_iff l0 (xs0.map BE.d))
  generalize ckR l0 (xs0.map BE.d) = R at HC0 HVV
  generalize fewR l0.length xs0.length = F at HFW
  unfold rtV at HFW HC0 ⊢
  clear ho h1 h2 h3 hpz hnp htz hz1 hz2 hc2
  go_enter Tryz.func4, Tryz.ntmps4
  go_upto_region 1 with fail
  refine name_world (C := fun w1 => Code.wp _ _ _ _ w1) ((w.alloc (.cells [.slice A0 l0.length c0, .slice B0 xs0.length e0].toArray 25)).alloc (.cells [.string to0, .string to1].toArray 44)) ?_
  intro w1 hw1
  obtain ⟨u1, u2, hs0, hB0⟩ := S2.two_laid hw1
  have T_w1 := Lib.hid u1
  have Z_w1 := Lib.hid u2
  have B_w1 := Lib.hid hB0
  clear hw1 u1 u2 hB0 hs0
  have HLT := Lib.hid (S2.run_load_all T_w1.out Tryz.underlying25 rfl rtSize)
  go_wp2_with (refine wpList_load_v (by rfl) 25 (.tmp 3) rfl ⟨w.heap.size, 0, none⟩ rfl _ HLT.out ?_)
  refine (HFW.out w1).mono ?_
  rintro e w2 ⟨rfl, hb⟩
  have T_w2 := Lib.hid (T_w1.out.step hb)
  have Z_w2 := Lib.hid (Z_w1.out.step hb)
  have B_w2 := Lib.hid (stepB B_w1.out hb)
  clear hb HLT T_w1 Z_w1 B_w1 HFW
  cases F with
  | false =>
    go_wp2_with fail
    refine (HX.out w2 (HO.out.step B_w2.out)).mono ?_
    rintro e w3 ⟨rfl, hb⟩
    have B_w3 := Lib.hid (stepB B_w2.out hb)
    clear hb
    go_wp2_with fail
    go_ret
    exact ⟨rfl, B_w3.out⟩
  | true =>
  by_cases h20 : 20 < ps.length
  · have e1 : decide ((20 : Int) < (ps.length : Int)) = true := decide_eq_true (by omega)
    have e1' : decide (20 < ps.length) = true := decide_eq_true h20
    clear h20
    go_wp2_with fail
    refine (HX.out w2 (HO.out.step B_w2.out)).mono ?_
    rintro e w3 ⟨rfl, hb⟩
    have B_w3 := Lib.hid (stepB B_w2.out hb)
    clear hb
    go_wp2_with fail
    go_ret
    exact ⟨rfl, B_w3.out⟩
  have e1 : decide ((20 : Int) < (ps.length : Int)) = false := decide_eq_false (by omega)
  have e1' : decide (20 < ps.length) = false := decide_eq_false h20
  clear h20
  have HLT := Lib.hid (S2.run_load_all T_w2.out Tryz.underlying25 rfl rtSize)
  go_wp2_with (refine wpList_load_v (by rfl) 25 (.tmp 3) rfl ⟨w.heap.size, 0, none⟩ rfl _ HLT.out ?_)
  refine (HC0.out w2 (GL.step HE.out B_w2.out) (LI.step HI.out B_w2.out)).mono ?_
  rintro e w3 ⟨rfl, hb⟩
  have T_w3 := Lib.hid (T_w2.out.step hb)
  have Z_w3 := Lib.hid (Z_w2.out.step hb)
  have B_w3 := Lib.hid (stepB B_w2.out hb)
  clear hb HLT T_w2 Z_w2 B_w2 HC0
  by_cases hR : R = 0
  case neg =>
    have q1 : (R != 0) = true := bne_iff_ne.2 hR
    clear hR
    go_wp2_with fail
    refine (HX.out w3 (HO.out.step B_w3.out)).mono ?_
    rintro e w4 ⟨rfl, hb⟩
    have B_w4 := Lib.hid (stepB B_w3.out hb)
    clear hb
    go_wp2_with fail
    go_ret
    exact ⟨rfl, B_w4.out⟩
  have q1 : (R != 0) = false := by rw [hR]; rfl
  have HV := Lib.hid (HVV.out.1 hR)
  clear hR HVV
  have hnl : l0.length ≤ 32 := HV.out.nl
  have hnb : xs0.length ≤ 256 := by have := HV.out.nb; rwa [List.length_map] at this
  have hql : (routeR l0 (xs0.map BE.d) to0 to1 ps).1.length ≤ 1000 := route_len (by rw [List.length_map]; omega)
  have HR1 := Lib.hid (fun w1 h1 h2 h3 ho => Route2_any A0 c0 l0 B0 e0 xs0 to0 to1 ps Ap cp w1 h1 HV.out.asc HV.out.kinds (by omega) h2 (by omega) h3 ho HNP.out HFE.out)
  have HR2 := Lib.hid (fun w1 h1 h2 h3 ho => rRoute_any A0 c0 l0 B0 e0 xs0 to0 to1 ps Ap cp w1 h1 HV.out.noname (by omega) h2 HFE.out (by omega) h3 ho HNP.out HPZ.out HTZ.out)
  obtain ⟨Q, hQ⟩ : ∃ Q, routeR l0 (xs0.map BE.d) to0 to1 ps = Q := ⟨_, rfl⟩
  rw [hQ] at hql HR1 HR2
  obtain ⟨Q1, Q2⟩ := Q
  have HQL : Hid (Q1.length ≤ 1000) := Lib.hid hql
  unfold rtV at HR1 HR2
  clear hnl hnb hql hQ
  have z0 := Z_w3.out.cell 0 rfl
  have z1 := Z_w3.out.cell 1 rfl
  have HLT := Lib.hid (S2.run_load_all T_w3.out Tryz.underlying25 rfl rtSize)
  go_wp2_with (refine wpList_load_v (by rfl) 25 (.tmp 3) rfl ⟨w.heap.size, 0, none⟩ rfl _ HLT.out ?_)
  refine (HR1.out w3 (GL.step HE.out B_w3.out) (LI.step HI.out B_w3.out) (GL.step HP.out B_w3.out) (HO.out.step B_w3.out)).mono ?_
  rintro e w4 ⟨v, rfl, hq, hb⟩
  obtain ⟨Aq, cq, hvq, hcq, hgl⟩ := OwnG.ret gT_len hq
  subst hvq
  have G_w4 := Lib.hid hgl
  have T_w4 := Lib.hid (T_w3.out.step hb)
  have Z_w4 := Lib.hid (Z_w3.out.step hb)
  have B_w4 := Lib.hid (stepB B_w3.out hb)
  clear hb hq hcq hgl HLT z0 z1 T_w3 Z_w3 B_w3 HR1
  have z0 := Z_w4.out.cell 0 rfl
  have z1 := Z_w4.out.cell 1 rfl
  have HLT := Lib.hid (S2.run_load_all T_w4.out Tryz.underlying25 rfl rtSize)
  go_wp2_with (refine wpList_load_v (by rfl) 25 (.tmp 3) rfl ⟨w.heap.size, 0, none⟩ rfl _ HLT.out ?_)
  refine (HR2.out w4 (GL.step HE.out B_w4.out) (LI.step HI.out B_w4.out) (GL.step HP.out B_w4.out) (HO.out.step B_w4.out)).mono ?_
  rintro e w5 ⟨v, rfl, hq, hb⟩
  obtain ⟨Ar, cr, hvq, hcq, hgl⟩ := OwnG.ret gT_len hq
  subst hvq
  have HEQ := Lib.hid (eqT_all (c1 := cq) (c2 := cr) (GL.step G_w4.out hb) hgl (by have := HQL.out; omega))
  have B_w5 := Lib.hid (stepB B_w4.out hb)
  clear hb hq hcq hgl HLT z0 z1 T_w4 Z_w4 B_w4 G_w4 HR2
  have e5 : (Q2 == Q2) = true := by simp
  go_wp2_with fail
  refine HEQ.out.mono ?_
  rintro e w6 ⟨rfl, hb⟩
  have B_w6 := Lib.hid (stepB B_w5.out hb)
  clear hb HEQ B_w5
  go_wp2_with fail
  refine (HX.out w6 (HO.out.step B_w6.out)).mono ?_
  rintro e w7 ⟨rfl, hb⟩
  have B_w7 := Lib.hid (stepB B_w6.out hb)
  clear hb
  go_wp2_with fail
  go_ret
  exact ⟨rfl, B_w7.out⟩
end Go.Proofs.YtjkhfifnfgchgabGreatDoor
