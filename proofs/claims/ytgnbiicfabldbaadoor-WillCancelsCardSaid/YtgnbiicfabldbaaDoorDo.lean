/-
  The walk of WillCancels. Conditions: the list reads as data; its texts and lists fit a machine; the library's bound on short texts holds a number.
-/
import Derived.Test.YtgnbiicfabldbaaDoorDm
import Derived.Test.YtgnbiicfabldbaaDoorDn
namespace Go.Proofs.YtgnbiicfabldbaaDoor
open Go.RowKit
open S2 (BK Put)

theorem can_other {l : List Du} (cl : ByteArray) (h : ∀ x ∈ l, x.cl ≠ cl) : canR l cl = l ∧ hasR l cl = false ∧ offR l cl = l := by
  have h1 : ∀ x ∈ l, decide (x.cl = cl) = false := fun x hx => decide_eq_false (h x hx)
  refine ⟨?_, ?_, ?_⟩
  · unfold canR
    rw [List.findIdx_eq_length.2 h1]
    exact List.eraseIdx_of_length_le (Nat.le_refl _)
  · unfold hasR
    rw [List.any_eq_false]
    intro x hx
    simpa using h x hx
  · unfold offR
    refine List.filter_eq_self.2 (fun x hx => ?_)
    rw [h1 x hx]; rfl
theorem off_other (l : List Du) (cl : ByteArray) : ∀ x ∈ offR l cl, x.cl ≠ cl := fun x hx => by
  have := (List.mem_filter.1 hx).2
  simpa using this
theorem can_off {l : List Du} (cl : ByteArray) (h : l.Pairwise (fun x y => x.cl ≠ y.cl)) : canR l cl = offR l cl ∧ hasR l cl = decide ((offR l cl).length < l.length) := by
  have hl : ∀ l : List Du, (offR l cl).length ≤ l.length := fun l => List.length_filter_le _ _
  induction l with
  | nil => exact ⟨rfl, rfl⟩
  | cons a l ih =>
    obtain ⟨h1, h2⟩ := List.pairwise_cons.1 h
    obtain ⟨i1, i2⟩ := ih h2
    by_cases e : a.cl = cl
    · obtain ⟨o1, o2, o3⟩ := can_other (l := l) cl (fun x hx he => h1 x hx (by rw [e, he]))
      have e1 : offR (a :: l) cl = l := by
        have : offR (a :: l) cl = offR l cl := by unfold offR; rw [List.filter_cons_of_neg (by simp [e])]
        rw [this, o3]
      rw [e1]
      refine ⟨?_, ?_⟩
      · unfold canR
        rw [List.findIdx_cons]
        simp [e]
      · unfold hasR
        simp [e]
    · have e1 : offR (a :: l) cl = a :: offR l cl := by unfold offR; rw [List.filter_cons_of_pos (by simp [e])]
      rw [e1]
      refine ⟨?_, ?_⟩
      · rw [← i1]
        unfold canR
        rw [List.findIdx_cons]
        simp [e]
      · have : hasR (a :: l) cl = hasR l cl := by unfold hasR; simp [e]
        rw [this, i2]
        simp
theorem valid_apart {l : List Du} (h : ValidD l) : l.Pairwise (fun x y => x.cl ≠ y.cl) := by
  rw [List.pairwise_iff_getElem]
  intro i j hi hj hij
  exact (h j l[j] (List.getElem?_eq_getElem hj)).2.2 i l[i] hij (List.getElem?_eq_getElem hi)

set_option maxRecDepth 20000 in
set_option maxHeartbeats 4000000 in
theorem willCancels_walk18 (A : Option Addr) (c : Nat) (xs : List DE) (cl : ByteArray) (w : World) (hok : S1.Okw w) (sl : DI w w.heap.size A xs) (hz : ∀ x ∈ xs, x.d.m.props.length ≤ 4398046511104) :
    Calls Tryd.prog 5 #[.slice A xs.length c, .string cl] w fun e w' => e = .returned (.bool true) ∧ Below w.heap.size w w' := by
  have HO := Lib.hid hok
  have HS := Lib.hid sl
  have HAW := Lib.hid (fun w1 h => awake18_any w1 h)
  have HLV := Lib.hid (fun w1 h => lvalid_any A c xs w1 h)
  have HT1 := Lib.hid (fun w1 h (hf : xs.length ≤ 60) => wCancel_any A c xs cl w1 h (by omega) hz)
  have HT2 := Lib.hid (fun w1 h (hf : xs.length ≤ 60) => rCancel_any A c xs cl w1 h (by omega))
  have HT3 := Lib.hid (fun A c (zs : List DE) w1 h h2 h3 => wCancel_any A c zs cl w1 h h2 h3)
  have hq : ∀ x ∈ xs.map DE.d, x.m.props.length ≤ 4398046511104 := fun x hx => by
    obtain ⟨y, hy, rfl⟩ := List.mem_map.1 hx
    exact hz y hy
  have HQ := Lib.hid hq
  clear hok sl hz hq
  go_enter Tryd.func5, Tryd.ntmps5
  go_wp2_with fail
  refine (HLV.out w HS.out).mono ?_
  rintro e w2 ⟨b, rfl, hvv, hb⟩
  have HVV := Lib.hid hvv
  have B_w2 := Lib.hid hb
  have O_w2 := Lib.hid (HO.out.step hb)
  clear hb hvv
  cases b with
  | false =>
    clear HVV
    go_wp2_with fail
    refine (HAW.out w2 O_w2.out).mono ?_
    rintro e w3 ⟨rfl, hb⟩
    have B_w3 := Lib.hid (stepB B_w2.out hb)
    clear hb
    go_wp2
    go_ret
    exact ⟨rfl, B_w3.out⟩
  | true =>
    have HVA := Lib.hid (HVV.out.1 rfl)
    clear HVV
    have hlen : xs.length ≤ 60 := by have := HVA.out.1; rwa [List.length_map] at this
    have HLN := Lib.hid hlen
    clear hlen
    obtain ⟨g1, g2⟩ := can_off cl (valid_apart HVA.out.2)
    rw [List.length_map] at g2
    rw [g1, g2] at HT1
    obtain ⟨M, hM⟩ : ∃ M, offR (xs.map DE.d) cl = M := ⟨_, rfl⟩
    obtain ⟨bw, hbw⟩ : ∃ b, decide ((offR (xs.map DE.d) cl).length < xs.length) = b := ⟨_, rfl⟩
    rw [hbw, hM] at HT1 HT2
    have HM : Hid ((∀ x ∈ M, x.m.props.length ≤ 4398046511104) ∧ M.length ≤ 90000 ∧ canR M cl = M ∧ hasR M cl = false) := Lib.hid (by
      rw [← hM]
      obtain ⟨q1, q2, _⟩ := can_other (l := offR (xs.map DE.d) cl) cl (off_other _ cl)
      refine ⟨fun x hx => HQ.out x (List.mem_filter.1 hx).1, ?_, q1, q2⟩
      have := List.length_filter_le (fun x : Du => !decide (x.cl = cl)) (xs.map DE.d)
      rw [List.length_map] at this
      have := HLN.out
      unfold offR; omega)
    clear g1 g2 hM hbw
    go_wp2_with fail
    refine (HT1.out w2 (HS.out.step B_w2.out) HLN.out).mono ?_
    rintro e w3 ⟨v, ys, rfl, hys, hl1, hb⟩
    obtain ⟨A1, c1, rfl, _, hl1⟩ := lstDI hl1
    have Y_w3 := Lib.hid hl1
    have HY := Lib.hid hys
    have B_w3 := Lib.hid (stepB B_w2.out hb)
    have O_w3 := Lib.hid (O_w2.out.step hb)
    clear hb B_w2 O_w2
    clear hl1 hys HT1
    have hyl : ys.length ≤ 90000 ∧ ∀ x ∈ ys, x.d.m.props.length ≤ 4398046511104 := by
      refine ⟨?_, fun x hx => HM.out.1 x.d (by rw [← HY.out]; exact List.mem_map_of_mem hx)⟩
      have h9 := congrArg List.length HY.out
      rw [List.length_map] at h9
      rw [h9]; exact HM.out.2.1
    have CT3 := Lib.hid (fun w1 h => HT3.out A1 c1 ys w1 h hyl.1 hyl.2)
    rw [HY.out, HM.out.2.2.1, HM.out.2.2.2] at CT3
    clear hyl HT3
    go_wp2_with fail
    refine (HT2.out w3 (HS.out.step B_w3.out) HLN.out).mono ?_
    rintro e w4 ⟨A2, c2, zs, rfl, hzs, _, hl2, hb⟩
    have Z_w4 := Lib.hid hl2
    have HZ := Lib.hid hzs
    have B_w4 := Lib.hid (stepB B_w3.out hb)
    have O_w4 := Lib.hid (O_w3.out.step hb)
    have Y_w4 := Lib.hid (LI.step Y_w3.out hb)
    clear hb B_w3 O_w3 Y_w3
    clear hl2 hzs HT2
    go_wp2_with fail
    refine (CT3.out w4 Y_w4.out).mono ?_
    rintro e w5 ⟨v, us, rfl, hus, hl3, hb⟩
    obtain ⟨A3, c3, rfl, _, hl3⟩ := lstDI hl3
    have U_w5 := Lib.hid hl3
    have HU := Lib.hid hus
    have B_w5 := Lib.hid (stepB B_w4.out hb)
    have O_w5 := Lib.hid (O_w4.out.step hb)
    have Y_w5 := Lib.hid (LI.step Y_w4.out hb)
    have Z_w5 := Lib.hid (LI.step Z_w4.out hb)
    clear hb B_w4 O_w4 Y_w4 Z_w4
    clear hl3 hus CT3
    have CS1 := Lib.hid (fun w1 h1 h2 => same_trueD A1 c1 ys A2 c2 zs w1 M HY.out HZ.out h1 h2 (by have := HM.out.2.1; omega) HM.out.1)
    have CS2 := Lib.hid (fun w1 h1 h2 => same_trueD A3 c3 us A2 c2 zs w1 M HU.out HZ.out h1 h2 (by have := HM.out.2.1; omega) HM.out.1)
    cases bw with
    | false =>
        go_wp2_with fail
        refine (HAW.out w5 O_w5.out).mono ?_
        rintro e w6 ⟨rfl, hb⟩
        have B_w6 := Lib.hid (stepB B_w5.out hb)
        have O_w6 := Lib.hid (O_w5.out.step hb)
        have Y_w6 := Lib.hid (LI.step Y_w5.out hb)
        have Z_w6 := Lib.hid (LI.step Z_w5.out hb)
        have U_w6 := Lib.hid (LI.step U_w5.out hb)
        clear hb B_w5 O_w5 Y_w5 Z_w5 U_w5
        go_wp2_with fail
        refine (CS1.out w6 Y_w6.out Z_w6.out).mono ?_
        rintro e w7 ⟨rfl, hb⟩
        have B_w7 := Lib.hid (stepB B_w6.out hb)
        have Z_w7 := Lib.hid (LI.step Z_w6.out hb)
        have U_w7 := Lib.hid (LI.step U_w6.out hb)
        clear hb B_w6 Z_w6 U_w6
        go_wp2_with fail
        refine (CS2.out w7 U_w7.out Z_w7.out).mono ?_
        rintro e w8 ⟨rfl, hb⟩
        have B_w8 := Lib.hid (stepB B_w7.out hb)
        clear hb B_w7
        go_wp2
        go_ret
        exact ⟨rfl, B_w8.out⟩
    | true =>
        go_wp2_with fail
        refine (HAW.out w5 O_w5.out).mono ?_
        rintro e w6 ⟨rfl, hb⟩
        have B_w6 := Lib.hid (stepB B_w5.out hb)
        have O_w6 := Lib.hid (O_w5.out.step hb)
        have Y_w6 := Lib.hid (LI.step Y_w5.out hb)
        have Z_w6 := Lib.hid (LI.step Z_w5.out hb)
        have U_w6 := Lib.hid (LI.step U_w5.out hb)
        clear hb B_w5 O_w5 Y_w5 Z_w5 U_w5
        go_wp2_with fail
        refine (CS1.out w6 Y_w6.out Z_w6.out).mono ?_
        rintro e w7 ⟨rfl, hb⟩
        have B_w7 := Lib.hid (stepB B_w6.out hb)
        have Z_w7 := Lib.hid (LI.step Z_w6.out hb)
        have U_w7 := Lib.hid (LI.step U_w6.out hb)
        clear hb B_w6 Z_w6 U_w6
        go_wp2_with fail
        refine (CS2.out w7 U_w7.out Z_w7.out).mono ?_
        rintro e w8 ⟨rfl, hb⟩
        have B_w8 := Lib.hid (stepB B_w7.out hb)
        clear hb B_w7
        go_wp2
        go_ret
        exact ⟨rfl, B_w8.out⟩
end Go.Proofs.YtgnbiicfabldbaaDoor
