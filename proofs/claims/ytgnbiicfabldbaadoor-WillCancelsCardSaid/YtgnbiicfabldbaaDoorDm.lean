/-
  The walk of WillTakes. Conditions: the list reads as data; its texts and lists fit a machine; the library's bound on short texts holds a number.
-/
import Derived.Test.YtgnbiicfabldbaaDoorDk
namespace Go.Proofs.YtgnbiicfabldbaaDoor
open Go.RowKit
open S2 (BK Put)

theorem bef_le {x y : Du} (h : befR x y = true) : x.tm ≤ y.tm := by
  unfold befR at h
  simp only [Bool.or_eq_true, Bool.and_eq_true, decide_eq_true_eq] at h
  rcases h with h | ⟨h, _⟩ <;> omega
theorem valid_asc {l : List Du} (h : ValidD l) : AscD l := fun i j x y hx hy hij => by
  obtain ⟨n, rfl⟩ : ∃ n, j = i + 1 + n := ⟨j - i - 1, by omega⟩
  clear hij
  induction n generalizing y with
  | zero => exact (h _ y hy).2.1 i x rfl hx
  | succ n ih =>
    obtain ⟨z, hz⟩ : ∃ z, l[i + 1 + n]? = some z := ⟨_, List.getElem?_eq_getElem (by have := (List.getElem?_eq_some_iff.1 hy).1; omega)⟩
    exact bef_trans (ih z hz) ((h _ y hy).2.1 (i + 1 + n) z (by omega) hz)
theorem cut_due {l : List Du} {now : Int} {i : Nat} (hv : ValidD l) (hc : Cut l now i) : dueR now l = l.take i ∧ laterR now l = l.drop i := by
  have h2 : ∀ k x, i ≤ k → l[k]? = some x → now < x.tm := fun k x hk hx => by
    obtain ⟨z, hz⟩ : ∃ z, l[i]? = some z := ⟨_, List.getElem?_eq_getElem (by have := (List.getElem?_eq_some_iff.1 hx).1; omega)⟩
    have h3 := hc.later z hz
    by_cases e : k = i
    · subst e; rw [hz] at hx; rw [← Option.some.inj hx]; exact h3
    · have := bef_le (valid_asc hv i k z x hz hx (by omega)); omega
  have e1 : dueR now l = l.take i := filter_pre _ l i hc.le (fun k x hk hx => decide_eq_true (hc.due k x hk hx)) (fun k x hk hx => decide_eq_false (by have := h2 k x hk hx; omega))
  refine ⟨e1, ?_⟩
  unfold laterR
  conv => lhs; rw [← List.take_append_drop i l]
  rw [List.filter_append]
  have f1 : (l.take i).filter (fun x => !decide (x.tm ≤ now)) = [] := List.filter_eq_nil_iff.2 (fun x hx => by
    obtain ⟨k, hk⟩ := List.mem_iff_getElem?.1 hx
    rw [List.getElem?_take] at hk
    split at hk
    · next hki => have := hc.due k x hki hk; simp; omega
    · cases hk)
  have f2 : (l.drop i).filter (fun x => !decide (x.tm ≤ now)) = l.drop i := List.filter_eq_self.2 (fun x hx => by
    obtain ⟨k, hk⟩ := List.mem_iff_getElem?.1 hx
    rw [List.getElem?_drop] at hk
    have := h2 (i + k) x (by omega) hk
    simp; omega)
  rw [f1, f2, List.nil_append]
theorem same_trueD (A : Option Addr) (c : Nat) (ys : List DE) (A' : Option Addr) (c' : Nat) (zs : List DE) (w : World) (L : List Du) (hy : ys.map DE.d = L) (hz : zs.map DE.d = L) (h1 : DI w w.heap.size A ys) (h2 : DI w w.heap.size A' zs) (hl : L.length ≤ 100000) (hL : ∀ x ∈ L, x.m.props.length ≤ 4398046511104) :
    Calls Tryd.prog 16 #[.slice A ys.length c, .slice A' zs.length c'] w fun e w' => e = .returned (.bool true) ∧ Below w.heap.size w w' := by
  have := rSameD_any A c ys A' c' zs w h1 h2 (by have h9 := congrArg List.length hy; rw [List.length_map] at h9; omega) (fun x hx => hL x.d (by rw [← hy]; exact List.mem_map_of_mem hx))
  rwa [decide_eq_true (by rw [hy, hz])] at this

set_option maxRecDepth 20000 in
set_option maxHeartbeats 4000000 in
theorem willTakes_walk18 (A : Option Addr) (c : Nat) (xs : List DE) (now : Int) (w : World) (hok : S1.Okw w) (sl : DI w w.heap.size A xs) (hc : xs.length ≤ c) (hz : ∀ x ∈ xs, x.d.m.props.length ≤ 4398046511104) :
    Calls Tryd.prog 6 #[.slice A xs.length c, .int .i64 now] w fun e w' => e = .returned (.bool true) ∧ Below w.heap.size w w' := by
  have HO := Lib.hid hok
  have HS := Lib.hid sl
  have HAW := Lib.hid (fun w1 h => awake18_any w1 h)
  have HLV := Lib.hid (fun w1 h => lvalid_any A c xs w1 h)
  have HIN := Lib.hid (fun w1 => instant_any now w1)
  have HT1 := Lib.hid (fun w1 h (hf : xs.length ≤ 60) => wTake_any A c xs now w1 h (by omega) hz)
  have HT2 := Lib.hid (fun w1 h (hf : xs.length ≤ 60) => rTake_any A c xs now w1 h hc (by omega))
  have HNX := Lib.hid (fun A c (zs : List DE) w1 h => next_any A c zs w1 h)
  have hq : ∀ x ∈ xs.map DE.d, x.m.props.length ≤ 4398046511104 := fun x hx => by
    obtain ⟨y, hy, rfl⟩ := List.mem_map.1 hx
    exact hz y hy
  have HQ := Lib.hid hq
  obtain ⟨bI, hbI⟩ : ∃ b, (decide (0 ≤ now) && decide (now ≤ 1099511627776)) = b := ⟨_, rfl⟩
  rw [hbI] at HIN
  clear hok sl hc hz hq hbI
  go_enter Tryd.func6, Tryd.ntmps6
  go_wp2_with fail
  refine (HLV.out w HS.out).mono ?_
  rintro e w2 ⟨b, rfl, hvv, hb⟩
  have HVV := Lib.hid hvv
  have B_w2 := Lib.hid hb
  have O_w2 := Lib.hid (HO.out.step hb)
  clear hb hvv
  cases b with
  | false =>
    clear HVV
    go_wp2_with fail
    refine (HAW.out w2 O_w2.out).mono ?_
    rintro e w3 ⟨rfl, hb⟩
    have B_w3 := Lib.hid (stepB B_w2.out hb)
    clear hb
    go_wp2
    go_ret
    exact ⟨rfl, B_w3.out⟩
  | true =>
    have HVA := Lib.hid (HVV.out.1 rfl)
    clear HVV
    go_wp2_with fail
    refine (HIN.out w2).mono ?_
    rintro e w3 ⟨rfl, hb⟩
    have B_w3 := Lib.hid (stepB B_w2.out hb)
    have O_w3 := Lib.hid (O_w2.out.step hb)
    clear hb B_w2 O_w2
    cases bI with
    | false =>
      go_wp2_with fail
      refine (HAW.out w3 O_w3.out).mono ?_
      rintro e w4 ⟨rfl, hb⟩
      have B_w4 := Lib.hid (stepB B_w3.out hb)
      clear hb
      go_wp2
      go_ret
      exact ⟨rfl, B_w4.out⟩
    | true =>
      have hlen : xs.length ≤ 60 := by have := HVA.out.1; rwa [List.length_map] at this
      have HLN := Lib.hid hlen
      clear hlen
      go_wp2_with fail
      refine (HT1.out w3 (HS.out.step B_w3.out) HLN.out).mono ?_
      rintro e w4 ⟨A1, c1, ys, A2, c2, zs, rfl, hys, hzs, _, _, hl1, hl2, hb⟩
      have Y_w4 := Lib.hid hl1
      have Z_w4 := Lib.hid hl2
      have HY := Lib.hid (And.intro hys hzs)
      have B_w4 := Lib.hid (stepB B_w3.out hb)
      have O_w4 := Lib.hid (O_w3.out.step hb)
      clear hb B_w3 O_w3
      clear hl1 hl2 hys hzs HT1
      go_wp2_with fail
      refine (HT2.out w4 (HS.out.step B_w4.out) HLN.out).mono ?_
      rintro e w5 ⟨i, hcut, A3, c3, us, A4, c4, vs, rfl, hus, hvs, _, _, hl1, hl2, hb⟩
      obtain ⟨g1, g2⟩ := cut_due HVA.out.2 hcut
      rw [← g1] at hus
      rw [← g2] at hvs
      have U_w5 := Lib.hid hl1
      have W_w5 := Lib.hid hl2
      have HU := Lib.hid (And.intro hus hvs)
      have B_w5 := Lib.hid (stepB B_w4.out hb)
      have O_w5 := Lib.hid (O_w4.out.step hb)
      have Y_w5 := Lib.hid (LI.step Y_w4.out hb)
      have Z_w5 := Lib.hid (LI.step Z_w4.out hb)
      clear hb B_w4 O_w4 Y_w4 Z_w4
      clear hl1 hl2 hus hvs hcut g1 g2 HT2
      obtain ⟨L1, hL1⟩ : ∃ L, dueR now (xs.map DE.d) = L := ⟨_, rfl⟩
      obtain ⟨L2, hL2⟩ : ∃ L, laterR now (xs.map DE.d) = L := ⟨_, rfl⟩
      have HK1 : Hid ((∀ x ∈ L1, x.m.props.length ≤ 4398046511104) ∧ L1.length ≤ 100000) := Lib.hid (by
        rw [← hL1]
        refine ⟨fun x hx => HQ.out x (List.mem_filter.1 hx).1, ?_⟩
        have := List.length_filter_le (fun x : Du => decide (x.tm ≤ now)) (xs.map DE.d)
        rw [List.length_map] at this
        have := HLN.out
        unfold dueR; omega)
      have HK2 : Hid ((∀ x ∈ L2, x.m.props.length ≤ 4398046511104 ∧ now < x.tm) ∧ L2.length ≤ 100000) := Lib.hid (by
        rw [← hL2]
        refine ⟨fun x hx => ⟨HQ.out x (List.mem_filter.1 hx).1, by have := (List.mem_filter.1 hx).2; simp at this; omega⟩, ?_⟩
        have := List.length_filter_le (fun x : Du => !decide (x.tm ≤ now)) (xs.map DE.d)
        rw [List.length_map] at this
        have := HLN.out
        unfold laterR; omega)
      rw [hL1, hL2] at HY HU
      clear hL1 hL2
      have CN := Lib.hid (HNX.out A2 c2 zs w5 Z_w5.out)
      rw [HY.out.2] at CN
      obtain ⟨tm, ok, hN⟩ : ∃ tm ok, nextD L2 = (tm, ok) := ⟨_, _, rfl⟩
      rw [hN] at CN
      dsimp only at CN
      obtain ⟨nv, hnv⟩ : ∃ n, n = vs.length := ⟨_, rfl⟩
      have HNV := Lib.hid hnv
      have hnl : nv = L2.length := by rw [hnv, ← HU.out.2, List.length_map]
      have CS1 := Lib.hid (fun w1 h1 h2 => same_trueD A1 c1 ys A3 c3 us w1 L1 HY.out.1 HU.out.1 h1 h2 HK1.out.2 HK1.out.1)
      have CS2 := Lib.hid (fun w1 h1 h2 => same_trueD A2 c2 zs A4 c4 vs w1 L2 HY.out.2 HU.out.2 h1 h2 HK2.out.2 (fun x hx => (HK2.out.1 x hx).1))
      rw [← hnv] at CS2 ⊢
      clear hnv
      rcases L2 with _ | ⟨x0, L3⟩
      · simp only [nextD, Prod.mk.injEq] at hN
        obtain ⟨rfl, rfl⟩ := hN
        simp only [List.length_nil] at hnl
        have n1 : decide ((0 : Int) < (nv : Int)) = false := decide_eq_false (by omega)
        have n2 : decide (0 < nv) = false := decide_eq_false (by omega)
        clear hnl
        obtain ⟨v1, hv1⟩ : ∃ v, Value.int .i64 0 = v := ⟨_, rfl⟩
        rw [hv1] at CN
        have HV1 := Lib.hid hv1
        clear hv1
        go_wp2_with fail
        refine CN.out.mono ?_
        rintro e w6 ⟨rfl, hb⟩
        have B_w6 := Lib.hid (stepB B_w5.out hb)
        have O_w6 := Lib.hid (O_w5.out.step hb)
        have Y_w6 := Lib.hid (LI.step Y_w5.out hb)
        have Z_w6 := Lib.hid (LI.step Z_w5.out hb)
        have U_w6 := Lib.hid (LI.step U_w5.out hb)
        have W_w6 := Lib.hid (LI.step W_w5.out hb)
        clear hb B_w5 O_w5 Y_w5 Z_w5 U_w5 W_w5
        go_wp2_with fail
        refine (HAW.out w6 O_w6.out).mono ?_
        rintro e w7 ⟨rfl, hb⟩
        have B_w7 := Lib.hid (stepB B_w6.out hb)
        have O_w7 := Lib.hid (O_w6.out.step hb)
        have Y_w7 := Lib.hid (LI.step Y_w6.out hb)
        have Z_w7 := Lib.hid (LI.step Z_w6.out hb)
        have U_w7 := Lib.hid (LI.step U_w6.out hb)
        have W_w7 := Lib.hid (LI.step W_w6.out hb)
        clear hb B_w6 O_w6 Y_w6 Z_w6 U_w6 W_w6
        go_wp2_with fail
        refine (CS1.out w7 Y_w7.out U_w7.out).mono ?_
        rintro e w8 ⟨rfl, hb⟩
        have B_w8 := Lib.hid (stepB B_w7.out hb)
        have Z_w8 := Lib.hid (LI.step Z_w7.out hb)
        have W_w8 := Lib.hid (LI.step W_w7.out hb)
        clear hb B_w7 Z_w7 W_w7
        go_wp2_with fail
        refine (CS2.out w8 Z_w8.out W_w8.out).mono ?_
        rintro e w9 ⟨rfl, hb⟩
        have B_w9 := Lib.hid (stepB B_w8.out hb)
        clear hb B_w8
        obtain rfl := HV1.out
        go_wp2
        go_ret
        exact ⟨rfl, B_w9.out⟩
      · simp only [nextD, Prod.mk.injEq] at hN
        obtain ⟨rfl, rfl⟩ := hN
        simp only [List.length_cons] at hnl
        have n1 : decide ((0 : Int) < (nv : Int)) = true := decide_eq_true (by omega)
        have n2 : decide (0 < nv) = true := decide_eq_true (by omega)
        have hgt : now < x0.tm := (HK2.out.1 x0 (by simp)).2
        have n3 : decide (now < x0.tm) = true := decide_eq_true hgt
        clear hnl hgt
        obtain ⟨v1, hv1⟩ : ∃ v, Value.int .i64 x0.tm = v := ⟨_, rfl⟩
        rw [hv1] at CN
        have HV1 := Lib.hid hv1
        clear hv1
        go_wp2_with fail
        refine CN.out.mono ?_
        rintro e w6 ⟨rfl, hb⟩
        have B_w6 := Lib.hid (stepB B_w5.out hb)
        have O_w6 := Lib.hid (O_w5.out.step hb)
        have Y_w6 := Lib.hid (LI.step Y_w5.out hb)
        have Z_w6 := Lib.hid (LI.step Z_w5.out hb)
        have U_w6 := Lib.hid (LI.step U_w5.out hb)
        have W_w6 := Lib.hid (LI.step W_w5.out hb)
        clear hb B_w5 O_w5 Y_w5 Z_w5 U_w5 W_w5
        go_wp2_with fail
        refine (HAW.out w6 O_w6.out).mono ?_
        rintro e w7 ⟨rfl, hb⟩
        have B_w7 := Lib.hid (stepB B_w6.out hb)
        have O_w7 := Lib.hid (O_w6.out.step hb)
        have Y_w7 := Lib.hid (LI.step Y_w6.out hb)
        have Z_w7 := Lib.hid (LI.step Z_w6.out hb)
        have U_w7 := Lib.hid (LI.step U_w6.out hb)
        have W_w7 := Lib.hid (LI.step W_w6.out hb)
        clear hb B_w6 O_w6 Y_w6 Z_w6 U_w6 W_w6
        go_wp2_with fail
        refine (CS1.out w7 Y_w7.out U_w7.out).mono ?_
        rintro e w8 ⟨rfl, hb⟩
        have B_w8 := Lib.hid (stepB B_w7.out hb)
        have Z_w8 := Lib.hid (LI.step Z_w7.out hb)
        have W_w8 := Lib.hid (LI.step W_w7.out hb)
        clear hb B_w7 Z_w7 W_w7
        go_wp2_with fail
        refine (CS2.out w8 Z_w8.out W_w8.out).mono ?_
        rintro e w9 ⟨rfl, hb⟩
        have B_w9 := Lib.hid (stepB B_w8.out hb)
        clear hb B_w8
        obtain rfl := HV1.out
        go_wp2
        go_ret
        exact ⟨rfl, B_w9.out⟩
end Go.Proofs.YtgnbiicfabldbaaDoor
