/-
  What Check of access and of its specification answer. Conditions: the list reads as data; lengths fit a machine; the library's bound on short texts holds a number.
-/
import Derived.Test.YtoakhkiiefiebaaDoorAcA
namespace Go.Proofs.YtoakhkiiefiebaaDoor.S1
open Go.RowKit
open S2 (BK Put)

/-- up to index k no rule has an error -/
def OkTo (l : List Rl) (k : Nat) : Prop := ∀ j y, j < k → l[j]? = some y → ruleE y = 0
theorem OkTo.zero (l : List Rl) : OkTo l 0 := fun j _ h => absurd h (Nat.not_lt_zero j)
theorem OkTo.succ {l : List Rl} {k : Nat} {x : Rl} (h : OkTo l k) (hx : l[k]? = some x) (he : ruleE x = 0) : OkTo l (k + 1) := fun j y hj hy => by
  rcases Nat.lt_or_ge j k with h1 | h1
  · exact h j y h1 hy
  · obtain rfl : j = k := by omega
    rw [hx] at hy
    rw [← Option.some.inj hy]; exact he
theorem chk_bad {l : List Rl} {k : Nat} {x : Rl} (hl : ¬ 32 < l.length) (h : OkTo l k) (hx : l[k]? = some x) {n : Int} (he : ruleE x = n) (hn : n ≠ 0) : chkR l = n := by
  unfold chkR
  rw [if_neg hl, chkL_at h hx (by rw [he]; exact hn), he]
theorem chk_ok {l : List Rl} (hl : ¬ 32 < l.length) (h : OkTo l l.length) : chkR l = 0 := by
  unfold chkR
  rw [if_neg hl, chkL_all h]
theorem ruleE_name {x : Rl} (h1 : x.us ≠ starB) (h2 : T.nameL (dl x.us) = false) : ruleE x = 11 := by
  unfold ruleE
  rw [decide_eq_false h1, h2]; rfl
theorem ruleE_kind {x : Rl} (h1 : x.us = starB ∨ T.nameL (dl x.us) = true) (h2 : x.ac < 0 ∨ 4 < x.ac) : ruleE x = 10 := by
  unfold ruleE
  rw [if_neg (by rcases h1 with h | h <;> simp [h]), if_pos h2]
theorem ruleE_fil {x : Rl} (h1 : x.us = starB ∨ T.nameL (dl x.us) = true) (h2 : ¬ (x.ac < 0 ∨ 4 < x.ac)) : ruleE x = if T.filterL (dl x.fi) = true then 0 else 13 := by
  unfold ruleE
  rw [if_neg (by rcases h1 with h | h <;> simp [h]), if_neg h2]
  cases T.filterL (dl x.fi) <;> rfl

theorem cells4 {w : World} {g : Nat} {al : Bool} {us : ByteArray} {ac : Int} {fi : ByteArray} (h : BK 42 w g (gR ⟨al, us, ac, fi⟩)) :
    w.cell? ⟨g, 0, none⟩ = some (.bool al) ∧ w.cell? ⟨g, 1, none⟩ = some (.string us) ∧ w.cell? ⟨g, 2, none⟩ = some (.int .i64 ac) ∧ w.cell? ⟨g, 3, none⟩ = some (.string fi) := ⟨h.cell 0 rfl, h.cell 1 rfl, h.cell 2 rfl, h.cell 3 rfl⟩

set_option maxRecDepth 20000 in
set_option maxHeartbeats 8000000 in
theorem check_any (A : Option Addr) (c : Nat) (xs : List Rl) (w : World) (hw : Okw w) (h : RL w w.heap.size A xs) (hn : xs.length ≤ 140737488355328) :
    Calls Tryd.prog 12 #[.slice A xs.length c] w fun e w' => e = .returned (.int .i64 (chkR xs)) ∧ Below w.heap.size w w' := by
  by_cases h32 : 32 < xs.length
  · have e1 : decide ((32 : Int) < (xs.length : Int)) = true := decide_eq_true (by omega)
    have HR : Hid (chkR xs = 5) := Lib.hid (by unfold chkR; rw [if_pos h32])
    clear h hw h32 hn
    go_enter Tryd.func12, Tryd.ntmps12
    go_wp2
    go_ret
    exact ⟨by rw [HR.out]; rfl, Below.refl _ _⟩
  have e1 : decide ((32 : Int) < (xs.length : Int)) = false := decide_eq_false (by omega)
  have HS := Lib.hid h
  have H32 := Lib.hid h32
  have HO := Lib.hid hw
  have HN := Lib.hid (fun x (w1 : World) => tName_dl x w1)
  have HF := Lib.hid (fun x w1 h => tFilter_any x w1 h)
  clear h hw h32
  go_enter Tryd.func12, Tryd.ntmps12
  go_wp2
  go_loopg [10] xs.length (fun g v wr => ∃ k : Nat, k + g = xs.length ∧ v = .int .i64 k ∧ OkTo xs k ∧ Below w.heap.size w wr)
  case atStart => exact ⟨0, by omega, rfl, OkTo.zero _, Below.refl _ _⟩
  case round =>
    obtain ⟨k, hkg, rfl, hok, hb0⟩ := hrel
    have HK := Lib.hid hok
    have HB0 := Lib.hid hb0
    have HG := Lib.hid hkg
    clear hok hb0
    cases gk with
    | zero =>
      obtain rfl : k = xs.length := by omega
      have HR := Lib.hid (chk_ok H32.out HK.out)
      clear hkg
      go_wp2
      go_ret
      exact ⟨by rw [HR.out]; rfl, HB0.out⟩
    | succ gk =>
      have hlt : k < xs.length := by omega
      have e3 : decide ((k : Int) < (xs.length : Int)) = true := decide_eq_true (by omega)
      obtain ⟨x, hx⟩ : ∃ x, xs[k]? = some x := ⟨_, List.getElem?_eq_getElem hlt⟩
      obtain ⟨b, o, hA, hbB, hc⟩ := RL.at_ (GL.step HS.out HB0.out) hx
      have HLD := Lib.hid (load_rule hc)
      have HX := Lib.hid hx
      subst hA
      have j1 : (0 : Int) ≤ (k : Int) := by omega
      have j2 : (k : Int) < (xs.length : Int) := by omega
      clear hx hc hbB hkg
      have HOr := Lib.hid (HO.out.step HB0.out)
      have HBn := Lib.hid (fun n r hn2 => @chk_bad xs k x H32.out HK.out HX.out n r hn2)
      have HSu := Lib.hid (fun r => @OkTo.succ xs k x HK.out HX.out r)
      obtain ⟨al, us, ac, fi⟩ := x
      have HNa := Lib.hid (@ruleE_name ⟨al, us, ac, fi⟩)
      have HKi := Lib.hid (@ruleE_kind ⟨al, us, ac, fi⟩)
      have HFi := Lib.hid (@ruleE_fil ⟨al, us, ac, fi⟩)
      have HN1 := Lib.hid (HN.out us)
      have HF1 := Lib.hid (HF.out fi)
      obtain ⟨bN, hbN⟩ : ∃ z, T.nameL (dl us) = z := ⟨_, rfl⟩
      obtain ⟨bF, hbF⟩ : ∃ z, T.filterL (dl fi) = z := ⟨_, rfl⟩
      have HbN := Lib.hid hbN
      have HbF := Lib.hid hbF
      rw [hbN] at HN1
      rw [hbF] at HF1
      have q1 : (us.toList == [42]) = decide (us = starB) := eqC us [42]
      obtain ⟨b1, hb1⟩ : ∃ z, decide (us = starB) = z := ⟨_, rfl⟩
      have Hb1 := Lib.hid hb1
      rw [hb1] at q1
      clear hbN hbF hb1
      cases b1 with
      | true =>
        have HU : Hid (us = starB ∨ T.nameL (dl us) = true) := Lib.hid (.inl (of_decide_eq_true Hb1.out))
        by_cases hac : ac < 0 ∨ 4 < ac
        · have HE := Lib.hid (HBn.out _ (HKi.out HU.out hac) (by decide))
          rcases hac with hac | hac
          · have e5 : decide (ac < 0) = true := decide_eq_true hac
            clear hac
            go_wp2_with first
              | (refine wpList_load_v (by rfl) 42 _ rfl ⟨b, o + k * 4, none⟩ (by go_simp) _ HLD.out ?_)
              | (refine S2.wpList_store_all (by rfl) 42 (.tmp 4) (.tmp 13) rfl rfl wr.heap.size rfl (gR ⟨al, us, ac, fi⟩) rfl 42 _ (BK.new wr _ _) ruleSize rfl (gR_one _) ?_; intro w2 hM hP; have V_w2 := Lib.hid hM; have hb := hP.below (S2.below_new wr _) (Nat.le_refl _); have B_w2 := Lib.hid (stepB HB0.out hb); have O_w2 := Lib.hid (HOr.out.step hb); obtain ⟨z0, z1, z2, z3⟩ := cells4 V_w2.out; clear hM hP hb HB0 HOr)
            go_ret
            exact ⟨by rw [HE.out]; rfl, B_w2.out⟩
          · have e5 : decide (ac < 0) = false := decide_eq_false (by omega)
            have e6 : decide (4 < ac) = true := decide_eq_true hac
            clear hac
            go_wp2_with first
              | (refine wpList_load_v (by rfl) 42 _ rfl ⟨b, o + k * 4, none⟩ (by go_simp) _ HLD.out ?_)
              | (refine S2.wpList_store_all (by rfl) 42 (.tmp 4) (.tmp 13) rfl rfl wr.heap.size rfl (gR ⟨al, us, ac, fi⟩) rfl 42 _ (BK.new wr _ _) ruleSize rfl (gR_one _) ?_; intro w2 hM hP; have V_w2 := Lib.hid hM; have hb := hP.below (S2.below_new wr _) (Nat.le_refl _); have B_w2 := Lib.hid (stepB HB0.out hb); have O_w2 := Lib.hid (HOr.out.step hb); obtain ⟨z0, z1, z2, z3⟩ := cells4 V_w2.out; clear hM hP hb HB0 HOr)
            go_ret
            exact ⟨by rw [HE.out]; rfl, B_w2.out⟩
        · have HE := Lib.hid (HFi.out HU.out hac)
          have e5 : decide (ac < 0) = false := decide_eq_false (by omega)
          have e6 : decide (4 < ac) = false := decide_eq_false (by omega)
          clear hac
          rw [HbF.out] at HE
          go_wp2_with first
            | (refine wpList_load_v (by rfl) 42 _ rfl ⟨b, o + k * 4, none⟩ (by go_simp) _ HLD.out ?_)
            | (refine S2.wpList_store_all (by rfl) 42 (.tmp 4) (.tmp 13) rfl rfl wr.heap.size rfl (gR ⟨al, us, ac, fi⟩) rfl 42 _ (BK.new wr _ _) ruleSize rfl (gR_one _) ?_; intro w2 hM hP; have V_w2 := Lib.hid hM; have hb := hP.below (S2.below_new wr _) (Nat.le_refl _); have B_w2 := Lib.hid (stepB HB0.out hb); have O_w2 := Lib.hid (HOr.out.step hb); obtain ⟨z0, z1, z2, z3⟩ := cells4 V_w2.out; clear hM hP hb HB0 HOr)
          refine (HF1.out w2 O_w2.out).mono ?_
          rintro e w8 ⟨rfl, hb⟩
          have B_w8 := Lib.hid (stepB B_w2.out hb)
          clear hb
          cases bF with
          | false =>
            have HE2 := Lib.hid (HBn.out _ HE.out (by decide))
            go_wp2
            go_ret
            exact ⟨by rw [HE2.out]; rfl, B_w8.out⟩
          | true =>
            have HS2 := Lib.hid (HSu.out HE.out)
            go_wp2
            go_roundg gk
            case measure => omega
            case rel => exact ⟨k + 1, by have := HG.out; omega, by go_num, HS2.out, B_w8.out⟩
      | false =>
        go_wp2_with first
          | (refine wpList_load_v (by rfl) 42 _ rfl ⟨b, o + k * 4, none⟩ (by go_simp) _ HLD.out ?_)
          | (refine S2.wpList_store_all (by rfl) 42 (.tmp 4) (.tmp 13) rfl rfl wr.heap.size rfl (gR ⟨al, us, ac, fi⟩) rfl 42 _ (BK.new wr _ _) ruleSize rfl (gR_one _) ?_; intro w2 hM hP; have V_w2 := Lib.hid hM; have hb := hP.below (S2.below_new wr _) (Nat.le_refl _); have B_w2 := Lib.hid (stepB HB0.out hb); have O_w2 := Lib.hid (HOr.out.step hb); obtain ⟨z0, z1, z2, z3⟩ := cells4 V_w2.out; clear hM hP hb HB0 HOr)
        refine (HN1.out w2).mono ?_
        rintro e w3 ⟨rfl, hb⟩
        have V_w3 := Lib.hid (V_w2.out.step hb)
        have O_w3 := Lib.hid (O_w2.out.step hb)
        clear z0 z1 z2 z3
        have B_w3 := Lib.hid (stepB B_w2.out hb)
        clear hb
        obtain ⟨z0, z1, z2, z3⟩ := cells4 V_w3.out
        cases bN with
        | false =>
          have HE := Lib.hid (HBn.out _ (HNa.out (of_decide_eq_false Hb1.out) HbN.out) (by decide))
          go_wp2
          go_ret
          exact ⟨by rw [HE.out]; rfl, B_w3.out⟩
        | true =>
          have HU : Hid (us = starB ∨ T.nameL (dl us) = true) := Lib.hid (.inr HbN.out)
          by_cases hac : ac < 0 ∨ 4 < ac
          · have HE := Lib.hid (HBn.out _ (HKi.out HU.out hac) (by decide))
            rcases hac with hac | hac
            · have e5 : decide (ac < 0) = true := decide_eq_true hac
              clear hac
              go_wp2_with fail
              go_ret
              exact ⟨by rw [HE.out]; rfl, B_w3.out⟩
            · have e5 : decide (ac < 0) = false := decide_eq_false (by omega)
              have e6 : decide (4 < ac) = true := decide_eq_true hac
              clear hac
              go_wp2_with fail
              go_ret
              exact ⟨by rw [HE.out]; rfl, B_w3.out⟩
          · have HE := Lib.hid (HFi.out HU.out hac)
            have e5 : decide (ac < 0) = false := decide_eq_false (by omega)
            have e6 : decide (4 < ac) = false := decide_eq_false (by omega)
            clear hac
            rw [HbF.out] at HE
            go_wp2_with fail
            refine (HF1.out w3 O_w3.out).mono ?_
            rintro e w8 ⟨rfl, hb⟩
            have B_w8 := Lib.hid (stepB B_w3.out hb)
            clear hb
            cases bF with
            | false =>
              have HE2 := Lib.hid (HBn.out _ HE.out (by decide))
              go_wp2
              go_ret
              exact ⟨by rw [HE2.out]; rfl, B_w8.out⟩
            | true =>
              have HS2 := Lib.hid (HSu.out HE.out)
              go_wp2
              go_roundg gk
              case measure => omega
              case rel => exact ⟨k + 1, by have := HG.out; omega, by go_num, HS2.out, B_w8.out⟩
set_option maxRecDepth 20000 in
set_option maxHeartbeats 8000000 in
theorem rcheck_any (A : Option Addr) (c : Nat) (xs : List Rl) (w : World) (h : RL w w.heap.size A xs) (hn : xs.length ≤ 140737488355328) (hz : ∀ x ∈ xs, x.us.size ≤ 9223372036854775807) :
    Calls Tryd.prog 13 #[.slice A xs.length c] w fun e w' => e = .returned (.int .i64 (chkR xs)) ∧ Below w.heap.size w w' := by
  by_cases h32 : 32 < xs.length
  · have e1 : decide ((32 : Int) < (xs.length : Int)) = true := decide_eq_true (by omega)
    have HR : Hid (chkR xs = 5) := Lib.hid (by unfold chkR; rw [if_pos h32])
    clear h hz h32 hn
    go_enter Tryd.func13, Tryd.ntmps13
    go_wp2
    go_ret
    exact ⟨by rw [HR.out]; rfl, Below.refl _ _⟩
  have e1 : decide ((32 : Int) < (xs.length : Int)) = false := decide_eq_false (by omega)
  have HS := Lib.hid h
  have H32 := Lib.hid h32
  have HZ := Lib.hid hz
  have HN := Lib.hid (fun x (w1 : World) h => rName_dl x w1 h)
  have HF := Lib.hid (fun x w1 => rFilter_any x w1)
  clear h hz h32
  go_enter Tryd.func13, Tryd.ntmps13
  go_wp2
  go_loopg [3] xs.length (fun g v wr => ∃ k : Nat, k + g = xs.length ∧ v = .int .i64 k ∧ OkTo xs k ∧ Below w.heap.size w wr)
  case atStart => exact ⟨0, by omega, rfl, OkTo.zero _, Below.refl _ _⟩
  case round =>
    obtain ⟨k, hkg, rfl, hok, hb0⟩ := hrel
    have HK := Lib.hid hok
    have HB0 := Lib.hid hb0
    have HG := Lib.hid hkg
    clear hok hb0
    cases gk with
    | zero =>
      obtain rfl : k = xs.length := by omega
      have HR := Lib.hid (chk_ok H32.out HK.out)
      clear hkg
      go_wp2
      go_ret
      exact ⟨by rw [HR.out]; rfl, HB0.out⟩
    | succ gk =>
      have hlt : k < xs.length := by omega
      have e3 : decide ((k : Int) < (xs.length : Int)) = true := decide_eq_true (by omega)
      obtain ⟨x, hx⟩ : ∃ x, xs[k]? = some x := ⟨_, List.getElem?_eq_getElem hlt⟩
      obtain ⟨b, o, hA, hbB, hc⟩ := RL.at_ (GL.step HS.out HB0.out) hx
      have HC : Hid (b < wr.heap.size ∧ ∀ i v, (gR x)[i]? = some v → wr.cell? ⟨b, o + k * 4 + i, none⟩ = some v) := Lib.hid ⟨hbB, hc⟩
      have HZX := Lib.hid (HZ.out x (List.mem_of_getElem? hx))
      have HX := Lib.hid hx
      subst hA
      have j1 : (0 : Int) ≤ (k : Int) := by omega
      have j2 : (k : Int) < (xs.length : Int) := by omega
      clear hx hc hbB hkg
      have HBn := Lib.hid (fun n r hn2 => @chk_bad xs k x H32.out HK.out HX.out n r hn2)
      have HSu := Lib.hid (fun r => @OkTo.succ xs k x HK.out HX.out r)
      obtain ⟨al, us, ac, fi⟩ := x
      have HNa := Lib.hid (@ruleE_name ⟨al, us, ac, fi⟩)
      have HKi := Lib.hid (@ruleE_kind ⟨al, us, ac, fi⟩)
      have HFi := Lib.hid (@ruleE_fil ⟨al, us, ac, fi⟩)
      have HN1 := Lib.hid (fun w1 => HN.out us w1 HZX.out)
      have HF1 := Lib.hid (HF.out fi)
      obtain ⟨bN, hbN⟩ : ∃ z, T.nameL (dl us) = z := ⟨_, rfl⟩
      obtain ⟨bF, hbF⟩ : ∃ z, T.filterL (dl fi) = z := ⟨_, rfl⟩
      have HbN := Lib.hid hbN
      have HbF := Lib.hid hbF
      rw [hbN] at HN1
      rw [hbF] at HF1
      have q1 : (us.toList == [42]) = decide (us = starB) := eqC us [42]
      obtain ⟨b1, hb1⟩ : ∃ z, decide (us = starB) = z := ⟨_, rfl⟩
      have Hb1 := Lib.hid hb1
      rw [hb1] at q1
      clear hbN hbF hb1
      have z1 : wr.cell? ⟨b, o + k * 4 + 1, none⟩ = some (.string us) := HC.out.2 1 _ rfl
      have z2 : wr.cell? ⟨b, o + k * 4 + 2, none⟩ = some (.int .i64 ac) := HC.out.2 2 _ rfl
      have z3 : wr.cell? ⟨b, o + k * 4 + 3, none⟩ = some (.string fi) := HC.out.2 3 _ rfl
      cases b1 with
      | true =>
        have HU : Hid (us = starB ∨ T.nameL (dl us) = true) := Lib.hid (.inl (of_decide_eq_true Hb1.out))
        by_cases hac : ac < 0 ∨ 4 < ac
        · have HE := Lib.hid (HBn.out _ (HKi.out HU.out hac) (by decide))
          rcases hac with hac | hac
          · have e5 : decide (ac < 0) = true := decide_eq_true hac
            clear hac
            go_wp2_with fail
            go_ret
            exact ⟨by rw [HE.out]; rfl, HB0.out⟩
          · have e5 : decide (ac < 0) = false := decide_eq_false (by omega)
            have e6 : decide (4 < ac) = true := decide_eq_true hac
            clear hac
            go_wp2_with fail
            go_ret
            exact ⟨by rw [HE.out]; rfl, HB0.out⟩
        · have HE := Lib.hid (HFi.out HU.out hac)
          have e5 : decide (ac < 0) = false := decide_eq_false (by omega)
          have e6 : decide (4 < ac) = false := decide_eq_false (by omega)
          clear hac
          rw [HbF.out] at HE
          go_wp2_with fail
          refine (HF1.out wr).mono ?_
          rintro e w8 ⟨rfl, hb⟩
          have B_w8 := Lib.hid (stepB HB0.out hb)
          clear hb
          cases bF with
          | false =>
            have HE2 := Lib.hid (HBn.out _ HE.out (by decide))
            go_wp2
            go_ret
            exact ⟨by rw [HE2.out]; rfl, B_w8.out⟩
          | true =>
            have HS2 := Lib.hid (HSu.out HE.out)
            go_wp2
            go_roundg gk
            case measure => omega
            case rel => exact ⟨k + 1, by have := HG.out; omega, by go_num, HS2.out, B_w8.out⟩
      | false =>
        go_wp2_with fail
        refine (HN1.out wr).mono ?_
        rintro e w3 ⟨rfl, rfl⟩
        cases bN with
        | false =>
          have HE := Lib.hid (HBn.out _ (HNa.out (of_decide_eq_false Hb1.out) HbN.out) (by decide))
          go_wp2
          go_ret
          exact ⟨by rw [HE.out]; rfl, HB0.out⟩
        | true =>
          have HU : Hid (us = starB ∨ T.nameL (dl us) = true) := Lib.hid (.inr HbN.out)
          by_cases hac : ac < 0 ∨ 4 < ac
          · have HE := Lib.hid (HBn.out _ (HKi.out HU.out hac) (by decide))
            rcases hac with hac | hac
            · have e5 : decide (ac < 0) = true := decide_eq_true hac
              clear hac
              go_wp2_with fail
              go_ret
              exact ⟨by rw [HE.out]; rfl, HB0.out⟩
            · have e5 : decide (ac < 0) = false := decide_eq_false (by omega)
              have e6 : decide (4 < ac) = true := decide_eq_true hac
              clear hac
              go_wp2_with fail
              go_ret
              exact ⟨by rw [HE.out]; rfl, HB0.out⟩
          · have HE := Lib.hid (HFi.out HU.out hac)
            have e5 : decide (ac < 0) = false := decide_eq_false (by omega)
            have e6 : decide (4 < ac) = false := decide_eq_false (by omega)
            clear hac
            rw [HbF.out] at HE
            go_wp2_with fail
            refine (HF1.out wr).mono ?_
            rintro e w8 ⟨rfl, hb⟩
            have B_w8 := Lib.hid (stepB HB0.out hb)
            clear hb
            cases bF with
            | false =>
              have HE2 := Lib.hid (HBn.out _ HE.out (by decide))
              go_wp2
              go_ret
              exact ⟨by rw [HE2.out]; rfl, B_w8.out⟩
            | true =>
              have HS2 := Lib.hid (HSu.out HE.out)
              go_wp2
              go_roundg gk
              case measure => omega
              case rel => exact ⟨k + 1, by have := HG.out; omega, by go_num, HS2.out, B_w8.out⟩
end Go.Proofs.YtoakhkiiefiebaaDoor.S1
