/-
  What rest and Common of the specification answer. Conditions: as in each theorem.
-/
import Derived.Test.YtdoginjdlckbpaaDoorSpecMat
namespace Go.Proofs.YtdoginjdlckbpaaDoor
open Go.RowKit

theorem plain_cons (x : ByteArray) (r : List ByteArray) : plainB (x :: r) = (if x = hashB then [] else [if x = plusB then exB else x]) ++ plainB r := by
  unfold plainB
  by_cases h : x = hashB
  · simp [h]
  · simp [h]
theorem plain_nil : plainB [] = [] := rfl

set_option maxHeartbeats 4000000 in
theorem sRest_any (A : Option Addr) (c : Nat) (xs : List ByteArray) (i : Nat) (w : World) (h : SL w w.heap.size A xs) (hi : i ≤ xs.length) (hx63 : xs.length ≤ 1000) :
    Calls Tryd.prog 61 #[.slice A xs.length c, .int .i64 i] w (RetStrs2 (plainB (xs.drop i)) w) := by
  have HS := Lib.hid h
  clear h
  generalize hR : plainB (xs.drop i) = R
  have HR := Lib.hid hR
  clear hR
  go_enter Tryd.func61, Tryd.ntmps61
  go_wp2
  go_loopg [1, 5] (xs.length - i) (fun g v u wr => ∃ (k : Nat) (acc : List ByteArray), k + g = xs.length ∧ v = .int .i64 k ∧ acc.length ≤ k ∧ Own wr w.heap.size u acc ∧ R = acc ++ plainB (xs.drop k) ∧ Below w.heap.size w wr)
  case atStart => exact ⟨i, [], by omega, rfl, by simp, Own.nil _ _, by rw [HR.out]; rfl, Below.refl _ _⟩
  case round =>
    obtain ⟨k, acc, hkg, rfl, hal, hown, hres, hb⟩ := hrel
    cases gk with
    | zero =>
      obtain rfl : k = xs.length := by omega
      rw [drop_len, plain_nil, List.append_nil] at hres
      subst hres
      clear hkg
      go_wp2
      go_ret
      obtain ⟨A', c', hv, hc, hn0, hsl⟩ := hown.ret2
      exact ⟨A', c', congrArg Ending.returned hv, hc, hn0, hsl, hb⟩
    | succ g =>
      have hlt : k < xs.length := by omega
      have HG := Lib.hid hkg
      have hslr := HS.out.at_ hb
      obtain ⟨b, o, rfl, hbB, hcl⟩ := hslr (by omega)
      obtain ⟨x, hx⟩ : ∃ x, xs[k]? = some x := ⟨_, List.getElem?_eq_getElem hlt⟩
      have k1 := hcl k x hx
      rw [drop_at hx, plain_cons] at hres
      have HRS := Lib.hid hres
      have HO := Lib.hid hown
      have hsz := hb.size
      have HB := Lib.hid hb
      clear hcl hx hkg hslr hown hb hres
      by_cases h43 : x = plusB
      · have y43 : x.toList = [43] := tl_of h43
        have HV : Hid (R = (acc ++ [exB]) ++ plainB (xs.drop (k + 1))) := Lib.hid (by
          rw [HRS.out, if_neg (by rw [h43]; exact fun e => hash_ne_plus e.symm), if_pos h43, List.append_assoc])
        clear h43
        go_wp2_with (at_builtin; refine wpList_app1 _ rfl _ _ rfl w.heap.size u5 acc ⟨#[120]⟩ rfl HO.out rfl w HB.out hsz (by omega) ?_; intro v' w4 hown4 hb4 hsz4)
        go_roundg g
        case measure => omega
        case rel => exact ⟨k + 1, acc ++ [exB], by have := HG.out; omega, by go_num, by simp; omega, hown4, HV.out, hb4⟩
      · have m43 : (x.toList == [43]) = false := beq_eq_false_iff_ne.2 (tl_ne h43)
        by_cases h35 : x = hashB
        · have y35 : x.toList = [35] := tl_of h35
          have m1 : ([35] == ([43] : List UInt8)) = false := by decide
          have HV : Hid (R = acc ++ plainB (xs.drop (k + 1))) := Lib.hid (by rw [HRS.out, if_pos h35]; rfl)
          clear h43 h35
          go_wp2
          go_roundg g
          case measure => omega
          case rel => exact ⟨k + 1, acc, by have := HG.out; omega, by go_num, by omega, HO.out, HV.out, HB.out⟩
        · have m35 : (x.toList == [35]) = false := beq_eq_false_iff_ne.2 (tl_ne h35)
          have n35 : ¬ x.toList = [35] := tl_ne h35
          have HV : Hid (R = (acc ++ [x]) ++ plainB (xs.drop (k + 1))) := Lib.hid (by rw [HRS.out, if_neg h35, if_neg h43, List.append_assoc])
          clear h43 h35
          go_wp2_with (at_builtin; refine wpList_app1 _ rfl _ _ rfl w.heap.size u5 acc x rfl HO.out rfl w HB.out hsz (by omega) ?_; intro v' w4 hown4 hb4 hsz4)
          go_roundg g
          case measure => omega
          case rel => exact ⟨k + 1, acc ++ [x], by have := HG.out; omega, by go_num, by simp; omega, hown4, HV.out, hb4⟩

/-! ### Common of the specification -/
theorem tail_parts {a b zs : List ByteArray} (h : tailB a b = some zs) : (openB a = true ∨ openB b = true ∨ a.length = b.length) ∧ zs = plainB a ++ plainB b := by
  unfold tailB at h
  split at h
  · cases h
  · next hn =>
    cases h
    refine ⟨?_, rfl⟩
    cases ha : openB a
    · cases hb : openB b
      · rw [ha, hb] at hn
        refine .inr (.inr ?_)
        simpa using hn
      · exact .inr (.inl rfl)
    · exact .inl rfl
theorem plain_open {a : List ByteArray} (hf : FilOk a) (h : openB a = true) : plainB a = [] := by
  cases a with
  | nil => rfl
  | cons x r =>
    have hx : x = hashB := of_decide_eq_true h
    rw [hf.2.1 hx, plain_cons, if_pos hx]; rfl
/-- the end of the loop at a sign # of the first list -/
theorem com_endX {a b ws : List ByteArray} (ha : FilOk a) (h : openB a = true) (hc : comB a b = some ws) : ws = plainB b := by
  have e : comB a b = tailB a b := by
    cases a with
    | nil => exact com_left b
    | cons x r =>
      cases b with
      | nil => exact com_right _
      | cons y s => exact com_hash (.inl (of_decide_eq_true h))
  rw [e] at hc
  rw [(tail_parts hc).2, plain_open ha h]; rfl
/-- the end of the loop at a sign # of the second list, or at the end of one -/
theorem com_endY {a b ws : List ByteArray} (hb : FilOk b) (h : openB a = false) (hq : openB b = true ∨ a = [] ∨ b = []) (hc : comB a b = some ws) : ws = plainB a := by
  have e : comB a b = tailB a b := by
    cases a with
    | nil => exact com_left b
    | cons x r =>
      cases b with
      | nil => exact com_right _
      | cons y s =>
        rcases hq with hq | hq | hq
        · exact com_hash (.inr (of_decide_eq_true hq))
        · cases hq
        · cases hq
  rw [e] at hc
  obtain ⟨h1, h2⟩ := tail_parts hc
  have hp : plainB b = [] := by
    cases hob : openB b with
    | true => exact plain_open hb hob
    | false =>
      rw [h, hob] at h1
      have hl : a.length = b.length := by simpa using h1
      rw [hob] at hq
      have hq2 : a = [] ∨ b = [] := by simpa using hq
      rcases hq2 with hq2 | hq2
      · have hb0 : b = [] := List.eq_nil_of_length_eq_zero (by rw [← hl, hq2]; rfl)
        rw [hb0]; rfl
      · rw [hq2]; rfl
  rw [h2, hp, List.append_nil]
theorem com_more {x y : ByteArray} {a b ws : List ByteArray} (h1 : ¬ (x = hashB ∨ y = hashB)) (hc : comB (x :: a) (y :: b) = some ws) : ∃ vs, comB a b = some vs ∧ ws = pick x y :: vs := by
  by_cases h2 : x ≠ plusB ∧ y ≠ plusB ∧ x ≠ y
  · rw [com_none h1 h2] at hc; cases hc
  · rw [com_step h1 h2] at hc
    cases hv : comB a b with
    | none => rw [hv] at hc; cases hc
    | some vs =>
      rw [hv] at hc
      simp only [Option.map_some, Option.some.injEq] at hc
      exact ⟨vs, rfl, hc.symm⟩

set_option maxHeartbeats 8000000 in
set_option maxRecDepth 100000 in
theorem sCommon_some (a b : ByteArray) (zs : List ByteArray) (w : World) (hg : cmGate a b = true) (hz : comB (lvB a) (lvB b) = some zs) :
    Calls Tryd.prog 38 #[.string a, .string b] w fun e w' => e = .returned (.tuple #[.string (jnB (fillB zs)), .bool true]) ∧ Below w.heap.size w w' := by
  have cm := sMet_any a b w
  rw [show (cmRes a b).isSome = true by unfold cmRes; rw [if_pos hg, hz]; rfl] at cm
  have CM := Lib.hid cm
  obtain ⟨fa, fb, _, _⟩ := gate_parts hg
  obtain ⟨hz64, hz16⟩ := com_lv_size hg hz
  have HZ64 := Lib.hid hz64
  have la := filter_le fa
  have lb := filter_le fb
  have na := lv_small fa
  have nb := lv_small fb
  have cla := fun w => rLevels_any a w (by omega)
  have clb := fun w => rLevels_any b w (by omega)
  have fxa := filOk_of fa
  have fyb := filOk_of fb
  generalize lvB a = xs at *
  generalize lvB b = ys at *
  have CLA := Lib.hid cla
  have CLB := Lib.hid clb
  have HZ := Lib.hid hz
  have HFA := Lib.hid fxa
  have HFB := Lib.hid fyb
  clear cm hg hz hz64 cla clb fxa fyb fa fb
  go_enter Tryd.func38, Tryd.ntmps38
  go_wp2_with fail
  refine CM.out.mono ?_
  rintro e w1 ⟨rfl, hb1⟩
  go_wp2_with fail
  refine (CLA.out _).mono ?_
  rintro e w2 ⟨A, c, rfl, hc, hsl, hb2⟩
  have hb2 := Below.step hb1 hb2
  go_wp2_with fail
  refine (CLB.out _).mono ?_
  rintro e w3 ⟨A', c', rfl, hc', hsl', hb3⟩
  have hsl := hsl.step hb3
  have hb3 := Below.step hb2 hb3
  have HS := Lib.hid hsl
  have HS' := Lib.hid hsl'
  have HB3 := Lib.hid hb3
  clear hsl hsl' hb1 hb2 hb3 CM CLA CLB
  go_wp2
  go_loopg [8, 9] xs.length (fun g u v wr => ∃ (k : Nat) (acc ws : List ByteArray), k + g = xs.length ∧ v = .int .i64 k ∧ k ≤ ys.length ∧ acc.length = k ∧ Own wr w3.heap.size u acc ∧ comB (xs.drop k) (ys.drop k) = some ws ∧ zs = acc ++ ws ∧
    FilOk (xs.drop k) ∧ FilOk (ys.drop k) ∧ Below w3.heap.size w3 wr)
  case atStart => exact ⟨0, [], zs, by omega, rfl, by omega, rfl, Own.nil _ _, by rw [List.drop_zero, List.drop_zero]; exact HZ.out, rfl, HFA.out, HFB.out, Below.refl _ _⟩
  case round =>
    obtain ⟨k, acc, ws, hkg, rfl, hky, hal, hown, hcom, hzw, hfo, hfo', hb⟩ := hrel
    have HC := Lib.hid hcom
    have HZW := Lib.hid hzw
    have HO := Lib.hid hown
    have HB := Lib.hid hb
    have HFX := Lib.hid hfo
    have HFY := Lib.hid hfo'
    have HX := Lib.hid (HS.out.at_ hb)
    have HY := Lib.hid (HS'.out.at_ hb)
    have hsz := hb.size
    have hsl := HX.out
    have hsl' := HY.out
    clear hcom hzw hown hb hfo hfo'
    by_cases hlt : k < xs.length
    · obtain ⟨b, o, rfl, hbB, hcl⟩ := hsl (by omega)
      obtain ⟨x, hx⟩ : ∃ x, xs[k]? = some x := ⟨_, List.getElem?_eq_getElem hlt⟩
      have k1 := hcl k x hx
      have HDX := Lib.hid (drop_at hx)
      clear hcl hx hsl
      have hsl := HX.out
      by_cases hlt' : k < ys.length
      · obtain ⟨b', o', rfl, hbB', hcl'⟩ := hsl' (by omega)
        obtain ⟨y, hy⟩ : ∃ y, ys[k]? = some y := ⟨_, List.getElem?_eq_getElem hlt'⟩
        have k2 := hcl' k y hy
        have HDY := Lib.hid (drop_at hy)
        clear hcl' hy hsl'
        have hsl' := HY.out
        by_cases h35 : x = hashB
        · have y35 : x.toList = [35] := tl_of h35
          have HWS : Hid (ws = plainB (ys.drop k)) := Lib.hid (com_endX HFX.out (by rw [HDX.out]; exact decide_eq_true h35) HC.out)
          clear h35 HDX HDY
          have HW : Hid (zs = acc ++ plainB (ys.drop k)) := Lib.hid (by rw [HZW.out, HWS.out])
          have hpl := plain_le (ys.drop k)
          rw [List.length_drop] at hpl
          have cr := fun AA cc (h : SL wr wr.heap.size AA ys) => sRest_any AA cc ys k wr h (by omega) (by omega)
          generalize plainB (ys.drop k) = pl at HW hpl cr
          have HPL := Lib.hid hpl
          have hps : pl.length ≤ 1000 := by omega
          have has : acc.length ≤ 1000 := by omega
          have CR := Lib.hid cr
          clear cr hpl HC HZW HFX HFY HWS HZ HFA HFB
          rcases Nat.eq_zero_or_pos zs.length with hz0 | hz0
          · have hznil : zs = [] := List.eq_nil_of_length_eq_zero hz0
            have q0 : ((zs.length : Int) == 0) = true := by rw [hz0]; rfl
            have HZN := Lib.hid hznil
            clear hznil hz0
            go_wp2_with fail
            refine (CR.out _ _ HY.out).mono ?_
            rintro e w4 ⟨A4, c4, rfl, hc4, hn4, hsl4, hb4⟩
            have hown4 := HO.out.below hb4
            have hbz4 := Below.step HB.out hb4
            have hsz4 := hbz4.size
            clear hb4 hsl hsl' HX HY CR
            go_wp2_with first
              | (at_builtin; refine wpList_appMany _ rfl _ _ rfl w3.heap.size u8 acc pl rfl hown4 A4 c4 rfl hn4 hsl4 w3 hbz4 hsz4 (by omega) ?_; intro v5 w5 hown5 hb5 hsz5; rw [← HW.out] at hown5; obtain ⟨A5, c5, hv5, hc5, hn5, hsl5⟩ := hown5.ret2; subst hv5)
              | (at_builtin; refine wpList_app1 _ rfl _ _ rfl w3.heap.size (.slice A5 zs.length c5) zs ⟨#[120]⟩ rfl hown5 rfl w3 hb5 hsz5 (by omega) ?_; intro v6 w6 hown6 hb6 hsz6; rw [HZN.out, List.nil_append] at hown6; obtain ⟨A6, c6, hv6, hc6, hn6, hsl6⟩ := hown6.ret2; subst hv6)
            refine (rJoin_any _ _ [⟨#[120]⟩] _ _ hsl6 (by decide) (by decide)).mono ?_
            rintro e w7 ⟨rfl, rfl⟩
            go_wp2_with fail
            go_ret2
            exact ⟨by rw [HZN.out]; rfl, Below.step HB3.out hb6⟩
          · have q0 : ((zs.length : Int) == 0) = false := by rw [beq_eq_false_iff_ne]; omega
            have HF : Hid (fillB zs = zs) := Lib.hid (by unfold fillB; rw [if_neg (fun e => by rw [e] at hz0; simp at hz0)])
            clear hz0
            go_wp2_with fail
            refine (CR.out _ _ HY.out).mono ?_
            rintro e w4 ⟨A4, c4, rfl, hc4, hn4, hsl4, hb4⟩
            have hown4 := HO.out.below hb4
            have hbz4 := Below.step HB.out hb4
            have hsz4 := hbz4.size
            clear hb4 hsl hsl' HX HY CR
            go_wp2_with (at_builtin; refine wpList_appMany _ rfl _ _ rfl w3.heap.size u8 acc pl rfl hown4 A4 c4 rfl hn4 hsl4 w3 hbz4 hsz4 (by omega) ?_; intro v5 w5 hown5 hb5 hsz5; rw [← HW.out] at hown5; obtain ⟨A5, c5, hv5, hc5, hn5, hsl5⟩ := hown5.ret2; subst hv5)
            refine (rJoin_any _ _ zs _ _ hsl5 (by omega) (fun x hx => Nat.le_trans (HZ64.out x hx) (by decide))).mono ?_
            rintro e w7 ⟨rfl, rfl⟩
            go_wp2_with fail
            go_ret2
            exact ⟨by rw [HF.out]; rfl, Below.step HB3.out hb5⟩
        · have m35 : (x.toList == [35]) = false := beq_eq_false_iff_ne.2 (tl_ne h35)
          have n35 : ¬ x.toList = [35] := tl_ne h35
          by_cases g35 : y = hashB
          · have z35 : y.toList = [35] := tl_of g35
            have HWS : Hid (ws = plainB (xs.drop k)) := Lib.hid (com_endY HFY.out (by rw [HDX.out]; exact decide_eq_false h35) (.inl (by rw [HDY.out]; exact decide_eq_true g35)) HC.out)
            clear h35 g35 HDX HDY
            have HW : Hid (zs = acc ++ plainB (xs.drop k)) := Lib.hid (by rw [HZW.out, HWS.out])
            have hpl := plain_le (xs.drop k)
            rw [List.length_drop] at hpl
            have cr := fun AA cc (h : SL wr wr.heap.size AA xs) => sRest_any AA cc xs k wr h (by omega) (by omega)
            generalize plainB (xs.drop k) = pl at HW hpl cr
            have HPL := Lib.hid hpl
            have hps : pl.length ≤ 1000 := by omega
            have has : acc.length ≤ 1000 := by omega
            have CR := Lib.hid cr
            clear cr hpl HC HZW HFX HFY HWS HZ HFA HFB
            rcases Nat.eq_zero_or_pos zs.length with hz0 | hz0
            · have hznil : zs = [] := List.eq_nil_of_length_eq_zero hz0
              have q0 : ((zs.length : Int) == 0) = true := by rw [hz0]; rfl
              have HZN := Lib.hid hznil
              clear hznil hz0
              go_wp2_with fail
              refine (CR.out _ _ HX.out).mono ?_
              rintro e w4 ⟨A4, c4, rfl, hc4, hn4, hsl4, hb4⟩
              have hown4 := HO.out.below hb4
              have hbz4 := Below.step HB.out hb4
              have hsz4 := hbz4.size
              clear hb4 hsl hsl' HX HY CR
              go_wp2_with first
                | (at_builtin; refine wpList_appMany _ rfl _ _ rfl w3.heap.size u8 acc pl rfl hown4 A4 c4 rfl hn4 hsl4 w3 hbz4 hsz4 (by omega) ?_; intro v5 w5 hown5 hb5 hsz5; rw [← HW.out] at hown5; obtain ⟨A5, c5, hv5, hc5, hn5, hsl5⟩ := hown5.ret2; subst hv5)
                | (at_builtin; refine wpList_app1 _ rfl _ _ rfl w3.heap.size (.slice A5 zs.length c5) zs ⟨#[120]⟩ rfl hown5 rfl w3 hb5 hsz5 (by omega) ?_; intro v6 w6 hown6 hb6 hsz6; rw [HZN.out, List.nil_append] at hown6; obtain ⟨A6, c6, hv6, hc6, hn6, hsl6⟩ := hown6.ret2; subst hv6)
              refine (rJoin_any _ _ [⟨#[120]⟩] _ _ hsl6 (by decide) (by decide)).mono ?_
              rintro e w7 ⟨rfl, rfl⟩
              go_wp2_with fail
              go_ret2
              exact ⟨by rw [HZN.out]; rfl, Below.step HB3.out hb6⟩
            · have q0 : ((zs.length : Int) == 0) = false := by rw [beq_eq_false_iff_ne]; omega
              have HF : Hid (fillB zs = zs) := Lib.hid (by unfold fillB; rw [if_neg (fun e => by rw [e] at hz0; simp at hz0)])
              clear hz0
              go_wp2_with fail
              refine (CR.out _ _ HX.out).mono ?_
              rintro e w4 ⟨A4, c4, rfl, hc4, hn4, hsl4, hb4⟩
              have hown4 := HO.out.below hb4
              have hbz4 := Below.step HB.out hb4
              have hsz4 := hbz4.size
              clear hb4 hsl hsl' HX HY CR
              go_wp2_with (at_builtin; refine wpList_appMany _ rfl _ _ rfl w3.heap.size u8 acc pl rfl hown4 A4 c4 rfl hn4 hsl4 w3 hbz4 hsz4 (by omega) ?_; intro v5 w5 hown5 hb5 hsz5; rw [← HW.out] at hown5; obtain ⟨A5, c5, hv5, hc5, hn5, hsl5⟩ := hown5.ret2; subst hv5)
              refine (rJoin_any _ _ zs _ _ hsl5 (by omega) (fun x hx => Nat.le_trans (HZ64.out x hx) (by decide))).mono ?_
              rintro e w7 ⟨rfl, rfl⟩
              go_wp2_with fail
              go_ret2
              exact ⟨by rw [HF.out]; rfl, Below.step HB3.out hb5⟩
          · have r35 : (y.toList == [35]) = false := beq_eq_false_iff_ne.2 (tl_ne g35)
            have s35 : ¬ y.toList = [35] := tl_ne g35
            obtain ⟨vs, hv, hwv⟩ := com_more (a := xs.drop (k + 1)) (b := ys.drop (k + 1)) (fun q => by rcases q with q | q; exact h35 q; exact g35 q) (by rw [← HDX.out, ← HDY.out]; exact HC.out)
            obtain ⟨g, rfl⟩ : ∃ g, gk = g + 1 := ⟨gk - 1, by omega⟩
            have HG := Lib.hid hkg
            have fx := HFX.out
            have fy := HFY.out
            rw [HDX.out] at fx
            rw [HDY.out] at fy
            have HTX := Lib.hid fx.2.2
            have HTY := Lib.hid fy.2.2
            have HV := Lib.hid hv
            have HZP : Hid (zs = (acc ++ [pick x y]) ++ vs) := Lib.hid (by rw [HZW.out, hwv, List.append_assoc]; rfl)
            have HAL := Lib.hid hal
            have has : acc.length ≤ 1000 := by omega
            clear h35 g35 hv hwv hkg fx fy HC HZW HFX HFY HDX HDY hal HZ HFA HFB
            by_cases h43 : x = plusB
            · have x43 : x.toList = [43] := tl_of h43
              have m1 : ([43] == ([35] : List UInt8)) = false := by decide
              by_cases g43 : y = plusB
              · have z43 : y.toList = [43] := tl_of g43
                have HP : Hid (pick x y = ⟨#[120]⟩) := Lib.hid (by rw [h43, g43]; rfl)
                clear h43 g43 m35 n35 r35 s35
                go_wp2_with (at_builtin; refine wpList_app1 _ rfl _ _ rfl w3.heap.size u8 acc ⟨#[120]⟩ rfl HO.out rfl w3 HB.out hsz (by omega) ?_; intro v' w4 hown4 hb4 hsz4)
                go_roundg g
                case measure => omega
                case rel => exact ⟨k + 1, acc ++ [⟨#[120]⟩], vs, by have := HG.out; omega, by go_num, by omega, by simp [HAL.out], hown4, HV.out, by rw [HZP.out, HP.out], HTX.out, HTY.out, hb4⟩
              · have z43 : (y.toList == [43]) = false := beq_eq_false_iff_ne.2 (tl_ne g43)
                have y43 : ¬ y.toList = [43] := tl_ne g43
                have HP : Hid (pick x y = y) := Lib.hid (by unfold pick; rw [if_neg (fun e => e h43), if_pos g43])
                clear h43 g43 m35 n35
                go_wp2_with (at_builtin; refine wpList_app1 _ rfl _ _ rfl w3.heap.size u8 acc y rfl HO.out rfl w3 HB.out hsz (by omega) ?_; intro v' w4 hown4 hb4 hsz4)
                go_roundg g
                case measure => omega
                case rel => exact ⟨k + 1, acc ++ [y], vs, by have := HG.out; omega, by go_num, by omega, by simp [HAL.out], hown4, HV.out, by rw [HZP.out, HP.out], HTX.out, HTY.out, hb4⟩
            · have x43 : (x.toList == [43]) = false := beq_eq_false_iff_ne.2 (tl_ne h43)
              have t43 : ¬ x.toList = [43] := tl_ne h43
              have HP : Hid (pick x y = x) := Lib.hid (by unfold pick; rw [if_pos h43])
              clear h43
              go_wp2_with (at_builtin; refine wpList_app1 _ rfl _ _ rfl w3.heap.size u8 acc x rfl HO.out rfl w3 HB.out hsz (by omega) ?_; intro v' w4 hown4 hb4 hsz4)
              go_roundg g
              case measure => omega
              case rel => exact ⟨k + 1, acc ++ [x], vs, by have := HG.out; omega, by go_num, by omega, by simp [HAL.out], hown4, HV.out, by rw [HZP.out, HP.out], HTX.out, HTY.out, hb4⟩
      · have hyk : ys.drop k = [] := List.drop_eq_nil_of_le (by omega)
        by_cases h35 : x = hashB
        · have y35 : x.toList = [35] := tl_of h35
          have HWS : Hid (ws = plainB (ys.drop k)) := Lib.hid (com_endX HFX.out (by rw [HDX.out]; exact decide_eq_true h35) HC.out)
          clear h35 HDX hyk
          have HW : Hid (zs = acc ++ plainB (ys.drop k)) := Lib.hid (by rw [HZW.out, HWS.out])
          have hpl := plain_le (ys.drop k)
          rw [List.length_drop] at hpl
          have cr := fun AA cc (h : SL wr wr.heap.size AA ys) => sRest_any AA cc ys k wr h (by omega) (by omega)
          generalize plainB (ys.drop k) = pl at HW hpl cr
          have HPL := Lib.hid hpl
          have hps : pl.length ≤ 1000 := by omega
          have has : acc.length ≤ 1000 := by omega
          have CR := Lib.hid cr
          clear cr hpl HC HZW HFX HFY HWS HZ HFA HFB
          rcases Nat.eq_zero_or_pos zs.length with hz0 | hz0
          · have hznil : zs = [] := List.eq_nil_of_length_eq_zero hz0
            have q0 : ((zs.length : Int) == 0) = true := by rw [hz0]; rfl
            have HZN := Lib.hid hznil
            clear hznil hz0
            go_wp2_with fail
            refine (CR.out _ _ HY.out).mono ?_
            rintro e w4 ⟨A4, c4, rfl, hc4, hn4, hsl4, hb4⟩
            have hown4 := HO.out.below hb4
            have hbz4 := Below.step HB.out hb4
            have hsz4 := hbz4.size
            clear hb4 hsl hsl' HX HY CR
            go_wp2_with first
              | (at_builtin; refine wpList_appMany _ rfl _ _ rfl w3.heap.size u8 acc pl rfl hown4 A4 c4 rfl hn4 hsl4 w3 hbz4 hsz4 (by omega) ?_; intro v5 w5 hown5 hb5 hsz5; rw [← HW.out] at hown5; obtain ⟨A5, c5, hv5, hc5, hn5, hsl5⟩ := hown5.ret2; subst hv5)
              | (at_builtin; refine wpList_app1 _ rfl _ _ rfl w3.heap.size (.slice A5 zs.length c5) zs ⟨#[120]⟩ rfl hown5 rfl w3 hb5 hsz5 (by omega) ?_; intro v6 w6 hown6 hb6 hsz6; rw [HZN.out, List.nil_append] at hown6; obtain ⟨A6, c6, hv6, hc6, hn6, hsl6⟩ := hown6.ret2; subst hv6)
            refine (rJoin_any _ _ [⟨#[120]⟩] _ _ hsl6 (by decide) (by decide)).mono ?_
            rintro e w7 ⟨rfl, rfl⟩
            go_wp2_with fail
            go_ret2
            exact ⟨by rw [HZN.out]; rfl, Below.step HB3.out hb6⟩
          · have q0 : ((zs.length : Int) == 0) = false := by rw [beq_eq_false_iff_ne]; omega
            have HF : Hid (fillB zs = zs) := Lib.hid (by unfold fillB; rw [if_neg (fun e => by rw [e] at hz0; simp at hz0)])
            clear hz0
            go_wp2_with fail
            refine (CR.out _ _ HY.out).mono ?_
            rintro e w4 ⟨A4, c4, rfl, hc4, hn4, hsl4, hb4⟩
            have hown4 := HO.out.below hb4
            have hbz4 := Below.step HB.out hb4
            have hsz4 := hbz4.size
            clear hb4 hsl hsl' HX HY CR
            go_wp2_with (at_builtin; refine wpList_appMany _ rfl _ _ rfl w3.heap.size u8 acc pl rfl hown4 A4 c4 rfl hn4 hsl4 w3 hbz4 hsz4 (by omega) ?_; intro v5 w5 hown5 hb5 hsz5; rw [← HW.out] at hown5; obtain ⟨A5, c5, hv5, hc5, hn5, hsl5⟩ := hown5.ret2; subst hv5)
            refine (rJoin_any _ _ zs _ _ hsl5 (by omega) (fun x hx => Nat.le_trans (HZ64.out x hx) (by decide))).mono ?_
            rintro e w7 ⟨rfl, rfl⟩
            go_wp2_with fail
            go_ret2
            exact ⟨by rw [HF.out]; rfl, Below.step HB3.out hb5⟩
        · have hc := HC.out
          rw [HDX.out, hyk, com_right] at hc
          have := (tail_parts hc).1
          rcases this with e | e | e
          · exact absurd (of_decide_eq_true e) h35
          · cases e
          · simp at e
    · have hxk : xs.drop k = [] := List.drop_eq_nil_of_le (by omega)
      have HWS : Hid (ws = plainB (xs.drop k)) := Lib.hid (com_endY HFY.out (by rw [hxk]; rfl) (.inr (.inl hxk)) HC.out)
      clear hxk
      have HW : Hid (zs = acc ++ plainB (xs.drop k)) := Lib.hid (by rw [HZW.out, HWS.out])
      have hpl := plain_le (xs.drop k)
      rw [List.length_drop] at hpl
      have cr := fun AA cc (h : SL wr wr.heap.size AA xs) => sRest_any AA cc xs k wr h (by omega) (by omega)
      generalize plainB (xs.drop k) = pl at HW hpl cr
      have HPL := Lib.hid hpl
      have hps : pl.length ≤ 1000 := by omega
      have has : acc.length ≤ 1000 := by omega
      have CR := Lib.hid cr
      clear cr hpl HC HZW HFX HFY HWS HZ HFA HFB
      rcases Nat.eq_zero_or_pos zs.length with hz0 | hz0
      · have hznil : zs = [] := List.eq_nil_of_length_eq_zero hz0
        have q0 : ((zs.length : Int) == 0) = true := by rw [hz0]; rfl
        have HZN := Lib.hid hznil
        clear hznil hz0
        go_wp2_with fail
        refine (CR.out _ _ HX.out).mono ?_
        rintro e w4 ⟨A4, c4, rfl, hc4, hn4, hsl4, hb4⟩
        have hown4 := HO.out.below hb4
        have hbz4 := Below.step HB.out hb4
        have hsz4 := hbz4.size
        clear hb4 hsl hsl' HX HY CR
        go_wp2_with first
          | (at_builtin; refine wpList_appMany _ rfl _ _ rfl w3.heap.size u8 acc pl rfl hown4 A4 c4 rfl hn4 hsl4 w3 hbz4 hsz4 (by omega) ?_; intro v5 w5 hown5 hb5 hsz5; rw [← HW.out] at hown5; obtain ⟨A5, c5, hv5, hc5, hn5, hsl5⟩ := hown5.ret2; subst hv5)
          | (at_builtin; refine wpList_app1 _ rfl _ _ rfl w3.heap.size (.slice A5 zs.length c5) zs ⟨#[120]⟩ rfl hown5 rfl w3 hb5 hsz5 (by omega) ?_; intro v6 w6 hown6 hb6 hsz6; rw [HZN.out, List.nil_append] at hown6; obtain ⟨A6, c6, hv6, hc6, hn6, hsl6⟩ := hown6.ret2; subst hv6)
        refine (rJoin_any _ _ [⟨#[120]⟩] _ _ hsl6 (by decide) (by decide)).mono ?_
        rintro e w7 ⟨rfl, rfl⟩
        go_wp2_with fail
        go_ret2
        exact ⟨by rw [HZN.out]; rfl, Below.step HB3.out hb6⟩
      · have q0 : ((zs.length : Int) == 0) = false := by rw [beq_eq_false_iff_ne]; omega
        have HF : Hid (fillB zs = zs) := Lib.hid (by unfold fillB; rw [if_neg (fun e => by rw [e] at hz0; simp at hz0)])
        clear hz0
        go_wp2_with fail
        refine (CR.out _ _ HX.out).mono ?_
        rintro e w4 ⟨A4, c4, rfl, hc4, hn4, hsl4, hb4⟩
        have hown4 := HO.out.below hb4
        have hbz4 := Below.step HB.out hb4
        have hsz4 := hbz4.size
        clear hb4 hsl hsl' HX HY CR
        go_wp2_with (at_builtin; refine wpList_appMany _ rfl _ _ rfl w3.heap.size u8 acc pl rfl hown4 A4 c4 rfl hn4 hsl4 w3 hbz4 hsz4 (by omega) ?_; intro v5 w5 hown5 hb5 hsz5; rw [← HW.out] at hown5; obtain ⟨A5, c5, hv5, hc5, hn5, hsl5⟩ := hown5.ret2; subst hv5)
        refine (rJoin_any _ _ zs _ _ hsl5 (by omega) (fun x hx => Nat.le_trans (HZ64.out x hx) (by decide))).mono ?_
        rintro e w7 ⟨rfl, rfl⟩
        go_wp2_with fail
        go_ret2
        exact ⟨by rw [HF.out]; rfl, Below.step HB3.out hb5⟩

set_option maxHeartbeats 400000 in
theorem sCom_any (a b : ByteArray) (w : World) :
    Calls Tryd.prog 38 #[.string a, .string b] w fun e w' => e = .returned (.tuple #[.string ((cmRes a b).getD ⟨#[]⟩), .bool (cmRes a b).isSome]) ∧ Below w.heap.size w w' := by
  cases hr : cmRes a b with
  | some c =>
    unfold cmRes at hr
    split at hr
    next hg =>
      cases hc : comB (lvB a) (lvB b) with
      | none => rw [hc] at hr; cases hr
      | some zs =>
        rw [hc] at hr
        simp only [Option.map_some, Option.some.injEq] at hr
        rw [← hr]
        exact sCommon_some a b zs w hg hc
    · cases hr
  | none =>
    have cm := sMet_any a b w
    rw [hr] at cm
    have CM := Lib.hid cm
    clear cm hr
    go_enter Tryd.func38, Tryd.ntmps38
    go_wp2_with fail
    refine CM.out.mono ?_
    rintro e w1 ⟨rfl, hb1⟩
    go_wp2_with fail
    go_ret2
    exact ⟨rfl, hb1⟩

end Go.Proofs.YtdoginjdlckbpaaDoor
