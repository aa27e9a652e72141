/-
  What covers and blind of the program and wild, covers, meets and levels of the specification answer on the levels of filters. Conditions: as in each theorem.
-/
import Derived.Test.YtoakhkiiefiebaaDoorWild
namespace Go.Proofs.YtoakhkiiefiebaaDoor.S1
open Go.RowKit

theorem tl_of {x : ByteArray} {l : List UInt8} (h : x = bs l) : x.toList = l := by
  rw [h, Lib.toList_data]; exact dl_bs l
theorem tl_ne {x : ByteArray} {l : List UInt8} (h : x ≠ bs l) : ¬ x.toList = l := fun e => h (by rw [← bs_dl x]; unfold dl; rw [← Lib.toList_data, e])
theorem neqs {a b : ByteArray} (h : a ≠ b) : (!a.toList == b.toList) = true := by
  rw [Bool.not_eq_true', Bool.eq_false_iff]
  intro e
  exact h (str_eq.1 e)
theorem cov_nil {x : ByteArray} (a : List ByteArray) (h : x ≠ hashB) : covB (x :: a) [] = false := by
  rw [covB.eq_def]
  simp [h]
theorem cov_hash {x : ByteArray} (a b : List ByteArray) (h : x = hashB) : covB (x :: a) b = true := by
  rw [covB.eq_def]
  simp [h]
theorem drop_at {xs : List ByteArray} {k : Nat} {x : ByteArray} (hx : xs[k]? = some x) : xs.drop k = x :: xs.drop (k + 1) := by
  obtain ⟨h, e⟩ := List.getElem?_eq_some_iff.1 hx
  rw [List.drop_eq_getElem_cons h, e]

set_option maxHeartbeats 1000000 in
theorem blind_any (f o : ByteArray) (w : World) (hw : Okw w) (hf : T.filterL (dl f) = true) :
    Calls Tryd.prog 62 #[.string f, .string o] w fun e w' => e = .returned (.bool (sysL (dl o) && hdW (lvB f))) ∧ Below w.heap.size w w' := by
  have hle := filter_le hf
  have hp := lvB_pos f
  obtain ⟨x, hx⟩ : ∃ x, (lvB f)[0]? = some x := ⟨_, List.getElem?_eq_getElem hp⟩
  have hh : hdW (lvB f) = !(wcI (dl x) == 0) := by
    have h0 := filOk_of hf
    have e := drop_at hx
    rw [List.drop_zero] at e
    rw [e] at h0 ⊢
    exact hdW_wc h0.1
  have c1 := fun w => tSystem_any o w
  have c2 := fun w => wildcard_any x w
  rw [hh]
  generalize sysL (dl o) = sy at c1 ⊢
  generalize wcI (dl x) = n at c2 ⊢
  have C1 := Lib.hid c1
  have C2 := Lib.hid c2
  have HX := Lib.hid hx
  clear c1 c2 hx hh hf
  cases sy
  · go_enter Tryd.func62, Tryd.ntmps62
    go_wp2_with (go_at_call 74; refine (C1.out _).mono ?_; rintro e w' ⟨rfl, rfl⟩)
    go_ret
    exact ⟨rfl, Below.refl _ _⟩
  · go_enter Tryd.func62, Tryd.ntmps62
    go_wp2_with fail
    refine (C1.out _).mono ?_
    rintro e w1 ⟨rfl, rfl⟩
    go_wp2_with fail
    refine (tLevels_any f _ hw (by omega)).mono ?_
    rintro e w2 ⟨A, c, rfl, hc, hsl, hb2⟩
    obtain ⟨b, off, rfl, hbB, hcl⟩ := hsl hp
    have k1 := hcl 0 x HX.out
    rw [Nat.add_zero] at k1
    have HB := Lib.hid hb2
    clear hcl hsl hb2
    go_wp2_with fail
    refine (C2.out _).mono ?_
    rintro e w3 ⟨rfl, hb3⟩
    go_wp2_with fail
    go_ret
    exact ⟨retb (by simp; rfl), Below.step HB.out hb3⟩

set_option maxHeartbeats 400000 in
theorem rWild_any (A : Option Addr) (c : Nat) (xs : List ByteArray) (w : World) (B : Nat) (h : SL w B A xs) (hp : 0 < xs.length) :
    Calls Tryd.prog 48 #[.slice A xs.length c] w fun e w' => e = .returned (.bool (hdW xs)) ∧ w = w' := by
  obtain ⟨x, hx⟩ : ∃ x, xs[0]? = some x := ⟨_, List.getElem?_eq_getElem hp⟩
  obtain ⟨b, o, rfl, hbB, hcl⟩ := h hp
  have k1 := hcl 0 x hx
  rw [Nat.add_zero] at k1
  have e := drop_at hx
  rw [List.drop_zero] at e
  have HD : Hid (hdW xs = (decide (x = plusB) || decide (x = hashB))) := Lib.hid (by rw [e]; rfl)
  clear hcl hx e h
  by_cases h43 : x = plusB
  · have y43 : x.toList = [43] := tl_of h43
    have HE := Lib.hid h43
    clear h43
    go_enter Tryd.func48, Tryd.ntmps48
    go_wp2
    go_ret
    exact ⟨retb (by rw [HD.out, decide_eq_true HE.out]; rfl), rfl⟩
  · have n43 : ¬ x.toList = [43] := tl_ne h43
    have HE := Lib.hid h43
    clear h43
    by_cases h35 : x = hashB
    · have y35 : x.toList = [35] := tl_of h35
      have HE2 := Lib.hid h35
      clear h35
      have m43 : ([35] == ([43] : List UInt8)) = false := by decide
      go_enter Tryd.func48, Tryd.ntmps48
      go_wp2
      go_ret
      exact ⟨retb (by rw [HD.out, decide_eq_true HE2.out]; simp), rfl⟩
    · have n35 : ¬ x.toList = [35] := tl_ne h35
      have HE2 := Lib.hid h35
      clear h35
      have m43 : (x.toList == [43]) = false := beq_eq_false_iff_ne.2 n43
      have m35 : (x.toList == [35]) = false := beq_eq_false_iff_ne.2 n35
      go_enter Tryd.func48, Tryd.ntmps48
      go_wp2
      go_ret
      exact ⟨retb (by rw [HD.out, decide_eq_false HE.out, decide_eq_false HE2.out]; simp), rfl⟩

set_option maxHeartbeats 4000000 in
set_option maxRecDepth 100000 in
theorem mCovers_any (A A' : Option Addr) (c c' : Nat) (xs ys : List ByteArray) (w : World) (h : SL w w.heap.size A xs) (h' : SL w w.heap.size A' ys) (hf : FilOk xs) (hx63 : xs.length ≤ 1000000) (hy63 : ys.length ≤ 1000000) :
    Calls Tryd.prog 63 #[.slice A xs.length c, .slice A' ys.length c'] w fun e w' => e = .returned (.bool (covB xs ys)) ∧ Below w.heap.size w w' := by
  have HS := Lib.hid h
  have HS' := Lib.hid h'
  have HFO := Lib.hid hf
  clear h h' hf
  go_enter Tryd.func63, Tryd.ntmps63
  go_wp2
  go_step3
  go_wp2
  go_step3
  go_wp2
  go_loopg [9] xs.length (fun g v wr => ∃ k : Nat, k + g = xs.length ∧ v = .int .i64 k ∧ k ≤ ys.length ∧ covB xs ys = covB (xs.drop k) (ys.drop k) ∧ FilOk (xs.drop k) ∧ Below w.heap.size w wr ∧ SL wr wr.heap.size A xs ∧ SL wr wr.heap.size A' ys)
  case atStart => exact ⟨0, by omega, rfl, by omega, rfl, HFO.out, Below.refl _ _, HS.out, HS'.out⟩
  case round =>
    obtain ⟨k, hkg, rfl, hky, hcov, hfo, hb, hsl, hsl'⟩ := hrel
    have HC := Lib.hid hcov
    have HB := Lib.hid hb
    have HR := Lib.hid hsl
    have HR' := Lib.hid hsl'
    clear hcov hb HS HS'
    cases gk with
    | zero =>
      obtain rfl : k = xs.length := by omega
      have hd : covB (xs.drop xs.length) (ys.drop xs.length) = ((xs.length : Int) == (ys.length : Int)) := by
        rw [List.drop_length]
        unfold covB
        rw [Bool.eq_iff_iff, List.isEmpty_iff, List.drop_eq_nil_iff, beq_iff_eq]
        omega
      have HD := Lib.hid hd
      clear hkg hsl hsl' hd hfo
      go_wp2
      try rw [Exit.noGoto_ret]
      go_ret
      exact ⟨retb (by rw [HC.out, HD.out]), HB.out⟩
    | succ g =>
      have hlt : k < xs.length := by omega
      have HG := Lib.hid hkg
      obtain ⟨b, o, rfl, hbB, hcl⟩ := hsl (by omega)
      obtain ⟨x, hx⟩ : ∃ x, xs[k]? = some x := ⟨_, List.getElem?_eq_getElem hlt⟩
      have k1 := hcl k x hx
      have hdx := drop_at hx
      rw [hdx] at hfo
      have HDX := Lib.hid hdx
      have hlev := hfo.1
      have HFT := Lib.hid hfo.2.2
      clear hcl hx hkg hsl hdx hfo
      obtain ⟨wo, rfl⟩ : ∃ wo : World, wo = wr := ⟨_, rfl⟩
      rcases hlev with hp | hh | hfr
      · have cw := fun w => wildcard_any x w
        rw [show wcI (dl x) = 43 by rw [hp]; exact wcI_plus] at cw
        have CW := Lib.hid cw
        have hxh : x ≠ hashB := by rw [hp]; exact fun e => hash_ne_plus e.symm
        clear cw
        by_cases hky2 : k < ys.length
        · obtain ⟨b', o', rfl, hbB', hcl'⟩ := hsl' (by omega)
          obtain ⟨y, hy⟩ : ∃ y, ys[k]? = some y := ⟨_, List.getElem?_eq_getElem hky2⟩
          have k2 := hcl' k y hy
          have hdy := drop_at hy
          have hstep : covB xs ys = (decide (y ≠ hashB) && covB (xs.drop (k + 1)) (ys.drop (k + 1))) := by
            rw [HC.out, HDX.out, hdy, covB, if_neg hxh]
            rw [if_pos hp]
          have HST := Lib.hid hstep
          have hbB2 := hbB'
          clear hcl' hy hdy hstep hsl' hp hxh
          by_cases hyh : y = hashB
          · have y35 : y.toList = [35] := tl_of hyh
            have HV : Hid (covB xs ys = false) := Lib.hid (by rw [HST.out]; simp [hyh])
            clear hyh
            go_wp2_with fail
            refine (CW.out _).mono ?_
            rintro e w2 ⟨rfl, hb2⟩
            have k2' := (hb2.cell (p := ⟨b', o' + k, none⟩) hbB2).trans k2
            have HB2 := Lib.hid hb2
            clear hb2
            go_wp2
            try rw [Exit.noGoto_ret]
            go_ret
            exact ⟨retb HV.out.symm, Below.step HB.out HB2.out⟩
          · have n35 : ¬ y.toList = [35] := tl_ne hyh
            have m35 : (y.toList == [35]) = false := beq_eq_false_iff_ne.2 n35
            have HV : Hid (covB xs ys = covB (xs.drop (k + 1)) (ys.drop (k + 1))) := Lib.hid (by rw [HST.out]; simp [hyh])
            clear hyh
            go_wp2_with fail
            refine (CW.out _).mono ?_
            rintro e w2 ⟨rfl, hb2⟩
            have k2' := (hb2.cell (p := ⟨b', o' + k, none⟩) hbB2).trans k2
            have HB2 := Lib.hid hb2
            clear hb2
            go_wp2
            go_roundg g
            case measure => omega
            case rel => exact ⟨k + 1, by have := HG.out; omega, by go_num, by omega, HV.out, HFT.out, Below.step HB.out HB2.out, HR.out.step HB2.out, HR'.out.step HB2.out⟩
        · have hv : covB xs ys = false := by
            rw [HC.out, HDX.out, show ys.drop k = [] from List.drop_eq_nil_of_le (by omega)]
            exact cov_nil _ hxh
          have HV := Lib.hid hv
          have q : decide ((k : Int) < (ys.length : Int)) = false := decide_eq_false (by omega)
          clear hv hp hxh hsl'
          go_wp2_with fail
          refine (CW.out _).mono ?_
          rintro e w2 ⟨rfl, hb2⟩
          have HB2 := Lib.hid hb2
          clear hb2
          go_wp2
          try rw [Exit.noGoto_ret]
          go_ret
          exact ⟨retb HV.out.symm, Below.step HB.out HB2.out⟩
      · have cw := fun w => wildcard_any x w
        rw [show wcI (dl x) = 35 by rw [hh]; exact wcI_hash] at cw
        have CW := Lib.hid cw
        have hv : covB xs ys = true := by rw [HC.out, HDX.out]; exact cov_hash _ _ hh
        have HV := Lib.hid hv
        clear cw hv hh hsl'
        go_wp2_with fail
        refine (CW.out _).mono ?_
        rintro e w2 ⟨rfl, hb2⟩
        have HB2 := Lib.hid hb2
        clear hb2
        go_wp2
        try rw [Exit.noGoto_ret]
        go_ret
        exact ⟨retb HV.out.symm, Below.step HB.out HB2.out⟩
      · have cw := fun w => wildcard_any x w
        rw [wcI_none hfr] at cw
        have CW := Lib.hid cw
        have hxh : x ≠ hashB := fun e => by subst e; exact absurd hfr (by decide +kernel)
        have hxp : x ≠ plusB := fun e => by subst e; exact absurd hfr (by decide +kernel)
        clear cw hfr
        by_cases hky2 : k < ys.length
        · obtain ⟨b', o', rfl, hbB', hcl'⟩ := hsl' (by omega)
          obtain ⟨y, hy⟩ : ∃ y, ys[k]? = some y := ⟨_, List.getElem?_eq_getElem hky2⟩
          have k2 := hcl' k y hy
          have hdy := drop_at hy
          have q1 : ((k : Int) == (ys.length : Int)) = false := beq_eq_false_iff_ne.2 (by omega)
          have hstep : covB xs ys = (decide (x = y) && covB (xs.drop (k + 1)) (ys.drop (k + 1))) := by
            rw [HC.out, HDX.out, hdy, covB, if_neg hxh]
            rw [if_neg hxp]
          have HST := Lib.hid hstep
          have hbB2 := hbB'
          clear hcl' hy hdy hstep hsl' hxp hxh
          by_cases hxy : x = y
          · subst hxy
            have HV : Hid (covB xs ys = covB (xs.drop (k + 1)) (ys.drop (k + 1))) := Lib.hid (by rw [HST.out]; simp)
            go_wp2_with fail
            refine (CW.out _).mono ?_
            rintro e w2 ⟨rfl, hb2⟩
            have k2' := (hb2.cell (p := ⟨b', o' + k, none⟩) hbB2).trans k2
            have HB2 := Lib.hid hb2
            clear hb2
            go_wp2
            go_roundg g
            case measure => omega
            case rel => exact ⟨k + 1, by have := HG.out; omega, by go_num, by omega, HV.out, HFT.out, Below.step HB.out HB2.out, HR.out.step HB2.out, HR'.out.step HB2.out⟩
          · have nxy := neqs hxy
            have HV : Hid (covB xs ys = false) := Lib.hid (by rw [HST.out]; simp [hxy])
            clear hxy
            go_wp2_with fail
            refine (CW.out _).mono ?_
            rintro e w2 ⟨rfl, hb2⟩
            have k2' := (hb2.cell (p := ⟨b', o' + k, none⟩) hbB2).trans k2
            have HB2 := Lib.hid hb2
            clear hb2
            go_wp2
            try rw [Exit.noGoto_ret]
            go_ret
            exact ⟨retb HV.out.symm, Below.step HB.out HB2.out⟩
        · have hv : covB xs ys = false := by
            rw [HC.out, HDX.out, show ys.drop k = [] from List.drop_eq_nil_of_le (by omega)]
            exact cov_nil _ hxh
          have HV := Lib.hid hv
          have q : ((k : Int) == (ys.length : Int)) = true := beq_iff_eq.2 (by omega)
          clear hv hxp hxh hsl'
          go_wp2_with fail
          refine (CW.out _).mono ?_
          rintro e w2 ⟨rfl, hb2⟩
          have HB2 := Lib.hid hb2
          clear hb2
          go_wp2
          try rw [Exit.noGoto_ret]
          go_ret
          exact ⟨retb HV.out.symm, Below.step HB.out HB2.out⟩

end Go.Proofs.YtoakhkiiefiebaaDoor.S1
