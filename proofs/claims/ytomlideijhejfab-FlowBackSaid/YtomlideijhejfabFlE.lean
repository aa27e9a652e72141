/-
  What the specification's Round of credits answers, walked. Conditions: few credits, all valid.
-/
import Derived.Test.YtomlideijhejfabFlD
namespace Go.Proofs.Ytomlideijhejfab
open Go.RowKit

set_option maxRecDepth 20000 in
set_option maxHeartbeats 4000000 in
theorem rRound_nil (A : Option Addr) (c : Nat) (last n : Int) (h1 : -9223372036854775808 ≤ last) (h2 : last ≤ 9223372036854775807) (w : World) :
    Calls Try.prog 24 #[.slice A 0 c, .int .i64 last, .int .i64 n] w (RetRd (rdC [] last n) w) := by
  have er : rdC [] last n = ([], last) := by
    have hn : nxC [] last = none := rfl
    unfold rdC
    cases (min n 1024).toNat with
    | zero => rfl
    | succ f => unfold rdF; rw [hn]; rfl
  rw [er]
  have HM := Lib.hid (make_ints 0 (by decide))
  have CN : Hid (∀ A c w, Calls Try.prog 22 #[.slice A 0 c, .int .i64 last] w (RetN none w)) := Lib.hid (fun A c w => rNext_loop A c [] last h1 h2 w (GL.nil _ _ _) (by simp) (fun x h => by cases h))
  have HSL := Lib.hid (fun w B => (GL.nil w B A : CrL w B A []))
  clear er h1 h2
  by_cases hn : 0 < n
  · have q1 : decide (0 < n) = true := decide_eq_true hn
    clear hn
    go_enter Try.func24, Try.ntmps24
    go_wp2_with (at_builtin; go_must (refine wpList_appC _ rfl _ _ rfl w.heap.size _ [] [] rfl (OwnG.made w 0 #[] w.heap.size (Nat.le_refl _) (by decide) rfl) A c rfl w.heap.size (HSL.out _ _) w ((Below.refl _ _).alloc (Nat.le_refl _) _) (by simp) (by simp) ?_); intro v1 w1 hown1 hb1 hB1; obtain ⟨A1, c1, rfl, hc1, hs1⟩ := hown1.ret gC_len; have hmk : (Instr.makeSlice 38 (.int .i64 0) (.int .i64 0)).run Try.prog w1 = .ok (.slice (some ⟨w1.heap.size, 0, none⟩) 0 0) (w1.alloc (.cells (((List.replicate 0 (0 : Int)).map iv).toArray) 3)) := HM.out w1)
    have HB0 := Lib.hid (hb1.alloc hb1.size (.cells (((List.replicate 0 (0 : Int)).map iv).toArray) 3))
    clear hown1 hc1 hs1 hb1 hB1 HM
    go_loopg [1, 10] 1 (fun g l v wr => g = 1 ∧ l = .int .i64 last ∧ v = .int .i64 0 ∧ Below w.heap.size w wr)
    case atStart => exact ⟨rfl, rfl, rfl, HB0.out⟩
    case round =>
      obtain ⟨rfl, rfl, rfl, hb⟩ := hrel
      have HB := Lib.hid hb
      clear hb HB0
      go_wp2_with fail
      refine (CN.out A1 c1 wr).mono ?_
      rintro e w2 ⟨rfl, hb2⟩
      have B2 := Lib.hid (stepB HB.out hb2)
      clear hb2
      go_wp2_with fail
      go_ret2
      exact ⟨some ⟨w1.heap.size, 0, none⟩, 0, rfl, Nat.le_refl _, CL.nil _ _ _, B2.out⟩
  · have q1 : decide (0 < n) = false := decide_eq_false hn
    clear hn CN
    go_enter Try.func24, Try.ntmps24
    go_wp2_with (at_builtin; go_must (refine wpList_appC _ rfl _ _ rfl w.heap.size _ [] [] rfl (OwnG.made w 0 #[] w.heap.size (Nat.le_refl _) (by decide) rfl) A c rfl w.heap.size (HSL.out _ _) w ((Below.refl _ _).alloc (Nat.le_refl _) _) (by simp) (by simp) ?_); intro v1 w1 hown1 hb1 hB1; obtain ⟨A1, c1, rfl, hc1, hs1⟩ := hown1.ret gC_len; have hmk : (Instr.makeSlice 38 (.int .i64 0) (.int .i64 0)).run Try.prog w1 = .ok (.slice (some ⟨w1.heap.size, 0, none⟩) 0 0) (w1.alloc (.cells (((List.replicate 0 (0 : Int)).map iv).toArray) 3)) := HM.out w1)
    have HB0 := Lib.hid (hb1.alloc hb1.size (.cells (((List.replicate 0 (0 : Int)).map iv).toArray) 3))
    clear hown1 hc1 hs1 hb1 hB1 HM
    go_loopg [1, 10] 1 (fun g l v wr => g = 1 ∧ l = .int .i64 last ∧ v = .int .i64 0 ∧ Below w.heap.size w wr)
    case atStart => exact ⟨rfl, rfl, rfl, HB0.out⟩
    case round =>
      obtain ⟨rfl, rfl, rfl, hb⟩ := hrel
      have HB := Lib.hid hb
      clear hb HB0
      go_wp2_with fail
      go_ret2
      exact ⟨some ⟨w1.heap.size, 0, none⟩, 0, rfl, Nat.le_refl _, CL.nil _ _ _, HB.out⟩
theorem okC_use {x : Int × Int} (h : okC x = true) (h1 : 0 < lfC x) : okC (useC x) = true := by
  rw [okC_iff] at h ⊢
  unfold lfC at h1
  unfold useC
  dsimp only
  split at h1 <;> omega
theorem ok_useAt {m : List (Int × Int)} {i : Nat} (hi : i < m.length) (h : ∀ x ∈ m, okC x = true) (h1 : 0 < lfC (atC m i)) : ∀ x ∈ useAt m i, okC x = true := fun x hx => by
  have hat : atC m i ∈ m := by unfold atC; rw [List.getD_eq_getElem?_getD, List.getElem?_eq_getElem hi]; exact List.getElem_mem hi
  rcases List.mem_or_eq_of_mem_set hx with h2 | h2
  · exact h x h2
  · rw [h2]; exact okC_use (h _ hat) h1
set_option maxRecDepth 20000 in
set_option maxHeartbeats 8000000 in
theorem rRound_cons (A : Option Addr) (c : Nat) (X : List (Int × Int)) (last n : Int) (h1 : -9223372036854775808 ≤ last) (h2 : last ≤ 9223372036854775807) (w : World) (hsl : CrL w w.heap.size A X) (hX : X.length ≤ 1000000) (hok : ∀ x ∈ X, okC x = true) (hX0 : 0 < X.length) :
    Calls Try.prog 24 #[.slice A X.length c, .int .i64 last, .int .i64 n] w (RetRd (rdC X last n) w) := by
  obtain ⟨Zs, hZs⟩ : ∃ Zs : Array Value, ((List.replicate X.length (0 : Int)).map iv).toArray = Zs := ⟨_, rfl⟩
  have hmk0 := make_ints X.length hX
  rw [hZs] at hmk0
  have HM := Lib.hid hmk0
  have HZ := Lib.hid hZs
  clear hmk0 hZs
  have CN := Lib.hid (fun (m : List (Int × Int)) (l : Int) (A : Option Addr) (c : Nat) w h1 h2 hs hm ho => rNext_loop A c m l h1 h2 w hs hm ho)
  have CT := Lib.hid (fun m u h w => rTakeC_any m u h w)
  have HSL := Lib.hid hsl
  have HOK := Lib.hid hok
  have HX0 := Lib.hid hX0
  have HL12 := Lib.hid (And.intro h1 h2)
  obtain ⟨N, hN⟩ : ∃ N : Nat, (min n 1024).toNat = N := ⟨_, rfl⟩
  obtain ⟨R, hR⟩ : ∃ R, rdC X last n = R := ⟨_, rfl⟩
  rw [hR]
  unfold rdC at hR
  rw [hN] at hR
  have HR := Lib.hid hR
  have HN := Lib.hid hN
  clear hR hN hsl hok h1 h2 hX0
  go_enter Try.func24, Try.ntmps24
  go_wp2_with (at_builtin; go_must (refine wpList_appC _ rfl _ _ rfl w.heap.size _ [] X rfl (OwnG.made w 0 #[] w.heap.size (Nat.le_refl _) (by decide) rfl) A c rfl w.heap.size ((HSL.out.below (below_new w _))) w ((Below.refl _ _).alloc (Nat.le_refl _) _) (by simp) (by simp; omega) ?_); intro v1 w1 hown1 hb1 hB1; rw [List.nil_append] at hown1; obtain ⟨gM, c1, rfl, hgM, hrow⟩ := rowC_own hown1 HX0.out; have hmk := HM.out w1)
  obtain ⟨w2, hw2⟩ : ∃ w2, w2 = w1.alloc (.cells Zs 3) := ⟨_, rfl⟩
  rw [← hw2]
  obtain ⟨gO, hgO⟩ : ∃ gO, w1.heap.size = gO := ⟨_, rfl⟩
  have hO : BK 3 w2 gO ((List.replicate X.length (0 : Int)).map iv) := by rw [hw2, ← hgO, ← HZ.out]; exact BK.new _ _ _
  have hR2 : RowC w2 gM X := by rw [hw2]; exact hrow.alloc _
  have hB2 : Below w.heap.size w w2 := by rw [hw2]; exact hb1.alloc hb1.size _
  have hMO : gM < gO := by rw [← hgO]; exact hrow.lt
  rw [hgO]
  have HO2 := Lib.hid hO
  have HR2 := Lib.hid hR2
  have HB2 := Lib.hid hB2
  have HMO := Lib.hid hMO
  have HGM := Lib.hid hgM
  clear hw2 hgO hO hR2 hB2 hMO hgM hown1 hb1 hB1 hrow hmk HM
  go_loopg [1, 10] N (fun g l v wr => ∃ (k : Nat) (m : List (Int × Int)) (out : List Int) (la : Int), k + g = N ∧ v = .int .i64 k ∧ l = .int .i64 la ∧ (-9223372036854775808 ≤ la ∧ la ≤ 9223372036854775807) ∧ rdF g m out la = R ∧ m.length = X.length ∧ out.length = X.length ∧ (∀ x ∈ m, okC x = true) ∧ (∀ x ∈ out, 0 ≤ x ∧ x ≤ k) ∧ RowC wr gM m ∧ BK 3 wr gO (out.map iv) ∧ Below w.heap.size w wr)
  case atStart => exact ⟨0, X, List.replicate X.length 0, last, by omega, rfl, rfl, HL12.out, HR.out, rfl, by simp, HOK.out, fun x hx => by rw [List.eq_of_mem_replicate hx]; omega, HR2.out, HO2.out, HB2.out⟩
  case round =>
    obtain ⟨k, m, out, la, hkg, rfl, rfl, hla, hrd, hml, hol, hmok, hoz, hrow, hbk, hb0⟩ := hrel
    have HG := Lib.hid hkg
    have HRD := Lib.hid hrd
    have HLA := Lib.hid hla
    have HML := Lib.hid hml
    have HOL := Lib.hid hol
    have HMK := Lib.hid hmok
    have HOZ := Lib.hid hoz
    have HROW := Lib.hid hrow
    have HBK := Lib.hid hbk
    have HB := Lib.hid hb0
    have hk1024 : k ≤ 1024 := by have := HN.out; omega
    clear hrd hla hml hol hmok hoz hrow hbk hb0 HR HR2 HO2 HB2 HOK
    cases gk with
    | zero =>
      have hkN : k = N := by omega
      have hend : ¬ ((k : Int) < n ∧ (k : Int) < 1024) := by have := HN.out; omega
      have HF : Hid ((out, la) = R) := Lib.hid HRD.out
      clear hkg
      by_cases e1 : (k : Int) < n
      · have q1 : decide ((k : Int) < n) = true := decide_eq_true e1
        have q2 : decide ((k : Int) < 1024) = false := decide_eq_false (by omega)
        have q2n : decide (k < 1024) = false := decide_eq_false (by omega)
        clear e1 hend hkN
        go_wp2_with fail
        go_ret2
        rw [← HF.out, ← HOL.out]
        exact ⟨_, _, rfl, Nat.le_refl _, il_block HBK.out, HB.out⟩
      · have q1 : decide ((k : Int) < n) = false := decide_eq_false e1
        clear e1 hend hkN
        go_wp2_with fail
        go_ret2
        rw [← HF.out, ← HOL.out]
        exact ⟨_, _, rfl, Nat.le_refl _, il_block HBK.out, HB.out⟩
    | succ g =>
      have hlt : (k : Int) < n ∧ (k : Int) < 1024 := by have := HN.out; omega
      have q1 : decide ((k : Int) < n) = true := decide_eq_true hlt.1
      have q2 : decide ((k : Int) < 1024) = true := decide_eq_true hlt.2
      have q2n : decide (k < 1024) = true := decide_eq_true (by omega)
      have cn := CN.out m la (some ⟨gM, 0, none⟩) c1 wr HLA.out.1 HLA.out.2 HROW.out.row (by have := HML.out; omega) HMK.out
      rw [HML.out] at cn
      have hrd := HRD.out
      have hlt2 := @nxC_lt m la
      have hpos := @nxC_pos m la
      rw [rdF] at hrd
      obtain ⟨o, ho⟩ : ∃ o, nxC m la = o := ⟨_, rfl⟩
      rw [ho] at cn hrd hlt2 hpos
      have CNx := Lib.hid cn
      clear cn ho hlt hkg
      cases o with
      | none =>
        have HF : Hid ((out, la) = R) := Lib.hid hrd
        clear hrd hlt2 hpos
        go_wp2_with fail
        refine CNx.out.mono ?_
        rintro e w3 ⟨rfl, hb3⟩
        have HBK3 := Lib.hid (HBK.out.step hb3)
        have HB3 := Lib.hid (stepB HB.out hb3)
        clear hb3
        go_wp2_with fail
        go_ret2
        rw [← HF.out, ← HOL.out]
        exact ⟨_, _, rfl, Nat.le_refl _, il_block HBK3.out, HB3.out⟩
      | some i =>
        have hi := hlt2 rfl
        have hp := hpos rfl
        have HF : Hid (rdF g (useAt m i) (addAt out i) (i : Int) = R) := Lib.hid hrd
        have HOKN := Lib.hid (ok_useAt hi HMK.out hp)
        have hio : i < out.length := by rw [HOL.out, ← HML.out]; exact hi
        obtain ⟨x, hx⟩ : ∃ x, m[i]? = some x := ⟨_, List.getElem?_eq_getElem hi⟩
        obtain ⟨y, hy⟩ : ∃ y, out[i]? = some y := ⟨_, List.getElem?_eq_getElem hio⟩
        have hatm : atC m i = x := by unfold atC; rw [List.getD_eq_getElem?_getD, hx]; rfl
        have hao : out.getD i 0 = y := by rw [List.getD_eq_getElem?_getD, hy]; rfl
        have hxok := HMK.out x (List.mem_of_getElem? hx)
        have hyr := HOZ.out y (List.mem_of_getElem? hy)
        have HUM : Hid (useAt m i = m.set i (useC x)) := Lib.hid (by unfold useAt; rw [hatm])
        have HAO : Hid (addAt out i = out.set i (y + 1)) := Lib.hid (by unfold addAt; rw [hao])
        rw [hatm] at hp
        have HXI := Lib.hid hx
        have HYR := Lib.hid hyr
        have HYI := Lib.hid hy
        have HII := Lib.hid (And.intro hi hio)
        have j1 : (0 : Int) ≤ (i : Int) := by omega
        have j2 : (i : Int) < (X.length : Int) := by have := HML.out; omega
        obtain ⟨mx, us⟩ := x
        have CTx := Lib.hid (fun w => CT.out mx us hxok w)
        have ht : takeC mx us = us + 1 := by unfold takeC; rw [if_neg (by omega)]
        rw [ht, decide_eq_true hp] at CTx
        have u1 : wrap64 (y + 1) = y + 1 := wrap64_id _ (by omega) (by omega)
        have hyb : 0 ≤ y ∧ y ≤ 1024 := by omega
        have hne : gM ≠ gO := Nat.ne_of_lt HMO.out
        have hne2 : gO ≠ gM := Nat.ne_of_gt HMO.out
        clear hrd hlt2 hpos hi hp hio hx hy hatm hao hxok hyr ht
        go_wp2_with fail
        refine CNx.out.mono ?_
        rintro e w3 ⟨rfl, hb3⟩
        have HROW3 := Lib.hid (HROW.out.step hb3)
        have HBK3 := Lib.hid (HBK.out.step hb3)
        have HB3 := Lib.hid (stepB HB.out hb3)
        clear hb3
        obtain ⟨d0, d1⟩ := HROW3.out.cells HXI.out
        dsimp only at d0 d1
        go_wp2_with fail
        refine (CTx.out w3).mono ?_
        rintro e w4 ⟨rfl, hb4⟩
        have HROW4 := Lib.hid (HROW3.out.step hb4)
        have HBK4 := Lib.hid (HBK3.out.step hb4)
        have HB4 := Lib.hid (stepB HB3.out hb4)
        clear hb4 d0 d1
        obtain ⟨d0, d1⟩ := HROW4.out.cells HXI.out
        dsimp only at d0 d1
        have f0 := HROW4.out.free (i * 2)
        have f1 := HROW4.out.free (i * 2 + 1)
        have d2 : w4.cell? ⟨gO, i, none⟩ = some (.int .i64 y) := HBK4.out.cell i (by rw [List.getElem?_map, HYI.out]; rfl)
        have f2 := HBK4.out.free i
        go_wp2_with fail
        go_roundg g
        case measure => omega
        case rel =>
          refine ⟨k + 1, useAt m i, addAt out i, (i : Int), by have := HG.out; omega, by first | rfl | exact nxt k (by omega), rfl, by omega, HF.out, by rw [use_len]; exact HML.out, by rw [add_len]; exact HOL.out, HOKN.out, ?_, ?_, ?_, ?_⟩
          · rw [HAO.out]
            intro z hz
            rcases List.mem_or_eq_of_mem_set hz with h | h
            · have := HOZ.out z h; omega
            · have := HYR.out; omega
          · rw [HUM.out]
            exact (HROW4.out.set HII.out.1 (mx, us + 1)).other (by exact hne) _
          · rw [HAO.out, List.map_set]
            exact ((HBK4.out.other hne2 _).other hne2 _).set i _
          · exact ((HB4.out.setCell (p := ⟨gM, i * 2, none⟩) HGM.out _).setCell (p := ⟨gM, i * 2 + 1, none⟩) HGM.out _).setCell (p := ⟨gO, i, none⟩) (Nat.le_trans HGM.out (Nat.le_of_lt HMO.out)) _
theorem rRound_any (A : Option Addr) (c : Nat) (X : List (Int × Int)) (last n : Int) (h1 : -9223372036854775808 ≤ last) (h2 : last ≤ 9223372036854775807) (w : World) (hsl : CrL w w.heap.size A X) (hX : X.length ≤ 1000000) (hok : ∀ x ∈ X, okC x = true) :
    Calls Try.prog 24 #[.slice A X.length c, .int .i64 last, .int .i64 n] w (RetRd (rdC X last n) w) := by
  cases X with
  | nil => exact rRound_nil A c last n h1 h2 w
  | cons x xs => exact rRound_cons A c (x :: xs) last n h1 h2 w hsl hX hok (by simp)
end Go.Proofs.Ytomlideijhejfab
