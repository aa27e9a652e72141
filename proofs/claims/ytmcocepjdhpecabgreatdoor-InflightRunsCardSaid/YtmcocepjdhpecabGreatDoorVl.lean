/-
  What checkItem and Check of inflight answer: the first error of an item, of a window. Conditions: the window reads as data; lengths fit an int; the library's bound on short texts holds a number.
  What At, item and Check of brokerref14 answer: the first error of an item, of a window. Conditions: the window reads as data; lengths fit an int.
-/
import Derived.Test.YtmcocepjdhpecabGreatDoorWo
namespace Go.Proofs.YtmcocepjdhpecabGreatDoor
open Go.RowKit
open S2 (BK Put)

abbrev zeroFl : List Value := [.int .i64 0, .int .i64 0, .string ByteArray.empty, .string ByteArray.empty, .int .i64 0, .bool false, .int .i64 0, .int .i64 0, .string ByteArray.empty, .int .i64 0, .slice none 0 0]
theorem checkR_level {m : Msg} (h : checkR m = 0) : 0 ≤ m.level ∧ m.level ≤ 2 := by
  unfold checkR at h
  split at h
  · omega
  split at h
  · omega
  split at h
  · omega
  omega
theorem item_cases {F : List Fl} {X : List Int} {i : Nat} {x : Fl} {R : Int} (h : itemR F X i x = R) :
    (x.id ∉ X → 15 = R) ∧ (x.id ∈ X → (posF F x.id < i → 15 = R) ∧ (¬ posF F x.id < i → (checkR x.m ≠ 0 → (checkR x.m : Int) = R) ∧ (checkR x.m = 0 → (x.m.level = 0 → 14 = R) ∧ (x.m.level ≠ 0 → ((x.st = 1 ∨ (x.st = 2 ∧ x.m.level = 2)) → 0 = R) ∧ (¬ (x.st = 1 ∨ (x.st = 2 ∧ x.m.level = 2)) → 9 = R))))) := by
  unfold itemR at h
  refine ⟨fun h1 => ?_, fun h1 => ⟨fun h2 => ?_, fun h2 => ⟨fun h3 => ?_, fun h3 => ⟨fun h4 => ?_, fun h4 => ⟨fun h5 => ?_, fun h5 => ?_⟩⟩⟩⟩⟩
  · rw [if_pos (Or.inl h1)] at h; exact h
  · rw [if_pos (Or.inr h2)] at h; exact h
  · rw [if_neg (fun q => q.elim (fun q => q h1) h2), if_pos (by simpa using h3)] at h; exact h
  · rw [if_neg (fun q => q.elim (fun q => q h1) h2), if_neg (by simpa using h3), if_pos h4] at h; exact h
  · rw [if_neg (fun q => q.elim (fun q => q h1) h2), if_neg (by simpa using h3), if_neg h4, if_pos h5] at h; exact h
  · rw [if_neg (fun q => q.elim (fun q => q h1) h2), if_neg (by simpa using h3), if_neg h4, if_neg h5] at h; exact h
theorem win_cases {L : Int} {F : List Fl} {X : List Int} {l R : Int} (h : winR (L, F, X, l) = R) :
    ((L < 0 ∨ 32 < L) → 1 = R) ∧ (¬ (L < 0 ∨ 32 < L) → (S2.ckI X l ≠ 0 → S2.ckI X l = R) ∧ (S2.ckI X l = 0 → (32 < F.length → 5 = R) ∧ (¬ 32 < F.length → (itemsR F X 0 F ≠ 0 → itemsR F X 0 F = R) ∧ (itemsR F X 0 F = 0 → (F.length < X.length → 15 = R) ∧ (¬ F.length < X.length → 0 = R))))) := by
  unfold winR at h
  dsimp only at h
  refine ⟨fun h1 => ?_, fun h1 => ⟨fun h2 => ?_, fun h2 => ⟨fun h3 => ?_, fun h3 => ⟨fun h4 => ?_, fun h4 => ⟨fun h5 => ?_, fun h5 => ?_⟩⟩⟩⟩⟩
  · rw [if_pos h1] at h; exact h
  · rw [if_neg h1, if_pos h2] at h; exact h
  · rw [if_neg h1, if_neg (by simpa using h2), if_pos h3] at h; exact h
  · rw [if_neg h1, if_neg (by simpa using h2), if_neg h3, if_pos h4] at h; exact h
  · rw [if_neg h1, if_neg (by simpa using h2), if_neg h3, if_neg (by simpa using h4), if_pos h5] at h; exact h
  · rw [if_neg h1, if_neg (by simpa using h2), if_neg h3, if_neg (by simpa using h4), if_neg h5] at h; exact h
theorem items_step {F : List Fl} {X : List Int} {k : Nat} {x : Fl} (h : F[k]? = some x) :
    (itemR F X k x = 0 → itemsR F X k (F.drop k) = itemsR F X (k + 1) (F.drop (k + 1))) ∧ (itemR F X k x ≠ 0 → itemsR F X k (F.drop k) = itemR F X k x) := by
  obtain ⟨hk, e⟩ := List.getElem?_eq_some_iff.1 h
  have hd : F.drop k = x :: F.drop (k + 1) := by rw [List.drop_eq_getElem_cons hk, e]
  rw [hd]
  have he : itemsR F X k (x :: F.drop (k + 1)) = if itemR F X k x ≠ 0 then itemR F X k x else itemsR F X (k + 1) (F.drop (k + 1)) := rfl
  rw [he]
  refine ⟨fun h1 => ?_, fun h1 => ?_⟩
  · rw [if_neg (by simpa using h1)]
  · rw [if_pos h1]
theorem posF_lt {F : List Fl} {i : Nat} {x : Fl} (h : F[i]? = some x) : posF F x.id < F.length := by
  unfold posF
  rw [List.findIdx_lt_length]
  exact ⟨x, List.mem_of_getElem? h, by simp⟩
/-- the place of an identifier, -1 if there is none -/
def atR (F : List Fl) (n : Int) : Int := if posF F n < F.length then posF F n else -1
theorem atR_pos {F : List Fl} {n : Int} (h : posF F n < F.length) : atR F n = posF F n := if_pos h
theorem atR_neg {F : List Fl} {n : Int} (h : ¬ posF F n < F.length) : atR F n = -1 := if_neg h

set_option maxRecDepth 20000 in
set_option maxHeartbeats 4000000 in
theorem checkItem_any (L : Int) (A : Option Addr) (c : Nat) (xs : List FE) (A2 : Option Addr) (c2 : Nat) (X : List Int) (l : Int) (i : Nat) (x : FE) (w : World) (hok : S1.Okw w) (hw : WOk w A c xs A2 c2 X) (hx : xs[i]? = some x) (hn : xs.length ≤ 100000) (hX : S2.ckI X l = 0) (hid : -9223372036854775808 ≤ x.f.id ∧ x.f.id ≤ 9223372036854775807) :
    Calls Tryz.prog 42 #[wv L A c xs A2 c2 X l, .int .i64 i] w fun e w' => e = .returned (.int .i64 (itemR (xs.map FE.f) X i x.f)) ∧ Below w.heap.size w w' := by
  have hlt : i < xs.length := (List.getElem?_eq_some_iff.1 hx).1
  have HHS := Lib.hid (fun w1 h => S2.iHas_any A2 c2 X l x.f.id w1 h hw.2.2.2 hX hid.1 hid.2)
  have HPO := Lib.hid (fun w1 h => position_any L A c xs A2 c2 X l x.f.id w1 h hn)
  have HCK := Lib.hid (fun w1 ho h => check_any x.f.m x.a x.c w1 ho h)
  obtain ⟨R, hR⟩ : ∃ R, itemR (xs.map FE.f) X i x.f = R := ⟨_, rfl⟩
  rw [hR]
  have HC := Lib.hid (item_cases hR)
  clear hR
  generalize posF (xs.map FE.f) x.f.id = ps at HPO HC
  have HW0 : Hid (WOk (w.alloc (.cells (wcs L A c xs A2 c2 X l).toArray 28)) A c xs A2 c2 X) := Lib.hid (hw.step (S2.below_new w _))
  have HOK := Lib.hid hok
  have j1 : (0 : Int) ≤ (i : Int) := by omega
  have j2 : (i : Int) < (xs.length : Int) := by omega
  clear hw hok hX hid hn hlt
  go_enter Tryz.func42, Tryz.ntmps42
  go_upto_region 1 with fail
  refine name_world (C := fun w1 => Code.wp _ _ _ _ w1) (w.alloc (.cells (wcs L A c xs A2 c2 X l).toArray 28)) ?_
  intro w1 hw1
  rw [← hw1] at HW0
  have T_w1 : Hid (BK 28 w1 w.heap.size (wcs L A c xs A2 c2 X l)) := Lib.hid (by rw [hw1]; exact BK.new w _ _)
  have B_w1 : Hid (Below w.heap.size w w1) := Lib.hid (by rw [hw1]; exact S2.below_new w _)
  obtain ⟨b, o, hA, hbB, hc, hpl⟩ := HW0.out.1.at_ hx
  subst hA
  have HLD := Lib.hid (load_item hc)
  have HPL := Lib.hid hpl
  have d1 := T_w1.out.cell 1 rfl
  clear hw1 hc hpl hbB hx
  go_upto_region 2 with first
    | (refine wpList_load_v (by rfl) 56 _ rfl ⟨b, o + i * 11, none⟩ (by simp [Act.eval, Act.put]) (fV x) HLD.out ?_)
    | (refine S2.wpList_store_all (by rfl) 56 (.tmp 5) (.tmp 11) rfl rfl w1.heap.size rfl (gF x) rfl 56 zeroFl (BK.new w1 _ _) flSize rfl (gF_one x) ?_; intro w2 hM hP; have F_w2 := Lib.hid hM; have T_w2 := Lib.hid (hP.other (T_w1.out.alloc _) (by have := T_w1.out.lt; omega)); have B_w2 := Lib.hid (hP.below (stepB B_w1.out (S2.below_new w1 _)) B_w1.out.size); have B1_w2 := Lib.hid (hP.below (S2.below_new w1 _) (Nat.le_refl _)); clear hM hP)
  have O_w2 := Lib.hid (HW0.out.step B1_w2.out)
  have P_w2 := Lib.hid (HPL.out.step B1_w2.out)
  clear T_w1 B_w1 HW0 HPL HLD B1_w2 d1
  have f0 := F_w2.out.cell 0 rfl

  by_cases hin : x.f.id ∈ X
  rotate_left
  · rw [decide_eq_false hin] at HHS
    have HRR := Lib.hid (HC.out.1 hin)
    clear hin HC
    go_wp2_with first
      | (refine wpList_load_v (by rfl) 26 _ rfl ⟨w.heap.size, 2, none⟩ rfl (S2.pv A2 c2 X l) (bk_pool T_w2.out) ?_)
    refine (HHS.out w2 O_w2.out.2.2.1).mono ?_
    rintro e w3 ⟨rfl, hb⟩
    have B_w3 := Lib.hid (stepB B_w2.out hb)
    clear hb f0
    go_wp2
    go_ret
    exact ⟨S2.ret_i HRR.out, B_w3.out⟩
  rw [decide_eq_true hin] at HHS
  have HC1 := Lib.hid (HC.out.2 hin)
  clear hin HC
  go_wp2_with first
    | (refine wpList_load_v (by rfl) 26 _ rfl ⟨w.heap.size, 2, none⟩ rfl (S2.pv A2 c2 X l) (bk_pool T_w2.out) ?_)
  refine (HHS.out w2 O_w2.out.2.2.1).mono ?_
  rintro e w3 ⟨rfl, hb⟩
  have T_w3 := Lib.hid (T_w2.out.step hb)
  have F_w3 := Lib.hid (F_w2.out.step hb)
  have B_w3 := Lib.hid (stepB B_w2.out hb)
  have O_w3 := Lib.hid (O_w2.out.step hb)
  have P_w3 := Lib.hid (P_w2.out.step hb)
  have f0 := F_w3.out.cell 0 rfl
  clear hb T_w2 F_w2 B_w2 O_w2 P_w2 HHS
  go_wp2_with first
    | (refine wpList_load_v (by rfl) 28 _ rfl ⟨w.heap.size, 0, none⟩ rfl (wv L (some ⟨b, o, none⟩) c xs A2 c2 X l) (S2.run_load_all T_w3.out Tryz.underlying28 rfl winSize) ?_)
  refine (HPO.out w3 O_w3.out.1).mono ?_
  rintro e w4 ⟨rfl, hb⟩
  have F_w4 := Lib.hid (F_w3.out.step hb)
  have B_w4 := Lib.hid (stepB B_w3.out hb)
  have P_w4 := Lib.hid (P_w3.out.step hb)
  clear hb T_w3 F_w3 B_w3 O_w3 P_w3 HPO
  by_cases hps : ps < i
  · have q1 : decide ((ps : Int) < (i : Int)) = true := decide_eq_true (by omega)
    have q1' : decide (ps < i) = true := decide_eq_true hps
    have HRR := Lib.hid (HC1.out.1 hps)
    clear hps HC1
    go_wp2
    go_ret
    exact ⟨S2.ret_i HRR.out, B_w4.out⟩
  have q1 : decide ((ps : Int) < (i : Int)) = false := decide_eq_false (by omega)
  have q1' : decide (ps < i) = false := decide_eq_false hps
  have HC2 := Lib.hid (HC1.out.2 hps)
  clear hps HC1
  go_wp2_with first
    | (refine wpList_load_v (by rfl) 34 _ rfl ⟨w1.heap.size, 2, none⟩ rfl (msgV x.f.m x.a x.c) (bk_msg F_w4.out) ?_)
  refine (HCK.out w4 (HOK.out.step B_w4.out) P_w4.out).mono ?_
  rintro e w5 ⟨rfl, hb⟩
  have B_w5 := Lib.hid (stepB B_w4.out hb)
  have F_w5 := Lib.hid (F_w4.out.step hb)
  have k1 := F_w5.out.cell 1 rfl
  have k4 := F_w5.out.cell 4 rfl
  clear hb B_w4 F_w4 P_w4 HCK q1 q1'
  by_cases hc : checkR x.f.m = 0
  rotate_left
  · have q3 : ((checkR x.f.m : Int) != 0) = true := by simp; omega
    have HRR := Lib.hid (HC2.out.1 hc)
    clear hc HC2
    generalize ((checkR x.f.m : Nat) : Int) = z at q3 HRR ⊢
    go_wp2
    go_ret
    exact ⟨S2.ret_i HRR.out, B_w5.out⟩
  have HLV := Lib.hid (checkR_level hc)
  have HC3 := Lib.hid (HC2.out.2 hc)
  rw [hc]
  clear hc HC2
  by_cases hl : x.f.m.level = 0
  · have q4 : (x.f.m.level == 0) = true := by simp [hl]
    have HRR := Lib.hid (HC3.out.1 hl)
    clear hl HC3
    go_wp2
    go_ret
    exact ⟨S2.ret_i HRR.out, B_w5.out⟩
  have q4 : (x.f.m.level == 0) = false := by simp [hl]
  have HC4 := Lib.hid (HC3.out.2 hl)
  have HL12 : Hid (x.f.m.level = 1 ∨ x.f.m.level = 2) := Lib.hid (by have := HLV.out; omega)
  clear hl HC3
  by_cases h1 : x.f.st = 1
  · have q5 : (x.f.st == 1) = true := by simp [h1]
    have HRR := Lib.hid (HC4.out.1 (Or.inl h1))
    clear h1 HC4
    go_wp2
    go_ret
    exact ⟨S2.ret_i HRR.out, B_w5.out⟩
  have q5 : (x.f.st == 1) = false := by simp [h1]
  by_cases h2 : x.f.st = 2
  · have q6 : (x.f.st == 2) = true := by simp [h2]
    by_cases h3 : x.f.m.level = 2
    · have q7 : (x.f.m.level == 2) = true := by simp [h3]
      have HRR := Lib.hid (HC4.out.1 (Or.inr ⟨h2, h3⟩))
      clear h1 h2 h3 HC4
      go_wp2
      go_ret
      exact ⟨S2.ret_i HRR.out, B_w5.out⟩
    · have q7 : (x.f.m.level == 2) = false := by simp [h3]
      have HRR := Lib.hid (HC4.out.2 (fun h => h.elim h1 (fun h => h3 h.2)))
      clear h1 h2 h3 HC4
      go_wp2
      go_ret
      exact ⟨S2.ret_i HRR.out, B_w5.out⟩
  · have q6 : (x.f.st == 2) = false := by simp [h2]
    have HRR := Lib.hid (HC4.out.2 (fun h => h.elim h1 (fun h => h2 h.1)))
    clear h1 h2 HC4
    go_wp2
    go_ret
    exact ⟨S2.ret_i HRR.out, B_w5.out⟩

set_option maxRecDepth 20000 in
set_option maxHeartbeats 4000000 in
theorem wcheck_any (L : Int) (A : Option Addr) (c : Nat) (xs : List FE) (A2 : Option Addr) (c2 : Nat) (X : List Int) (l : Int) (w : World) (hok : S1.Okw w) (hw : WOk w A c xs A2 c2 X) (hXl : X.length ≤ 9223372036854775807) (hnl : xs.length ≤ 9223372036854775807) (hid : ∀ x ∈ xs, -9223372036854775808 ≤ x.f.id ∧ x.f.id ≤ 9223372036854775807) (hXb : ∀ x ∈ X, -9223372036854775808 ≤ x ∧ x ≤ 9223372036854775807) :
    Calls Tryz.prog 14 #[wv L A c xs A2 c2 X l] w fun e w' => e = .returned (.int .i64 (winR (L, xs.map FE.f, X, l))) ∧ Below w.heap.size w w' := by
  have HPC := Lib.hid (fun w1 h => S2.iCheck_any A2 c2 X l w1 h hw.2.2.2 hXl hXb)
  have HIT := Lib.hid (fun i x w1 ho h hn hx hX => checkItem_any L A c xs A2 c2 X l i x w1 ho h hx hn hX (hid x (List.mem_of_getElem? hx)))
  obtain ⟨R, hR⟩ : ∃ R, winR (L, xs.map FE.f, X, l) = R := ⟨_, rfl⟩
  rw [hR]
  have HC := Lib.hid (win_cases hR)
  have HW0 : Hid (WOk (w.alloc (.cells (wcs L A c xs A2 c2 X l).toArray 28)) A c xs A2 c2 X) := Lib.hid (hw.step (S2.below_new w _))
  have HOK := Lib.hid hok
  clear hR hw hok hid hXb
  go_enter Tryz.func14, Tryz.ntmps14
  go_upto_region 1 with fail
  refine name_world (C := fun w1 => Code.wp _ _ _ _ w1) (w.alloc (.cells (wcs L A c xs A2 c2 X l).toArray 28)) ?_
  intro w1 hw1
  rw [← hw1] at HW0
  have T_w1 : Hid (BK 28 w1 w.heap.size (wcs L A c xs A2 c2 X l)) := Lib.hid (by rw [hw1]; exact BK.new w _ _)
  have B_w1 : Hid (Below w.heap.size w w1) := Lib.hid (by rw [hw1]; exact S2.below_new w _)
  have d0 := T_w1.out.cell 0 rfl
  clear hw1
  by_cases hL : L < 0 ∨ 32 < L
  · have HRR := Lib.hid (HC.out.1 hL)
    clear HC
    by_cases h1 : L < 0
    · have q1 : decide (L < 0) = true := decide_eq_true h1
      clear hL h1
      go_wp2
      go_ret
      exact ⟨S2.ret_i HRR.out, B_w1.out⟩
    · have q1 : decide (L < 0) = false := decide_eq_false h1
      have q2 : decide (32 < L) = true := decide_eq_true (by omega)
      clear hL h1
      go_wp2
      go_ret
      exact ⟨S2.ret_i HRR.out, B_w1.out⟩
  have q1 : decide (L < 0) = false := decide_eq_false (by omega)
  have q2 : decide (32 < L) = false := decide_eq_false (by omega)
  have HC1 := Lib.hid (HC.out.2 hL)
  clear hL HC
  go_wp2_with first
    | (refine wpList_load_v (by rfl) 26 _ rfl ⟨w.heap.size, 2, none⟩ rfl (S2.pv A2 c2 X l) (bk_pool T_w1.out) ?_)
  refine (HPC.out w1 HW0.out.2.2.1).mono ?_
  rintro e w2 ⟨rfl, hb⟩
  have T_w2 := Lib.hid (T_w1.out.step hb)
  have O_w2 := Lib.hid (HW0.out.step hb)
  have B_w2 := Lib.hid (stepB B_w1.out hb)
  have d1 := T_w2.out.cell 1 rfl
  have d2 := T_w2.out.cell 2 rfl
  clear hb T_w1 HW0 B_w1 d0 q1 q2 HPC
  by_cases hX : S2.ckI X l = 0
  rotate_left
  · have q3 : (S2.ckI X l != 0) = true := by simp [hX]
    have HRR := Lib.hid (HC1.out.1 hX)
    clear HC1 HIT hX
    generalize S2.ckI X l = z at q3 HRR ⊢
    go_wp2
    go_ret
    exact ⟨S2.ret_i HRR.out, B_w2.out⟩
  have HC2 := Lib.hid (HC1.out.2 hX)
  have HX := Lib.hid hX
  rw [hX]
  clear hX HC1
  by_cases hn : 32 < xs.length
  · have q4 : decide ((32 : Int) < (xs.length : Int)) = true := decide_eq_true (by omega)
    have q4' : decide (32 < xs.length) = true := decide_eq_true hn
    have HRR := Lib.hid (HC2.out.1 (by rw [List.length_map]; exact hn))
    clear HC2 hn
    go_wp2
    go_ret
    exact ⟨S2.ret_i HRR.out, B_w2.out⟩
  have q4 : decide ((32 : Int) < (xs.length : Int)) = false := decide_eq_false (by omega)
  have q4' : decide (32 < xs.length) = false := decide_eq_false hn
  have HC3 := Lib.hid (HC2.out.2 (by rw [List.length_map]; exact hn))
  have HN : Hid (xs.length ≤ 100000) := Lib.hid (by omega)
  clear HC2
  go_wp2_with fail
  go_loopg [27] xs.length (fun g v wr => ∃ k : Nat, k + g = xs.length ∧ v = .int .i64 k ∧ itemsR (xs.map FE.f) X k ((xs.map FE.f).drop k) = itemsR (xs.map FE.f) X 0 (xs.map FE.f) ∧ Below w2.heap.size w2 wr)
  case atStart => exact ⟨0, by omega, rfl, rfl, Below.refl _ _⟩
  case round =>
    obtain ⟨k, hkg, rfl, hit, hb0⟩ := hrel
    have HI := Lib.hid hit
    have HB0 := Lib.hid hb0
    have HK := Lib.hid hkg
    have B_wr := Lib.hid (stepB B_w2.out hb0)
    have T_wr := Lib.hid (T_w2.out.step hb0)
    have O_wr := Lib.hid (O_w2.out.step hb0)
    clear hit hb0 d1 d2
    have d1 := T_wr.out.cell 1 rfl
    have d2 := T_wr.out.cell 2 rfl
    cases gk with
    | zero =>
      obtain rfl : k = xs.length := by omega
      have h0 : itemsR (xs.map FE.f) X 0 (xs.map FE.f) = 0 := by
        rw [← HI.out, List.drop_of_length_le (by rw [List.length_map]; exact Nat.le_refl _)]; rfl
      have HC4 := Lib.hid (HC3.out.2 h0)
      clear h0 HI HC3 hkg HIT
      by_cases hlen : xs.length < X.length
      · have q5 : decide ((xs.length : Int) < (X.length : Int)) = true := decide_eq_true (by omega)
        have q5' : decide (xs.length < X.length) = true := decide_eq_true hlen
        have HRR := Lib.hid (HC4.out.1 (by rw [List.length_map]; exact hlen))
        clear HC4 hlen
        go_wp2
        go_ret
        exact ⟨S2.ret_i HRR.out, B_wr.out⟩
      · have q5 : decide ((xs.length : Int) < (X.length : Int)) = false := decide_eq_false (by omega)
        have q5' : decide (xs.length < X.length) = false := decide_eq_false hlen
        have HRR := Lib.hid (HC4.out.2 (by rw [List.length_map]; exact hlen))
        clear HC4 hlen
        go_wp2
        go_ret
        exact ⟨S2.ret_i HRR.out, B_wr.out⟩
    | succ g =>
      have hlt : k < xs.length := by omega
      have e3 : decide ((k : Int) < (xs.length : Int)) = true := decide_eq_true (by omega)
      have e3' : decide (k < xs.length) = true := decide_eq_true hlt
      obtain ⟨x, hx⟩ : ∃ x, xs[k]? = some x := ⟨_, List.getElem?_eq_getElem hlt⟩
      have hfx : (xs.map FE.f)[k]? = some x.f := by rw [List.getElem?_map, hx]; rfl
      have HST := Lib.hid (items_step (X := X) hfx)
      have HCALL := Lib.hid (HIT.out k x wr (HOK.out.step B_wr.out) O_wr.out HN.out hx HX.out)
      have hk6 : k ≤ 100000 := by have := HN.out; omega
      clear hx hfx hlt hkg HIT
      by_cases hz : itemR (xs.map FE.f) X k x.f = 0
      · have HI2 : Hid (itemsR (xs.map FE.f) X (k + 1) ((xs.map FE.f).drop (k + 1)) = itemsR (xs.map FE.f) X 0 (xs.map FE.f)) := Lib.hid (by rw [← HST.out.1 hz]; exact HI.out)
        rw [hz] at HCALL
        clear hz HST HI
        go_wp2_with first
          | (refine wpList_load_v (by rfl) 28 _ rfl ⟨w.heap.size, 0, none⟩ rfl (wv L A c xs A2 c2 X l) (S2.run_load_all T_wr.out Tryz.underlying28 rfl winSize) ?_)
        refine HCALL.out.mono ?_
        rintro e w3 ⟨rfl, hb⟩
        have HB3 := Lib.hid (stepB HB0.out hb)
        clear hb HCALL
        go_wp2
        go_roundg g
        case measure => omega
        case rel => exact ⟨k + 1, by have := HK.out; omega, by go_num, HI2.out, HB3.out⟩
      · have q6 : (itemR (xs.map FE.f) X k x.f != 0) = true := by simp [hz]
        have HRR : Hid (itemR (xs.map FE.f) X k x.f = R) := Lib.hid (by
          have h1 := HST.out.2 hz
          rw [HI.out] at h1
          have := HC3.out.1 (by rw [h1]; exact hz)
          rw [← this, h1])
        clear hz HST HI HC3
        generalize itemR (xs.map FE.f) X k x.f = z at q6 HRR HCALL
        go_wp2_with first
          | (refine wpList_load_v (by rfl) 28 _ rfl ⟨w.heap.size, 0, none⟩ rfl (wv L A c xs A2 c2 X l) (S2.run_load_all T_wr.out Tryz.underlying28 rfl winSize) ?_)
        refine HCALL.out.mono ?_
        rintro e w3 ⟨rfl, hb⟩
        have B_w3 := Lib.hid (stepB B_wr.out hb)
        clear hb HCALL
        go_wp2
        go_ret
        exact ⟨S2.ret_i HRR.out, B_w3.out⟩
end Go.Proofs.YtmcocepjdhpecabGreatDoor
namespace Go.Proofs.YtmcocepjdhpecabGreatDoor
open Go.RowKit
open S2 (BK Put)

set_option maxRecDepth 20000 in
set_option maxHeartbeats 1000000 in
theorem rat_any (A : Option Addr) (c : Nat) (xs : List FE) (n : Int) (w : World) (hsl : FI w w.heap.size A xs) (h2 : xs.length ≤ 100000) :
    Calls Tryz.prog 37 #[.slice A xs.length c, .int .i64 n] w fun e w' => e = .returned (.int .i64 (atR (xs.map FE.f) n)) ∧ Below w.heap.size w w' := by
  have HS := Lib.hid hsl
  clear hsl
  go_enter Tryz.func37, Tryz.ntmps37
  go_wp2_with fail
  go_loopg [5] xs.length (fun g v wr => ∃ k : Nat, k + g = xs.length ∧ v = .int .i64 k ∧ (∀ j y, j < k → (xs.map FE.f)[j]? = some y → y.id ≠ n) ∧ wr = w)
  case atStart => exact ⟨0, by omega, rfl, fun j y h => absurd h (by omega), rfl⟩
  case round =>
    obtain ⟨k, hkg, rfl, hrel, rfl⟩ := hrel
    have HREL := Lib.hid hrel
    have HK := Lib.hid hkg
    clear hrel
    cases gk with
    | zero =>
      obtain rfl : k = xs.length := by omega
      have HF : Hid (-1 = atR (xs.map FE.f) n) := Lib.hid (by rw [atR_neg (by rw [posF_none (by rw [List.length_map]; exact HREL.out)]; omega)])
      clear hkg
      go_wp2
      go_ret
      exact ⟨S2.ret_i HF.out, Below.refl _ _⟩
    | succ g =>
      have hlt : k < xs.length := by omega
      have e3 : decide ((k : Int) < (xs.length : Int)) = true := decide_eq_true (by omega)
      have e3' : decide (k < xs.length) = true := decide_eq_true hlt
      obtain ⟨x, hx⟩ : ∃ x, xs[k]? = some x := ⟨_, List.getElem?_eq_getElem hlt⟩
      obtain ⟨b, o, hA, hbB, hc, _⟩ := HS.out.at_ hx
      subst hA
      have kv := hc 0 _ rfl
      rw [Nat.add_zero] at kv
      have j1 : (0 : Int) ≤ (k : Int) := by omega
      have j2 : (k : Int) < (xs.length : Int) := by omega
      have hfx : (xs.map FE.f)[k]? = some x.f := by rw [List.getElem?_map, hx]; rfl
      by_cases hid : x.f.id = n
      · have q : (x.f.id == n) = true := by simp [hid]
        have HF : Hid ((k : Int) = atR (xs.map FE.f) n) := Lib.hid (by rw [atR_pos (by rw [posF_at hfx hid HREL.out, List.length_map]; exact hlt), posF_at hfx hid HREL.out])
        clear hx hfx hid hc hbB hkg hlt
        go_wp2
        go_ret
        exact ⟨S2.ret_i HF.out, Below.refl _ _⟩
      · have q : (x.f.id == n) = false := by simp [hid]
        have HR2 : Hid (∀ j y, j < k + 1 → (xs.map FE.f)[j]? = some y → y.id ≠ n) := Lib.hid (fun j y hj hy => by
          by_cases e : j = k
          · subst e; rw [hfx] at hy; rw [← Option.some.inj hy]; exact hid
          · exact HREL.out j y (by omega) hy)
        clear hx hfx hid hc hbB hkg hlt
        go_wp2
        go_roundg g
        case measure => omega
        case rel => exact ⟨k + 1, by have := HK.out; omega, by go_num, HR2.out, rfl⟩

end Go.Proofs.YtmcocepjdhpecabGreatDoor
