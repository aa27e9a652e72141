/-
  few and awake of the statements about segments; Of of the specification. Conditions: the list reads as data; few records.
-/
import Derived.Test.YtbmeimpfehjnfaaSgE
namespace Go.Proofs.Ytbmeimpfehjnfaa
open Go.RowKit
open S2 (BK Put get_ops exec_load)

def fewR (l : List Rc) : Bool := decide (l.length ≤ 16) && l.all (fun r => decide (r.key.size ≤ 100) && decide (r.val.size ≤ 200))
theorem fewR_ok {l : List Rc} (h : fewR l = true) : l.length ≤ 16 ∧ ∀ r ∈ l, r.key.size ≤ 100 ∧ r.val.size ≤ 200 := by
  unfold fewR at h
  simp only [Bool.and_eq_true, decide_eq_true_eq, List.all_eq_true] at h
  exact h
theorem fewR_no {l : List Rc} {r : Rc} (hr : r ∈ l) (h : 100 < r.key.size ∨ 200 < r.val.size) : fewR l = false := by
  cases hf : fewR l with
  | false => rfl
  | true => have := (fewR_ok hf).2 r hr; omega
theorem fewR_yes {l : List Rc} (h1 : l.length ≤ 16) (h2 : ∀ j r, j < l.length → l[j]? = some r → r.key.size ≤ 100 ∧ r.val.size ≤ 200) : fewR l = true := by
  unfold fewR
  simp only [Bool.and_eq_true, decide_eq_true_eq, List.all_eq_true]
  refine ⟨h1, fun r hr => ?_⟩
  obtain ⟨j, hj, rfl⟩ := List.mem_iff_getElem.1 hr
  exact h2 j _ hj (List.getElem?_eq_getElem hj)
/-- the records with their offsets counted anew -/
def renum : Int → List Rc → List Rc
  | _, [] => []
  | o, r :: rs => ⟨o, r.kind, r.key, r.val⟩ :: renum (o + 1) rs
theorem renum_len : ∀ (o : Int) (l : List Rc), (renum o l).length = l.length
  | _, [] => rfl
  | o, r :: rs => by simp only [renum, List.length_cons, renum_len (o + 1) rs]
theorem renum_snoc : ∀ (o : Int) (l : List Rc) (x : Rc), renum o (l ++ [x]) = renum o l ++ [⟨o + (l.length : Int), x.kind, x.key, x.val⟩]
  | o, [], x => by simp [renum]
  | o, r :: rs, x => by
    have e : o + 1 + (rs.length : Int) = o + ((r :: rs).length : Int) := by rw [List.length_cons]; omega
    simp only [List.cons_append, renum, renum_snoc (o + 1) rs x, e]
theorem renum_at : ∀ {l : List Rc} {o : Int} {k : Nat} {x : Rc}, l[k]? = some x → (renum o l)[k]? = some ⟨o + (k : Int), x.kind, x.key, x.val⟩
  | [], _, _, _, h => by simp at h
  | r :: rs, o, 0, x, h => by
    simp at h
    subst h
    simp [renum]
  | r :: rs, o, k + 1, x, h => by
    have := renum_at (l := rs) (o := o + 1) (k := k) (x := x) (by simpa using h)
    rw [renum, List.getElem?_cons_succ, this]
    have e : o + 1 + (k : Int) = o + ((k + 1 : Nat) : Int) := by omega
    rw [e]

set_option maxRecDepth 20000 in
set_option maxHeartbeats 4000000 in
theorem few_any (A : Option Addr) (c : Nat) (l : List Rc) (w : World) (hsl : RcL w w.heap.size A l) (hz : ∀ r ∈ l, r.key.size ≤ 9223372036854775807 ∧ r.val.size ≤ 9223372036854775807) :
    Calls Try.prog 25 #[.slice A l.length c] w fun e w' => e = .returned (.bool (fewR l)) ∧ w' = w := by
  obtain ⟨R, hR⟩ : ∃ R, fewR l = R := ⟨_, rfl⟩
  rw [hR]
  have HR := Lib.hid hR
  by_cases h16 : 16 < l.length
  · obtain rfl : R = false := by rw [← hR]; unfold fewR; rw [decide_eq_false (by omega)]; rfl
    have h16' : (16 : Int) < (l.length : Int) := by omega
    clear hsl hR hz
    go_enter Try.func25, Try.ntmps25
    go_wp2_with fail
    go_ret
    exact ⟨rfl, rfl⟩
  have h16' : ¬ ((16 : Int) < (l.length : Int)) := by omega
  have HS := Lib.hid hsl
  have HZ := Lib.hid hz
  clear hsl hR hz
  go_enter Try.func25, Try.ntmps25
  go_wp2_with fail
  go_loopg [3] l.length (fun g v wr => ∃ k : Nat, k + g = l.length ∧ v = .int .i64 k ∧ (∀ j r, j < k → l[j]? = some r → r.key.size ≤ 100 ∧ r.val.size ≤ 200) ∧ wr = w)
  case atStart => exact ⟨0, by omega, rfl, fun j r hj => by omega, rfl⟩
  case round =>
    obtain ⟨k, hkg, rfl, hall, hw⟩ := hrel
    subst hw
    have HA := Lib.hid hall
    clear hall
    cases gk with
    | zero =>
      obtain rfl : k = l.length := by omega
      have e3 : ¬ ((l.length : Int) < (l.length : Int)) := by omega
      obtain rfl : R = true := by rw [← HR.out]; exact fewR_yes (by omega) HA.out
      go_wp2_with fail
      go_ret
      exact ⟨rfl, rfl⟩
    | succ g =>
      have hlt : k < l.length := by omega
      have e3 : (k : Int) < (l.length : Int) := by omega
      obtain ⟨x, hx⟩ : ∃ x, l[k]? = some x := ⟨_, List.getElem?_eq_getElem hlt⟩
      have hm : x ∈ l := List.mem_of_getElem? hx
      have hzx := HZ.out x hm
      obtain ⟨b, o, hA, hbB, hc⟩ := GL.at4 HS.out hx
      subst hA
      have j1 : (0 : Int) ≤ (k : Int) := by omega
      have kx2 : wr.cell? ⟨b, o + k * 4 + 2, none⟩ = some (.string x.key) := hc 2 _ rfl
      have kx3 : wr.cell? ⟨b, o + k * 4 + 3, none⟩ = some (.string x.val) := hc 3 _ rfl
      have HX := Lib.hid hx
      have HM := Lib.hid hm
      have HK := Lib.hid hkg
      clear hc hx hbB hm hkg
      by_cases h1 : 100 < x.key.size
      · obtain rfl : R = false := by rw [← HR.out]; exact fewR_no HM.out (.inl h1)
        have h1' : (100 : Int) < (x.key.size : Int) := by omega
        go_wp2_with fail
        go_ret
        exact ⟨rfl, rfl⟩
      have h1' : ¬ ((100 : Int) < (x.key.size : Int)) := by omega
      by_cases h2 : 200 < x.val.size
      · obtain rfl : R = false := by rw [← HR.out]; exact fewR_no HM.out (.inr h2)
        have h2' : (200 : Int) < (x.val.size : Int) := by omega
        go_wp2_with fail
        go_ret
        exact ⟨rfl, rfl⟩
      have h2' : ¬ ((200 : Int) < (x.val.size : Int)) := by omega
      go_wp2_with fail
      go_roundg g
      case measure => omega
      case rel => exact ⟨k + 1, by have := HK.out; omega, by go_num, fun j r hj hr => by
        by_cases hjk : j = k
        · subst hjk; rw [HX.out] at hr; cases hr; omega
        · exact HA.out j r (by omega) hr, rfl⟩

/-! ### the examples -/
theorem run_fieldS (a b : Int) (A : Option Addr) (n c : Nat) (w : World) : (Instr.field 24 (.agg #[.int .i64 a, .int .i64 b, .slice A n c]) 1).run Try.prog w = .ok (.int .i64 b) w := by kernel_rfl
abbrev a32 : Rc := ⟨5, 1, ⟨#[97]⟩, ⟨#[118]⟩⟩
def l32 : List UInt8 := [12, 158, 28, 118, 28, 10, 2, 2, 97, 2, 118]
theorem a32_ck : rcCk a32 = 0 := by decide +kernel
theorem a32_enc : rcEnc a32 = l32 := by decide +kernel
theorem a32_cons : ConsR 5 [a32] := ⟨rfl, a32_ck, trivial⟩
theorem a32_flat : flatR [a32] = l32 := by rw [flatR_one]; exact a32_enc
theorem a32_sc : scR l32 5 = ([a32], 11, 0) := by
  have := scR_of a32_cons
  rw [a32_flat] at this
  exact this
theorem a32_app : sgApp 5 5 [] 1 ⟨#[97]⟩ ⟨#[118]⟩ = ((5, 6, l32), 5, 0) := by
  unfold sgApp
  rw [show rcCk ⟨5, 1, ⟨#[97]⟩, ⟨#[118]⟩⟩ = 0 from a32_ck, if_neg (by decide), show rcEnc ⟨5, 1, ⟨#[97]⟩, ⟨#[118]⟩⟩ = l32 from a32_enc, if_neg (by decide)]
  rfl
theorem a32_sck : sgCk 5 6 l32 = 0 := by
  have := sgCk_of (base := 5) (by decide) (by decide) a32_cons (by rw [a32_flat]; decide)
  rw [a32_flat] at this
  exact this
theorem a32_tr {k : Nat} (h : TrP [a32] 5 1 k) : k = 0 := by
  rcases Nat.eq_zero_or_pos k with h0 | h0
  · exact h0
  · have := h.2.1 0 a32 h0 rfl
    exact absurd this (by decide)
theorem a32_append (w : World) : Calls Try.prog 16 #[sgV 5 5 none 0 0, .int .i64 1, .string ⟨#[97]⟩, .string ⟨#[118]⟩] w fun e w' => ∃ A c, e = .returned (.tuple #[sgV 5 6 A 11 c, .int .i64 5, .int .i64 0]) ∧ 11 ≤ c ∧ CL bv w' w'.heap.size A l32 ∧ Below w.heap.size w w' :=
  (sAppend_any 5 5 none 0 [] 1 ⟨#[97]⟩ ⟨#[118]⟩ w (CL.nil _ _ _) (by decide) (by decide)).mono fun _ _ h => by
    obtain ⟨A, c, h1, h2, h3, h4⟩ := h
    rw [a32_app] at h1 h2 h3
    exact ⟨A, c, h1, h2, h3.1, h4⟩
theorem a32_recover (A : Option Addr) (c : Nat) (w : World) (h : CL bv w w.heap.size A l32) (hc : 11 ≤ c) : Calls Try.prog 23 #[.slice A 11 c, .int .i64 5] w fun e w' => ∃ A' c', e = .returned (.tuple #[sgV 5 6 A' 11 c', .int .i64 11]) ∧ CL bv w' w'.heap.size A' l32 ∧ Below w.heap.size w w' :=
  (sRecover_any A c l32 5 w h hc (by decide) (by decide) (by decide)).mono fun _ _ h => by
    rw [a32_sc] at h
    obtain ⟨A', c', h1, _, h3, h4⟩ := h
    exact ⟨A', c', h1, h3, h4⟩
theorem a32_records (A : Option Addr) (c : Nat) (w : World) (h : CL bv w w.heap.size A l32) (hc : 11 ≤ c) : Calls Try.prog 19 #[sgV 5 6 A 11 c] w fun e w' => ∃ b o c', e = .returned (.slice (some ⟨b, o, none⟩) 1 c') ∧ b < w'.heap.size ∧ (∀ i v, (rcC a32)[i]? = some v → w'.cell? ⟨b, o + i, none⟩ = some v) ∧ Below w.heap.size w w' :=
  (sRecords_any 5 6 A c l32 w h hc (by decide) (by decide) (by decide)).mono fun _ _ h => by
    obtain ⟨v, h1, hown, hb⟩ := h
    rw [a32_sc] at hown
    obtain ⟨A', c', rfl, _, hg⟩ := hown.ret rcC_len
    obtain ⟨b, o, rfl, hbB, hcell⟩ := GL.at4 hg (j := 0) (x := a32) rfl
    exact ⟨b, o, c', h1, hbB, fun i v hv => by have := hcell i v hv; simpa using this, hb⟩
theorem a32_check (A : Option Addr) (c : Nat) (w : World) (h : CL bv w w.heap.size A l32) (hc : 11 ≤ c) : Calls Try.prog 11 #[sgV 5 6 A 11 c] w fun e w' => e = .returned (.int .i64 0) ∧ Below w.heap.size w w' :=
  (sCheck_any 5 6 A c l32 w h hc (by decide)).mono fun _ _ h => by
    rw [a32_sck] at h
    exact h
theorem a32_same (A A' : Option Addr) (c c' : Nat) (w : World) (h : CL bv w w.heap.size A l32) (h' : CL bv w w.heap.size A' l32) : Calls Try.prog 13 #[sgV 5 6 A 11 c, sgV 5 6 A' 11 c'] w fun e w' => e = .returned (.bool true) ∧ Below w.heap.size w w' :=
  sgSame_any 5 6 A A' c c' l32 w h h'
theorem a32_truncate (A : Option Addr) (c : Nat) (w : World) (h : CL bv w w.heap.size A l32) (hc : 11 ≤ c) : Calls Try.prog 21 #[sgV 5 6 A 11 c, .int .i64 5] w fun e w' => ∃ A' n' c', e = .returned (.agg #[.int .i64 5, .int .i64 5, .slice A' n' c']) ∧ Below w.heap.size w w' :=
  (sTruncate_any 5 6 A c l32 [a32] 5 w h hc (by decide) a32_sc (by decide) (by decide)).mono fun _ _ h => by
    obtain ⟨k, A', c', h1, h2, _, _, h4⟩ := h
    obtain rfl := a32_tr h1
    exact ⟨A', _, c', h2, h4⟩

set_option maxRecDepth 20000 in
set_option maxHeartbeats 4000000 in
theorem awake32_any (w : World) : Calls Try.prog 10 #[] w fun e w' => e = .returned (.bool true) ∧ Below w.heap.size w w' := by
  have B_w := Lib.hid (Below.refl w.heap.size w)
  go_enter Try.func10, Try.ntmps10
  go_wp2_with fail
  refine (sNew_any 5 w).mono ?_
  rintro e y1 ⟨rfl, hb⟩
  have B_y1 : Hid (Below w.heap.size w y1) := Lib.hid ((stepB B_w.out hb))
  clear B_w
  clear hb
  go_wp2_with fail
  refine (a32_append y1).mono ?_
  rintro e y2 ⟨A1, c1, rfl, hc1, h1, hb⟩
  have B_y2 : Hid (Below w.heap.size w y2) := Lib.hid ((stepB B_y1.out hb))
  clear B_y1
  have L_y2 : Hid (CL bv y2 y2.heap.size A1 l32) := Lib.hid (h1)
  clear h1
  clear hb
  go_upto_region 2 with first
    | (refine S2.wpList_store_all (by rfl) 24 (.tmp 1) (.tmp 10) rfl rfl (y2.heap.size) rfl (sgC 5 6 A1 11 c1) rfl 24 (sgC 0 0 none 0 0) (BK.new y2 _ _) sgSize rfl (S2.all_one rfl) ?_; intro y3 hM hP; have hb : Below y2.heap.size y2 y3 := hP.below (S2.below_new y2 _) (Nat.le_refl _); have B_y3 : Hid (Below w.heap.size w y3) := Lib.hid ((stepB B_y2.out hb)); have L_y3 : Hid (CL bv y3 y3.heap.size A1 l32) := Lib.hid (L_y2.out.step hb); have T_y3 : Hid (BK 24 y3 (y2.heap.size) (sgC 5 6 A1 11 c1)) := Lib.hid hM; clear hM hP hb B_y2 L_y2)
  have t2 := T_y3.out.cell 2 rfl
  go_wp2_with fail
  refine (a32_recover A1 c1 y3 L_y3.out hc1).mono ?_
  rintro e y4 ⟨A2, c2, rfl, h1, hb⟩
  clear t2
  have B_y4 : Hid (Below w.heap.size w y4) := Lib.hid ((stepB B_y3.out hb))
  have L_y4 : Hid (CL bv y4 y4.heap.size A1 l32) := Lib.hid (L_y3.out.step hb)
  have T_y4 : Hid (BK 24 y4 (y2.heap.size) (sgC 5 6 A1 11 c1)) := Lib.hid (T_y3.out.step hb)
  clear B_y3 L_y3 T_y3
  have M_y4 : Hid (CL bv y4 y4.heap.size A2 l32) := Lib.hid (h1)
  clear h1
  clear hb
  go_upto_region 3 with first
    | (refine S2.wpList_store_all (by rfl) 24 (.tmp 4) (.tmp 17) rfl rfl (y4.heap.size) rfl (sgC 5 6 A2 11 c2) rfl 24 (sgC 0 0 none 0 0) (BK.new y4 _ _) sgSize rfl (S2.all_one rfl) ?_; intro y5 hM hP; have hb : Below y4.heap.size y4 y5 := hP.below (S2.below_new y4 _) (Nat.le_refl _); have B_y5 : Hid (Below w.heap.size w y5) := Lib.hid ((stepB B_y4.out hb)); have L_y5 : Hid (CL bv y5 y5.heap.size A1 l32) := Lib.hid (L_y4.out.step hb); have T_y5 : Hid (BK 24 y5 (y2.heap.size) (sgC 5 6 A1 11 c1)) := Lib.hid (T_y4.out.step hb); have M_y5 : Hid (CL bv y5 y5.heap.size A2 l32) := Lib.hid (M_y4.out.step hb); have V_y5 : Hid (BK 24 y5 (y4.heap.size) (sgC 5 6 A2 11 c2)) := Lib.hid hM; clear hM hP hb B_y4 L_y4 T_y4 M_y4)
  have t0 := T_y5.out.cell 0 rfl
  have t1 := T_y5.out.cell 1 rfl
  have t2 := T_y5.out.cell 2 rfl
  go_wp2_with fail
  refine (a32_records A1 c1 y5 L_y5.out hc1).mono ?_
  rintro e y6 ⟨b3, o3, c3, rfl, hlt3, hx3, hb⟩
  clear t0 t1 t2
  have B_y6 : Hid (Below w.heap.size w y6) := Lib.hid ((stepB B_y5.out hb))
  have L_y6 : Hid (CL bv y6 y6.heap.size A1 l32) := Lib.hid (L_y5.out.step hb)
  have T_y6 : Hid (BK 24 y6 (y2.heap.size) (sgC 5 6 A1 11 c1)) := Lib.hid (T_y5.out.step hb)
  have M_y6 : Hid (CL bv y6 y6.heap.size A2 l32) := Lib.hid (M_y5.out.step hb)
  have V_y6 : Hid (BK 24 y6 (y4.heap.size) (sgC 5 6 A2 11 c2)) := Lib.hid (V_y5.out.step hb)
  clear B_y5 L_y5 T_y5 M_y5 V_y5
  have X_y6 : Hid ((b3 < y6.heap.size ∧ ∀ i v, (rcC a32)[i]? = some v → y6.cell? ⟨b3, o3 + i, none⟩ = some v)) := Lib.hid (⟨hlt3, hx3⟩)
  clear hlt3 hx3
  clear hb
  have t0 := T_y6.out.cell 0 rfl
  have t1 := T_y6.out.cell 1 rfl
  have t2 := T_y6.out.cell 2 rfl
  go_wp2_with fail
  refine (a32_check A1 c1 y6 L_y6.out hc1).mono ?_
  rintro e y7 ⟨rfl, hb⟩
  clear t0 t1 t2
  have B_y7 : Hid (Below w.heap.size w y7) := Lib.hid ((stepB B_y6.out hb))
  have L_y7 : Hid (CL bv y7 y7.heap.size A1 l32) := Lib.hid (L_y6.out.step hb)
  have T_y7 : Hid (BK 24 y7 (y2.heap.size) (sgC 5 6 A1 11 c1)) := Lib.hid (T_y6.out.step hb)
  have M_y7 : Hid (CL bv y7 y7.heap.size A2 l32) := Lib.hid (M_y6.out.step hb)
  have V_y7 : Hid (BK 24 y7 (y4.heap.size) (sgC 5 6 A2 11 c2)) := Lib.hid (V_y6.out.step hb)
  have X_y7 : Hid ((b3 < y7.heap.size ∧ ∀ i v, (rcC a32)[i]? = some v → y7.cell? ⟨b3, o3 + i, none⟩ = some v)) := Lib.hid (⟨Nat.lt_of_lt_of_le X_y6.out.1 hb.size, fun i u hu => (hb.cell (p := ⟨b3, o3 + i, none⟩) X_y6.out.1).trans (X_y6.out.2 i u hu)⟩)
  clear B_y6 L_y6 T_y6 M_y6 V_y6 X_y6
  clear hb
  have t0 := T_y7.out.cell 0 rfl
  have t1 := T_y7.out.cell 1 rfl
  have t2 := T_y7.out.cell 2 rfl
  have v0 := V_y7.out.cell 0 rfl
  have v1 := V_y7.out.cell 1 rfl
  have v2 := V_y7.out.cell 2 rfl
  go_wp2_with fail
  refine (a32_same A2 A1 c2 c1 y7 M_y7.out L_y7.out).mono ?_
  rintro e y8 ⟨rfl, hb⟩
  clear t0 t1 t2 v0 v1 v2
  have B_y8 : Hid (Below w.heap.size w y8) := Lib.hid ((stepB B_y7.out hb))
  have L_y8 : Hid (CL bv y8 y8.heap.size A1 l32) := Lib.hid (L_y7.out.step hb)
  have T_y8 : Hid (BK 24 y8 (y2.heap.size) (sgC 5 6 A1 11 c1)) := Lib.hid (T_y7.out.step hb)
  have M_y8 : Hid (CL bv y8 y8.heap.size A2 l32) := Lib.hid (M_y7.out.step hb)
  have V_y8 : Hid (BK 24 y8 (y4.heap.size) (sgC 5 6 A2 11 c2)) := Lib.hid (V_y7.out.step hb)
  have X_y8 : Hid ((b3 < y8.heap.size ∧ ∀ i v, (rcC a32)[i]? = some v → y8.cell? ⟨b3, o3 + i, none⟩ = some v)) := Lib.hid (⟨Nat.lt_of_lt_of_le X_y7.out.1 hb.size, fun i u hu => (hb.cell (p := ⟨b3, o3 + i, none⟩) X_y7.out.1).trans (X_y7.out.2 i u hu)⟩)
  clear B_y7 L_y7 T_y7 M_y7 V_y7 X_y7
  clear hb
  have t0 := T_y8.out.cell 0 rfl
  have t1 := T_y8.out.cell 1 rfl
  have t2 := T_y8.out.cell 2 rfl
  have x0 : y8.cell? ⟨b3, o3, none⟩ = some (.int .i64 5) := X_y8.out.2 0 _ rfl
  have x1 : y8.cell? ⟨b3, o3 + 1, none⟩ = some (.int .i64 1) := X_y8.out.2 1 _ rfl
  have x2 : y8.cell? ⟨b3, o3 + 2, none⟩ = some (.string ⟨#[97]⟩) := X_y8.out.2 2 _ rfl
  have x3 : y8.cell? ⟨b3, o3 + 3, none⟩ = some (.string ⟨#[118]⟩) := X_y8.out.2 3 _ rfl
  have heq := eqRc_self 5 1 ⟨#[97]⟩ ⟨#[118]⟩
  have hgd := guardRc
  go_wp2_with fail
  refine (a32_truncate A1 c1 y8 L_y8.out hc1).mono ?_
  rintro e y9 ⟨A5, n5, c5, rfl, hb⟩
  clear t0 t1 t2 x0 x1 x2 x3
  have B_y9 : Hid (Below w.heap.size w y9) := Lib.hid ((stepB B_y8.out hb))
  have L_y9 : Hid (CL bv y9 y9.heap.size A1 l32) := Lib.hid (L_y8.out.step hb)
  have T_y9 : Hid (BK 24 y9 (y2.heap.size) (sgC 5 6 A1 11 c1)) := Lib.hid (T_y8.out.step hb)
  have M_y9 : Hid (CL bv y9 y9.heap.size A2 l32) := Lib.hid (M_y8.out.step hb)
  have V_y9 : Hid (BK 24 y9 (y4.heap.size) (sgC 5 6 A2 11 c2)) := Lib.hid (V_y8.out.step hb)
  have X_y9 : Hid ((b3 < y9.heap.size ∧ ∀ i v, (rcC a32)[i]? = some v → y9.cell? ⟨b3, o3 + i, none⟩ = some v)) := Lib.hid (⟨Nat.lt_of_lt_of_le X_y8.out.1 hb.size, fun i u hu => (hb.cell (p := ⟨b3, o3 + i, none⟩) X_y8.out.1).trans (X_y8.out.2 i u hu)⟩)
  clear B_y8 L_y8 T_y8 M_y8 V_y8 X_y8
  clear hb
  have hfd := run_fieldS 5 5 A5 n5 c5 y9
  go_wp2_with fail
  go_ret
  exact ⟨rfl, B_y9.out⟩
end Go.Proofs.Ytbmeimpfehjnfaa
