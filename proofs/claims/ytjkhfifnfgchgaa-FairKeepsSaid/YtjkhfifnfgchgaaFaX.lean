/-
  The law FairPlays: it answers true. Conditions: the lists read as data; names fit an int.
-/
import Derived.Test.YtjkhfifnfgchgaaFaE
namespace Go.Proofs.Ytjkhfifnfgchgaa
open Go.RowKit
open S2 (BK Put get_ops exec_load)

/-- a call of the law -/
structure FOp where
  kd : Int
  n : Int
  c : Cs
def gO (x : FOp) : List Value := .int .i64 x.kd :: .int .i64 x.n :: gC x.c
def opV (x : FOp) : Value := .agg (gO x).toArray
def FOp.zero : FOp := ⟨0, 0, Cs.zero⟩
theorem gO_len (x : FOp) : (gO x).length = 7 := rfl
theorem gO_one (x : FOp) : ∀ u ∈ gO x, u.oneCell' = true := fun u hu => List.all_eq_true.1 (show (gO x).all (fun v => v.oneCell') = true from rfl) u hu
theorem opSize : (Try.prog.info? 35).map (·.size) = some 7 := by kernel_rfl
abbrev OpL (w : World) (B : Nat) (A : Option Addr) (xs : List FOp) : Prop := GL gO 7 w B A xs
theorem OpL.at_ {w : World} {B : Nat} {A : Option Addr} {xs : List FOp} (h : OpL w B A xs) {j : Nat} {x : FOp} (hx : xs[j]? = some x) :
    ∃ b o, A = some ⟨b, o, none⟩ ∧ b < B ∧ ∀ i v, (gO x)[i]? = some v → w.cell? ⟨b, o + j * 7 + i, none⟩ = some v := by
  obtain ⟨b, o, e, hb, hc⟩ := h (Nat.lt_of_le_of_lt (Nat.zero_le _) (List.getElem?_eq_some_iff.1 hx).1)
  exact ⟨b, o, e, hb, fun i v hv => hc j x i v hx hv⟩
theorem load_op {w : World} {b o : Nat} {x : FOp} (hc : ∀ i v, (gO x)[i]? = some v → w.cell? ⟨b, o + i, none⟩ = some v) : (loadVar 35 ⟨b, o, none⟩).run Try.prog w = .ok (opV x) w :=
  run_load_cells w b o (gO x) 35 _ hc Try.underlying35 rfl opSize
theorem load_opc {w : World} {g : Nat} {x : FOp} (h : BK 35 w g (gO x)) : (loadVar 25 ⟨g, 2, none⟩).run Try.prog w = .ok (csV x.c) w :=
  load_cs (fun i v hv => h.cell (2 + i) (by rw [Nat.add_comm]; exact hv))
theorem cellsO {w : World} {g : Nat} {x : FOp} (h : BK 35 w g (gO x)) :
    w.cell? ⟨g, 0, none⟩ = some (.int .i64 x.kd) ∧ w.cell? ⟨g, 1, none⟩ = some (.int .i64 x.n) ∧ w.cell? ⟨g, 2, none⟩ = some (.int .i64 x.c.tag) ∧ w.cell? ⟨g, 3, none⟩ = some (.int .i64 x.c.conn) := ⟨h.cell 0 rfl, h.cell 1 rfl, h.cell 2 rfl, h.cell 3 rfl⟩
theorem ok_qu {xs : List Cs} (h : OkC xs) : ∀ x ∈ xs, x.qu.size ≤ 9223372036854775807 := fun x hx => by
  have h1 := h.2.1 x hx
  unfold oneE at h1
  split at h1
  · cases h1
  · split at h1
    · cases h1
    · next h2 =>
      have h3 : T.nameL (dl x.qu) = true := by simpa using h2
      unfold T.nameL at h3
      simp only [Bool.and_eq_true, decide_eq_true_eq] at h3
      have := h3.1.2
      rw [size_dl]; omega
/-- a list and its like -/
theorem equalS_any (A A' : Option Addr) (c c' : Nat) (ys : List Cs) (w : World) (hx : CsL w w.heap.size A ys) (hy : CsL w w.heap.size A' ys) (hn : ys.length ≤ 1000000) :
    Calls Try.prog 21 #[.slice A ys.length c, .slice A' ys.length c'] w fun e w' => e = .returned (.bool true) ∧ Below w.heap.size w w' :=
  (equalC_any A A' c c' ys ys w hx hy hn).mono fun e w' h => ⟨by rw [h.1, decide_eq_true rfl], h.2⟩
theorem addC_len (xs : List Cs) (x : Cs) : (addC xs x).1.length ≤ xs.length + 1 := by
  unfold addC
  split
  · simp
  · split <;> simp
theorem remC_len (xs : List Cs) (cn tg : Int) : (remC xs cn tg).1.length ≤ xs.length := by
  unfold remC
  split
  · simp
  · rw [List.length_append, List.length_take, List.length_drop]; omega
theorem addC_keep {xs : List Cs} (hl : OkC xs) (x : Cs) (h : (addC xs x).2 = 0) : OkC (addC xs x).1 := by
  have := add_ok hl h
  rw [this.1]; exact this.2.1

set_option maxRecDepth 20000 in
set_option maxHeartbeats 16000000 in
theorem fairPlays_walk (A : Option Addr) (c : Nat) (xs0 : List Cs) (Ao : Option Addr) (co : Nat) (ops : List FOp) (w : World) (h : CsL w w.heap.size A xs0) (hc : xs0.length ≤ c) (hq : ∀ x ∈ xs0, x.qu.size ≤ 9223372036854775807) (hn : xs0.length ≤ 1000000)
    (ho : OpL w w.heap.size Ao ops) (hqo : ∀ x ∈ ops, x.c.qu.size ≤ 9223372036854775807) :
    Calls Try.prog 5 #[.slice A xs0.length c, .slice Ao ops.length co] w fun e w' => e = .returned (.bool true) ∧ Below w.heap.size w w' := by
  have HX := Lib.hid (fun w1 => example_any w1)
  have HCK := Lib.hid (rCheck_any A c xs0 w h hc hn hq)
  have HS := Lib.hid h
  have HO := Lib.hid ho
  have HQO := Lib.hid hqo
  have HOK := Lib.hid (@chk_iff xs0)
  have HCX := Lib.hid hc
  generalize chkC xs0 = E at *
  clear h hq ho hqo
  go_enter Try.func5, Try.ntmps5
  go_wp2_with fail
  refine HCK.out.mono ?_
  rintro e w1 ⟨rfl, hb⟩
  have S_w1 := Lib.hid (GL.step HS.out hb)
  have B_w1 := Lib.hid hb
  have HOW := Lib.hid HO.out
  clear hb HS HO HCK
  by_cases hE : E = 0
  case neg =>
    have q1 : (E != 0) = true := bne_iff_ne.2 hE
    clear hE
    go_wp2_with fail
    refine (HX.out w1).mono ?_
    rintro e w2 ⟨rfl, hb⟩
    have B_w2 := Lib.hid (stepB B_w1.out hb)
    clear hb
    go_wp2
    go_ret
    exact ⟨rfl, B_w2.out⟩
  have q1 : (E != 0) = false := by rw [hE]; rfl
  have HV := Lib.hid (HOK.out.1 hE)
  clear hE
  by_cases h80 : 80 < ops.length
  · have e1 : decide ((80 : Int) < (ops.length : Int)) = true := decide_eq_true (by omega)
    have e1' : decide (80 < ops.length) = true := decide_eq_true h80
    clear h80
    go_wp2_with fail
    refine (HX.out w1).mono ?_
    rintro e w2 ⟨rfl, hb⟩
    have B_w2 := Lib.hid (stepB B_w1.out hb)
    clear hb
    go_wp2
    go_ret
    exact ⟨rfl, B_w2.out⟩
  have e1 : decide ((80 : Int) < (ops.length : Int)) = false := decide_eq_false (by omega)
  have e1' : decide (80 < ops.length) = false := decide_eq_false h80
  have hno : ops.length ≤ 80 := by omega
  clear h80
  go_wp2_with fail
  go_loopg [0, 22] ops.length (fun g u v wr => ∃ (k : Nat) (xs : List Cs) (Ax : Option Addr) (cx : Nat), k + g = ops.length ∧ v = .int .i64 k ∧ u = .slice Ax xs.length cx ∧ xs.length ≤ cx ∧ OkC xs ∧ CsL wr wr.heap.size Ax xs ∧ Below w.heap.size w wr)
  case atStart => exact ⟨0, xs0, A, c, by omega, rfl, rfl, HCX.out, HV.out, S_w1.out, B_w1.out⟩
  case round =>
    obtain ⟨k, xs, Ax, cx, hkg, rfl, rfl, hcx, hok, hsx, hb0⟩ := hrel
    have HCX2 := Lib.hid hcx
    have HG := Lib.hid hkg
    have HOX := Lib.hid hok
    have S_wr := Lib.hid hsx
    have B_wr := Lib.hid hb0
    have O_wr := Lib.hid (GL.more (GL.below HOW.out hb0) hb0.size)
    clear hcx hok hsx hb0 S_w1 B_w1
    cases gk with
    | zero =>
      obtain rfl : k = ops.length := by omega
      have e3 : decide ((ops.length : Int) < (ops.length : Int)) = false := decide_eq_false (by omega)
      clear hkg
      go_wp2_with fail
      refine (HX.out wr).mono ?_
      rintro e w2 ⟨rfl, hb⟩
      have B_w2 := Lib.hid (stepB B_wr.out hb)
      clear hb
      go_wp2
      go_ret
      exact ⟨rfl, B_w2.out⟩
    | succ gk =>
      have hlt : k < ops.length := by omega
      have e3 : decide ((k : Int) < (ops.length : Int)) = true := decide_eq_true (by omega)
      obtain ⟨x, hx⟩ : ∃ x, ops[k]? = some x := ⟨_, List.getElem?_eq_getElem hlt⟩
      obtain ⟨b, o, hA, hbB, hcl⟩ := OpL.at_ O_wr.out hx
      have HLD := Lib.hid (load_op hcl)
      have HXQ := Lib.hid (HQO.out x (List.mem_of_getElem? hx))
      subst hA
      have j1 : (0 : Int) ≤ (k : Int) := by omega
      have j2 : (k : Int) < (ops.length : Int) := by omega
      clear hx hcl hbB hkg
      have HSZ : Hid (xs.length ≤ 1000000) := Lib.hid (by have := HOX.out.1; omega)
      have HUN : Hid (∀ y ∈ xs, 0 ≤ y.una ∧ y.una ≤ 1099511627776) := Lib.hid (fun y hy => ok_una (HOX.out.2.1 y hy))
      have HEQ := Lib.hid (fun A1 A2 c1 c2 (ys : List Cs) w1 h1 h2 hn => equalS_any A1 A2 c1 c2 ys w1 h1 h2 hn)
      by_cases h0 : x.kd = 0
      · have k0 : (x.kd == 0) = true := by rw [h0]; rfl
        clear h0
        obtain ⟨R, hR⟩ : ∃ R, addC xs x.c = R := ⟨_, rfl⟩
        have HKEEP : Hid (R.2 = 0 → OkC R.1) := Lib.hid (by rw [← hR]; exact addC_keep HOX.out x.c)
        have HR1 : Hid (R.1.length ≤ 1000000) := Lib.hid (by rw [← hR]; exact by have := addC_len xs x.c; have := HSZ.out; have := HOX.out.1; omega)
        have HF := Lib.hid (fun w1 (hs : CsL w1 w1.heap.size Ax xs) => fAdd_any Ax cx xs x.c w1 hs HSZ.out HXQ.out)
        have HR := Lib.hid (fun w1 (hs : CsL w1 w1.heap.size Ax xs) => rAdd_any Ax cx xs x.c w1 hs HSZ.out HXQ.out)
        rw [hR] at HF HR
        obtain ⟨R1, E1⟩ := R
        dsimp only at HKEEP HR1
        clear hR
        go_wp2_with first
          | (refine wpList_load_v (by rfl) 35 _ rfl ⟨b, o + k * 7, none⟩ (by go_simp) _ HLD.out ?_)
          | (refine S2.wpList_store_all (by rfl) 35 (.tmp 6) (.tmp 25) rfl rfl wr.heap.size rfl (gO x) rfl 35 (gO FOp.zero) (BK.new wr _ _) opSize rfl (gO_one _) ?_; intro w2 hM hP; have hb := hP.below (S2.below_new wr _) (Nat.le_refl _); have V_w2 := Lib.hid hM; have B_w2 := Lib.hid (stepB B_wr.out hb); have S_w2 := Lib.hid (GL.step S_wr.out hb); obtain ⟨d0, d1, d2, d3⟩ := cellsO hM; have hvb : wr.heap.size < w2.heap.size := hM.lt; have HVB := Lib.hid hvb; clear hM hP hb hvb B_wr S_wr O_wr HLD)
          | (refine wpList_load_v (by rfl) 25 _ rfl ⟨wr.heap.size, 2, none⟩ (by go_simp) _ (load_opc V_w2.out) ?_)
        refine (HF.out w2 S_w2.out).mono ?_
        rintro e y1 ⟨v1, rfl, hown, hb⟩
        have V_y1 := Lib.hid (V_w2.out.step hb)
        have B_y1 := Lib.hid (stepB B_w2.out hb)
        have S_y1 := Lib.hid (GL.step S_w2.out hb)
        obtain ⟨A1, c1, hv1, hc1, hgl1⟩ := OwnG.ret gC_len hown
        subst hv1
        have P1_y1 := Lib.hid hgl1
        clear hb hown hgl1 hc1 V_w2 B_w2 S_w2 d0 d1 d2 d3 HF
        obtain ⟨d0, d1, d2, d3⟩ := cellsO V_y1.out
        go_wp2_with first
          | (refine wpList_load_v (by rfl) 25 _ rfl ⟨wr.heap.size, 2, none⟩ (by go_simp) _ (load_opc V_y1.out) ?_)
        refine (HR.out y1 S_y1.out).mono ?_
        rintro e y2 ⟨v2, rfl, hown, hb⟩
        have P1_y2 := Lib.hid (GL.step P1_y1.out hb)
        have B_y2 := Lib.hid (stepB B_y1.out hb)
        have S_y2 := Lib.hid (GL.step S_y1.out hb)
        obtain ⟨A2, c2, hv2, hc2, hgl2⟩ := OwnG.ret gC_len hown
        subst hv2
        have P2_y2 := Lib.hid hgl2
        have HC2 := Lib.hid hc2
        clear hb hown hgl2 hc2 B_y1 S_y1 P1_y1 V_y1 d0 d1 d2 d3 HR
        have e5 : (E1 != E1) = false := by simp
        have HEE := Lib.hid (HEQ.out A1 A2 c1 c2 R1 y2 P1_y2.out P2_y2.out HR1.out)
        go_wp2_with fail
        refine HEE.out.mono ?_
        rintro e z9 ⟨rfl, hb⟩
        have P2_z9 := Lib.hid (GL.step P2_y2.out hb)
        have B_z9 := Lib.hid (stepB B_y2.out hb)
        have S_z9 := Lib.hid (GL.step S_y2.out hb)
        clear hb HEE P1_y2 P2_y2 B_y2 S_y2
        by_cases hE1 : E1 = 0
        · have e6 : (E1 == 0) = true := by rw [hE1]; rfl
          have HVN := Lib.hid (HKEEP.out hE1)
          clear hE1
          go_wp2_with fail
          go_roundg gk
          case measure => omega
          case rel => exact ⟨k + 1, R1, A2, c2, by have := HG.out; omega, by go_num, rfl, HC2.out, HVN.out, P2_z9.out, B_z9.out⟩
        · have e6 : (E1 == 0) = false := beq_eq_false_iff_ne.2 hE1
          clear hE1
          go_wp2_with fail
          go_roundg gk
          case measure => omega
          case rel => exact ⟨k + 1, xs, Ax, cx, by have := HG.out; omega, by go_num, rfl, HCX2.out, HOX.out, S_z9.out, B_z9.out⟩
      have k0 : (x.kd == 0) = false := beq_eq_false_iff_ne.2 h0
      by_cases h1 : x.kd = 1
      · have k1 : (x.kd == 1) = true := by rw [h1]; rfl
        clear h0 h1
        obtain ⟨R, hR⟩ : ∃ R, remC xs x.c.conn x.c.tag = R := ⟨_, rfl⟩
        have HKEEP : Hid (R.2 = 0 → OkC R.1) := Lib.hid (by rw [← hR]; exact rem_ok HOX.out)
        have HR1 : Hid (R.1.length ≤ 1000000) := Lib.hid (by rw [← hR]; exact by have := remC_len xs x.c.conn x.c.tag; have := HSZ.out; omega)
        have HF := Lib.hid (fun w1 (hs : CsL w1 w1.heap.size Ax xs) => fRemove_any Ax cx xs x.c.conn x.c.tag w1 hs HCX2.out HSZ.out)
        have HR := Lib.hid (fun w1 (hs : CsL w1 w1.heap.size Ax xs) => rRemove_any Ax cx xs x.c.conn x.c.tag w1 hs HSZ.out)
        rw [hR] at HF HR
        obtain ⟨R1, E1⟩ := R
        dsimp only at HKEEP HR1
        clear hR
        go_wp2_with first
          | (refine wpList_load_v (by rfl) 35 _ rfl ⟨b, o + k * 7, none⟩ (by go_simp) _ HLD.out ?_)
          | (refine S2.wpList_store_all (by rfl) 35 (.tmp 6) (.tmp 25) rfl rfl wr.heap.size rfl (gO x) rfl 35 (gO FOp.zero) (BK.new wr _ _) opSize rfl (gO_one _) ?_; intro w2 hM hP; have hb := hP.below (S2.below_new wr _) (Nat.le_refl _); have V_w2 := Lib.hid hM; have B_w2 := Lib.hid (stepB B_wr.out hb); have S_w2 := Lib.hid (GL.step S_wr.out hb); obtain ⟨d0, d1, d2, d3⟩ := cellsO hM; have hvb : wr.heap.size < w2.heap.size := hM.lt; have HVB := Lib.hid hvb; clear hM hP hb hvb B_wr S_wr O_wr HLD)
          | (refine wpList_load_v (by rfl) 25 _ rfl ⟨wr.heap.size, 2, none⟩ (by go_simp) _ (load_opc V_w2.out) ?_)
        refine (HF.out w2 S_w2.out).mono ?_
        rintro e y1 ⟨v1, rfl, hown, hb⟩
        have V_y1 := Lib.hid (V_w2.out.step hb)
        have B_y1 := Lib.hid (stepB B_w2.out hb)
        have S_y1 := Lib.hid (GL.step S_w2.out hb)
        obtain ⟨A1, c1, hv1, hc1, hgl1⟩ := OwnG.ret gC_len hown
        subst hv1
        have P1_y1 := Lib.hid hgl1
        clear hb hown hgl1 hc1 V_w2 B_w2 S_w2 d0 d1 d2 d3 HF
        obtain ⟨d0, d1, d2, d3⟩ := cellsO V_y1.out
        go_wp2_with first
          | (refine wpList_load_v (by rfl) 25 _ rfl ⟨wr.heap.size, 2, none⟩ (by go_simp) _ (load_opc V_y1.out) ?_)
        refine (HR.out y1 S_y1.out).mono ?_
        rintro e y2 ⟨v2, rfl, hown, hb⟩
        have P1_y2 := Lib.hid (GL.step P1_y1.out hb)
        have B_y2 := Lib.hid (stepB B_y1.out hb)
        have S_y2 := Lib.hid (GL.step S_y1.out hb)
        obtain ⟨A2, c2, hv2, hc2, hgl2⟩ := OwnG.ret gC_len hown
        subst hv2
        have P2_y2 := Lib.hid hgl2
        have HC2 := Lib.hid hc2
        clear hb hown hgl2 hc2 B_y1 S_y1 P1_y1 V_y1 d0 d1 d2 d3 HR
        have e5 : (E1 != E1) = false := by simp
        have HEE := Lib.hid (HEQ.out A1 A2 c1 c2 R1 y2 P1_y2.out P2_y2.out HR1.out)
        go_wp2_with fail
        refine HEE.out.mono ?_
        rintro e z9 ⟨rfl, hb⟩
        have P2_z9 := Lib.hid (GL.step P2_y2.out hb)
        have B_z9 := Lib.hid (stepB B_y2.out hb)
        have S_z9 := Lib.hid (GL.step S_y2.out hb)
        clear hb HEE P1_y2 P2_y2 B_y2 S_y2
        by_cases hE1 : E1 = 0
        · have e6 : (E1 == 0) = true := by rw [hE1]; rfl
          have HVN := Lib.hid (HKEEP.out hE1)
          clear hE1
          go_wp2_with fail
          go_roundg gk
          case measure => omega
          case rel => exact ⟨k + 1, R1, A2, c2, by have := HG.out; omega, by go_num, rfl, HC2.out, HVN.out, P2_z9.out, B_z9.out⟩
        · have e6 : (E1 == 0) = false := beq_eq_false_iff_ne.2 hE1
          clear hE1
          go_wp2_with fail
          go_roundg gk
          case measure => omega
          case rel => exact ⟨k + 1, xs, Ax, cx, by have := HG.out; omega, by go_num, rfl, HCX2.out, HOX.out, S_z9.out, B_z9.out⟩
      have k1 : (x.kd == 1) = false := beq_eq_false_iff_ne.2 h1
      clear h0 h1
      obtain ⟨R1, hR⟩ : ∃ R, cntC xs x.c.conn x.c.tag x.n = R := ⟨_, rfl⟩
      have HVN : Hid (OkC R1) := Lib.hid (by rw [← hR]; exact cnt_ok HOX.out _ _ _)
      have HR1 : Hid (R1.length ≤ 1000000) := Lib.hid (by rw [← hR, cnt_len]; exact HSZ.out)
      have HF := Lib.hid (fun w1 (hs : CsL w1 w1.heap.size Ax xs) => fCount_any Ax cx xs x.c.conn x.c.tag x.n w1 hs HSZ.out HUN.out)
      have HR := Lib.hid (fun w1 (hs : CsL w1 w1.heap.size Ax xs) => rCount_any Ax cx xs x.c.conn x.c.tag x.n w1 hs HSZ.out HUN.out)
      rw [hR] at HF HR
      clear hR
      go_upto_region 9 with first
        | (refine wpList_load_v (by rfl) 35 _ rfl ⟨b, o + k * 7, none⟩ (by go_simp) _ HLD.out ?_)
        | (refine S2.wpList_store_all (by rfl) 35 (.tmp 6) (.tmp 25) rfl rfl wr.heap.size rfl (gO x) rfl 35 (gO FOp.zero) (BK.new wr _ _) opSize rfl (gO_one _) ?_; intro w2 hM hP; have hb := hP.below (S2.below_new wr _) (Nat.le_refl _); have V_w2 := Lib.hid hM; have B_w2 := Lib.hid (stepB B_wr.out hb); have S_w2 := Lib.hid (GL.step S_wr.out hb); obtain ⟨d0, d1, d2, d3⟩ := cellsO hM; have hvb : wr.heap.size < w2.heap.size := hM.lt; have HVB := Lib.hid hvb; clear hM hP hb hvb B_wr S_wr O_wr HLD)
        | (refine wpList_load_v (by rfl) 25 _ rfl ⟨wr.heap.size, 2, none⟩ (by go_simp) _ (load_opc V_w2.out) ?_)
      clear d0 d1 d2 d3
      obtain ⟨vg, hvg⟩ : ∃ n, n = wr.heap.size := ⟨_, rfl⟩
      rw [← hvg] at V_w2 ⊢
      clear hvg
      obtain ⟨x1, hx1⟩ : ∃ x1, x1 = World.drew w2 := ⟨_, rfl⟩
      have hbD : Below w2.heap.size w2 x1 := by rw [hx1]; exact (Below.refl _ _).drew
      have V_x1 : Hid (BK 35 x1 vg (gO x)) := Lib.hid (V_w2.out.step hbD)
      have B_x1 : Hid (Below w.heap.size w x1) := Lib.hid (stepB B_w2.out hbD)
      have S_x1 : Hid (CsL x1 x1.heap.size Ax xs) := Lib.hid (GL.step S_w2.out hbD)
      clear V_w2 B_w2 S_w2
      have hbd : (fun w' => BK 35 w' vg (gO x)) (World.drew w2) := by rw [← hx1]; exact V_x1.out
      have hSD : (fun w' => BK 35 w' vg (gO x)) x1 := V_x1.out
      have HWD := Lib.hid hx1
      clear hx1 hbD
      refine wp_region_held_drew (S := fun w' => BK 35 w' vg (gO x)) (by kernel_rfl) hbd (fun hHeld => ?_)
      rw [← HWD.out]
      clear hHeld
      have hHeld := hSD
      clear hSD hbd HWD
      refine wpAnyH_take (i := 0) (v := .slice Ax xs.length cx) (get_ops _ _ _ rfl) (by kernel_rfl) (by kernel_rfl) (by kernel_rfl) (fun _ _ _ h => h) (Or.inl ⟨by rfl, fun wS hSw => by (try dsimp only at hSw); go_simp⟩) hHeld ?_
      try simp only [Act.put, List.setIfInBounds_toArray, List.set_cons_zero, List.set_cons_succ]
      refine wpAnyH_take (i := 1) (v := .pointer (some ⟨vg, 2, none⟩)) (get_ops _ _ _ rfl) (by kernel_rfl) (by kernel_rfl) (by kernel_rfl) (fun _ _ _ h => h) (Or.inl ⟨by rfl, fun wS hSw => by (try dsimp only at hSw); go_simp⟩) hHeld ?_
      try simp only [Act.put, List.setIfInBounds_toArray, List.set_cons_zero, List.set_cons_succ]
      refine wpAnyH_take (i := 2) (v := .pointer (some ⟨vg, 3, none⟩)) (get_ops _ _ _ rfl) (by kernel_rfl) (by kernel_rfl) (by kernel_rfl) (fun _ _ _ h => h) (Or.inl ⟨by rfl, fun wS hSw => by (try dsimp only at hSw); go_simp⟩) hHeld ?_
      try simp only [Act.put, List.setIfInBounds_toArray, List.set_cons_zero, List.set_cons_succ]
      refine wpAnyH_take (i := 3) (v := .int .i64 x.c.conn) (get_ops _ _ _ rfl) (by kernel_rfl) (by kernel_rfl) (by kernel_rfl) (fun _ _ _ h => h) (Or.inl ⟨by rfl, fun wS hSw => by (try dsimp only at hSw); have cS : wS.cell? ⟨vg, 3, none⟩ = some (.int .i64 x.c.conn) := hSw.cell 3 rfl; clear hSw; go_simp⟩) hHeld ?_
      try simp only [Act.put, List.setIfInBounds_toArray, List.set_cons_zero, List.set_cons_succ]
      refine wpAnyH_take (i := 4) (v := .pointer (some ⟨vg, 2, none⟩)) (get_ops _ _ _ rfl) (by kernel_rfl) (by kernel_rfl) (by kernel_rfl) (fun _ _ _ h => h) (Or.inl ⟨by rfl, fun wS hSw => by (try dsimp only at hSw); go_simp⟩) hHeld ?_
      try simp only [Act.put, List.setIfInBounds_toArray, List.set_cons_zero, List.set_cons_succ]
      refine wpAnyH_take (i := 5) (v := .pointer (some ⟨vg, 2, none⟩)) (get_ops _ _ _ rfl) (by kernel_rfl) (by kernel_rfl) (by kernel_rfl) (fun _ _ _ h => h) (Or.inl ⟨by rfl, fun wS hSw => by (try dsimp only at hSw); go_simp⟩) hHeld ?_
      try simp only [Act.put, List.setIfInBounds_toArray, List.set_cons_zero, List.set_cons_succ]
      refine wpAnyH_take (i := 6) (v := .int .i64 x.c.tag) (get_ops _ _ _ rfl) (by kernel_rfl) (by kernel_rfl) (by kernel_rfl) (fun _ _ _ h => h) (Or.inl ⟨by rfl, fun wS hSw => by (try dsimp only at hSw); have cS : wS.cell? ⟨vg, 2, none⟩ = some (.int .i64 x.c.tag) := hSw.cell 2 rfl; clear hSw; go_simp⟩) hHeld ?_
      try simp only [Act.put, List.setIfInBounds_toArray, List.set_cons_zero, List.set_cons_succ]
      refine wpAnyH_take (i := 7) (v := .pointer (some ⟨vg, 1, none⟩)) (get_ops _ _ _ rfl) (by kernel_rfl) (by kernel_rfl) (by kernel_rfl) (fun _ _ _ h => h) (Or.inl ⟨by rfl, fun wS hSw => by (try dsimp only at hSw); go_simp⟩) hHeld ?_
      try simp only [Act.put, List.setIfInBounds_toArray, List.set_cons_zero, List.set_cons_succ]
      refine wpAnyH_take (i := 8) (v := .int .i64 x.n) (get_ops _ _ _ rfl) (by kernel_rfl) (by kernel_rfl) (by kernel_rfl) (fun _ _ _ h => h) (Or.inl ⟨by rfl, fun wS hSw => by (try dsimp only at hSw); have cS : wS.cell? ⟨vg, 1, none⟩ = some (.int .i64 x.n) := hSw.cell 1 rfl; clear hSw; go_simp⟩) hHeld ?_
      try simp only [Act.put, List.setIfInBounds_toArray, List.set_cons_zero, List.set_cons_succ]
      refine wpAnyH_take (i := 10) (v := .slice Ax xs.length cx) (get_ops _ _ _ rfl) (by kernel_rfl) (by kernel_rfl) (by kernel_rfl) (fun _ _ _ h => h) (Or.inl ⟨by rfl, fun wS hSw => by (try dsimp only at hSw); go_simp⟩) hHeld ?_
      try simp only [Act.put, List.setIfInBounds_toArray, List.set_cons_zero, List.set_cons_succ]
      refine wpAnyH_take (i := 11) (v := .pointer (some ⟨vg, 2, none⟩)) (get_ops _ _ _ rfl) (by kernel_rfl) (by kernel_rfl) (by kernel_rfl) (fun _ _ _ h => h) (Or.inl ⟨by rfl, fun wS hSw => by (try dsimp only at hSw); go_simp⟩) hHeld ?_
      try simp only [Act.put, List.setIfInBounds_toArray, List.set_cons_zero, List.set_cons_succ]
      refine wpAnyH_take (i := 12) (v := .pointer (some ⟨vg, 3, none⟩)) (get_ops _ _ _ rfl) (by kernel_rfl) (by kernel_rfl) (by kernel_rfl) (fun _ _ _ h => h) (Or.inl ⟨by rfl, fun wS hSw => by (try dsimp only at hSw); go_simp⟩) hHeld ?_
      try simp only [Act.put, List.setIfInBounds_toArray, List.set_cons_zero, List.set_cons_succ]
      refine wpAnyH_take (i := 13) (v := .int .i64 x.c.conn) (get_ops _ _ _ rfl) (by kernel_rfl) (by kernel_rfl) (by kernel_rfl) (fun _ _ _ h => h) (Or.inl ⟨by rfl, fun wS hSw => by (try dsimp only at hSw); have cS : wS.cell? ⟨vg, 3, none⟩ = some (.int .i64 x.c.conn) := hSw.cell 3 rfl; clear hSw; go_simp⟩) hHeld ?_
      try simp only [Act.put, List.setIfInBounds_toArray, List.set_cons_zero, List.set_cons_succ]
      refine wpAnyH_take (i := 14) (v := .pointer (some ⟨vg, 2, none⟩)) (get_ops _ _ _ rfl) (by kernel_rfl) (by kernel_rfl) (by kernel_rfl) (fun _ _ _ h => h) (Or.inl ⟨by rfl, fun wS hSw => by (try dsimp only at hSw); go_simp⟩) hHeld ?_
      try simp only [Act.put, List.setIfInBounds_toArray, List.set_cons_zero, List.set_cons_succ]
      refine wpAnyH_take (i := 15) (v := .pointer (some ⟨vg, 2, none⟩)) (get_ops _ _ _ rfl) (by kernel_rfl) (by kernel_rfl) (by kernel_rfl) (fun _ _ _ h => h) (Or.inl ⟨by rfl, fun wS hSw => by (try dsimp only at hSw); go_simp⟩) hHeld ?_
      try simp only [Act.put, List.setIfInBounds_toArray, List.set_cons_zero, List.set_cons_succ]
      refine wpAnyH_take (i := 16) (v := .int .i64 x.c.tag) (get_ops _ _ _ rfl) (by kernel_rfl) (by kernel_rfl) (by kernel_rfl) (fun _ _ _ h => h) (Or.inl ⟨by rfl, fun wS hSw => by (try dsimp only at hSw); have cS : wS.cell? ⟨vg, 2, none⟩ = some (.int .i64 x.c.tag) := hSw.cell 2 rfl; clear hSw; go_simp⟩) hHeld ?_
      try simp only [Act.put, List.setIfInBounds_toArray, List.set_cons_zero, List.set_cons_succ]
      refine wpAnyH_take (i := 17) (v := .pointer (some ⟨vg, 1, none⟩)) (get_ops _ _ _ rfl) (by kernel_rfl) (by kernel_rfl) (by kernel_rfl) (fun _ _ _ h => h) (Or.inl ⟨by rfl, fun wS hSw => by (try dsimp only at hSw); go_simp⟩) hHeld ?_
      try simp only [Act.put, List.setIfInBounds_toArray, List.set_cons_zero, List.set_cons_succ]
      refine wpAnyH_take (i := 18) (v := .int .i64 x.n) (get_ops _ _ _ rfl) (by kernel_rfl) (by kernel_rfl) (by kernel_rfl) (fun _ _ _ h => h) (Or.inl ⟨by rfl, fun wS hSw => by (try dsimp only at hSw); have cS : wS.cell? ⟨vg, 1, none⟩ = some (.int .i64 x.n) := hSw.cell 1 rfl; clear hSw; go_simp⟩) hHeld ?_
      try simp only [Act.put, List.setIfInBounds_toArray, List.set_cons_zero, List.set_cons_succ]
      refine wpAnyH_ready (rs := [9]) (by kernel_rfl) (by simp) ?_
      refine (AllReadyH.cons (get_ops _ _ _ rfl) (fun K hK => ?_) AllReadyH.nil)
      go_simp
      refine (HF.out x1 S_x1.out).mono ?_
      rintro e x2 ⟨v1, rfl, hown, hb⟩
      obtain ⟨A1, c1, hv1, hc1, hgl1⟩ := OwnG.ret gC_len hown
      subst hv1
      have V_x2 : Hid (BK 35 x2 vg (gO x)) := Lib.hid (V_x1.out.step hb)
      have B_x2 : Hid (Below w.heap.size w x2) := Lib.hid (stepB B_x1.out hb)
      have S_x2 : Hid (CsL x2 x2.heap.size Ax xs) := Lib.hid (GL.step S_x1.out hb)
      clear V_x1 B_x1 S_x1
      have P1_x2 := Lib.hid hgl1
      have HC1 := Lib.hid hc1
      clear hgl1 hc1 hown hHeld hb
      go_wp2_with fail
      refine hK.out _ _ V_x2.out (fun hHeld => ?_)
      clear hK K
      try simp only [Act.put, List.setIfInBounds_toArray, List.set_cons_zero, List.set_cons_succ]
      refine wpAnyH_ready (rs := [19]) (by kernel_rfl) (by simp) ?_
      refine (AllReadyH.cons (get_ops _ _ _ rfl) (fun K hK => ?_) AllReadyH.nil)
      go_simp
      refine (HR.out x2 S_x2.out).mono ?_
      rintro e x3 ⟨v2, rfl, hown, hb⟩
      obtain ⟨A2, c2, hv2, hc2, hgl2⟩ := OwnG.ret gC_len hown
      subst hv2
      have V_x3 : Hid (BK 35 x3 vg (gO x)) := Lib.hid (V_x2.out.step hb)
      have B_x3 : Hid (Below w.heap.size w x3) := Lib.hid (stepB B_x2.out hb)
      have S_x3 : Hid (CsL x3 x3.heap.size Ax xs) := Lib.hid (GL.step S_x2.out hb)
      have P1_x3 : Hid (CsL x3 x3.heap.size A1 R1) := Lib.hid (GL.step P1_x2.out hb)
      clear V_x2 B_x2 S_x2 P1_x2
      have P2_x3 := Lib.hid hgl2
      have HC2 := Lib.hid hc2
      clear hgl2 hc2 hown hHeld hb
      go_wp2_with fail
      refine hK.out _ _ V_x3.out (fun hHeld => ?_)
      clear hK K
      try simp only [Act.put, List.setIfInBounds_toArray, List.set_cons_zero, List.set_cons_succ]
      refine wpAnyH_take (i := 20) (v := .slice A1 R1.length c1) (get_ops _ _ _ rfl) (by kernel_rfl) (by kernel_rfl) (by kernel_rfl) (fun _ _ _ h => h) (Or.inl ⟨by rfl, fun wS hSw => by (try dsimp only at hSw); go_simp⟩) hHeld ?_
      try simp only [Act.put, List.setIfInBounds_toArray, List.set_cons_zero, List.set_cons_succ]
      refine wpAnyH_take (i := 21) (v := .slice A2 R1.length c2) (get_ops _ _ _ rfl) (by kernel_rfl) (by kernel_rfl) (by kernel_rfl) (fun _ _ _ h => h) (Or.inl ⟨by rfl, fun wS hSw => by (try dsimp only at hSw); go_simp⟩) hHeld ?_
      try simp only [Act.put, List.setIfInBounds_toArray, List.set_cons_zero, List.set_cons_succ]
      refine wpAnyH_done (by kernel_rfl) ?_ _
      have HEE := Lib.hid (HEQ.out A1 A2 c1 c2 R1 x3 P1_x3.out P2_x3.out HR1.out)
      go_wp2_with fail
      refine HEE.out.mono ?_
      rintro e z9 ⟨rfl, hb⟩
      have P2_z9 := Lib.hid (GL.step P2_x3.out hb)
      have B_z9 := Lib.hid (stepB B_x3.out hb)
      have S_z9 := Lib.hid (GL.step S_x3.out hb)
      clear hb HEE P1_x3 P2_x3 B_x3 S_x3
      go_wp2_with fail
      go_roundg gk
      case measure => omega
      case rel => exact ⟨k + 1, R1, A2, c2, by have := HG.out; omega, by go_num, rfl, HC2.out, HVN.out, P2_z9.out, B_z9.out⟩
end Go.Proofs.Ytjkhfifnfgchgaa
