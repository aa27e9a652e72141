/-
  The walk of PackTorn: it answers true. Conditions: the parts read as data; the numbers fit their kinds.
-/
import Derived.Test.YtijdfadmmloclaaBack3
import Derived.Test.YtijdfadmmloclaaFair
import Derived.Deep.Cut
namespace Go.Proofs.Ytijdfadmmloclaa
open Go.RowKit

theorem fair_parts {n0 n1 : Nat} {S : ByteArray} {L : List ByteArray} (h : fairR n0 n1 S L = true) : n0 ≤ 400 ∧ n1 ≤ 400 ∧ S.size ≤ 400 ∧ L.length ≤ 24 ∧ ∀ x ∈ L, x.size ≤ 400 := by
  unfold fairR at h
  simp only [Bool.and_eq_true, decide_eq_true_eq] at h
  obtain ⟨⟨⟨h1, h2⟩, h3⟩, h4⟩ := h
  obtain ⟨h5, h6⟩ := short_parts h4
  exact ⟨h1, h2, h3, h5, h6⟩

/-- a slice of what was cut off, and what reading it answers -/
def TornAt (A3 : Option Addr) (cut c : Nat) (E : List UInt8) (w : World) : Prop := CL bv w w.heap.size A3 (E.take cut) ∧ (E.take cut).length = cut ∧ cut ≤ c
theorem torn_of (A : Option Addr) (c : Nat) (E : List UInt8) (cut : Nat) (hk : cut ≤ E.length) (hc : E.length ≤ c) (w : World) (hsl : CL bv w w.heap.size A E) :
    ∃ A3, (∀ w, (Instr.slice 22 (.slice A E.length c) none (some (.int .i64 cut)) none).run Try.prog w = .ok (.slice A3 cut c) w) ∧ TornAt A3 cut c E w := by
  obtain ⟨A2, hs, hcl2⟩ := slice_h A c E cut hk hc
  have htl : (E.take cut).length = cut := by rw [List.length_take]; omega
  rw [htl] at hs
  exact ⟨A2, hs, hcl2 w _ hsl, htl, by omega⟩
theorem TornAt.num {A : Option Addr} {cut c : Nat} {E : List UInt8} {w : World} (h : TornAt A cut c E w) (hn : cut ≤ 140737488355328) :
    Calls Try.prog 19 #[.slice A cut c, .int .i64 0] w fun e w' => e = tri .i64 (numR (E.take cut) 0) ∧ w = w' := by
  have := num_any A c (E.take cut) 0 (by omega) (by omega) w _ h.1 (by rw [h.2.1]; exact h.2.2) (by rw [h.2.1]; omega)
  rw [h.2.1] at this
  exact this
theorem TornAt.text {A : Option Addr} {cut c : Nat} {E : List UInt8} {w : World} (h : TornAt A cut c E w) (hn : cut ≤ 140737488355328) :
    Calls Try.prog 26 #[.slice A cut c, .int .i64 0, .int .i64 400] w fun e w' => e = triS (textR (E.take cut) 0 400) ∧ w = w' := by
  have := text_any A c (E.take cut) 0 400 (by omega) (by omega) w _ h.1 (by rw [h.2.1]; exact h.2.2) (by rw [h.2.1]; omega)
  rw [h.2.1] at this
  exact this
theorem TornAt.texts {A : Option Addr} {cut c : Nat} {E : List UInt8} {w : World} (h : TornAt A cut c E w) (hn : cut ≤ 1099511627776) :
    Calls Try.prog 28 #[.slice A cut c, .int .i64 0, .int .i64 400] w (RetTs (textsR (E.take cut) 0 400) w) := by
  have := texts_any A c (E.take cut) 0 400 (by omega) (by omega) w h.1 (by rw [h.2.1]; exact h.2.2) (by rw [h.2.1]; omega)
  rw [h.2.1] at this
  exact this

set_option maxHeartbeats 4000000 in
theorem packTorn_walk (A0 : Option Addr) (n0 c0 : Nat) (A1 : Option Addr) (n1 c1 : Nat) (N : Int) (S : ByteArray) (A4 : Option Addr) (c4 : Nat) (L : List ByteArray) (cut : Int) (w : World) (hL : SL w w.heap.size A4 L) (hN1 : -9223372036854775808 ≤ N) (hN2 : N ≤ 9223372036854775807) (_hc1 : -9223372036854775808 ≤ cut) (hc2 : cut ≤ 9223372036854775807) :
    Calls Try.prog 10 #[.agg #[.slice A0 n0 c0, .slice A1 n1 c1, .int .i64 N, .string S, .slice A4 L.length c4], .int .i64 cut] w fun e w' => e = .returned (.bool true) ∧ Below w.heap.size w w' := by
  have HF := Lib.hid (fun w h => fair_any A0 n0 c0 A1 n1 c1 N S A4 c4 L w h)
  have HL := Lib.hid hL
  cases hf : fairR n0 n1 S L
  · rw [hf] at HF
    clear hL hf
    generalize L.length = n4 at HF
    go_enter Try.func10, Try.ntmps10
    go_wp2_with fail
    refine (HF.out _ (HL.out.step (below_new _ _))).mono ?_
    rintro e w1 ⟨rfl, hb1⟩
    have hb1' := stepB (below_new _ _) hb1
    clear hb1
    go_wp2_with fail
    refine (awake3_any _).mono ?_
    rintro e w2 ⟨rfl, hb2⟩
    go_wp2_with fail
    go_ret
    exact ⟨rfl, stepB hb1' hb2⟩
  · obtain ⟨_, _, hS, hl, hx⟩ := fair_parts hf
    rw [hf] at HF
    clear hL hf
    by_cases hcut0 : cut < 0
    · clear hS hl hx
      generalize L.length = n4 at HF
      go_enter Try.func10, Try.ntmps10
      go_wp2_with fail
      refine (HF.out _ (HL.out.step (below_new _ _))).mono ?_
      rintro e w1 ⟨rfl, hb1⟩
      have hb1' := stepB (below_new _ _) hb1
      clear hb1
      go_wp2_with fail
      refine (awake3_any _).mono ?_
      rintro e w2 ⟨rfl, hb2⟩
      go_wp2_with fail
      go_ret
      exact ⟨rfl, stepB hb1' hb2⟩
    obtain ⟨cut, rfl⟩ := Int.eq_ofNat_of_zero_le (by omega : 0 ≤ cut)
    have q0 : decide ((cut : Int) < 0) = false := decide_eq_false hcut0
    have HP1 := Lib.hid (fun w => putNum_any none 0 [] N hN1 hN2 w (CL.nil _ _ _) (by simp))
    have HP2 := Lib.hid (fun w => putText_any none 0 [] S w (CL.nil _ _ _) (by simp) (by omega))
    have HP3 := Lib.hid (fun A c w hsl => putTexts_any none 0 [] A c L w (CL.nil _ _ _) hsl (by simp) (by omega) (fun x h => by have := hx x h; omega))
    have ht1 : cut < (enc N).length → numR ((enc N).take cut) 0 = (0, 0, 3) := fun h => numR_torn (l := (enc N).take cut) (k := 0) (by omega) h rfl
    have ht2 : cut < (encT S).length → (textR ((encT S).take cut) 0 400).2.2 = 3 := fun h => textR_torn (l := (encT S).take cut) (k := 0) (limit := 400) (by omega) (by omega) (by omega) h rfl
    have ht3 : cut < (encL L).length → (textsR ((encL L).take cut) 0 400).2.2 = 3 := fun h => textsR_torn (l := (encL L).take cut) (k := 0) (limit := 400) (by omega) (by omega) (by omega) (fun y hy => by have := hx y hy; omega) h rfl
    have e2 : enc S.size ++ dl S = encT S := rfl
    simp only [List.nil_append, e2] at HP1 HP2 HP3
    have hl1 := (enc_len N).2
    have hl2 : (encT S).length ≤ 410 := by have := encT_len S; omega
    have hl3 : (encL L).length ≤ 100000 := by
      have h1 := encTs_len L 400 hx
      have h2 := (enc_len L.length).2
      unfold encL
      rw [List.length_append]
      have h3 : L.length * (10 + 400) ≤ 24 * (10 + 400) := Nat.mul_le_mul hl (Nat.le_refl _)
      omega
    generalize enc N = E1 at HP1 ht1 hl1
    generalize encT S = E2 at HP2 ht2 hl2
    generalize encL L = E3 at HP3 ht3 hl3
    have HT1 := Lib.hid ht1
    have HT2 := Lib.hid ht2
    have HT3 := Lib.hid ht3
    have HLL : Hid (L.length ≤ 24) := Lib.hid hl
    clear ht1 ht2 ht3 hx hS hcut0 e2
    obtain ⟨n4, hn4⟩ : ∃ n, L.length = n := ⟨_, rfl⟩
    rw [hn4] at HF HP3
    have HLN := Lib.hid hn4
    go_enter Try.func10, Try.ntmps10
    clear hl hn4
    go_wp2_with fail
    rw [HLN.out]
    have h0 := below_new w (.cells #[.slice A0 n0 c0, .slice A1 n1 c1, .int .i64 N, .string S, .slice A4 n4 c4] 46)
    have k2 : (w.alloc (.cells #[.slice A0 n0 c0, .slice A1 n1 c1, .int .i64 N, .string S, .slice A4 n4 c4] 46)).cell? ⟨w.heap.size, 2, none⟩ = some (.int .i64 N) := by simp
    have k3 : (w.alloc (.cells #[.slice A0 n0 c0, .slice A1 n1 c1, .int .i64 N, .string S, .slice A4 n4 c4] 46)).cell? ⟨w.heap.size, 3, none⟩ = some (.string S) := by simp
    have k4 : (w.alloc (.cells #[.slice A0 n0 c0, .slice A1 n1 c1, .int .i64 N, .string S, .slice A4 n4 c4] 46)).cell? ⟨w.heap.size, 4, none⟩ = some (.slice A4 n4 c4) := by simp
    have hb0 : w.heap.size < (w.alloc (.cells #[.slice A0 n0 c0, .slice A1 n1 c1, .int .i64 N, .string S, .slice A4 n4 c4] 46)).heap.size := by simp
    generalize (w.alloc (.cells #[.slice A0 n0 c0, .slice A1 n1 c1, .int .i64 N, .string S, .slice A4 n4 c4] 46)) = w0 at h0 k2 k3 k4 hb0 ⊢
    have HL0 := Lib.hid (HL.out.step h0)
    refine (HF.out w0 HL0.out).mono ?_
    rintro e w1 ⟨rfl, hb1⟩
    have HBB : Hid (∀ wx, Below w0.heap.size w0 wx → ∀ wy, Below wx.heap.size wx wy → Below w.heap.size w wy) := Lib.hid (fun wx hx wy hy => stepB (stepB h0 hx) hy)
    have HB0 := Lib.hid hb0
    have K3 := Lib.hid k3
    have K4 := Lib.hid k4
    have k21 := (hb1.cell hb0 (p := ⟨w.heap.size, 2, none⟩)).trans k2
    have HB1 := Lib.hid hb1
    clear HF HL h0 hb0 k2 k3 k4 hb1
    go_wp2_with fail
    refine (HP1.out _).mono ?_
    rintro e w2 ⟨v2, rfl, hown2, hb2⟩
    obtain ⟨A2, c2, rfl, hc2', hsl2⟩ := hown2.ret
    have HB2 := Lib.hid (stepB HB1.out hb2)
    clear hown2 HB1 HP1 hb2 k21
    go_upto_if 29 with fail
    go_cut [] from 15 (fun wx => Below w0.heap.size w0 wx)
    case first =>
      by_cases hlt : cut < E1.length
      · obtain ⟨A3, hs, hC⟩ := torn_of A2 c2 E1 cut (by omega) hc2' w2 hsl2
        have HC := Lib.hid (hC.num (by omega))
        rw [HT1.out hlt] at HC
        have q1 : decide ((cut : Int) < (E1.length : Int)) = true := decide_eq_true (by omega)
        have q2 : decide (cut < E1.length) = true := decide_eq_true hlt
        rw [q2]
        have j1 : (0 : Int) ≤ (cut : Int) := by omega
        have j2 : (cut : Int) ≤ (E1.length : Int) := by omega
        clear hC hsl2 hc2' hlt
        go_wp2_with fail
        refine HC.out.mono ?_
        rintro e w3 ⟨rfl, rfl⟩
        unfold tri
        go_wp2_with fail
        go_meet
        exact HB2.out
      · have q1 : decide ((cut : Int) < (E1.length : Int)) = false := decide_eq_false (by omega)
        have q2 : decide (cut < E1.length) = false := decide_eq_false hlt
        rw [q2]
        clear hsl2 hc2' hlt
        go_wp2_with fail
        go_meet
        exact HB2.out
    case rest =>
      have HB3 := Lib.hid hcut
      have k31 := (hcut.cell HB0.out (p := ⟨w.heap.size, 3, none⟩)).trans K3.out
      clear hcut HB2 hsl2 hc2' K3 HT1 hl1
      go_wp2_with fail
      refine (HP2.out _).mono ?_
      rintro e w3 ⟨v3, rfl, hown3, hb3⟩
      obtain ⟨A5, c5, rfl, hc5', hsl5⟩ := hown3.ret
      have HB4 := Lib.hid (stepB HB3.out hb3)
      clear hown3 HB3 HP2 hb3 k31
      go_upto_if 46 with fail
      go_cut [] from 15 (fun wx => Below w0.heap.size w0 wx)
      case first =>
        by_cases hlt : cut < E2.length
        · obtain ⟨A3, hs, hC⟩ := torn_of A5 c5 E2 cut (by omega) hc5' w3 hsl5
          have HC := Lib.hid (hC.text (by omega))
          have h3 := HT2.out hlt
          generalize textR (E2.take cut) 0 400 = r at HC h3
          obtain ⟨rs, rn, re⟩ := r
          obtain rfl : re = 3 := h3
          have q1 : decide ((cut : Int) < (E2.length : Int)) = true := decide_eq_true (by omega)
          have q2 : decide (cut < E2.length) = true := decide_eq_true hlt
          rw [q2]
          have j1 : (0 : Int) ≤ (cut : Int) := by omega
          have j2 : (cut : Int) ≤ (E2.length : Int) := by omega
          clear hC hsl5 hc5' hlt
          go_wp2_with fail
          refine HC.out.mono ?_
          rintro e w4 ⟨rfl, rfl⟩
          unfold triS
          go_wp2_with fail
          go_meet
          exact HB4.out
        · have q1 : decide ((cut : Int) < (E2.length : Int)) = false := decide_eq_false (by omega)
          have q2 : decide (cut < E2.length) = false := decide_eq_false hlt
          rw [q2]
          clear hsl5 hc5' hlt
          go_wp2_with fail
          go_meet
          exact HB4.out
      case rest =>
        have HB5 := Lib.hid hcut
        rename_i we
        have k41 := (hcut.cell HB0.out (p := ⟨w.heap.size, 4, none⟩)).trans K4.out
        clear hcut HB4 hsl5 hc5' K4 HT2 hl2
        go_wp2_with fail
        refine (HP3.out A4 c4 _ (HL0.out.step HB5.out)).mono ?_
        rintro e w5 ⟨v5, rfl, hown5, hb5⟩
        obtain ⟨A6, c6, rfl, hc6', hsl6⟩ := hown5.ret
        have HB6 := Lib.hid (stepB HB5.out hb5)
        clear hown5 HB5 HP3 hb5 k41
        go_upto_if 63 with fail
        go_cut [] from 15 (fun wx => Below w0.heap.size w0 wx)
        case first =>
          by_cases hlt : cut < E3.length
          · obtain ⟨A3, hs, hC⟩ := torn_of A6 c6 E3 cut (by omega) hc6' w5 hsl6
            have HC := Lib.hid (hC.texts (by omega))
            have h3 := HT3.out hlt
            generalize textsR (E3.take cut) 0 400 = r at HC h3
            obtain ⟨rs, rn, re⟩ := r
            obtain rfl : re = 3 := h3
            have q1 : decide ((cut : Int) < (E3.length : Int)) = true := decide_eq_true (by omega)
            have q2 : decide (cut < E3.length) = true := decide_eq_true hlt
            rw [q2]
            have j1 : (0 : Int) ≤ (cut : Int) := by omega
            have j2 : (cut : Int) ≤ (E3.length : Int) := by omega
            clear hC hsl6 hc6' hlt
            go_wp2_with fail
            refine HC.out.mono ?_
            rintro e w6 ⟨v6, rfl, hown6, hb6⟩
            have HB7 := Lib.hid (stepB HB6.out hb6)
            obtain ⟨A7, c7, rfl, _, _⟩ := hown6.ret
            dsimp only
            clear hown6 hb6
            go_wp2_with fail
            go_meet
            exact HB7.out
          · have q1 : decide ((cut : Int) < (E3.length : Int)) = false := decide_eq_false (by omega)
            have q2 : decide (cut < E3.length) = false := decide_eq_false hlt
            rw [q2]
            clear hsl6 hc6' hlt
            go_wp2_with fail
            go_meet
            exact HB6.out
        case rest =>
          have HB8 := Lib.hid hcut
          clear hcut hsl6 hc6' HT3 hl3 HB6
          go_wp2_with fail
          refine (awake3_any _).mono ?_
          rintro e w8 ⟨rfl, hb8⟩
          go_wp2_with fail
          go_ret
          exact ⟨rfl, HBB.out _ HB8.out _ hb8⟩
theorem packTorn_walk2 (A0 : Option Addr) (c0 : Nat) (Xb : List UInt8) (A1 : Option Addr) (c1 : Nat) (Xa : List UInt8) (N : Int) (S : ByteArray) (A4 : Option Addr) (c4 : Nat) (L : List ByteArray) (cut : Int) (w : World)
    (_hsb : CL bv w w.heap.size A0 Xb) (_hsa : CL bv w w.heap.size A1 Xa) (hL : SL w w.heap.size A4 L) (hN1 : -9223372036854775808 ≤ N) (hN2 : N ≤ 9223372036854775807) (hc1 : -9223372036854775808 ≤ cut) (hc2 : cut ≤ 9223372036854775807) :
    Calls Try.prog 10 #[.agg #[.slice A0 Xb.length c0, .slice A1 Xa.length c1, .int .i64 N, .string S, .slice A4 L.length c4], .int .i64 cut] w fun e w' => e = .returned (.bool true) ∧ Below w.heap.size w w' :=
  packTorn_walk A0 Xb.length c0 A1 Xa.length c1 N S A4 c4 L cut w hL hN1 hN2 hc1 hc2

end Go.Proofs.Ytijdfadmmloclaa
