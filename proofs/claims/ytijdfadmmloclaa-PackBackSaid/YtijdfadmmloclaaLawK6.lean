/-
  The walk of PackBack: it answers true. Conditions: the parts read as data; the numbers fit their kinds.
-/
import Derived.Test.YtijdfadmmloclaaLawK5
import Derived.Deep.RegionHeld3
namespace Go.Proofs.Ytijdfadmmloclaa
open Go.RowKit

/-- append of bytes, at one operation -/
theorem oper_appB {o : Oper} {a : Act} {K : Act → World → Prop} {Q : Exit → Act → World → Prop} (wr : World) (s x : Operand) (ho : o.op = .call { callee := .builtin .append, args := #[s, x], argTypes := #[22, 22] })
    (B : Nat) (v : Value) (xs ys : List UInt8) (A : Option Addr) (c : Nat) (hs : a.eval s = v) (hown : Own 5 bv wr B v xs) (hx : a.eval x = .slice A ys.length c) (B' : Nat) (hsl : CL bv wr B' A ys) (w0 : World) (hb : Below B w0 wr) (hB : B ≤ wr.heap.size)
    (hn : xs.length + ys.length ≤ 140737488355328) (h : ∀ v' w', Own 5 bv w' B v' (xs ++ ys) → Below B w0 w' → B ≤ w'.heap.size → K (a.put o.dst v') w') : Oper.wp Try.prog o a wr K Q := by
  obtain ⟨i, hi, hz, hz1, hz2⟩ := info_parts infoU8
  obtain ⟨v', w', hr, h2, h3⟩ := run_append_own_src (P := Try.prog) wr B 22 22 o.type 5 i (.int .u8 0) 1 1 Try.underlying22 hi hz hz1 hz2 rfl (by decide) v xs.length (xs.map bv) hown _ ys.length (ys.map bv) (hsl.src Try.underlying22 bv_one c) (by unfold maxLen; omega) (by omega) hB
  unfold Oper.wp execOp
  simp only [ho, resolve, invoke, builtin, Sem.run_bind, Sem.run_pure, Result.andThen_ok, List.map_toArray, List.map_cons, List.map_nil, hs, hx, hr]
  refine h v' w' ?_ (hb.grown h3 hB (fun j hj => (World.ownsRow.lt hown j hj).1)) (by have := h3.size; omega)
  unfold Own
  simpa using h2

/-- what the whole reads as -/
theorem back_all {Xb Xa : List UInt8} {N : Int} {S : ByteArray} {L : List ByteArray} (hN1 : -9223372036854775808 ≤ N) (hN2 : N ≤ 9223372036854775807) (hS : S.size ≤ 400) (hl : L.length ≤ 24) (hx : ∀ x ∈ L, x.size ≤ 400) (T : List UInt8) (hT : T = (Xb ++ enc N ++ encT S ++ encL L) ++ Xa) :
    ∃ k1 k2 k3 : Nat, numR T Xb.length = (N, (k1 : Int), 0) ∧ textR T k1 400 = (S, (k2 : Int), 0) ∧ textsR T k2 400 = (L, (k3 : Int), 0) ∧ (k3 : Int) = (T.length : Int) - (Xa.length : Int) ∧ k1 ≤ T.length ∧ k2 ≤ T.length := by
  have d0 : T.drop Xb.length = enc N ++ (encT S ++ encL L ++ Xa) := by subst hT; simp only [List.append_assoc]; rw [List.drop_left]
  have d1 : T.drop (Xb.length + (enc N).length) = encT S ++ (encL L ++ Xa) := by rw [← List.drop_drop, d0, List.drop_left, List.append_assoc]
  have d2 : T.drop (Xb.length + (enc N).length + (encT S).length) = encL L ++ Xa := by rw [← List.drop_drop, d1, List.drop_left]
  have hlen : T.length = Xb.length + (enc N).length + (encT S).length + (encL L).length + Xa.length := by subst hT; simp only [List.length_append]
  refine ⟨_, _, _, numR_enc (by omega) hN1 hN2 d0, textR_enc (by omega) (by omega) (by omega) d1, textsR_enc (by omega) (by omega) (by omega) (fun y hy => by have := hx y hy; omega) d2, ?_, by omega, by omega⟩
  rw [hlen]
  omega

set_option maxRecDepth 20000 in
set_option maxHeartbeats 8000000 in
theorem packBack_walk (A0 : Option Addr) (c0 : Nat) (Xb : List UInt8) (A1 : Option Addr) (c1 : Nat) (Xa : List UInt8) (N : Int) (S : ByteArray) (A4 : Option Addr) (c4 : Nat) (L : List ByteArray) (w : World)
    (hsb : CL bv w w.heap.size A0 Xb) (hsa : CL bv w w.heap.size A1 Xa) (hL : SL w w.heap.size A4 L) (hN1 : -9223372036854775808 ≤ N) (hN2 : N ≤ 9223372036854775807) :
    Calls Try.prog 8 #[.agg #[.slice A0 Xb.length c0, .slice A1 Xa.length c1, .int .i64 N, .string S, .slice A4 L.length c4]] w fun e w' => e = .returned (.bool true) ∧ Below w.heap.size w w' := by
  have HF := Lib.hid (fun w h => fair_any A0 Xb.length c0 A1 Xa.length c1 N S A4 c4 L w h)
  have HL := Lib.hid hL
  cases hf : fairR Xb.length Xa.length S L
  · rw [hf] at HF
    clear hL hf hsb hsa
    generalize L.length = n4 at HF
    generalize Xb.length = n0 at HF
    generalize Xa.length = n1 at HF
    go_enter Try.func8, Try.ntmps8
    go_wp2_with fail
    refine (HF.out _ (HL.out.step (below_new _ _))).mono ?_
    rintro e w1 ⟨rfl, hb1⟩
    have hb1' := stepB (below_new _ _) hb1
    clear hb1
    go_wp2_with fail
    refine (awake3_any _).mono ?_
    rintro e w2 ⟨rfl, hb2⟩
    go_wp2_with fail
    go_ret
    exact ⟨rfl, stepB hb1' hb2⟩
  obtain ⟨hb400, ha400, hS, hl, hx⟩ := fair_parts hf
  rw [hf] at HF
  have HSB := Lib.hid hsb
  have HSA := Lib.hid hsa
  have HLL : Hid (L.length ≤ 24) := Lib.hid hl
  have hl3 : (encL L).length ≤ 100000 := by
    have h1 := encTs_len L 400 hx
    have h2 := (enc_len L.length).2
    unfold encL
    rw [List.length_append]
    have h3 : L.length * (10 + 400) ≤ 24 * (10 + 400) := Nat.mul_le_mul hl (Nat.le_refl _)
    omega
  have hle : (Xb ++ enc N ++ encT S ++ encL L).length ≤ 200000 := by
    have h1 := (enc_len N).2
    have h2 := encT_len S
    simp only [List.length_append]
    omega
  have hle2 : (Xb ++ enc N ++ encT S).length ≤ 2000 := by
    have h1 := (enc_len N).2
    have h2 := encT_len S
    simp only [List.length_append]
    omega
  have HP1 := Lib.hid (fun w hsl => putNum_any A0 c0 Xb N hN1 hN2 w hsl (by omega))
  have HP2 := Lib.hid (fun A c w hsl => putText_any A c (Xb ++ enc N) S w hsl (by have h1 := (enc_len N).2; rw [List.length_append]; omega) (by omega))
  have HP3 := Lib.hid (fun A c w hsl hsl' => putTexts_any A c (Xb ++ enc N ++ encT S) A4 c4 L w hsl hsl' (by omega) (by omega) (fun x h => by have := hx x h; omega))
  have e2 : Xb ++ enc N ++ (enc S.size ++ dl S) = Xb ++ enc N ++ encT S := rfl
  simp only [e2] at HP2
  have HBA := Lib.hid (fun T hT => back_all (Xb := Xb) (Xa := Xa) hN1 hN2 hS hl hx T hT)
  generalize Xb ++ enc N = T1 at HP1 HP2 HP3 hle hle2 HBA
  generalize T1 ++ encT S = T2 at HP2 HP3 hle hle2 HBA
  generalize T2 ++ encL L = T3 at HP3 hle HBA
  obtain ⟨n4, hn4⟩ : ∃ n, L.length = n := ⟨_, rfl⟩
  obtain ⟨n0, hn0⟩ : ∃ n, Xb.length = n := ⟨_, rfl⟩
  obtain ⟨n1, hn1⟩ : ∃ n, Xa.length = n := ⟨_, rfl⟩
  rw [hn4] at HF HP3
  rw [hn0] at HF HP1 HBA
  rw [hn1] at HF HBA
  rw [hn4, hn0, hn1]
  have HLN := Lib.hid hn4
  have HLB := Lib.hid hn0
  have HLA := Lib.hid hn1
  have HLE := Lib.hid hle
  clear hL hf hsb hsa e2 hx hS hl3 hle2 hn4 hn0 hn1 hl hle
  go_enter Try.func8, Try.ntmps8
  go_wp2_with fail
  have h0 := below_new w (.cells #[.slice A0 n0 c0, .slice A1 n1 c1, .int .i64 N, .string S, .slice A4 n4 c4] 46)
  have k0 : (w.alloc (.cells #[.slice A0 n0 c0, .slice A1 n1 c1, .int .i64 N, .string S, .slice A4 n4 c4] 46)).cell? ⟨w.heap.size, 0, none⟩ = some (.slice A0 n0 c0) := by simp
  have k1 : (w.alloc (.cells #[.slice A0 n0 c0, .slice A1 n1 c1, .int .i64 N, .string S, .slice A4 n4 c4] 46)).cell? ⟨w.heap.size, 1, none⟩ = some (.slice A1 n1 c1) := by simp
  have k2 : (w.alloc (.cells #[.slice A0 n0 c0, .slice A1 n1 c1, .int .i64 N, .string S, .slice A4 n4 c4] 46)).cell? ⟨w.heap.size, 2, none⟩ = some (.int .i64 N) := by simp
  have k3 : (w.alloc (.cells #[.slice A0 n0 c0, .slice A1 n1 c1, .int .i64 N, .string S, .slice A4 n4 c4] 46)).cell? ⟨w.heap.size, 3, none⟩ = some (.string S) := by simp
  have k4 : (w.alloc (.cells #[.slice A0 n0 c0, .slice A1 n1 c1, .int .i64 N, .string S, .slice A4 n4 c4] 46)).cell? ⟨w.heap.size, 4, none⟩ = some (.slice A4 n4 c4) := by simp
  have hb0 : w.heap.size < (w.alloc (.cells #[.slice A0 n0 c0, .slice A1 n1 c1, .int .i64 N, .string S, .slice A4 n4 c4] 46)).heap.size := by simp
  generalize (w.alloc (.cells #[.slice A0 n0 c0, .slice A1 n1 c1, .int .i64 N, .string S, .slice A4 n4 c4] 46)) = w0 at h0 k0 k1 k2 k3 k4 hb0 ⊢
  have HL0 := Lib.hid (HL.out.step h0)
  have HSB0 := Lib.hid (HSB.out.step h0)
  have HSA0 := Lib.hid (HSA.out.step h0)
  refine (HF.out w0 HL0.out).mono ?_
  rintro e w1 ⟨rfl, hb1⟩
  have HBB : Hid (∀ wx, Below w0.heap.size w0 wx → ∀ wy, Below wx.heap.size wx wy → Below w.heap.size w wy) := Lib.hid (fun wx hx wy hy => stepB (stepB h0 hx) hy)
  have HC : Hid (∀ w', Below w0.heap.size w0 w' → w'.cell? ⟨w.heap.size, 0, none⟩ = some (.slice A0 n0 c0) ∧ w'.cell? ⟨w.heap.size, 1, none⟩ = some (.slice A1 n1 c1) ∧ w'.cell? ⟨w.heap.size, 2, none⟩ = some (.int .i64 N) ∧ w'.cell? ⟨w.heap.size, 3, none⟩ = some (.string S) ∧ w'.cell? ⟨w.heap.size, 4, none⟩ = some (.slice A4 n4 c4)) :=
    Lib.hid fun w' h => ⟨(h.cell hb0).trans k0, (h.cell hb0).trans k1, (h.cell hb0).trans k2, (h.cell hb0).trans k3, (h.cell hb0).trans k4⟩
  have hbd : Below w0.heap.size w0 w1.drew := stepB hb1 (Below.refl _ _).drew
  clear HF HL HSB HSA h0 hb0 k0 k1 k2 k3 k4 hb1
  go_upto_region 3 with fail
  refine wp_region_held_drew (S := fun w' => Below w0.heap.size w0 w') (by kernel_rfl) hbd (fun hHeld => ?_)
  refine wpAnyH_take (i := 0) (v := .pointer (some ⟨w.heap.size, 0, none⟩)) (get_ops _ _ _ rfl) (by kernel_rfl) (by kernel_rfl) (by kernel_rfl) (fun _ _ _ h => h) (Or.inl ⟨by rfl, fun w hSw => by (try dsimp only at hSw); go_simp⟩) hHeld ?_
  try simp only [Act.put, List.setIfInBounds_toArray, List.set_cons_zero, List.set_cons_succ]
  refine wpAnyH_take (i := 1) (v := .slice A0 n0 c0) (get_ops _ _ _ rfl) (by kernel_rfl) (by kernel_rfl) (by kernel_rfl) (fun _ _ _ h => h) (Or.inl ⟨by rfl, fun w hSw => by (try dsimp only at hSw); have kk := (HC.out w hSw).1; clear hSw; go_simp⟩) hHeld ?_
  try simp only [Act.put, List.setIfInBounds_toArray, List.set_cons_zero, List.set_cons_succ]
  refine wpAnyH_take (i := 2) (v := .pointer (some ⟨w.heap.size, 2, none⟩)) (get_ops _ _ _ rfl) (by kernel_rfl) (by kernel_rfl) (by kernel_rfl) (fun _ _ _ h => h) (Or.inl ⟨by rfl, fun w hSw => by (try dsimp only at hSw); go_simp⟩) hHeld ?_
  try simp only [Act.put, List.setIfInBounds_toArray, List.set_cons_zero, List.set_cons_succ]
  refine wpAnyH_take (i := 3) (v := .int .i64 N) (get_ops _ _ _ rfl) (by kernel_rfl) (by kernel_rfl) (by kernel_rfl) (fun _ _ _ h => h) (Or.inl ⟨by rfl, fun w hSw => by (try dsimp only at hSw); have kk := (HC.out w hSw).2.2.1; clear hSw; go_simp⟩) hHeld ?_
  try simp only [Act.put, List.setIfInBounds_toArray, List.set_cons_zero, List.set_cons_succ]
  refine wpAnyH_take (i := 5) (v := .pointer (some ⟨w.heap.size, 3, none⟩)) (get_ops _ _ _ rfl) (by kernel_rfl) (by kernel_rfl) (by kernel_rfl) (fun _ _ _ h => h) (Or.inl ⟨by rfl, fun w hSw => by (try dsimp only at hSw); go_simp⟩) hHeld ?_
  try simp only [Act.put, List.setIfInBounds_toArray, List.set_cons_zero, List.set_cons_succ]
  refine wpAnyH_take (i := 6) (v := .string S) (get_ops _ _ _ rfl) (by kernel_rfl) (by kernel_rfl) (by kernel_rfl) (fun _ _ _ h => h) (Or.inl ⟨by rfl, fun w hSw => by (try dsimp only at hSw); have kk := (HC.out w hSw).2.2.2.1; clear hSw; go_simp⟩) hHeld ?_
  try simp only [Act.put, List.setIfInBounds_toArray, List.set_cons_zero, List.set_cons_succ]
  refine wpAnyH_take (i := 8) (v := .pointer (some ⟨w.heap.size, 4, none⟩)) (get_ops _ _ _ rfl) (by kernel_rfl) (by kernel_rfl) (by kernel_rfl) (fun _ _ _ h => h) (Or.inl ⟨by rfl, fun w hSw => by (try dsimp only at hSw); go_simp⟩) hHeld ?_
  try simp only [Act.put, List.setIfInBounds_toArray, List.set_cons_zero, List.set_cons_succ]
  refine wpAnyH_take (i := 9) (v := .slice A4 n4 c4) (get_ops _ _ _ rfl) (by kernel_rfl) (by kernel_rfl) (by kernel_rfl) (fun _ _ _ h => h) (Or.inl ⟨by rfl, fun w hSw => by (try dsimp only at hSw); have kk := (HC.out w hSw).2.2.2.2; clear hSw; go_simp⟩) hHeld ?_
  try simp only [Act.put, List.setIfInBounds_toArray, List.set_cons_zero, List.set_cons_succ]
  refine wpAnyH_take (i := 11) (v := .pointer (some ⟨w.heap.size, 1, none⟩)) (get_ops _ _ _ rfl) (by kernel_rfl) (by kernel_rfl) (by kernel_rfl) (fun _ _ _ h => h) (Or.inl ⟨by rfl, fun w hSw => by (try dsimp only at hSw); go_simp⟩) hHeld ?_
  try simp only [Act.put, List.setIfInBounds_toArray, List.set_cons_zero, List.set_cons_succ]
  refine wpAnyH_take (i := 12) (v := .slice A1 n1 c1) (get_ops _ _ _ rfl) (by kernel_rfl) (by kernel_rfl) (by kernel_rfl) (fun _ _ _ h => h) (Or.inl ⟨by rfl, fun w hSw => by (try dsimp only at hSw); have kk := (HC.out w hSw).2.1; clear hSw; go_simp⟩) hHeld ?_
  try simp only [Act.put, List.setIfInBounds_toArray, List.set_cons_zero, List.set_cons_succ]
  refine wpAnyH_ready (rs := [4]) (by kernel_rfl) (by simp) ?_
  refine AllReadyH.cons (get_ops _ _ _ rfl) (fun K hK => ?_) AllReadyH.nil
  go_simp
  go_at_call 17
  refine (HP1.out _ (HSB0.out.step hHeld)).mono ?_
  rintro e w2 ⟨v2, rfl, hown2, hb2⟩
  obtain ⟨A2, c2, rfl, _, hsl2⟩ := hown2.ret
  have HSL2 := Lib.hid hsl2
  clear hown2 hsl2
  go_wp2_with fail
  refine hK.out _ _ (stepB hHeld hb2) (fun hHeld => ?_)
  clear hK K
  try simp only [Act.put, List.setIfInBounds_toArray, List.set_cons_zero, List.set_cons_succ]
  refine wpAnyH_ready (rs := [7]) (by kernel_rfl) (by simp) ?_
  refine AllReadyH.cons (get_ops _ _ _ rfl) (fun K hK => ?_) AllReadyH.nil
  go_simp
  go_at_call 22
  refine (HP2.out A2 c2 _ HSL2.out).mono ?_
  rintro e w3 ⟨v3, rfl, hown3, hb3⟩
  obtain ⟨A3, c3, rfl, _, hsl3⟩ := hown3.ret
  have HSL3 := Lib.hid hsl3
  clear hown3 hsl3
  go_wp2_with fail
  refine hK.out _ _ (stepB hHeld hb3) (fun hHeld => ?_)
  clear hK K
  try simp only [Act.put, List.setIfInBounds_toArray, List.set_cons_zero, List.set_cons_succ]
  have HH3 := Lib.hid hHeld
  refine wpAnyH_ready (rs := [10]) (by kernel_rfl) (by simp) ?_
  refine AllReadyH.cons (get_ops _ _ _ rfl) (fun K hK => ?_) AllReadyH.nil
  go_simp
  go_at_call 24
  refine (HP3.out A3 c3 _ HSL3.out (HL0.out.step hHeld)).mono ?_
  rintro e w4 ⟨v4, rfl, hown4, hb4⟩
  obtain ⟨A4b, c4b, rfl, _, _⟩ := hown4.ret
  have HO4 := Lib.hid hown4
  have HB4 := Lib.hid hb4
  clear hown4
  go_wp2_with fail
  refine hK.out _ _ (stepB hHeld hb4) (fun hHeld => ?_)
  clear hK K
  try simp only [Act.put, List.setIfInBounds_toArray, List.set_cons_zero, List.set_cons_succ]
  refine wpAnyH_ready (rs := [13]) (by kernel_rfl) (by simp) ?_
  refine AllReadyH.cons (get_ops _ _ _ rfl) (fun K hK => ?_) AllReadyH.nil
  rw [if_pos (by rfl)]
  refine oper_appB _ (.tmp 27) (.tmp 29) rfl _ (.slice A4b T3.length c4b) T3 Xa A1 c1 rfl HO4.out (by rw [HLA.out]; rfl) _ (HSA0.out.step hHeld) w3 HB4.out HB4.out.size (by have := HLE.out; omega) ?_
  intro v5 w5 hown5 hb5 hB5
  refine hK.out _ _ (stepB HH3.out hb5) (fun hHeld => ?_)
  clear hK K
  try simp only [Act.put, List.setIfInBounds_toArray, List.set_cons_zero, List.set_cons_succ]
  refine wpAnyH_take (i := 14) (v := v5) (get_ops _ _ _ rfl) (by kernel_rfl) (by kernel_rfl) (by kernel_rfl) (fun _ _ _ h => h) (Or.inl ⟨by rfl, fun w hSw => by (try dsimp only at hSw); go_simp⟩) hHeld ?_
  try simp only [Act.put, List.setIfInBounds_toArray, List.set_cons_zero, List.set_cons_succ]
  refine wpAnyH_done (by kernel_rfl) ?_ _
  obtain ⟨A5, c5, rfl, hc5, hsl5⟩ := hown5.ret
  have hlt : (T3 ++ Xa).length ≤ 201000 := by have := HLE.out; rw [List.length_append]; omega
  have HBT := HBA.out _ rfl
  generalize T3 ++ Xa = T at *
  obtain ⟨k1, k2, k3, hn, ht, hts, hk3, hk1, hk2⟩ := HBT
  have hz0 : n0 ≤ 400 := by have := HLB.out; omega
  have hz1 : n1 ≤ 400 := by have := HLA.out; omega
  have HN := Lib.hid (num_any A5 c5 T n0 (by omega) (by omega) w5 _ hsl5 hc5 (by omega))
  rw [hn] at HN
  have HT := Lib.hid (text_any A5 c5 T k1 400 (by omega) (by omega) w5 _ hsl5 hc5 (by omega))
  rw [ht] at HT
  have HTS := Lib.hid (texts_any A5 c5 T k2 400 (by omega) (by omega) w5 hsl5 hc5 (by omega))
  rw [hts] at HTS
  have hw1 : IntKind.i64.wrap ((T.length : Int) - (n1 : Int)) = (k3 : Int) := by rw [wrap_i64_id _ (by omega) (by omega)]; exact hk3.symm
  obtain ⟨k50, _, _, _, _⟩ := HC.out w5 hHeld
  have HH5 := Lib.hid hHeld
  generalize T.length = t at *
  clear hz0 hz1 hn ht hts hk3 hk1 hk2 hsl5 hc5 hown5 hB5 hb5 hHeld HH3 HO4 HB4 hb4 hlt HLE HBA HP1 HP2 HP3 HSB0 HSA0 HSL2 HSL3
  go_wp2_with fail
  refine HN.out.mono ?_
  rintro e w6 ⟨rfl, rfl⟩
  unfold tri
  go_wp2_with fail
  refine HT.out.mono ?_
  rintro e w6 ⟨rfl, rfl⟩
  unfold triS
  go_wp2_with fail
  refine HTS.out.mono ?_
  rintro e w6 ⟨v6, rfl, hown6, hb6⟩
  obtain ⟨A6, c6, rfl, _, hsl6⟩ := hown6.ret
  dsimp only
  have HH6 := Lib.hid (stepB HH5.out hb6)
  obtain ⟨_, k61, k62, k63, k64⟩ := HC.out w6 HH6.out
  have cs := sameL_any A6 A4 c6 c4 L L w6 _ hsl6 (HL0.out.step HH6.out) (by have := HLL.out; omega)
  rw [decide_eq_true rfl, HLN.out] at cs
  have CS := Lib.hid cs
  rw [HLN.out]
  clear hown6 hsl6 cs hb6 HN HT HTS k50
  go_wp2_with fail
  refine CS.out.mono ?_
  rintro e w7 ⟨rfl, n, rfl⟩
  have HH7 : Hid (Below w0.heap.size w0 (w6.drewN n)) := Lib.hid (stepB HH6.out (below_drewN w6 n))
  obtain ⟨_, k71, k72, k73, k74⟩ := HC.out _ HH7.out
  clear CS k61 k62 k63 k64
  go_wp2_with fail
  refine (awake3_any _).mono ?_
  rintro e w8 ⟨rfl, hb8⟩
  go_wp2_with fail
  go_ret
  exact ⟨rfl, HBB.out _ HH7.out _ hb8⟩

end Go.Proofs.Ytijdfadmmloclaa
