/-
  What awake of brokerlaw20 answers, and the walks of AccessChecks, AccessExpands, AccessAllows, AccessSubs and AccessShadows. Conditions: the list reads as data; texts and lists fit a machine; the library's bound on short texts holds a number.
-/
import Derived.Test.YtoakhkiiefiebaaDoorAcB
import Derived.Test.YtoakhkiiefiebaaDoorAcE
import Derived.Test.YtoakhkiiefiebaaDoorAcF
import Derived.Test.YtoakhkiiefiebaaDoorAcK
namespace Go.Proofs.YtoakhkiiefiebaaDoor.S1
open Go.RowKit
open S2 (BK Put get_ops exec_load)

theorem onesB {vs : List Value} (h : vs.all (fun v => v.oneCell') = true) : ∀ u ∈ vs, u.oneCell' = true := fun u hu => List.all_eq_true.1 h u hu
def exl : List Rl := [⟨false, ⟨#[42]⟩, 1, ⟨#[36, 115, 121, 115, 47, 35]⟩⟩, ⟨true, ⟨#[117]⟩, 1, ⟨#[104, 111, 109, 101, 47, 37, 117, 47, 35]⟩⟩, ⟨true, ⟨#[42]⟩, 2, ⟨#[104, 111, 109, 101, 47, 43, 47, 116, 101, 109, 112]⟩⟩, ⟨true, ⟨#[117]⟩, 0, ⟨#[104, 111, 109, 101, 47, 37, 117, 47, 35]⟩⟩]
def exm : List Rl := [⟨false, ⟨#[42, 42]⟩, 5, ByteArray.empty⟩]
theorem exf : ∀ x ∈ exl, x.fi.size ≤ 1000 := by
  intro x hx
  simp only [exl, List.mem_cons, List.not_mem_nil, or_false] at hx
  rcases hx with rfl | rfl | rfl | rfl <;> decide
theorem exa1 : chkR exl = 0 := by decide +kernel
theorem exa2 : expB ⟨#[97, 47, 37, 99, 47, 37, 117, 47, 37, 99, 37, 117]⟩ ⟨#[99]⟩ ⟨#[117]⟩ = ⟨#[97, 47, 99, 47, 117, 47, 37, 99, 37, 117]⟩ := by decide +kernel
theorem exa3 : allowR exl ⟨#[99]⟩ ⟨#[117]⟩ 1 ⟨#[104, 111, 109, 101, 47, 117, 47, 120]⟩ = true := by decide +kernel
theorem exa4 : allowR exl ⟨#[99]⟩ ⟨#[117]⟩ 1 ⟨#[104, 111, 109, 101, 47, 118]⟩ = false := by decide +kernel
theorem exa5 : subsR exl ⟨#[99]⟩ ⟨#[117]⟩ ⟨#[104, 111, 109, 101, 47, 97, 47, 116, 101, 109, 112]⟩ = true := by decide +kernel
theorem exa6 : subsR exl ⟨#[99]⟩ ⟨#[117]⟩ ⟨#[104, 111, 109, 101, 47, 35]⟩ = false := by decide +kernel
theorem exa7 : shdw shadR exl exl.length = [] := by decide +kernel
theorem exa8 : chkR exm = 11 := by decide +kernel
theorem exl4 : exl.length = 4 := rfl

set_option maxRecDepth 20000 in
set_option maxHeartbeats 4000000 in
theorem awake20_any (w : World) (hok : Okw w) : Calls Tryd.prog 11 #[] w fun e w' => e = .returned (.bool true) ∧ Below w.heap.size w w' := by
  have HO := Lib.hid hok
  have H1 := Lib.hid (fun A w1 h h2 => check_any A 4 exl w1 h h2 (by decide))
  have H2 := Lib.hid (fun w1 h => tExpand_any ⟨#[97, 47, 37, 99, 47, 37, 117, 47, 37, 99, 37, 117]⟩ ⟨#[99]⟩ ⟨#[117]⟩ w1 h (by decide) (by decide) (by decide))
  have H3 := Lib.hid (fun A w1 h h2 => allowed_any A 4 exl ⟨#[99]⟩ ⟨#[117]⟩ ⟨#[104, 111, 109, 101, 47, 117, 47, 120]⟩ 1 w1 h h2 (by decide) (by decide) (by decide) exf)
  have H4 := Lib.hid (fun A w1 h h2 => allowed_any A 4 exl ⟨#[99]⟩ ⟨#[117]⟩ ⟨#[104, 111, 109, 101, 47, 118]⟩ 1 w1 h h2 (by decide) (by decide) (by decide) exf)
  have H5 := Lib.hid (fun A w1 h h2 => subs_any A 4 exl ⟨#[99]⟩ ⟨#[117]⟩ ⟨#[104, 111, 109, 101, 47, 97, 47, 116, 101, 109, 112]⟩ w1 h h2 (by decide) (by decide) (by decide) exf)
  have H6 := Lib.hid (fun A w1 h h2 => subs_any A 4 exl ⟨#[99]⟩ ⟨#[117]⟩ ⟨#[104, 111, 109, 101, 47, 35]⟩ w1 h h2 (by decide) (by decide) (by decide) exf)
  have H7 := Lib.hid (fun A w1 h h2 => shadowed_any A 4 exl w1 h h2 (by decide) (by decide) exf)
  have H8 := Lib.hid (fun A w1 h h2 => check_any A 1 exm w1 h h2 (by decide))
  rw [exa1, exl4] at H1
  rw [exa2] at H2
  rw [exa3, exl4] at H3
  rw [exa4, exl4] at H4
  rw [exa5, exl4] at H5
  rw [exa6, exl4] at H6
  rw [exa7, exl4] at H7
  rw [exa8, show exm.length = 1 from rfl] at H8
  clear hok
  go_enter Tryd.func11, Tryd.ntmps11
  go_upto_region 2 with fail
  refine name_world (C := fun w1 => Code.wp _ _ _ _ w1) (w.alloc (.cells (exl.flatMap gR).toArray 42)) ?_
  intro w1 hw1
  have hb1 : Below w.heap.size w w1 := by rw [hw1]; exact S2.below_new w _
  have S_w1 : Hid (RL w1 w1.heap.size (some ⟨w.heap.size, 0, none⟩) exl) := Lib.hid (by rw [hw1]; exact GL.new gR_len)
  have B_w1 := Lib.hid hb1
  have O_w1 := Lib.hid (HO.out.step hb1)
  clear hw1 hb1 HO
  go_wp2_with first
    | (refine S2.wpList_store_all (by rfl) 28 (.tmp 2) (.tmp 8) rfl rfl (w1.heap.size) rfl [.string ⟨#[99]⟩, .string ⟨#[117]⟩] rfl 28 [.string ByteArray.empty, .string ByteArray.empty] (BK.new w1 _ _) whoSize rfl (onesB rfl) ?_; intro y1 hM hP; have hb : Below w1.heap.size w1 y1 := hP.below (S2.below_new w1 _) (Nat.le_refl _); have S_y1 : Hid (RL y1 y1.heap.size (some ⟨w.heap.size, 0, none⟩) exl) := Lib.hid (GL.step S_w1.out hb); have B_y1 : Hid (Below w.heap.size w y1) := Lib.hid (stepB B_w1.out hb); have O_y1 : Hid (Okw y1) := Lib.hid (O_w1.out.step hb); have V_y1 : Hid (BK 28 y1 (w1.heap.size) [.string ⟨#[99]⟩, .string ⟨#[117]⟩]) := Lib.hid hM; clear hM hP hb S_w1 B_w1 O_w1)
  refine (H1.out (some ⟨w.heap.size, 0, none⟩) y1 O_y1.out S_y1.out).mono ?_
  rintro e y2 ⟨rfl, hb⟩
  have S_y2 : Hid (RL y2 y2.heap.size (some ⟨w.heap.size, 0, none⟩) exl) := Lib.hid (GL.step S_y1.out hb)
  have B_y2 : Hid (Below w.heap.size w y2) := Lib.hid (stepB B_y1.out hb)
  have O_y2 : Hid (Okw y2) := Lib.hid (O_y1.out.step hb)
  have V_y2 : Hid (BK 28 y2 (w1.heap.size) [.string ⟨#[99]⟩, .string ⟨#[117]⟩]) := Lib.hid (V_y1.out.step hb)
  clear S_y1 B_y1 O_y1 V_y1
  clear hb
  go_wp2_with first
    | (refine wpList_load_v (by rfl) 28 (.tmp 2) rfl ⟨w1.heap.size, 0, none⟩ rfl (whV ⟨#[99]⟩ ⟨#[117]⟩) (S2.run_load_all V_y2.out Tryd.underlying28 rfl whoSize) ?_)
  refine (H2.out y2 O_y2.out).mono ?_
  rintro e y3 ⟨rfl, hb⟩
  have S_y3 : Hid (RL y3 y3.heap.size (some ⟨w.heap.size, 0, none⟩) exl) := Lib.hid (GL.step S_y2.out hb)
  have B_y3 : Hid (Below w.heap.size w y3) := Lib.hid (stepB B_y2.out hb)
  have O_y3 : Hid (Okw y3) := Lib.hid (O_y2.out.step hb)
  have V_y3 : Hid (BK 28 y3 (w1.heap.size) [.string ⟨#[99]⟩, .string ⟨#[117]⟩]) := Lib.hid (V_y2.out.step hb)
  clear S_y2 B_y2 O_y2 V_y2
  clear hb
  go_wp2_with first
    | (refine wpList_load_v (by rfl) 28 (.tmp 2) rfl ⟨w1.heap.size, 0, none⟩ rfl (whV ⟨#[99]⟩ ⟨#[117]⟩) (S2.run_load_all V_y3.out Tryd.underlying28 rfl whoSize) ?_)
  refine (H3.out (some ⟨w.heap.size, 0, none⟩) y3 O_y3.out S_y3.out).mono ?_
  rintro e y4 ⟨rfl, hb⟩
  have S_y4 : Hid (RL y4 y4.heap.size (some ⟨w.heap.size, 0, none⟩) exl) := Lib.hid (GL.step S_y3.out hb)
  have B_y4 : Hid (Below w.heap.size w y4) := Lib.hid (stepB B_y3.out hb)
  have O_y4 : Hid (Okw y4) := Lib.hid (O_y3.out.step hb)
  have V_y4 : Hid (BK 28 y4 (w1.heap.size) [.string ⟨#[99]⟩, .string ⟨#[117]⟩]) := Lib.hid (V_y3.out.step hb)
  clear S_y3 B_y3 O_y3 V_y3
  clear hb
  go_wp2_with first
    | (refine wpList_load_v (by rfl) 28 (.tmp 2) rfl ⟨w1.heap.size, 0, none⟩ rfl (whV ⟨#[99]⟩ ⟨#[117]⟩) (S2.run_load_all V_y4.out Tryd.underlying28 rfl whoSize) ?_)
  refine (H4.out (some ⟨w.heap.size, 0, none⟩) y4 O_y4.out S_y4.out).mono ?_
  rintro e y5 ⟨rfl, hb⟩
  have S_y5 : Hid (RL y5 y5.heap.size (some ⟨w.heap.size, 0, none⟩) exl) := Lib.hid (GL.step S_y4.out hb)
  have B_y5 : Hid (Below w.heap.size w y5) := Lib.hid (stepB B_y4.out hb)
  have O_y5 : Hid (Okw y5) := Lib.hid (O_y4.out.step hb)
  have V_y5 : Hid (BK 28 y5 (w1.heap.size) [.string ⟨#[99]⟩, .string ⟨#[117]⟩]) := Lib.hid (V_y4.out.step hb)
  clear S_y4 B_y4 O_y4 V_y4
  clear hb
  go_wp2_with first
    | (refine wpList_load_v (by rfl) 28 (.tmp 2) rfl ⟨w1.heap.size, 0, none⟩ rfl (whV ⟨#[99]⟩ ⟨#[117]⟩) (S2.run_load_all V_y5.out Tryd.underlying28 rfl whoSize) ?_)
  refine (H5.out (some ⟨w.heap.size, 0, none⟩) y5 O_y5.out S_y5.out).mono ?_
  rintro e y6 ⟨rfl, hb⟩
  have S_y6 : Hid (RL y6 y6.heap.size (some ⟨w.heap.size, 0, none⟩) exl) := Lib.hid (GL.step S_y5.out hb)
  have B_y6 : Hid (Below w.heap.size w y6) := Lib.hid (stepB B_y5.out hb)
  have O_y6 : Hid (Okw y6) := Lib.hid (O_y5.out.step hb)
  have V_y6 : Hid (BK 28 y6 (w1.heap.size) [.string ⟨#[99]⟩, .string ⟨#[117]⟩]) := Lib.hid (V_y5.out.step hb)
  clear S_y5 B_y5 O_y5 V_y5
  clear hb
  go_wp2_with first
    | (refine wpList_load_v (by rfl) 28 (.tmp 2) rfl ⟨w1.heap.size, 0, none⟩ rfl (whV ⟨#[99]⟩ ⟨#[117]⟩) (S2.run_load_all V_y6.out Tryd.underlying28 rfl whoSize) ?_)
  refine (H6.out (some ⟨w.heap.size, 0, none⟩) y6 O_y6.out S_y6.out).mono ?_
  rintro e y7 ⟨rfl, hb⟩
  have S_y7 : Hid (RL y7 y7.heap.size (some ⟨w.heap.size, 0, none⟩) exl) := Lib.hid (GL.step S_y6.out hb)
  have B_y7 : Hid (Below w.heap.size w y7) := Lib.hid (stepB B_y6.out hb)
  have O_y7 : Hid (Okw y7) := Lib.hid (O_y6.out.step hb)
  have V_y7 : Hid (BK 28 y7 (w1.heap.size) [.string ⟨#[99]⟩, .string ⟨#[117]⟩]) := Lib.hid (V_y6.out.step hb)
  clear S_y6 B_y6 O_y6 V_y6
  clear hb
  go_wp2_with fail
  refine (H7.out (some ⟨w.heap.size, 0, none⟩) y7 O_y7.out S_y7.out).mono ?_
  rintro e y8 ⟨A9, c9, rfl, _, _, hb⟩
  have S_y8 : Hid (RL y8 y8.heap.size (some ⟨w.heap.size, 0, none⟩) exl) := Lib.hid (GL.step S_y7.out hb)
  have B_y8 : Hid (Below w.heap.size w y8) := Lib.hid (stepB B_y7.out hb)
  have O_y8 : Hid (Okw y8) := Lib.hid (O_y7.out.step hb)
  have V_y8 : Hid (BK 28 y8 (w1.heap.size) [.string ⟨#[99]⟩, .string ⟨#[117]⟩]) := Lib.hid (V_y7.out.step hb)
  clear S_y7 B_y7 O_y7 V_y7
  clear hb
  go_wp2_with fail
  have HB8 := Lib.hid (S2.below_new y8 (.cells (exm.flatMap gR).toArray 42))
  refine (H8.out (some ⟨y8.heap.size, 0, none⟩) (y8.alloc (.cells (exm.flatMap gR).toArray 42)) (O_y8.out.step HB8.out) (GL.new gR_len)).mono ?_
  rintro e w9 ⟨rfl, hb⟩
  have B_w9 := Lib.hid (stepB (stepB B_y8.out HB8.out) hb)
  clear hb
  go_wp2
  go_ret
  exact ⟨rfl, B_w9.out⟩

set_option maxRecDepth 20000 in
set_option maxHeartbeats 4000000 in
theorem accessChecks_walk20 (A : Option Addr) (cc : Nat) (xs : List Rl) (w : World) (hok : Okw w) (sl : RL w w.heap.size A xs) (hN : xs.length ≤ 140737488355328) (hz : ∀ x ∈ xs, x.us.size ≤ 9223372036854775807) :
    Calls Tryd.prog 3 #[.slice A xs.length cc] w fun e w' => e = .returned (.bool true) ∧ Below w.heap.size w w' := by
  have HO := Lib.hid hok
  have HAW := Lib.hid (fun w1 h => awake20_any w1 h)
  have HC1 := Lib.hid (fun w1 h h2 => check_any A cc xs w1 h h2 hN)
  have HC2 := Lib.hid (fun w1 h2 => rcheck_any A cc xs w1 h2 hN hz)
  generalize chkR xs = R at *
  have S_w := Lib.hid sl
  have O_w := Lib.hid hok
  have B_w := Lib.hid (Below.refl w.heap.size w)
  clear sl hN hz hok HO
  go_enter Tryd.func3, Tryd.ntmps3
  go_wp2_with fail
  refine (HAW.out w O_w.out).mono ?_
  rintro e y1 ⟨rfl, hb⟩
  have B_y1 : Hid (Below w.heap.size w y1) := Lib.hid (stepB B_w.out hb)
  have O_y1 : Hid (Okw y1) := Lib.hid (O_w.out.step hb)
  have S_y1 : Hid (RL y1 y1.heap.size A xs) := Lib.hid (GL.step S_w.out hb)
  clear B_w O_w S_w
  clear hb
  go_wp2_with fail
  refine (HC1.out y1 O_y1.out S_y1.out).mono ?_
  rintro e y2 ⟨rfl, hb⟩
  have B_y2 : Hid (Below w.heap.size w y2) := Lib.hid (stepB B_y1.out hb)
  have O_y2 : Hid (Okw y2) := Lib.hid (O_y1.out.step hb)
  have S_y2 : Hid (RL y2 y2.heap.size A xs) := Lib.hid (GL.step S_y1.out hb)
  clear B_y1 O_y1 S_y1
  clear hb
  go_wp2_with fail
  refine (HC2.out y2 S_y2.out).mono ?_
  rintro e y3 ⟨rfl, hb⟩
  have B_y3 : Hid (Below w.heap.size w y3) := Lib.hid (stepB B_y2.out hb)
  have O_y3 : Hid (Okw y3) := Lib.hid (O_y2.out.step hb)
  have S_y3 : Hid (RL y3 y3.heap.size A xs) := Lib.hid (GL.step S_y2.out hb)
  clear B_y2 O_y2 S_y2
  clear hb
  go_wp2_with fail
  go_ret
  exact ⟨by simp, B_y3.out⟩

set_option maxRecDepth 20000 in
set_option maxHeartbeats 4000000 in
theorem accessExpands_walk20 (f c u : ByteArray) (w : World) (hok : Okw w) :
    Calls Tryd.prog 4 #[.string f, whV c u] w fun e w' => e = .returned (.bool true) ∧ Below w.heap.size w w' := by
  have HO := Lib.hid hok
  have HAW := Lib.hid (fun w1 h => awake20_any w1 h)
  have HLI := Lib.hid (fun w1 => light_any c u f w1)
  have HX1 := Lib.hid (fun w1 h (hl : lightW c u f = true) => tExpand_any f c u w1 h (light_iff.1 hl).1 (light_iff.1 hl).2.1 (light_iff.1 hl).2.2)
  have HX2 := Lib.hid (fun w1 (hl : lightW c u f = true) => rExpand_any f c u w1 (light_iff.1 hl).1 (light_iff.1 hl).2.1 (light_iff.1 hl).2.2)
  generalize lightW c u f = bl at *
  generalize expB f c u = R at *
  clear hok
  unfold whV
  go_enter Tryd.func4, Tryd.ntmps4
  go_upto_region 1 with fail
  refine name_world (C := fun w1 => Code.wp _ _ _ _ w1) (w.alloc (.cells ([.string c, .string u] : List Value).toArray 28)) ?_
  intro w1 hw1
  have hb1 : Below w.heap.size w w1 := by rw [hw1]; exact S2.below_new w _
  have V_w1 : Hid (BK 28 w1 w.heap.size [.string c, .string u]) := Lib.hid (by rw [hw1]; exact BK.new w _ _)
  have B_w1 := Lib.hid hb1
  have O_w1 := Lib.hid (HO.out.step hb1)
  clear hw1 hb1 HO
  go_wp2_with first
    | (refine wpList_load_v (by rfl) 28 (.tmp 3) rfl ⟨w.heap.size, 0, none⟩ rfl (whV c u) (S2.run_load_all V_w1.out Tryd.underlying28 rfl whoSize) ?_)
  refine (HLI.out w1).mono ?_
  rintro e y1 ⟨rfl, hb⟩
  have V_y1 : Hid (BK 28 y1 w.heap.size [.string c, .string u]) := Lib.hid (V_w1.out.step hb)
  have B_y1 : Hid (Below w.heap.size w y1) := Lib.hid (stepB B_w1.out hb)
  have O_y1 : Hid (Okw y1) := Lib.hid (O_w1.out.step hb)
  clear V_w1 B_w1 O_w1
  clear hb
  cases bl with
  | false =>
    go_wp2_with fail
    refine (HAW.out y1 O_y1.out).mono ?_
    rintro e y2 ⟨rfl, hb⟩
    have V_y2 : Hid (BK 28 y2 w.heap.size [.string c, .string u]) := Lib.hid (V_y1.out.step hb)
    have B_y2 : Hid (Below w.heap.size w y2) := Lib.hid (stepB B_y1.out hb)
    have O_y2 : Hid (Okw y2) := Lib.hid (O_y1.out.step hb)
    clear V_y1 B_y1 O_y1
    clear hb
    go_wp2_with fail
    go_ret
    exact ⟨rfl, B_y2.out⟩
  | true =>
    go_upto_region 3 with fail
    obtain ⟨y2, hy2⟩ : ∃ y2, y2 = World.drew y1 := ⟨_, rfl⟩
    have hbD : Below y1.heap.size y1 y2 := by rw [hy2]; exact (Below.refl _ _).drew
    have V_y2 : Hid (BK 28 y2 w.heap.size [.string c, .string u]) := Lib.hid (V_y1.out.step hbD)
    have B_y2 : Hid (Below w.heap.size w y2) := Lib.hid (stepB B_y1.out hbD)
    have O_y2 : Hid (Okw y2) := Lib.hid (O_y1.out.step hbD)
    clear V_y1 B_y1 O_y1
    have hbd : (fun w' => BK 28 w' w.heap.size [.string c, .string u]) (World.drew y1) := by rw [← hy2]; exact V_y2.out
    have hSD : (fun w' => BK 28 w' w.heap.size [.string c, .string u]) y2 := V_y2.out
    have HWD := Lib.hid hy2
    clear hy2 hbD
    refine wp_region_held_drew (S := fun w' => BK 28 w' w.heap.size [.string c, .string u]) (by kernel_rfl) hbd (fun hHeld => ?_)
    rw [← HWD.out]
    clear hHeld
    have hHeld := hSD
    clear hSD hbd HWD
    refine wpAnyH_ready (rs := [0]) (by kernel_rfl) (by simp) ?_
    refine (AllReadyH.cons (get_ops _ _ _ rfl) (fun K hK => ?_) AllReadyH.nil)
    go_simp
    refine (HAW.out y2 O_y2.out).mono ?_
    rintro e y3 ⟨rfl, hb⟩
    have V_y3 : Hid (BK 28 y3 w.heap.size [.string c, .string u]) := Lib.hid (V_y2.out.step hb)
    have B_y3 : Hid (Below w.heap.size w y3) := Lib.hid (stepB B_y2.out hb)
    have O_y3 : Hid (Okw y3) := Lib.hid (O_y2.out.step hb)
    clear V_y2 B_y2 O_y2
    clear hHeld hb
    go_wp2_with fail
    refine hK.out _ _ V_y3.out (fun hHeld => ?_)
    clear hK K
    try simp only [Act.put, List.setIfInBounds_toArray, List.set_cons_zero, List.set_cons_succ]
    refine wpAnyH_take (i := 1) (v := .bool true) (get_ops _ _ _ rfl) (by kernel_rfl) (by kernel_rfl) (by kernel_rfl) (fun _ _ _ h => h) (Or.inl ⟨by rfl, fun wS hSw => by (try dsimp only at hSw); go_simp⟩) hHeld ?_
    try simp only [Act.put, List.setIfInBounds_toArray, List.set_cons_zero, List.set_cons_succ]
    refine wpAnyH_take (i := 2) (v := .string f) (get_ops _ _ _ rfl) (by kernel_rfl) (by kernel_rfl) (by kernel_rfl) (fun _ _ _ h => h) (Or.inl ⟨by rfl, fun wS hSw => by (try dsimp only at hSw); go_simp⟩) hHeld ?_
    try simp only [Act.put, List.setIfInBounds_toArray, List.set_cons_zero, List.set_cons_succ]
    refine wpAnyH_take (i := 3) (v := (whV c u)) (get_ops _ _ _ rfl) (by kernel_rfl) (by kernel_rfl) (by kernel_rfl) (fun _ _ _ h => h) (Or.inl ⟨by rfl, fun wS hSw => by (try dsimp only at hSw); exact exec_load 28 _ rfl ⟨w.heap.size, 0, none⟩ (by go_simp) _ (S2.run_load_all (vs := [.string c, .string u]) hSw Tryd.underlying28 rfl whoSize)⟩) hHeld ?_
    try simp only [Act.put, List.setIfInBounds_toArray, List.set_cons_zero, List.set_cons_succ]
    refine wpAnyH_take (i := 5) (v := .string f) (get_ops _ _ _ rfl) (by kernel_rfl) (by kernel_rfl) (by kernel_rfl) (fun _ _ _ h => h) (Or.inl ⟨by rfl, fun wS hSw => by (try dsimp only at hSw); go_simp⟩) hHeld ?_
    try simp only [Act.put, List.setIfInBounds_toArray, List.set_cons_zero, List.set_cons_succ]
    refine wpAnyH_take (i := 6) (v := (whV c u)) (get_ops _ _ _ rfl) (by kernel_rfl) (by kernel_rfl) (by kernel_rfl) (fun _ _ _ h => h) (Or.inl ⟨by rfl, fun wS hSw => by (try dsimp only at hSw); exact exec_load 28 _ rfl ⟨w.heap.size, 0, none⟩ (by go_simp) _ (S2.run_load_all (vs := [.string c, .string u]) hSw Tryd.underlying28 rfl whoSize)⟩) hHeld ?_
    try simp only [Act.put, List.setIfInBounds_toArray, List.set_cons_zero, List.set_cons_succ]
    refine wpAnyH_ready (rs := [4]) (by kernel_rfl) (by simp) ?_
    refine (AllReadyH.cons (get_ops _ _ _ rfl) (fun K hK => ?_) AllReadyH.nil)
    go_simp
    refine (HX1.out y3 O_y3.out (by simp)).mono ?_
    rintro e y4 ⟨rfl, hb⟩
    have V_y4 : Hid (BK 28 y4 w.heap.size [.string c, .string u]) := Lib.hid (V_y3.out.step hb)
    have B_y4 : Hid (Below w.heap.size w y4) := Lib.hid (stepB B_y3.out hb)
    have O_y4 : Hid (Okw y4) := Lib.hid (O_y3.out.step hb)
    clear V_y3 B_y3 O_y3
    clear hHeld hb
    go_wp2_with fail
    refine hK.out _ _ V_y4.out (fun hHeld => ?_)
    clear hK K
    try simp only [Act.put, List.setIfInBounds_toArray, List.set_cons_zero, List.set_cons_succ]
    refine wpAnyH_ready (rs := [7]) (by kernel_rfl) (by simp) ?_
    refine (AllReadyH.cons (get_ops _ _ _ rfl) (fun K hK => ?_) AllReadyH.nil)
    go_simp
    refine (HX2.out y4 (by simp)).mono ?_
    rintro e y5 ⟨rfl, hb⟩
    have V_y5 : Hid (BK 28 y5 w.heap.size [.string c, .string u]) := Lib.hid (V_y4.out.step hb)
    have B_y5 : Hid (Below w.heap.size w y5) := Lib.hid (stepB B_y4.out hb)
    have O_y5 : Hid (Okw y5) := Lib.hid (O_y4.out.step hb)
    clear V_y4 B_y4 O_y4
    clear hHeld hb
    go_wp2_with fail
    refine hK.out _ _ V_y5.out (fun hHeld => ?_)
    clear hK K
    try simp only [Act.put, List.setIfInBounds_toArray, List.set_cons_zero, List.set_cons_succ]
    refine wpAnyH_take (i := 8) (v := .bool true) (get_ops _ _ _ rfl) (by kernel_rfl) (by kernel_rfl) (by kernel_rfl) (fun _ _ _ h => h) (Or.inl ⟨by rfl, fun wS hSw => by (try dsimp only at hSw); go_simp⟩) hHeld ?_
    try simp only [Act.put, List.setIfInBounds_toArray, List.set_cons_zero, List.set_cons_succ]
    refine wpAnyH_take (i := 9) (v := .bool true) (get_ops _ _ _ rfl) (by kernel_rfl) (by kernel_rfl) (by kernel_rfl) (fun _ _ _ h => h) (Or.inl ⟨by rfl, fun wS hSw => by (try dsimp only at hSw); go_simp⟩) hHeld ?_
    try simp only [Act.put, List.setIfInBounds_toArray, List.set_cons_zero, List.set_cons_succ]
    refine wpAnyH_take (i := 10) (v := .bool true) (get_ops _ _ _ rfl) (by kernel_rfl) (by kernel_rfl) (by kernel_rfl) (fun _ _ _ h => h) (Or.inl ⟨by rfl, fun wS hSw => by (try dsimp only at hSw); go_simp⟩) hHeld ?_
    try simp only [Act.put, List.setIfInBounds_toArray, List.set_cons_zero, List.set_cons_succ]
    refine wpAnyH_done (by kernel_rfl) ?_ _
    go_wp2_with fail
    go_ret
    exact ⟨rfl, B_y5.out⟩

set_option maxRecDepth 20000 in
set_option maxHeartbeats 4000000 in
theorem accessAllows_walk20 (A : Option Addr) (cc : Nat) (xs : List Rl) (c u : ByteArray) (ac : Int) (o : ByteArray) (w : World) (hok : Okw w) (sl : RL w w.heap.size A xs) (hN : xs.length ≤ 140737488355328) (hz : ∀ x ∈ xs, x.us.size ≤ 9223372036854775807) :
    Calls Tryd.prog 5 #[.slice A xs.length cc, whV c u, .int .i64 ac, .string o] w fun e w' => e = .returned (.bool true) ∧ Below w.heap.size w w' := by
  have HO := Lib.hid hok
  have HAW := Lib.hid (fun w1 h => awake20_any w1 h)
  have HC2 := Lib.hid (fun w1 h2 => rcheck_any A cc xs w1 h2 hN hz)
  have HLI := Lib.hid (fun w1 => light_any c u o w1)
  have HP1 := Lib.hid (fun w1 h h2 h3 h4 h5 => allowed_any A cc xs c u o ac w1 h h2 hN h3 h4 h5)
  have HP2 := Lib.hid (fun w1 h2 h3 h4 h5 h6 => rallowed_any A cc xs c u o ac w1 h2 hN h3 h4 h5 h6)
  have HCR := Lib.hid (@chkR_zero xs)
  generalize chkR xs = R at *
  have HLT := Lib.hid (@light_iff c u o)
  generalize lightW c u o = bl at *
  have S_w := Lib.hid sl
  clear hok sl hz
  unfold whV
  go_enter Tryd.func5, Tryd.ntmps5
  go_upto_region 1 with fail
  refine name_world (C := fun w1 => Code.wp _ _ _ _ w1) (w.alloc (.cells ([.string c, .string u] : List Value).toArray 28)) ?_
  intro w1 hw1
  have hb1 : Below w.heap.size w w1 := by rw [hw1]; exact S2.below_new w _
  have V_w1 : Hid (BK 28 w1 w.heap.size [.string c, .string u]) := Lib.hid (by rw [hw1]; exact BK.new w _ _)
  have B_w1 := Lib.hid hb1
  have O_w1 := Lib.hid (HO.out.step hb1)
  have S_w1 := Lib.hid (GL.step S_w.out hb1)
  clear hw1 hb1 HO S_w
  go_wp2_with fail
  refine (HC2.out w1 S_w1.out).mono ?_
  rintro e y1 ⟨rfl, hb⟩
  have V_y1 : Hid (BK 28 y1 w.heap.size [.string c, .string u]) := Lib.hid (V_w1.out.step hb)
  have B_y1 : Hid (Below w.heap.size w y1) := Lib.hid (stepB B_w1.out hb)
  have O_y1 : Hid (Okw y1) := Lib.hid (O_w1.out.step hb)
  have S_y1 : Hid (RL y1 y1.heap.size A xs) := Lib.hid (GL.step S_w1.out hb)
  clear V_w1 B_w1 O_w1 S_w1
  clear hb
  by_cases hR0 : R = 0
  case neg =>
    have q1 : (R != 0) = true := by simp [hR0]
    clear hR0
    go_wp2_with fail
    refine (HAW.out y1 O_y1.out).mono ?_
    rintro e y2 ⟨rfl, hb⟩
    have V_y2 : Hid (BK 28 y2 w.heap.size [.string c, .string u]) := Lib.hid (V_y1.out.step hb)
    have B_y2 : Hid (Below w.heap.size w y2) := Lib.hid (stepB B_y1.out hb)
    have O_y2 : Hid (Okw y2) := Lib.hid (O_y1.out.step hb)
    have S_y2 : Hid (RL y2 y2.heap.size A xs) := Lib.hid (GL.step S_y1.out hb)
    clear V_y1 B_y1 O_y1 S_y1
    clear hb
    go_wp2_with fail
    go_ret
    exact ⟨rfl, B_y2.out⟩
  subst hR0
  go_wp2_with first
    | (refine wpList_load_v (by rfl) 28 (.tmp 5) rfl ⟨w.heap.size, 0, none⟩ rfl (whV c u) (S2.run_load_all V_y1.out Tryd.underlying28 rfl whoSize) ?_)
  refine (HLI.out y1).mono ?_
  rintro e y2 ⟨rfl, hb⟩
  have V_y2 : Hid (BK 28 y2 w.heap.size [.string c, .string u]) := Lib.hid (V_y1.out.step hb)
  have B_y2 : Hid (Below w.heap.size w y2) := Lib.hid (stepB B_y1.out hb)
  have O_y2 : Hid (Okw y2) := Lib.hid (O_y1.out.step hb)
  have S_y2 : Hid (RL y2 y2.heap.size A xs) := Lib.hid (GL.step S_y1.out hb)
  clear V_y1 B_y1 O_y1 S_y1
  clear hb
  cases bl with
  | false =>
    go_wp2_with fail
    refine (HAW.out y2 O_y2.out).mono ?_
    rintro e y3 ⟨rfl, hb⟩
    have V_y3 : Hid (BK 28 y3 w.heap.size [.string c, .string u]) := Lib.hid (V_y2.out.step hb)
    have B_y3 : Hid (Below w.heap.size w y3) := Lib.hid (stepB B_y2.out hb)
    have O_y3 : Hid (Okw y3) := Lib.hid (O_y2.out.step hb)
    have S_y3 : Hid (RL y3 y3.heap.size A xs) := Lib.hid (GL.step S_y2.out hb)
    clear V_y2 B_y2 O_y2 S_y2
    clear hb
    go_wp2_with fail
    go_ret
    exact ⟨rfl, B_y3.out⟩
  | true =>
    obtain ⟨l1, l2, l3⟩ := HLT.out.1 (by first | exact rfl | trivial)
    obtain ⟨v1, v2⟩ := HCR.out (by first | exact rfl | trivial)
    have HFZ : Hid (∀ x ∈ xs, x.fi.size ≤ 1000) := Lib.hid (fun x hx => by have := fil64 (ruleE_filter (v2 x hx)); omega)
    have HX1 := Lib.hid (fun w1 h h2 => HP1.out w1 h h2 l1 l2 HFZ.out)
    have HX2 := Lib.hid (fun w1 h2 => HP2.out w1 h2 l1 l2 HFZ.out (by omega))
    generalize hRRdef : allowR xs c u ac o = RR at HX1 HX2
    clear l1 l2 l3 v1 v2 hRRdef HP1 HP2
    go_upto_region 3 with fail
    obtain ⟨y3, hy3⟩ : ∃ y3, y3 = World.drew y2 := ⟨_, rfl⟩
    have hbD : Below y2.heap.size y2 y3 := by rw [hy3]; exact (Below.refl _ _).drew
    have V_y3 : Hid (BK 28 y3 w.heap.size [.string c, .string u]) := Lib.hid (V_y2.out.step hbD)
    have B_y3 : Hid (Below w.heap.size w y3) := Lib.hid (stepB B_y2.out hbD)
    have O_y3 : Hid (Okw y3) := Lib.hid (O_y2.out.step hbD)
    have S_y3 : Hid (RL y3 y3.heap.size A xs) := Lib.hid (GL.step S_y2.out hbD)
    clear V_y2 B_y2 O_y2 S_y2
    have hbd : (fun w' => BK 28 w' w.heap.size [.string c, .string u]) (World.drew y2) := by rw [← hy3]; exact V_y3.out
    have hSD : (fun w' => BK 28 w' w.heap.size [.string c, .string u]) y3 := V_y3.out
    have HWD := Lib.hid hy3
    clear hy3 hbD
    refine wp_region_held_drew (S := fun w' => BK 28 w' w.heap.size [.string c, .string u]) (by kernel_rfl) hbd (fun hHeld => ?_)
    rw [← HWD.out]
    clear hHeld
    have hHeld := hSD
    clear hSD hbd HWD
    refine wpAnyH_ready (rs := [0]) (by kernel_rfl) (by simp) ?_
    refine (AllReadyH.cons (get_ops _ _ _ rfl) (fun K hK => ?_) AllReadyH.nil)
    go_simp
    refine (HAW.out y3 O_y3.out).mono ?_
    rintro e y4 ⟨rfl, hb⟩
    have V_y4 : Hid (BK 28 y4 w.heap.size [.string c, .string u]) := Lib.hid (V_y3.out.step hb)
    have B_y4 : Hid (Below w.heap.size w y4) := Lib.hid (stepB B_y3.out hb)
    have O_y4 : Hid (Okw y4) := Lib.hid (O_y3.out.step hb)
    have S_y4 : Hid (RL y4 y4.heap.size A xs) := Lib.hid (GL.step S_y3.out hb)
    clear V_y3 B_y3 O_y3 S_y3
    clear hHeld hb
    go_wp2_with fail
    refine hK.out _ _ V_y4.out (fun hHeld => ?_)
    clear hK K
    try simp only [Act.put, List.setIfInBounds_toArray, List.set_cons_zero, List.set_cons_succ]
    refine wpAnyH_take (i := 1) (v := .bool true) (get_ops _ _ _ rfl) (by kernel_rfl) (by kernel_rfl) (by kernel_rfl) (fun _ _ _ h => h) (Or.inl ⟨by rfl, fun wS hSw => by (try dsimp only at hSw); go_simp⟩) hHeld ?_
    try simp only [Act.put, List.setIfInBounds_toArray, List.set_cons_zero, List.set_cons_succ]
    refine wpAnyH_take (i := 2) (v := .slice A xs.length cc) (get_ops _ _ _ rfl) (by kernel_rfl) (by kernel_rfl) (by kernel_rfl) (fun _ _ _ h => h) (Or.inl ⟨by rfl, fun wS hSw => by (try dsimp only at hSw); go_simp⟩) hHeld ?_
    try simp only [Act.put, List.setIfInBounds_toArray, List.set_cons_zero, List.set_cons_succ]
    refine wpAnyH_take (i := 3) (v := (whV c u)) (get_ops _ _ _ rfl) (by kernel_rfl) (by kernel_rfl) (by kernel_rfl) (fun _ _ _ h => h) (Or.inl ⟨by rfl, fun wS hSw => by (try dsimp only at hSw); exact exec_load 28 _ rfl ⟨w.heap.size, 0, none⟩ (by go_simp) _ (S2.run_load_all (vs := [.string c, .string u]) hSw Tryd.underlying28 rfl whoSize)⟩) hHeld ?_
    try simp only [Act.put, List.setIfInBounds_toArray, List.set_cons_zero, List.set_cons_succ]
    refine wpAnyH_take (i := 4) (v := .int .i64 ac) (get_ops _ _ _ rfl) (by kernel_rfl) (by kernel_rfl) (by kernel_rfl) (fun _ _ _ h => h) (Or.inl ⟨by rfl, fun wS hSw => by (try dsimp only at hSw); go_simp⟩) hHeld ?_
    try simp only [Act.put, List.setIfInBounds_toArray, List.set_cons_zero, List.set_cons_succ]
    refine wpAnyH_take (i := 5) (v := .string o) (get_ops _ _ _ rfl) (by kernel_rfl) (by kernel_rfl) (by kernel_rfl) (fun _ _ _ h => h) (Or.inl ⟨by rfl, fun wS hSw => by (try dsimp only at hSw); go_simp⟩) hHeld ?_
    try simp only [Act.put, List.setIfInBounds_toArray, List.set_cons_zero, List.set_cons_succ]
    refine wpAnyH_take (i := 7) (v := .slice A xs.length cc) (get_ops _ _ _ rfl) (by kernel_rfl) (by kernel_rfl) (by kernel_rfl) (fun _ _ _ h => h) (Or.inl ⟨by rfl, fun wS hSw => by (try dsimp only at hSw); go_simp⟩) hHeld ?_
    try simp only [Act.put, List.setIfInBounds_toArray, List.set_cons_zero, List.set_cons_succ]
    refine wpAnyH_take (i := 8) (v := (whV c u)) (get_ops _ _ _ rfl) (by kernel_rfl) (by kernel_rfl) (by kernel_rfl) (fun _ _ _ h => h) (Or.inl ⟨by rfl, fun wS hSw => by (try dsimp only at hSw); exact exec_load 28 _ rfl ⟨w.heap.size, 0, none⟩ (by go_simp) _ (S2.run_load_all (vs := [.string c, .string u]) hSw Tryd.underlying28 rfl whoSize)⟩) hHeld ?_
    try simp only [Act.put, List.setIfInBounds_toArray, List.set_cons_zero, List.set_cons_succ]
    refine wpAnyH_take (i := 9) (v := .int .i64 ac) (get_ops _ _ _ rfl) (by kernel_rfl) (by kernel_rfl) (by kernel_rfl) (fun _ _ _ h => h) (Or.inl ⟨by rfl, fun wS hSw => by (try dsimp only at hSw); go_simp⟩) hHeld ?_
    try simp only [Act.put, List.setIfInBounds_toArray, List.set_cons_zero, List.set_cons_succ]
    refine wpAnyH_take (i := 10) (v := .string o) (get_ops _ _ _ rfl) (by kernel_rfl) (by kernel_rfl) (by kernel_rfl) (fun _ _ _ h => h) (Or.inl ⟨by rfl, fun wS hSw => by (try dsimp only at hSw); go_simp⟩) hHeld ?_
    try simp only [Act.put, List.setIfInBounds_toArray, List.set_cons_zero, List.set_cons_succ]
    refine wpAnyH_ready (rs := [6]) (by kernel_rfl) (by simp) ?_
    refine (AllReadyH.cons (get_ops _ _ _ rfl) (fun K hK => ?_) AllReadyH.nil)
    go_simp
    refine (HX1.out y4 O_y4.out S_y4.out).mono ?_
    rintro e y5 ⟨rfl, hb⟩
    have V_y5 : Hid (BK 28 y5 w.heap.size [.string c, .string u]) := Lib.hid (V_y4.out.step hb)
    have B_y5 : Hid (Below w.heap.size w y5) := Lib.hid (stepB B_y4.out hb)
    have O_y5 : Hid (Okw y5) := Lib.hid (O_y4.out.step hb)
    have S_y5 : Hid (RL y5 y5.heap.size A xs) := Lib.hid (GL.step S_y4.out hb)
    clear V_y4 B_y4 O_y4 S_y4
    clear hHeld hb
    go_wp2_with fail
    refine hK.out _ _ V_y5.out (fun hHeld => ?_)
    clear hK K
    try simp only [Act.put, List.setIfInBounds_toArray, List.set_cons_zero, List.set_cons_succ]
    refine wpAnyH_ready (rs := [11]) (by kernel_rfl) (by simp) ?_
    refine (AllReadyH.cons (get_ops _ _ _ rfl) (fun K hK => ?_) AllReadyH.nil)
    go_simp
    refine (HX2.out y5 S_y5.out).mono ?_
    rintro e y6 ⟨rfl, hb⟩
    have V_y6 : Hid (BK 28 y6 w.heap.size [.string c, .string u]) := Lib.hid (V_y5.out.step hb)
    have B_y6 : Hid (Below w.heap.size w y6) := Lib.hid (stepB B_y5.out hb)
    have O_y6 : Hid (Okw y6) := Lib.hid (O_y5.out.step hb)
    have S_y6 : Hid (RL y6 y6.heap.size A xs) := Lib.hid (GL.step S_y5.out hb)
    clear V_y5 B_y5 O_y5 S_y5
    clear hHeld hb
    go_wp2_with fail
    refine hK.out _ _ V_y6.out (fun hHeld => ?_)
    clear hK K
    try simp only [Act.put, List.setIfInBounds_toArray, List.set_cons_zero, List.set_cons_succ]
    refine wpAnyH_take (i := 12) (v := .bool true) (get_ops _ _ _ rfl) (by kernel_rfl) (by kernel_rfl) (by kernel_rfl) (fun _ _ _ h => h) (Or.inl ⟨by rfl, fun wS hSw => by (try dsimp only at hSw); cases RR <;> go_simp⟩) hHeld ?_
    try simp only [Act.put, List.setIfInBounds_toArray, List.set_cons_zero, List.set_cons_succ]
    refine wpAnyH_take (i := 13) (v := .bool true) (get_ops _ _ _ rfl) (by kernel_rfl) (by kernel_rfl) (by kernel_rfl) (fun _ _ _ h => h) (Or.inl ⟨by rfl, fun wS hSw => by (try dsimp only at hSw); go_simp⟩) hHeld ?_
    try simp only [Act.put, List.setIfInBounds_toArray, List.set_cons_zero, List.set_cons_succ]
    refine wpAnyH_take (i := 14) (v := .bool true) (get_ops _ _ _ rfl) (by kernel_rfl) (by kernel_rfl) (by kernel_rfl) (fun _ _ _ h => h) (Or.inl ⟨by rfl, fun wS hSw => by (try dsimp only at hSw); go_simp⟩) hHeld ?_
    try simp only [Act.put, List.setIfInBounds_toArray, List.set_cons_zero, List.set_cons_succ]
    refine wpAnyH_done (by kernel_rfl) ?_ _
    go_wp2_with fail
    go_ret
    exact ⟨rfl, B_y6.out⟩

set_option maxRecDepth 20000 in
set_option maxHeartbeats 4000000 in
theorem accessSubs_walk20 (A : Option Addr) (cc : Nat) (xs : List Rl) (c u o : ByteArray) (w : World) (hok : Okw w) (sl : RL w w.heap.size A xs) (hN : xs.length ≤ 140737488355328) (hz : ∀ x ∈ xs, x.us.size ≤ 9223372036854775807) :
    Calls Tryd.prog 6 #[.slice A xs.length cc, whV c u, .string o] w fun e w' => e = .returned (.bool true) ∧ Below w.heap.size w w' := by
  have HO := Lib.hid hok
  have HAW := Lib.hid (fun w1 h => awake20_any w1 h)
  have HC2 := Lib.hid (fun w1 h2 => rcheck_any A cc xs w1 h2 hN hz)
  have HLI := Lib.hid (fun w1 => light_any c u o w1)
  have HP1 := Lib.hid (fun w1 h h2 h3 h4 h5 => subs_any A cc xs c u o w1 h h2 hN h3 h4 h5)
  have HP2 := Lib.hid (fun w1 h2 h3 h4 h5 (h6 : o.size ≤ 140737488355328) => rsubs_any A cc xs c u o w1 h2 hN h3 h4 h5)
  have HCR := Lib.hid (@chkR_zero xs)
  generalize chkR xs = R at *
  have HLT := Lib.hid (@light_iff c u o)
  generalize lightW c u o = bl at *
  have S_w := Lib.hid sl
  clear hok sl hz
  unfold whV
  go_enter Tryd.func6, Tryd.ntmps6
  go_upto_region 1 with fail
  refine name_world (C := fun w1 => Code.wp _ _ _ _ w1) (w.alloc (.cells ([.string c, .string u] : List Value).toArray 28)) ?_
  intro w1 hw1
  have hb1 : Below w.heap.size w w1 := by rw [hw1]; exact S2.below_new w _
  have V_w1 : Hid (BK 28 w1 w.heap.size [.string c, .string u]) := Lib.hid (by rw [hw1]; exact BK.new w _ _)
  have B_w1 := Lib.hid hb1
  have O_w1 := Lib.hid (HO.out.step hb1)
  have S_w1 := Lib.hid (GL.step S_w.out hb1)
  clear hw1 hb1 HO S_w
  go_wp2_with fail
  refine (HC2.out w1 S_w1.out).mono ?_
  rintro e y1 ⟨rfl, hb⟩
  have V_y1 : Hid (BK 28 y1 w.heap.size [.string c, .string u]) := Lib.hid (V_w1.out.step hb)
  have B_y1 : Hid (Below w.heap.size w y1) := Lib.hid (stepB B_w1.out hb)
  have O_y1 : Hid (Okw y1) := Lib.hid (O_w1.out.step hb)
  have S_y1 : Hid (RL y1 y1.heap.size A xs) := Lib.hid (GL.step S_w1.out hb)
  clear V_w1 B_w1 O_w1 S_w1
  clear hb
  by_cases hR0 : R = 0
  case neg =>
    have q1 : (R != 0) = true := by simp [hR0]
    clear hR0
    go_wp2_with fail
    refine (HAW.out y1 O_y1.out).mono ?_
    rintro e y2 ⟨rfl, hb⟩
    have V_y2 : Hid (BK 28 y2 w.heap.size [.string c, .string u]) := Lib.hid (V_y1.out.step hb)
    have B_y2 : Hid (Below w.heap.size w y2) := Lib.hid (stepB B_y1.out hb)
    have O_y2 : Hid (Okw y2) := Lib.hid (O_y1.out.step hb)
    have S_y2 : Hid (RL y2 y2.heap.size A xs) := Lib.hid (GL.step S_y1.out hb)
    clear V_y1 B_y1 O_y1 S_y1
    clear hb
    go_wp2_with fail
    go_ret
    exact ⟨rfl, B_y2.out⟩
  subst hR0
  go_wp2_with first
    | (refine wpList_load_v (by rfl) 28 (.tmp 4) rfl ⟨w.heap.size, 0, none⟩ rfl (whV c u) (S2.run_load_all V_y1.out Tryd.underlying28 rfl whoSize) ?_)
  refine (HLI.out y1).mono ?_
  rintro e y2 ⟨rfl, hb⟩
  have V_y2 : Hid (BK 28 y2 w.heap.size [.string c, .string u]) := Lib.hid (V_y1.out.step hb)
  have B_y2 : Hid (Below w.heap.size w y2) := Lib.hid (stepB B_y1.out hb)
  have O_y2 : Hid (Okw y2) := Lib.hid (O_y1.out.step hb)
  have S_y2 : Hid (RL y2 y2.heap.size A xs) := Lib.hid (GL.step S_y1.out hb)
  clear V_y1 B_y1 O_y1 S_y1
  clear hb
  cases bl with
  | false =>
    go_wp2_with fail
    refine (HAW.out y2 O_y2.out).mono ?_
    rintro e y3 ⟨rfl, hb⟩
    have V_y3 : Hid (BK 28 y3 w.heap.size [.string c, .string u]) := Lib.hid (V_y2.out.step hb)
    have B_y3 : Hid (Below w.heap.size w y3) := Lib.hid (stepB B_y2.out hb)
    have O_y3 : Hid (Okw y3) := Lib.hid (O_y2.out.step hb)
    have S_y3 : Hid (RL y3 y3.heap.size A xs) := Lib.hid (GL.step S_y2.out hb)
    clear V_y2 B_y2 O_y2 S_y2
    clear hb
    go_wp2_with fail
    go_ret
    exact ⟨rfl, B_y3.out⟩
  | true =>
    obtain ⟨l1, l2, l3⟩ := HLT.out.1 (by first | exact rfl | trivial)
    obtain ⟨v1, v2⟩ := HCR.out (by first | exact rfl | trivial)
    have HFZ : Hid (∀ x ∈ xs, x.fi.size ≤ 1000) := Lib.hid (fun x hx => by have := fil64 (ruleE_filter (v2 x hx)); omega)
    have HX1 := Lib.hid (fun w1 h h2 => HP1.out w1 h h2 l1 l2 HFZ.out)
    have HX2 := Lib.hid (fun w1 h2 => HP2.out w1 h2 l1 l2 HFZ.out (by omega))
    generalize hRRdef : subsR xs c u o = RR at HX1 HX2
    clear l1 l2 l3 v1 v2 hRRdef HP1 HP2
    go_upto_region 3 with fail
    obtain ⟨y3, hy3⟩ : ∃ y3, y3 = World.drew y2 := ⟨_, rfl⟩
    have hbD : Below y2.heap.size y2 y3 := by rw [hy3]; exact (Below.refl _ _).drew
    have V_y3 : Hid (BK 28 y3 w.heap.size [.string c, .string u]) := Lib.hid (V_y2.out.step hbD)
    have B_y3 : Hid (Below w.heap.size w y3) := Lib.hid (stepB B_y2.out hbD)
    have O_y3 : Hid (Okw y3) := Lib.hid (O_y2.out.step hbD)
    have S_y3 : Hid (RL y3 y3.heap.size A xs) := Lib.hid (GL.step S_y2.out hbD)
    clear V_y2 B_y2 O_y2 S_y2
    have hbd : (fun w' => BK 28 w' w.heap.size [.string c, .string u]) (World.drew y2) := by rw [← hy3]; exact V_y3.out
    have hSD : (fun w' => BK 28 w' w.heap.size [.string c, .string u]) y3 := V_y3.out
    have HWD := Lib.hid hy3
    clear hy3 hbD
    refine wp_region_held_drew (S := fun w' => BK 28 w' w.heap.size [.string c, .string u]) (by kernel_rfl) hbd (fun hHeld => ?_)
    rw [← HWD.out]
    clear hHeld
    have hHeld := hSD
    clear hSD hbd HWD
    refine wpAnyH_ready (rs := [0]) (by kernel_rfl) (by simp) ?_
    refine (AllReadyH.cons (get_ops _ _ _ rfl) (fun K hK => ?_) AllReadyH.nil)
    go_simp
    refine (HAW.out y3 O_y3.out).mono ?_
    rintro e y4 ⟨rfl, hb⟩
    have V_y4 : Hid (BK 28 y4 w.heap.size [.string c, .string u]) := Lib.hid (V_y3.out.step hb)
    have B_y4 : Hid (Below w.heap.size w y4) := Lib.hid (stepB B_y3.out hb)
    have O_y4 : Hid (Okw y4) := Lib.hid (O_y3.out.step hb)
    have S_y4 : Hid (RL y4 y4.heap.size A xs) := Lib.hid (GL.step S_y3.out hb)
    clear V_y3 B_y3 O_y3 S_y3
    clear hHeld hb
    go_wp2_with fail
    refine hK.out _ _ V_y4.out (fun hHeld => ?_)
    clear hK K
    try simp only [Act.put, List.setIfInBounds_toArray, List.set_cons_zero, List.set_cons_succ]
    refine wpAnyH_take (i := 1) (v := .bool true) (get_ops _ _ _ rfl) (by kernel_rfl) (by kernel_rfl) (by kernel_rfl) (fun _ _ _ h => h) (Or.inl ⟨by rfl, fun wS hSw => by (try dsimp only at hSw); go_simp⟩) hHeld ?_
    try simp only [Act.put, List.setIfInBounds_toArray, List.set_cons_zero, List.set_cons_succ]
    refine wpAnyH_take (i := 2) (v := .slice A xs.length cc) (get_ops _ _ _ rfl) (by kernel_rfl) (by kernel_rfl) (by kernel_rfl) (fun _ _ _ h => h) (Or.inl ⟨by rfl, fun wS hSw => by (try dsimp only at hSw); go_simp⟩) hHeld ?_
    try simp only [Act.put, List.setIfInBounds_toArray, List.set_cons_zero, List.set_cons_succ]
    refine wpAnyH_take (i := 3) (v := (whV c u)) (get_ops _ _ _ rfl) (by kernel_rfl) (by kernel_rfl) (by kernel_rfl) (fun _ _ _ h => h) (Or.inl ⟨by rfl, fun wS hSw => by (try dsimp only at hSw); exact exec_load 28 _ rfl ⟨w.heap.size, 0, none⟩ (by go_simp) _ (S2.run_load_all (vs := [.string c, .string u]) hSw Tryd.underlying28 rfl whoSize)⟩) hHeld ?_
    try simp only [Act.put, List.setIfInBounds_toArray, List.set_cons_zero, List.set_cons_succ]
    refine wpAnyH_take (i := 4) (v := .string o) (get_ops _ _ _ rfl) (by kernel_rfl) (by kernel_rfl) (by kernel_rfl) (fun _ _ _ h => h) (Or.inl ⟨by rfl, fun wS hSw => by (try dsimp only at hSw); go_simp⟩) hHeld ?_
    try simp only [Act.put, List.setIfInBounds_toArray, List.set_cons_zero, List.set_cons_succ]
    refine wpAnyH_take (i := 6) (v := .slice A xs.length cc) (get_ops _ _ _ rfl) (by kernel_rfl) (by kernel_rfl) (by kernel_rfl) (fun _ _ _ h => h) (Or.inl ⟨by rfl, fun wS hSw => by (try dsimp only at hSw); go_simp⟩) hHeld ?_
    try simp only [Act.put, List.setIfInBounds_toArray, List.set_cons_zero, List.set_cons_succ]
    refine wpAnyH_take (i := 7) (v := (whV c u)) (get_ops _ _ _ rfl) (by kernel_rfl) (by kernel_rfl) (by kernel_rfl) (fun _ _ _ h => h) (Or.inl ⟨by rfl, fun wS hSw => by (try dsimp only at hSw); exact exec_load 28 _ rfl ⟨w.heap.size, 0, none⟩ (by go_simp) _ (S2.run_load_all (vs := [.string c, .string u]) hSw Tryd.underlying28 rfl whoSize)⟩) hHeld ?_
    try simp only [Act.put, List.setIfInBounds_toArray, List.set_cons_zero, List.set_cons_succ]
    refine wpAnyH_take (i := 8) (v := .string o) (get_ops _ _ _ rfl) (by kernel_rfl) (by kernel_rfl) (by kernel_rfl) (fun _ _ _ h => h) (Or.inl ⟨by rfl, fun wS hSw => by (try dsimp only at hSw); go_simp⟩) hHeld ?_
    try simp only [Act.put, List.setIfInBounds_toArray, List.set_cons_zero, List.set_cons_succ]
    refine wpAnyH_ready (rs := [5]) (by kernel_rfl) (by simp) ?_
    refine (AllReadyH.cons (get_ops _ _ _ rfl) (fun K hK => ?_) AllReadyH.nil)
    go_simp
    refine (HX1.out y4 O_y4.out S_y4.out).mono ?_
    rintro e y5 ⟨rfl, hb⟩
    have V_y5 : Hid (BK 28 y5 w.heap.size [.string c, .string u]) := Lib.hid (V_y4.out.step hb)
    have B_y5 : Hid (Below w.heap.size w y5) := Lib.hid (stepB B_y4.out hb)
    have O_y5 : Hid (Okw y5) := Lib.hid (O_y4.out.step hb)
    have S_y5 : Hid (RL y5 y5.heap.size A xs) := Lib.hid (GL.step S_y4.out hb)
    clear V_y4 B_y4 O_y4 S_y4
    clear hHeld hb
    go_wp2_with fail
    refine hK.out _ _ V_y5.out (fun hHeld => ?_)
    clear hK K
    try simp only [Act.put, List.setIfInBounds_toArray, List.set_cons_zero, List.set_cons_succ]
    refine wpAnyH_ready (rs := [9]) (by kernel_rfl) (by simp) ?_
    refine (AllReadyH.cons (get_ops _ _ _ rfl) (fun K hK => ?_) AllReadyH.nil)
    go_simp
    refine (HX2.out y5 S_y5.out).mono ?_
    rintro e y6 ⟨rfl, hb⟩
    have V_y6 : Hid (BK 28 y6 w.heap.size [.string c, .string u]) := Lib.hid (V_y5.out.step hb)
    have B_y6 : Hid (Below w.heap.size w y6) := Lib.hid (stepB B_y5.out hb)
    have O_y6 : Hid (Okw y6) := Lib.hid (O_y5.out.step hb)
    have S_y6 : Hid (RL y6 y6.heap.size A xs) := Lib.hid (GL.step S_y5.out hb)
    clear V_y5 B_y5 O_y5 S_y5
    clear hHeld hb
    go_wp2_with fail
    refine hK.out _ _ V_y6.out (fun hHeld => ?_)
    clear hK K
    try simp only [Act.put, List.setIfInBounds_toArray, List.set_cons_zero, List.set_cons_succ]
    refine wpAnyH_take (i := 10) (v := .bool true) (get_ops _ _ _ rfl) (by kernel_rfl) (by kernel_rfl) (by kernel_rfl) (fun _ _ _ h => h) (Or.inl ⟨by rfl, fun wS hSw => by (try dsimp only at hSw); cases RR <;> go_simp⟩) hHeld ?_
    try simp only [Act.put, List.setIfInBounds_toArray, List.set_cons_zero, List.set_cons_succ]
    refine wpAnyH_take (i := 11) (v := .bool true) (get_ops _ _ _ rfl) (by kernel_rfl) (by kernel_rfl) (by kernel_rfl) (fun _ _ _ h => h) (Or.inl ⟨by rfl, fun wS hSw => by (try dsimp only at hSw); go_simp⟩) hHeld ?_
    try simp only [Act.put, List.setIfInBounds_toArray, List.set_cons_zero, List.set_cons_succ]
    refine wpAnyH_take (i := 12) (v := .bool true) (get_ops _ _ _ rfl) (by kernel_rfl) (by kernel_rfl) (by kernel_rfl) (fun _ _ _ h => h) (Or.inl ⟨by rfl, fun wS hSw => by (try dsimp only at hSw); go_simp⟩) hHeld ?_
    try simp only [Act.put, List.setIfInBounds_toArray, List.set_cons_zero, List.set_cons_succ]
    refine wpAnyH_done (by kernel_rfl) ?_ _
    go_wp2_with fail
    go_ret
    exact ⟨rfl, B_y6.out⟩

set_option maxRecDepth 20000 in
set_option maxHeartbeats 4000000 in
theorem accessShadows_walk20 (A : Option Addr) (cc : Nat) (xs : List Rl) (w : World) (hok : Okw w) (sl : RL w w.heap.size A xs) (hcc : xs.length ≤ cc) (hN : xs.length ≤ 140737488355328) (hz : ∀ x ∈ xs, x.us.size ≤ 9223372036854775807) :
    Calls Tryd.prog 7 #[.slice A xs.length cc] w fun e w' => e = .returned (.bool true) ∧ Below w.heap.size w w' := by
  have HO := Lib.hid hok
  have HAW := Lib.hid (fun w1 h => awake20_any w1 h)
  have HC2 := Lib.hid (fun w1 h2 => rcheck_any A cc xs w1 h2 hN hz)
  have HCR := Lib.hid (@chkR_zero xs)
  generalize chkR xs = R at *
  have HCC := Lib.hid hcc
  have S_w := Lib.hid sl
  have O_w := Lib.hid hok
  have B_w := Lib.hid (Below.refl w.heap.size w)
  clear hok sl hz hN hcc HO
  go_enter Tryd.func7, Tryd.ntmps7
  go_wp2_with fail
  refine (HC2.out w S_w.out).mono ?_
  rintro e y1 ⟨rfl, hb⟩
  have B_y1 : Hid (Below w.heap.size w y1) := Lib.hid (stepB B_w.out hb)
  have O_y1 : Hid (Okw y1) := Lib.hid (O_w.out.step hb)
  have S_y1 : Hid (RL y1 y1.heap.size A xs) := Lib.hid (GL.step S_w.out hb)
  clear B_w O_w S_w
  clear hb
  by_cases hR0 : R = 0
  case neg =>
    have q1 : (R != 0) = true := by simp [hR0]
    clear hR0
    go_wp2_with fail
    refine (HAW.out y1 O_y1.out).mono ?_
    rintro e y2 ⟨rfl, hb⟩
    have B_y2 : Hid (Below w.heap.size w y2) := Lib.hid (stepB B_y1.out hb)
    have O_y2 : Hid (Okw y2) := Lib.hid (O_y1.out.step hb)
    have S_y2 : Hid (RL y2 y2.heap.size A xs) := Lib.hid (GL.step S_y1.out hb)
    clear B_y1 O_y1 S_y1
    clear hb
    go_wp2_with fail
    go_ret
    exact ⟨rfl, B_y2.out⟩
  subst hR0
  obtain ⟨v1, v2⟩ := HCR.out (by first | exact rfl | trivial)
  have HFZ : Hid (∀ x ∈ xs, x.fi.size ≤ 1000) := Lib.hid (fun x hx => by have := fil64 (ruleE_filter (v2 x hx)); omega)
  have HX1 := Lib.hid (fun w1 h h2 => shadowed_any A cc xs w1 h h2 HCC.out (by omega) HFZ.out)
  have HX2 := Lib.hid (fun w1 h2 => rshadowed_any A cc xs w1 h2 (by omega) HFZ.out)
  rw [shdw_same (fun x hx => ruleE_filter (v2 x hx))] at HX1
  have HLL : Hid ((shdw hidR xs xs.length).length ≤ 9223372036854775807) := Lib.hid (by have := shdw_le hidR xs xs.length; omega)
  generalize shdw hidR xs xs.length = D at *
  clear v1 v2
  go_wp2_with fail
  refine (HAW.out y1 O_y1.out).mono ?_
  rintro e y2 ⟨rfl, hb⟩
  have B_y2 : Hid (Below w.heap.size w y2) := Lib.hid (stepB B_y1.out hb)
  have O_y2 : Hid (Okw y2) := Lib.hid (O_y1.out.step hb)
  have S_y2 : Hid (RL y2 y2.heap.size A xs) := Lib.hid (GL.step S_y1.out hb)
  clear B_y1 O_y1 S_y1
  clear hb
  go_wp2_with fail
  refine (HX1.out y2 O_y2.out S_y2.out).mono ?_
  rintro e y3 ⟨A1, c1, rfl, _, hi1, hb⟩
  have B_y3 : Hid (Below w.heap.size w y3) := Lib.hid (stepB B_y2.out hb)
  have O_y3 : Hid (Okw y3) := Lib.hid (O_y2.out.step hb)
  have S_y3 : Hid (RL y3 y3.heap.size A xs) := Lib.hid (GL.step S_y2.out hb)
  clear B_y2 O_y2 S_y2
  have I_y3 := Lib.hid hi1
  clear hi1
  clear hb
  go_wp2_with fail
  refine (HX2.out y3 S_y3.out).mono ?_
  rintro e y4 ⟨A2, c2, rfl, _, hi2, hb⟩
  have B_y4 : Hid (Below w.heap.size w y4) := Lib.hid (stepB B_y3.out hb)
  have O_y4 : Hid (Okw y4) := Lib.hid (O_y3.out.step hb)
  have S_y4 : Hid (RL y4 y4.heap.size A xs) := Lib.hid (GL.step S_y3.out hb)
  have I_y4 : Hid (S2.IL y4 y4.heap.size A1 D) := Lib.hid (CL.step I_y3.out hb)
  clear B_y3 O_y3 S_y3 I_y3
  have J_y4 := Lib.hid hi2
  clear hi2
  clear hb
  have HIN := Lib.hid (fun w1 h1 h2 => S2.rInts_any A1 A2 c1 c2 D D w1 h1 h2 HLL.out HLL.out)
  rw [decide_eq_true rfl] at HIN
  go_wp2_with fail
  refine (HIN.out y4 I_y4.out J_y4.out).mono ?_
  rintro e y5 ⟨rfl, hb⟩
  have B_y5 : Hid (Below w.heap.size w y5) := Lib.hid (stepB B_y4.out hb)
  have O_y5 : Hid (Okw y5) := Lib.hid (O_y4.out.step hb)
  have S_y5 : Hid (RL y5 y5.heap.size A xs) := Lib.hid (GL.step S_y4.out hb)
  have I_y5 : Hid (S2.IL y5 y5.heap.size A1 D) := Lib.hid (CL.step I_y4.out hb)
  have J_y5 : Hid (S2.IL y5 y5.heap.size A2 D) := Lib.hid (CL.step J_y4.out hb)
  clear B_y4 O_y4 S_y4 I_y4 J_y4
  clear hb
  go_wp2_with fail
  go_ret
  exact ⟨rfl, B_y5.out⟩
end Go.Proofs.YtoakhkiiefiebaaDoor.S1
