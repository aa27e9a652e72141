/-
  The walk of AccessFirst. Conditions: the list and the rule read as data; texts and lists fit a machine; the library's bound on short texts holds a number.
-/
import Derived.Test.YtoakhkiiefiebaaDoorAcM
namespace Go.Proofs.YtoakhkiiefiebaaDoor.S1
open Go.RowKit
open S2 (BK Put get_ops exec_load)

theorem one_ok {x : Rl} (h : ∀ y ∈ [x], y.us.size ≤ 9223372036854775807) : x.us.size ≤ 9223372036854775807 := h x (by simp)

set_option maxRecDepth 20000 in
set_option maxHeartbeats 4000000 in
theorem accessFirst_walk20 (A : Option Addr) (cc : Nat) (xs : List Rl) (r : Rl) (c u : ByteArray) (ac : Int) (o : ByteArray) (w : World) (hok : Okw w) (sl : RL w w.heap.size A xs) (hN : xs.length ≤ 140737488355328) (hz : ∀ x ∈ xs, x.us.size ≤ 9223372036854775807) (hxz : r.us.size ≤ 9223372036854775807) :
    Calls Tryd.prog 10 #[.slice A xs.length cc, rlV r, whV c u, .int .i64 ac, .string o] w fun e w' => e = .returned (.bool true) ∧ Below w.heap.size w w' := by
  have HO := Lib.hid hok
  have HAW := Lib.hid (fun w1 h => awake20_any w1 h)
  have HP1 := Lib.hid (fun A cc (zs : List Rl) w1 h h2 h3 h4 h5 h6 => allowed_any A cc zs c u o ac w1 h h2 h3 h4 h5 h6)
  have HP3 := Lib.hid (fun A w1 h2 h4 h5 h6 h7 => rallowed_any A 1 [⟨true, r.us, r.ac, r.fi⟩] c u o ac w1 h2 (by show 1 ≤ _; decide) h4 h5 h6 h7)
  rw [show ([⟨true, r.us, r.ac, r.fi⟩] : List Rl).length = 1 from rfl, allow_one] at HP3
  have HLI := Lib.hid (fun w1 => light_any c u o w1)
  have HT := Lib.hid (@light_iff c u o)
  generalize lightW c u o = bl at *
  have HRC := Lib.hid (fun A cc (zs : List Rl) w1 h2 h3 h4 => rcheck_any A cc zs w1 h2 h3 h4)
  have HPC : Hid (alP c u ac o ⟨true, r.us, r.ac, r.fi⟩ = alP c u ac o r) := Lib.hid rfl
  rw [HPC.out] at HP3
  have HAC := Lib.hid (allow_cons r xs c u ac o)
  have HCR := Lib.hid (@chkR_zero (r :: xs))
  have HZ := Lib.hid hz
  have HXZ := Lib.hid hxz
  have S_w := Lib.hid sl
  clear hok sl hz hxz HPC
  obtain ⟨al, us, an, fi⟩ := r
  unfold whV rlV gR
  go_enter Tryd.func10, Tryd.ntmps10
  go_upto_region 1 with fail
  refine name_world (C := fun w1 => Code.wp _ _ _ _ w1) ((w.alloc (.cells (gR ⟨al, us, an, fi⟩).toArray 42)).alloc (.cells ([.string c, .string u] : List Value).toArray 28)) ?_
  intro w1 hw1
  obtain ⟨t1, t2, hs0, hb1⟩ := S2.two_laid (v1 := gR ⟨al, us, an, fi⟩) (v2 := [.string c, .string u]) hw1
  have R_w1 := Lib.hid t1
  have V_w1 := Lib.hid t2
  have B_w1 := Lib.hid hb1
  have O_w1 := Lib.hid (HO.out.step hb1)
  have S_w1 := Lib.hid (GL.step S_w.out hb1)
  clear hw1 t1 t2 hs0 hb1 HO S_w
  by_cases h31 : 31 < xs.length
  · have e1 : decide ((31 : Int) < (xs.length : Int)) = true := decide_eq_true (by omega)
    have e1' : decide (31 < xs.length) = true := decide_eq_true h31
    clear h31
    go_wp2_with fail
    refine (HAW.out w1 O_w1.out).mono ?_
    rintro e y1 ⟨rfl, hb⟩
    have R_y1 : Hid (BK 42 y1 w.heap.size (gR ⟨al, us, an, fi⟩)) := Lib.hid (R_w1.out.step hb)
    have V_y1 : Hid (BK 28 y1 (w.heap.size + 1) [.string c, .string u]) := Lib.hid (V_w1.out.step hb)
    have B_y1 : Hid (Below w.heap.size w y1) := Lib.hid (stepB B_w1.out hb)
    have O_y1 : Hid (Okw y1) := Lib.hid (O_w1.out.step hb)
    have S_y1 : Hid (RL y1 y1.heap.size A xs) := Lib.hid (GL.step S_w1.out hb)
    clear R_w1 V_w1 B_w1 O_w1 S_w1
    clear hb
    go_wp2_with fail
    go_ret
    exact ⟨rfl, B_y1.out⟩
  have e1 : decide ((31 : Int) < (xs.length : Int)) = false := decide_eq_false (by omega)
  have e1' : decide (31 < xs.length) = false := decide_eq_false h31
  have HXL : Hid (xs.length ≤ 31) := Lib.hid (by omega)
  clear h31
  have HB0 := Lib.hid (S2.below_new w1 (.cells (gR ⟨al, us, an, fi⟩).toArray 42))
  have HOW : Hid (OwnG 42 gR 4 (w1.alloc (.cells (gR ⟨al, us, an, fi⟩).toArray 42)) w1.heap.size (.slice (some ⟨w1.heap.size, 0, none⟩) 1 1) [⟨al, us, an, fi⟩]) := Lib.hid (own_one (BK.new w1 _ _))
  go_wp2_with first
    | (refine wpList_load_v (by rfl) 42 (.tmp 6) rfl ⟨w.heap.size, 0, none⟩ rfl (.agg #[.bool al, .string us, .int .i64 an, .string fi]) (S2.run_load_all R_w1.out Tryd.underlying42 rfl ruleSize) ?_)
    | (at_builtin; refine wpList_appG (g := gR) (k := 4) (e := 42) (by decide) _ rfl _ _ 22 22 rfl (.agg #[.bool false, .string ByteArray.empty, .int .i64 0, .string ByteArray.empty]) 48 Tryd.underlying22 ruleInfo rfl (by decide) w1.heap.size _ [⟨al, us, an, fi⟩] xs rfl HOW.out _ rfl (GL.src gR_len gR_one (GL.step S_w1.out HB0.out) Tryd.underlying22 cc) w1 HB0.out (by simp) (by have := HXL.out; simp; omega) ?_; intro v1 wa hown1 hba1 hsa1; obtain ⟨ys, hys⟩ : ∃ ys, ys = [(⟨al, us, an, fi⟩ : Rl)] ++ xs := ⟨_, rfl⟩; rw [← hys] at hown1; have HYS := Lib.hid hys; obtain ⟨A7, c7, hv7, hc7, hgl7⟩ := OwnG.ret gR_len hown1; subst hv7; have Y_wa := Lib.hid hgl7; have hb := hba1; have R_wa : Hid (BK 42 wa w.heap.size (gR ⟨al, us, an, fi⟩)) := Lib.hid (R_w1.out.step hb); have V_wa : Hid (BK 28 wa (w.heap.size + 1) [.string c, .string u]) := Lib.hid (V_w1.out.step hb); have B_wa : Hid (Below w.heap.size w wa) := Lib.hid (stepB B_w1.out hb); have O_wa : Hid (Okw wa) := Lib.hid (O_w1.out.step hb); have S_wa : Hid (RL wa wa.heap.size A xs) := Lib.hid (GL.step S_w1.out hb); clear hown1 hba1 hsa1 hys hgl7 hb hc7 HOW HB0 R_w1 V_w1 B_w1 O_w1 S_w1)
  have HYE : Hid (ys = ⟨al, us, an, fi⟩ :: xs) := Lib.hid HYS.out
  have HYL : Hid (ys.length ≤ 32) := Lib.hid (by rw [HYE.out, List.length_cons]; have := HXL.out; omega)
  have HC2 := Lib.hid (fun w1 h2 => HRC.out A7 c7 ys w1 h2 (by have := HYL.out; omega) (fun x hx => by rw [HYE.out] at hx; rcases List.mem_cons.1 hx with rfl | hx; exact HXZ.out; exact HZ.out x hx))
  rw [← HYE.out] at HCR HAC
  generalize chkR ys = R at *
  refine (HC2.out wa Y_wa.out).mono ?_
  rintro e y1 ⟨rfl, hb⟩
  have R_y1 : Hid (BK 42 y1 w.heap.size (gR ⟨al, us, an, fi⟩)) := Lib.hid (R_wa.out.step hb)
  have V_y1 : Hid (BK 28 y1 (w.heap.size + 1) [.string c, .string u]) := Lib.hid (V_wa.out.step hb)
  have B_y1 : Hid (Below w.heap.size w y1) := Lib.hid (stepB B_wa.out hb)
  have O_y1 : Hid (Okw y1) := Lib.hid (O_wa.out.step hb)
  have S_y1 : Hid (RL y1 y1.heap.size A xs) := Lib.hid (GL.step S_wa.out hb)
  have Y_y1 : Hid (RL y1 y1.heap.size A7 ys) := Lib.hid (GL.step Y_wa.out hb)
  clear R_wa V_wa B_wa O_wa S_wa Y_wa
  clear hb HC2 HRC
  by_cases hR0 : R = 0
  case neg =>
    have q1 : (R != 0) = true := by simp [hR0]
    clear hR0
    go_wp2_with fail
    refine (HAW.out y1 O_y1.out).mono ?_
    rintro e y2 ⟨rfl, hb⟩
    have R_y2 : Hid (BK 42 y2 w.heap.size (gR ⟨al, us, an, fi⟩)) := Lib.hid (R_y1.out.step hb)
    have V_y2 : Hid (BK 28 y2 (w.heap.size + 1) [.string c, .string u]) := Lib.hid (V_y1.out.step hb)
    have B_y2 : Hid (Below w.heap.size w y2) := Lib.hid (stepB B_y1.out hb)
    have O_y2 : Hid (Okw y2) := Lib.hid (O_y1.out.step hb)
    have S_y2 : Hid (RL y2 y2.heap.size A xs) := Lib.hid (GL.step S_y1.out hb)
    have Y_y2 : Hid (RL y2 y2.heap.size A7 ys) := Lib.hid (GL.step Y_y1.out hb)
    clear R_y1 V_y1 B_y1 O_y1 S_y1 Y_y1
    clear hb
    go_wp2_with fail
    go_ret
    exact ⟨rfl, B_y2.out⟩
  subst hR0
  obtain ⟨v1, v2⟩ := HCR.out (by first | exact rfl | trivial)
  have HFZ : Hid (∀ x ∈ ys, x.fi.size ≤ 1000) := Lib.hid (fun x hx => by have := fil64 (ruleE_filter (v2 x hx)); omega)
  clear v1 v2 HCR
  go_wp2_with first
    | (refine wpList_load_v (by rfl) 28 (.tmp 7) rfl ⟨(w.heap.size + 1), 0, none⟩ rfl (whV c u) (S2.run_load_all V_y1.out Tryd.underlying28 rfl whoSize) ?_)
  refine (HLI.out y1).mono ?_
  rintro e y2 ⟨rfl, hb⟩
  have R_y2 : Hid (BK 42 y2 w.heap.size (gR ⟨al, us, an, fi⟩)) := Lib.hid (R_y1.out.step hb)
  have V_y2 : Hid (BK 28 y2 (w.heap.size + 1) [.string c, .string u]) := Lib.hid (V_y1.out.step hb)
  have B_y2 : Hid (Below w.heap.size w y2) := Lib.hid (stepB B_y1.out hb)
  have O_y2 : Hid (Okw y2) := Lib.hid (O_y1.out.step hb)
  have S_y2 : Hid (RL y2 y2.heap.size A xs) := Lib.hid (GL.step S_y1.out hb)
  have Y_y2 : Hid (RL y2 y2.heap.size A7 ys) := Lib.hid (GL.step Y_y1.out hb)
  clear R_y1 V_y1 B_y1 O_y1 S_y1 Y_y1
  clear hb
  cases bl with
  | false =>
    go_wp2_with fail
    refine (HAW.out y2 O_y2.out).mono ?_
    rintro e y3 ⟨rfl, hb⟩
    have R_y3 : Hid (BK 42 y3 w.heap.size (gR ⟨al, us, an, fi⟩)) := Lib.hid (R_y2.out.step hb)
    have V_y3 : Hid (BK 28 y3 (w.heap.size + 1) [.string c, .string u]) := Lib.hid (V_y2.out.step hb)
    have B_y3 : Hid (Below w.heap.size w y3) := Lib.hid (stepB B_y2.out hb)
    have O_y3 : Hid (Okw y3) := Lib.hid (O_y2.out.step hb)
    have S_y3 : Hid (RL y3 y3.heap.size A xs) := Lib.hid (GL.step S_y2.out hb)
    have Y_y3 : Hid (RL y3 y3.heap.size A7 ys) := Lib.hid (GL.step Y_y2.out hb)
    clear R_y2 V_y2 B_y2 O_y2 S_y2 Y_y2
    clear hb
    go_wp2_with fail
    go_ret
    exact ⟨rfl, B_y3.out⟩
  | true =>
    obtain ⟨l1, l2, l3⟩ := HT.out.1 (by first | exact rfl | trivial)
    have HFX : Hid (∀ x ∈ xs, x.fi.size ≤ 1000) := Lib.hid (fun x hx => HFZ.out x (by rw [HYE.out]; exact List.mem_cons_of_mem _ hx))
    have HF0 : Hid (fi.size ≤ 1000) := Lib.hid (HFZ.out ⟨al, us, an, fi⟩ (by rw [HYE.out]; exact List.mem_cons_self))
    have HX1 := Lib.hid (fun w1 h h2 => HP1.out A7 c7 ys w1 h h2 (by have := HYL.out; omega) l1 l2 HFZ.out)
    have HX2 := Lib.hid (fun w1 h h2 => HP1.out A cc xs w1 h h2 (by have := HXL.out; omega) l1 l2 HFX.out)
    have HX3 := Lib.hid (fun A w1 h2 => HP3.out A w1 h2 l1 l2 (fun x hx => by simp only [List.mem_singleton] at hx; subst hx; exact HF0.out) (by omega))
    clear l1 l2 l3 HP1 HP3
    obtain ⟨ra, hra⟩ : ∃ z, allowR ys c u ac o = z := ⟨_, rfl⟩
    obtain ⟨rb, hrb⟩ : ∃ z, allowR xs c u ac o = z := ⟨_, rfl⟩
    obtain ⟨rp, hrp⟩ : ∃ z, alP c u ac o ⟨al, us, an, fi⟩ = z := ⟨_, rfl⟩
    rw [hra] at HX1 HAC
    rw [hrb] at HX2 HAC
    rw [hrp] at HX3 HAC
    clear hra hrb hrp
    go_wp2_with first
      | (refine wpList_load_v (by rfl) 28 (.tmp 7) rfl ⟨(w.heap.size + 1), 0, none⟩ rfl (whV c u) (S2.run_load_all V_y2.out Tryd.underlying28 rfl whoSize) ?_)
    refine (HX1.out y2 O_y2.out Y_y2.out).mono ?_
    rintro e y3 ⟨rfl, hb⟩
    have R_y3 : Hid (BK 42 y3 w.heap.size (gR ⟨al, us, an, fi⟩)) := Lib.hid (R_y2.out.step hb)
    have V_y3 : Hid (BK 28 y3 (w.heap.size + 1) [.string c, .string u]) := Lib.hid (V_y2.out.step hb)
    have B_y3 : Hid (Below w.heap.size w y3) := Lib.hid (stepB B_y2.out hb)
    have O_y3 : Hid (Okw y3) := Lib.hid (O_y2.out.step hb)
    have S_y3 : Hid (RL y3 y3.heap.size A xs) := Lib.hid (GL.step S_y2.out hb)
    have Y_y3 : Hid (RL y3 y3.heap.size A7 ys) := Lib.hid (GL.step Y_y2.out hb)
    clear R_y2 V_y2 B_y2 O_y2 S_y2 Y_y2
    clear hb
    have z1 : y3.cell? ⟨w.heap.size, 1, none⟩ = some (.string us) := R_y3.out.cell 1 rfl
    have z2 : y3.cell? ⟨w.heap.size, 2, none⟩ = some (.int .i64 an) := R_y3.out.cell 2 rfl
    have z3 : y3.cell? ⟨w.heap.size, 3, none⟩ = some (.string fi) := R_y3.out.cell 3 rfl
    have HB8 := Lib.hid (S2.below_new y3 (.cells (([⟨true, us, an, fi⟩] : List Rl).flatMap gR).toArray 42))
    have V8 : Hid (BK 28 (y3.alloc (.cells (([⟨true, us, an, fi⟩] : List Rl).flatMap gR).toArray 42)) (w.heap.size + 1) [.string c, .string u]) := Lib.hid (V_y3.out.step HB8.out)
    go_wp2_with first
      | (refine wpList_load_v (by rfl) 28 (.tmp 7) rfl ⟨w.heap.size + 1, 0, none⟩ rfl (whV c u) (S2.run_load_all V8.out Tryd.underlying28 rfl whoSize) ?_)
    refine (HX3.out (some ⟨y3.heap.size, 0, none⟩) (y3.alloc (.cells (([⟨true, us, an, fi⟩] : List Rl).flatMap gR).toArray 42)) (GL.new gR_len)).mono ?_
    rintro e y4 ⟨rfl, hb9⟩
    have hb := stepB HB8.out hb9
    clear z1 z2 z3
    have R_y4 : Hid (BK 42 y4 w.heap.size (gR ⟨al, us, an, fi⟩)) := Lib.hid (R_y3.out.step hb)
    have V_y4 : Hid (BK 28 y4 (w.heap.size + 1) [.string c, .string u]) := Lib.hid (V_y3.out.step hb)
    have B_y4 : Hid (Below w.heap.size w y4) := Lib.hid (stepB B_y3.out hb)
    have O_y4 : Hid (Okw y4) := Lib.hid (O_y3.out.step hb)
    have S_y4 : Hid (RL y4 y4.heap.size A xs) := Lib.hid (GL.step S_y3.out hb)
    have Y_y4 : Hid (RL y4 y4.heap.size A7 ys) := Lib.hid (GL.step Y_y3.out hb)
    clear R_y3 V_y3 B_y3 O_y3 S_y3 Y_y3
    clear hb hb9 HB8 V8 HX3
    cases rp with
    | false =>
      have HRA : Hid (ra = rb) := Lib.hid HAC.out
      go_wp2_with fail
      refine (HAW.out y4 O_y4.out).mono ?_
      rintro e y5 ⟨rfl, hb⟩
      have R_y5 : Hid (BK 42 y5 w.heap.size (gR ⟨al, us, an, fi⟩)) := Lib.hid (R_y4.out.step hb)
      have V_y5 : Hid (BK 28 y5 (w.heap.size + 1) [.string c, .string u]) := Lib.hid (V_y4.out.step hb)
      have B_y5 : Hid (Below w.heap.size w y5) := Lib.hid (stepB B_y4.out hb)
      have O_y5 : Hid (Okw y5) := Lib.hid (O_y4.out.step hb)
      have S_y5 : Hid (RL y5 y5.heap.size A xs) := Lib.hid (GL.step S_y4.out hb)
      have Y_y5 : Hid (RL y5 y5.heap.size A7 ys) := Lib.hid (GL.step Y_y4.out hb)
      clear R_y4 V_y4 B_y4 O_y4 S_y4 Y_y4
      clear hb
      go_wp2_with first
        | (refine wpList_load_v (by rfl) 28 (.tmp 7) rfl ⟨(w.heap.size + 1), 0, none⟩ rfl (whV c u) (S2.run_load_all V_y5.out Tryd.underlying28 rfl whoSize) ?_)
      refine (HX2.out y5 O_y5.out S_y5.out).mono ?_
      rintro e y6 ⟨rfl, hb⟩
      have R_y6 : Hid (BK 42 y6 w.heap.size (gR ⟨al, us, an, fi⟩)) := Lib.hid (R_y5.out.step hb)
      have V_y6 : Hid (BK 28 y6 (w.heap.size + 1) [.string c, .string u]) := Lib.hid (V_y5.out.step hb)
      have B_y6 : Hid (Below w.heap.size w y6) := Lib.hid (stepB B_y5.out hb)
      have O_y6 : Hid (Okw y6) := Lib.hid (O_y5.out.step hb)
      have S_y6 : Hid (RL y6 y6.heap.size A xs) := Lib.hid (GL.step S_y5.out hb)
      have Y_y6 : Hid (RL y6 y6.heap.size A7 ys) := Lib.hid (GL.step Y_y5.out hb)
      clear R_y5 V_y5 B_y5 O_y5 S_y5 Y_y5
      clear hb
      have hrr := HRA.out
      subst hrr
      go_wp2_with fail
      go_ret
      exact ⟨by cases ra <;> rfl, B_y6.out⟩
    | true =>
      have HRA : Hid (ra = al) := Lib.hid HAC.out
      go_wp2_with fail
      refine (HAW.out y4 O_y4.out).mono ?_
      rintro e y5 ⟨rfl, hb⟩
      have R_y5 : Hid (BK 42 y5 w.heap.size (gR ⟨al, us, an, fi⟩)) := Lib.hid (R_y4.out.step hb)
      have V_y5 : Hid (BK 28 y5 (w.heap.size + 1) [.string c, .string u]) := Lib.hid (V_y4.out.step hb)
      have B_y5 : Hid (Below w.heap.size w y5) := Lib.hid (stepB B_y4.out hb)
      have O_y5 : Hid (Okw y5) := Lib.hid (O_y4.out.step hb)
      have S_y5 : Hid (RL y5 y5.heap.size A xs) := Lib.hid (GL.step S_y4.out hb)
      have Y_y5 : Hid (RL y5 y5.heap.size A7 ys) := Lib.hid (GL.step Y_y4.out hb)
      clear R_y4 V_y4 B_y4 O_y4 S_y4 Y_y4
      clear hb
      have hrr := HRA.out
      subst hrr
      have z0 : y5.cell? ⟨w.heap.size, 0, none⟩ = some (.bool ra) := R_y5.out.cell 0 rfl
      go_wp2_with fail
      go_ret
      exact ⟨by cases ra <;> rfl, B_y5.out⟩
end Go.Proofs.YtoakhkiiefiebaaDoor.S1
