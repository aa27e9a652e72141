/-
  What without of brokerlaw20 answers, and the walks of AccessNever, AccessIncluded and AccessFirst. Conditions: the list reads as data; texts and lists fit a machine; the library's bound on short texts holds a number.
-/
import Derived.Test.YtoakhkiiefiebaaDoorAcL
namespace Go.Proofs.YtoakhkiiefiebaaDoor.S1
open Go.RowKit
open S2 (BK Put get_ops exec_load)

theorem wpList_slice_v {P : Program} {ops : Array Oper} {rest : List Oper} {o : Oper} {a : Act} {w : World} {Q : Exit → Act → World → Prop} (hgd : Region.wanted o (yielded ops a.tmps) = true) (ty : TypeId) (x lo : Operand) (_ho : o.op = .slice ty x (some lo) none none)
    (v : Value) (hl : (execOp a.eval o).run P w = .ok (.value v) w) (h : wpList P ops Q rest (a.put o.dst v) w) : wpList P ops Q (o :: rest) a w :=
  S2.wpList_wanted hgd fun _ hK => by
    unfold Oper.wp
    simp only [hl]
    exact hK _ _ h
theorem GL.drop {α : Type} {g : α → List Value} {k : Nat} {w : World} {B : Nat} {A : Option Addr} {xs : List α} (h : GL g k w B A xs) {n cap : Nat} (hn : n ≤ xs.length) (hc : xs.length ≤ cap) : GL g k w B (if cap = n then A else A.map (·.add (n * k))) (xs.drop n) := fun h0 => by
  rw [List.length_drop] at h0
  obtain ⟨b, o, e, hb, hcell⟩ := h (by omega)
  rw [if_neg (by omega), e]
  refine ⟨b, o + n * k, ?_, hb, fun j x i v hx hv => ?_⟩
  · simp only [Option.map_some, Addr.add]
    split
    · next h0 => rw [h0]; rfl
    · rfl
  · rw [List.getElem?_drop] at hx
    have := hcell _ x i v hx hv
    rw [Nat.add_mul, ← Nat.add_assoc o (n * k) (j * k)] at this
    exact this
theorem own_one {w : World} {T : TypeId} {q : Nat} {x : Rl} (h : BK T w q (gR x)) : OwnG T gR 4 w q (.slice (some ⟨q, 0, none⟩) 1 1) [x] := by
  unfold OwnG
  refine ⟨flat_len gR_len [x], .inr ⟨q, 1, (gR x).toArray, rfl, Nat.le_refl _, h, Nat.le_refl _, by decide, rfl, ?_⟩⟩
  show (gR x).take (1 * 4) = [x].flatMap gR
  rfl
/-- a list of rules that a call answers -/
def RetRl (L : List Rl) (W : World) (e : Ending) (w' : World) : Prop := ∃ A c, e = .returned (.slice A L.length c) ∧ RL w' w'.heap.size A L ∧ Below W.heap.size W w'

set_option maxRecDepth 20000 in
set_option maxHeartbeats 4000000 in
theorem without_any (A : Option Addr) (cc : Nat) (xs : List Rl) (i : Nat) (w : World) (h : RL w w.heap.size A xs) (hcc : xs.length ≤ cc) (hi : i < xs.length) (hn : xs.length ≤ 1000000) :
    Calls Tryd.prog 24 #[.slice A xs.length cc, .int .i64 i] w (RetRl (xs.take i ++ xs.drop (i + 1)) w) := by
  obtain ⟨ys, hys⟩ : ∃ ys, ys = xs.take i := ⟨_, rfl⟩
  obtain ⟨ds, hds⟩ : ∃ ds, ds = xs.drop (i + 1) := ⟨_, rfl⟩
  have hyl : ys.length = i := by rw [hys, List.length_take]; omega
  rw [← hys, ← hds]
  have HSY : Hid (∀ w1, RL w1 w1.heap.size A xs → GL gR 4 w1 w1.heap.size A ys) := Lib.hid (fun w1 h => by rw [hys]; exact GL.take h i)
  have hdl : ds.length = xs.length - (i + 1) := by rw [hds, List.length_drop]
  obtain ⟨AD, hAD⟩ : ∃ AD, AD = (if cc = i + 1 then A else A.map (·.add ((i + 1) * 4))) := ⟨_, rfl⟩
  obtain ⟨cd, hcd⟩ : ∃ cd, cd = cc - (i + 1) := ⟨_, rfl⟩
  have HSD : Hid (∀ w1, RL w1 w1.heap.size A xs → GL gR 4 w1 w1.heap.size AD ds) := Lib.hid (fun w1 h => by rw [hAD, hds]; exact GL.drop h (by omega) hcc)
  have HDE : Hid (Value.slice AD ds.length cd = .slice (if cc = i + 1 then A else A.map (·.add ((i + 1) * 4))) (xs.length - (i + 1)) (cc - (i + 1))) := Lib.hid (by rw [hAD, hcd, hdl])
  have HLE : Hid (ys.length ≤ 1000000 ∧ ds.length ≤ 1000000) := Lib.hid (by omega)
  clear hys hds hAD hcd hdl
  subst hyl
  have HS := Lib.hid h
  have hwk : wrap64 ((ys.length : Int) + 1) = (ys.length : Int) + 1 := S2.wrap64_id _ (by omega) (by omega)
  have j0 : (0 : Int) ≤ (ys.length : Int) := by omega
  have j1 : (ys.length : Int) ≤ (cc : Int) := by omega
  have j2 : (ys.length : Int) ≤ (xs.length : Int) := by omega
  have j3 : (0 : Int) ≤ (ys.length : Int) + 1 := by omega
  have j4 : (ys.length : Int) + 1 ≤ (cc : Int) := by omega
  have j5 : (ys.length : Int) + 1 ≤ (xs.length : Int) := by omega
  have hb0 := S2.below_new w (.cells #[] 42)
  have S_0 := Lib.hid (GL.step HS.out hb0)
  have HB0 := Lib.hid hb0
  clear h hcc hi hb0
  go_enter Tryd.func24, Tryd.ntmps24
  go_wp2_with first
    | (at_builtin; refine wpList_appG (g := gR) (k := 4) (e := 42) (by decide) _ rfl _ _ 22 22 rfl (.agg #[.bool false, .string ByteArray.empty, .int .i64 0, .string ByteArray.empty]) 48 Tryd.underlying22 ruleInfo rfl (by decide) w.heap.size _ [] ys rfl (OwnG.made w 0 #[] w.heap.size (Nat.le_refl _) (by decide) rfl) _ rfl (GL.src gR_len gR_one (HSY.out _ S_0.out) Tryd.underlying22 cc) w HB0.out (by simp) (by have := HLE.out; simp; omega) ?_; intro v1 w1 hown1 hb1 hs1; have HW1 := Lib.hid hown1; have B_w1 := Lib.hid hb1; have S_w1 := Lib.hid (GL.step HS.out hb1); clear hown1 hb1 hs1)
    | (refine wpList_slice_v (by rfl) 22 _ _ rfl (.slice AD ds.length cd) (by rw [HDE.out]; go_simp) ?_)
    | (at_builtin; refine wpList_appG (g := gR) (k := 4) (e := 42) (by decide) w1 rfl _ _ 22 22 rfl (.agg #[.bool false, .string ByteArray.empty, .int .i64 0, .string ByteArray.empty]) 48 Tryd.underlying22 ruleInfo rfl (by decide) w.heap.size _ ([] ++ ys) ds rfl HW1.out _ rfl (GL.src gR_len gR_one (HSD.out _ S_w1.out) Tryd.underlying22 cd) w B_w1.out B_w1.out.size (by have := HLE.out; simp; omega) ?_; intro v2 w2 hown2 hb2 hs2)
  obtain ⟨A7, c7, rfl, hc7, hgl7⟩ := OwnG.ret gR_len hown2
  have HR := Lib.hid (And.intro hgl7 hb2)
  clear hown2 hb2 hs2 hc7 hgl7
  go_wp2
  go_ret
  exact ⟨A7, c7, rfl, HR.out.1, HR.out.2⟩

set_option maxRecDepth 20000 in
set_option maxHeartbeats 4000000 in
theorem accessIncluded_walk20 (A : Option Addr) (cc : Nat) (xs : List Rl) (c u f n : ByteArray) (w : World) (hok : Okw w) (sl : RL w w.heap.size A xs) (hN : xs.length ≤ 140737488355328) (hz : ∀ x ∈ xs, x.us.size ≤ 9223372036854775807) :
    Calls Tryd.prog 9 #[.slice A xs.length cc, whV c u, .string f, .string n] w fun e w' => e = .returned (.bool true) ∧ Below w.heap.size w w' := by
  have HO := Lib.hid hok
  have HAW := Lib.hid (fun w1 h => awake20_any w1 h)
  have HC2 := Lib.hid (fun w1 h2 => rcheck_any A cc xs w1 h2 hN hz)
  have HCR := Lib.hid (@chkR_zero xs)
  generalize chkR xs = R at *
  have HLf := Lib.hid (fun w1 => light_any c u f w1)
  have HTf := Lib.hid (@light_iff c u f)
  generalize lightW c u f = blf at *
  have HLn := Lib.hid (fun w1 => light_any c u n w1)
  have HTn := Lib.hid (@light_iff c u n)
  generalize lightW c u n = bln at *
  have S_w := Lib.hid sl
  have HP1 := Lib.hid (fun w1 h h2 h3 h4 h5 => subs_any A cc xs c u f w1 h h2 hN h3 h4 h5)
  have HP2 := Lib.hid (fun w1 h h2 h3 h4 h5 => allowed_any A cc xs c u n 2 w1 h h2 hN h3 h4 h5)
  have HM := Lib.hid (fun w1 (h : n.size ≤ 140737488355328) => sMat_any f n w1 h)
  have HIN := Lib.hid (@incl xs c u f n)
  have HN1 := Lib.hid (fun w1 h h3 h4 => subs_any none 0 [] c u f w1 h (GL.nil _ _ _) (by decide) h3 h4 (fun x hx => by cases hx))
  have HN2 := Lib.hid (fun w1 h h3 h4 => allowed_any none 0 [] c u n 2 w1 h (GL.nil _ _ _) (by decide) h3 h4 (fun x hx => by cases hx))
  rw [subs_nil] at HN1
  rw [allow_nil] at HN2
  clear hok sl hz
  unfold whV
  go_enter Tryd.func9, Tryd.ntmps9
  go_upto_region 1 with fail
  refine name_world (C := fun w1 => Code.wp _ _ _ _ w1) (w.alloc (.cells ([.string c, .string u] : List Value).toArray 28)) ?_
  intro w1 hw1
  have hb1 : Below w.heap.size w w1 := by rw [hw1]; exact S2.below_new w _
  have V_w1 : Hid (BK 28 w1 w.heap.size [.string c, .string u]) := Lib.hid (by rw [hw1]; exact BK.new w _ _)
  have B_w1 := Lib.hid hb1
  have O_w1 := Lib.hid (HO.out.step hb1)
  have S_w1 := Lib.hid (GL.step S_w.out hb1)
  clear hw1 hb1 HO S_w
  go_wp2_with fail
  refine (HC2.out w1 S_w1.out).mono ?_
  rintro e y1 ⟨rfl, hb⟩
  have V_y1 : Hid (BK 28 y1 w.heap.size [.string c, .string u]) := Lib.hid (V_w1.out.step hb)
  have B_y1 : Hid (Below w.heap.size w y1) := Lib.hid (stepB B_w1.out hb)
  have O_y1 : Hid (Okw y1) := Lib.hid (O_w1.out.step hb)
  have S_y1 : Hid (RL y1 y1.heap.size A xs) := Lib.hid (GL.step S_w1.out hb)
  clear V_w1 B_w1 O_w1 S_w1
  clear hb
  by_cases hR0 : R = 0
  case neg =>
    have q1 : (R != 0) = true := by simp [hR0]
    clear hR0
    go_wp2_with fail
    refine (HAW.out y1 O_y1.out).mono ?_
    rintro e y2 ⟨rfl, hb⟩
    have V_y2 : Hid (BK 28 y2 w.heap.size [.string c, .string u]) := Lib.hid (V_y1.out.step hb)
    have B_y2 : Hid (Below w.heap.size w y2) := Lib.hid (stepB B_y1.out hb)
    have O_y2 : Hid (Okw y2) := Lib.hid (O_y1.out.step hb)
    have S_y2 : Hid (RL y2 y2.heap.size A xs) := Lib.hid (GL.step S_y1.out hb)
    clear V_y1 B_y1 O_y1 S_y1
    clear hb
    go_wp2_with fail
    go_ret
    exact ⟨rfl, B_y2.out⟩
  subst hR0
  obtain ⟨v1, v2⟩ := HCR.out (by first | exact rfl | trivial)
  have HV := Lib.hid (And.intro v1 v2)
  have HFZ : Hid (∀ x ∈ xs, x.fi.size ≤ 1000) := Lib.hid (fun x hx => by have := fil64 (ruleE_filter (v2 x hx)); omega)
  clear v1 v2 HCR HC2
  go_wp2_with first
    | (refine wpList_load_v (by rfl) 28 (.tmp 5) rfl ⟨w.heap.size, 0, none⟩ rfl (whV c u) (S2.run_load_all V_y1.out Tryd.underlying28 rfl whoSize) ?_)
  refine (HLf.out y1).mono ?_
  rintro e y2 ⟨rfl, hb⟩
  have V_y2 : Hid (BK 28 y2 w.heap.size [.string c, .string u]) := Lib.hid (V_y1.out.step hb)
  have B_y2 : Hid (Below w.heap.size w y2) := Lib.hid (stepB B_y1.out hb)
  have O_y2 : Hid (Okw y2) := Lib.hid (O_y1.out.step hb)
  have S_y2 : Hid (RL y2 y2.heap.size A xs) := Lib.hid (GL.step S_y1.out hb)
  clear V_y1 B_y1 O_y1 S_y1
  clear hb
  cases blf with
  | false =>
    go_wp2_with fail
    refine (HAW.out y2 O_y2.out).mono ?_
    rintro e y3 ⟨rfl, hb⟩
    have V_y3 : Hid (BK 28 y3 w.heap.size [.string c, .string u]) := Lib.hid (V_y2.out.step hb)
    have B_y3 : Hid (Below w.heap.size w y3) := Lib.hid (stepB B_y2.out hb)
    have O_y3 : Hid (Okw y3) := Lib.hid (O_y2.out.step hb)
    have S_y3 : Hid (RL y3 y3.heap.size A xs) := Lib.hid (GL.step S_y2.out hb)
    clear V_y2 B_y2 O_y2 S_y2
    clear hb
    go_wp2_with fail
    go_ret
    exact ⟨rfl, B_y3.out⟩
  | true =>
    go_wp2_with first
      | (refine wpList_load_v (by rfl) 28 (.tmp 5) rfl ⟨w.heap.size, 0, none⟩ rfl (whV c u) (S2.run_load_all V_y2.out Tryd.underlying28 rfl whoSize) ?_)
    refine (HLn.out y2).mono ?_
    rintro e y3 ⟨rfl, hb⟩
    have V_y3 : Hid (BK 28 y3 w.heap.size [.string c, .string u]) := Lib.hid (V_y2.out.step hb)
    have B_y3 : Hid (Below w.heap.size w y3) := Lib.hid (stepB B_y2.out hb)
    have O_y3 : Hid (Okw y3) := Lib.hid (O_y2.out.step hb)
    have S_y3 : Hid (RL y3 y3.heap.size A xs) := Lib.hid (GL.step S_y2.out hb)
    clear V_y2 B_y2 O_y2 S_y2
    clear hb
    cases bln with
    | false =>
      go_wp2_with fail
      refine (HAW.out y3 O_y3.out).mono ?_
      rintro e y4 ⟨rfl, hb⟩
      have V_y4 : Hid (BK 28 y4 w.heap.size [.string c, .string u]) := Lib.hid (V_y3.out.step hb)
      have B_y4 : Hid (Below w.heap.size w y4) := Lib.hid (stepB B_y3.out hb)
      have O_y4 : Hid (Okw y4) := Lib.hid (O_y3.out.step hb)
      have S_y4 : Hid (RL y4 y4.heap.size A xs) := Lib.hid (GL.step S_y3.out hb)
      clear V_y3 B_y3 O_y3 S_y3
      clear hb
      go_wp2_with fail
      go_ret
      exact ⟨rfl, B_y4.out⟩
    | true =>
      obtain ⟨l1, l2, l3⟩ := HTf.out.1 (by first | exact rfl | trivial)
      obtain ⟨_, _, l4⟩ := HTn.out.1 (by first | exact rfl | trivial)
      have HX1 := Lib.hid (fun w1 h h2 => HP1.out w1 h h2 l1 l2 HFZ.out)
      have HX2 := Lib.hid (fun w1 h h2 => HP2.out w1 h h2 l1 l2 HFZ.out)
      have HX3 := Lib.hid (fun w1 => HM.out w1 (by omega))
      have HY1 := Lib.hid (fun w1 h => HN1.out w1 h l1 l2)
      have HY2 := Lib.hid (fun w1 h => HN2.out w1 h l1 l2)
      clear l1 l2 l3 l4 HP1 HP2 HM HN1 HN2
      obtain ⟨bs_, hbs⟩ : ∃ z, subsR xs c u f = z := ⟨_, rfl⟩
      obtain ⟨bm, hbm⟩ : ∃ z, matchesL f n = z := ⟨_, rfl⟩
      rw [hbs] at HX1 HIN
      rw [hbm] at HX3 HIN
      clear hbs hbm
      go_wp2_with first
        | (refine wpList_load_v (by rfl) 28 (.tmp 5) rfl ⟨w.heap.size, 0, none⟩ rfl (whV c u) (S2.run_load_all V_y3.out Tryd.underlying28 rfl whoSize) ?_)
      refine (HX1.out y3 O_y3.out S_y3.out).mono ?_
      rintro e y4 ⟨rfl, hb⟩
      have V_y4 : Hid (BK 28 y4 w.heap.size [.string c, .string u]) := Lib.hid (V_y3.out.step hb)
      have B_y4 : Hid (Below w.heap.size w y4) := Lib.hid (stepB B_y3.out hb)
      have O_y4 : Hid (Okw y4) := Lib.hid (O_y3.out.step hb)
      have S_y4 : Hid (RL y4 y4.heap.size A xs) := Lib.hid (GL.step S_y3.out hb)
      clear V_y3 B_y3 O_y3 S_y3
      clear hb
      cases bs_ with
      | false =>
        go_wp2_with fail
        refine (HAW.out y4 O_y4.out).mono ?_
        rintro e y5 ⟨rfl, hb⟩
        have V_y5 : Hid (BK 28 y5 w.heap.size [.string c, .string u]) := Lib.hid (V_y4.out.step hb)
        have B_y5 : Hid (Below w.heap.size w y5) := Lib.hid (stepB B_y4.out hb)
        have O_y5 : Hid (Okw y5) := Lib.hid (O_y4.out.step hb)
        have S_y5 : Hid (RL y5 y5.heap.size A xs) := Lib.hid (GL.step S_y4.out hb)
        clear V_y4 B_y4 O_y4 S_y4
        clear hb
        go_wp2_with first
          | (refine wpList_load_v (by rfl) 28 (.tmp 5) rfl ⟨w.heap.size, 0, none⟩ rfl (whV c u) (S2.run_load_all V_y5.out Tryd.underlying28 rfl whoSize) ?_)
        refine (HY1.out y5 O_y5.out).mono ?_
        rintro e y6 ⟨rfl, hb⟩
        have V_y6 : Hid (BK 28 y6 w.heap.size [.string c, .string u]) := Lib.hid (V_y5.out.step hb)
        have B_y6 : Hid (Below w.heap.size w y6) := Lib.hid (stepB B_y5.out hb)
        have O_y6 : Hid (Okw y6) := Lib.hid (O_y5.out.step hb)
        have S_y6 : Hid (RL y6 y6.heap.size A xs) := Lib.hid (GL.step S_y5.out hb)
        clear V_y5 B_y5 O_y5 S_y5
        clear hb
        go_wp2_with first
          | (refine wpList_load_v (by rfl) 28 (.tmp 5) rfl ⟨w.heap.size, 0, none⟩ rfl (whV c u) (S2.run_load_all V_y6.out Tryd.underlying28 rfl whoSize) ?_)
        refine (HY2.out y6 O_y6.out).mono ?_
        rintro e y7 ⟨rfl, hb⟩
        have V_y7 : Hid (BK 28 y7 w.heap.size [.string c, .string u]) := Lib.hid (V_y6.out.step hb)
        have B_y7 : Hid (Below w.heap.size w y7) := Lib.hid (stepB B_y6.out hb)
        have O_y7 : Hid (Okw y7) := Lib.hid (O_y6.out.step hb)
        have S_y7 : Hid (RL y7 y7.heap.size A xs) := Lib.hid (GL.step S_y6.out hb)
        clear V_y6 B_y6 O_y6 S_y6
        clear hb
        go_wp2_with fail
        go_ret
        exact ⟨rfl, B_y7.out⟩
      | true =>
        go_wp2_with fail
        refine (HX3.out y4).mono ?_
        rintro e y5 ⟨rfl, hb⟩
        have V_y5 : Hid (BK 28 y5 w.heap.size [.string c, .string u]) := Lib.hid (V_y4.out.step hb)
        have B_y5 : Hid (Below w.heap.size w y5) := Lib.hid (stepB B_y4.out hb)
        have O_y5 : Hid (Okw y5) := Lib.hid (O_y4.out.step hb)
        have S_y5 : Hid (RL y5 y5.heap.size A xs) := Lib.hid (GL.step S_y4.out hb)
        clear V_y4 B_y4 O_y4 S_y4
        clear hb
        cases bm with
        | false =>
          go_wp2_with fail
          refine (HAW.out y5 O_y5.out).mono ?_
          rintro e y6 ⟨rfl, hb⟩
          have V_y6 : Hid (BK 28 y6 w.heap.size [.string c, .string u]) := Lib.hid (V_y5.out.step hb)
          have B_y6 : Hid (Below w.heap.size w y6) := Lib.hid (stepB B_y5.out hb)
          have O_y6 : Hid (Okw y6) := Lib.hid (O_y5.out.step hb)
          have S_y6 : Hid (RL y6 y6.heap.size A xs) := Lib.hid (GL.step S_y5.out hb)
          clear V_y5 B_y5 O_y5 S_y5
          clear hb
          go_wp2_with first
            | (refine wpList_load_v (by rfl) 28 (.tmp 5) rfl ⟨w.heap.size, 0, none⟩ rfl (whV c u) (S2.run_load_all V_y6.out Tryd.underlying28 rfl whoSize) ?_)
          refine (HY1.out y6 O_y6.out).mono ?_
          rintro e y7 ⟨rfl, hb⟩
          have V_y7 : Hid (BK 28 y7 w.heap.size [.string c, .string u]) := Lib.hid (V_y6.out.step hb)
          have B_y7 : Hid (Below w.heap.size w y7) := Lib.hid (stepB B_y6.out hb)
          have O_y7 : Hid (Okw y7) := Lib.hid (O_y6.out.step hb)
          have S_y7 : Hid (RL y7 y7.heap.size A xs) := Lib.hid (GL.step S_y6.out hb)
          clear V_y6 B_y6 O_y6 S_y6
          clear hb
          go_wp2_with first
            | (refine wpList_load_v (by rfl) 28 (.tmp 5) rfl ⟨w.heap.size, 0, none⟩ rfl (whV c u) (S2.run_load_all V_y7.out Tryd.underlying28 rfl whoSize) ?_)
          refine (HY2.out y7 O_y7.out).mono ?_
          rintro e y8 ⟨rfl, hb⟩
          have V_y8 : Hid (BK 28 y8 w.heap.size [.string c, .string u]) := Lib.hid (V_y7.out.step hb)
          have B_y8 : Hid (Below w.heap.size w y8) := Lib.hid (stepB B_y7.out hb)
          have O_y8 : Hid (Okw y8) := Lib.hid (O_y7.out.step hb)
          have S_y8 : Hid (RL y8 y8.heap.size A xs) := Lib.hid (GL.step S_y7.out hb)
          clear V_y7 B_y7 O_y7 S_y7
          clear hb
          go_wp2_with fail
          go_ret
          exact ⟨rfl, B_y8.out⟩
        | true =>
          rw [HIN.out (by first | exact rfl | trivial) (by first | exact rfl | trivial)] at HX2
          go_wp2_with fail
          refine (HAW.out y5 O_y5.out).mono ?_
          rintro e y6 ⟨rfl, hb⟩
          have V_y6 : Hid (BK 28 y6 w.heap.size [.string c, .string u]) := Lib.hid (V_y5.out.step hb)
          have B_y6 : Hid (Below w.heap.size w y6) := Lib.hid (stepB B_y5.out hb)
          have O_y6 : Hid (Okw y6) := Lib.hid (O_y5.out.step hb)
          have S_y6 : Hid (RL y6 y6.heap.size A xs) := Lib.hid (GL.step S_y5.out hb)
          clear V_y5 B_y5 O_y5 S_y5
          clear hb
          go_wp2_with first
            | (refine wpList_load_v (by rfl) 28 (.tmp 5) rfl ⟨w.heap.size, 0, none⟩ rfl (whV c u) (S2.run_load_all V_y6.out Tryd.underlying28 rfl whoSize) ?_)
          refine (HX2.out y6 O_y6.out S_y6.out).mono ?_
          rintro e y7 ⟨rfl, hb⟩
          have V_y7 : Hid (BK 28 y7 w.heap.size [.string c, .string u]) := Lib.hid (V_y6.out.step hb)
          have B_y7 : Hid (Below w.heap.size w y7) := Lib.hid (stepB B_y6.out hb)
          have O_y7 : Hid (Okw y7) := Lib.hid (O_y6.out.step hb)
          have S_y7 : Hid (RL y7 y7.heap.size A xs) := Lib.hid (GL.step S_y6.out hb)
          clear V_y6 B_y6 O_y6 S_y6
          clear hb
          go_wp2_with fail
          go_ret
          exact ⟨rfl, B_y7.out⟩

set_option maxRecDepth 20000 in
set_option maxHeartbeats 4000000 in
theorem accessNever_walk20 (A : Option Addr) (cc : Nat) (xs : List Rl) (c u : ByteArray) (ac : Int) (o f : ByteArray) (w : World) (hok : Okw w) (sl : RL w w.heap.size A xs) (hN : xs.length ≤ 140737488355328) (hz : ∀ x ∈ xs, x.us.size ≤ 9223372036854775807) (hcc : xs.length ≤ cc) :
    Calls Tryd.prog 8 #[.slice A xs.length cc, whV c u, .int .i64 ac, .string o, .string f] w fun e w' => e = .returned (.bool true) ∧ Below w.heap.size w w' := by
  have HO := Lib.hid hok
  have HAW := Lib.hid (fun w1 h => awake20_any w1 h)
  have HC2 := Lib.hid (fun w1 h2 => rcheck_any A cc xs w1 h2 hN hz)
  have HCR := Lib.hid (@chkR_zero xs)
  generalize chkR xs = R at *
  have HLo := Lib.hid (fun w1 => light_any c u o w1)
  have HTo := Lib.hid (@light_iff c u o)
  generalize lightW c u o = blo at *
  have HLf := Lib.hid (fun w1 => light_any c u f w1)
  have HTf := Lib.hid (@light_iff c u f)
  generalize lightW c u f = blf at *
  have S_w := Lib.hid sl
  have HCC := Lib.hid hcc
  have HAL := Lib.hid (fun A cc (zs : List Rl) w1 h h2 hN h3 h4 h5 => allowed_any A cc zs c u o ac w1 h h2 hN h3 h4 h5)
  have HSB := Lib.hid (fun A cc (zs : List Rl) w1 h h2 hN h3 h4 h5 => subs_any A cc zs c u f w1 h h2 hN h3 h4 h5)
  clear hok sl hz hN hcc
  unfold whV
  go_enter Tryd.func8, Tryd.ntmps8
  go_upto_region 1 with fail
  refine name_world (C := fun w1 => Code.wp _ _ _ _ w1) (w.alloc (.cells ([.string c, .string u] : List Value).toArray 28)) ?_
  intro w1 hw1
  have hb1 : Below w.heap.size w w1 := by rw [hw1]; exact S2.below_new w _
  have V_w1 : Hid (BK 28 w1 w.heap.size [.string c, .string u]) := Lib.hid (by rw [hw1]; exact BK.new w _ _)
  have B_w1 := Lib.hid hb1
  have O_w1 := Lib.hid (HO.out.step hb1)
  have S_w1 := Lib.hid (GL.step S_w.out hb1)
  clear hw1 hb1 HO S_w
  go_wp2_with fail
  refine (HC2.out w1 S_w1.out).mono ?_
  rintro e y1 ⟨rfl, hb⟩
  have V_y1 : Hid (BK 28 y1 w.heap.size [.string c, .string u]) := Lib.hid (V_w1.out.step hb)
  have B_y1 : Hid (Below w.heap.size w y1) := Lib.hid (stepB B_w1.out hb)
  have O_y1 : Hid (Okw y1) := Lib.hid (O_w1.out.step hb)
  have S_y1 : Hid (RL y1 y1.heap.size A xs) := Lib.hid (GL.step S_w1.out hb)
  clear V_w1 B_w1 O_w1 S_w1
  clear hb
  by_cases hR0 : R = 0
  case neg =>
    have q1 : (R != 0) = true := by simp [hR0]
    clear hR0
    go_wp2_with fail
    refine (HAW.out y1 O_y1.out).mono ?_
    rintro e y2 ⟨rfl, hb⟩
    have V_y2 : Hid (BK 28 y2 w.heap.size [.string c, .string u]) := Lib.hid (V_y1.out.step hb)
    have B_y2 : Hid (Below w.heap.size w y2) := Lib.hid (stepB B_y1.out hb)
    have O_y2 : Hid (Okw y2) := Lib.hid (O_y1.out.step hb)
    have S_y2 : Hid (RL y2 y2.heap.size A xs) := Lib.hid (GL.step S_y1.out hb)
    clear V_y1 B_y1 O_y1 S_y1
    clear hb
    go_wp2_with fail
    go_ret
    exact ⟨rfl, B_y2.out⟩
  subst hR0
  obtain ⟨v1, v2⟩ := HCR.out (by first | exact rfl | trivial)
  have HV := Lib.hid (And.intro v1 v2)
  have HFZ : Hid (∀ x ∈ xs, x.fi.size ≤ 1000) := Lib.hid (fun x hx => by have := fil64 (ruleE_filter (v2 x hx)); omega)
  clear v1 v2 HCR HC2
  go_wp2_with first
    | (refine wpList_load_v (by rfl) 28 (.tmp 6) rfl ⟨w.heap.size, 0, none⟩ rfl (whV c u) (S2.run_load_all V_y1.out Tryd.underlying28 rfl whoSize) ?_)
  refine (HLo.out y1).mono ?_
  rintro e y2 ⟨rfl, hb⟩
  have V_y2 : Hid (BK 28 y2 w.heap.size [.string c, .string u]) := Lib.hid (V_y1.out.step hb)
  have B_y2 : Hid (Below w.heap.size w y2) := Lib.hid (stepB B_y1.out hb)
  have O_y2 : Hid (Okw y2) := Lib.hid (O_y1.out.step hb)
  have S_y2 : Hid (RL y2 y2.heap.size A xs) := Lib.hid (GL.step S_y1.out hb)
  clear V_y1 B_y1 O_y1 S_y1
  clear hb
  cases blo with
  | false =>
    go_wp2_with fail
    refine (HAW.out y2 O_y2.out).mono ?_
    rintro e y3 ⟨rfl, hb⟩
    have V_y3 : Hid (BK 28 y3 w.heap.size [.string c, .string u]) := Lib.hid (V_y2.out.step hb)
    have B_y3 : Hid (Below w.heap.size w y3) := Lib.hid (stepB B_y2.out hb)
    have O_y3 : Hid (Okw y3) := Lib.hid (O_y2.out.step hb)
    have S_y3 : Hid (RL y3 y3.heap.size A xs) := Lib.hid (GL.step S_y2.out hb)
    clear V_y2 B_y2 O_y2 S_y2
    clear hb
    go_wp2_with fail
    go_ret
    exact ⟨rfl, B_y3.out⟩
  | true =>
    go_wp2_with first
      | (refine wpList_load_v (by rfl) 28 (.tmp 6) rfl ⟨w.heap.size, 0, none⟩ rfl (whV c u) (S2.run_load_all V_y2.out Tryd.underlying28 rfl whoSize) ?_)
    refine (HLf.out y2).mono ?_
    rintro e y3 ⟨rfl, hb⟩
    have V_y3 : Hid (BK 28 y3 w.heap.size [.string c, .string u]) := Lib.hid (V_y2.out.step hb)
    have B_y3 : Hid (Below w.heap.size w y3) := Lib.hid (stepB B_y2.out hb)
    have O_y3 : Hid (Okw y3) := Lib.hid (O_y2.out.step hb)
    have S_y3 : Hid (RL y3 y3.heap.size A xs) := Lib.hid (GL.step S_y2.out hb)
    clear V_y2 B_y2 O_y2 S_y2
    clear hb
    cases blf with
    | false =>
      go_wp2_with fail
      refine (HAW.out y3 O_y3.out).mono ?_
      rintro e y4 ⟨rfl, hb⟩
      have V_y4 : Hid (BK 28 y4 w.heap.size [.string c, .string u]) := Lib.hid (V_y3.out.step hb)
      have B_y4 : Hid (Below w.heap.size w y4) := Lib.hid (stepB B_y3.out hb)
      have O_y4 : Hid (Okw y4) := Lib.hid (O_y3.out.step hb)
      have S_y4 : Hid (RL y4 y4.heap.size A xs) := Lib.hid (GL.step S_y3.out hb)
      clear V_y3 B_y3 O_y3 S_y3
      clear hb
      go_wp2_with fail
      go_ret
      exact ⟨rfl, B_y4.out⟩
    | true =>
      obtain ⟨l1, l2, l3⟩ := HTo.out.1 (by first | exact rfl | trivial)
      have HLT := Lib.hid (And.intro l1 l2)
      clear l1 l2 l3
      have hn32 := HV.out.1
      have HX1 := Lib.hid (fun w1 h h2 => shadowed_any A cc xs w1 h h2 HCC.out (by omega) HFZ.out)
      have HME : Hid (∀ n ∈ shdw shadR xs xs.length, ∃ j : Nat, n = (j : Int) ∧ 1 ≤ j ∧ j < xs.length ∧ shAt hidR xs j = true) := Lib.hid (fun n hn => by
        obtain ⟨j, e, hj⟩ := shdw_mem hn
        rw [shAt_same (fun x hx => ruleE_filter (HV.out.2 x hx))] at hj
        exact ⟨j, e, (shAt_pos hj).1, (shAt_pos hj).2, hj⟩)
      have HLD : Hid ((shdw shadR xs xs.length).length ≤ 1000000) := Lib.hid (by have := shdw_le shadR xs xs.length; omega)
      generalize shdw shadR xs xs.length = D at *
      go_wp2_with fail
      refine (HX1.out y3 O_y3.out S_y3.out).mono ?_
      rintro e y4 ⟨AI, cI, rfl, _, hi1, hb⟩
      have V_y4 : Hid (BK 28 y4 w.heap.size [.string c, .string u]) := Lib.hid (V_y3.out.step hb)
      have B_y4 : Hid (Below w.heap.size w y4) := Lib.hid (stepB B_y3.out hb)
      have O_y4 : Hid (Okw y4) := Lib.hid (O_y3.out.step hb)
      have S_y4 : Hid (RL y4 y4.heap.size A xs) := Lib.hid (GL.step S_y3.out hb)
      clear V_y3 B_y3 O_y3 S_y3
      have I_y4 := Lib.hid hi1
      clear hi1
      clear hb
      clear HX1
      go_wp2_with fail
      go_loopg [12] D.length (fun g v wr => ∃ k : Nat, k + g = D.length ∧ v = .int .i64 k ∧ BK 28 wr w.heap.size [.string c, .string u] ∧ Below w.heap.size w wr ∧ Okw wr ∧ RL wr wr.heap.size A xs ∧ S2.IL wr wr.heap.size AI D)
      case atStart => exact ⟨0, by omega, rfl, V_y4.out, B_y4.out, O_y4.out, S_y4.out, I_y4.out⟩
      case round =>
        obtain ⟨k, hkg, rfl, hv, hb0, ho0, hs0, hi0⟩ := hrel
        have V_wr := Lib.hid hv
        have B_wr := Lib.hid hb0
        have O_wr := Lib.hid ho0
        have S_wr := Lib.hid hs0
        have I_wr := Lib.hid hi0
        have HG := Lib.hid hkg
        clear hv hb0 ho0 hs0 hi0 V_y4 B_y4 O_y4 S_y4 I_y4
        cases gk with
        | zero =>
          obtain rfl : k = D.length := by omega
          clear hkg
          go_wp2_with fail
          refine (HAW.out wr O_wr.out).mono ?_
          rintro e z1 ⟨rfl, hb⟩
          have V_z1 : Hid (BK 28 z1 w.heap.size [.string c, .string u]) := Lib.hid (V_wr.out.step hb)
          have B_z1 : Hid (Below w.heap.size w z1) := Lib.hid (stepB B_wr.out hb)
          have O_z1 : Hid (Okw z1) := Lib.hid (O_wr.out.step hb)
          have S_z1 : Hid (RL z1 z1.heap.size A xs) := Lib.hid (GL.step S_wr.out hb)
          have I_z1 : Hid (S2.IL z1 z1.heap.size AI D) := Lib.hid (CL.step I_wr.out hb)
          clear V_wr B_wr O_wr S_wr I_wr
          clear hb
          go_wp2_with fail
          go_ret
          exact ⟨rfl, B_z1.out⟩
        | succ gk =>
          have hlt : k < D.length := by omega
          have e3 : decide ((k : Int) < (D.length : Int)) = true := decide_eq_true (by omega)
          have e3' : decide (k < D.length) = true := decide_eq_true hlt
          obtain ⟨m, hm⟩ : ∃ m, D[k]? = some m := ⟨_, List.getElem?_eq_getElem hlt⟩
          obtain ⟨j, rfl, hj1, hj2, hjs⟩ := HME.out m (List.mem_of_getElem? hm)
          obtain ⟨b, o2, hA, hbB, hcl⟩ := S2.IL.at_ I_wr.out hm
          subst hA
          have hkb : k ≤ 1000000 := by have := HLD.out; omega
          have i1 : (0 : Int) ≤ (k : Int) := by omega
          have i2 : (k : Int) < (D.length : Int) := by omega
          have i3 : decide ((j : Int) < 1) = false := decide_eq_false (by omega)
          have i3' : decide (j < 1) = false := decide_eq_false (by omega)
          have i4 : decide ((xs.length : Int) ≤ (j : Int)) = false := decide_eq_false (by omega)
          have i4' : decide (xs.length ≤ j) = false := decide_eq_false (by omega)
          have HWI := Lib.hid (fun w1 h => without_any A cc xs j w1 h HCC.out hj2 (by omega))
          obtain ⟨rs, hrs⟩ : ∃ rs, xs.take j ++ xs.drop (j + 1) = rs := ⟨_, rfl⟩
          have HRS : Hid (rs.length ≤ 1000000 ∧ ∀ x ∈ rs, x.fi.size ≤ 1000) := Lib.hid (by
            rw [← hrs]
            refine ⟨by rw [List.length_append, List.length_take, List.length_drop]; omega, fun x hx => ?_⟩
            rcases List.mem_append.1 hx with hx | hx
            · exact HFZ.out x (List.mem_of_mem_take hx)
            · exact HFZ.out x (List.mem_of_mem_drop hx))
          have HE1 : Hid (allowR rs c u ac o = allowR xs c u ac o) := Lib.hid (by rw [← hrs]; exact allow_erase hjs c u ac o)
          have HE2 : Hid (subsR rs c u f = subsR xs c u f) := Lib.hid (by rw [← hrs]; exact subs_erase hjs c u f)
          rw [hrs] at HWI
          have HA1 := Lib.hid (fun A7 c7 w1 h h2 => HAL.out A7 c7 rs w1 h h2 (by have := HRS.out.1; omega) HLT.out.1 HLT.out.2 HRS.out.2)
          have HA2 := Lib.hid (fun w1 h h2 => HAL.out A cc xs w1 h h2 (by omega) HLT.out.1 HLT.out.2 HFZ.out)
          have HB1 := Lib.hid (fun A7 c7 w1 h h2 => HSB.out A7 c7 rs w1 h h2 (by have := HRS.out.1; omega) HLT.out.1 HLT.out.2 HRS.out.2)
          have HB2 := Lib.hid (fun w1 h h2 => HSB.out A cc xs w1 h h2 (by omega) HLT.out.1 HLT.out.2 HFZ.out)
          rw [HE1.out] at HA1
          rw [HE2.out] at HB1
          generalize allowR xs c u ac o = ra at HA1 HA2
          generalize subsR xs c u f = rb at HB1 HB2
          clear hm hjs hrs hbB hkg hlt hj1 hj2 HE1 HE2
          go_wp2_with fail
          refine (HWI.out wr S_wr.out).mono ?_
          rintro e z1 ⟨A7, c7, rfl, hr1, hb⟩
          have V_z1 : Hid (BK 28 z1 w.heap.size [.string c, .string u]) := Lib.hid (V_wr.out.step hb)
          have B_z1 : Hid (Below w.heap.size w z1) := Lib.hid (stepB B_wr.out hb)
          have O_z1 : Hid (Okw z1) := Lib.hid (O_wr.out.step hb)
          have S_z1 : Hid (RL z1 z1.heap.size A xs) := Lib.hid (GL.step S_wr.out hb)
          have I_z1 : Hid (S2.IL z1 z1.heap.size (some ⟨b, o2, none⟩) D) := Lib.hid (CL.step I_wr.out hb)
          clear V_wr B_wr O_wr S_wr I_wr
          clear i1 i2 i3 i3' i4 i4' hcl
          have T_z1 := Lib.hid hr1
          clear hr1
          clear hb
          clear HWI
          go_upto_region 10 with fail
          obtain ⟨z2, hz2⟩ : ∃ z2, z2 = World.drew z1 := ⟨_, rfl⟩
          have hbD : Below z1.heap.size z1 z2 := by rw [hz2]; exact (Below.refl _ _).drew
          have V_z2 : Hid (BK 28 z2 w.heap.size [.string c, .string u]) := Lib.hid (V_z1.out.step hbD)
          have B_z2 : Hid (Below w.heap.size w z2) := Lib.hid (stepB B_z1.out hbD)
          have O_z2 : Hid (Okw z2) := Lib.hid (O_z1.out.step hbD)
          have S_z2 : Hid (RL z2 z2.heap.size A xs) := Lib.hid (GL.step S_z1.out hbD)
          have I_z2 : Hid (S2.IL z2 z2.heap.size (some ⟨b, o2, none⟩) D) := Lib.hid (CL.step I_z1.out hbD)
          have T_z2 : Hid (RL z2 z2.heap.size A7 rs) := Lib.hid (GL.step T_z1.out hbD)
          clear V_z1 B_z1 O_z1 S_z1 I_z1 T_z1
          have hbd : (fun w' => BK 28 w' w.heap.size [.string c, .string u]) (World.drew z1) := by rw [← hz2]; exact V_z2.out
          have hSD : (fun w' => BK 28 w' w.heap.size [.string c, .string u]) z2 := V_z2.out
          have HWD := Lib.hid hz2
          clear hz2 hbD
          refine wp_region_held_drew (S := fun w' => BK 28 w' w.heap.size [.string c, .string u]) (by kernel_rfl) hbd (fun hHeld => ?_)
          rw [← HWD.out]
          clear hHeld
          have hHeld := hSD
          clear hSD hbd HWD
          refine wpAnyH_take (i := 0) (v := .slice A7 rs.length c7) (get_ops _ _ _ rfl) (by kernel_rfl) (by kernel_rfl) (by kernel_rfl) (fun _ _ _ h => h) (Or.inl ⟨by rfl, fun wS hSw => by (try dsimp only at hSw); go_simp⟩) hHeld ?_
          try simp only [Act.put, List.setIfInBounds_toArray, List.set_cons_zero, List.set_cons_succ]
          refine wpAnyH_take (i := 1) (v := (whV c u)) (get_ops _ _ _ rfl) (by kernel_rfl) (by kernel_rfl) (by kernel_rfl) (fun _ _ _ h => h) (Or.inl ⟨by rfl, fun wS hSw => by (try dsimp only at hSw); exact exec_load 28 _ rfl ⟨w.heap.size, 0, none⟩ (by go_simp) _ (S2.run_load_all (vs := [.string c, .string u]) hSw Tryd.underlying28 rfl whoSize)⟩) hHeld ?_
          try simp only [Act.put, List.setIfInBounds_toArray, List.set_cons_zero, List.set_cons_succ]
          refine wpAnyH_take (i := 2) (v := .int .i64 ac) (get_ops _ _ _ rfl) (by kernel_rfl) (by kernel_rfl) (by kernel_rfl) (fun _ _ _ h => h) (Or.inl ⟨by rfl, fun wS hSw => by (try dsimp only at hSw); go_simp⟩) hHeld ?_
          try simp only [Act.put, List.setIfInBounds_toArray, List.set_cons_zero, List.set_cons_succ]
          refine wpAnyH_take (i := 3) (v := .string o) (get_ops _ _ _ rfl) (by kernel_rfl) (by kernel_rfl) (by kernel_rfl) (fun _ _ _ h => h) (Or.inl ⟨by rfl, fun wS hSw => by (try dsimp only at hSw); go_simp⟩) hHeld ?_
          try simp only [Act.put, List.setIfInBounds_toArray, List.set_cons_zero, List.set_cons_succ]
          refine wpAnyH_take (i := 5) (v := .slice A xs.length cc) (get_ops _ _ _ rfl) (by kernel_rfl) (by kernel_rfl) (by kernel_rfl) (fun _ _ _ h => h) (Or.inl ⟨by rfl, fun wS hSw => by (try dsimp only at hSw); go_simp⟩) hHeld ?_
          try simp only [Act.put, List.setIfInBounds_toArray, List.set_cons_zero, List.set_cons_succ]
          refine wpAnyH_take (i := 6) (v := (whV c u)) (get_ops _ _ _ rfl) (by kernel_rfl) (by kernel_rfl) (by kernel_rfl) (fun _ _ _ h => h) (Or.inl ⟨by rfl, fun wS hSw => by (try dsimp only at hSw); exact exec_load 28 _ rfl ⟨w.heap.size, 0, none⟩ (by go_simp) _ (S2.run_load_all (vs := [.string c, .string u]) hSw Tryd.underlying28 rfl whoSize)⟩) hHeld ?_
          try simp only [Act.put, List.setIfInBounds_toArray, List.set_cons_zero, List.set_cons_succ]
          refine wpAnyH_take (i := 7) (v := .int .i64 ac) (get_ops _ _ _ rfl) (by kernel_rfl) (by kernel_rfl) (by kernel_rfl) (fun _ _ _ h => h) (Or.inl ⟨by rfl, fun wS hSw => by (try dsimp only at hSw); go_simp⟩) hHeld ?_
          try simp only [Act.put, List.setIfInBounds_toArray, List.set_cons_zero, List.set_cons_succ]
          refine wpAnyH_take (i := 8) (v := .string o) (get_ops _ _ _ rfl) (by kernel_rfl) (by kernel_rfl) (by kernel_rfl) (fun _ _ _ h => h) (Or.inl ⟨by rfl, fun wS hSw => by (try dsimp only at hSw); go_simp⟩) hHeld ?_
          try simp only [Act.put, List.setIfInBounds_toArray, List.set_cons_zero, List.set_cons_succ]
          refine wpAnyH_ready (rs := [4]) (by kernel_rfl) (by simp) ?_
          refine (AllReadyH.cons (get_ops _ _ _ rfl) (fun K hK => ?_) AllReadyH.nil)
          go_simp
          refine (HA1.out A7 c7 z2 O_z2.out T_z2.out).mono ?_
          rintro e z3 ⟨rfl, hb⟩
          have V_z3 : Hid (BK 28 z3 w.heap.size [.string c, .string u]) := Lib.hid (V_z2.out.step hb)
          have B_z3 : Hid (Below w.heap.size w z3) := Lib.hid (stepB B_z2.out hb)
          have O_z3 : Hid (Okw z3) := Lib.hid (O_z2.out.step hb)
          have S_z3 : Hid (RL z3 z3.heap.size A xs) := Lib.hid (GL.step S_z2.out hb)
          have I_z3 : Hid (S2.IL z3 z3.heap.size (some ⟨b, o2, none⟩) D) := Lib.hid (CL.step I_z2.out hb)
          have T_z3 : Hid (RL z3 z3.heap.size A7 rs) := Lib.hid (GL.step T_z2.out hb)
          clear V_z2 B_z2 O_z2 S_z2 I_z2 T_z2
          clear hHeld hb
          go_wp2_with fail
          refine hK.out _ _ V_z3.out (fun hHeld => ?_)
          clear hK K
          try simp only [Act.put, List.setIfInBounds_toArray, List.set_cons_zero, List.set_cons_succ]
          refine wpAnyH_ready (rs := [9]) (by kernel_rfl) (by simp) ?_
          refine (AllReadyH.cons (get_ops _ _ _ rfl) (fun K hK => ?_) AllReadyH.nil)
          go_simp
          refine (HA2.out z3 O_z3.out S_z3.out).mono ?_
          rintro e z4 ⟨rfl, hb⟩
          have V_z4 : Hid (BK 28 z4 w.heap.size [.string c, .string u]) := Lib.hid (V_z3.out.step hb)
          have B_z4 : Hid (Below w.heap.size w z4) := Lib.hid (stepB B_z3.out hb)
          have O_z4 : Hid (Okw z4) := Lib.hid (O_z3.out.step hb)
          have S_z4 : Hid (RL z4 z4.heap.size A xs) := Lib.hid (GL.step S_z3.out hb)
          have I_z4 : Hid (S2.IL z4 z4.heap.size (some ⟨b, o2, none⟩) D) := Lib.hid (CL.step I_z3.out hb)
          have T_z4 : Hid (RL z4 z4.heap.size A7 rs) := Lib.hid (GL.step T_z3.out hb)
          clear V_z3 B_z3 O_z3 S_z3 I_z3 T_z3
          clear hHeld hb
          go_wp2_with fail
          refine hK.out _ _ V_z4.out (fun hHeld => ?_)
          clear hK K
          try simp only [Act.put, List.setIfInBounds_toArray, List.set_cons_zero, List.set_cons_succ]
          refine wpAnyH_take (i := 10) (v := .bool false) (get_ops _ _ _ rfl) (by kernel_rfl) (by kernel_rfl) (by kernel_rfl) (fun _ _ _ h => h) (Or.inl ⟨by rfl, fun wS hSw => by (try dsimp only at hSw); cases ra <;> go_simp⟩) hHeld ?_
          try simp only [Act.put, List.setIfInBounds_toArray, List.set_cons_zero, List.set_cons_succ]
          refine wpAnyH_take (i := 11) (v := .bool false) (get_ops _ _ _ rfl) (by kernel_rfl) (by kernel_rfl) (by kernel_rfl) (fun _ _ _ h => h) (Or.inl ⟨by rfl, fun wS hSw => by (try dsimp only at hSw); go_simp⟩) hHeld ?_
          try simp only [Act.put, List.setIfInBounds_toArray, List.set_cons_zero, List.set_cons_succ]
          refine wpAnyH_take (i := 12) (v := .slice A7 rs.length c7) (get_ops _ _ _ rfl) (by kernel_rfl) (by kernel_rfl) (by kernel_rfl) (fun _ _ _ h => h) (Or.inl ⟨by rfl, fun wS hSw => by (try dsimp only at hSw); go_simp⟩) hHeld ?_
          try simp only [Act.put, List.setIfInBounds_toArray, List.set_cons_zero, List.set_cons_succ]
          refine wpAnyH_take (i := 13) (v := (whV c u)) (get_ops _ _ _ rfl) (by kernel_rfl) (by kernel_rfl) (by kernel_rfl) (fun _ _ _ h => h) (Or.inl ⟨by rfl, fun wS hSw => by (try dsimp only at hSw); exact exec_load 28 _ rfl ⟨w.heap.size, 0, none⟩ (by go_simp) _ (S2.run_load_all (vs := [.string c, .string u]) hSw Tryd.underlying28 rfl whoSize)⟩) hHeld ?_
          try simp only [Act.put, List.setIfInBounds_toArray, List.set_cons_zero, List.set_cons_succ]
          refine wpAnyH_take (i := 14) (v := .string f) (get_ops _ _ _ rfl) (by kernel_rfl) (by kernel_rfl) (by kernel_rfl) (fun _ _ _ h => h) (Or.inl ⟨by rfl, fun wS hSw => by (try dsimp only at hSw); go_simp⟩) hHeld ?_
          try simp only [Act.put, List.setIfInBounds_toArray, List.set_cons_zero, List.set_cons_succ]
          refine wpAnyH_take (i := 16) (v := .slice A xs.length cc) (get_ops _ _ _ rfl) (by kernel_rfl) (by kernel_rfl) (by kernel_rfl) (fun _ _ _ h => h) (Or.inl ⟨by rfl, fun wS hSw => by (try dsimp only at hSw); go_simp⟩) hHeld ?_
          try simp only [Act.put, List.setIfInBounds_toArray, List.set_cons_zero, List.set_cons_succ]
          refine wpAnyH_take (i := 17) (v := (whV c u)) (get_ops _ _ _ rfl) (by kernel_rfl) (by kernel_rfl) (by kernel_rfl) (fun _ _ _ h => h) (Or.inl ⟨by rfl, fun wS hSw => by (try dsimp only at hSw); exact exec_load 28 _ rfl ⟨w.heap.size, 0, none⟩ (by go_simp) _ (S2.run_load_all (vs := [.string c, .string u]) hSw Tryd.underlying28 rfl whoSize)⟩) hHeld ?_
          try simp only [Act.put, List.setIfInBounds_toArray, List.set_cons_zero, List.set_cons_succ]
          refine wpAnyH_take (i := 18) (v := .string f) (get_ops _ _ _ rfl) (by kernel_rfl) (by kernel_rfl) (by kernel_rfl) (fun _ _ _ h => h) (Or.inl ⟨by rfl, fun wS hSw => by (try dsimp only at hSw); go_simp⟩) hHeld ?_
          try simp only [Act.put, List.setIfInBounds_toArray, List.set_cons_zero, List.set_cons_succ]
          refine wpAnyH_ready (rs := [15]) (by kernel_rfl) (by simp) ?_
          refine (AllReadyH.cons (get_ops _ _ _ rfl) (fun K hK => ?_) AllReadyH.nil)
          go_simp
          refine (HB1.out A7 c7 z4 O_z4.out T_z4.out).mono ?_
          rintro e z5 ⟨rfl, hb⟩
          have V_z5 : Hid (BK 28 z5 w.heap.size [.string c, .string u]) := Lib.hid (V_z4.out.step hb)
          have B_z5 : Hid (Below w.heap.size w z5) := Lib.hid (stepB B_z4.out hb)
          have O_z5 : Hid (Okw z5) := Lib.hid (O_z4.out.step hb)
          have S_z5 : Hid (RL z5 z5.heap.size A xs) := Lib.hid (GL.step S_z4.out hb)
          have I_z5 : Hid (S2.IL z5 z5.heap.size (some ⟨b, o2, none⟩) D) := Lib.hid (CL.step I_z4.out hb)
          have T_z5 : Hid (RL z5 z5.heap.size A7 rs) := Lib.hid (GL.step T_z4.out hb)
          clear V_z4 B_z4 O_z4 S_z4 I_z4 T_z4
          clear hHeld hb
          go_wp2_with fail
          refine hK.out _ _ V_z5.out (fun hHeld => ?_)
          clear hK K
          try simp only [Act.put, List.setIfInBounds_toArray, List.set_cons_zero, List.set_cons_succ]
          refine wpAnyH_ready (rs := [19]) (by kernel_rfl) (by simp) ?_
          refine (AllReadyH.cons (get_ops _ _ _ rfl) (fun K hK => ?_) AllReadyH.nil)
          go_simp
          refine (HB2.out z5 O_z5.out S_z5.out).mono ?_
          rintro e z6 ⟨rfl, hb⟩
          have V_z6 : Hid (BK 28 z6 w.heap.size [.string c, .string u]) := Lib.hid (V_z5.out.step hb)
          have B_z6 : Hid (Below w.heap.size w z6) := Lib.hid (stepB B_z5.out hb)
          have O_z6 : Hid (Okw z6) := Lib.hid (O_z5.out.step hb)
          have S_z6 : Hid (RL z6 z6.heap.size A xs) := Lib.hid (GL.step S_z5.out hb)
          have I_z6 : Hid (S2.IL z6 z6.heap.size (some ⟨b, o2, none⟩) D) := Lib.hid (CL.step I_z5.out hb)
          have T_z6 : Hid (RL z6 z6.heap.size A7 rs) := Lib.hid (GL.step T_z5.out hb)
          clear V_z5 B_z5 O_z5 S_z5 I_z5 T_z5
          clear hHeld hb
          go_wp2_with fail
          refine hK.out _ _ V_z6.out (fun hHeld => ?_)
          clear hK K
          try simp only [Act.put, List.setIfInBounds_toArray, List.set_cons_zero, List.set_cons_succ]
          refine wpAnyH_take (i := 20) (v := .bool false) (get_ops _ _ _ rfl) (by kernel_rfl) (by kernel_rfl) (by kernel_rfl) (fun _ _ _ h => h) (Or.inl ⟨by rfl, fun wS hSw => by (try dsimp only at hSw); cases rb <;> go_simp⟩) hHeld ?_
          try simp only [Act.put, List.setIfInBounds_toArray, List.set_cons_zero, List.set_cons_succ]
          refine wpAnyH_take (i := 21) (v := .bool false) (get_ops _ _ _ rfl) (by kernel_rfl) (by kernel_rfl) (by kernel_rfl) (fun _ _ _ h => h) (Or.inl ⟨by rfl, fun wS hSw => by (try dsimp only at hSw); go_simp⟩) hHeld ?_
          try simp only [Act.put, List.setIfInBounds_toArray, List.set_cons_zero, List.set_cons_succ]
          refine wpAnyH_done (by kernel_rfl) ?_ _
          go_wp2_with fail
          go_roundg gk
          case measure => omega
          case rel => exact ⟨k + 1, by have := HG.out; omega, by go_num, V_z6.out, B_z6.out, O_z6.out, S_z6.out, I_z6.out⟩
end Go.Proofs.YtoakhkiiefiebaaDoor.S1
