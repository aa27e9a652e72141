/-
  The law FairKeeps: it answers true. Conditions: the list reads as data; names fit an int.
-/
import Derived.Test.YtjkhfifnfgchgaaFaX
import Derived.Deep.CutRange
namespace Go.Proofs.Ytjkhfifnfgchgaa
open Go.RowKit
open S2 (BK Put get_ops exec_load)

theorem csl_cells {w : World} {B b o : Nat} {ys : List Cs} (h : CsL w B (some ⟨b, o, none⟩) ys) {j : Nat} {y : Cs} (hy : ys[j]? = some y) : b < B ∧ ∀ i v, (gC y)[i]? = some v → w.cell? ⟨b, o + j * 5 + i, none⟩ = some v := by
  obtain ⟨b', o', e, hb, hc⟩ := CsL.at_ h hy
  simp only [Option.some.injEq, Addr.mk.injEq, and_true] at e
  obtain ⟨rfl, rfl⟩ := e
  exact ⟨hb, hc⟩
theorem fnd_snoc {cn tg : Int} {x : Cs} : ∀ {l : List Cs} {j : Nat}, fndC cn tg (l ++ [x]) j = match fndC cn tg l j with | some i => some i | none => if isC cn tg x then some (j + l.length) else none
  | [], j => by simp [fndC]
  | y :: r, j => by
    rw [List.cons_append, fndC, fndC]
    cases h : isC cn tg y with
    | true => rfl
    | false =>
      simp only [Bool.false_eq_true, if_false]
      rw [fnd_snoc (l := r) (j := j + 1), List.length_cons, show j + 1 + r.length = j + (r.length + 1) by omega]
/-- the place among the first k + 1, in a valid list -/
theorem fn_next {xs : List Cs} {cn tg : Int} {k : Nat} {y : Cs} (hok : OkC xs) (hy : xs[k]? = some y) : fnC (xs.take (k + 1)) cn tg = if isC cn tg y then some k else fnC (xs.take k) cn tg := by
  have hkl := (List.getElem?_eq_some_iff.1 hy).1
  unfold fnC
  rw [← takeC hy, fnd_snoc]
  cases hf : fndC cn tg (xs.take k) 0 with
  | none =>
    simp only [List.length_take]
    rw [Nat.zero_add, Nat.min_eq_left (by omega)]
  | some i =>
    cases hc : isC cn tg y with
    | false => rfl
    | true =>
      obtain ⟨z, hz, h1, h2, hi⟩ := fn_some (l := xs.take k) hf
      rw [List.length_take] at hi
      rw [List.getElem?_take, if_pos (by omega)] at hz
      have h3 : keyC z = keyC y := by rw [is_key.1 hc]; unfold keyC; rw [h1, h2]
      have := ok_any hok hz hy h3
      omega
theorem neqC_no {x y : Cs} (h : x = y) (w : World) : Sem.run Try.prog (binOp .neq 25 (csV x) (csV y)) w = .ok (.bool false) w := by
  rw [neqCs, decide_eq_true h]; rfl
theorem guardC (op : BinOp) (a b : Operand) (x y : Cs) (w : World) : Sem.run Try.prog (eqGuard op 25 a b (csV x) (csV y)) w = .ok () w := guardCs op a b _ _ w

def CutK (w : World) (A : Option Addr) (x : Cs) (xs : List Cs) (wx : World) : Prop := BK 25 wx w.heap.size (gC x) ∧ CsL wx wx.heap.size A xs ∧ Below w.heap.size w wx
set_option maxRecDepth 20000 in
set_option maxHeartbeats 32000000 in
theorem fairKeeps_walk (A : Option Addr) (c : Nat) (xs : List Cs) (x : Cs) (n : Int) (w : World) (h : CsL w w.heap.size A xs) (hc : xs.length ≤ c) (hq : ∀ y ∈ xs, y.qu.size ≤ 9223372036854775807) (hn : xs.length ≤ 1000000) (hxq : x.qu.size ≤ 9223372036854775807) :
    Calls Try.prog 6 #[.slice A xs.length c, csV x, .int .i64 n] w fun e w' => e = .returned (.bool true) ∧ Below w.heap.size w w' := by
  have HX := Lib.hid (fun w1 => example_any w1)
  have HCK := Lib.hid (fun w1 hs => rCheck_any A c xs w1 hs hc hn hq)
  have HOK := Lib.hid (@chk_iff xs)
  generalize chkC xs = E at *
  have HCC := Lib.hid hc
  have HAD := Lib.hid (fun w1 hs => fAdd_any A c xs x w1 hs hn hxq)
  have HRM := Lib.hid (fun w1 hs => fRemove_any A c xs x.conn x.tag w1 hs hc hn)
  have HCT := Lib.hid (fun w1 hs hu => fCount_any A c xs x.conn x.tag n w1 hs hn hu)
  have HEQ := Lib.hid (fun A1 A2 c1 c2 (ys : List Cs) w1 h1 h2 hn => equalS_any A1 A2 c1 c2 ys w1 h1 h2 hn)
  have HS := Lib.hid h
  have HXQ := Lib.hid hxq
  clear h hq hc hxq
  unfold csV
  go_enter Try.func6, Try.ntmps6
  go_upto_region 1 with fail
  refine name_world (C := fun w1 => Code.wp _ _ _ _ w1) (w.alloc (.cells (gC x).toArray 25)) ?_
  intro w1 hw1
  have hb1 : Below w.heap.size w w1 := by rw [hw1]; exact S2.below_new w _
  have V_w1 : Hid (BK 25 w1 w.heap.size (gC x)) := Lib.hid (by rw [hw1]; exact BK.new w _ _)
  have S_w1 : Hid (CsL w1 w1.heap.size A xs) := Lib.hid (GL.step HS.out hb1)
  have B_w1 := Lib.hid hb1
  clear hw1 hb1 HS
  go_wp2_with fail
  refine (HCK.out w1 S_w1.out).mono ?_
  rintro e w2 ⟨rfl, hb⟩
  have V_w2 := Lib.hid (V_w1.out.step hb)
  have S_w2 := Lib.hid (GL.step S_w1.out hb)
  have B_w2 := Lib.hid (stepB B_w1.out hb)
  clear hb V_w1 S_w1 B_w1 HCK
  by_cases hE : E = 0
  case neg =>
    have q1 : (E != 0) = true := bne_iff_ne.2 hE
    clear hE
    go_wp2_with fail
    refine (HX.out w2).mono ?_
    rintro e w3 ⟨rfl, hb⟩
    have B_w3 := Lib.hid (stepB B_w2.out hb)
    clear hb
    go_wp2
    go_ret
    exact ⟨rfl, B_w3.out⟩
  have q1 : (E != 0) = false := by rw [hE]; rfl
  have HV := Lib.hid (HOK.out.1 hE)
  have hn32 : xs.length ≤ 32 := HV.out.1
  have HUN : Hid (∀ y ∈ xs, 0 ≤ y.una ∧ y.una ≤ 1099511627776) := Lib.hid (fun y hy => ok_una (HV.out.2.1 y hy))
  have HAO := Lib.hid (@add_ok xs x HV.out)
  clear hE hn
  go_wp2_with first
    | (refine wpList_load_v (by rfl) 25 _ rfl ⟨w.heap.size, 0, none⟩ (by first | rfl | go_simp) _ (load_cs0 V_w2.out) ?_)
  refine (HAD.out w2 S_w2.out).mono ?_
  rintro e w3 ⟨v7, rfl, hown, hb⟩
  have V_w3 := Lib.hid (V_w2.out.step hb)
  have S_w3 := Lib.hid (GL.step S_w2.out hb)
  have B_w3 := Lib.hid (stepB B_w2.out hb)
  obtain ⟨R, hR⟩ : ∃ R, addC xs x = R := ⟨_, rfl⟩
  rw [hR] at hown HAO ⊢
  obtain ⟨ys, E2⟩ := R
  dsimp only at hown HAO ⊢
  obtain ⟨A7, c7, hv7, hc7, hgl7⟩ := OwnG.ret gC_len hown
  subst hv7
  have P7_w3 := Lib.hid hgl7
  have HC7 := Lib.hid hc7
  clear hown hb hgl7 hc7 hR V_w2 S_w2 B_w2 HAD
  go_upto_if 30 with fail
  go_cut [7] from 8 to 69 (fun s wx => CutK w A x xs wx)
  case first =>
   by_cases hE2 : E2 = 0
   · have q2 : (E2 == 0) = true := by rw [hE2]; rfl
     obtain ⟨hys, hoky, hany⟩ := HAO.out hE2
     have HYS := Lib.hid hys
     have HCK7 := Lib.hid (fun w1 hs => rCheck_any A7 c7 ys w1 hs HC7.out (by rw [hys, List.length_append]; simp; omega) (fun y hy => ok_qu (by rw [hys]; exact hoky) y hy))
     have hck0 : chkC ys = 0 := chk_iff.2 (by rw [hys]; exact hoky)
     rw [hck0] at HCK7
     have hylen : ys.length = xs.length + 1 := by rw [hys, List.length_append]; rfl
     have HAT : Hid (ys[xs.length]? = some x) := Lib.hid (by rw [hys]; simp)
     have HRM7 := Lib.hid (fun w1 hs => fRemove_any A7 c7 ys x.conn x.tag w1 hs HC7.out (by rw [hylen]; omega))
     have hrm : remC ys x.conn x.tag = (xs, 0) := by rw [hys]; exact rem_add hany
     rw [hrm] at HRM7
     obtain ⟨b7, o7, hA7, _, _⟩ := CsL.at_ P7_w3.out HAT.out
     subst hA7
     have HYL := Lib.hid hylen
     clear hE2 hys hoky hany hck0 hrm HAO hylen
     obtain ⟨d0, d1, d2, d3, d4⟩ := cells5 V_w3.out
     go_wp2_with fail
     refine (HRM7.out w3 P7_w3.out).mono ?_
     rintro e w4 ⟨v9, rfl, hown, hb⟩
     have V_w4 := Lib.hid (V_w3.out.step hb)
     have S_w4 := Lib.hid (GL.step S_w3.out hb)
     have B_w4 := Lib.hid (stepB B_w3.out hb)
     have P7_w4 := Lib.hid (GL.step P7_w3.out hb)
     obtain ⟨A9, c9, hv9, hc9, hgl9⟩ := OwnG.ret gC_len hown
     subst hv9
     have P9_w4 := Lib.hid hgl9
     clear hown hb hgl9 hc9 V_w3 S_w3 B_w3 P7_w3 HRM7 d0 d1 d2 d3 d4 q2
     dsimp only
     go_upto_region 6 with fail
     have hneq := neqC_no (x := x) (y := x) rfl
     have hgd := fun a b => guardC .neq a b x x
     have u1 : wrap64 ((xs.length : Int) + 1) = (xs.length : Int) + 1 := S2.wrap64_id _ (by omega) (by omega)
     have u1' : IntKind.i64.wrap ((xs.length : Int) + 1) = (xs.length : Int) + 1 := S2.wrap_i64_id _ (by omega) (by omega)
     have q9 : ((ys.length : Int) != (xs.length : Int) + 1) = false := by rw [HYL.out]; simp
     have j1 : (0 : Int) ≤ (xs.length : Int) := by omega
     have j2 : (xs.length : Int) < (ys.length : Int) := by have := HYL.out; omega
     have HNX := Lib.hid (Nat.le_trans hn32 (by decide : 32 ≤ 1000000))
     obtain ⟨vg, hvg⟩ : ∃ n, n = w.heap.size := ⟨_, rfl⟩
     have HVG : Hid (vg = w.heap.size) := Lib.hid hvg
     rw [← hvg] at V_w4
     obtain ⟨p1, hp1⟩ : ∃ p1, p1 = World.drew w4 := ⟨_, rfl⟩
     have hbD : Below w4.heap.size w4 p1 := by rw [hp1]; exact (Below.refl _ _).drew
     have V_p1 : Hid (BK 25 p1 vg (gC x)) := Lib.hid (V_w4.out.step hbD)
     have P7_p1 : Hid (CsL p1 p1.heap.size (some ⟨b7, o7, none⟩) ys) := Lib.hid (GL.step P7_w4.out hbD)
     have S_p1 : Hid (CsL p1 p1.heap.size A xs) := Lib.hid (GL.step S_w4.out hbD)
     have B_p1 : Hid (Below w.heap.size w p1) := Lib.hid (stepB B_w4.out hbD)
     have P9_p1 : Hid (CsL p1 p1.heap.size A9 xs) := Lib.hid (GL.step P9_w4.out hbD)
     clear V_w4 P7_w4 S_w4 B_w4 P9_w4
     have hbd : (fun w' => BK 25 w' vg (gC x) ∧ CsL w' w'.heap.size (some ⟨b7, o7, none⟩) ys) (World.drew w4) := by rw [← hp1]; exact ⟨V_p1.out, P7_p1.out⟩
     have hSD : (fun w' => BK 25 w' vg (gC x) ∧ CsL w' w'.heap.size (some ⟨b7, o7, none⟩) ys) p1 := ⟨V_p1.out, P7_p1.out⟩
     have HWD := Lib.hid hp1
     clear hp1 hbD
     refine wp_region_held_drew (S := fun w' => BK 25 w' vg (gC x) ∧ CsL w' w'.heap.size (some ⟨b7, o7, none⟩) ys) (by kernel_rfl) hbd (fun hHeld => ?_)
     rw [← HWD.out]
     clear hHeld
     have hHeld := hSD
     clear hSD hbd HWD
     refine wpAnyH_take (i := 0) (v := .slice (some ⟨b7, o7, none⟩) ys.length c7) (get_ops _ _ _ rfl) (by kernel_rfl) (by kernel_rfl) (by kernel_rfl) (fun _ _ _ h => h) (Or.inl ⟨by rfl, fun wS hSw => by (try dsimp only at hSw); go_simp⟩) hHeld ?_
     try simp only [Act.put, List.setIfInBounds_toArray, List.set_cons_zero, List.set_cons_succ]
     refine wpAnyH_ready (rs := [1]) (by kernel_rfl) (by simp) ?_
     refine (AllReadyH.cons (get_ops _ _ _ rfl) (fun K hK => ?_) AllReadyH.nil)
     go_simp
     refine (HCK7.out p1 P7_p1.out).mono ?_
     rintro e p2 ⟨rfl, hb⟩
     have V_p2 : Hid (BK 25 p2 vg (gC x)) := Lib.hid (V_p1.out.step hb)
     have P7_p2 : Hid (CsL p2 p2.heap.size (some ⟨b7, o7, none⟩) ys) := Lib.hid (GL.step P7_p1.out hb)
     have S_p2 : Hid (CsL p2 p2.heap.size A xs) := Lib.hid (GL.step S_p1.out hb)
     have B_p2 : Hid (Below w.heap.size w p2) := Lib.hid (stepB B_p1.out hb)
     have P9_p2 : Hid (CsL p2 p2.heap.size A9 xs) := Lib.hid (GL.step P9_p1.out hb)
     clear V_p1 P7_p1 S_p1 B_p1 P9_p1
     clear hHeld hb
     go_wp2_with fail
     refine hK.out _ _ ⟨V_p2.out, P7_p2.out⟩ (fun hHeld => ?_)
     clear hK K
     try simp only [Act.put, List.setIfInBounds_toArray, List.set_cons_zero, List.set_cons_succ]
     refine wpAnyH_take (i := 2) (v := .bool false) (get_ops _ _ _ rfl) (by kernel_rfl) (by kernel_rfl) (by kernel_rfl) (fun _ _ _ h => h) (Or.inl ⟨by rfl, fun wS hSw => by (try dsimp only at hSw); go_simp⟩) hHeld ?_
     try simp only [Act.put, List.setIfInBounds_toArray, List.set_cons_zero, List.set_cons_succ]
     refine wpAnyH_take (i := 3) (v := .bool false) (get_ops _ _ _ rfl) (by kernel_rfl) (by kernel_rfl) (by kernel_rfl) (fun _ _ _ h => h) (Or.inl ⟨by rfl, fun wS hSw => by (try dsimp only at hSw); go_simp⟩) hHeld ?_
     try simp only [Act.put, List.setIfInBounds_toArray, List.set_cons_zero, List.set_cons_succ]
     refine wpAnyH_take (i := 4) (v := .slice (some ⟨b7, o7, none⟩) ys.length c7) (get_ops _ _ _ rfl) (by kernel_rfl) (by kernel_rfl) (by kernel_rfl) (fun _ _ _ h => h) (Or.inl ⟨by rfl, fun wS hSw => by (try dsimp only at hSw); go_simp⟩) hHeld ?_
     try simp only [Act.put, List.setIfInBounds_toArray, List.set_cons_zero, List.set_cons_succ]
     refine wpAnyH_take (i := 5) (v := .int .i64 ys.length) (get_ops _ _ _ rfl) (by kernel_rfl) (by kernel_rfl) (by kernel_rfl) (fun _ _ _ h => h) (Or.inl ⟨by rfl, fun wS hSw => by (try dsimp only at hSw); go_simp⟩) hHeld ?_
     try simp only [Act.put, List.setIfInBounds_toArray, List.set_cons_zero, List.set_cons_succ]
     refine wpAnyH_take (i := 6) (v := .slice A xs.length c) (get_ops _ _ _ rfl) (by kernel_rfl) (by kernel_rfl) (by kernel_rfl) (fun _ _ _ h => h) (Or.inl ⟨by rfl, fun wS hSw => by (try dsimp only at hSw); go_simp⟩) hHeld ?_
     try simp only [Act.put, List.setIfInBounds_toArray, List.set_cons_zero, List.set_cons_succ]
     refine wpAnyH_take (i := 7) (v := .int .i64 xs.length) (get_ops _ _ _ rfl) (by kernel_rfl) (by kernel_rfl) (by kernel_rfl) (fun _ _ _ h => h) (Or.inl ⟨by rfl, fun wS hSw => by (try dsimp only at hSw); go_simp⟩) hHeld ?_
     try simp only [Act.put, List.setIfInBounds_toArray, List.set_cons_zero, List.set_cons_succ]
     refine wpAnyH_take (i := 8) (v := .int .i64 ((xs.length : Int) + 1)) (get_ops _ _ _ rfl) (by kernel_rfl) (by kernel_rfl) (by kernel_rfl) (fun _ _ _ h => h) (Or.inl ⟨by rfl, fun wS hSw => by (try dsimp only at hSw); go_simp⟩) hHeld ?_
     try simp only [Act.put, List.setIfInBounds_toArray, List.set_cons_zero, List.set_cons_succ]
     refine wpAnyH_take (i := 9) (v := .bool false) (get_ops _ _ _ rfl) (by kernel_rfl) (by kernel_rfl) (by kernel_rfl) (fun _ _ _ h => h) (Or.inl ⟨by rfl, fun wS hSw => by (try dsimp only at hSw); go_simp⟩) hHeld ?_
     try simp only [Act.put, List.setIfInBounds_toArray, List.set_cons_zero, List.set_cons_succ]
     refine wpAnyH_take (i := 10) (v := .bool false) (get_ops _ _ _ rfl) (by kernel_rfl) (by kernel_rfl) (by kernel_rfl) (fun _ _ _ h => h) (Or.inl ⟨by rfl, fun wS hSw => by (try dsimp only at hSw); go_simp⟩) hHeld ?_
     try simp only [Act.put, List.setIfInBounds_toArray, List.set_cons_zero, List.set_cons_succ]
     refine wpAnyH_take (i := 11) (v := .bool false) (get_ops _ _ _ rfl) (by kernel_rfl) (by kernel_rfl) (by kernel_rfl) (fun _ _ _ h => h) (Or.inl ⟨by rfl, fun wS hSw => by (try dsimp only at hSw); go_simp⟩) hHeld ?_
     try simp only [Act.put, List.setIfInBounds_toArray, List.set_cons_zero, List.set_cons_succ]
     refine wpAnyH_take (i := 12) (v := .slice (some ⟨b7, o7, none⟩) ys.length c7) (get_ops _ _ _ rfl) (by kernel_rfl) (by kernel_rfl) (by kernel_rfl) (fun _ _ _ h => h) (Or.inl ⟨by rfl, fun wS hSw => by (try dsimp only at hSw); go_simp⟩) hHeld ?_
     try simp only [Act.put, List.setIfInBounds_toArray, List.set_cons_zero, List.set_cons_succ]
     refine wpAnyH_take (i := 13) (v := .slice A xs.length c) (get_ops _ _ _ rfl) (by kernel_rfl) (by kernel_rfl) (by kernel_rfl) (fun _ _ _ h => h) (Or.inl ⟨by rfl, fun wS hSw => by (try dsimp only at hSw); go_simp⟩) hHeld ?_
     try simp only [Act.put, List.setIfInBounds_toArray, List.set_cons_zero, List.set_cons_succ]
     refine wpAnyH_take (i := 14) (v := .int .i64 xs.length) (get_ops _ _ _ rfl) (by kernel_rfl) (by kernel_rfl) (by kernel_rfl) (fun _ _ _ h => h) (Or.inl ⟨by rfl, fun wS hSw => by (try dsimp only at hSw); go_simp⟩) hHeld ?_
     try simp only [Act.put, List.setIfInBounds_toArray, List.set_cons_zero, List.set_cons_succ]
     refine wpAnyH_take (i := 15) (v := .pointer (some ⟨b7, o7 + xs.length * 5, none⟩)) (get_ops _ _ _ rfl) (by kernel_rfl) (by kernel_rfl) (by kernel_rfl) (fun _ _ _ h => h) (Or.inl ⟨by rfl, fun wS hSw => by (try dsimp only at hSw); go_simp⟩) hHeld ?_
     try simp only [Act.put, List.setIfInBounds_toArray, List.set_cons_zero, List.set_cons_succ]
     refine wpAnyH_take (i := 16) (v := (csV x)) (get_ops _ _ _ rfl) (by kernel_rfl) (by kernel_rfl) (by kernel_rfl) (fun _ _ _ h => h) (Or.inl ⟨by rfl, fun wS hSw => by (try dsimp only at hSw); exact exec_load 25 _ rfl ⟨b7, o7 + xs.length * 5, none⟩ (by go_simp) _ (load_cs (csl_cells hSw.2 HAT.out).2)⟩) hHeld ?_
     try simp only [Act.put, List.setIfInBounds_toArray, List.set_cons_zero, List.set_cons_succ]
     refine wpAnyH_take (i := 17) (v := (csV x)) (get_ops _ _ _ rfl) (by kernel_rfl) (by kernel_rfl) (by kernel_rfl) (fun _ _ _ h => h) (Or.inl ⟨by rfl, fun wS hSw => by (try dsimp only at hSw); exact exec_load 25 _ rfl ⟨vg, 0, none⟩ (by go_simp) _ (load_cs0 hSw.1)⟩) hHeld ?_
     try simp only [Act.put, List.setIfInBounds_toArray, List.set_cons_zero, List.set_cons_succ]
     refine wpAnyH_take (i := 18) (v := .bool false) (get_ops _ _ _ rfl) (by kernel_rfl) (by kernel_rfl) (by kernel_rfl) (fun _ _ _ h => h) (Or.inl ⟨by rfl, fun wS hSw => by (try dsimp only at hSw); go_simp⟩) hHeld ?_
     try simp only [Act.put, List.setIfInBounds_toArray, List.set_cons_zero, List.set_cons_succ]
     refine wpAnyH_take (i := 19) (v := .bool false) (get_ops _ _ _ rfl) (by kernel_rfl) (by kernel_rfl) (by kernel_rfl) (fun _ _ _ h => h) (Or.inl ⟨by rfl, fun wS hSw => by (try dsimp only at hSw); go_simp⟩) hHeld ?_
     try simp only [Act.put, List.setIfInBounds_toArray, List.set_cons_zero, List.set_cons_succ]
     refine wpAnyH_take (i := 20) (v := .bool false) (get_ops _ _ _ rfl) (by kernel_rfl) (by kernel_rfl) (by kernel_rfl) (fun _ _ _ h => h) (Or.inl ⟨by rfl, fun wS hSw => by (try dsimp only at hSw); go_simp⟩) hHeld ?_
     try simp only [Act.put, List.setIfInBounds_toArray, List.set_cons_zero, List.set_cons_succ]
     refine wpAnyH_take (i := 21) (v := .int .i64 0) (get_ops _ _ _ rfl) (by kernel_rfl) (by kernel_rfl) (by kernel_rfl) (fun _ _ _ h => h) (Or.inl ⟨by rfl, fun wS hSw => by (try dsimp only at hSw); go_simp⟩) hHeld ?_
     try simp only [Act.put, List.setIfInBounds_toArray, List.set_cons_zero, List.set_cons_succ]
     refine wpAnyH_take (i := 22) (v := .bool false) (get_ops _ _ _ rfl) (by kernel_rfl) (by kernel_rfl) (by kernel_rfl) (fun _ _ _ h => h) (Or.inl ⟨by rfl, fun wS hSw => by (try dsimp only at hSw); go_simp⟩) hHeld ?_
     try simp only [Act.put, List.setIfInBounds_toArray, List.set_cons_zero, List.set_cons_succ]
     refine wpAnyH_take (i := 23) (v := .bool false) (get_ops _ _ _ rfl) (by kernel_rfl) (by kernel_rfl) (by kernel_rfl) (fun _ _ _ h => h) (Or.inl ⟨by rfl, fun wS hSw => by (try dsimp only at hSw); go_simp⟩) hHeld ?_
     try simp only [Act.put, List.setIfInBounds_toArray, List.set_cons_zero, List.set_cons_succ]
     refine wpAnyH_take (i := 24) (v := .bool false) (get_ops _ _ _ rfl) (by kernel_rfl) (by kernel_rfl) (by kernel_rfl) (fun _ _ _ h => h) (Or.inl ⟨by rfl, fun wS hSw => by (try dsimp only at hSw); go_simp⟩) hHeld ?_
     try simp only [Act.put, List.setIfInBounds_toArray, List.set_cons_zero, List.set_cons_succ]
     refine wpAnyH_take (i := 25) (v := .slice A9 xs.length c9) (get_ops _ _ _ rfl) (by kernel_rfl) (by kernel_rfl) (by kernel_rfl) (fun _ _ _ h => h) (Or.inl ⟨by rfl, fun wS hSw => by (try dsimp only at hSw); go_simp⟩) hHeld ?_
     try simp only [Act.put, List.setIfInBounds_toArray, List.set_cons_zero, List.set_cons_succ]
     refine wpAnyH_take (i := 26) (v := .slice A xs.length c) (get_ops _ _ _ rfl) (by kernel_rfl) (by kernel_rfl) (by kernel_rfl) (fun _ _ _ h => h) (Or.inl ⟨by rfl, fun wS hSw => by (try dsimp only at hSw); go_simp⟩) hHeld ?_
     try simp only [Act.put, List.setIfInBounds_toArray, List.set_cons_zero, List.set_cons_succ]
     refine wpAnyH_ready (rs := [27]) (by kernel_rfl) (by simp) ?_
     refine (AllReadyH.cons (get_ops _ _ _ rfl) (fun K hK => ?_) AllReadyH.nil)
     go_simp
     refine (HEQ.out A9 A c9 c xs p2 P9_p2.out S_p2.out HNX.out).mono ?_
     rintro e p3 ⟨rfl, hb⟩
     have V_p3 : Hid (BK 25 p3 vg (gC x)) := Lib.hid (V_p2.out.step hb)
     have P7_p3 : Hid (CsL p3 p3.heap.size (some ⟨b7, o7, none⟩) ys) := Lib.hid (GL.step P7_p2.out hb)
     have S_p3 : Hid (CsL p3 p3.heap.size A xs) := Lib.hid (GL.step S_p2.out hb)
     have B_p3 : Hid (Below w.heap.size w p3) := Lib.hid (stepB B_p2.out hb)
     have P9_p3 : Hid (CsL p3 p3.heap.size A9 xs) := Lib.hid (GL.step P9_p2.out hb)
     clear V_p2 P7_p2 S_p2 B_p2 P9_p2
     clear hHeld hb
     go_wp2_with fail
     refine hK.out _ _ ⟨V_p3.out, P7_p3.out⟩ (fun hHeld => ?_)
     clear hK K
     try simp only [Act.put, List.setIfInBounds_toArray, List.set_cons_zero, List.set_cons_succ]
     refine wpAnyH_take (i := 28) (v := .bool false) (get_ops _ _ _ rfl) (by kernel_rfl) (by kernel_rfl) (by kernel_rfl) (fun _ _ _ h => h) (Or.inl ⟨by rfl, fun wS hSw => by (try dsimp only at hSw); go_simp⟩) hHeld ?_
     try simp only [Act.put, List.setIfInBounds_toArray, List.set_cons_zero, List.set_cons_succ]
     refine wpAnyH_take (i := 29) (v := .bool false) (get_ops _ _ _ rfl) (by kernel_rfl) (by kernel_rfl) (by kernel_rfl) (fun _ _ _ h => h) (Or.inl ⟨by rfl, fun wS hSw => by (try dsimp only at hSw); go_simp⟩) hHeld ?_
     try simp only [Act.put, List.setIfInBounds_toArray, List.set_cons_zero, List.set_cons_succ]
     refine wpAnyH_done (by kernel_rfl) ?_ _
     go_wp2_with fail
     go_meet
     have V6 : BK 25 p3 w.heap.size (gC x) := by have := V_p3.out; rwa [HVG.out] at this
     exact ⟨V6, S_p3.out, B_p3.out⟩
   · have q2 : (E2 == 0) = false := beq_eq_false_iff_ne.2 hE2
     clear hE2 HAO P7_w3 HC7
     go_wp2_with fail
     go_meet
     exact ⟨V_w3.out, S_w3.out, B_w3.out⟩
  case rest =>
    rename World => wa
    obtain ⟨hV, hS, hB⟩ := hcut
    have V_wa := Lib.hid hV
    have S_wa := Lib.hid hS
    have B_wa := Lib.hid hB
    clear hV hS hB V_w3 S_w3 B_w3 P7_w3 HC7 HAO
    go_wp2_with fail
    go_loopg [11, 72] xs.length (fun g u v wr => ∃ k : Nat, k + g = xs.length ∧ v = .int .i64 k ∧ u = .int .i64 (ixI (fnC (xs.take k) x.conn x.tag)) ∧ Below wa.heap.size wa wr)
    case atStart => exact ⟨0, by omega, rfl, rfl, Below.refl _ _⟩
    case round =>
      obtain ⟨k, hkg, rfl, rfl, hb⟩ := hrel
      have HG := Lib.hid hkg
      have V_wr := Lib.hid (V_wa.out.step hb)
      have S_wr := Lib.hid (GL.step S_wa.out hb)
      have B_wr := Lib.hid (stepB B_wa.out hb)
      have BB := Lib.hid hb
      clear hb
      cases gk with
      | zero =>
        obtain rfl : k = xs.length := by omega
        have e3 : decide ((xs.length : Int) < (xs.length : Int)) = false := decide_eq_false (by omega)
        rw [List.take_length]
        have hfo : (fnC xs x.conn x.tag = none ∧ remC xs x.conn x.tag = ([], 8)) ∨ ∃ i, fnC xs x.conn x.tag = some i ∧ remC xs x.conn x.tag = (xs.eraseIdx i, 0) ∧ i < xs.length := by
          cases hf : fnC xs x.conn x.tag with
          | none => exact .inl ⟨rfl, remC_none hf⟩
          | some i => obtain ⟨_, _, _, _, hi⟩ := fn_some hf; exact .inr ⟨i, rfl, remC_some hf, hi⟩
        obtain ⟨RM, hRM⟩ : ∃ R, remC xs x.conn x.tag = R := ⟨_, rfl⟩
        rw [hRM] at HRM hfo
        obtain ⟨YS, E14⟩ := RM
        have HFO := Lib.hid hfo
        obtain ⟨at1, hat⟩ : ∃ a, ixI (fnC xs x.conn x.tag) = a := ⟨_, rfl⟩
        rw [hat]
        have HAT1 := Lib.hid hat
        have HCA := Lib.hid (fun i y (hy : xs[i]? = some y) => cnt_at (cn := x.conn) (tg := x.tag) (n := n) hy)
        have HCK2 := Lib.hid (chk_iff.2 (cnt_ok HV.out x.conn x.tag n))
        have HQ2 := Lib.hid (ok_qu (cnt_ok HV.out x.conn x.tag n))
        have HL2 := Lib.hid (cnt_len (l := xs) (cn := x.conn) (tg := x.tag) (n := n))
        obtain ⟨zs, hzs⟩ : ∃ zs, cntC xs x.conn x.tag n = zs := ⟨_, rfl⟩
        have HCT2 := Lib.hid (fun w1 hs => HCT.out w1 hs HUN.out)
        rw [hzs] at HCA HCK2 HQ2 HL2 HCT2
        generalize fnC xs x.conn x.tag = fo at *
        clear hkg hzs BB V_wa S_wa B_wa hfo hat hRM
        obtain ⟨d0, d1, d2, d3, d4⟩ := cells5 V_wr.out
        go_wp2_with fail
        refine (HRM.out wr S_wr.out).mono ?_
        rintro e w5 ⟨v14, rfl, hown, hb⟩
        have V_w5 := Lib.hid (V_wr.out.step hb)
        have S_w5 := Lib.hid (GL.step S_wr.out hb)
        have B_w5 := Lib.hid (stepB B_wr.out hb)
        have hzb := B_wr.out.size
        clear hb V_wr S_wr B_wr d0 d1 d2 d3 d4
        obtain ⟨A14, c14, hv14, hc14, hgl14⟩ := OwnG.ret gC_len hown
        subst hv14
        have P_w5 := Lib.hid hgl14
        have HC14 := Lib.hid hc14
        clear hown hgl14 hc14 hzb
        dsimp only at P_w5 HC14 ⊢
        go_upto_region 16 with fail
        go_cut [137] from 100 to 136 (fun s wx => s = .bool false ∧ CutK w A x xs wx)
        case rest =>
          rename World => wd
          obtain ⟨rfl, hV, hS, hB⟩ := hcut
          have V_wd := Lib.hid hV
          have S_wd := Lib.hid hS
          have B_wd := Lib.hid hB
          clear hV hS hB V_w5 S_w5 B_w5 P_w5 HC14 HFO
          obtain ⟨d0, d1, d2, d3, d4⟩ := cells5 V_wd.out
          go_wp2_with fail
          refine (HCT2.out wd S_wd.out).mono ?_
          rintro e w6 ⟨v16, rfl, hown, hb⟩
          have S_w6 := Lib.hid (GL.step S_wd.out hb)
          have B_w6 := Lib.hid (stepB B_wd.out hb)
          clear hb d0 d1 d2 d3 d4
          obtain ⟨A16, c16, hv16, hc16, hgl16⟩ := OwnG.ret gC_len hown
          subst hv16
          have P_w6 := Lib.hid hgl16
          have HC16 := Lib.hid hc16
          have n1 : ((zs.length : Int) != (xs.length : Int)) = false := by rw [HL2.out]; simp
          have n1' : (zs.length != xs.length) = false := by rw [HL2.out]; simp
          have HCKZ := Lib.hid (rCheck_any A16 c16 zs w6 P_w6.out HC16.out (by rw [HL2.out]; omega) HQ2.out)
          rw [HCK2.out] at HCKZ
          clear hown hgl16 hc16
          go_wp2_with fail
          refine HCKZ.out.mono ?_
          rintro e w7 ⟨rfl, hb⟩
          have S_w7 := Lib.hid (GL.step S_w6.out hb)
          have B_w7 := Lib.hid (stepB B_w6.out hb)
          have P_w7 := Lib.hid (GL.step P_w6.out hb)
          clear hb S_w6 B_w6 P_w6 HCKZ
          go_wp2_with fail
          go_loopg [157] xs.length (fun g v wr2 => ∃ k : Nat, k + g = xs.length ∧ v = .int .i64 k ∧ Below w7.heap.size w7 wr2)
          case atStart => exact ⟨0, by omega, rfl, Below.refl _ _⟩
          case round =>
            rename World => wr2
            obtain ⟨k2, hkg, rfl, hb⟩ := hrel
            have HG2 := Lib.hid hkg
            have S_wr2 := Lib.hid (GL.step S_w7.out hb)
            have B_wr2 := Lib.hid (stepB B_w7.out hb)
            have P_wr2 := Lib.hid (GL.step P_w7.out hb)
            have BB := Lib.hid hb
            clear hb
            cases gk with
            | zero =>
              obtain rfl : k2 = xs.length := by omega
              have e3 : decide ((xs.length : Int) < (xs.length : Int)) = false := decide_eq_false (by omega)
              clear hkg
              go_wp2_with fail
              refine (HX.out wr2).mono ?_
              rintro e w8 ⟨rfl, hb⟩
              have B_w8 := Lib.hid (stepB B_wr2.out hb)
              clear hb
              go_wp2
              go_ret
              exact ⟨rfl, B_w8.out⟩
            | succ g2 =>
              have hlt : k2 < xs.length := by omega
              have e3 : decide ((k2 : Int) < (xs.length : Int)) = true := decide_eq_true (by omega)
              obtain ⟨y, hy⟩ : ∃ y, xs[k2]? = some y := ⟨_, List.getElem?_eq_getElem hlt⟩
              obtain ⟨u, hz, hu⟩ := HCA.out k2 y hy
              obtain ⟨b, o, hA, hbB, hcl⟩ := CsL.at_ S_wr2.out hy
              obtain ⟨b3, o3, hA3, hbB3, hcl3⟩ := CsL.at_ P_wr2.out hz
              have HLD := Lib.hid (load_cs hcl3)
              subst hA hA3
              have HYK := Lib.hid (And.intro hbB hcl)
              have HZK := Lib.hid (And.intro hbB3 hcl3)
              have c4 : wr2.cell? ⟨b, o + k2 * 5 + 4, none⟩ = some (.int .i64 y.una) := hcl 4 _ rfl
              have HC4 := Lib.hid c4
              have HU := Lib.hid hu
              obtain ⟨z, hzz⟩ : ∃ z : Cs, { y with una := u } = z := ⟨_, rfl⟩
              rw [hzz] at HLD HZK
              have HZY : Hid ((gC z).set 4 (.int .i64 y.una) = gC y) := Lib.hid (by rw [← hzz]; rfl)
              have i1 : (0 : Int) ≤ (k2 : Int) := by omega
              have i2 : (k2 : Int) < (xs.length : Int) := by omega
              have i3 : (k2 : Int) < (zs.length : Int) := by have := HL2.out; omega
              have HZU : Hid (u = y.una → z = y) := Lib.hid (fun e => by rw [← hzz, e])
              clear hy hz hu hcl hcl3 hbB hbB3 hkg hzz c4
              go_upto_region 25 with first
                | (refine wpList_load_v (by rfl) 25 _ rfl ⟨b3, o3 + k2 * 5, none⟩ (by go_simp) _ HLD.out ?_)
                | (refine S2.wpList_store_all (by rfl) 25 (.tmp 18) (.tmp 163) rfl rfl wr2.heap.size rfl (gC z) rfl 25 _ (BK.new wr2 _ _) conSize rfl (gC_one _) ?_; intro w9 hM hP; have hb := hP.below (S2.below_new wr2 _) (Nat.le_refl _); have M_w9 := Lib.hid hM; have BB_w9 := Lib.hid (stepB BB.out hb); have hb9 := Lib.hid hb; clear hM hP hb)
              have hvl : wr2.heap.size < w9.heap.size := M_w9.out.lt
              have c4 : w9.cell? ⟨b, o + k2 * 5 + 4, none⟩ = some (.int .i64 y.una) := (hb9.out.cell (p := ⟨b, o + k2 * 5 + 4, none⟩) HYK.out.1).trans HC4.out
              have hM9 := M_w9.out
              have c5 : w9.cell? ⟨wr2.heap.size, 4, none⟩ = some (.int .i64 z.una) := hM9.cell 4 rfl
              have f5 := hM9.free 4
              clear hM9
              go_upto_region 26 with fail
              refine name_world (C := fun w10 => Code.wp _ _ _ _ w10) (w9.setCell ⟨wr2.heap.size, 4, none⟩ (.int .i64 y.una)) ?_
              intro w10 hw10
              have hP10 : Put wr2.heap.size w9 w10 := by rw [hw10]; exact S2.Put.of_set M_w9.out
              have V_w10 : Hid (BK 25 w10 wr2.heap.size (gC y)) := Lib.hid (by rw [hw10, ← HZY.out]; exact M_w9.out.set 4 _)
              have hb10 : Below wr2.heap.size wr2 w10 := hP10.below hb9.out (Nat.le_refl _)
              have BB_w10 := Lib.hid (stepB BB.out hb10)
              have C_w10 : Hid ((b < wr2.heap.size ∧ ∀ i v, (gC y)[i]? = some v → w10.cell? ⟨b, o + k2 * 5 + i, none⟩ = some v) ∧ (b3 < wr2.heap.size ∧ ∀ i v, (gC z)[i]? = some v → w10.cell? ⟨b3, o3 + k2 * 5 + i, none⟩ = some v)) := Lib.hid ⟨⟨HYK.out.1, fun i v hv => (hb10.cell (p := ⟨b, o + k2 * 5 + i, none⟩) HYK.out.1).trans (HYK.out.2 i v hv)⟩, ⟨HZK.out.1, fun i v hv => (hb10.cell (p := ⟨b3, o3 + k2 * 5 + i, none⟩) HZK.out.1).trans (HZK.out.2 i v hv)⟩⟩
              have HVW : Hid (wr2.heap.size < w10.heap.size) := Lib.hid V_w10.out.lt
              clear hw10 hP10 hb10 hvl c4 c5 f5 M_w9 BB_w9
              have hneq1 := neqC_no (x := y) (y := y) rfl
              have hgd1 := fun a b => guardC .neq a b y y
              by_cases hki : (k2 : Int) = at1
              · have n2 : ((k2 : Int) != at1) = false := by simp [hki]
                clear hki
                obtain ⟨u1, hu1⟩ : ∃ u1, u1 = World.drew w10 := ⟨_, rfl⟩
                have hbD : Below w10.heap.size w10 u1 := by rw [hu1]; exact (Below.refl _ _).drew
                have V_u1 : Hid (BK 25 u1 wr2.heap.size (gC y)) := Lib.hid (V_w10.out.step hbD)
                have C_u1 : Hid (((b < wr2.heap.size ∧ ∀ i v, (gC y)[i]? = some v → u1.cell? ⟨b, o + k2 * 5 + i, none⟩ = some v) ∧ (b3 < wr2.heap.size ∧ ∀ i v, (gC z)[i]? = some v → u1.cell? ⟨b3, o3 + k2 * 5 + i, none⟩ = some v))) := Lib.hid (⟨⟨C_w10.out.1.1, fun i v hv => (hbD.cell (p := ⟨b, o + k2 * 5 + i, none⟩) (Nat.lt_trans C_w10.out.1.1 HVW.out)).trans (C_w10.out.1.2 i v hv)⟩, ⟨C_w10.out.2.1, fun i v hv => (hbD.cell (p := ⟨b3, o3 + k2 * 5 + i, none⟩) (Nat.lt_trans C_w10.out.2.1 HVW.out)).trans (C_w10.out.2.2 i v hv)⟩⟩)
                have BB_u1 : Hid (Below w7.heap.size w7 u1) := Lib.hid (stepB BB_w10.out hbD)
                clear V_w10 C_w10 BB_w10
                have hbd : (fun w' => BK 25 w' wr2.heap.size (gC y) ∧ ((b < wr2.heap.size ∧ ∀ i v, (gC y)[i]? = some v → w'.cell? ⟨b, o + k2 * 5 + i, none⟩ = some v) ∧ (b3 < wr2.heap.size ∧ ∀ i v, (gC z)[i]? = some v → w'.cell? ⟨b3, o3 + k2 * 5 + i, none⟩ = some v))) (World.drew w10) := by rw [← hu1]; exact ⟨V_u1.out, C_u1.out⟩
                have hSD : (fun w' => BK 25 w' wr2.heap.size (gC y) ∧ ((b < wr2.heap.size ∧ ∀ i v, (gC y)[i]? = some v → w'.cell? ⟨b, o + k2 * 5 + i, none⟩ = some v) ∧ (b3 < wr2.heap.size ∧ ∀ i v, (gC z)[i]? = some v → w'.cell? ⟨b3, o3 + k2 * 5 + i, none⟩ = some v))) u1 := ⟨V_u1.out, C_u1.out⟩
                have HWD := Lib.hid hu1
                clear hu1 hbD
                refine wp_region_held_drew (S := fun w' => BK 25 w' wr2.heap.size (gC y) ∧ ((b < wr2.heap.size ∧ ∀ i v, (gC y)[i]? = some v → w'.cell? ⟨b, o + k2 * 5 + i, none⟩ = some v) ∧ (b3 < wr2.heap.size ∧ ∀ i v, (gC z)[i]? = some v → w'.cell? ⟨b3, o3 + k2 * 5 + i, none⟩ = some v))) (by kernel_rfl) hbd (fun hHeld => ?_)
                rw [← HWD.out]
                clear hHeld
                have hHeld := hSD
                clear hSD hbd HWD
                refine wpAnyH_take (i := 0) (v := (csV y)) (get_ops _ _ _ rfl) (by kernel_rfl) (by kernel_rfl) (by kernel_rfl) (fun _ _ _ h => h) (Or.inl ⟨by rfl, fun wS hSw => by (try dsimp only at hSw); exact exec_load 25 _ rfl ⟨wr2.heap.size, 0, none⟩ (by go_simp) _ (load_cs0 hSw.1)⟩) hHeld ?_
                try simp only [Act.put, List.setIfInBounds_toArray, List.set_cons_zero, List.set_cons_succ]
                refine wpAnyH_take (i := 1) (v := .slice (some ⟨b, o, none⟩) xs.length c) (get_ops _ _ _ rfl) (by kernel_rfl) (by kernel_rfl) (by kernel_rfl) (fun _ _ _ h => h) (Or.inl ⟨by rfl, fun wS hSw => by (try dsimp only at hSw); go_simp⟩) hHeld ?_
                try simp only [Act.put, List.setIfInBounds_toArray, List.set_cons_zero, List.set_cons_succ]
                refine wpAnyH_take (i := 2) (v := .int .i64 k2) (get_ops _ _ _ rfl) (by kernel_rfl) (by kernel_rfl) (by kernel_rfl) (fun _ _ _ h => h) (Or.inl ⟨by rfl, fun wS hSw => by (try dsimp only at hSw); go_simp⟩) hHeld ?_
                try simp only [Act.put, List.setIfInBounds_toArray, List.set_cons_zero, List.set_cons_succ]
                refine wpAnyH_take (i := 3) (v := .pointer (some ⟨b, o + k2 * 5, none⟩)) (get_ops _ _ _ rfl) (by kernel_rfl) (by kernel_rfl) (by kernel_rfl) (fun _ _ _ h => h) (Or.inl ⟨by rfl, fun wS hSw => by (try dsimp only at hSw); go_simp⟩) hHeld ?_
                try simp only [Act.put, List.setIfInBounds_toArray, List.set_cons_zero, List.set_cons_succ]
                refine wpAnyH_take (i := 4) (v := (csV y)) (get_ops _ _ _ rfl) (by kernel_rfl) (by kernel_rfl) (by kernel_rfl) (fun _ _ _ h => h) (Or.inl ⟨by rfl, fun wS hSw => by (try dsimp only at hSw); exact exec_load 25 _ rfl ⟨b, o + k2 * 5, none⟩ (by go_simp) _ (load_cs hSw.2.1.2)⟩) hHeld ?_
                try simp only [Act.put, List.setIfInBounds_toArray, List.set_cons_zero, List.set_cons_succ]
                refine wpAnyH_take (i := 5) (v := .bool false) (get_ops _ _ _ rfl) (by kernel_rfl) (by kernel_rfl) (by kernel_rfl) (fun _ _ _ h => h) (Or.inl ⟨by rfl, fun wS hSw => by (try dsimp only at hSw); go_simp⟩) hHeld ?_
                try simp only [Act.put, List.setIfInBounds_toArray, List.set_cons_zero, List.set_cons_succ]
                refine wpAnyH_take (i := 6) (v := .bool false) (get_ops _ _ _ rfl) (by kernel_rfl) (by kernel_rfl) (by kernel_rfl) (fun _ _ _ h => h) (Or.inl ⟨by rfl, fun wS hSw => by (try dsimp only at hSw); go_simp⟩) hHeld ?_
                try simp only [Act.put, List.setIfInBounds_toArray, List.set_cons_zero, List.set_cons_succ]
                refine wpAnyH_take (i := 7) (v := .int .i64 k2) (get_ops _ _ _ rfl) (by kernel_rfl) (by kernel_rfl) (by kernel_rfl) (fun _ _ _ h => h) (Or.inl ⟨by rfl, fun wS hSw => by (try dsimp only at hSw); go_simp⟩) hHeld ?_
                try simp only [Act.put, List.setIfInBounds_toArray, List.set_cons_zero, List.set_cons_succ]
                refine wpAnyH_take (i := 8) (v := .int .i64 at1) (get_ops _ _ _ rfl) (by kernel_rfl) (by kernel_rfl) (by kernel_rfl) (fun _ _ _ h => h) (Or.inl ⟨by rfl, fun wS hSw => by (try dsimp only at hSw); go_simp⟩) hHeld ?_
                try simp only [Act.put, List.setIfInBounds_toArray, List.set_cons_zero, List.set_cons_succ]
                refine wpAnyH_take (i := 9) (v := .bool false) (get_ops _ _ _ rfl) (by kernel_rfl) (by kernel_rfl) (by kernel_rfl) (fun _ _ _ h => h) (Or.inl ⟨by rfl, fun wS hSw => by (try dsimp only at hSw); go_simp⟩) hHeld ?_
                try simp only [Act.put, List.setIfInBounds_toArray, List.set_cons_zero, List.set_cons_succ]
                refine wpAnyH_take (i := 10) (v := .bool false) (get_ops _ _ _ rfl) (by kernel_rfl) (by kernel_rfl) (by kernel_rfl) (fun _ _ _ h => h) (Or.inl ⟨by rfl, fun wS hSw => by (try dsimp only at hSw); go_simp⟩) hHeld ?_
                try simp only [Act.put, List.setIfInBounds_toArray, List.set_cons_zero, List.set_cons_succ]
                refine wpAnyH_take (i := 11) (v := undef) (get_ops _ _ _ rfl) (by kernel_rfl) (by kernel_rfl) (by kernel_rfl) (fun _ _ _ h => h) (Or.inr ⟨by rfl, rfl⟩) hHeld ?_
                try simp only [Act.put, List.setIfInBounds_toArray, List.set_cons_zero, List.set_cons_succ]
                refine wpAnyH_take (i := 12) (v := undef) (get_ops _ _ _ rfl) (by kernel_rfl) (by kernel_rfl) (by kernel_rfl) (fun _ _ _ h => h) (Or.inr ⟨by rfl, rfl⟩) hHeld ?_
                try simp only [Act.put, List.setIfInBounds_toArray, List.set_cons_zero, List.set_cons_succ]
                refine wpAnyH_take (i := 13) (v := undef) (get_ops _ _ _ rfl) (by kernel_rfl) (by kernel_rfl) (by kernel_rfl) (fun _ _ _ h => h) (Or.inr ⟨by rfl, rfl⟩) hHeld ?_
                try simp only [Act.put, List.setIfInBounds_toArray, List.set_cons_zero, List.set_cons_succ]
                refine wpAnyH_take (i := 14) (v := undef) (get_ops _ _ _ rfl) (by kernel_rfl) (by kernel_rfl) (by kernel_rfl) (fun _ _ _ h => h) (Or.inr ⟨by rfl, rfl⟩) hHeld ?_
                try simp only [Act.put, List.setIfInBounds_toArray, List.set_cons_zero, List.set_cons_succ]
                refine wpAnyH_take (i := 15) (v := undef) (get_ops _ _ _ rfl) (by kernel_rfl) (by kernel_rfl) (by kernel_rfl) (fun _ _ _ h => h) (Or.inr ⟨by rfl, rfl⟩) hHeld ?_
                try simp only [Act.put, List.setIfInBounds_toArray, List.set_cons_zero, List.set_cons_succ]
                refine wpAnyH_take (i := 16) (v := undef) (get_ops _ _ _ rfl) (by kernel_rfl) (by kernel_rfl) (by kernel_rfl) (fun _ _ _ h => h) (Or.inr ⟨by rfl, rfl⟩) hHeld ?_
                try simp only [Act.put, List.setIfInBounds_toArray, List.set_cons_zero, List.set_cons_succ]
                refine wpAnyH_take (i := 17) (v := undef) (get_ops _ _ _ rfl) (by kernel_rfl) (by kernel_rfl) (by kernel_rfl) (fun _ _ _ h => h) (Or.inr ⟨by rfl, rfl⟩) hHeld ?_
                try simp only [Act.put, List.setIfInBounds_toArray, List.set_cons_zero, List.set_cons_succ]
                refine wpAnyH_take (i := 18) (v := undef) (get_ops _ _ _ rfl) (by kernel_rfl) (by kernel_rfl) (by kernel_rfl) (fun _ _ _ h => h) (Or.inr ⟨by rfl, rfl⟩) hHeld ?_
                try simp only [Act.put, List.setIfInBounds_toArray, List.set_cons_zero, List.set_cons_succ]
                refine wpAnyH_take (i := 19) (v := undef) (get_ops _ _ _ rfl) (by kernel_rfl) (by kernel_rfl) (by kernel_rfl) (fun _ _ _ h => h) (Or.inr ⟨by rfl, rfl⟩) hHeld ?_
                try simp only [Act.put, List.setIfInBounds_toArray, List.set_cons_zero, List.set_cons_succ]
                refine wpAnyH_take (i := 20) (v := .bool false) (get_ops _ _ _ rfl) (by kernel_rfl) (by kernel_rfl) (by kernel_rfl) (fun _ _ _ h => h) (Or.inl ⟨by rfl, fun wS hSw => by (try dsimp only at hSw); go_simp⟩) hHeld ?_
                try simp only [Act.put, List.setIfInBounds_toArray, List.set_cons_zero, List.set_cons_succ]
                refine wpAnyH_take (i := 21) (v := .bool false) (get_ops _ _ _ rfl) (by kernel_rfl) (by kernel_rfl) (by kernel_rfl) (fun _ _ _ h => h) (Or.inl ⟨by rfl, fun wS hSw => by (try dsimp only at hSw); go_simp⟩) hHeld ?_
                try simp only [Act.put, List.setIfInBounds_toArray, List.set_cons_zero, List.set_cons_succ]
                refine wpAnyH_done (by kernel_rfl) ?_ _
                go_wp2_with fail
                go_roundg g2
                case measure => omega
                case rel => exact ⟨k2 + 1, by have := HG2.out; omega, by go_num, BB_u1.out⟩
              · have n2 : ((k2 : Int) != at1) = true := by simp [hki]
                have hzy : z = y := HZU.out (HU.out (fun e => hki (by rw [← HAT1.out, e]; rfl)))
                have hneq2 := neqC_no hzy
                have hgd2 := fun a b => guardC .neq a b z y
                clear hzy hki
                obtain ⟨u1, hu1⟩ : ∃ u1, u1 = World.drew w10 := ⟨_, rfl⟩
                have hbD : Below w10.heap.size w10 u1 := by rw [hu1]; exact (Below.refl _ _).drew
                have V_u1 : Hid (BK 25 u1 wr2.heap.size (gC y)) := Lib.hid (V_w10.out.step hbD)
                have C_u1 : Hid (((b < wr2.heap.size ∧ ∀ i v, (gC y)[i]? = some v → u1.cell? ⟨b, o + k2 * 5 + i, none⟩ = some v) ∧ (b3 < wr2.heap.size ∧ ∀ i v, (gC z)[i]? = some v → u1.cell? ⟨b3, o3 + k2 * 5 + i, none⟩ = some v))) := Lib.hid (⟨⟨C_w10.out.1.1, fun i v hv => (hbD.cell (p := ⟨b, o + k2 * 5 + i, none⟩) (Nat.lt_trans C_w10.out.1.1 HVW.out)).trans (C_w10.out.1.2 i v hv)⟩, ⟨C_w10.out.2.1, fun i v hv => (hbD.cell (p := ⟨b3, o3 + k2 * 5 + i, none⟩) (Nat.lt_trans C_w10.out.2.1 HVW.out)).trans (C_w10.out.2.2 i v hv)⟩⟩)
                have BB_u1 : Hid (Below w7.heap.size w7 u1) := Lib.hid (stepB BB_w10.out hbD)
                clear V_w10 C_w10 BB_w10
                have hbd : (fun w' => BK 25 w' wr2.heap.size (gC y) ∧ ((b < wr2.heap.size ∧ ∀ i v, (gC y)[i]? = some v → w'.cell? ⟨b, o + k2 * 5 + i, none⟩ = some v) ∧ (b3 < wr2.heap.size ∧ ∀ i v, (gC z)[i]? = some v → w'.cell? ⟨b3, o3 + k2 * 5 + i, none⟩ = some v))) (World.drew w10) := by rw [← hu1]; exact ⟨V_u1.out, C_u1.out⟩
                have hSD : (fun w' => BK 25 w' wr2.heap.size (gC y) ∧ ((b < wr2.heap.size ∧ ∀ i v, (gC y)[i]? = some v → w'.cell? ⟨b, o + k2 * 5 + i, none⟩ = some v) ∧ (b3 < wr2.heap.size ∧ ∀ i v, (gC z)[i]? = some v → w'.cell? ⟨b3, o3 + k2 * 5 + i, none⟩ = some v))) u1 := ⟨V_u1.out, C_u1.out⟩
                have HWD := Lib.hid hu1
                clear hu1 hbD
                refine wp_region_held_drew (S := fun w' => BK 25 w' wr2.heap.size (gC y) ∧ ((b < wr2.heap.size ∧ ∀ i v, (gC y)[i]? = some v → w'.cell? ⟨b, o + k2 * 5 + i, none⟩ = some v) ∧ (b3 < wr2.heap.size ∧ ∀ i v, (gC z)[i]? = some v → w'.cell? ⟨b3, o3 + k2 * 5 + i, none⟩ = some v))) (by kernel_rfl) hbd (fun hHeld => ?_)
                rw [← HWD.out]
                clear hHeld
                have hHeld := hSD
                clear hSD hbd HWD
                refine wpAnyH_take (i := 0) (v := (csV y)) (get_ops _ _ _ rfl) (by kernel_rfl) (by kernel_rfl) (by kernel_rfl) (fun _ _ _ h => h) (Or.inl ⟨by rfl, fun wS hSw => by (try dsimp only at hSw); exact exec_load 25 _ rfl ⟨wr2.heap.size, 0, none⟩ (by go_simp) _ (load_cs0 hSw.1)⟩) hHeld ?_
                try simp only [Act.put, List.setIfInBounds_toArray, List.set_cons_zero, List.set_cons_succ]
                refine wpAnyH_take (i := 1) (v := .slice (some ⟨b, o, none⟩) xs.length c) (get_ops _ _ _ rfl) (by kernel_rfl) (by kernel_rfl) (by kernel_rfl) (fun _ _ _ h => h) (Or.inl ⟨by rfl, fun wS hSw => by (try dsimp only at hSw); go_simp⟩) hHeld ?_
                try simp only [Act.put, List.setIfInBounds_toArray, List.set_cons_zero, List.set_cons_succ]
                refine wpAnyH_take (i := 2) (v := .int .i64 k2) (get_ops _ _ _ rfl) (by kernel_rfl) (by kernel_rfl) (by kernel_rfl) (fun _ _ _ h => h) (Or.inl ⟨by rfl, fun wS hSw => by (try dsimp only at hSw); go_simp⟩) hHeld ?_
                try simp only [Act.put, List.setIfInBounds_toArray, List.set_cons_zero, List.set_cons_succ]
                refine wpAnyH_take (i := 3) (v := .pointer (some ⟨b, o + k2 * 5, none⟩)) (get_ops _ _ _ rfl) (by kernel_rfl) (by kernel_rfl) (by kernel_rfl) (fun _ _ _ h => h) (Or.inl ⟨by rfl, fun wS hSw => by (try dsimp only at hSw); go_simp⟩) hHeld ?_
                try simp only [Act.put, List.setIfInBounds_toArray, List.set_cons_zero, List.set_cons_succ]
                refine wpAnyH_take (i := 4) (v := (csV y)) (get_ops _ _ _ rfl) (by kernel_rfl) (by kernel_rfl) (by kernel_rfl) (fun _ _ _ h => h) (Or.inl ⟨by rfl, fun wS hSw => by (try dsimp only at hSw); exact exec_load 25 _ rfl ⟨b, o + k2 * 5, none⟩ (by go_simp) _ (load_cs hSw.2.1.2)⟩) hHeld ?_
                try simp only [Act.put, List.setIfInBounds_toArray, List.set_cons_zero, List.set_cons_succ]
                refine wpAnyH_take (i := 5) (v := .bool false) (get_ops _ _ _ rfl) (by kernel_rfl) (by kernel_rfl) (by kernel_rfl) (fun _ _ _ h => h) (Or.inl ⟨by rfl, fun wS hSw => by (try dsimp only at hSw); go_simp⟩) hHeld ?_
                try simp only [Act.put, List.setIfInBounds_toArray, List.set_cons_zero, List.set_cons_succ]
                refine wpAnyH_take (i := 6) (v := .bool false) (get_ops _ _ _ rfl) (by kernel_rfl) (by kernel_rfl) (by kernel_rfl) (fun _ _ _ h => h) (Or.inl ⟨by rfl, fun wS hSw => by (try dsimp only at hSw); go_simp⟩) hHeld ?_
                try simp only [Act.put, List.setIfInBounds_toArray, List.set_cons_zero, List.set_cons_succ]
                refine wpAnyH_take (i := 7) (v := .int .i64 k2) (get_ops _ _ _ rfl) (by kernel_rfl) (by kernel_rfl) (by kernel_rfl) (fun _ _ _ h => h) (Or.inl ⟨by rfl, fun wS hSw => by (try dsimp only at hSw); go_simp⟩) hHeld ?_
                try simp only [Act.put, List.setIfInBounds_toArray, List.set_cons_zero, List.set_cons_succ]
                refine wpAnyH_take (i := 8) (v := .int .i64 at1) (get_ops _ _ _ rfl) (by kernel_rfl) (by kernel_rfl) (by kernel_rfl) (fun _ _ _ h => h) (Or.inl ⟨by rfl, fun wS hSw => by (try dsimp only at hSw); go_simp⟩) hHeld ?_
                try simp only [Act.put, List.setIfInBounds_toArray, List.set_cons_zero, List.set_cons_succ]
                refine wpAnyH_take (i := 9) (v := .bool true) (get_ops _ _ _ rfl) (by kernel_rfl) (by kernel_rfl) (by kernel_rfl) (fun _ _ _ h => h) (Or.inl ⟨by rfl, fun wS hSw => by (try dsimp only at hSw); go_simp⟩) hHeld ?_
                try simp only [Act.put, List.setIfInBounds_toArray, List.set_cons_zero, List.set_cons_succ]
                refine wpAnyH_take (i := 10) (v := .bool true) (get_ops _ _ _ rfl) (by kernel_rfl) (by kernel_rfl) (by kernel_rfl) (fun _ _ _ h => h) (Or.inl ⟨by rfl, fun wS hSw => by (try dsimp only at hSw); go_simp⟩) hHeld ?_
                try simp only [Act.put, List.setIfInBounds_toArray, List.set_cons_zero, List.set_cons_succ]
                refine wpAnyH_take (i := 11) (v := .slice (some ⟨b3, o3, none⟩) zs.length c16) (get_ops _ _ _ rfl) (by kernel_rfl) (by kernel_rfl) (by kernel_rfl) (fun _ _ _ h => h) (Or.inl ⟨by rfl, fun wS hSw => by (try dsimp only at hSw); go_simp⟩) hHeld ?_
                try simp only [Act.put, List.setIfInBounds_toArray, List.set_cons_zero, List.set_cons_succ]
                refine wpAnyH_take (i := 12) (v := .int .i64 k2) (get_ops _ _ _ rfl) (by kernel_rfl) (by kernel_rfl) (by kernel_rfl) (fun _ _ _ h => h) (Or.inl ⟨by rfl, fun wS hSw => by (try dsimp only at hSw); go_simp⟩) hHeld ?_
                try simp only [Act.put, List.setIfInBounds_toArray, List.set_cons_zero, List.set_cons_succ]
                refine wpAnyH_take (i := 13) (v := .pointer (some ⟨b3, o3 + k2 * 5, none⟩)) (get_ops _ _ _ rfl) (by kernel_rfl) (by kernel_rfl) (by kernel_rfl) (fun _ _ _ h => h) (Or.inl ⟨by rfl, fun wS hSw => by (try dsimp only at hSw); go_simp⟩) hHeld ?_
                try simp only [Act.put, List.setIfInBounds_toArray, List.set_cons_zero, List.set_cons_succ]
                refine wpAnyH_take (i := 14) (v := (csV z)) (get_ops _ _ _ rfl) (by kernel_rfl) (by kernel_rfl) (by kernel_rfl) (fun _ _ _ h => h) (Or.inl ⟨by rfl, fun wS hSw => by (try dsimp only at hSw); exact exec_load 25 _ rfl ⟨b3, o3 + k2 * 5, none⟩ (by go_simp) _ (load_cs hSw.2.2.2)⟩) hHeld ?_
                try simp only [Act.put, List.setIfInBounds_toArray, List.set_cons_zero, List.set_cons_succ]
                refine wpAnyH_take (i := 15) (v := .slice (some ⟨b, o, none⟩) xs.length c) (get_ops _ _ _ rfl) (by kernel_rfl) (by kernel_rfl) (by kernel_rfl) (fun _ _ _ h => h) (Or.inl ⟨by rfl, fun wS hSw => by (try dsimp only at hSw); go_simp⟩) hHeld ?_
                try simp only [Act.put, List.setIfInBounds_toArray, List.set_cons_zero, List.set_cons_succ]
                refine wpAnyH_take (i := 16) (v := .int .i64 k2) (get_ops _ _ _ rfl) (by kernel_rfl) (by kernel_rfl) (by kernel_rfl) (fun _ _ _ h => h) (Or.inl ⟨by rfl, fun wS hSw => by (try dsimp only at hSw); go_simp⟩) hHeld ?_
                try simp only [Act.put, List.setIfInBounds_toArray, List.set_cons_zero, List.set_cons_succ]
                refine wpAnyH_take (i := 17) (v := .pointer (some ⟨b, o + k2 * 5, none⟩)) (get_ops _ _ _ rfl) (by kernel_rfl) (by kernel_rfl) (by kernel_rfl) (fun _ _ _ h => h) (Or.inl ⟨by rfl, fun wS hSw => by (try dsimp only at hSw); go_simp⟩) hHeld ?_
                try simp only [Act.put, List.setIfInBounds_toArray, List.set_cons_zero, List.set_cons_succ]
                refine wpAnyH_take (i := 18) (v := (csV y)) (get_ops _ _ _ rfl) (by kernel_rfl) (by kernel_rfl) (by kernel_rfl) (fun _ _ _ h => h) (Or.inl ⟨by rfl, fun wS hSw => by (try dsimp only at hSw); exact exec_load 25 _ rfl ⟨b, o + k2 * 5, none⟩ (by go_simp) _ (load_cs hSw.2.1.2)⟩) hHeld ?_
                try simp only [Act.put, List.setIfInBounds_toArray, List.set_cons_zero, List.set_cons_succ]
                refine wpAnyH_take (i := 19) (v := .bool false) (get_ops _ _ _ rfl) (by kernel_rfl) (by kernel_rfl) (by kernel_rfl) (fun _ _ _ h => h) (Or.inl ⟨by rfl, fun wS hSw => by (try dsimp only at hSw); go_simp⟩) hHeld ?_
                try simp only [Act.put, List.setIfInBounds_toArray, List.set_cons_zero, List.set_cons_succ]
                refine wpAnyH_take (i := 20) (v := .bool false) (get_ops _ _ _ rfl) (by kernel_rfl) (by kernel_rfl) (by kernel_rfl) (fun _ _ _ h => h) (Or.inl ⟨by rfl, fun wS hSw => by (try dsimp only at hSw); go_simp⟩) hHeld ?_
                try simp only [Act.put, List.setIfInBounds_toArray, List.set_cons_zero, List.set_cons_succ]
                refine wpAnyH_take (i := 21) (v := .bool false) (get_ops _ _ _ rfl) (by kernel_rfl) (by kernel_rfl) (by kernel_rfl) (fun _ _ _ h => h) (Or.inl ⟨by rfl, fun wS hSw => by (try dsimp only at hSw); go_simp⟩) hHeld ?_
                try simp only [Act.put, List.setIfInBounds_toArray, List.set_cons_zero, List.set_cons_succ]
                refine wpAnyH_done (by kernel_rfl) ?_ _
                go_wp2_with fail
                go_roundg g2
                case measure => omega
                case rel => exact ⟨k2 + 1, by have := HG2.out; omega, by go_num, BB_u1.out⟩
        rcases HFO.out with ⟨hf, hrm⟩ | ⟨i, hf, hrm, hi⟩
        · obtain ⟨rfl, rfl⟩ := Prod.mk.inj hrm
          have hat : at1 = -1 := by rw [← HAT1.out, hf]; rfl
          subst hat
          clear hrm hf HFO HAT1
          obtain ⟨y1, hy1⟩ : ∃ y1, y1 = World.drew w5 := ⟨_, rfl⟩
          have hbD : Below w5.heap.size w5 y1 := by rw [hy1]; exact (Below.refl _ _).drew
          have V_y1 : Hid (BK 25 y1 w.heap.size (gC x)) := Lib.hid (V_w5.out.step hbD)
          have S_y1 : Hid (CsL y1 y1.heap.size A xs) := Lib.hid (GL.step S_w5.out hbD)
          have B_y1 : Hid (Below w.heap.size w y1) := Lib.hid (stepB B_w5.out hbD)
          have P_y1 : Hid (CsL y1 y1.heap.size A14 ([] : List Cs)) := Lib.hid (GL.step P_w5.out hbD)
          clear V_w5 S_w5 B_w5 P_w5
          have hbd : (fun w' => BK 25 w' w.heap.size (gC x)) (World.drew w5) := by rw [← hy1]; exact V_y1.out
          have hSD : (fun w' => BK 25 w' w.heap.size (gC x)) y1 := V_y1.out
          have HWD := Lib.hid hy1
          clear hy1 hbD
          refine wp_region_held_drew (S := fun w' => BK 25 w' w.heap.size (gC x)) (by kernel_rfl) hbd (fun hHeld => ?_)
          rw [← HWD.out]
          clear hHeld
          have hHeld := hSD
          clear hSD hbd HWD
          refine wpAnyH_take (i := 0) (v := .int .i64 8) (get_ops _ _ _ rfl) (by kernel_rfl) (by kernel_rfl) (by kernel_rfl) (fun _ _ _ h => h) (Or.inl ⟨by rfl, fun wS hSw => by (try dsimp only at hSw); go_simp⟩) hHeld ?_
          try simp only [Act.put, List.setIfInBounds_toArray, List.set_cons_zero, List.set_cons_succ]
          refine wpAnyH_take (i := 1) (v := .bool false) (get_ops _ _ _ rfl) (by kernel_rfl) (by kernel_rfl) (by kernel_rfl) (fun _ _ _ h => h) (Or.inl ⟨by rfl, fun wS hSw => by (try dsimp only at hSw); go_simp⟩) hHeld ?_
          try simp only [Act.put, List.setIfInBounds_toArray, List.set_cons_zero, List.set_cons_succ]
          refine wpAnyH_take (i := 2) (v := .int .i64 (-1)) (get_ops _ _ _ rfl) (by kernel_rfl) (by kernel_rfl) (by kernel_rfl) (fun _ _ _ h => h) (Or.inl ⟨by rfl, fun wS hSw => by (try dsimp only at hSw); go_simp⟩) hHeld ?_
          try simp only [Act.put, List.setIfInBounds_toArray, List.set_cons_zero, List.set_cons_succ]
          refine wpAnyH_take (i := 3) (v := .bool false) (get_ops _ _ _ rfl) (by kernel_rfl) (by kernel_rfl) (by kernel_rfl) (fun _ _ _ h => h) (Or.inl ⟨by rfl, fun wS hSw => by (try dsimp only at hSw); go_simp⟩) hHeld ?_
          try simp only [Act.put, List.setIfInBounds_toArray, List.set_cons_zero, List.set_cons_succ]
          refine wpAnyH_take (i := 4) (v := .bool false) (get_ops _ _ _ rfl) (by kernel_rfl) (by kernel_rfl) (by kernel_rfl) (fun _ _ _ h => h) (Or.inl ⟨by rfl, fun wS hSw => by (try dsimp only at hSw); go_simp⟩) hHeld ?_
          try simp only [Act.put, List.setIfInBounds_toArray, List.set_cons_zero, List.set_cons_succ]
          refine wpAnyH_take (i := 5) (v := .bool false) (get_ops _ _ _ rfl) (by kernel_rfl) (by kernel_rfl) (by kernel_rfl) (fun _ _ _ h => h) (Or.inl ⟨by rfl, fun wS hSw => by (try dsimp only at hSw); go_simp⟩) hHeld ?_
          try simp only [Act.put, List.setIfInBounds_toArray, List.set_cons_zero, List.set_cons_succ]
          refine wpAnyH_take (i := 6) (v := .int .i64 8) (get_ops _ _ _ rfl) (by kernel_rfl) (by kernel_rfl) (by kernel_rfl) (fun _ _ _ h => h) (Or.inl ⟨by rfl, fun wS hSw => by (try dsimp only at hSw); go_simp⟩) hHeld ?_
          try simp only [Act.put, List.setIfInBounds_toArray, List.set_cons_zero, List.set_cons_succ]
          refine wpAnyH_take (i := 7) (v := .bool false) (get_ops _ _ _ rfl) (by kernel_rfl) (by kernel_rfl) (by kernel_rfl) (fun _ _ _ h => h) (Or.inl ⟨by rfl, fun wS hSw => by (try dsimp only at hSw); go_simp⟩) hHeld ?_
          try simp only [Act.put, List.setIfInBounds_toArray, List.set_cons_zero, List.set_cons_succ]
          refine wpAnyH_take (i := 8) (v := .bool false) (get_ops _ _ _ rfl) (by kernel_rfl) (by kernel_rfl) (by kernel_rfl) (fun _ _ _ h => h) (Or.inl ⟨by rfl, fun wS hSw => by (try dsimp only at hSw); go_simp⟩) hHeld ?_
          try simp only [Act.put, List.setIfInBounds_toArray, List.set_cons_zero, List.set_cons_succ]
          refine wpAnyH_take (i := 9) (v := undef) (get_ops _ _ _ rfl) (by kernel_rfl) (by kernel_rfl) (by kernel_rfl) (fun _ _ _ h => h) (Or.inr ⟨by rfl, rfl⟩) hHeld ?_
          try simp only [Act.put, List.setIfInBounds_toArray, List.set_cons_zero, List.set_cons_succ]
          refine wpAnyH_take (i := 10) (v := undef) (get_ops _ _ _ rfl) (by kernel_rfl) (by kernel_rfl) (by kernel_rfl) (fun _ _ _ h => h) (Or.inr ⟨by rfl, rfl⟩) hHeld ?_
          try simp only [Act.put, List.setIfInBounds_toArray, List.set_cons_zero, List.set_cons_succ]
          refine wpAnyH_take (i := 11) (v := undef) (get_ops _ _ _ rfl) (by kernel_rfl) (by kernel_rfl) (by kernel_rfl) (fun _ _ _ h => h) (Or.inr ⟨by rfl, rfl⟩) hHeld ?_
          try simp only [Act.put, List.setIfInBounds_toArray, List.set_cons_zero, List.set_cons_succ]
          refine wpAnyH_take (i := 12) (v := undef) (get_ops _ _ _ rfl) (by kernel_rfl) (by kernel_rfl) (by kernel_rfl) (fun _ _ _ h => h) (Or.inr ⟨by rfl, rfl⟩) hHeld ?_
          try simp only [Act.put, List.setIfInBounds_toArray, List.set_cons_zero, List.set_cons_succ]
          refine wpAnyH_take (i := 13) (v := undef) (get_ops _ _ _ rfl) (by kernel_rfl) (by kernel_rfl) (by kernel_rfl) (fun _ _ _ h => h) (Or.inr ⟨by rfl, rfl⟩) hHeld ?_
          try simp only [Act.put, List.setIfInBounds_toArray, List.set_cons_zero, List.set_cons_succ]
          refine wpAnyH_take (i := 14) (v := undef) (get_ops _ _ _ rfl) (by kernel_rfl) (by kernel_rfl) (by kernel_rfl) (fun _ _ _ h => h) (Or.inr ⟨by rfl, rfl⟩) hHeld ?_
          try simp only [Act.put, List.setIfInBounds_toArray, List.set_cons_zero, List.set_cons_succ]
          refine wpAnyH_take (i := 15) (v := undef) (get_ops _ _ _ rfl) (by kernel_rfl) (by kernel_rfl) (by kernel_rfl) (fun _ _ _ h => h) (Or.inr ⟨by rfl, rfl⟩) hHeld ?_
          try simp only [Act.put, List.setIfInBounds_toArray, List.set_cons_zero, List.set_cons_succ]
          refine wpAnyH_take (i := 16) (v := undef) (get_ops _ _ _ rfl) (by kernel_rfl) (by kernel_rfl) (by kernel_rfl) (fun _ _ _ h => h) (Or.inr ⟨by rfl, rfl⟩) hHeld ?_
          try simp only [Act.put, List.setIfInBounds_toArray, List.set_cons_zero, List.set_cons_succ]
          refine wpAnyH_take (i := 17) (v := undef) (get_ops _ _ _ rfl) (by kernel_rfl) (by kernel_rfl) (by kernel_rfl) (fun _ _ _ h => h) (Or.inr ⟨by rfl, rfl⟩) hHeld ?_
          try simp only [Act.put, List.setIfInBounds_toArray, List.set_cons_zero, List.set_cons_succ]
          refine wpAnyH_take (i := 18) (v := undef) (get_ops _ _ _ rfl) (by kernel_rfl) (by kernel_rfl) (by kernel_rfl) (fun _ _ _ h => h) (Or.inr ⟨by rfl, rfl⟩) hHeld ?_
          try simp only [Act.put, List.setIfInBounds_toArray, List.set_cons_zero, List.set_cons_succ]
          refine wpAnyH_take (i := 19) (v := undef) (get_ops _ _ _ rfl) (by kernel_rfl) (by kernel_rfl) (by kernel_rfl) (fun _ _ _ h => h) (Or.inr ⟨by rfl, rfl⟩) hHeld ?_
          try simp only [Act.put, List.setIfInBounds_toArray, List.set_cons_zero, List.set_cons_succ]
          refine wpAnyH_take (i := 20) (v := undef) (get_ops _ _ _ rfl) (by kernel_rfl) (by kernel_rfl) (by kernel_rfl) (fun _ _ _ h => h) (Or.inr ⟨by rfl, rfl⟩) hHeld ?_
          try simp only [Act.put, List.setIfInBounds_toArray, List.set_cons_zero, List.set_cons_succ]
          refine wpAnyH_take (i := 21) (v := undef) (get_ops _ _ _ rfl) (by kernel_rfl) (by kernel_rfl) (by kernel_rfl) (fun _ _ _ h => h) (Or.inr ⟨by rfl, rfl⟩) hHeld ?_
          try simp only [Act.put, List.setIfInBounds_toArray, List.set_cons_zero, List.set_cons_succ]
          refine wpAnyH_take (i := 22) (v := undef) (get_ops _ _ _ rfl) (by kernel_rfl) (by kernel_rfl) (by kernel_rfl) (fun _ _ _ h => h) (Or.inr ⟨by rfl, rfl⟩) hHeld ?_
          try simp only [Act.put, List.setIfInBounds_toArray, List.set_cons_zero, List.set_cons_succ]
          refine wpAnyH_take (i := 23) (v := undef) (get_ops _ _ _ rfl) (by kernel_rfl) (by kernel_rfl) (by kernel_rfl) (fun _ _ _ h => h) (Or.inr ⟨by rfl, rfl⟩) hHeld ?_
          try simp only [Act.put, List.setIfInBounds_toArray, List.set_cons_zero, List.set_cons_succ]
          refine wpAnyH_take (i := 24) (v := undef) (get_ops _ _ _ rfl) (by kernel_rfl) (by kernel_rfl) (by kernel_rfl) (fun _ _ _ h => h) (Or.inr ⟨by rfl, rfl⟩) hHeld ?_
          try simp only [Act.put, List.setIfInBounds_toArray, List.set_cons_zero, List.set_cons_succ]
          refine wpAnyH_take (i := 25) (v := undef) (get_ops _ _ _ rfl) (by kernel_rfl) (by kernel_rfl) (by kernel_rfl) (fun _ _ _ h => h) (Or.inr ⟨by rfl, rfl⟩) hHeld ?_
          try simp only [Act.put, List.setIfInBounds_toArray, List.set_cons_zero, List.set_cons_succ]
          refine wpAnyH_take (i := 26) (v := undef) (get_ops _ _ _ rfl) (by kernel_rfl) (by kernel_rfl) (by kernel_rfl) (fun _ _ _ h => h) (Or.inr ⟨by rfl, rfl⟩) hHeld ?_
          try simp only [Act.put, List.setIfInBounds_toArray, List.set_cons_zero, List.set_cons_succ]
          refine wpAnyH_take (i := 27) (v := undef) (get_ops _ _ _ rfl) (by kernel_rfl) (by kernel_rfl) (by kernel_rfl) (fun _ _ _ h => h) (Or.inr ⟨by rfl, rfl⟩) hHeld ?_
          try simp only [Act.put, List.setIfInBounds_toArray, List.set_cons_zero, List.set_cons_succ]
          refine wpAnyH_take (i := 28) (v := undef) (get_ops _ _ _ rfl) (by kernel_rfl) (by kernel_rfl) (by kernel_rfl) (fun _ _ _ h => h) (Or.inr ⟨by rfl, rfl⟩) hHeld ?_
          try simp only [Act.put, List.setIfInBounds_toArray, List.set_cons_zero, List.set_cons_succ]
          refine wpAnyH_take (i := 29) (v := undef) (get_ops _ _ _ rfl) (by kernel_rfl) (by kernel_rfl) (by kernel_rfl) (fun _ _ _ h => h) (Or.inr ⟨by rfl, rfl⟩) hHeld ?_
          try simp only [Act.put, List.setIfInBounds_toArray, List.set_cons_zero, List.set_cons_succ]
          refine wpAnyH_take (i := 30) (v := undef) (get_ops _ _ _ rfl) (by kernel_rfl) (by kernel_rfl) (by kernel_rfl) (fun _ _ _ h => h) (Or.inr ⟨by rfl, rfl⟩) hHeld ?_
          try simp only [Act.put, List.setIfInBounds_toArray, List.set_cons_zero, List.set_cons_succ]
          refine wpAnyH_take (i := 31) (v := undef) (get_ops _ _ _ rfl) (by kernel_rfl) (by kernel_rfl) (by kernel_rfl) (fun _ _ _ h => h) (Or.inr ⟨by rfl, rfl⟩) hHeld ?_
          try simp only [Act.put, List.setIfInBounds_toArray, List.set_cons_zero, List.set_cons_succ]
          refine wpAnyH_take (i := 32) (v := undef) (get_ops _ _ _ rfl) (by kernel_rfl) (by kernel_rfl) (by kernel_rfl) (fun _ _ _ h => h) (Or.inr ⟨by rfl, rfl⟩) hHeld ?_
          try simp only [Act.put, List.setIfInBounds_toArray, List.set_cons_zero, List.set_cons_succ]
          refine wpAnyH_take (i := 33) (v := undef) (get_ops _ _ _ rfl) (by kernel_rfl) (by kernel_rfl) (by kernel_rfl) (fun _ _ _ h => h) (Or.inr ⟨by rfl, rfl⟩) hHeld ?_
          try simp only [Act.put, List.setIfInBounds_toArray, List.set_cons_zero, List.set_cons_succ]
          refine wpAnyH_take (i := 34) (v := undef) (get_ops _ _ _ rfl) (by kernel_rfl) (by kernel_rfl) (by kernel_rfl) (fun _ _ _ h => h) (Or.inr ⟨by rfl, rfl⟩) hHeld ?_
          try simp only [Act.put, List.setIfInBounds_toArray, List.set_cons_zero, List.set_cons_succ]
          refine wpAnyH_take (i := 35) (v := undef) (get_ops _ _ _ rfl) (by kernel_rfl) (by kernel_rfl) (by kernel_rfl) (fun _ _ _ h => h) (Or.inr ⟨by rfl, rfl⟩) hHeld ?_
          try simp only [Act.put, List.setIfInBounds_toArray, List.set_cons_zero, List.set_cons_succ]
          refine wpAnyH_take (i := 36) (v := .bool false) (get_ops _ _ _ rfl) (by kernel_rfl) (by kernel_rfl) (by kernel_rfl) (fun _ _ _ h => h) (Or.inl ⟨by rfl, fun wS hSw => by (try dsimp only at hSw); go_simp⟩) hHeld ?_
          try simp only [Act.put, List.setIfInBounds_toArray, List.set_cons_zero, List.set_cons_succ]
          refine wpAnyH_take (i := 37) (v := .bool false) (get_ops _ _ _ rfl) (by kernel_rfl) (by kernel_rfl) (by kernel_rfl) (fun _ _ _ h => h) (Or.inl ⟨by rfl, fun wS hSw => by (try dsimp only at hSw); go_simp⟩) hHeld ?_
          try simp only [Act.put, List.setIfInBounds_toArray, List.set_cons_zero, List.set_cons_succ]
          refine wpAnyH_done (by kernel_rfl) ?_ _
          go_wp2_with fail
          go_meet
          exact ⟨rfl, V_y1.out, S_y1.out, B_y1.out⟩
        · obtain ⟨hys2, rfl⟩ := Prod.mk.inj hrm
          have hat : at1 = (i : Int) := by rw [← HAT1.out, hf]; rfl
          subst hat
          obtain ⟨ys2, rfl⟩ : ∃ z, z = YS := ⟨_, rfl⟩
          have hyl : ys2.length = xs.length - 1 := by rw [hys2, List.length_eraseIdx, if_pos hi]
          have HT1 : Hid (ys2.take i = xs.take i) := Lib.hid (by rw [hys2, erase_eq, List.take_left' (by rw [List.length_take]; omega)])
          have HD1 : Hid (ys2.drop i = xs.drop (i + 1)) := Lib.hid (by rw [hys2, erase_eq, List.drop_left' (by rw [List.length_take]; omega)])
          have HYL2 := Lib.hid hyl
          clear hyl hys2 hf HFO HAT1
          have hyl := HYL2.out
          have m0 : decide ((0 : Int) ≤ (i : Int)) = true := decide_eq_true (by omega)
          have m1 : wrap64 ((xs.length : Int) - 1) = (xs.length : Int) - 1 := S2.wrap64_id _ (by omega) (by omega)
          have m1' : IntKind.i64.wrap ((xs.length : Int) - 1) = (xs.length : Int) - 1 := S2.wrap_i64_id _ (by omega) (by omega)
          have m2 : ((ys2.length : Int) != (xs.length : Int) - 1) = false := by rw [hyl]; simp; omega
          have m3 : (0 : Int) ≤ (i : Int) := by omega
          have m4 : (i : Int) ≤ (c14 : Int) := by have := HC14.out; omega
          have m5 : (i : Int) ≤ (c : Int) := by have := HCC.out; omega
          have m4' : decide ((i : Int) ≤ (c14 : Int)) = true := decide_eq_true m4
          have m5' : decide ((i : Int) ≤ (c : Int)) = true := decide_eq_true m5
          have m6 : (i : Int) ≤ (ys2.length : Int) := by omega
          have m7 : wrap64 ((i : Int) + 1) = (i : Int) + 1 := S2.wrap64_id _ (by omega) (by omega)
          have m7' : IntKind.i64.wrap ((i : Int) + 1) = (i : Int) + 1 := S2.wrap_i64_id _ (by omega) (by omega)
          have m8 : (0 : Int) ≤ (i : Int) + 1 := by omega
          have m9 : (i : Int) + 1 ≤ (xs.length : Int) := by omega
          obtain ⟨ts, hts⟩ : ∃ ts, xs.take i = ts := ⟨_, rfl⟩
          obtain ⟨ds, hds⟩ : ∃ ds, xs.drop (i + 1) = ds := ⟨_, rfl⟩
          have htl : ts.length = i := by rw [← hts, List.length_take]; omega
          have hdl1 : ds.length = ys2.length - i := by rw [← hds, List.length_drop]; omega
          have hdl2 : ds.length = xs.length - (i + 1) := by rw [← hds, List.length_drop]
          obtain ⟨AD1, hAD1⟩ : ∃ AD, AD = (if c14 = i then A14 else A14.map (·.add (i * 5))) := ⟨_, rfl⟩
          obtain ⟨AD2, hAD2⟩ : ∃ AD, AD = (if c = i + 1 then A else A.map (·.add ((i + 1) * 5))) := ⟨_, rfl⟩
          obtain ⟨cd1, hcd1⟩ : ∃ cd, cd = c14 - i := ⟨_, rfl⟩
          obtain ⟨cd2, hcd2⟩ : ∃ cd, cd = c - (i + 1) := ⟨_, rfl⟩
          have HDE1 : Hid (Value.slice AD1 ds.length cd1 = .slice (if c14 = i then A14 else A14.map (·.add (i * 5))) (ys2.length - i) (c14 - i)) := Lib.hid (by rw [hAD1, hcd1, hdl1])
          have HDE2 : Hid (Value.slice AD2 ds.length cd2 = .slice (if c = i + 1 then A else A.map (·.add ((i + 1) * 5))) (xs.length - (i + 1)) (c - (i + 1))) := Lib.hid (by rw [hAD2, hcd2, hdl2])
          have HTA : Hid (∀ w1, CsL w1 w1.heap.size A14 ys2 → CsL w1 w1.heap.size A14 ts) := Lib.hid (fun w1 h1 => by rw [← hts, ← HT1.out]; exact GL.take h1 i)
          have HTB : Hid (∀ w1, CsL w1 w1.heap.size A xs → CsL w1 w1.heap.size A ts) := Lib.hid (fun w1 h1 => by rw [← hts]; exact GL.take h1 i)
          have HDA : Hid (∀ w1, CsL w1 w1.heap.size A14 ys2 → CsL w1 w1.heap.size AD1 ds) := Lib.hid (fun w1 h1 => by rw [← hds, ← HD1.out, hAD1]; exact GLdrop h1 (by omega) HC14.out)
          have HDB : Hid (∀ w1, CsL w1 w1.heap.size A xs → CsL w1 w1.heap.size AD2 ds) := Lib.hid (fun w1 h1 => by rw [← hds, hAD2]; exact GLdrop h1 (by omega) HCC.out)
          have hts32 : ts.length ≤ 1000000 := by omega
          have hds32 : ds.length ≤ 1000000 := by omega
          have HET := Lib.hid (fun w1 h1 h2 => HEQ.out A14 A c14 c ts w1 (HTA.out w1 h1) (HTB.out w1 h2) hts32)
          have HED := Lib.hid (fun w1 h1 h2 => HEQ.out AD1 AD2 cd1 cd2 ds w1 (HDA.out w1 h1) (HDB.out w1 h2) hds32)
          rw [htl] at HET
          clear hyl hrm hts hds hAD1 hAD2 hcd1 hcd2 HT1 HD1 hdl1 hdl2 htl hts32 hds32 HTA HTB HDA HDB
          obtain ⟨y1, hy1⟩ : ∃ y1, y1 = World.drew w5 := ⟨_, rfl⟩
          have hbD : Below w5.heap.size w5 y1 := by rw [hy1]; exact (Below.refl _ _).drew
          have V_y1 : Hid (BK 25 y1 w.heap.size (gC x)) := Lib.hid (V_w5.out.step hbD)
          have S_y1 : Hid (CsL y1 y1.heap.size A xs) := Lib.hid (GL.step S_w5.out hbD)
          have B_y1 : Hid (Below w.heap.size w y1) := Lib.hid (stepB B_w5.out hbD)
          have P_y1 : Hid (CsL y1 y1.heap.size A14 ys2) := Lib.hid (GL.step P_w5.out hbD)
          clear V_w5 S_w5 B_w5 P_w5
          have hbd : (fun w' => BK 25 w' w.heap.size (gC x)) (World.drew w5) := by rw [← hy1]; exact V_y1.out
          have hSD : (fun w' => BK 25 w' w.heap.size (gC x)) y1 := V_y1.out
          have HWD := Lib.hid hy1
          clear hy1 hbD
          refine wp_region_held_drew (S := fun w' => BK 25 w' w.heap.size (gC x)) (by kernel_rfl) hbd (fun hHeld => ?_)
          rw [← HWD.out]
          clear hHeld
          have hHeld := hSD
          clear hSD hbd HWD
          refine wpAnyH_take (i := 0) (v := .int .i64 0) (get_ops _ _ _ rfl) (by kernel_rfl) (by kernel_rfl) (by kernel_rfl) (fun _ _ _ h => h) (Or.inl ⟨by rfl, fun wS hSw => by (try dsimp only at hSw); go_simp⟩) hHeld ?_
          try simp only [Act.put, List.setIfInBounds_toArray, List.set_cons_zero, List.set_cons_succ]
          refine wpAnyH_take (i := 1) (v := .bool true) (get_ops _ _ _ rfl) (by kernel_rfl) (by kernel_rfl) (by kernel_rfl) (fun _ _ _ h => h) (Or.inl ⟨by rfl, fun wS hSw => by (try dsimp only at hSw); go_simp⟩) hHeld ?_
          try simp only [Act.put, List.setIfInBounds_toArray, List.set_cons_zero, List.set_cons_succ]
          refine wpAnyH_take (i := 2) (v := .int .i64 i) (get_ops _ _ _ rfl) (by kernel_rfl) (by kernel_rfl) (by kernel_rfl) (fun _ _ _ h => h) (Or.inl ⟨by rfl, fun wS hSw => by (try dsimp only at hSw); go_simp⟩) hHeld ?_
          try simp only [Act.put, List.setIfInBounds_toArray, List.set_cons_zero, List.set_cons_succ]
          refine wpAnyH_take (i := 3) (v := .bool true) (get_ops _ _ _ rfl) (by kernel_rfl) (by kernel_rfl) (by kernel_rfl) (fun _ _ _ h => h) (Or.inl ⟨by rfl, fun wS hSw => by (try dsimp only at hSw); go_simp⟩) hHeld ?_
          try simp only [Act.put, List.setIfInBounds_toArray, List.set_cons_zero, List.set_cons_succ]
          refine wpAnyH_take (i := 4) (v := .bool false) (get_ops _ _ _ rfl) (by kernel_rfl) (by kernel_rfl) (by kernel_rfl) (fun _ _ _ h => h) (Or.inl ⟨by rfl, fun wS hSw => by (try dsimp only at hSw); go_simp⟩) hHeld ?_
          try simp only [Act.put, List.setIfInBounds_toArray, List.set_cons_zero, List.set_cons_succ]
          refine wpAnyH_take (i := 5) (v := .bool false) (get_ops _ _ _ rfl) (by kernel_rfl) (by kernel_rfl) (by kernel_rfl) (fun _ _ _ h => h) (Or.inl ⟨by rfl, fun wS hSw => by (try dsimp only at hSw); go_simp⟩) hHeld ?_
          try simp only [Act.put, List.setIfInBounds_toArray, List.set_cons_zero, List.set_cons_succ]
          refine wpAnyH_take (i := 6) (v := .int .i64 0) (get_ops _ _ _ rfl) (by kernel_rfl) (by kernel_rfl) (by kernel_rfl) (fun _ _ _ h => h) (Or.inl ⟨by rfl, fun wS hSw => by (try dsimp only at hSw); go_simp⟩) hHeld ?_
          try simp only [Act.put, List.setIfInBounds_toArray, List.set_cons_zero, List.set_cons_succ]
          refine wpAnyH_take (i := 7) (v := .bool true) (get_ops _ _ _ rfl) (by kernel_rfl) (by kernel_rfl) (by kernel_rfl) (fun _ _ _ h => h) (Or.inl ⟨by rfl, fun wS hSw => by (try dsimp only at hSw); go_simp⟩) hHeld ?_
          try simp only [Act.put, List.setIfInBounds_toArray, List.set_cons_zero, List.set_cons_succ]
          refine wpAnyH_take (i := 8) (v := .bool true) (get_ops _ _ _ rfl) (by kernel_rfl) (by kernel_rfl) (by kernel_rfl) (fun _ _ _ h => h) (Or.inl ⟨by rfl, fun wS hSw => by (try dsimp only at hSw); go_simp⟩) hHeld ?_
          try simp only [Act.put, List.setIfInBounds_toArray, List.set_cons_zero, List.set_cons_succ]
          refine wpAnyH_take (i := 9) (v := .slice A14 ys2.length c14) (get_ops _ _ _ rfl) (by kernel_rfl) (by kernel_rfl) (by kernel_rfl) (fun _ _ _ h => h) (Or.inl ⟨by rfl, fun wS hSw => by (try dsimp only at hSw); go_simp⟩) hHeld ?_
          try simp only [Act.put, List.setIfInBounds_toArray, List.set_cons_zero, List.set_cons_succ]
          refine wpAnyH_take (i := 10) (v := .int .i64 ys2.length) (get_ops _ _ _ rfl) (by kernel_rfl) (by kernel_rfl) (by kernel_rfl) (fun _ _ _ h => h) (Or.inl ⟨by rfl, fun wS hSw => by (try dsimp only at hSw); go_simp⟩) hHeld ?_
          try simp only [Act.put, List.setIfInBounds_toArray, List.set_cons_zero, List.set_cons_succ]
          refine wpAnyH_take (i := 11) (v := .slice A xs.length c) (get_ops _ _ _ rfl) (by kernel_rfl) (by kernel_rfl) (by kernel_rfl) (fun _ _ _ h => h) (Or.inl ⟨by rfl, fun wS hSw => by (try dsimp only at hSw); go_simp⟩) hHeld ?_
          try simp only [Act.put, List.setIfInBounds_toArray, List.set_cons_zero, List.set_cons_succ]
          refine wpAnyH_take (i := 12) (v := .int .i64 xs.length) (get_ops _ _ _ rfl) (by kernel_rfl) (by kernel_rfl) (by kernel_rfl) (fun _ _ _ h => h) (Or.inl ⟨by rfl, fun wS hSw => by (try dsimp only at hSw); go_simp⟩) hHeld ?_
          try simp only [Act.put, List.setIfInBounds_toArray, List.set_cons_zero, List.set_cons_succ]
          refine wpAnyH_take (i := 13) (v := .int .i64 ((xs.length : Int) - 1)) (get_ops _ _ _ rfl) (by kernel_rfl) (by kernel_rfl) (by kernel_rfl) (fun _ _ _ h => h) (Or.inl ⟨by rfl, fun wS hSw => by (try dsimp only at hSw); go_simp⟩) hHeld ?_
          try simp only [Act.put, List.setIfInBounds_toArray, List.set_cons_zero, List.set_cons_succ]
          refine wpAnyH_take (i := 14) (v := .bool false) (get_ops _ _ _ rfl) (by kernel_rfl) (by kernel_rfl) (by kernel_rfl) (fun _ _ _ h => h) (Or.inl ⟨by rfl, fun wS hSw => by (try dsimp only at hSw); go_simp⟩) hHeld ?_
          try simp only [Act.put, List.setIfInBounds_toArray, List.set_cons_zero, List.set_cons_succ]
          refine wpAnyH_take (i := 15) (v := .bool false) (get_ops _ _ _ rfl) (by kernel_rfl) (by kernel_rfl) (by kernel_rfl) (fun _ _ _ h => h) (Or.inl ⟨by rfl, fun wS hSw => by (try dsimp only at hSw); go_simp⟩) hHeld ?_
          try simp only [Act.put, List.setIfInBounds_toArray, List.set_cons_zero, List.set_cons_succ]
          refine wpAnyH_take (i := 16) (v := .slice A14 ys2.length c14) (get_ops _ _ _ rfl) (by kernel_rfl) (by kernel_rfl) (by kernel_rfl) (fun _ _ _ h => h) (Or.inl ⟨by rfl, fun wS hSw => by (try dsimp only at hSw); go_simp⟩) hHeld ?_
          try simp only [Act.put, List.setIfInBounds_toArray, List.set_cons_zero, List.set_cons_succ]
          refine wpAnyH_take (i := 17) (v := .int .i64 i) (get_ops _ _ _ rfl) (by kernel_rfl) (by kernel_rfl) (by kernel_rfl) (fun _ _ _ h => h) (Or.inl ⟨by rfl, fun wS hSw => by (try dsimp only at hSw); go_simp⟩) hHeld ?_
          try simp only [Act.put, List.setIfInBounds_toArray, List.set_cons_zero, List.set_cons_succ]
          refine wpAnyH_take (i := 18) (v := .slice A14 i c14) (get_ops _ _ _ rfl) (by kernel_rfl) (by kernel_rfl) (by kernel_rfl) (fun _ _ _ h => h) (Or.inl ⟨by rfl, fun wS hSw => by (try dsimp only at hSw); go_simp⟩) hHeld ?_
          try simp only [Act.put, List.setIfInBounds_toArray, List.set_cons_zero, List.set_cons_succ]
          refine wpAnyH_take (i := 19) (v := .slice A xs.length c) (get_ops _ _ _ rfl) (by kernel_rfl) (by kernel_rfl) (by kernel_rfl) (fun _ _ _ h => h) (Or.inl ⟨by rfl, fun wS hSw => by (try dsimp only at hSw); go_simp⟩) hHeld ?_
          try simp only [Act.put, List.setIfInBounds_toArray, List.set_cons_zero, List.set_cons_succ]
          refine wpAnyH_take (i := 20) (v := .int .i64 i) (get_ops _ _ _ rfl) (by kernel_rfl) (by kernel_rfl) (by kernel_rfl) (fun _ _ _ h => h) (Or.inl ⟨by rfl, fun wS hSw => by (try dsimp only at hSw); go_simp⟩) hHeld ?_
          try simp only [Act.put, List.setIfInBounds_toArray, List.set_cons_zero, List.set_cons_succ]
          refine wpAnyH_take (i := 21) (v := .slice A i c) (get_ops _ _ _ rfl) (by kernel_rfl) (by kernel_rfl) (by kernel_rfl) (fun _ _ _ h => h) (Or.inl ⟨by rfl, fun wS hSw => by (try dsimp only at hSw); go_simp⟩) hHeld ?_
          try simp only [Act.put, List.setIfInBounds_toArray, List.set_cons_zero, List.set_cons_succ]
          refine wpAnyH_ready (rs := [22]) (by kernel_rfl) (by simp) ?_
          refine (AllReadyH.cons (get_ops _ _ _ rfl) (fun K hK => ?_) AllReadyH.nil)
          go_simp
          refine (HET.out y1 P_y1.out S_y1.out).mono ?_
          rintro e y2 ⟨rfl, hb⟩
          have V_y2 : Hid (BK 25 y2 w.heap.size (gC x)) := Lib.hid (V_y1.out.step hb)
          have S_y2 : Hid (CsL y2 y2.heap.size A xs) := Lib.hid (GL.step S_y1.out hb)
          have B_y2 : Hid (Below w.heap.size w y2) := Lib.hid (stepB B_y1.out hb)
          have P_y2 : Hid (CsL y2 y2.heap.size A14 ys2) := Lib.hid (GL.step P_y1.out hb)
          clear V_y1 S_y1 B_y1 P_y1
          clear hHeld hb
          go_wp2_with fail
          refine hK.out _ _ V_y2.out (fun hHeld => ?_)
          clear hK K
          try simp only [Act.put, List.setIfInBounds_toArray, List.set_cons_zero, List.set_cons_succ]
          refine wpAnyH_take (i := 23) (v := .bool false) (get_ops _ _ _ rfl) (by kernel_rfl) (by kernel_rfl) (by kernel_rfl) (fun _ _ _ h => h) (Or.inl ⟨by rfl, fun wS hSw => by (try dsimp only at hSw); go_simp⟩) hHeld ?_
          try simp only [Act.put, List.setIfInBounds_toArray, List.set_cons_zero, List.set_cons_succ]
          refine wpAnyH_take (i := 24) (v := .bool false) (get_ops _ _ _ rfl) (by kernel_rfl) (by kernel_rfl) (by kernel_rfl) (fun _ _ _ h => h) (Or.inl ⟨by rfl, fun wS hSw => by (try dsimp only at hSw); go_simp⟩) hHeld ?_
          try simp only [Act.put, List.setIfInBounds_toArray, List.set_cons_zero, List.set_cons_succ]
          refine wpAnyH_take (i := 25) (v := .bool false) (get_ops _ _ _ rfl) (by kernel_rfl) (by kernel_rfl) (by kernel_rfl) (fun _ _ _ h => h) (Or.inl ⟨by rfl, fun wS hSw => by (try dsimp only at hSw); go_simp⟩) hHeld ?_
          try simp only [Act.put, List.setIfInBounds_toArray, List.set_cons_zero, List.set_cons_succ]
          refine wpAnyH_take (i := 26) (v := .slice A14 ys2.length c14) (get_ops _ _ _ rfl) (by kernel_rfl) (by kernel_rfl) (by kernel_rfl) (fun _ _ _ h => h) (Or.inl ⟨by rfl, fun wS hSw => by (try dsimp only at hSw); go_simp⟩) hHeld ?_
          try simp only [Act.put, List.setIfInBounds_toArray, List.set_cons_zero, List.set_cons_succ]
          refine wpAnyH_take (i := 27) (v := .int .i64 i) (get_ops _ _ _ rfl) (by kernel_rfl) (by kernel_rfl) (by kernel_rfl) (fun _ _ _ h => h) (Or.inl ⟨by rfl, fun wS hSw => by (try dsimp only at hSw); go_simp⟩) hHeld ?_
          try simp only [Act.put, List.setIfInBounds_toArray, List.set_cons_zero, List.set_cons_succ]
          refine wpAnyH_take (i := 28) (v := (.slice AD1 ds.length cd1)) (get_ops _ _ _ rfl) (by kernel_rfl) (by kernel_rfl) (by kernel_rfl) (fun _ _ _ h => h) (Or.inl ⟨by rfl, fun wS hSw => by (try dsimp only at hSw); rw [HDE1.out]; go_simp⟩) hHeld ?_
          try simp only [Act.put, List.setIfInBounds_toArray, List.set_cons_zero, List.set_cons_succ]
          refine wpAnyH_take (i := 29) (v := .slice A xs.length c) (get_ops _ _ _ rfl) (by kernel_rfl) (by kernel_rfl) (by kernel_rfl) (fun _ _ _ h => h) (Or.inl ⟨by rfl, fun wS hSw => by (try dsimp only at hSw); go_simp⟩) hHeld ?_
          try simp only [Act.put, List.setIfInBounds_toArray, List.set_cons_zero, List.set_cons_succ]
          refine wpAnyH_take (i := 30) (v := .int .i64 i) (get_ops _ _ _ rfl) (by kernel_rfl) (by kernel_rfl) (by kernel_rfl) (fun _ _ _ h => h) (Or.inl ⟨by rfl, fun wS hSw => by (try dsimp only at hSw); go_simp⟩) hHeld ?_
          try simp only [Act.put, List.setIfInBounds_toArray, List.set_cons_zero, List.set_cons_succ]
          refine wpAnyH_take (i := 31) (v := .int .i64 ((i : Int) + 1)) (get_ops _ _ _ rfl) (by kernel_rfl) (by kernel_rfl) (by kernel_rfl) (fun _ _ _ h => h) (Or.inl ⟨by rfl, fun wS hSw => by (try dsimp only at hSw); go_simp⟩) hHeld ?_
          try simp only [Act.put, List.setIfInBounds_toArray, List.set_cons_zero, List.set_cons_succ]
          refine wpAnyH_take (i := 32) (v := (.slice AD2 ds.length cd2)) (get_ops _ _ _ rfl) (by kernel_rfl) (by kernel_rfl) (by kernel_rfl) (fun _ _ _ h => h) (Or.inl ⟨by rfl, fun wS hSw => by (try dsimp only at hSw); rw [HDE2.out]; go_simp⟩) hHeld ?_
          try simp only [Act.put, List.setIfInBounds_toArray, List.set_cons_zero, List.set_cons_succ]
          refine wpAnyH_ready (rs := [33]) (by kernel_rfl) (by simp) ?_
          refine (AllReadyH.cons (get_ops _ _ _ rfl) (fun K hK => ?_) AllReadyH.nil)
          go_simp
          refine (HED.out y2 P_y2.out S_y2.out).mono ?_
          rintro e y3 ⟨rfl, hb⟩
          have V_y3 : Hid (BK 25 y3 w.heap.size (gC x)) := Lib.hid (V_y2.out.step hb)
          have S_y3 : Hid (CsL y3 y3.heap.size A xs) := Lib.hid (GL.step S_y2.out hb)
          have B_y3 : Hid (Below w.heap.size w y3) := Lib.hid (stepB B_y2.out hb)
          have P_y3 : Hid (CsL y3 y3.heap.size A14 ys2) := Lib.hid (GL.step P_y2.out hb)
          clear V_y2 S_y2 B_y2 P_y2
          clear hHeld hb
          go_wp2_with fail
          refine hK.out _ _ V_y3.out (fun hHeld => ?_)
          clear hK K
          try simp only [Act.put, List.setIfInBounds_toArray, List.set_cons_zero, List.set_cons_succ]
          refine wpAnyH_take (i := 34) (v := .bool false) (get_ops _ _ _ rfl) (by kernel_rfl) (by kernel_rfl) (by kernel_rfl) (fun _ _ _ h => h) (Or.inl ⟨by rfl, fun wS hSw => by (try dsimp only at hSw); go_simp⟩) hHeld ?_
          try simp only [Act.put, List.setIfInBounds_toArray, List.set_cons_zero, List.set_cons_succ]
          refine wpAnyH_take (i := 35) (v := .bool false) (get_ops _ _ _ rfl) (by kernel_rfl) (by kernel_rfl) (by kernel_rfl) (fun _ _ _ h => h) (Or.inl ⟨by rfl, fun wS hSw => by (try dsimp only at hSw); go_simp⟩) hHeld ?_
          try simp only [Act.put, List.setIfInBounds_toArray, List.set_cons_zero, List.set_cons_succ]
          refine wpAnyH_take (i := 36) (v := .bool false) (get_ops _ _ _ rfl) (by kernel_rfl) (by kernel_rfl) (by kernel_rfl) (fun _ _ _ h => h) (Or.inl ⟨by rfl, fun wS hSw => by (try dsimp only at hSw); go_simp⟩) hHeld ?_
          try simp only [Act.put, List.setIfInBounds_toArray, List.set_cons_zero, List.set_cons_succ]
          refine wpAnyH_take (i := 37) (v := .bool false) (get_ops _ _ _ rfl) (by kernel_rfl) (by kernel_rfl) (by kernel_rfl) (fun _ _ _ h => h) (Or.inl ⟨by rfl, fun wS hSw => by (try dsimp only at hSw); go_simp⟩) hHeld ?_
          try simp only [Act.put, List.setIfInBounds_toArray, List.set_cons_zero, List.set_cons_succ]
          refine wpAnyH_done (by kernel_rfl) ?_ _
          go_wp2_with fail
          go_meet
          exact ⟨rfl, V_y3.out, S_y3.out, B_y3.out⟩
      | succ gk =>
        have hlt : k < xs.length := by omega
        have e3 : decide ((k : Int) < (xs.length : Int)) = true := decide_eq_true (by omega)
        obtain ⟨y, hy⟩ : ∃ y, xs[k]? = some y := ⟨_, List.getElem?_eq_getElem hlt⟩
        have HFN := Lib.hid (fn_next (cn := x.conn) (tg := x.tag) HV.out hy)
        obtain ⟨b, o, hA, hbB, hcl⟩ := CsL.at_ S_wr.out hy
        have HLD := Lib.hid (load_cs hcl)
        have i1 : (0 : Int) ≤ (k : Int) := by omega
        have i2 : (k : Int) < (xs.length : Int) := by omega
        have p1 : (y.conn == x.conn) = decide (y.conn = x.conn) := eqI _ _
        have p2 : (y.tag == x.tag) = decide (y.tag = x.tag) := eqI _ _
        have HIS : Hid (isC x.conn x.tag y = (decide (y.conn = x.conn) && decide (y.tag = x.tag))) := Lib.hid rfl
        generalize decide (y.conn = x.conn) = b1 at *
        generalize decide (y.tag = x.tag) = b2 at *
        have HFY : Hid ((b1 && b2) = true → fnC (xs.take (k + 1)) x.conn x.tag = some k) := Lib.hid (fun hh => by rw [HFN.out, HIS.out, if_pos hh])
        have HFZ : Hid ((b1 && b2) = false → fnC (xs.take (k + 1)) x.conn x.tag = fnC (xs.take k) x.conn x.tag) := Lib.hid (fun hh => by rw [HFN.out, HIS.out, hh]; rfl)
        subst hA
        clear hy hcl hbB hkg HFN HIS
        cases b1 <;> cases b2
        all_goals
          go_wp2_with first
            | (refine wpList_load_v (by rfl) 25 _ rfl ⟨b, o + k * 5, none⟩ (by go_simp) _ HLD.out ?_)
            | (refine S2.wpList_store_all (by rfl) 25 (.tmp 13) (.tmp 76) rfl rfl wr.heap.size rfl (gC y) rfl 25 _ (BK.new wr _ _) conSize rfl (gC_one _) ?_; intro w9 hM hP; have hb := hP.below (S2.below_new wr _) (Nat.le_refl _); have BB_w9 := Lib.hid (stepB BB.out hb); obtain ⟨z0, z1, z2, z3, z4⟩ := cells5 hM; obtain ⟨d0, d1, d2, d3, d4⟩ := cells5 (V_wr.out.step hb); clear hM hP hb z2 z3 z4 d2 d3 d4)
        · go_roundg gk
          case measure => omega
          case rel => exact ⟨k + 1, by have := HG.out; omega, by go_num, by rw [HFZ.out (by first | exact rfl | trivial)], BB_w9.out⟩
        · go_roundg gk
          case measure => omega
          case rel => exact ⟨k + 1, by have := HG.out; omega, by go_num, by rw [HFZ.out (by first | exact rfl | trivial)], BB_w9.out⟩
        · go_roundg gk
          case measure => omega
          case rel => exact ⟨k + 1, by have := HG.out; omega, by go_num, by rw [HFZ.out (by first | exact rfl | trivial)], BB_w9.out⟩
        · go_roundg gk
          case measure => omega
          case rel => exact ⟨k + 1, by have := HG.out; omega, by go_num, by rw [HFY.out (by first | exact rfl | trivial)]; rfl, BB_w9.out⟩
end Go.Proofs.Ytjkhfifnfgchgaa
