/-
  What slices.Equal answers at exchanges, what few and SameRoutes of the statement's own functions answer; what each change of routes keeps. Conditions: lists read as data; few elements.
  The calls that the law ExchangePlays makes, in memory. No function is walked here.
-/
import Derived.Test.YtjkhfifnfgchgabGreatDoorEaM
namespace Go.Proofs.YtjkhfifnfgchgabGreatDoor
open Go.RowKit
open S2 (BK Put get_ops exec_load)

def SamC {α : Type} (xs ys : List α) (k : Nat) : Prop := xs.take k = ys.take k
theorem SamC.zero {α : Type} (xs ys : List α) : SamC xs ys 0 := rfl
theorem SamC.succ {α : Type} {xs ys : List α} {k : Nat} {x : α} (h : SamC xs ys k) (hx : xs[k]? = some x) (hy : ys[k]? = some x) : SamC xs ys (k + 1) := by
  unfold SamC at h ⊢
  rw [List.take_add_one, List.take_add_one, h, hx, hy]
theorem SamC.done {α : Type} [DecidableEq α] {xs ys : List α} (h : SamC xs ys xs.length) (hl : xs.length = ys.length) : decide (xs = ys) = true := by
  unfold SamC at h
  rw [List.take_length, hl, List.take_length] at h
  exact decide_eq_true h
theorem samC_bad {α : Type} [DecidableEq α] {xs ys : List α} {k : Nat} {x y : α} (hx : xs[k]? = some x) (hy : ys[k]? = some y) (h : x ≠ y) : decide (xs = ys) = false :=
  decide_eq_false fun e => by rw [e, hy] at hx; exact h (Option.some.inj hx).symm
theorem samC_len {α : Type} [DecidableEq α] {xs ys : List α} (h : xs.length ≠ ys.length) : decide (xs = ys) = false := decide_eq_false fun e => h (by rw [e])
set_option maxRecDepth 20000 in
set_option maxHeartbeats 4000000 in
theorem equalE_any (A A' : Option Addr) (c c' : Nat) (xs ys : List Ex) (w : World) (hx : EL w w.heap.size A xs) (hy : EL w w.heap.size A' ys) (hn : xs.length ≤ 1000000) :
    Calls Tryz.prog 47 #[.slice A xs.length c, .slice A' ys.length c'] w fun e w' => e = .returned (.bool (decide (xs = ys))) ∧ Below w.heap.size w w' := by
  by_cases hl : xs.length = ys.length
  · have HX := Lib.hid hx
    have HY := Lib.hid hy
    have HL := Lib.hid hl
    have e1 : ((xs.length : Int) != (ys.length : Int)) = false := by simp; omega
    have e1' : (xs.length != ys.length) = false := by simp; omega
    obtain ⟨R, hR⟩ : ∃ R, decide (xs = ys) = R := ⟨_, rfl⟩
    have HR0 := Lib.hid hR
    rw [hR]
    clear hx hy hl hR
    have hneq := neqEx
    have hgd := guardEx
    go_enter Tryz.func47, Tryz.ntmps47
    go_wp2
    go_loopg [13] xs.length (fun g v wr => ∃ k : Nat, k + g = xs.length ∧ v = .int .i64 k ∧ SamC xs ys k ∧ Below w.heap.size w wr)
    case atStart => exact ⟨0, by omega, rfl, SamC.zero _ _, Below.refl _ _⟩
    case round =>
      obtain ⟨k, hkg, rfl, hrel, hb⟩ := hrel
      have HR := Lib.hid hrel
      have HB := Lib.hid hb
      have HG := Lib.hid hkg
      clear hrel
      cases gk with
      | zero =>
        obtain rfl : k = xs.length := by omega
        have HV : Hid (true = R) := Lib.hid (by rw [← HR0.out]; exact (HR.out.done HL.out).symm)
        have e3 : decide ((xs.length : Int) < (xs.length : Int)) = false := decide_eq_false (by omega)
        clear hkg hb
        go_wp2_with fail
        go_ret
        exact ⟨by rw [← HV.out]; rfl, HB.out⟩
      | succ g =>
        have hlt : k < xs.length := by omega
        have hlt2 : k < ys.length := by have := HL.out; omega
        have e3 : decide ((k : Int) < (xs.length : Int)) = true := decide_eq_true (by omega)
        obtain ⟨x, hx⟩ : ∃ x, xs[k]? = some x := ⟨_, List.getElem?_eq_getElem hlt⟩
        obtain ⟨y, hy⟩ : ∃ y, ys[k]? = some y := ⟨_, List.getElem?_eq_getElem hlt2⟩
        obtain ⟨b, o, hA, hbB, hc⟩ := EL.at_ (HX.out.step hb) hx
        subst hA
        obtain ⟨b2, o2, hA2, hbB2, hc2⟩ := EL.at_ (HY.out.step hb) hy
        subst hA2
        have j1 : (0 : Int) ≤ (k : Int) := by omega
        have j2 : (k : Int) < (xs.length : Int) := by omega
        have j3 : (k : Int) < (ys.length : Int) := by omega
        have kc0 : wr.cell? ⟨b, o + k * 3, none⟩ = some (.string x.nm) := hc 0 _ rfl
        have kc1 : wr.cell? ⟨b, o + k * 3 + 1, none⟩ = some (.int .i64 x.kd) := hc 1 _ rfl
        have kc2 : wr.cell? ⟨b, o + k * 3 + 2, none⟩ = some (.string x.alt) := hc 2 _ rfl
        have kd0 : wr.cell? ⟨b2, o2 + k * 3, none⟩ = some (.string y.nm) := hc2 0 _ rfl
        have kd1 : wr.cell? ⟨b2, o2 + k * 3 + 1, none⟩ = some (.int .i64 y.kd) := hc2 1 _ rfl
        have kd2 : wr.cell? ⟨b2, o2 + k * 3 + 2, none⟩ = some (.string y.alt) := hc2 2 _ rfl
        have HXK := Lib.hid hx
        have HYK := Lib.hid hy
        have hx2 := hneq x y
        have hg2 := hgd .neq (.tmp 19) (.tmp 23) (gE x).toArray (gE y).toArray
        unfold exV gE at hx2
        unfold gE at hg2
        clear hx hy hc hc2 hbB hbB2 hkg hb hneq hgd
        by_cases hxy : x = y
        · have q1 : decide (x = y) = true := decide_eq_true hxy
          have HE := Lib.hid hxy
          rw [q1] at hx2
          clear hxy q1
          go_wp2_with fail
          go_quiet (fail)
          go_wp2
          go_roundg g
          case measure => omega
          case rel => exact ⟨k + 1, by have := HG.out; omega, by go_num, HR.out.succ HXK.out (by rw [HE.out]; exact HYK.out), stepB HB.out (S2.bDN _ _)⟩
        · have q1 : decide (x = y) = false := decide_eq_false hxy
          have HE := Lib.hid hxy
          rw [q1] at hx2
          have HV : Hid (false = R) := Lib.hid (by rw [← HR0.out]; exact (samC_bad HXK.out HYK.out hxy).symm)
          clear hxy q1
          go_wp2_with fail
          go_quiet (fail)
          go_wp2
          go_ret
          exact ⟨by rw [← HV.out]; rfl, stepB HB.out (S2.bDN _ _)⟩
  · have e1 : ((xs.length : Int) != (ys.length : Int)) = true := by simp; omega
    have e1' : (xs.length != ys.length) = true := by simp; omega
    have HV := Lib.hid (samC_len hl)
    clear hx hy hl
    go_enter Tryz.func47, Tryz.ntmps47
    go_wp2_with fail
    go_ret
    exact ⟨by rw [HV.out]; rfl, Below.refl _ _⟩

theorem equalES_any (A A' : Option Addr) (c c' : Nat) (ys : List Ex) (w : World) (hx : EL w w.heap.size A ys) (hy : EL w w.heap.size A' ys) (hn : ys.length ≤ 1000000) :
    Calls Tryz.prog 47 #[.slice A ys.length c, .slice A' ys.length c'] w fun e w' => e = .returned (.bool true) ∧ Below w.heap.size w w' :=
  (equalE_any A A' c c' ys ys w hx hy hn).mono fun e w' h => ⟨by rw [h.1, decide_eq_true rfl], h.2⟩
def fewR (n1 n2 : Nat) : Bool := decide (n1 ≤ 20) && decide (n2 ≤ 60)
theorem few_any (A1 : Option Addr) (n1 c1 : Nat) (A2 : Option Addr) (n2 c2 : Nat) (w : World) :
    Calls Tryz.prog 7 #[rtV A1 n1 c1 A2 n2 c2] w fun e w' => e = .returned (.bool (fewR n1 n2)) ∧ Below w.heap.size w w' := by
  obtain ⟨b1, h1⟩ : ∃ b, decide (n1 ≤ 20) = b := ⟨_, rfl⟩
  obtain ⟨b2, h2⟩ : ∃ b, decide (n2 ≤ 60) = b := ⟨_, rfl⟩
  have h1' : decide ((n1 : Int) ≤ 20) = b1 := by rw [← h1]; exact decide_eq_decide.2 (by omega)
  have h2' : decide ((n2 : Int) ≤ 60) = b2 := by rw [← h2]; exact decide_eq_decide.2 (by omega)
  unfold fewR rtV
  rw [h1, h2]
  go_enter Tryz.func7, Tryz.ntmps7
  go_upto_region 1 with fail
  refine name_world (C := fun w1 => Code.wp _ _ _ _ w1) (w.alloc (.cells [.slice A1 n1 c1, .slice A2 n2 c2].toArray 25)) ?_
  intro w1 hw1
  have hb : Below w.heap.size w w1 := by rw [hw1]; exact S2.below_new w _
  have hT : BK 25 w1 w.heap.size [.slice A1 n1 c1, .slice A2 n2 c2] := by rw [hw1]; exact BK.new w _ _
  have t0 := hT.cell 0 rfl
  have t1 := hT.cell 1 rfl
  have HB := Lib.hid hb
  clear hw1 hb hT
  cases b1 <;> cases b2
  all_goals
    go_wp2
    go_ret
    exact ⟨rfl, HB.out⟩
/-- the cells of a binding in a list -/
def CellsB (w : World) (b o : Nat) (y : BE) : Prop := b < w.heap.size ∧ ∀ i v, (gB y)[i]? = some v → w.cell? ⟨b, o + i, none⟩ = some v
theorem CellsB.step {w w' : World} {b o : Nat} {y : BE} (h : CellsB w b o y) (hb : Below w.heap.size w w') : CellsB w' b o y := ⟨Nat.lt_of_lt_of_le h.1 hb.size, fun i v hv => (hb.cell (p := ⟨b, o + i, none⟩) h.1).trans (h.2 i v hv)⟩
theorem map_at {xs ys : List BE} (hm : xs.map BE.d = ys.map BE.d) {k : Nat} {x y : BE} (hx : xs[k]? = some x) (hy : ys[k]? = some y) : x.d = y.d := by
  have := congrArg (·[k]?) hm
  simp only [List.getElem?_map, hx, hy] at this
  exact Option.some.inj this

set_option maxRecDepth 20000 in
set_option maxHeartbeats 8000000 in
theorem sameR_any (A1 : Option Addr) (c1 : Nat) (l : List Ex) (A2 : Option Addr) (c2 : Nat) (xs : List BE) (B1 : Option Addr) (d1 : Nat) (B2 : Option Addr) (d2 : Nat) (ys : List BE) (w : World)
    (h1 : EL w w.heap.size A1 l) (h2 : BI w w.heap.size A2 xs) (h3 : EL w w.heap.size B1 l) (h4 : BI w w.heap.size B2 ys) (hf : Few xs) (hf' : Few ys) (hm : xs.map BE.d = ys.map BE.d) (hn1 : l.length ≤ 1000000) (hn2 : xs.length ≤ 1000000) :
    Calls Tryz.prog 18 #[rtV A1 l.length c1 A2 xs.length c2, rtV B1 l.length d1 B2 ys.length d2] w fun e w' => e = .returned (.bool true) ∧ Below w.heap.size w w' := by
  have hlen : xs.length = ys.length := by have := congrArg List.length hm; rwa [List.length_map, List.length_map] at this
  have HEQ := Lib.hid (fun w1 h1 h2 => equalES_any A1 B1 c1 d1 l w1 h1 h2 hn1)
  have H1 := Lib.hid h1
  have H2 := Lib.hid h2
  have H3 := Lib.hid h3
  have H4 := Lib.hid h4
  have HF := Lib.hid hf
  have HF2 := Lib.hid hf'
  have HM := Lib.hid hm
  have HLE := Lib.hid hlen
  have HN2 := Lib.hid hn2
  have e1 : ((xs.length : Int) != (ys.length : Int)) = false := by simp; omega
  have e1' : (xs.length != ys.length) = false := by simp; omega
  clear h1 h2 h3 h4 hf hf' hm hn1 hn2 hlen
  unfold rtV
  go_enter Tryz.func18, Tryz.ntmps18
  go_upto_region 1 with fail
  refine name_world (C := fun w1 => Code.wp _ _ _ _ w1) ((w.alloc (.cells [.slice A1 l.length c1, .slice A2 xs.length c2].toArray 25)).alloc (.cells [.slice B1 l.length d1, .slice B2 ys.length d2].toArray 25)) ?_
  intro w1 hw1
  obtain ⟨u1, u2, hs0, hB0⟩ := S2.two_laid hw1
  have T_w1 := Lib.hid u1
  have U_w1 := Lib.hid u2
  have B_w1 := Lib.hid hB0
  clear hw1 u1 u2 hs0 hB0
  have t0 := T_w1.out.cell 0 rfl
  have s0 := U_w1.out.cell 0 rfl
  go_wp2_with fail
  refine (HEQ.out _ (GL.step H1.out B_w1.out) (GL.step H3.out B_w1.out)).mono ?_
  rintro e w2 ⟨rfl, hb⟩
  have T_w2 := Lib.hid (T_w1.out.step hb)
  have U_w2 := Lib.hid (U_w1.out.step hb)
  have B_w2 := Lib.hid (stepB B_w1.out hb)
  clear hb t0 s0 T_w1 U_w1 B_w1 HEQ
  have t1 := T_w2.out.cell 1 rfl
  have s1 := U_w2.out.cell 1 rfl
  go_wp2_with fail
  go_loopg [25] xs.length (fun g v wr => ∃ (k : Nat), k + g = xs.length ∧ v = .int .i64 k ∧ BK 25 wr w.heap.size [.slice A1 l.length c1, .slice A2 xs.length c2] ∧ BK 25 wr (w.heap.size + 1) [.slice B1 l.length d1, .slice B2 ys.length d2] ∧ Below w.heap.size w wr)
  case atStart => exact ⟨0, by omega, rfl, T_w2.out, U_w2.out, B_w2.out⟩
  case round =>
    obtain ⟨k, hkg, rfl, ht, hu, hb⟩ := hrel
    have T_wr := Lib.hid ht
    have U_wr := Lib.hid hu
    have B_wr := Lib.hid hb
    have HG := Lib.hid hkg
    clear ht hu hb T_w2 U_w2 B_w2 t1 s1
    cases gk with
    | zero =>
      obtain rfl : k = xs.length := by omega
      have e3 : decide ((xs.length : Int) < (xs.length : Int)) = false := decide_eq_false (by omega)
      clear hkg
      go_wp2_with fail
      go_ret
      exact ⟨rfl, B_wr.out⟩
    | succ n =>
      have hlt : k < xs.length := by omega
      have hlt2 : k < ys.length := by have := HLE.out; omega
      have e3 : decide ((k : Int) < (xs.length : Int)) = true := decide_eq_true (by omega)
      obtain ⟨x, hx⟩ : ∃ x, xs[k]? = some x := ⟨_, List.getElem?_eq_getElem hlt⟩
      obtain ⟨y, hy⟩ : ∃ y, ys[k]? = some y := ⟨_, List.getElem?_eq_getElem hlt2⟩
      have hsx := H2.out.step B_wr.out
      have hsy := H4.out.step B_wr.out
      obtain ⟨b, o, hA, hbB, hcl, hpl⟩ := hsx.at_ hx
      obtain ⟨b2, o2, hA2, hbB2, hcl2, hpl2⟩ := hsy.at_ hy
      have HLD := Lib.hid (load_bd hcl)
      have X_wr := Lib.hid (BI.inn hsx HF.out (List.mem_of_getElem? hx))
      have Y_wr := Lib.hid (BI.inn hsy HF2.out (List.mem_of_getElem? hy))
      have C_wr : Hid (CellsB wr b2 (o2 + k * 5) y) := Lib.hid ⟨hbB2, hcl2⟩
      have hd := map_at HM.out hx hy
      have HSM := Lib.hid (fun w1 h1 h2 => rSame_any x y w1 h1 h2)
      rw [decide_eq_true hd] at HSM
      subst hA
      subst hA2
      have j1 : (0 : Int) ≤ (k : Int) := by omega
      have j2 : (k : Int) < (xs.length : Int) := by omega
      have j3 : (k : Int) < (ys.length : Int) := by omega
      clear hx hy hkg hlt hlt2 hbB hcl hpl hbB2 hcl2 hpl2 hsx hsy hd
      go_upto_region 6 with first
        | (refine wpList_load_v (by rfl) 35 (.tmp 28) rfl ⟨b, o + k * 5, none⟩ (by go_simp) _ HLD.out ?_)
        | (refine S2.wpList_store_all (by rfl) 35 (.tmp 6) (.tmp 29) rfl rfl wr.heap.size rfl (gB x) rfl 35 _ (BK.new wr _ _) bdSize rfl (gB_one _) ?_; intro w4 hM hP; have hb := hP.below (S2.below_new wr _) (Nat.le_refl _); have B_w4 := Lib.hid (stepB B_wr.out hb); have V_w4 := Lib.hid hM; have T_w4 := Lib.hid (T_wr.out.step hb); have U_w4 := Lib.hid (U_wr.out.step hb); have C_w4 := Lib.hid (C_wr.out.step hb); have X_w4 := Lib.hid (X_wr.out.step hb); have Y_w4 := Lib.hid (Y_wr.out.step hb); clear hM hP hb)
      clear HLD B_wr T_wr U_wr C_wr X_wr Y_wr
      obtain ⟨x1, hx1⟩ : ∃ x1, x1 = World.drew w4 := ⟨_, rfl⟩
      have hbD : Below w4.heap.size w4 x1 := by rw [hx1]; exact (Below.refl _ _).drew
      have V_x1 : Hid (BK 35 x1 wr.heap.size (gB x)) := Lib.hid (V_w4.out.step hbD)
      have U_x1 : Hid (BK 25 x1 (w.heap.size + 1) [.slice B1 l.length d1, .slice (some ⟨b2, o2, none⟩) ys.length d2]) := Lib.hid (U_w4.out.step hbD)
      have C_x1 : Hid (CellsB x1 b2 (o2 + k * 5) y) := Lib.hid (C_w4.out.step hbD)
      have X_x1 : Hid (BIn x1 x) := Lib.hid (X_w4.out.step hbD)
      have Y_x1 : Hid (BIn x1 y) := Lib.hid (Y_w4.out.step hbD)
      have T_x1 : Hid (BK 25 x1 w.heap.size [.slice A1 l.length c1, .slice (some ⟨b, o, none⟩) xs.length c2]) := Lib.hid (T_w4.out.step hbD)
      have B_x1 : Hid (Below w.heap.size w x1) := Lib.hid (stepB B_w4.out hbD)
      clear V_w4 U_w4 C_w4 X_w4 Y_w4 T_w4 B_w4
      have hbd : (fun w' => BK 35 w' wr.heap.size (gB x) ∧ BK 25 w' (w.heap.size + 1) [.slice B1 l.length d1, .slice (some ⟨b2, o2, none⟩) ys.length d2] ∧ CellsB w' b2 (o2 + k * 5) y) (World.drew w4) := by rw [← hx1]; exact ⟨V_x1.out, U_x1.out, C_x1.out⟩
      have hSD : (fun w' => BK 35 w' wr.heap.size (gB x) ∧ BK 25 w' (w.heap.size + 1) [.slice B1 l.length d1, .slice (some ⟨b2, o2, none⟩) ys.length d2] ∧ CellsB w' b2 (o2 + k * 5) y) x1 := ⟨V_x1.out, U_x1.out, C_x1.out⟩
      have HWD := Lib.hid hx1
      clear hx1 hbD
      refine wp_region_held_drew (S := fun w' => BK 35 w' wr.heap.size (gB x) ∧ BK 25 w' (w.heap.size + 1) [.slice B1 l.length d1, .slice (some ⟨b2, o2, none⟩) ys.length d2] ∧ CellsB w' b2 (o2 + k * 5) y) (by kernel_rfl) hbd (fun hHeld => ?_)
      rw [← HWD.out]
      clear hHeld
      have hHeld := hSD
      clear hSD hbd HWD
      refine wpAnyH_take (i := 0) (v := bdV x) (get_ops _ _ _ rfl) (by kernel_rfl) (by kernel_rfl) (by kernel_rfl) (fun _ _ _ h => h) (Or.inl ⟨by rfl, fun wS hSw => by (try dsimp only at hSw); exact exec_load 35 _ rfl ⟨wr.heap.size, 0, none⟩ (by go_simp) _ (load_bd0 hSw.1)⟩) hHeld ?_
      try simp only [Act.put, List.setIfInBounds_toArray, List.set_cons_zero, List.set_cons_succ]
      refine wpAnyH_take (i := 1) (v := .pointer (some ⟨w.heap.size + 1, 1, none⟩)) (get_ops _ _ _ rfl) (by kernel_rfl) (by kernel_rfl) (by kernel_rfl) (fun _ _ _ h => h) (Or.inl ⟨by rfl, fun wS hSw => by (try dsimp only at hSw); go_simp⟩) hHeld ?_
      try simp only [Act.put, List.setIfInBounds_toArray, List.set_cons_zero, List.set_cons_succ]
      refine wpAnyH_take (i := 2) (v := .slice (some ⟨b2, o2, none⟩) ys.length d2) (get_ops _ _ _ rfl) (by kernel_rfl) (by kernel_rfl) (by kernel_rfl) (fun _ _ _ h => h) (Or.inl ⟨by rfl, fun wS hSw => by (try dsimp only at hSw); have cS : wS.cell? ⟨w.heap.size + 1, 1, none⟩ = some (.slice (some ⟨b2, o2, none⟩) ys.length d2) := hSw.2.1.cell 1 rfl; clear hSw; go_simp⟩) hHeld ?_
      try simp only [Act.put, List.setIfInBounds_toArray, List.set_cons_zero, List.set_cons_succ]
      refine wpAnyH_take (i := 3) (v := .int .i64 k) (get_ops _ _ _ rfl) (by kernel_rfl) (by kernel_rfl) (by kernel_rfl) (fun _ _ _ h => h) (Or.inl ⟨by rfl, fun wS hSw => by (try dsimp only at hSw); go_simp⟩) hHeld ?_
      try simp only [Act.put, List.setIfInBounds_toArray, List.set_cons_zero, List.set_cons_succ]
      refine wpAnyH_take (i := 4) (v := .pointer (some ⟨b2, o2 + k * 5, none⟩)) (get_ops _ _ _ rfl) (by kernel_rfl) (by kernel_rfl) (by kernel_rfl) (fun _ _ _ h => h) (Or.inl ⟨by rfl, fun wS hSw => by (try dsimp only at hSw); go_simp⟩) hHeld ?_
      try simp only [Act.put, List.setIfInBounds_toArray, List.set_cons_zero, List.set_cons_succ]
      refine wpAnyH_take (i := 5) (v := bdV y) (get_ops _ _ _ rfl) (by kernel_rfl) (by kernel_rfl) (by kernel_rfl) (fun _ _ _ h => h) (Or.inl ⟨by rfl, fun wS hSw => by (try dsimp only at hSw); exact exec_load 35 _ rfl ⟨b2, o2 + k * 5, none⟩ (by go_simp) _ (load_bd hSw.2.2.2)⟩) hHeld ?_
      try simp only [Act.put, List.setIfInBounds_toArray, List.set_cons_zero, List.set_cons_succ]
      refine wpAnyH_ready (rs := [6]) (by kernel_rfl) (by simp) ?_
      refine (AllReadyH.cons (get_ops _ _ _ rfl) (fun K hK => ?_) AllReadyH.nil)
      go_simp
      refine (HSM.out x1 X_x1.out Y_x1.out).mono ?_
      rintro e x2 ⟨rfl, hb⟩
      have V_x2 : Hid (BK 35 x2 wr.heap.size (gB x)) := Lib.hid (V_x1.out.step hb)
      have U_x2 : Hid (BK 25 x2 (w.heap.size + 1) [.slice B1 l.length d1, .slice (some ⟨b2, o2, none⟩) ys.length d2]) := Lib.hid (U_x1.out.step hb)
      have C_x2 : Hid (CellsB x2 b2 (o2 + k * 5) y) := Lib.hid (C_x1.out.step hb)
      have X_x2 : Hid (BIn x2 x) := Lib.hid (X_x1.out.step hb)
      have Y_x2 : Hid (BIn x2 y) := Lib.hid (Y_x1.out.step hb)
      have T_x2 : Hid (BK 25 x2 w.heap.size [.slice A1 l.length c1, .slice (some ⟨b, o, none⟩) xs.length c2]) := Lib.hid (T_x1.out.step hb)
      have B_x2 : Hid (Below w.heap.size w x2) := Lib.hid (stepB B_x1.out hb)
      clear V_x1 U_x1 C_x1 X_x1 Y_x1 T_x1 B_x1
      clear hHeld hb
      go_wp2_with fail
      refine hK.out _ _ ⟨V_x2.out, U_x2.out, C_x2.out⟩ (fun hHeld => ?_)
      clear hK K
      try simp only [Act.put, List.setIfInBounds_toArray, List.set_cons_zero, List.set_cons_succ]
      refine wpAnyH_take (i := 7) (v := .bool false) (get_ops _ _ _ rfl) (by kernel_rfl) (by kernel_rfl) (by kernel_rfl) (fun _ _ _ h => h) (Or.inl ⟨by rfl, fun wS hSw => by (try dsimp only at hSw); go_simp⟩) hHeld ?_
      try simp only [Act.put, List.setIfInBounds_toArray, List.set_cons_zero, List.set_cons_succ]
      refine wpAnyH_done (by kernel_rfl) ?_ _
      go_wp2_with fail
      go_roundg n
      case measure => omega
      case rel => exact ⟨k + 1, by have := HG.out; omega, nxt k (by have := HN2.out; have := HG.out; omega), T_x2.out, U_x2.out, B_x2.out⟩

/-! ### What each change keeps -/
theorem chkE_of : ∀ (l : List Ex) (p : Option ByteArray), (∀ x ∈ l, exR x = 0) → (∀ x ∈ l, ∀ q, p = some q → ltS q x.nm = true) → AscE l → chkE p l = 0
  | [], p, _, _, _ => chkE_nil p
  | x :: r, p, h1, h2, h3 => by
    rw [chkE_cons, if_neg (by simp [h1 x (by simp)])]
    have hn : notLt p x.nm = false := by
      cases p with
      | none => rfl
      | some q => unfold notLt; simp [h2 x (by simp) q rfl]
    rw [if_neg (by simp [hn])]
    refine chkE_of r _ (fun y hy => h1 y (by simp [hy])) (fun y hy q hq => ?_) (fun i j a b ha hb hij => h3 (i + 1) (j + 1) a b (by simpa using ha) (by simpa using hb) (by omega))
    obtain rfl := Option.some.inj hq
    obtain ⟨i, hi⟩ := List.mem_iff_getElem?.1 hy
    exact h3 0 (i + 1) x y rfl (by simpa using hi) (by omega)
theorem chkB_iff (l : List Ex) : ∀ (r p : List Bd), chkB l p r = 0 ↔ (∀ b ∈ r, bdR l b = 0 ∧ b ∉ p) ∧ r.Nodup
  | [], p => by simp [chkB]
  | b :: r, p => by
    rw [chkB_cons]
    by_cases h : bdR l b = 0
    · rw [if_neg (by simp [h])]
      by_cases hm : b ∈ p
      · rw [if_pos hm]
        refine ⟨fun h2 => (by cases h2), fun h2 => absurd hm (h2.1 b (by simp)).2⟩
      · rw [if_neg hm, chkB_iff l r (p ++ [b])]
        simp only [List.mem_cons, forall_eq_or_imp, List.nodup_cons, List.mem_append, List.not_mem_nil, or_false]
        constructor
        · rintro ⟨h1, h2⟩
          exact ⟨⟨⟨h, hm⟩, fun x hx => ⟨(h1 x hx).1, fun hp => (h1 x hx).2 (Or.inl hp)⟩⟩, fun hb => (h1 b hb).2 (Or.inr rfl), h2⟩
        · rintro ⟨⟨_, h1⟩, h2, h3⟩
          exact ⟨fun x hx => ⟨(h1 x hx).1, fun hp => hp.elim (h1 x hx).2 (fun e => h2 (e ▸ hx))⟩, h3⟩
    · rw [if_pos h]
      exact ⟨fun h2 => absurd h2 h, fun h2 => absurd (h2.1 b (by simp)).1 h⟩
/-- valid routes -/
structure VR (l : List Ex) (bs : List Bd) : Prop where
  nl : l.length ≤ 32
  nb : bs.length ≤ 256
  ex : ∀ x ∈ l, exR x = 0
  asc : AscE l
  bd : ∀ b ∈ bs, bdR l b = 0
  nd : bs.Nodup
theorem vr_iff {l : List Ex} {bs : List Bd} : ckR l bs = 0 ↔ VR l bs := by
  unfold ckR
  by_cases h1 : 32 < l.length
  · rw [if_pos h1]; exact ⟨fun h => by (cases h), fun h => by have := h.nl; omega⟩
  · rw [if_neg h1]
    by_cases h2 : 256 < bs.length
    · rw [if_pos h2]; exact ⟨fun h => by (cases h), fun h => by have := h.nb; omega⟩
    · rw [if_neg h2]
      by_cases h3 : chkE none l = 0
      · rw [if_neg (by simp [h3]), chkB_iff]
        have h4 := chkE_asc l none h3
        constructor
        · rintro ⟨h5, h6⟩
          exact ⟨by omega, by omega, h4.1, h4.2.2, fun b hb => (h5 b hb).1, h6⟩
        · intro h
          exact ⟨fun b hb => ⟨h.bd b hb, by simp⟩, h.nd⟩
      · rw [if_pos h3]
        refine ⟨fun h => absurd h h3, fun h => absurd (chkE_of l none h.ex (fun x _ q hq => by cases hq) h.asc) h3⟩
theorem vr_nil : ckR [] [] = 0 := rfl
theorem VR.sub {l : List Ex} {bs bs' : List Bd} (h : VR l bs) (hs : bs'.Sublist bs) : VR l bs' := ⟨h.nl, Nat.le_trans hs.length_le h.nb, h.ex, h.asc, fun b hb => h.bd b (hs.subset hb), hs.nodup h.nd⟩
theorem ins_mem {l : List Ex} {x y : Ex} : y ∈ insE l x ↔ y = x ∨ y ∈ l := by
  unfold insE
  have : l = l.take (posE l x.nm) ++ l.drop (posE l x.nm) := (List.take_append_drop _ _).symm
  rw [List.mem_append, List.mem_cons]
  conv => rhs; rw [this]
  rw [List.mem_append]
  constructor
  · rintro (h | h | h)
    · exact Or.inr (Or.inl h)
    · exact Or.inl h
    · exact Or.inr (Or.inr h)
  · rintro (h | h | h)
    · exact Or.inr (Or.inl h)
    · exact Or.inl h
    · exact Or.inr (Or.inr h)
theorem ins_len (l : List Ex) (x : Ex) : (insE l x).length = l.length + 1 := by
  unfold insE
  simp only [List.length_append, List.length_cons, List.length_take, List.length_drop]
  have := posE_le l x.nm
  omega
theorem asc_pair {l : List Ex} : AscE l ↔ l.Pairwise (fun a b => ltS a.nm b.nm = true) := by
  rw [List.pairwise_iff_getElem]
  constructor
  · intro h i j hi hj hij
    exact h i j _ _ (List.getElem?_eq_getElem hi) (List.getElem?_eq_getElem hj) hij
  · intro h i j x y hx hy hij
    obtain ⟨hi, rfl⟩ := List.getElem?_eq_some_iff.1 hx
    obtain ⟨hj, rfl⟩ := List.getElem?_eq_some_iff.1 hy
    exact h i j hi hj hij
theorem ins_asc {l : List Ex} {x : Ex} (ha : AscE l) (hg : getE l x.nm = none) : AscE (insE l x) := by
  have hb := posE_bs ha x.nm
  rw [getE_none] at hg
  have hp := asc_pair.1 ha
  have hd : l = l.take (posE l x.nm) ++ l.drop (posE l x.nm) := (List.take_append_drop _ _).symm
  rw [hd, List.pairwise_append] at hp
  rw [asc_pair]
  unfold insE
  rw [List.pairwise_append, List.pairwise_cons]
  refine ⟨hp.1, ⟨fun y hy => ?_, hp.2.1⟩, fun a ha' b hb' => ?_⟩
  · obtain ⟨i, hi⟩ := List.mem_iff_getElem?.1 hy
    rw [List.getElem?_drop] at hi
    have h1 := hb.2.2.2 _ y (Nat.le_add_right _ _) hi
    have h2 := hg y (List.mem_of_getElem? hi)
    cases h3 : ltS x.nm y.nm with
    | true => rfl
    | false => exact absurd (ltS_total h1 h3) h2
  · rcases List.mem_cons.1 hb' with rfl | hb'
    · obtain ⟨i, hi⟩ := List.mem_iff_getElem?.1 ha'
      rw [List.getElem?_take] at hi
      split at hi
      · next hlt => exact hb.2.2.1 i a hlt hi
      · cases hi
    · exact hp.2.2 a ha' b hb'
theorem asc_get {l : List Ex} (ha : AscE l) {x : Ex} (hx : x ∈ l) : getE l x.nm = some x := by
  cases h : getE l x.nm with
  | none => exact absurd rfl (getE_none.1 h x hx)
  | some y =>
    obtain ⟨h1, h2⟩ := getE_some h
    obtain ⟨i, hi⟩ := List.mem_iff_getElem?.1 hx
    obtain ⟨j, hj⟩ := List.mem_iff_getElem?.1 h2
    have := asc_one ha hi hj h1.symm
    subst this
    rw [hi] at hj
    rw [Option.some.inj hj]
theorem bdR_ins {l : List Ex} {x : Ex} (ha : AscE l) (hg : getE l x.nm = none) {b : Bd} (h : bdR l b = 0) : bdR (insE l x) b = 0 := by
  have hai := ins_asc ha hg
  have hge : ∃ y, getE l b.ex = some y := by
    unfold bdR at h
    split at h
    · cases h
    · split at h
      · cases h
      · split at h
        · next h1 => exact absurd h h1
        · cases hq : getE l b.ex with
          | none => rw [hq] at h; cases h
          | some y => exact ⟨y, rfl⟩
  obtain ⟨y, hy⟩ := hge
  have hye := getE_some hy
  have : getE (insE l x) b.ex = some y := by rw [← hye.1]; exact asc_get hai (ins_mem.2 (Or.inr hye.2))
  unfold bdR at h ⊢
  rw [this]
  rw [hy] at h
  exact h
theorem vr_decl {l : List Ex} {bs : List Bd} {x : Ex} (h : VR l bs) (h0 : (declR l x).2 = 0) : VR (declR l x).1 bs := by
  by_cases h1 : exR x = 0
  · cases hg : getE l x.nm with
    | some y =>
      by_cases hyx : y = x
      · subst hyx; rw [declR_same h1 hg]; exact h
      · rw [declR_other h1 hg hyx] at h0; cases h0
    | none =>
      by_cases hl : 32 ≤ l.length
      · rw [declR_full h1 hg hl] at h0; cases h0
      · rw [declR_new h1 hg hl]
        exact ⟨by rw [ins_len]; omega, h.nb, fun y hy => by
          rcases ins_mem.1 hy with rfl | hy
          · exact h1
          · exact h.ex y hy, ins_asc h.asc hg, fun b hb => bdR_ins h.asc hg (h.bd b hb), h.nd⟩
  · rw [declR_err h1] at h0; exact absurd h0 h1
theorem vr_bind {l : List Ex} {bs : List Bd} {b : Bd} (h : VR l bs) (h0 : (bindR l bs b).2 = 0) : VR l (bindR l bs b).1 := by
  by_cases h1 : bdR l b = 0
  · by_cases hf : 0 ≤ fB b bs 0
    · rw [bindR_same h1 hf]; exact h
    · by_cases hl : 256 ≤ bs.length
      · rw [bindR_full h1 (by omega) hl] at h0; cases h0
      · rw [bindR_new h1 (by omega) (by omega)]
        have hnm : b ∉ bs := fun hm => hf ((fB_mem b bs 0).2 hm)
        exact ⟨h.nl, by rw [List.length_append]; simp; omega, h.ex, h.asc, fun c hc => by
          rcases List.mem_append.1 hc with hc | hc
          · exact h.bd c hc
          · rw [List.mem_singleton.1 hc]; exact h1, by
          rw [List.nodup_append]
          exact ⟨h.nd, by simp, fun a ha c hc => by
            rw [List.mem_singleton.1 hc]
            exact fun e => hnm (e ▸ ha)⟩⟩
  · rw [bindR_err h1] at h0; exact absurd h0 h1
theorem vr_unb {l : List Ex} {bs : List Bd} {b : Bd} (h : VR l bs) (h0 : (unbR bs b).2 = 0) : VR l (unbR bs b).1 := by
  unfold unbR at h0 ⊢
  split at h0
  · cases h0
  · next h1 => rw [if_neg h1]; exact h.sub (List.eraseIdx_sublist _ _)
theorem vr_drop {l : List Ex} {bs : List Bd} (h : VR l bs) (q : ByteArray) : VR l (dropR bs q) := h.sub List.filter_sublist
/-- sizes that fit -/
def OkB (b : Bd) : Prop := b.ml.length ≤ 4398046511104 ∧ SzB b
theorem few_okB {ys : List BE} {bs : List Bd} (hm : ys.map BE.d = bs) (h : ∀ b ∈ bs, OkB b) : Few ys := fun y hy => (h y.d (by rw [← hm]; exact List.mem_map_of_mem hy)).1
theorem sz_okB {ys : List BE} {bs : List Bd} (hm : ys.map BE.d = bs) (h : ∀ b ∈ bs, OkB b) : ∀ y ∈ ys, SzB y.d := fun y hy => (h y.d (by rw [← hm]; exact List.mem_map_of_mem hy)).2
theorem decl_mem {l : List Ex} {x y : Ex} (h : y ∈ (declR l x).1) : y = x ∨ y ∈ l := by
  unfold declR at h
  split at h
  · simp at h
  · split at h
    · split at h
      · exact Or.inr h
      · simp at h
    · split at h
      · simp at h
      · exact ins_mem.1 h
theorem bind_mem {l : List Ex} {bs : List Bd} {b c : Bd} (h : c ∈ (bindR l bs b).1) : c = b ∨ c ∈ bs := by
  unfold bindR at h
  split at h
  · simp at h
  · split at h
    · exact Or.inr h
    · split at h
      · simp at h
      · rcases List.mem_append.1 h with h | h
        · exact Or.inr h
        · exact Or.inl (List.mem_singleton.1 h)
theorem unb_mem {bs : List Bd} {b c : Bd} (h : c ∈ (unbR bs b).1) : c ∈ bs := by
  unfold unbR at h
  split at h
  · simp at h
  · exact List.mem_of_mem_eraseIdx h
theorem drop_mem {bs : List Bd} {q : ByteArray} {c : Bd} (h : c ∈ dropR bs q) : c ∈ bs := (List.mem_filter.1 h).1
end Go.Proofs.YtjkhfifnfgchgabGreatDoor
namespace Go.Proofs.YtjkhfifnfgchgabGreatDoor
open Go.RowKit
open S2 (BK Put)

structure EO where
  kd : Int
  x : Ex
  b : BE
def gO (o : EO) : List Value := .int .i64 o.kd :: (gE o.x ++ gB o.b)
def EO.zero : EO := ⟨0, Ex.zero, BE.zero⟩
theorem gO_len (o : EO) : (gO o).length = 9 := rfl
theorem gO_one (o : EO) : ∀ u ∈ gO o, u.oneCell' = true := ones rfl
theorem opSize24 : (Tryz.prog.info? 37).map (·.size) = some 9 := by kernel_rfl
abbrev oad (o : EO) : Option Addr := o.b.a
abbrev ops (o : EO) : List PR := o.b.d.ml
abbrev OI (w : World) (B : Nat) (A : Option Addr) (xs : List EO) : Prop := LI gO 9 oad ops w B A xs
theorem load_eo {w : World} {b o : Nat} {x : EO} (hc : ∀ i v, (gO x)[i]? = some v → w.cell? ⟨b, o + i, none⟩ = some v) : (loadVar 37 ⟨b, o, none⟩).run Tryz.prog w = .ok (.agg (gO x).toArray) w :=
  run_load_cells w b o (gO x) 37 _ hc Tryz.underlying37 rfl opSize24
theorem load_eox {w : World} {g : Nat} {o : EO} (h : BK 37 w g (gO o)) : (loadVar 32 ⟨g, 1, none⟩).run Tryz.prog w = .ok (exV o.x) w :=
  load_ex (fun i v hv => h.cell (1 + i) (by
    have hi : i < 3 := (List.getElem?_eq_some_iff.1 hv).1
    match i, hi, hv with
    | 0, _, hv => exact hv
    | 1, _, hv => exact hv
    | 2, _, hv => exact hv))
theorem load_eob {w : World} {g : Nat} {o : EO} (h : BK 37 w g (gO o)) : (loadVar 35 ⟨g, 4, none⟩).run Tryz.prog w = .ok (bdV o.b) w :=
  load_bd (fun i v hv => h.cell (4 + i) (by
    have hi : i < 5 := (List.getElem?_eq_some_iff.1 hv).1
    match i, hi, hv with
    | 0, _, hv => exact hv
    | 1, _, hv => exact hv
    | 2, _, hv => exact hv
    | 3, _, hv => exact hv
    | 4, _, hv => exact hv))
theorem declR_bad {l : List Ex} {x : Ex} (h : (declR l x).2 ≠ 0) : (declR l x).1 = [] := by
  by_cases h1 : exR x = 0
  · cases hg : getE l x.nm with
    | some y =>
      by_cases hyx : y = x
      · subst hyx; rw [declR_same h1 hg] at h; exact absurd rfl h
      · rw [declR_other h1 hg hyx]
    | none =>
      by_cases hl : 32 ≤ l.length
      · rw [declR_full h1 hg hl]
      · rw [declR_new h1 hg hl] at h; exact absurd rfl h
  · rw [declR_err h1]
theorem bindR_bad {l : List Ex} {bs : List Bd} {b : Bd} (h : (bindR l bs b).2 ≠ 0) : (bindR l bs b).1 = [] := by
  by_cases h1 : bdR l b = 0
  · by_cases hf : 0 ≤ fB b bs 0
    · rw [bindR_same h1 hf] at h; exact absurd rfl h
    · by_cases hl : 256 ≤ bs.length
      · rw [bindR_full h1 (by omega) hl]
      · rw [bindR_new h1 (by omega) (by omega)] at h; exact absurd rfl h
  · rw [bindR_err h1]
theorem unbR_bad {bs : List Bd} {b : Bd} (h : (unbR bs b).2 ≠ 0) : (unbR bs b).1 = [] := by
  unfold unbR at h ⊢
  by_cases h1 : fB b bs 0 < 0
  · rw [if_pos h1]
  · rw [if_neg h1] at h; exact absurd rfl h
/-- routes and an error that a call answers -/
def RetOp (L : List Ex) (BS : List Bd) (E : Int) (W : World) (e : Ending) (w' : World) : Prop := ∃ v1 v2 ys, e = .returned (.tuple #[.agg #[v1, v2], .int .i64 E]) ∧ ys.map BE.d = BS ∧ RtN W.heap.size w' v1 L v2 ys ∧ Below W.heap.size W w'
end Go.Proofs.YtjkhfifnfgchgabGreatDoor
