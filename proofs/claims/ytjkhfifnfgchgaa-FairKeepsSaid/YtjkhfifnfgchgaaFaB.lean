/-
  What Check and Next of fair and of its specification answer. Conditions: lists read as data; at most a million consumers; names fit an int.
-/
import Derived.Test.YtjkhfifnfgchgaaFaJ
namespace Go.Proofs.Ytjkhfifnfgchgaa
open Go.RowKit
open S2 (BK Put)

/-- an index and whether there is one -/
def nxI (o : Option Nat) : Int := match o with
  | some i => (i : Int)
  | none => 0
def RetNx (o : Option Nat) (w : World) (e : Ending) (w' : World) : Prop := e = .returned (.tuple #[.int .i64 (nxI o), .bool o.isSome]) ∧ Below w.heap.size w w'
theorem chkG_yes {p r : List Cs} {x : Cs} (h : oneC p x = 0) : chkG p (x :: r) = chkG (p ++ [x]) r := by rw [chkG, if_pos h]
theorem chkG_no {p r : List Cs} {x : Cs} (h : oneC p x ≠ 0) : chkG p (x :: r) = oneC p x := by rw [chkG, if_neg h]
theorem takeC {α : Type} {X : List α} {k : Nat} {x : α} (hx : X[k]? = some x) : X.take k ++ [x] = X.take (k + 1) := by rw [List.take_add_one, hx]; rfl


set_option maxRecDepth 20000 in
set_option maxHeartbeats 4000000 in
theorem fCheck_any (A : Option Addr) (c : Nat) (xs : List Cs) (w : World) (h : CsL w w.heap.size A xs) (hcc : xs.length ≤ c) (hn : xs.length ≤ 1000000) (hq : ∀ x ∈ xs, x.qu.size ≤ 9223372036854775807) :
    Calls Try.prog 11 #[.slice A xs.length c] w fun e w' => e = .returned (.int .i64 (chkC xs)) ∧ Below w.heap.size w w' := by
  by_cases h32 : 32 < xs.length
  · have e1 : decide ((32 : Int) < (xs.length : Int)) = true := decide_eq_true (by omega)
    have HR : Hid (chkC xs = 5) := Lib.hid (by unfold chkC; rw [if_pos h32])
    clear h h32 hn hq
    go_enter Try.func11, Try.ntmps11
    go_wp2
    go_ret
    exact ⟨by rw [HR.out]; rfl, Below.refl _ _⟩
  have e1 : decide ((32 : Int) < (xs.length : Int)) = false := decide_eq_false (by omega)
  have HS := Lib.hid h
  have HQ := Lib.hid hq
  obtain ⟨R, hR⟩ : ∃ R, chkC xs = R := ⟨_, rfl⟩
  have HR : Hid (R = chkG (xs.take 0) (xs.drop 0)) := Lib.hid (by rw [← hR]; unfold chkC; rw [if_neg h32]; rfl)
  rw [hR]
  clear h h32 hq hR
  go_enter Try.func11, Try.ntmps11
  go_wp2
  go_loopg [11] xs.length (fun g v wr => ∃ k : Nat, k + g = xs.length ∧ v = .int .i64 k ∧ R = chkG (xs.take k) (xs.drop k) ∧ Below w.heap.size w wr)
  case atStart => exact ⟨0, by omega, rfl, HR.out, Below.refl _ _⟩
  case round =>
    obtain ⟨k, hkg, rfl, hrel, hb0⟩ := hrel
    have HREL := Lib.hid hrel
    have HB0 := Lib.hid hb0
    have HG := Lib.hid hkg
    clear hrel hb0 HR
    cases gk with
    | zero =>
      obtain rfl : k = xs.length := by omega
      have HF : Hid (R = 0) := Lib.hid (by rw [HREL.out, List.drop_length]; rfl)
      clear hkg
      go_wp2
      go_ret
      exact ⟨by rw [HF.out]; rfl, HB0.out⟩
    | succ gk =>
      have hlt : k < xs.length := by omega
      have e3 : decide ((k : Int) < (xs.length : Int)) = true := decide_eq_true (by omega)
      obtain ⟨x, hx⟩ : ∃ x, xs[k]? = some x := ⟨_, List.getElem?_eq_getElem hlt⟩
      have hslr := GL.step HS.out HB0.out
      obtain ⟨b, o, hA, hbB, hc⟩ := CsL.at_ hslr hx
      have HLD := Lib.hid (load_cs hc)
      have S_wr := Lib.hid hslr
      have HD := Lib.hid (dropC hx)
      have HT := Lib.hid (takeC hx)
      have HX := Lib.hid (HQ.out x (List.mem_of_getElem? hx))
      subst hA
      have j1 : (0 : Int) ≤ (k : Int) := by omega
      have j2 : (k : Int) < (xs.length : Int) := by omega
      have j3 : (k : Int) ≤ (xs.length : Int) := by omega
      have j4 : (k : Int) ≤ (c : Int) := by omega
      have j5 : decide ((k : Int) ≤ (c : Int)) = true := decide_eq_true j4
      have htl : (xs.take k).length = k := by rw [List.length_take]; omega
      have HTL := Lib.hid htl
      have HY : Hid (oneC (xs.take k) x = 0 → R = chkG (xs.take (k + 1)) (xs.drop (k + 1))) := Lib.hid (fun hh => by rw [HREL.out, HD.out, chkG_yes hh, HT.out])
      have HN : Hid (oneC (xs.take k) x ≠ 0 → R = oneC (xs.take k) x) := Lib.hid (fun hh => by rw [HREL.out, HD.out, chkG_no hh])
      clear hx hc hbB hkg hslr htl HREL HD HT
      go_upto_region 6 with first
        | (refine wpList_load_v (by rfl) 25 _ rfl ⟨b, o + k * 5, none⟩ (by go_simp) _ HLD.out ?_)
        | (refine S2.wpList_store_all (by rfl) 25 (.tmp 4) (.tmp 15) rfl rfl wr.heap.size rfl (gC x) rfl 25 _ (BK.new wr _ _) conSize rfl (gC_one _) ?_; intro w2 hM hP; have hb := hP.below (S2.below_new wr _) (Nat.le_refl _); have V_w2 := Lib.hid hM; have B_w2 := Lib.hid (stepB HB0.out hb); have S_w2 := Lib.hid (GL.step S_wr.out hb); clear hM hP hb)
      obtain ⟨x1, hx1⟩ : ∃ x1, x1 = World.drew w2 := ⟨_, rfl⟩
      have hbD : Below w2.heap.size w2 x1 := by rw [hx1]; exact (Below.refl _ _).drew
      have V_x1 := Lib.hid (V_w2.out.step hbD)
      have B_x1 := Lib.hid (stepB B_w2.out hbD)
      have S_x1 := Lib.hid (GL.step S_w2.out hbD)
      have hbd : (fun w' => BK 25 w' wr.heap.size (gC x)) (World.drew w2) := by rw [← hx1]; exact V_x1.out
      have hSD : (fun w' => BK 25 w' wr.heap.size (gC x)) x1 := V_x1.out
      have HWD := Lib.hid hx1
      clear hx1 hbD V_w2 B_w2 S_w2 HB0 HLD S_wr
      refine wp_region_held_drew (S := fun w' => BK 25 w' wr.heap.size (gC x)) (by kernel_rfl) hbd (fun hHeld => ?_)
      rw [← HWD.out]
      clear hHeld
      have hHeld := hSD
      clear hSD hbd HWD
      refine wpAnyH_take (i := 0) (v := .slice (some ⟨b, o, none⟩) xs.length c) (S2.get_ops _ _ _ rfl) (by kernel_rfl) (by kernel_rfl) (by kernel_rfl) (fun _ _ _ h => h) (Or.inl ⟨by rfl, fun wS hSw => by (try dsimp only at hSw); go_simp⟩) hHeld ?_
      try simp only [Act.put, List.setIfInBounds_toArray, List.set_cons_zero, List.set_cons_succ]
      refine wpAnyH_take (i := 1) (v := .int .i64 k) (S2.get_ops _ _ _ rfl) (by kernel_rfl) (by kernel_rfl) (by kernel_rfl) (fun _ _ _ h => h) (Or.inl ⟨by rfl, fun wS hSw => by (try dsimp only at hSw); go_simp⟩) hHeld ?_
      try simp only [Act.put, List.setIfInBounds_toArray, List.set_cons_zero, List.set_cons_succ]
      refine wpAnyH_take (i := 2) (v := .slice (some ⟨b, o, none⟩) k c) (S2.get_ops _ _ _ rfl) (by kernel_rfl) (by kernel_rfl) (by kernel_rfl) (fun _ _ _ h => h) (Or.inl ⟨by rfl, fun wS hSw => by (try dsimp only at hSw); go_simp⟩) hHeld ?_
      try simp only [Act.put, List.setIfInBounds_toArray, List.set_cons_zero, List.set_cons_succ]
      refine wpAnyH_take (i := 3) (v := csV x) (S2.get_ops _ _ _ rfl) (by kernel_rfl) (by kernel_rfl) (by kernel_rfl) (fun _ _ _ h => h) (Or.inl ⟨by rfl, fun wS hSw => by (try dsimp only at hSw); exact S2.exec_load 25 _ rfl ⟨wr.heap.size, 0, none⟩ (by go_simp) _ (load_cs0 hSw)⟩) hHeld ?_
      try simp only [Act.put, List.setIfInBounds_toArray, List.set_cons_zero, List.set_cons_succ]
      have HCN := fOne_any (some ⟨b, o, none⟩) c (xs.take k) x x1 (GL.take S_x1.out k) (by rw [HTL.out]; omega) HX.out
      rw [HTL.out] at HCN
      have HCN2 := Lib.hid HCN
      clear HCN
      refine wpAnyH_ready (rs := [4]) (by kernel_rfl) (by simp) ?_
      refine (AllReadyH.cons (S2.get_ops _ _ _ rfl) (fun K hK => ?_) AllReadyH.nil)
      go_simp
      refine HCN2.out.mono ?_
      rintro e w3 ⟨rfl, hb⟩
      have B_w3 := Lib.hid (stepB B_x1.out hb)
      have V_w3 := Lib.hid (V_x1.out.step hb)
      clear hb B_x1 V_x1 S_x1 HCN2 hHeld
      go_wp2_with fail
      refine hK.out _ _ V_w3.out (fun hHeld => ?_)
      clear hK K
      refine wpAnyH_take (i := 5) (v := .int .i64 (oneC (xs.take k) x)) (S2.get_ops _ _ _ rfl) (by kernel_rfl) (by kernel_rfl) (by kernel_rfl) (fun _ _ _ h => h) (Or.inl ⟨by rfl, fun wS hSw => by (try dsimp only at hSw); go_simp⟩) hHeld ?_
      try simp only [Act.put, List.setIfInBounds_toArray, List.set_cons_zero, List.set_cons_succ]
      refine wpAnyH_done (by kernel_rfl) ?_ _
      generalize oneC (xs.take k) x = E at *
      by_cases hE : E = 0
      · have q1 : (E != 0) = false := by rw [hE]; rfl
        have HY2 := Lib.hid (HY.out hE)
        clear hE
        go_wp2_with fail
        go_roundg gk
        case measure => omega
        case rel => exact ⟨k + 1, by have := HG.out; omega, by go_num, HY2.out, B_w3.out⟩
      · have q1 : (E != 0) = true := bne_iff_ne.2 hE
        have HN2 := Lib.hid (HN.out hE)
        clear hE
        go_wp2_with fail
        go_ret
        exact ⟨by rw [HN2.out]; rfl, B_w3.out⟩

set_option maxRecDepth 20000 in
set_option maxHeartbeats 8000000 in
theorem fNext_any (A : Option Addr) (c : Nat) (xs : List Cs) (q : ByteArray) (last : Int) (w : World) (h : CsL w w.heap.size A xs) (hn : xs.length ≤ 1000000) :
    Calls Try.prog 13 #[.slice A xs.length c, .string q, .int .i64 last] w (RetNx (nxC xs q last) w) := by
  have HS := Lib.hid h
  obtain ⟨B, hB⟩ : ∃ B, begC last xs 0 = B := ⟨_, rfl⟩
  have hBl : B ≤ xs.length := by rw [← hB]; have := beg_le (t := last) (l := xs) (k := 0); omega
  have hix : ixI (srG (tagP last) xs 0) + 1 = (B : Int) := by rw [beg_ix, hB]
  have hN2 := nx_two xs q last
  rw [hB] at hN2
  obtain ⟨R1, hR1⟩ : ∃ R, srG (hitC q) (xs.drop B) B = R := ⟨_, rfl⟩
  obtain ⟨R2, hR2⟩ : ∃ R, srG (hitC q) xs 0 = R := ⟨_, rfl⟩
  rw [hR1, hR2] at hN2
  rw [hN2]
  obtain ⟨J, hJ⟩ : ∃ J, ixI (srG (tagP last) xs 0) = J := ⟨_, rfl⟩
  rw [hJ] at hix
  have HT := Lib.hid (fun a1 w1 hs hp => searchT_any A c xs 0 0 a1 (tagP last) w1 hs (by omega) rfl (Nat.zero_le _) hp)
  rw [List.drop_zero, hJ] at HT
  have HH1 := Lib.hid (fun a1 w1 hs hp => searchH_any A c xs (J + 1) B a1 (hitC q) w1 hs (by omega) hix hBl hp)
  rw [hR1] at HH1
  have HH2 := Lib.hid (fun a1 w1 hs hp => searchH_any A c xs 0 0 a1 (hitC q) w1 hs (by omega) rfl (Nat.zero_le _) hp)
  rw [List.drop_zero, hR2] at HH2
  have u1 : wrap64 (J + 1) = J + 1 := S2.wrap64_id _ (by omega) (by omega)
  clear h hn hB hBl hix hN2 hR1 hR2 hJ
  have hmf : ∀ (fn : Fn) (first cap : Array Value) (w : World), (Instr.makeFunc fn first cap).run Try.prog w = .ok (.func fn first cap) w := fun _ _ _ _ => rfl
  go_enter Try.func13, Try.ntmps13
  go_upto_region 1 with fail
  refine name_world (C := fun w1 => Code.wp _ _ _ _ w1) ((w.alloc (.cells ([.string q] : List Value).toArray 9)).alloc (.cells ([.int .i64 last] : List Value).toArray 3)) ?_
  intro w1 hw1
  obtain ⟨t1, t2, hs0, hb1⟩ := S2.two_laid (v1 := [.string q]) (v2 := [.int .i64 last]) hw1
  have B_w1 := Lib.hid hb1
  have S_w1 := Lib.hid (GL.step HS.out hb1)
  have Q_w1 := Lib.hid t1
  have HCA := Lib.hid (HT.out (.pointer (some ⟨w.heap.size + 1, 0, none⟩)) w1 S_w1.out (fun x _ w2 hb => nxt2_any x last _ _ w2 (t2.step hb)))
  clear hw1 t1 t2 hs0 hb1 HS HT
  go_wp2_with fail
  refine HCA.out.mono ?_
  rintro e w2 ⟨rfl, hb⟩
  have B_w2 := Lib.hid (stepB B_w1.out hb)
  have S_w2 := Lib.hid (GL.step S_w1.out hb)
  have Q_w2 := Lib.hid (Q_w1.out.step hb)
  have HC1 := Lib.hid (HH1.out (.pointer (some ⟨w.heap.size, 0, none⟩)) w2 S_w2.out (fun x _ w3 hb => nxt1_any x q _ _ w3 (Q_w2.out.step hb)))
  clear hb B_w1 S_w1 Q_w1 HCA HH1
  go_wp2_with fail
  refine HC1.out.mono ?_
  rintro e w3 ⟨rfl, hb⟩
  have B_w3 := Lib.hid (stepB B_w2.out hb)
  have S_w3 := Lib.hid (GL.step S_w2.out hb)
  have Q_w3 := Lib.hid (Q_w2.out.step hb)
  clear hb B_w2 S_w2 Q_w2 HC1
  cases R1 with
  | some i =>
    have q1 : ((i : Int) == -1) = false := beq_eq_false_iff_ne.2 (by omega)
    unfold ixI
    dsimp only
    clear HH2
    go_wp2_with fail
    go_ret2
    exact ⟨rfl, B_w3.out⟩
  | none =>
    have HC2 := Lib.hid (HH2.out (.pointer (some ⟨w.heap.size, 0, none⟩)) w3 S_w3.out (fun x _ w4 hb => nxt1_any x q _ _ w4 (Q_w3.out.step hb)))
    clear HH2 S_w3 Q_w3
    unfold ixI
    dsimp only
    go_wp2_with fail
    refine HC2.out.mono ?_
    rintro e w4 ⟨rfl, hb⟩
    have B_w4 := Lib.hid (stepB B_w3.out hb)
    clear hb B_w3 HC2
    cases R2 with
    | some i =>
      have q1 : ((i : Int) == -1) = false := beq_eq_false_iff_ne.2 (by omega)
      unfold ixI
      dsimp only
      go_wp2_with fail
      go_ret2
      exact ⟨rfl, B_w4.out⟩
    | none =>
      unfold ixI
      dsimp only
      go_wp2_with fail
      go_ret2
      exact ⟨rfl, B_w4.out⟩

set_option maxRecDepth 20000 in
set_option maxHeartbeats 4000000 in
theorem rCheck_any (A : Option Addr) (c : Nat) (xs : List Cs) (w : World) (h : CsL w w.heap.size A xs) (hcc : xs.length ≤ c) (hn : xs.length ≤ 1000000) (hq : ∀ x ∈ xs, x.qu.size ≤ 9223372036854775807) :
    Calls Try.prog 12 #[.slice A xs.length c] w fun e w' => e = .returned (.int .i64 (chkC xs)) ∧ Below w.heap.size w w' := by
  by_cases h32 : 32 < xs.length
  · have e1 : decide ((32 : Int) < (xs.length : Int)) = true := decide_eq_true (by omega)
    have HR : Hid (chkC xs = 5) := Lib.hid (by unfold chkC; rw [if_pos h32])
    clear h h32 hn hq
    go_enter Try.func12, Try.ntmps12
    go_wp2
    go_ret
    exact ⟨by rw [HR.out]; rfl, Below.refl _ _⟩
  have e1 : decide ((32 : Int) < (xs.length : Int)) = false := decide_eq_false (by omega)
  have HS := Lib.hid h
  have HQ := Lib.hid hq
  obtain ⟨R, hR⟩ : ∃ R, chkC xs = R := ⟨_, rfl⟩
  have HR : Hid (R = chkG (xs.take 0) (xs.drop 0)) := Lib.hid (by rw [← hR]; unfold chkC; rw [if_neg h32]; rfl)
  rw [hR]
  clear h h32 hq hR
  go_enter Try.func12, Try.ntmps12
  go_wp2
  go_loopg [11] xs.length (fun g v wr => ∃ k : Nat, k + g = xs.length ∧ v = .int .i64 k ∧ R = chkG (xs.take k) (xs.drop k) ∧ Below w.heap.size w wr)
  case atStart => exact ⟨0, by omega, rfl, HR.out, Below.refl _ _⟩
  case round =>
    obtain ⟨k, hkg, rfl, hrel, hb0⟩ := hrel
    have HREL := Lib.hid hrel
    have HB0 := Lib.hid hb0
    have HG := Lib.hid hkg
    clear hrel hb0 HR
    cases gk with
    | zero =>
      obtain rfl : k = xs.length := by omega
      have HF : Hid (R = 0) := Lib.hid (by rw [HREL.out, List.drop_length]; rfl)
      clear hkg
      go_wp2
      go_ret
      exact ⟨by rw [HF.out]; rfl, HB0.out⟩
    | succ gk =>
      have hlt : k < xs.length := by omega
      have e3 : decide ((k : Int) < (xs.length : Int)) = true := decide_eq_true (by omega)
      obtain ⟨x, hx⟩ : ∃ x, xs[k]? = some x := ⟨_, List.getElem?_eq_getElem hlt⟩
      have hslr := GL.step HS.out HB0.out
      obtain ⟨b, o, hA, hbB, hc⟩ := CsL.at_ hslr hx
      have HLD := Lib.hid (load_cs hc)
      have S_wr := Lib.hid hslr
      have HD := Lib.hid (dropC hx)
      have HT := Lib.hid (takeC hx)
      have HX := Lib.hid (HQ.out x (List.mem_of_getElem? hx))
      subst hA
      have j1 : (0 : Int) ≤ (k : Int) := by omega
      have j2 : (k : Int) < (xs.length : Int) := by omega
      have j3 : (k : Int) ≤ (xs.length : Int) := by omega
      have j4 : (k : Int) ≤ (c : Int) := by omega
      have j5 : decide ((k : Int) ≤ (c : Int)) = true := decide_eq_true j4
      have htl : (xs.take k).length = k := by rw [List.length_take]; omega
      have HTL := Lib.hid htl
      have HY : Hid (oneC (xs.take k) x = 0 → R = chkG (xs.take (k + 1)) (xs.drop (k + 1))) := Lib.hid (fun hh => by rw [HREL.out, HD.out, chkG_yes hh, HT.out])
      have HN : Hid (oneC (xs.take k) x ≠ 0 → R = oneC (xs.take k) x) := Lib.hid (fun hh => by rw [HREL.out, HD.out, chkG_no hh])
      clear hx hc hbB hkg hslr htl HREL HD HT
      go_upto_region 6 with first
        | (refine wpList_load_v (by rfl) 25 _ rfl ⟨b, o + k * 5, none⟩ (by go_simp) _ HLD.out ?_)
        | (refine S2.wpList_store_all (by rfl) 25 (.tmp 4) (.tmp 15) rfl rfl wr.heap.size rfl (gC x) rfl 25 _ (BK.new wr _ _) conSize rfl (gC_one _) ?_; intro w2 hM hP; have hb := hP.below (S2.below_new wr _) (Nat.le_refl _); have V_w2 := Lib.hid hM; have B_w2 := Lib.hid (stepB HB0.out hb); have S_w2 := Lib.hid (GL.step S_wr.out hb); clear hM hP hb)
      obtain ⟨x1, hx1⟩ : ∃ x1, x1 = World.drew w2 := ⟨_, rfl⟩
      have hbD : Below w2.heap.size w2 x1 := by rw [hx1]; exact (Below.refl _ _).drew
      have V_x1 := Lib.hid (V_w2.out.step hbD)
      have B_x1 := Lib.hid (stepB B_w2.out hbD)
      have S_x1 := Lib.hid (GL.step S_w2.out hbD)
      have hbd : (fun w' => BK 25 w' wr.heap.size (gC x)) (World.drew w2) := by rw [← hx1]; exact V_x1.out
      have hSD : (fun w' => BK 25 w' wr.heap.size (gC x)) x1 := V_x1.out
      have HWD := Lib.hid hx1
      clear hx1 hbD V_w2 B_w2 S_w2 HB0 HLD S_wr
      refine wp_region_held_drew (S := fun w' => BK 25 w' wr.heap.size (gC x)) (by kernel_rfl) hbd (fun hHeld => ?_)
      rw [← HWD.out]
      clear hHeld
      have hHeld := hSD
      clear hSD hbd HWD
      refine wpAnyH_take (i := 0) (v := .slice (some ⟨b, o, none⟩) xs.length c) (S2.get_ops _ _ _ rfl) (by kernel_rfl) (by kernel_rfl) (by kernel_rfl) (fun _ _ _ h => h) (Or.inl ⟨by rfl, fun wS hSw => by (try dsimp only at hSw); go_simp⟩) hHeld ?_
      try simp only [Act.put, List.setIfInBounds_toArray, List.set_cons_zero, List.set_cons_succ]
      refine wpAnyH_take (i := 1) (v := .int .i64 k) (S2.get_ops _ _ _ rfl) (by kernel_rfl) (by kernel_rfl) (by kernel_rfl) (fun _ _ _ h => h) (Or.inl ⟨by rfl, fun wS hSw => by (try dsimp only at hSw); go_simp⟩) hHeld ?_
      try simp only [Act.put, List.setIfInBounds_toArray, List.set_cons_zero, List.set_cons_succ]
      refine wpAnyH_take (i := 2) (v := .slice (some ⟨b, o, none⟩) k c) (S2.get_ops _ _ _ rfl) (by kernel_rfl) (by kernel_rfl) (by kernel_rfl) (fun _ _ _ h => h) (Or.inl ⟨by rfl, fun wS hSw => by (try dsimp only at hSw); go_simp⟩) hHeld ?_
      try simp only [Act.put, List.setIfInBounds_toArray, List.set_cons_zero, List.set_cons_succ]
      refine wpAnyH_take (i := 3) (v := csV x) (S2.get_ops _ _ _ rfl) (by kernel_rfl) (by kernel_rfl) (by kernel_rfl) (fun _ _ _ h => h) (Or.inl ⟨by rfl, fun wS hSw => by (try dsimp only at hSw); exact S2.exec_load 25 _ rfl ⟨wr.heap.size, 0, none⟩ (by go_simp) _ (load_cs0 hSw)⟩) hHeld ?_
      try simp only [Act.put, List.setIfInBounds_toArray, List.set_cons_zero, List.set_cons_succ]
      have HCN := rOne_any (some ⟨b, o, none⟩) c (xs.take k) x x1 (GL.take S_x1.out k) (by rw [HTL.out]; omega) HX.out
      rw [HTL.out] at HCN
      have HCN2 := Lib.hid HCN
      clear HCN
      refine wpAnyH_ready (rs := [4]) (by kernel_rfl) (by simp) ?_
      refine (AllReadyH.cons (S2.get_ops _ _ _ rfl) (fun K hK => ?_) AllReadyH.nil)
      go_simp
      refine HCN2.out.mono ?_
      rintro e w3 ⟨rfl, hb⟩
      have B_w3 := Lib.hid (stepB B_x1.out hb)
      have V_w3 := Lib.hid (V_x1.out.step hb)
      clear hb B_x1 V_x1 S_x1 HCN2 hHeld
      go_wp2_with fail
      refine hK.out _ _ V_w3.out (fun hHeld => ?_)
      clear hK K
      refine wpAnyH_take (i := 5) (v := .int .i64 (oneC (xs.take k) x)) (S2.get_ops _ _ _ rfl) (by kernel_rfl) (by kernel_rfl) (by kernel_rfl) (fun _ _ _ h => h) (Or.inl ⟨by rfl, fun wS hSw => by (try dsimp only at hSw); go_simp⟩) hHeld ?_
      try simp only [Act.put, List.setIfInBounds_toArray, List.set_cons_zero, List.set_cons_succ]
      refine wpAnyH_done (by kernel_rfl) ?_ _
      generalize oneC (xs.take k) x = E at *
      by_cases hE : E = 0
      · have q1 : (E != 0) = false := by rw [hE]; rfl
        have HY2 := Lib.hid (HY.out hE)
        clear hE
        go_wp2_with fail
        go_roundg gk
        case measure => omega
        case rel => exact ⟨k + 1, by have := HG.out; omega, by go_num, HY2.out, B_w3.out⟩
      · have q1 : (E != 0) = true := bne_iff_ne.2 hE
        have HN2 := Lib.hid (HN.out hE)
        clear hE
        go_wp2_with fail
        go_ret
        exact ⟨by rw [HN2.out]; rfl, B_w3.out⟩

set_option maxRecDepth 20000 in
set_option maxHeartbeats 8000000 in
theorem rNext_any (A : Option Addr) (c : Nat) (xs : List Cs) (q : ByteArray) (last : Int) (w : World) (h : CsL w w.heap.size A xs) (hn : xs.length ≤ 1000000) :
    Calls Try.prog 14 #[.slice A xs.length c, .string q, .int .i64 last] w (RetNx (nxC xs q last) w) := by
  have HS := Lib.hid h
  rw [nxC_eq]
  obtain ⟨B, hB⟩ : ∃ B, begC last xs 0 = B := ⟨_, rfl⟩
  have HR : Hid (B = begC last (xs.drop 0) 0) := Lib.hid (by rw [← hB]; rfl)
  rw [hB]
  obtain ⟨R, hR⟩ : ∃ R, nxW xs q B xs.length 0 = R := ⟨_, rfl⟩
  rw [hR]
  have HRR := Lib.hid hR
  clear h hB hR
  go_enter Try.func14, Try.ntmps14
  go_wp2
  go_loopg [8, 15] xs.length (fun g u v wr => ∃ k : Nat, k + g = xs.length ∧ u = .int .i64 0 ∧ v = .int .i64 k ∧ B = begC last (xs.drop k) k ∧ Below w.heap.size w wr)
  case atStart => exact ⟨0, by omega, rfl, rfl, HR.out, Below.refl _ _⟩
  case round =>
    obtain ⟨k, hkg, rfl, rfl, hrel, hb0⟩ := hrel
    have HREL := Lib.hid hrel
    have HB0 := Lib.hid hb0
    have HG := Lib.hid hkg
    clear hrel HR hb0
    cases gk with
    | zero =>
      obtain rfl : k = xs.length := by omega
      have hB0 : B = 0 := by rw [HREL.out, List.drop_length]; rfl
      subst hB0
      clear hkg HREL
      go_wp2_with fail
      go_loopg [29] xs.length (fun g v wr => ∃ kk : Nat, kk + g = xs.length ∧ v = .int .i64 kk ∧ nxW xs q 0 g kk = R ∧ Below w.heap.size w wr)
      case atStart => exact ⟨0, by omega, rfl, HRR.out, HB0.out⟩
      case round =>
        rename World => wr2
        obtain ⟨k2, hkg, rfl, hrel, hb0⟩ := hrel
        have HREL2 := Lib.hid hrel
        have HG2 := Lib.hid hkg
        have HB2 := Lib.hid hb0
        clear hrel
        cases gk with
        | zero =>
          obtain rfl : k2 = xs.length := by omega
          have HF : Hid (none = R) := Lib.hid HREL2.out
          have e3 : decide ((xs.length : Int) < (xs.length : Int)) = false := decide_eq_false (by omega)
          clear hkg hb0
          go_wp2_with fail
          go_ret2
          rw [← HF.out]
          exact ⟨rfl, HB2.out⟩
        | succ g =>
          have hlt : k2 < xs.length := by omega
          have hn0 : 0 < xs.length := by omega
          have e3 : decide ((k2 : Int) < (xs.length : Int)) = true := decide_eq_true (by omega)
          have hil : (0 + k2) % xs.length < xs.length := Nat.mod_lt _ hn0
          have u2 : Int.tmod (k2 : Int) (xs.length : Int) = (((0 + k2) % xs.length : Nat) : Int) := by rw [Int.tmod_eq_emod_of_nonneg (by omega), Int.natCast_emod]; simp
          have u3 : ¬ ((xs.length : Int) = 0) := by omega
          have hun : nxW xs q 0 (g + 1) k2 = if hitA xs q ((0 + k2) % xs.length) then some ((0 + k2) % xs.length) else nxW xs q 0 g (k2 + 1) := rfl
          have hrel2 := HREL2.out
          rw [hun] at hrel2
          clear hun
          generalize hi : (0 + k2) % xs.length = i at hil u2 hrel2
          obtain ⟨x, hx⟩ : ∃ x, xs[i]? = some x := ⟨_, List.getElem?_eq_getElem hil⟩
          have hhit : hitA xs q i = (decide (x.qu = q) && rdyC x) := by unfold hitA; rw [hx]; rfl
          rw [hhit] at hrel2
          obtain ⟨b, o, hA, hbB, hc⟩ := CsL.at_ (GL.step HS.out HB2.out) hx
          have HLD := Lib.hid (load_cs hc)
          have c2 := hc 2 _ rfl
          subst hA
          have j1 : (0 : Int) ≤ (i : Int) := by omega
          have j2 : (i : Int) < (xs.length : Int) := by omega
          have q1 : (x.qu.toList == q.toList) = decide (x.qu = q) := str_dec _ _
          have HRD := Lib.hid (fun (w1 : World) => rReady_any x w1)
          generalize rdyC x = rd at *
          generalize decide (x.qu = q) = b1 at *
          have HY : Hid (b1 = true → rd = true → some i = R) := Lib.hid (fun h1 h2 => by rw [h1, h2] at hrel2; exact hrel2)
          have HN : Hid ((b1 && rd) = false → nxW xs q 0 g (k2 + 1) = R) := Lib.hid (fun h1 => by rw [h1] at hrel2; exact hrel2)
          clear hrel2 hhit hi hx hc hbB hkg HREL2
          cases b1 with
          | false =>
            go_wp2_with fail
            go_roundg g
            case measure => omega
            case rel => exact ⟨k2 + 1, by have := HG2.out; omega, by go_num, HN.out (by first | exact rfl | trivial), HB2.out⟩
          | true =>
            go_wp2_with first
              | (refine wpList_load_v (by rfl) 25 _ rfl ⟨b, o + i * 5, none⟩ (by go_simp) _ HLD.out ?_)
            refine (HRD.out _).mono ?_
            rintro e w3 ⟨rfl, hb⟩
            have B_w3 := Lib.hid (stepB HB2.out hb)
            clear hb
            cases rd with
            | false =>
              go_wp2_with fail
              go_roundg g
              case measure => omega
              case rel => exact ⟨k2 + 1, by have := HG2.out; omega, by go_num, HN.out (by first | exact rfl | trivial), B_w3.out⟩
            | true =>
              have HY2 := Lib.hid (HY.out (by first | exact rfl | trivial) (by first | exact rfl | trivial))
              go_wp2_with fail
              go_ret2
              rw [← HY2.out]
              exact ⟨rfl, B_w3.out⟩
    | succ gk =>
      have hlt : k < xs.length := by omega
      have e3 : decide ((k : Int) < (xs.length : Int)) = true := decide_eq_true (by omega)
      obtain ⟨x, hx⟩ : ∃ x, xs[k]? = some x := ⟨_, List.getElem?_eq_getElem hlt⟩
      obtain ⟨b, o, hA, hbB, hc⟩ := CsL.at_ (GL.step HS.out HB0.out) hx
      have HLD := Lib.hid (load_cs hc)
      have HD := Lib.hid (dropC hx)
      have j1 : (0 : Int) ≤ (k : Int) := by omega
      have j2 : (k : Int) < (xs.length : Int) := by omega
      have q1 : (x.tag == last) = decide (x.tag = last) := eqI _ _
      have v1 : wrap64 ((k : Int) + 1) = (k : Int) + 1 := S2.wrap64_id _ (by omega) (by omega)
      clear hx hc hbB hkg
      by_cases hb1 : x.tag = last
      · have hBk : B = k + 1 := by rw [HREL.out, HD.out, begC, if_pos hb1]
        rw [decide_eq_true hb1] at q1
        subst hBk
        clear hb1 HREL HD
        subst hA
        go_wp2_with first
          | (refine wpList_load_v (by rfl) 25 _ rfl ⟨b, o + k * 5, none⟩ (by go_simp) _ HLD.out ?_)
          | (refine S2.wpList_store_all (by rfl) 25 (.tmp 10) (.tmp 19) rfl rfl wr.heap.size rfl (gC x) rfl 25 _ (BK.new wr _ _) conSize rfl (gC_one _) ?_; intro w2 hM hP; have hb := hP.below (S2.below_new wr _) (Nat.le_refl _); have B_w2 := Lib.hid (stepB HB0.out hb); obtain ⟨z0, z1, z2, z3, z4⟩ := cells5 hM; clear hM hP hb z1 z2 z3 z4)
        clear z0
        go_loopg [29] xs.length (fun g v wr => ∃ kk : Nat, kk + g = xs.length ∧ v = .int .i64 kk ∧ nxW xs q (k + 1) g kk = R ∧ Below w.heap.size w wr)
        case atStart => exact ⟨0, by omega, rfl, HRR.out, B_w2.out⟩
        case round =>
          rename World => wr2
          obtain ⟨k2, hkg, rfl, hrel, hb0⟩ := hrel
          have HREL2 := Lib.hid hrel
          have HG2 := Lib.hid hkg
          have HB2 := Lib.hid hb0
          clear hrel
          cases gk with
          | zero =>
            obtain rfl : k2 = xs.length := by omega
            have HF : Hid (none = R) := Lib.hid HREL2.out
            have e3 : decide ((xs.length : Int) < (xs.length : Int)) = false := decide_eq_false (by omega)
            clear hkg hb0
            go_wp2_with fail
            go_ret2
            rw [← HF.out]
            exact ⟨rfl, HB2.out⟩
          | succ g =>
            have hlt : k2 < xs.length := by omega
            have hn0 : 0 < xs.length := by omega
            have e3 : decide ((k2 : Int) < (xs.length : Int)) = true := decide_eq_true (by omega)
            have hil : ((k + 1) + k2) % xs.length < xs.length := Nat.mod_lt _ hn0
            have u1 : wrap64 (((k : Int) + 1) + (k2 : Int)) = ((k : Int) + 1) + (k2 : Int) := S2.wrap64_id _ (by omega) (by omega)
            have u2 : Int.tmod (((k : Int) + 1) + (k2 : Int)) (xs.length : Int) = ((((k + 1) + k2) % xs.length : Nat) : Int) := by rw [Int.tmod_eq_emod_of_nonneg (by omega), Int.natCast_emod]; congr 1
            have u3 : ¬ ((xs.length : Int) = 0) := by omega
            have hun : nxW xs q (k + 1) (g + 1) k2 = if hitA xs q (((k + 1) + k2) % xs.length) then some (((k + 1) + k2) % xs.length) else nxW xs q (k + 1) g (k2 + 1) := rfl
            have hrel2 := HREL2.out
            rw [hun] at hrel2
            clear hun
            generalize hi : ((k + 1) + k2) % xs.length = i at hil u2 hrel2
            obtain ⟨x, hx⟩ : ∃ x, xs[i]? = some x := ⟨_, List.getElem?_eq_getElem hil⟩
            have hhit : hitA xs q i = (decide (x.qu = q) && rdyC x) := by unfold hitA; rw [hx]; rfl
            rw [hhit] at hrel2
            obtain ⟨b, o, hA, hbB, hc⟩ := CsL.at_ (GL.step HS.out HB2.out) hx
            have HLD := Lib.hid (load_cs hc)
            have c2 := hc 2 _ rfl
            simp only [Option.some.injEq, Addr.mk.injEq, and_true] at hA
            obtain ⟨rfl, rfl⟩ := hA
            have j1 : (0 : Int) ≤ (i : Int) := by omega
            have j2 : (i : Int) < (xs.length : Int) := by omega
            have q1 : (x.qu.toList == q.toList) = decide (x.qu = q) := str_dec _ _
            have HRD := Lib.hid (fun (w1 : World) => rReady_any x w1)
            generalize rdyC x = rd at *
            generalize decide (x.qu = q) = b1 at *
            have HY : Hid (b1 = true → rd = true → some i = R) := Lib.hid (fun h1 h2 => by rw [h1, h2] at hrel2; exact hrel2)
            have HN : Hid ((b1 && rd) = false → nxW xs q (k + 1) g (k2 + 1) = R) := Lib.hid (fun h1 => by rw [h1] at hrel2; exact hrel2)
            clear hrel2 hhit hi hx hc hbB hkg HREL2
            cases b1 with
            | false =>
              go_wp2_with fail
              go_roundg g
              case measure => omega
              case rel => exact ⟨k2 + 1, by have := HG2.out; omega, by go_num, HN.out (by first | exact rfl | trivial), HB2.out⟩
            | true =>
              go_wp2_with first
                | (refine wpList_load_v (by rfl) 25 _ rfl ⟨b, o + i * 5, none⟩ (by go_simp) _ HLD.out ?_)
              refine (HRD.out _).mono ?_
              rintro e w3 ⟨rfl, hb⟩
              have B_w3 := Lib.hid (stepB HB2.out hb)
              clear hb
              cases rd with
              | false =>
                go_wp2_with fail
                go_roundg g
                case measure => omega
                case rel => exact ⟨k2 + 1, by have := HG2.out; omega, by go_num, HN.out (by first | exact rfl | trivial), B_w3.out⟩
              | true =>
                have HY2 := Lib.hid (HY.out (by first | exact rfl | trivial) (by first | exact rfl | trivial))
                go_wp2_with fail
                go_ret2
                rw [← HY2.out]
                exact ⟨rfl, B_w3.out⟩
      · have HBk : Hid (B = begC last (xs.drop (k + 1)) (k + 1)) := Lib.hid (by rw [HREL.out, HD.out, begC, if_neg hb1])
        rw [decide_eq_false hb1] at q1
        clear hb1 HREL HD
        subst hA
        go_wp2_with first
          | (refine wpList_load_v (by rfl) 25 _ rfl ⟨b, o + k * 5, none⟩ (by go_simp) _ HLD.out ?_)
          | (refine S2.wpList_store_all (by rfl) 25 (.tmp 10) (.tmp 19) rfl rfl wr.heap.size rfl (gC x) rfl 25 _ (BK.new wr _ _) conSize rfl (gC_one _) ?_; intro w2 hM hP; have hb := hP.below (S2.below_new wr _) (Nat.le_refl _); have B_w2 := Lib.hid (stepB HB0.out hb); obtain ⟨z0, z1, z2, z3, z4⟩ := cells5 hM; clear hM hP hb z1 z2 z3 z4)
        go_roundg gk
        case measure => omega
        case rel => exact ⟨k + 1, by have := HG.out; omega, rfl, by go_num, HBk.out, B_w2.out⟩
end Go.Proofs.Ytjkhfifnfgchgaa
