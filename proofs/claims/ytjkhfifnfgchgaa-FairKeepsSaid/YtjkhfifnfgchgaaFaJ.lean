/-
  What the small functions of the program's fair answer: counts, limit, what searches look for, search, find, and what is wrong with a consumer. Conditions: lists read as data; lengths fit an int.
-/
import Derived.Test.YtjkhfifnfgchgaaFaA
import Derived.Test.YtjkhfifnfgchgaaFaS
namespace Go.Proofs.Ytjkhfifnfgchgaa
open Go.RowKit
open S2 (BK Put)

theorem tName_dl (s : ByteArray) (w : World) : Calls Try.prog 36 #[.string s] w fun e w' => e = .returned (.bool (T.nameL (dl s))) ∧ Below w.heap.size w w' := tName_any s w
theorem fcounts_any (n : Int) (w : World) : Calls Try.prog 35 #[.int .i64 n] w fun e w' => e = .returned (.bool (inN n)) ∧ w' = w := by
  unfold inN
  generalize hb1 : decide (0 ≤ n) = b1 at *
  generalize hb2 : decide (n ≤ 1099511627776) = b2 at *
  cases b1 <;> cases b2
  all_goals
    go_enter Try.func35, Try.ntmps35
    go_wp2
    go_ret
    exact ⟨rfl, rfl⟩
theorem flimit_any (n a b : Int) (w : World) : Calls Try.prog 33 #[.int .i64 n, .int .i64 a, .int .i64 b] w fun e w' => e = .returned (.int .i64 (limR n a b)) ∧ w' = w := by
  obtain ⟨m, hm⟩ : ∃ m : Int, (if b < n then b else n) = m := ⟨_, rfl⟩
  obtain ⟨z, hz⟩ : ∃ z : Int, (if a < m then m else a) = z := ⟨_, rfl⟩
  have HZ : Hid (limR n a b = z) := Lib.hid (by
    unfold limR
    rw [← hz, ← hm]
    split <;> split <;> omega)
  go_enter Try.func33, Try.ntmps33
  go_wp2
  go_ret
  exact ⟨by rw [HZ.out]; rfl, rfl⟩
set_option maxRecDepth 20000 in
set_option maxHeartbeats 2000000 in
theorem fnd1_any (x : Cs) (cn tg : Int) (P Q : Nat) (TP TQ : TypeId) (w : World) (hP : BK TP w P [.int .i64 cn]) (hQ : BK TQ w Q [.int .i64 tg]) :
    Calls Try.prog 39 #[csV x, .pointer (some ⟨P, 0, none⟩), .pointer (some ⟨Q, 0, none⟩)] w fun e w' => e = .returned (.bool (isC cn tg x)) ∧ Below w.heap.size w w' := by
  have q1 : (x.conn == cn) = decide (x.conn = cn) := eqI _ _
  have q2 : (x.tag == tg) = decide (x.tag = tg) := eqI _ _
  have HC : Hid (isC cn tg x = (decide (x.conn = cn) && decide (x.tag = tg))) := Lib.hid rfl
  generalize isC cn tg x = R at *
  generalize decide (x.conn = cn) = b1 at *
  generalize decide (x.tag = tg) = b2 at *
  have HP := Lib.hid hP
  have HQ := Lib.hid hQ
  clear hP hQ
  unfold csV gC
  go_enter Try.func39, Try.ntmps39
  go_upto_region 1 with fail
  refine name_world (C := fun w1 => Code.wp _ _ _ _ w1) (w.alloc (.cells (gC x).toArray 25)) ?_
  intro w1 hw1
  have hb1 : Below w.heap.size w w1 := by rw [hw1]; exact S2.below_new w _
  have X_w1 : Hid (BK 25 w1 w.heap.size (gC x)) := Lib.hid (by rw [hw1]; exact BK.new w _ _)
  have B_w1 := Lib.hid hb1
  have P_w1 := Lib.hid (HP.out.step hb1)
  have cP := P_w1.out.cell 0 rfl
  have Q_w1 := Lib.hid (HQ.out.step hb1)
  have cQ := Q_w1.out.cell 0 rfl
  clear hw1 hb1
  obtain ⟨z0, z1, z2, z3, z4⟩ := cells5 X_w1.out
  cases b1 <;> cases b2
  all_goals
    have HR := Lib.hid HC.out
    go_wp2
    go_ret
    exact ⟨by rw [HR.out]; rfl, B_w1.out⟩
set_option maxRecDepth 20000 in
set_option maxHeartbeats 2000000 in
theorem nxt2_any (x : Cs) (tg : Int) (P : Nat) (TP : TypeId) (w : World) (hP : BK TP w P [.int .i64 tg]) :
    Calls Try.prog 27 #[csV x, .pointer (some ⟨P, 0, none⟩)] w fun e w' => e = .returned (.bool (tagP tg x)) ∧ Below w.heap.size w w' := by
  have q2 : (x.tag == tg) = decide (x.tag = tg) := eqI _ _
  have HC : Hid (tagP tg x = decide (x.tag = tg)) := Lib.hid rfl
  generalize tagP tg x = R at *
  generalize decide (x.tag = tg) = b2 at *
  have HP := Lib.hid hP
  clear hP
  unfold csV gC
  go_enter Try.func27, Try.ntmps27
  go_upto_region 1 with fail
  refine name_world (C := fun w1 => Code.wp _ _ _ _ w1) (w.alloc (.cells (gC x).toArray 25)) ?_
  intro w1 hw1
  have hb1 : Below w.heap.size w w1 := by rw [hw1]; exact S2.below_new w _
  have X_w1 : Hid (BK 25 w1 w.heap.size (gC x)) := Lib.hid (by rw [hw1]; exact BK.new w _ _)
  have B_w1 := Lib.hid hb1
  have P_w1 := Lib.hid (HP.out.step hb1)
  have cP := P_w1.out.cell 0 rfl
  clear hw1 hb1
  obtain ⟨z0, z1, z2, z3, z4⟩ := cells5 X_w1.out
  cases b2
  all_goals
    have HR := Lib.hid HC.out
    go_wp2
    go_ret
    exact ⟨by rw [HR.out]; rfl, B_w1.out⟩
set_option maxRecDepth 20000 in
set_option maxHeartbeats 2000000 in
theorem nxt1_any (x : Cs) (q : ByteArray) (P : Nat) (TP : TypeId) (w : World) (hP : BK TP w P [.string q]) :
    Calls Try.prog 25 #[csV x, .pointer (some ⟨P, 0, none⟩)] w fun e w' => e = .returned (.bool (hitC q x)) ∧ Below w.heap.size w w' := by
  have q1 : (x.qu.toList == q.toList) = decide (x.qu = q) := str_dec _ _
  have HC : Hid (hitC q x = (decide (x.qu = q) && rdyC x)) := Lib.hid rfl
  have HRD := Lib.hid (fun (w1 : World) => fReady_any x w1)
  generalize hitC q x = R at *
  generalize decide (x.qu = q) = b1 at *
  generalize rdyC x = b2 at *
  have HP := Lib.hid hP
  clear hP
  unfold csV gC
  go_enter Try.func25, Try.ntmps25
  go_upto_region 1 with fail
  refine name_world (C := fun w1 => Code.wp _ _ _ _ w1) (w.alloc (.cells (gC x).toArray 25)) ?_
  intro w1 hw1
  have hb1 : Below w.heap.size w w1 := by rw [hw1]; exact S2.below_new w _
  have X_w1 : Hid (BK 25 w1 w.heap.size (gC x)) := Lib.hid (by rw [hw1]; exact BK.new w _ _)
  have B_w1 := Lib.hid hb1
  have P_w1 := Lib.hid (HP.out.step hb1)
  have cP := P_w1.out.cell 0 rfl
  clear hw1 hb1
  obtain ⟨z0, z1, z2, z3, z4⟩ := cells5 X_w1.out
  cases b1 with
  | false =>
    have HR : Hid (R = false) := Lib.hid HC.out
    go_wp2
    go_ret
    exact ⟨by rw [HR.out]; rfl, B_w1.out⟩
  | true =>
    have HR : Hid (R = b2) := Lib.hid HC.out
    go_wp2_with first
      | (refine wpList_load_v (by rfl) 25 _ rfl ⟨w.heap.size, 0, none⟩ (by first | rfl | go_simp) _ (load_cs0 X_w1.out) ?_)
    refine (HRD.out w1).mono ?_
    rintro e w2 ⟨rfl, hb⟩
    have B_w2 := Lib.hid (stepB B_w1.out hb)
    clear hb
    go_wp2
    go_ret
    exact ⟨by rw [HR.out]; rfl, B_w2.out⟩
set_option maxRecDepth 20000 in
set_option maxHeartbeats 2000000 in
theorem searchF_any (A : Option Addr) (cc : Nat) (xs : List Cs) (F : Int) (k0 : Nat) (a1 a2 : Value) (p : Cs → Bool) (w : World) (h : CsL w w.heap.size A xs) (hn : xs.length ≤ 140737488355328) (hF : F = k0) (hk0 : k0 ≤ xs.length)
    (hp : ∀ x ∈ xs, ∀ w1, Below w.heap.size w w1 → Calls Try.prog 39 #[csV x, a1, a2] w1 fun e w' => e = .returned (.bool (p x)) ∧ Below w1.heap.size w1 w') :
    Calls Try.prog 26 #[.slice A xs.length cc, .int .i64 F, .func (.func 39) #[] #[a1, a2]] w fun e w' => e = .returned (.int .i64 (ixI (srG p (xs.drop k0) k0))) ∧ Below w.heap.size w w' := by
  subst hF
  have HS := Lib.hid h
  have HP := Lib.hid hp
  obtain ⟨R, hR⟩ : ∃ R, srG p (xs.drop k0) k0 = R := ⟨_, rfl⟩
  rw [hR]
  have HR := Lib.hid hR.symm
  clear h hp hR
  go_enter Try.func26, Try.ntmps26
  go_wp2
  go_loopg [7] (xs.length - k0) (fun g v wr => ∃ k : Nat, k + g = xs.length ∧ v = .int .i64 k ∧ R = srG p (xs.drop k) k ∧ Below w.heap.size w wr)
  case atStart => exact ⟨k0, by omega, rfl, HR.out, Below.refl _ _⟩
  case round =>
    obtain ⟨k, hkg, rfl, hrel, hb0⟩ := hrel
    have HREL := Lib.hid hrel
    have HB0 := Lib.hid hb0
    have HG := Lib.hid hkg
    clear hrel hb0 HR hk0
    cases gk with
    | zero =>
      obtain rfl : k = xs.length := by omega
      have HF : Hid (ixI R = -1) := Lib.hid (by rw [HREL.out, List.drop_length]; rfl)
      clear hkg
      go_wp2
      go_ret
      exact ⟨by rw [HF.out]; rfl, HB0.out⟩
    | succ g =>
      have hlt : k < xs.length := by omega
      have e3 : decide ((k : Int) < (xs.length : Int)) = true := decide_eq_true (by omega)
      obtain ⟨x, hx⟩ : ∃ x, xs[k]? = some x := ⟨_, List.getElem?_eq_getElem hlt⟩
      obtain ⟨b, o, hA, hbB, hc⟩ := CsL.at_ (GL.step HS.out HB0.out) hx
      have HLD := Lib.hid (load_cs hc)
      have HD := Lib.hid (dropC hx)
      subst hA
      have j1 : (0 : Int) ≤ (k : Int) := by omega
      have j2 : (k : Int) < (xs.length : Int) := by omega
      have HCL := Lib.hid (HP.out x (List.mem_of_getElem? hx) wr HB0.out)
      obtain ⟨bp, hbp⟩ : ∃ z, p x = z := ⟨_, rfl⟩
      rw [hbp] at HCL
      have HY : Hid (bp = true → ixI R = k) := Lib.hid (fun hh => by rw [HREL.out, HD.out, srG_yes (hbp.trans hh)]; rfl)
      have HNN : Hid (bp = false → R = srG p (xs.drop (k + 1)) (k + 1)) := Lib.hid (fun hh => by rw [HREL.out, HD.out, srG_no (hbp.trans hh)])
      clear hx hc hbB hkg hbp HREL HD
      cases bp with
      | true =>
        have HY2 := Lib.hid (HY.out rfl)
        go_wp2_with first
          | (refine wpList_load_v (by rfl) 25 _ rfl ⟨b, o + k * 5, none⟩ (by go_simp) _ HLD.out ?_)
        refine HCL.out.mono ?_
        rintro e w1 ⟨rfl, hb⟩
        have HB1 := Lib.hid (stepB HB0.out hb)
        clear hb
        go_wp2
        go_ret
        exact ⟨by rw [HY2.out]; rfl, HB1.out⟩
      | false =>
        have HN2 := Lib.hid (HNN.out rfl)
        go_wp2_with first
          | (refine wpList_load_v (by rfl) 25 _ rfl ⟨b, o + k * 5, none⟩ (by go_simp) _ HLD.out ?_)
        refine HCL.out.mono ?_
        rintro e w1 ⟨rfl, hb⟩
        have HB1 := Lib.hid (stepB HB0.out hb)
        clear hb
        go_wp2
        go_roundg g
        case measure => omega
        case rel => exact ⟨k + 1, by have := HG.out; omega, by go_num, HN2.out, HB1.out⟩
set_option maxRecDepth 20000 in
set_option maxHeartbeats 2000000 in
theorem searchT_any (A : Option Addr) (cc : Nat) (xs : List Cs) (F : Int) (k0 : Nat) (a1 : Value) (p : Cs → Bool) (w : World) (h : CsL w w.heap.size A xs) (hn : xs.length ≤ 140737488355328) (hF : F = k0) (hk0 : k0 ≤ xs.length)
    (hp : ∀ x ∈ xs, ∀ w1, Below w.heap.size w w1 → Calls Try.prog 27 #[csV x, a1] w1 fun e w' => e = .returned (.bool (p x)) ∧ Below w1.heap.size w1 w') :
    Calls Try.prog 26 #[.slice A xs.length cc, .int .i64 F, .func (.func 27) #[] #[a1]] w fun e w' => e = .returned (.int .i64 (ixI (srG p (xs.drop k0) k0))) ∧ Below w.heap.size w w' := by
  subst hF
  have HS := Lib.hid h
  have HP := Lib.hid hp
  obtain ⟨R, hR⟩ : ∃ R, srG p (xs.drop k0) k0 = R := ⟨_, rfl⟩
  rw [hR]
  have HR := Lib.hid hR.symm
  clear h hp hR
  go_enter Try.func26, Try.ntmps26
  go_wp2
  go_loopg [7] (xs.length - k0) (fun g v wr => ∃ k : Nat, k + g = xs.length ∧ v = .int .i64 k ∧ R = srG p (xs.drop k) k ∧ Below w.heap.size w wr)
  case atStart => exact ⟨k0, by omega, rfl, HR.out, Below.refl _ _⟩
  case round =>
    obtain ⟨k, hkg, rfl, hrel, hb0⟩ := hrel
    have HREL := Lib.hid hrel
    have HB0 := Lib.hid hb0
    have HG := Lib.hid hkg
    clear hrel hb0 HR hk0
    cases gk with
    | zero =>
      obtain rfl : k = xs.length := by omega
      have HF : Hid (ixI R = -1) := Lib.hid (by rw [HREL.out, List.drop_length]; rfl)
      clear hkg
      go_wp2
      go_ret
      exact ⟨by rw [HF.out]; rfl, HB0.out⟩
    | succ g =>
      have hlt : k < xs.length := by omega
      have e3 : decide ((k : Int) < (xs.length : Int)) = true := decide_eq_true (by omega)
      obtain ⟨x, hx⟩ : ∃ x, xs[k]? = some x := ⟨_, List.getElem?_eq_getElem hlt⟩
      obtain ⟨b, o, hA, hbB, hc⟩ := CsL.at_ (GL.step HS.out HB0.out) hx
      have HLD := Lib.hid (load_cs hc)
      have HD := Lib.hid (dropC hx)
      subst hA
      have j1 : (0 : Int) ≤ (k : Int) := by omega
      have j2 : (k : Int) < (xs.length : Int) := by omega
      have HCL := Lib.hid (HP.out x (List.mem_of_getElem? hx) wr HB0.out)
      obtain ⟨bp, hbp⟩ : ∃ z, p x = z := ⟨_, rfl⟩
      rw [hbp] at HCL
      have HY : Hid (bp = true → ixI R = k) := Lib.hid (fun hh => by rw [HREL.out, HD.out, srG_yes (hbp.trans hh)]; rfl)
      have HNN : Hid (bp = false → R = srG p (xs.drop (k + 1)) (k + 1)) := Lib.hid (fun hh => by rw [HREL.out, HD.out, srG_no (hbp.trans hh)])
      clear hx hc hbB hkg hbp HREL HD
      cases bp with
      | true =>
        have HY2 := Lib.hid (HY.out rfl)
        go_wp2_with first
          | (refine wpList_load_v (by rfl) 25 _ rfl ⟨b, o + k * 5, none⟩ (by go_simp) _ HLD.out ?_)
        refine HCL.out.mono ?_
        rintro e w1 ⟨rfl, hb⟩
        have HB1 := Lib.hid (stepB HB0.out hb)
        clear hb
        go_wp2
        go_ret
        exact ⟨by rw [HY2.out]; rfl, HB1.out⟩
      | false =>
        have HN2 := Lib.hid (HNN.out rfl)
        go_wp2_with first
          | (refine wpList_load_v (by rfl) 25 _ rfl ⟨b, o + k * 5, none⟩ (by go_simp) _ HLD.out ?_)
        refine HCL.out.mono ?_
        rintro e w1 ⟨rfl, hb⟩
        have HB1 := Lib.hid (stepB HB0.out hb)
        clear hb
        go_wp2
        go_roundg g
        case measure => omega
        case rel => exact ⟨k + 1, by have := HG.out; omega, by go_num, HN2.out, HB1.out⟩
set_option maxRecDepth 20000 in
set_option maxHeartbeats 2000000 in
theorem searchH_any (A : Option Addr) (cc : Nat) (xs : List Cs) (F : Int) (k0 : Nat) (a1 : Value) (p : Cs → Bool) (w : World) (h : CsL w w.heap.size A xs) (hn : xs.length ≤ 140737488355328) (hF : F = k0) (hk0 : k0 ≤ xs.length)
    (hp : ∀ x ∈ xs, ∀ w1, Below w.heap.size w w1 → Calls Try.prog 25 #[csV x, a1] w1 fun e w' => e = .returned (.bool (p x)) ∧ Below w1.heap.size w1 w') :
    Calls Try.prog 26 #[.slice A xs.length cc, .int .i64 F, .func (.func 25) #[] #[a1]] w fun e w' => e = .returned (.int .i64 (ixI (srG p (xs.drop k0) k0))) ∧ Below w.heap.size w w' := by
  subst hF
  have HS := Lib.hid h
  have HP := Lib.hid hp
  obtain ⟨R, hR⟩ : ∃ R, srG p (xs.drop k0) k0 = R := ⟨_, rfl⟩
  rw [hR]
  have HR := Lib.hid hR.symm
  clear h hp hR
  go_enter Try.func26, Try.ntmps26
  go_wp2
  go_loopg [7] (xs.length - k0) (fun g v wr => ∃ k : Nat, k + g = xs.length ∧ v = .int .i64 k ∧ R = srG p (xs.drop k) k ∧ Below w.heap.size w wr)
  case atStart => exact ⟨k0, by omega, rfl, HR.out, Below.refl _ _⟩
  case round =>
    obtain ⟨k, hkg, rfl, hrel, hb0⟩ := hrel
    have HREL := Lib.hid hrel
    have HB0 := Lib.hid hb0
    have HG := Lib.hid hkg
    clear hrel hb0 HR hk0
    cases gk with
    | zero =>
      obtain rfl : k = xs.length := by omega
      have HF : Hid (ixI R = -1) := Lib.hid (by rw [HREL.out, List.drop_length]; rfl)
      clear hkg
      go_wp2
      go_ret
      exact ⟨by rw [HF.out]; rfl, HB0.out⟩
    | succ g =>
      have hlt : k < xs.length := by omega
      have e3 : decide ((k : Int) < (xs.length : Int)) = true := decide_eq_true (by omega)
      obtain ⟨x, hx⟩ : ∃ x, xs[k]? = some x := ⟨_, List.getElem?_eq_getElem hlt⟩
      obtain ⟨b, o, hA, hbB, hc⟩ := CsL.at_ (GL.step HS.out HB0.out) hx
      have HLD := Lib.hid (load_cs hc)
      have HD := Lib.hid (dropC hx)
      subst hA
      have j1 : (0 : Int) ≤ (k : Int) := by omega
      have j2 : (k : Int) < (xs.length : Int) := by omega
      have HCL := Lib.hid (HP.out x (List.mem_of_getElem? hx) wr HB0.out)
      obtain ⟨bp, hbp⟩ : ∃ z, p x = z := ⟨_, rfl⟩
      rw [hbp] at HCL
      have HY : Hid (bp = true → ixI R = k) := Lib.hid (fun hh => by rw [HREL.out, HD.out, srG_yes (hbp.trans hh)]; rfl)
      have HNN : Hid (bp = false → R = srG p (xs.drop (k + 1)) (k + 1)) := Lib.hid (fun hh => by rw [HREL.out, HD.out, srG_no (hbp.trans hh)])
      clear hx hc hbB hkg hbp HREL HD
      cases bp with
      | true =>
        have HY2 := Lib.hid (HY.out rfl)
        go_wp2_with first
          | (refine wpList_load_v (by rfl) 25 _ rfl ⟨b, o + k * 5, none⟩ (by go_simp) _ HLD.out ?_)
        refine HCL.out.mono ?_
        rintro e w1 ⟨rfl, hb⟩
        have HB1 := Lib.hid (stepB HB0.out hb)
        clear hb
        go_wp2
        go_ret
        exact ⟨by rw [HY2.out]; rfl, HB1.out⟩
      | false =>
        have HN2 := Lib.hid (HNN.out rfl)
        go_wp2_with first
          | (refine wpList_load_v (by rfl) 25 _ rfl ⟨b, o + k * 5, none⟩ (by go_simp) _ HLD.out ?_)
        refine HCL.out.mono ?_
        rintro e w1 ⟨rfl, hb⟩
        have HB1 := Lib.hid (stepB HB0.out hb)
        clear hb
        go_wp2
        go_roundg g
        case measure => omega
        case rel => exact ⟨k + 1, by have := HG.out; omega, by go_num, HN2.out, HB1.out⟩
set_option maxRecDepth 20000 in
set_option maxHeartbeats 2000000 in
theorem ffind_any (A : Option Addr) (c : Nat) (xs : List Cs) (cn tg : Int) (w : World) (h : CsL w w.heap.size A xs) (hn : xs.length ≤ 140737488355328) :
    Calls Try.prog 29 #[.slice A xs.length c, .int .i64 cn, .int .i64 tg] w fun e w' => e = .returned (.int .i64 (ixI (fnC xs cn tg))) ∧ Below w.heap.size w w' := by
  have HS := Lib.hid h
  have HSE := Lib.hid (fun a1 a2 w1 hs hp => searchF_any A c xs 0 0 a1 a2 (isC cn tg) w1 hs hn rfl (Nat.zero_le _) hp)
  have he : srG (isC cn tg) (xs.drop 0) 0 = fnC xs cn tg := srG_fnd
  rw [he] at HSE
  generalize fnC xs cn tg = R at *
  clear h hn he
  have hmf : ∀ (fn : Fn) (first cap : Array Value) (w : World), (Instr.makeFunc fn first cap).run Try.prog w = .ok (.func fn first cap) w := fun _ _ _ _ => rfl
  go_enter Try.func29, Try.ntmps29
  go_upto_region 1 with fail
  refine name_world (C := fun w1 => Code.wp _ _ _ _ w1) ((w.alloc (.cells ([.int .i64 cn] : List Value).toArray 3)).alloc (.cells ([.int .i64 tg] : List Value).toArray 3)) ?_
  intro w1 hw1
  obtain ⟨t1, t2, hs0, hb1⟩ := S2.two_laid (v1 := [.int .i64 cn]) (v2 := [.int .i64 tg]) hw1
  have B_w1 := Lib.hid hb1
  have HCA := Lib.hid (HSE.out (.pointer (some ⟨w.heap.size, 0, none⟩)) (.pointer (some ⟨w.heap.size + 1, 0, none⟩)) w1 (GL.step HS.out hb1) (fun x _ w2 hb => fnd1_any x cn tg _ _ _ _ w2 (t1.step hb) (t2.step hb)))
  clear hw1 t1 t2 hs0 hb1 HS HSE
  go_wp2_with fail
  refine HCA.out.mono ?_
  rintro e w2 ⟨rfl, hb⟩
  have B_w2 := Lib.hid (stepB B_w1.out hb)
  clear hb
  go_wp2
  go_ret
  exact ⟨rfl, B_w2.out⟩

set_option maxRecDepth 20000 in
set_option maxHeartbeats 4000000 in
theorem fOne_any (A : Option Addr) (c : Nat) (xs : List Cs) (x : Cs) (w : World) (h : CsL w w.heap.size A xs) (hn : xs.length ≤ 140737488355328) (hq : x.qu.size ≤ 9223372036854775807) :
    Calls Try.prog 23 #[.slice A xs.length c, csV x] w fun e w' => e = .returned (.int .i64 (oneC xs x)) ∧ Below w.heap.size w w' := by
  obtain ⟨t, cn, qu, pr, un⟩ := x
  have hb1 := S2.below_new w (.cells #[.int .i64 t, .int .i64 cn, .string qu, .int .i64 pr, .int .i64 un] 25)
  have HS := Lib.hid (GL.step h hb1)
  have HB1 := Lib.hid hb1
  have HI := Lib.hid (fun n w1 => fcounts_any n w1)
  have HNm := Lib.hid (fun (w1 : World) => tName_dl qu w1)
  have HFd := Lib.hid (fun (w1 : World) (hs : CsL w1 w1.heap.size A xs) => ffind_any A c xs cn t w1 hs hn)
  have HK := Lib.hid (BK.new w 25 (gC ⟨t, cn, qu, pr, un⟩))
  have HE : Hid (oneC xs ⟨t, cn, qu, pr, un⟩ = oneE (xs.any (isC cn t)) ⟨t, cn, qu, pr, un⟩) := Lib.hid rfl
  have HF : Hid ((fnC xs cn t = none ∧ xs.any (isC cn t) = false) ∨ ∃ i, fnC xs cn t = some i ∧ xs.any (isC cn t) = true) := Lib.hid (by
    cases hf : fnC xs cn t with
    | none => exact .inl ⟨rfl, fn_none.1 hf⟩
    | some i =>
      refine .inr ⟨i, rfl, ?_⟩
      cases ha : xs.any (isC cn t) with
      | true => rfl
      | false => rw [fn_none.2 ha] at hf; cases hf)
  generalize oneC xs ⟨t, cn, qu, pr, un⟩ = R at *
  generalize xs.any (isC cn t) = hs at *
  generalize fnC xs cn t = fo at *
  unfold oneE at HE
  dsimp only at HE
  obtain ⟨i1, h1⟩ : ∃ z, inN t = z := ⟨_, rfl⟩
  obtain ⟨i2, h2⟩ : ∃ z, inN cn = z := ⟨_, rfl⟩
  obtain ⟨i3, h3⟩ : ∃ z, inN pr = z := ⟨_, rfl⟩
  obtain ⟨i4, h4⟩ : ∃ z, inN un = z := ⟨_, rfl⟩
  obtain ⟨i5, h5⟩ : ∃ z, T.nameL (dl qu) = z := ⟨_, rfl⟩
  have I1 := Lib.hid (HI.out t)
  have I2 := Lib.hid (HI.out cn)
  have I3 := Lib.hid (HI.out pr)
  have I4 := Lib.hid (HI.out un)
  rw [h1] at I1
  rw [h2] at I2
  rw [h3] at I3
  rw [h4] at I4
  rw [h5] at HNm
  rw [h1, h2, h3, h4, h5] at HE
  clear h hb1 h1 h2 h3 h4 h5 HI
  unfold csV gC
  unfold gC at HK
  go_enter Try.func23, Try.ntmps23
  go_wp2_with fail
  refine (I1.out _).mono ?_
  rintro e w2 ⟨rfl, rfl⟩
  cases i1 with
  | false =>
    have HR : Hid (R = 1) := Lib.hid HE.out
    go_wp2
    go_ret
    exact ⟨by rw [HR.out]; rfl, HB1.out⟩
  | true =>
  go_wp2_with fail
  refine (I2.out _).mono ?_
  rintro e w2 ⟨rfl, rfl⟩
  cases i2 with
  | false =>
    have HR : Hid (R = 1) := Lib.hid HE.out
    go_wp2
    go_ret
    exact ⟨by rw [HR.out]; rfl, HB1.out⟩
  | true =>
  go_wp2_with fail
  refine (I3.out _).mono ?_
  rintro e w2 ⟨rfl, rfl⟩
  cases i3 with
  | false =>
    have HR : Hid (R = 1) := Lib.hid HE.out
    go_wp2
    go_ret
    exact ⟨by rw [HR.out]; rfl, HB1.out⟩
  | true =>
  go_wp2_with fail
  refine (I4.out _).mono ?_
  rintro e w2 ⟨rfl, rfl⟩
  cases i4 with
  | false =>
    have HR : Hid (R = 1) := Lib.hid HE.out
    go_wp2
    go_ret
    exact ⟨by rw [HR.out]; rfl, HB1.out⟩
  | true =>
  go_wp2_with fail
  refine (HNm.out _).mono ?_
  rintro e w2 ⟨rfl, hb⟩
  have HK2 := Lib.hid (HK.out.step hb)
  have HS2 := Lib.hid (GL.step HS.out hb)
  have HB2 := Lib.hid (stepB HB1.out hb)
  clear hb HK HS HB1
  obtain ⟨z0, z1, z2, z3, z4⟩ := cells5 (x := ⟨t, cn, qu, pr, un⟩) HK2.out
  cases i5 with
  | false =>
    have HR : Hid (R = 11) := Lib.hid HE.out
    go_wp2
    go_ret
    exact ⟨by rw [HR.out]; rfl, HB2.out⟩
  | true =>
  go_wp2_with fail
  refine (HFd.out _ HS2.out).mono ?_
  rintro e w3 ⟨rfl, hb⟩
  have HB3 := Lib.hid (stepB HB2.out hb)
  clear hb z0 z1 z2 z3 z4
  rcases HF.out with ⟨hf, hh⟩ | ⟨i, hf, hh⟩
  · subst hf hh
    have HR : Hid (R = 0) := Lib.hid HE.out
    unfold ixI
    dsimp only
    go_wp2
    go_ret
    exact ⟨by rw [HR.out]; rfl, HB3.out⟩
  · subst hf hh
    have HR : Hid (R = 7) := Lib.hid HE.out
    unfold ixI
    dsimp only
    have e4 : (0 : Int) ≤ (i : Int) := by omega
    have e5 : decide ((0 : Int) ≤ (i : Int)) = true := decide_eq_true (by omega)
    go_wp2
    go_ret
    exact ⟨by rw [HR.out]; rfl, HB3.out⟩
end Go.Proofs.Ytjkhfifnfgchgaa
