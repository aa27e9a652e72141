/-
  What takes of the kinds topical and headers answers, and taken of exchange for all four kinds. Conditions: the lists read as data; few elements; the library's bound on short texts holds a number.
  What reached and Route of exchange answer, for all four kinds. Conditions: the lists read as data, names ascend; few elements; the library's bound on short texts holds a number.
  What the laws ExchangeUndoes, ExchangeRoutes and ExchangeOrders of the specification compare, as values. No function is walked here.
  What Takes and Route of brokerref24 answer. Conditions: the lists read as data; few elements; the library's bound on short texts holds a number; no exchange has the empty name.
  What Route of brokerref24 answers. Conditions: the lists read as data; few elements; the library's bound on short texts holds a number; no exchange has the empty name.
-/
import Derived.Test.YtjkhfifnfgchgabGreatDoorEaM
import Derived.Test.YtjkhfifnfgchgabGreatDoorEaN
import Derived.Test.YtjkhfifnfgchgabGreatDoorEpN
namespace Go.Proofs.YtjkhfifnfgchgabGreatDoor
open Go.RowKit
open S2 (BK Put get_ops exec_load)

theorem kdN_3 : kdN 3 = .iface 109 (.agg #[]) := rfl
theorem kdN_4 : kdN 4 = .iface 110 (.agg #[]) := rfl
def prV (x : PR) : Value := .agg #[.string x.1, .string x.2]
theorem hasP_eq (ps : List PR) (x : PR) : hasP ps x = ps.any fun y => eqPR x.1 x.2 y.1 y.2 := by
  unfold hasP eqPR
  congr 1
  funext y
  rw [Bool.eq_iff_iff]
  simp only [Bool.and_eq_true, decide_eq_true_eq, Prod.mk.injEq]
  exact ⟨fun ⟨a, b⟩ => ⟨a.symm, b.symm⟩, fun ⟨a, b⟩ => ⟨a.symm, b.symm⟩⟩
theorem dropG {α : Type} {xs : List α} {k : Nat} {x : α} (h : xs[k]? = some x) : xs.drop k = x :: xs.drop (k + 1) := by
  obtain ⟨hk, e⟩ := List.getElem?_eq_some_iff.1 h
  rw [List.drop_eq_getElem_cons hk, e]
theorem hasP_cons {ps : List PR} {k : Nat} {x y : PR} (h : ps[k]? = some y) : hasP (ps.drop k) x = (eqPR x.1 x.2 y.1 y.2 || hasP (ps.drop (k + 1)) x) := by
  rw [dropG h, hasP_eq, hasP_eq, List.any_cons]
def RetIb (b : Bool) (w : World) (e : Ending) (w' : World) : Prop := ∃ k : Int, e = .returned (.int .i64 k) ∧ decide (0 ≤ k) = b ∧ Below w.heap.size w w'

set_option maxRecDepth 20000 in
set_option maxHeartbeats 2000000 in
theorem idxP_any (A : Option Addr) (c : Nat) (ps : List PR) (x : PR) (w : World) (h : PL w w.heap.size A ps) (hn : ps.length ≤ 4398046511104) :
    Calls Tryz.prog 101 #[.slice A ps.length c, prV x] w (RetIb (hasP ps x) w) := by
  have HS := Lib.hid h
  have HNP := Lib.hid hn
  obtain ⟨R, hR⟩ : ∃ R, hasP ps x = R := ⟨_, rfl⟩
  rw [hR]
  have HR : Hid (R = hasP (ps.drop 0) x) := Lib.hid (by rw [List.drop_zero]; exact hR.symm)
  have HPC := Lib.hid (fun k y h => @hasP_cons ps k x y h)
  have heq := eqP
  have hgd := guardP
  unfold prV
  clear h hR hn
  go_enter Tryz.func101, Tryz.ntmps101
  go_upto_region 1 with fail
  refine name_world (C := fun w1 => Code.wp _ _ _ _ w1) (w.alloc (.cells [.string x.1, .string x.2].toArray 85)) ?_
  intro w1 hw1
  have hb1 : Below w.heap.size w w1 := by rw [hw1]; exact S2.below_new w _
  have X_w1 : Hid (BK 85 w1 w.heap.size [.string x.1, .string x.2]) := Lib.hid (by rw [hw1]; exact BK.new w _ _)
  have B_w1 := Lib.hid hb1
  clear hw1 hb1
  go_wp2_with fail
  go_loopg [8] ps.length (fun g v wr => ∃ k : Nat, k + g = ps.length ∧ v = .int .i64 k ∧ R = hasP (ps.drop k) x ∧ Below w1.heap.size w1 wr)
  case atStart => exact ⟨0, by omega, rfl, HR.out, Below.refl _ _⟩
  case round =>
    obtain ⟨k, hkg, rfl, hrel, hb0⟩ := hrel
    have HREL := Lib.hid hrel
    have HG := Lib.hid hkg
    have B_wr := Lib.hid hb0
    clear hrel HR hb0
    cases gk with
    | zero =>
      obtain rfl : k = ps.length := by omega
      have HF : Hid (R = false) := Lib.hid (by rw [HREL.out, List.drop_length]; rfl)
      clear hkg
      go_wp2_with fail
      go_ret
      exact ⟨-1, rfl, by rw [HF.out]; decide, stepB B_w1.out B_wr.out⟩
    | succ g =>
      have hlt : k < ps.length := by omega
      have e3 : decide ((k : Int) < (ps.length : Int)) = true := decide_eq_true (by omega)
      obtain ⟨y, hy⟩ : ∃ y, ps[k]? = some y := ⟨_, List.getElem?_eq_getElem hlt⟩
      obtain ⟨b, o, hA, hbB, kk, kv⟩ := PL.at_ (GL.step HS.out (stepB B_w1.out B_wr.out)) hy
      subst hA
      have x0 := (X_w1.out.step B_wr.out).cell 0 rfl
      have x1 := (X_w1.out.step B_wr.out).cell 1 rfl
      have j1 : (0 : Int) ≤ (k : Int) := by omega
      have j2 : (k : Int) < (ps.length : Int) := by omega
      have HPX := Lib.hid (HPC.out k y hy)
      obtain ⟨be, hbe⟩ : ∃ z, eqPR x.1 x.2 y.1 y.2 = z := ⟨_, rfl⟩
      have HBE := Lib.hid hbe
      rw [hbe] at HPX
      clear hy hkg hbB hlt
      cases be with
      | true =>
        have HF : Hid (R = true) := Lib.hid (by rw [HREL.out, HPX.out]; rfl)
        go_wp2_with fail
        go_quiet (fail)
        go_wp2_with fail
        go_ret
        exact ⟨k, rfl, by rw [HF.out]; exact decide_eq_true (by omega), stepB B_w1.out (stepB B_wr.out (below_drewN _ _))⟩
      | false =>
        have HF : Hid (R = hasP (ps.drop (k + 1)) x) := Lib.hid (by rw [HREL.out, HPX.out]; rfl)
        go_wp2_with fail
        go_quiet (fail)
        go_wp2_with fail
        go_roundg g
        case measure => omega
        case rel => exact ⟨k + 1, by have := HG.out; omega, nxt k (by have := HNP.out; have := HG.out; omega), HF.out, stepB B_wr.out (below_drewN _ _)⟩
set_option maxHeartbeats 2000000 in
theorem conP_any (A : Option Addr) (c : Nat) (ps : List PR) (x : PR) (w : World) (h : PL w w.heap.size A ps) (hn : ps.length ≤ 4398046511104) :
    Calls Tryz.prog 81 #[.slice A ps.length c, prV x] w fun e w' => e = .returned (.bool (hasP ps x)) ∧ Below w.heap.size w w' := by
  have HC := Lib.hid (fun w1 h => idxP_any A c ps x w1 h hn)
  have HS := Lib.hid h
  obtain ⟨R, hR⟩ : ∃ R, hasP ps x = R := ⟨_, rfl⟩
  rw [hR] at HC ⊢
  unfold prV at HC ⊢
  clear h hR hn
  go_enter Tryz.func81, Tryz.ntmps81
  go_upto_region 1 with fail
  refine name_world (C := fun w1 => Code.wp _ _ _ _ w1) (w.alloc (.cells [.string x.1, .string x.2].toArray 85)) ?_
  intro w1 hw1
  have hb1 : Below w.heap.size w w1 := by rw [hw1]; exact S2.below_new w _
  have X_w1 : Hid (BK 85 w1 w.heap.size [.string x.1, .string x.2]) := Lib.hid (by rw [hw1]; exact BK.new w _ _)
  have B_w1 := Lib.hid hb1
  clear hw1 hb1
  have x0 := X_w1.out.cell 0 rfl
  have x1 := X_w1.out.cell 1 rfl
  go_wp2_with fail
  refine (HC.out _ (GL.step HS.out B_w1.out)).mono ?_
  rintro e w2 ⟨k, rfl, hk, hb⟩
  have HB := Lib.hid (stepB B_w1.out hb)
  subst hk
  clear hb x0 x1
  go_wp2_with fail
  go_ret
  exact ⟨by simp, HB.out⟩
set_option maxHeartbeats 2000000 in
theorem has1_any (x : PR) (key : ByteArray) (Ap : Option Addr) (ps : List PR) (cp : Nat) (g : Nat) (w : World) (hE : BK 79 w g (enC key Ap ps.length cp)) (h : PL w w.heap.size Ap ps) (hn : ps.length ≤ 4398046511104) :
    Calls Tryz.prog 146 #[prV x, .pointer (some ⟨g, 0, none⟩)] w fun e w' => e = .returned (.bool (hasP ps x)) ∧ Below w.heap.size w w' := by
  have HC := Lib.hid (fun w1 h => conP_any Ap cp ps x w1 h hn)
  have HS := Lib.hid h
  have HE := Lib.hid hE
  obtain ⟨R, hR⟩ : ∃ R, hasP ps x = R := ⟨_, rfl⟩
  rw [hR] at HC ⊢
  unfold prV at HC ⊢
  unfold enC at HE
  clear h hR hn hE
  go_enter Tryz.func146, Tryz.ntmps146
  go_upto_region 1 with fail
  refine name_world (C := fun w1 => Code.wp _ _ _ _ w1) (w.alloc (.cells [.string x.1, .string x.2].toArray 85)) ?_
  intro w1 hw1
  have hb1 : Below w.heap.size w w1 := by rw [hw1]; exact S2.below_new w _
  have X_w1 : Hid (BK 85 w1 w.heap.size [.string x.1, .string x.2]) := Lib.hid (by rw [hw1]; exact BK.new w _ _)
  have B_w1 := Lib.hid hb1
  clear hw1 hb1
  have x0 := X_w1.out.cell 0 rfl
  have x1 := X_w1.out.cell 1 rfl
  have y1 := (HE.out.step B_w1.out).cell 1 rfl
  go_wp2_with fail
  refine (HC.out _ (GL.step HS.out B_w1.out)).mono ?_
  rintro e w2 ⟨rfl, hb⟩
  have HB := Lib.hid (stepB B_w1.out hb)
  clear hb x0 x1 y1
  go_wp2_with fail
  go_ret
  exact ⟨rfl, HB.out⟩
set_option maxHeartbeats 2000000 in
theorem has2_any (x : PR) (key : ByteArray) (Ap : Option Addr) (ps : List PR) (cp : Nat) (g q : Nat) (w : World) (hE : BK 79 w g (enC key Ap ps.length cp)) (hF : BK 164 w q [.func (.func 146) #[] #[.pointer (some ⟨g, 0, none⟩)]]) (h : PL w w.heap.size Ap ps) (hn : ps.length ≤ 4398046511104) :
    Calls Tryz.prog 148 #[prV x, .pointer (some ⟨q, 0, none⟩)] w fun e w' => e = .returned (.bool (!hasP ps x)) ∧ Below w.heap.size w w' := by
  have HC := Lib.hid (fun w1 hE h => has1_any x key Ap ps cp g w1 hE h hn)
  have HS := Lib.hid h
  have HE := Lib.hid hE
  have HF := Lib.hid hF
  obtain ⟨R, hR⟩ : ∃ R, hasP ps x = R := ⟨_, rfl⟩
  rw [hR] at HC ⊢
  unfold prV at HC ⊢
  clear h hR hn hE hF
  go_enter Tryz.func148, Tryz.ntmps148
  go_upto_region 1 with fail
  refine name_world (C := fun w1 => Code.wp _ _ _ _ w1) (w.alloc (.cells [.string x.1, .string x.2].toArray 85)) ?_
  intro w1 hw1
  have hb1 : Below w.heap.size w w1 := by rw [hw1]; exact S2.below_new w _
  have X_w1 : Hid (BK 85 w1 w.heap.size [.string x.1, .string x.2]) := Lib.hid (by rw [hw1]; exact BK.new w _ _)
  have B_w1 := Lib.hid hb1
  clear hw1 hb1
  have x0 := X_w1.out.cell 0 rfl
  have x1 := X_w1.out.cell 1 rfl
  have y1 := (HF.out.step B_w1.out).cell 0 rfl
  go_wp2_with fail
  refine (HC.out _ (HE.out.step B_w1.out) (GL.step HS.out B_w1.out)).mono ?_
  rintro e w2 ⟨rfl, hb⟩
  have HB := Lib.hid (stepB B_w1.out hb)
  clear hb x0 x1 y1
  go_wp2_with fail
  go_ret
  exact ⟨rfl, HB.out⟩

set_option maxRecDepth 20000 in
set_option maxHeartbeats 2000000 in
theorem idxF1_any (A : Option Addr) (cc : Nat) (xs : List PR) (a1 : Value) (p : PR → Bool) (w : World) (h : PL w w.heap.size A xs) (hn : xs.length ≤ 4398046511104)
    (hp : ∀ x ∈ xs, ∀ w1, Below w.heap.size w w1 → Calls Tryz.prog 146 #[prV x, a1] w1 fun e w' => e = .returned (.bool (p x)) ∧ Below w1.heap.size w1 w') :
    Calls Tryz.prog 149 #[.slice A xs.length cc, .func (.func 146) #[] #[a1]] w (RetIb (xs.any p) w) := by
  have HS := Lib.hid h
  have HP := Lib.hid hp
  have HNP := Lib.hid hn
  obtain ⟨R, hR⟩ : ∃ R, xs.any p = R := ⟨_, rfl⟩
  rw [hR]
  have HR : Hid (R = (xs.drop 0).any p) := Lib.hid (by rw [List.drop_zero]; exact hR.symm)
  unfold prV at HP
  clear h hp hR hn
  go_enter Tryz.func149, Tryz.ntmps149
  go_wp2
  go_loopg [8] xs.length (fun g v wr => ∃ k : Nat, k + g = xs.length ∧ v = .int .i64 k ∧ R = (xs.drop k).any p ∧ Below w.heap.size w wr)
  case atStart => exact ⟨0, by omega, rfl, HR.out, Below.refl _ _⟩
  case round =>
    obtain ⟨k, hkg, rfl, hrel, hb0⟩ := hrel
    have HREL := Lib.hid hrel
    have HB0 := Lib.hid hb0
    have HG := Lib.hid hkg
    clear hrel hb0 HR
    cases gk with
    | zero =>
      obtain rfl : k = xs.length := by omega
      have HF : Hid (R = false) := Lib.hid (by rw [HREL.out, List.drop_length]; rfl)
      clear hkg
      go_wp2_with fail
      go_ret
      exact ⟨-1, rfl, by rw [HF.out]; decide, HB0.out⟩
    | succ g =>
      have hlt : k < xs.length := by omega
      have e3 : decide ((k : Int) < (xs.length : Int)) = true := decide_eq_true (by omega)
      obtain ⟨x, hx⟩ : ∃ x, xs[k]? = some x := ⟨_, List.getElem?_eq_getElem hlt⟩
      obtain ⟨b, o, hA, hbB, kk, kv⟩ := PL.at_ (GL.step HS.out HB0.out) hx
      subst hA
      have j1 : (0 : Int) ≤ (k : Int) := by omega
      have j2 : (k : Int) < (xs.length : Int) := by omega
      have HCL := Lib.hid (HP.out x (List.mem_of_getElem? hx) wr HB0.out)
      have HD : Hid ((xs.drop k).any p = (p x || (xs.drop (k + 1)).any p)) := Lib.hid (by rw [dropG hx, List.any_cons])
      obtain ⟨bp, hbp⟩ : ∃ z, p x = z := ⟨_, rfl⟩
      rw [hbp] at HCL HD
      clear hx hbB hkg hbp hlt
      cases bp with
      | true =>
        have HF : Hid (R = true) := Lib.hid (by rw [HREL.out, HD.out]; rfl)
        go_wp2_with fail
        refine HCL.out.mono ?_
        rintro e w1 ⟨rfl, hb⟩
        have HB1 := Lib.hid (stepB HB0.out hb)
        clear hb
        go_wp2_with fail
        go_ret
        exact ⟨k, rfl, by rw [HF.out]; exact decide_eq_true (by omega), HB1.out⟩
      | false =>
        have HF : Hid (R = (xs.drop (k + 1)).any p) := Lib.hid (by rw [HREL.out, HD.out]; rfl)
        go_wp2_with fail
        refine HCL.out.mono ?_
        rintro e w1 ⟨rfl, hb⟩
        have HB1 := Lib.hid (stepB HB0.out hb)
        clear hb
        go_wp2_with fail
        go_roundg g
        case measure => omega
        case rel => exact ⟨k + 1, by have := HG.out; omega, nxt k (by have := HNP.out; have := HG.out; omega), HF.out, HB1.out⟩
set_option maxHeartbeats 1000000 in
theorem conF1_any (A : Option Addr) (cc : Nat) (xs : List PR) (a1 : Value) (p : PR → Bool) (w : World) (h : PL w w.heap.size A xs) (hn : xs.length ≤ 4398046511104)
    (hp : ∀ x ∈ xs, ∀ w1, Below w.heap.size w w1 → Calls Tryz.prog 146 #[prV x, a1] w1 fun e w' => e = .returned (.bool (p x)) ∧ Below w1.heap.size w1 w') :
    Calls Tryz.prog 147 #[.slice A xs.length cc, .func (.func 146) #[] #[a1]] w fun e w' => e = .returned (.bool (xs.any p)) ∧ Below w.heap.size w w' := by
  have HC := Lib.hid (idxF1_any A cc xs a1 p w h hn hp)
  obtain ⟨R, hR⟩ : ∃ R, xs.any p = R := ⟨_, rfl⟩
  rw [hR] at HC ⊢
  clear h hR hp
  go_enter Tryz.func147, Tryz.ntmps147
  go_wp2_with fail
  refine HC.out.mono ?_
  rintro e w1 ⟨k, rfl, hk, hb⟩
  have HB := Lib.hid hb
  subst hk
  clear hb
  go_wp2_with fail
  go_ret
  exact ⟨by simp, HB.out⟩

set_option maxRecDepth 20000 in
set_option maxHeartbeats 2000000 in
theorem idxF2_any (A : Option Addr) (cc : Nat) (xs : List PR) (a1 : Value) (p : PR → Bool) (w : World) (h : PL w w.heap.size A xs) (hn : xs.length ≤ 4398046511104)
    (hp : ∀ x ∈ xs, ∀ w1, Below w.heap.size w w1 → Calls Tryz.prog 148 #[prV x, a1] w1 fun e w' => e = .returned (.bool (p x)) ∧ Below w1.heap.size w1 w') :
    Calls Tryz.prog 149 #[.slice A xs.length cc, .func (.func 148) #[] #[a1]] w (RetIb (xs.any p) w) := by
  have HS := Lib.hid h
  have HP := Lib.hid hp
  have HNP := Lib.hid hn
  obtain ⟨R, hR⟩ : ∃ R, xs.any p = R := ⟨_, rfl⟩
  rw [hR]
  have HR : Hid (R = (xs.drop 0).any p) := Lib.hid (by rw [List.drop_zero]; exact hR.symm)
  unfold prV at HP
  clear h hp hR hn
  go_enter Tryz.func149, Tryz.ntmps149
  go_wp2
  go_loopg [8] xs.length (fun g v wr => ∃ k : Nat, k + g = xs.length ∧ v = .int .i64 k ∧ R = (xs.drop k).any p ∧ Below w.heap.size w wr)
  case atStart => exact ⟨0, by omega, rfl, HR.out, Below.refl _ _⟩
  case round =>
    obtain ⟨k, hkg, rfl, hrel, hb0⟩ := hrel
    have HREL := Lib.hid hrel
    have HB0 := Lib.hid hb0
    have HG := Lib.hid hkg
    clear hrel hb0 HR
    cases gk with
    | zero =>
      obtain rfl : k = xs.length := by omega
      have HF : Hid (R = false) := Lib.hid (by rw [HREL.out, List.drop_length]; rfl)
      clear hkg
      go_wp2_with fail
      go_ret
      exact ⟨-1, rfl, by rw [HF.out]; decide, HB0.out⟩
    | succ g =>
      have hlt : k < xs.length := by omega
      have e3 : decide ((k : Int) < (xs.length : Int)) = true := decide_eq_true (by omega)
      obtain ⟨x, hx⟩ : ∃ x, xs[k]? = some x := ⟨_, List.getElem?_eq_getElem hlt⟩
      obtain ⟨b, o, hA, hbB, kk, kv⟩ := PL.at_ (GL.step HS.out HB0.out) hx
      subst hA
      have j1 : (0 : Int) ≤ (k : Int) := by omega
      have j2 : (k : Int) < (xs.length : Int) := by omega
      have HCL := Lib.hid (HP.out x (List.mem_of_getElem? hx) wr HB0.out)
      have HD : Hid ((xs.drop k).any p = (p x || (xs.drop (k + 1)).any p)) := Lib.hid (by rw [dropG hx, List.any_cons])
      obtain ⟨bp, hbp⟩ : ∃ z, p x = z := ⟨_, rfl⟩
      rw [hbp] at HCL HD
      clear hx hbB hkg hbp hlt
      cases bp with
      | true =>
        have HF : Hid (R = true) := Lib.hid (by rw [HREL.out, HD.out]; rfl)
        go_wp2_with fail
        refine HCL.out.mono ?_
        rintro e w1 ⟨rfl, hb⟩
        have HB1 := Lib.hid (stepB HB0.out hb)
        clear hb
        go_wp2_with fail
        go_ret
        exact ⟨k, rfl, by rw [HF.out]; exact decide_eq_true (by omega), HB1.out⟩
      | false =>
        have HF : Hid (R = (xs.drop (k + 1)).any p) := Lib.hid (by rw [HREL.out, HD.out]; rfl)
        go_wp2_with fail
        refine HCL.out.mono ?_
        rintro e w1 ⟨rfl, hb⟩
        have HB1 := Lib.hid (stepB HB0.out hb)
        clear hb
        go_wp2_with fail
        go_roundg g
        case measure => omega
        case rel => exact ⟨k + 1, by have := HG.out; omega, nxt k (by have := HNP.out; have := HG.out; omega), HF.out, HB1.out⟩
set_option maxHeartbeats 1000000 in
theorem conF2_any (A : Option Addr) (cc : Nat) (xs : List PR) (a1 : Value) (p : PR → Bool) (w : World) (h : PL w w.heap.size A xs) (hn : xs.length ≤ 4398046511104)
    (hp : ∀ x ∈ xs, ∀ w1, Below w.heap.size w w1 → Calls Tryz.prog 148 #[prV x, a1] w1 fun e w' => e = .returned (.bool (p x)) ∧ Below w1.heap.size w1 w') :
    Calls Tryz.prog 147 #[.slice A xs.length cc, .func (.func 148) #[] #[a1]] w fun e w' => e = .returned (.bool (xs.any p)) ∧ Below w.heap.size w w' := by
  have HC := Lib.hid (idxF2_any A cc xs a1 p w h hn hp)
  obtain ⟨R, hR⟩ : ∃ R, xs.any p = R := ⟨_, rfl⟩
  rw [hR] at HC ⊢
  clear h hR hp
  go_enter Tryz.func147, Tryz.ntmps147
  go_wp2_with fail
  refine HC.out.mono ?_
  rintro e w1 ⟨k, rfl, hk, hb⟩
  have HB := Lib.hid hb
  subst hk
  clear hb
  go_wp2_with fail
  go_ret
  exact ⟨by simp, HB.out⟩

def hdR (b : Bd) (ps : List PR) : Bool := if b.all then b.ml.all (hasP ps) else b.ml.any (hasP ps)
theorem notany (ml ps : List PR) : (!ml.any fun x => !hasP ps x) = ml.all (hasP ps) := by
  rw [List.not_any_eq_all_not]
  congr 1
  funext x
  exact Bool.not_not _
set_option maxHeartbeats 2000000 in
theorem topical_any (x : BE) (key : ByteArray) (Ap : Option Addr) (np cp : Nat) (w : World) (ho : S1.Okw w) :
    Calls Tryz.prog 144 #[.agg #[], bdV x, enV key Ap np cp] w fun e w' => e = .returned (.bool (mtR x.d.ky key)) ∧ Below w.heap.size w w' := by
  have HC := Lib.hid (fun w1 h => xMatches_any x.d.ky key w1 h)
  have HO := Lib.hid ho
  generalize mtR x.d.ky key = b at *
  have HV : Hid (bdV x = .agg #[.string x.d.ex, .string x.d.qu, .string x.d.ky, .bool x.d.all, .slice x.a x.d.ml.length x.c]) := Lib.hid rfl
  rw [HV.out]
  unfold enV
  clear HV ho
  go_enter Tryz.func144, Tryz.ntmps144
  go_upto_region 1 with fail
  refine name_world (C := fun w1 => Code.wp _ _ _ _ w1) (((w.alloc (.cells ([] : List Value).toArray 109)).alloc (.cells [.string x.d.ex, .string x.d.qu, .string x.d.ky, .bool x.d.all, .slice x.a x.d.ml.length x.c].toArray 35)).alloc (.cells [.string key, .slice Ap np cp].toArray 79)) ?_
  intro w1 hw1
  obtain ⟨u1, u2, u3, hB0, hs0⟩ := three_laid hw1
  have X_w1 := Lib.hid u2
  have E_w1 := Lib.hid u3
  have B_w1 := Lib.hid hB0
  have O_w1 := Lib.hid (HO.out.step hB0)
  clear hw1 u1 u2 u3 hB0 hs0
  have x2 := X_w1.out.cell 2 rfl
  have e0 := E_w1.out.cell 0 rfl
  go_wp2_with fail
  refine (HC.out _ O_w1.out).mono ?_
  rintro e w2 ⟨rfl, hb⟩
  have HB := Lib.hid (stepB B_w1.out hb)
  clear hb x2 e0
  go_wp2_with fail
  go_ret
  exact ⟨rfl, HB.out⟩
set_option maxRecDepth 20000 in
set_option maxHeartbeats 4000000 in
theorem headers_any (x : BE) (key : ByteArray) (Ap : Option Addr) (ps : List PR) (cp : Nat) (w : World) (h : PL w w.heap.size Ap ps) (hm : PL w w.heap.size x.a x.d.ml) (hn : ps.length ≤ 4398046511104) (hnm : x.d.ml.length ≤ 4398046511104) :
    Calls Tryz.prog 145 #[.agg #[], bdV x, enV key Ap ps.length cp] w fun e w' => e = .returned (.bool (hdR x.d ps)) ∧ Below w.heap.size w w' := by
  have HP := Lib.hid h
  have HM := Lib.hid hm
  have H1 := Lib.hid (fun g y w1 hE h => has1_any y key Ap ps cp g w1 hE h hn)
  have H2 := Lib.hid (fun g q y w1 hE hF h => has2_any y key Ap ps cp g q w1 hE hF h hn)
  have HC1 := Lib.hid (fun a1 w1 h hp => conF1_any x.a x.c x.d.ml a1 (hasP ps) w1 h hnm hp)
  have HC2 := Lib.hid (fun a1 w1 h hp => conF2_any x.a x.c x.d.ml a1 (fun y => !hasP ps y) w1 h hnm hp)
  have HR1 : Hid (x.d.all = true → hdR x.d ps = !(x.d.ml.any fun y => !hasP ps y)) := Lib.hid (fun h => by unfold hdR; rw [if_pos h, notany])
  have HR2 : Hid (x.d.all = false → hdR x.d ps = x.d.ml.any (hasP ps)) := Lib.hid (fun h => by unfold hdR; rw [if_neg (by rw [h]; decide)])
  have HV : Hid (bdV x = .agg #[.string x.d.ex, .string x.d.qu, .string x.d.ky, .bool x.d.all, .slice x.a x.d.ml.length x.c]) := Lib.hid rfl
  rw [HV.out]
  generalize hdR x.d ps = R at *
  generalize x.d.all = ba at *
  unfold enC at H1 H2
  unfold enV
  clear HV h hm hn hnm
  go_enter Tryz.func145, Tryz.ntmps145
  go_upto_region 1 with fail
  refine name_world (C := fun w1 => Code.wp _ _ _ _ w1) (((w.alloc (.cells ([] : List Value).toArray 110)).alloc (.cells [.string x.d.ex, .string x.d.qu, .string x.d.ky, .bool ba, .slice x.a x.d.ml.length x.c].toArray 35)).alloc (.cells [.string key, .slice Ap ps.length cp].toArray 79)) ?_
  intro w1 hw1
  obtain ⟨u1, u2, u3, hB0, hs0⟩ := three_laid hw1
  have X_w1 := Lib.hid u2
  have E_w1 := Lib.hid u3
  have B_w1 := Lib.hid hB0
  have M_w1 := Lib.hid (GL.step HM.out hB0)
  have P_w1 := Lib.hid (GL.step HP.out hB0)
  clear hw1 u1 u2 u3 hB0 hs0 HM HP
  go_upto_region 2 with (refine wpList_store_row (by rfl) 164 (.tmp 7) (.tmp 8) rfl rfl w1.heap.size 0 1 rfl _ rfl 164 [.nilFunc] [.func (.func 146) #[] #[.pointer (some ⟨w.heap.size + 2, 0, none⟩)]] (BK.new w1 _ _) rfl rfl (by kernel_rfl) (by simp) (fun u hu => by simp only [List.mem_cons, List.not_mem_nil, or_false] at hu; subst hu; rfl) ?_; intro w2 hM hP _; have F_w2 : Hid (BK 164 w2 w1.heap.size [.func (.func 146) #[] #[.pointer (some ⟨w.heap.size + 2, 0, none⟩)]]) := Lib.hid hM; have hb := hP.below (S2.below_new w1 _) (Nat.le_refl _); have B_w2 := Lib.hid (stepB B_w1.out hb); have X_w2 := Lib.hid (X_w1.out.step hb); have E_w2 := Lib.hid (E_w1.out.step hb); have M_w2 := Lib.hid (GL.step M_w1.out hb); have P_w2 := Lib.hid (GL.step P_w1.out hb); clear hM hP hb X_w1 E_w1 M_w1 P_w1 B_w1)
  have x3 := X_w2.out.cell 3 rfl
  have x4 := X_w2.out.cell 4 rfl
  have f0 := F_w2.out.cell 0 rfl
  cases ba with
  | true =>
    go_wp2_with fail
    refine (HC2.out (.pointer (some ⟨w1.heap.size, 0, none⟩)) _ M_w2.out (fun y hy w3 hb => H2.out _ _ y w3 (E_w2.out.step hb) (F_w2.out.step hb) (GL.step P_w2.out hb))).mono ?_
    rintro e w3 ⟨rfl, hb⟩
    have HB := Lib.hid (stepB B_w2.out hb)
    clear hb x4 f0
    go_wp2_with fail
    go_ret
    exact ⟨by rw [HR1.out (by first | rfl | trivial)]; rfl, HB.out⟩
  | false =>
    go_wp2_with fail
    refine (HC1.out (.pointer (some ⟨w.heap.size + 2, 0, none⟩)) _ M_w2.out (fun y hy w3 hb => H1.out _ y w3 (E_w2.out.step hb) (GL.step P_w2.out hb))).mono ?_
    rintro e w3 ⟨rfl, hb⟩
    have HB := Lib.hid (stepB B_w2.out hb)
    clear hb x4 f0
    go_wp2_with fail
    go_ret
    exact ⟨by rw [HR2.out (by first | rfl | trivial)]; rfl, HB.out⟩


set_option maxRecDepth 20000 in
set_option maxHeartbeats 8000000 in
theorem taken_3 (A2 : Option Addr) (c2 : Nat) (xs : List BE) (x : Ex) (key : ByteArray) (ps : List PR) (Ap : Option Addr) (np cp : Nat) (w : World) (h : BI w w.heap.size A2 xs) (hk : x.kd = 3) (hn : xs.length ≤ 100000) (ho : S1.Okw w) :
    Calls Tryz.prog 74 #[.slice A2 xs.length c2, exV x, enV key Ap np cp] w fun e w' => ∃ v, e = .returned v ∧ OwnT w' w.heap.size v (takenR (xs.map BE.d) x key ps) ∧ Below w.heap.size w w' := by
  have HK : Hid (∀ w1, Calls Tryz.prog 62 #[.int .i64 3] w1 fun e w' => e = .returned (.tuple #[.iface 109 (.agg #[]), .bool true]) ∧ w' = w1) := Lib.hid (fun w1 => kindOf_any 3 w1)
  have HT := Lib.hid (fun y w1 ho => topical_any y key Ap np cp w1 ho)
  have HOK := Lib.hid ho
  have HTK : Hid (∀ y : BE, tkB x key ps y.d = (decide (y.d.ex = x.nm) && mtR y.d.ky key)) := Lib.hid (fun y => by unfold tkB takesR; rw [hk]; rfl)
  have HX := Lib.hid h
  have HNX := Lib.hid hn
  have HNE : Hid (∀ k y, xs[k]? = some y → takenR ((xs.take (k + 1)).map BE.d) x key ps = if tkB x key ps y.d = true then takenR ((xs.take k).map BE.d) x key ps ++ [y.d.qu] else takenR ((xs.take k).map BE.d) x key ps) := Lib.hid (fun k y hy => takenR_next hy)
  have HLE : Hid (∀ k, (takenR ((xs.take k).map BE.d) x key ps).length ≤ 100000) := Lib.hid (fun k => by have := takenR_le ((xs.take k).map BE.d) x key ps; rw [List.length_map, List.length_take] at this; omega)
  have HT0 : Hid (takenR ((xs.take 0).map BE.d) x key ps = []) := Lib.hid rfl
  have HTE : Hid (takenR ((xs.take xs.length).map BE.d) x key ps = takenR (xs.map BE.d) x key ps) := Lib.hid (by rw [List.take_length])
  obtain ⟨TR, hTR⟩ : ∃ F : Nat → List ByteArray, F = fun k => takenR ((xs.take k).map BE.d) x key ps := ⟨_, rfl⟩
  have HTR : ∀ k, takenR ((xs.take k).map BE.d) x key ps = TR k := fun k => by rw [hTR]
  simp only [HTR] at HNE HLE HT0 HTE
  rw [← HTE.out]
  have HV : Hid (exV x = .agg #[.string x.nm, .int .i64 3, .string x.alt]) := Lib.hid (by rw [← hk]; rfl)
  rw [HV.out]
  unfold enV
  clear h hn hTR HTR HTE HV
  generalize x.nm = nm at *
  generalize x.alt = alt at *
  go_enter Tryz.func74, Tryz.ntmps74
  go_upto_region 1 with fail
  refine name_world (C := fun w1 => Code.wp _ _ _ _ w1) ((w.alloc (.cells [.string nm, .int .i64 3, .string alt].toArray 32)).alloc (.cells [.string key, .slice Ap np cp].toArray 79)) ?_
  intro w1 hw1
  obtain ⟨u1, u2, hs0, hB0⟩ := S2.two_laid hw1
  have X_w1 := Lib.hid u1
  have E_w1 := Lib.hid u2
  have B_w1 := Lib.hid hB0
  have HZ1 := Lib.hid hs0
  clear hw1 u1 u2 hs0 hB0
  have x1 := X_w1.out.cell 1 rfl
  go_wp2_with fail
  refine (HK.out _).mono ?_
  rintro e w2 ⟨rfl, hw⟩
  have hw := hw.symm
  subst hw
  clear x1 HK
  go_wp2_with fail
  go_loopg [7, 20] xs.length (fun g v7 v wr => ∃ (k : Nat), k + g = xs.length ∧ v = .int .i64 k ∧ OwnT wr w1.heap.size v7 (TR k) ∧ Below w1.heap.size w1 wr)
  case atStart => exact ⟨0, by omega, rfl, by rw [HT0.out]; exact OwnG.nil _ _, Below.refl _ _⟩
  case round =>
    obtain ⟨k, hkg, rfl, ho, hb0⟩ := hrel
    have O_wr := Lib.hid ho
    have B_wr := Lib.hid hb0
    have HG := Lib.hid hkg
    clear ho hb0
    cases gk with
    | zero =>
      obtain rfl : k = xs.length := by omega
      clear hkg
      go_wp2_with fail
      go_ret
      exact ⟨_, rfl, OwnG.weak O_wr.out B_w1.out.size, (stepB B_w1.out B_wr.out)⟩
    | succ n =>
      have hlt : k < xs.length := by omega
      have e3 : decide ((k : Int) < (xs.length : Int)) = true := decide_eq_true (by omega)
      obtain ⟨y, hy⟩ : ∃ y, xs[k]? = some y := ⟨_, List.getElem?_eq_getElem hlt⟩
      have hsr := HX.out.step (stepB B_w1.out B_wr.out)
      obtain ⟨b, o, hA, hbB, hcl, hpl⟩ := hsr.at_ hy
      have HLD := Lib.hid (load_bd hcl)
      have HNK := Lib.hid (HNE.out k y hy)
      have HTY := Lib.hid (HTK.out y)
      have HCT := Lib.hid (HT.out y)
      have HYY := Lib.hid hy
      have HQL := Lib.hid (HLE.out k)
      subst hA
      have j1 : (0 : Int) ≤ (k : Int) := by omega
      have j2 : (k : Int) < (xs.length : Int) := by omega
      clear hy hkg hlt hbB hcl hpl hsr
      go_upto_region 6 with first
        | (refine wpList_load_v (by rfl) 35 (.tmp 22) rfl ⟨b, o + k * 5, none⟩ (by go_simp) _ HLD.out ?_)
        | (refine S2.wpList_store_all (by rfl) 35 (.tmp 11) (.tmp 23) rfl rfl wr.heap.size rfl (gB y) rfl 35 _ (BK.new wr _ _) bdSize rfl (gB_one _) ?_; intro w4 hM hP; have hb := hP.below (S2.below_new wr _) (Nat.le_refl _); have B_w4 := Lib.hid (stepB B_wr.out hb); have V_w4 := Lib.hid hM; have O_w4 := Lib.hid (OwnG.step O_wr.out hb); clear hM hP hb)
      clear HLD B_wr O_wr
      have X_w4 := Lib.hid (X_w1.out.step B_w4.out)
      have E_w4 := Lib.hid (E_w1.out.step B_w4.out)
      have HLV := Lib.hid (load_bd0 V_w4.out)
      have HLE4 := Lib.hid (S2.run_load_all E_w4.out Tryz.underlying79 rfl enSize)
      have HB4 := B_w4
      have x0 := X_w4.out.cell 0 rfl
      have v0 := V_w4.out.cell 0 rfl
      have q1 : (y.d.ex.toList == nm.toList) = decide (y.d.ex = nm) := str_dec _ _
      generalize decide (y.d.ex = nm) = b1 at *
      generalize mtR y.d.ky key = b2 at *
      cases b1 with
      | false =>
        have HT9 : Hid (tkB x key ps y.d = false) := Lib.hid (by rw [HTY.out]; rfl)
        go_wp2_with fail
        go_roundg n
        case measure => omega
        case rel => exact ⟨k + 1, by have := HG.out; omega, nxt k (by have := HNX.out; have := HG.out; omega), by rw [HNK.out, if_neg (by rw [HT9.out]; decide)]; exact O_w4.out, B_w4.out⟩
      | true =>
        go_wp2_with first
          | (refine wpList_load_v (by rfl) 35 (.tmp 11) rfl ⟨wr.heap.size, 0, none⟩ (by go_simp) _ HLV.out ?_)
          | (refine wpList_load_v (by rfl) 79 (.tmp 5) rfl ⟨w.heap.size + 1, 0, none⟩ (by go_simp) _ HLE4.out ?_)
        refine (HCT.out _ (HOK.out.step (stepB B_w1.out HB4.out))).mono ?_
        rintro e w5 ⟨rfl, hb⟩
        have B_w5 := Lib.hid (stepB B_w4.out hb)
        have V_w5 := Lib.hid (V_w4.out.step hb)
        have O_w5 := Lib.hid (OwnG.step O_w4.out hb)
        clear hb V_w4 O_w4 x0 v0 HLV HLE4 X_w4 E_w4
        cases b2 with
        | false =>
          have HT9 : Hid (tkB x key ps y.d = false) := Lib.hid (by rw [HTY.out]; rfl)
          go_wp2_with fail
          go_roundg n
          case measure => omega
          case rel => exact ⟨k + 1, by have := HG.out; omega, nxt k (by have := HNX.out; have := HG.out; omega), by rw [HNK.out, if_neg (by rw [HT9.out]; decide)]; exact O_w5.out, B_w5.out⟩
        | true =>
          have HT9 : Hid (tkB x key ps y.d = true) := Lib.hid (by rw [HTY.out]; rfl)
          have v1 := V_w5.out.cell 1 rfl
          go_wp2_with (at_builtin; refine wpList_app1 gT_len gT_one (by decide) w5 rfl _ _ 45 rfl (.string ByteArray.empty) 16 Tryz.underlying45 strInfo9 rfl (by decide) w1.heap.size _ (TR k) y.d.qu (by rfl) O_w5.out (by rfl) w1 B_w5.out B_w5.out.size (by have := HQL.out; omega) ?_; intro v9 w9 hown9 hb9 hs9; have O_w9 := Lib.hid hown9; have B_w9 := Lib.hid hb9; clear hown9 hb9 hs9 v1)
          go_roundg n
          case measure => omega
          case rel => exact ⟨k + 1, by have := HG.out; omega, nxt k (by have := HNX.out; have := HG.out; omega), by rw [HNK.out, if_pos HT9.out]; exact O_w9.out, B_w9.out⟩


set_option maxRecDepth 20000 in
set_option maxHeartbeats 8000000 in
theorem taken_4 (A2 : Option Addr) (c2 : Nat) (xs : List BE) (x : Ex) (key : ByteArray) (ps : List PR) (Ap : Option Addr) (cp : Nat) (w : World) (h : BI w w.heap.size A2 xs) (hk : x.kd = 4) (hn : xs.length ≤ 100000) (hp : PL w w.heap.size Ap ps) (hnp : ps.length ≤ 4398046511104) (hm : ∀ y ∈ xs, y.d.ml.length ≤ 4398046511104) :
    Calls Tryz.prog 74 #[.slice A2 xs.length c2, exV x, enV key Ap ps.length cp] w fun e w' => ∃ v, e = .returned v ∧ OwnT w' w.heap.size v (takenR (xs.map BE.d) x key ps) ∧ Below w.heap.size w w' := by
  have HK : Hid (∀ w1, Calls Tryz.prog 62 #[.int .i64 4] w1 fun e w' => e = .returned (.tuple #[.iface 110 (.agg #[]), .bool true]) ∧ w' = w1) := Lib.hid (fun w1 => kindOf_any 4 w1)
  have HT := Lib.hid (fun y w1 h h2 hm => headers_any y key Ap ps cp w1 h h2 hnp hm)
  have HPS := Lib.hid hp
  have HMS := Lib.hid hm
  have HTK : Hid (∀ y : BE, tkB x key ps y.d = (decide (y.d.ex = x.nm) && hdR y.d ps)) := Lib.hid (fun y => by unfold tkB takesR; rw [hk]; rfl)
  have HX := Lib.hid h
  have HNX := Lib.hid hn
  have HNE : Hid (∀ k y, xs[k]? = some y → takenR ((xs.take (k + 1)).map BE.d) x key ps = if tkB x key ps y.d = true then takenR ((xs.take k).map BE.d) x key ps ++ [y.d.qu] else takenR ((xs.take k).map BE.d) x key ps) := Lib.hid (fun k y hy => takenR_next hy)
  have HLE : Hid (∀ k, (takenR ((xs.take k).map BE.d) x key ps).length ≤ 100000) := Lib.hid (fun k => by have := takenR_le ((xs.take k).map BE.d) x key ps; rw [List.length_map, List.length_take] at this; omega)
  have HT0 : Hid (takenR ((xs.take 0).map BE.d) x key ps = []) := Lib.hid rfl
  have HTE : Hid (takenR ((xs.take xs.length).map BE.d) x key ps = takenR (xs.map BE.d) x key ps) := Lib.hid (by rw [List.take_length])
  obtain ⟨TR, hTR⟩ : ∃ F : Nat → List ByteArray, F = fun k => takenR ((xs.take k).map BE.d) x key ps := ⟨_, rfl⟩
  have HTR : ∀ k, takenR ((xs.take k).map BE.d) x key ps = TR k := fun k => by rw [hTR]
  simp only [HTR] at HNE HLE HT0 HTE
  rw [← HTE.out]
  have HV : Hid (exV x = .agg #[.string x.nm, .int .i64 4, .string x.alt]) := Lib.hid (by rw [← hk]; rfl)
  rw [HV.out]
  unfold enV
  clear h hn hTR HTR HTE HV
  generalize x.nm = nm at *
  generalize x.alt = alt at *
  go_enter Tryz.func74, Tryz.ntmps74
  go_upto_region 1 with fail
  refine name_world (C := fun w1 => Code.wp _ _ _ _ w1) ((w.alloc (.cells [.string nm, .int .i64 4, .string alt].toArray 32)).alloc (.cells [.string key, .slice Ap ps.length cp].toArray 79)) ?_
  intro w1 hw1
  obtain ⟨u1, u2, hs0, hB0⟩ := S2.two_laid hw1
  have X_w1 := Lib.hid u1
  have E_w1 := Lib.hid u2
  have B_w1 := Lib.hid hB0
  have HZ1 := Lib.hid hs0
  clear hw1 u1 u2 hs0 hB0
  have x1 := X_w1.out.cell 1 rfl
  go_wp2_with fail
  refine (HK.out _).mono ?_
  rintro e w2 ⟨rfl, hw⟩
  have hw := hw.symm
  subst hw
  clear x1 HK
  go_wp2_with fail
  go_loopg [7, 20] xs.length (fun g v7 v wr => ∃ (k : Nat), k + g = xs.length ∧ v = .int .i64 k ∧ OwnT wr w1.heap.size v7 (TR k) ∧ Below w1.heap.size w1 wr)
  case atStart => exact ⟨0, by omega, rfl, by rw [HT0.out]; exact OwnG.nil _ _, Below.refl _ _⟩
  case round =>
    obtain ⟨k, hkg, rfl, ho, hb0⟩ := hrel
    have O_wr := Lib.hid ho
    have B_wr := Lib.hid hb0
    have HG := Lib.hid hkg
    clear ho hb0
    cases gk with
    | zero =>
      obtain rfl : k = xs.length := by omega
      clear hkg
      go_wp2_with fail
      go_ret
      exact ⟨_, rfl, OwnG.weak O_wr.out B_w1.out.size, (stepB B_w1.out B_wr.out)⟩
    | succ n =>
      have hlt : k < xs.length := by omega
      have e3 : decide ((k : Int) < (xs.length : Int)) = true := decide_eq_true (by omega)
      obtain ⟨y, hy⟩ : ∃ y, xs[k]? = some y := ⟨_, List.getElem?_eq_getElem hlt⟩
      have hsr := HX.out.step (stepB B_w1.out B_wr.out)
      obtain ⟨b, o, hA, hbB, hcl, hpl⟩ := hsr.at_ hy
      have HLD := Lib.hid (load_bd hcl)
      have HNK := Lib.hid (HNE.out k y hy)
      have HTY := Lib.hid (HTK.out y)
      have HCT := Lib.hid (HT.out y)
      have HYY := Lib.hid hy
      have HQL := Lib.hid (HLE.out k)
      subst hA
      have j1 : (0 : Int) ≤ (k : Int) := by omega
      have j2 : (k : Int) < (xs.length : Int) := by omega
      clear hy hkg hlt hbB hcl hpl hsr
      go_upto_region 6 with first
        | (refine wpList_load_v (by rfl) 35 (.tmp 22) rfl ⟨b, o + k * 5, none⟩ (by go_simp) _ HLD.out ?_)
        | (refine S2.wpList_store_all (by rfl) 35 (.tmp 11) (.tmp 23) rfl rfl wr.heap.size rfl (gB y) rfl 35 _ (BK.new wr _ _) bdSize rfl (gB_one _) ?_; intro w4 hM hP; have hb := hP.below (S2.below_new wr _) (Nat.le_refl _); have B_w4 := Lib.hid (stepB B_wr.out hb); have V_w4 := Lib.hid hM; have O_w4 := Lib.hid (OwnG.step O_wr.out hb); clear hM hP hb)
      clear HLD B_wr O_wr
      have X_w4 := Lib.hid (X_w1.out.step B_w4.out)
      have E_w4 := Lib.hid (E_w1.out.step B_w4.out)
      have HLV := Lib.hid (load_bd0 V_w4.out)
      have HLE4 := Lib.hid (S2.run_load_all E_w4.out Tryz.underlying79 rfl enSize)
      have HB4 := B_w4
      have x0 := X_w4.out.cell 0 rfl
      have v0 := V_w4.out.cell 0 rfl
      have q1 : (y.d.ex.toList == nm.toList) = decide (y.d.ex = nm) := str_dec _ _
      generalize decide (y.d.ex = nm) = b1 at *
      generalize hdR y.d ps = b2 at *
      cases b1 with
      | false =>
        have HT9 : Hid (tkB x key ps y.d = false) := Lib.hid (by rw [HTY.out]; rfl)
        go_wp2_with fail
        go_roundg n
        case measure => omega
        case rel => exact ⟨k + 1, by have := HG.out; omega, nxt k (by have := HNX.out; have := HG.out; omega), by rw [HNK.out, if_neg (by rw [HT9.out]; decide)]; exact O_w4.out, B_w4.out⟩
      | true =>
        go_wp2_with first
          | (refine wpList_load_v (by rfl) 35 (.tmp 11) rfl ⟨wr.heap.size, 0, none⟩ (by go_simp) _ HLV.out ?_)
          | (refine wpList_load_v (by rfl) 79 (.tmp 5) rfl ⟨w.heap.size + 1, 0, none⟩ (by go_simp) _ HLE4.out ?_)
        have hpl4 := (HX.out.step (stepB B_w1.out HB4.out)).2 y (List.mem_of_getElem? HYY.out)
        refine (HCT.out _ (GL.step HPS.out (stepB B_w1.out HB4.out)) hpl4 (HMS.out y (List.mem_of_getElem? HYY.out))).mono ?_
        rintro e w5 ⟨rfl, hb⟩
        have B_w5 := Lib.hid (stepB B_w4.out hb)
        have V_w5 := Lib.hid (V_w4.out.step hb)
        have O_w5 := Lib.hid (OwnG.step O_w4.out hb)
        clear hb V_w4 O_w4 B_w4 x0 v0 HLV HLE4 X_w4 E_w4
        cases b2 with
        | false =>
          have HT9 : Hid (tkB x key ps y.d = false) := Lib.hid (by rw [HTY.out]; rfl)
          go_wp2_with fail
          go_roundg n
          case measure => omega
          case rel => exact ⟨k + 1, by have := HG.out; omega, nxt k (by have := HNX.out; have := HG.out; omega), by rw [HNK.out, if_neg (by rw [HT9.out]; decide)]; exact O_w5.out, B_w5.out⟩
        | true =>
          have HT9 : Hid (tkB x key ps y.d = true) := Lib.hid (by rw [HTY.out]; rfl)
          have v1 := V_w5.out.cell 1 rfl
          go_wp2_with (at_builtin; refine wpList_app1 gT_len gT_one (by decide) w5 rfl _ _ 45 rfl (.string ByteArray.empty) 16 Tryz.underlying45 strInfo9 rfl (by decide) w1.heap.size _ (TR k) y.d.qu (by rfl) O_w5.out (by rfl) w1 B_w5.out B_w5.out.size (by have := HQL.out; omega) ?_; intro v9 w9 hown9 hb9 hs9; have O_w9 := Lib.hid hown9; have B_w9 := Lib.hid hb9; clear hown9 hb9 hs9 v1)
          go_roundg n
          case measure => omega
          case rel => exact ⟨k + 1, by have := HG.out; omega, nxt k (by have := HNX.out; have := HG.out; omega), by rw [HNK.out, if_pos HT9.out]; exact O_w9.out, B_w9.out⟩


/-- the kinds -/
def KA (k : Int) : Prop := k = 1 ∨ k = 2 ∨ k = 3 ∨ k = 4
theorem taken2_any (A2 : Option Addr) (c2 : Nat) (xs : List BE) (x : Ex) (key : ByteArray) (ps : List PR) (Ap : Option Addr) (cp : Nat) (w : World) (h : BI w w.heap.size A2 xs) (hk : KA x.kd) (hn : xs.length ≤ 100000) (ho : S1.Okw w) (hp : PL w w.heap.size Ap ps) (hnp : ps.length ≤ 4398046511104) (hm : ∀ y ∈ xs, y.d.ml.length ≤ 4398046511104) :
    Calls Tryz.prog 74 #[.slice A2 xs.length c2, exV x, enV key Ap ps.length cp] w fun e w' => ∃ v, e = .returned v ∧ OwnT w' w.heap.size v (takenR (xs.map BE.d) x key ps) ∧ Below w.heap.size w w' := by
  rcases hk with hk | hk | hk | hk
  · exact taken_1 A2 c2 xs x key ps Ap ps.length cp w h hk hn
  · exact taken_2 A2 c2 xs x key ps Ap ps.length cp w h hk hn
  · exact taken_3 A2 c2 xs x key ps Ap ps.length cp w h hk hn ho
  · exact taken_4 A2 c2 xs x key ps Ap cp w h hk hn hp hnp hm
end Go.Proofs.YtjkhfifnfgchgabGreatDoor
namespace Go.Proofs.YtjkhfifnfgchgabGreatDoor
open Go.RowKit
open S2 (BK Put get_ops)

set_option maxRecDepth 20000 in
set_option maxHeartbeats 8000000 in
theorem reached2_any (A1 : Option Addr) (c1 : Nat) (l : List Ex) (A2 : Option Addr) (c2 : Nat) (xs : List BE) (ex key : ByteArray) (ps : List PR) (Ap : Option Addr) (cp : Nat) (w : World) (h1 : EL w w.heap.size A1 l) (ha : AscE l) (hk : ∀ x ∈ l, KA x.kd) (hn1 : l.length ≤ 100000) (h2 : BI w w.heap.size A2 xs) (hn2 : xs.length ≤ 100000) (ho : S1.Okw w) (hp : PL w w.heap.size Ap ps) (hnp : ps.length ≤ 4398046511104) (hm : ∀ y ∈ xs, y.d.ml.length ≤ 4398046511104) :
    Calls Tryz.prog 51 #[rtV A1 l.length c1 A2 xs.length c2, .string ex, enV key Ap ps.length cp] w fun e w' => ∃ v, e = .returned v ∧ OwnT w' w.heap.size v (reachR l (xs.map BE.d) key ps (l.length + 1) [] ex) ∧ Below w.heap.size w w' := by
  have HC := Lib.hid (fun A c B ak x w1 h hn => hasT_any A c B ak x w1 h hn)
  have HF := Lib.hid (fun at_ w1 h1 => find_any A1 c1 l at_ w1 h1 ha hn1)
  have HGE := Lib.hid (fun at_ x h1 => @getE_pos l ha at_ x h1)
  have HT := Lib.hid (fun x w1 h kx ho hp => taken2_any A2 c2 xs x key ps Ap cp w1 h kx hn2 ho hp hnp hm)
  have HOK := Lib.hid ho
  have HPS := Lib.hid hp
  have HKO := Lib.hid hk
  have HE := Lib.hid h1
  have HX := Lib.hid h2
  have HN1 := Lib.hid hn1
  have HTL : Hid (∀ x : Ex, (takenR (xs.map BE.d) x key ps).length ≤ 100000) := Lib.hid (fun x => by have := takenR_le (xs.map BE.d) x key ps; rw [List.length_map] at this; omega)
  obtain ⟨R, hR⟩ : ∃ R, reachR l (xs.map BE.d) key ps (l.length + 1) [] ex = R := ⟨_, rfl⟩
  rw [hR]
  have HR := Lib.hid hR
  have HI := Lib.hid (fun n ak at_ h => @reachR_in l (xs.map BE.d) key ps n ak at_ h)
  have HNO := Lib.hid (fun n ak at_ h h' => @reachR_none l (xs.map BE.d) key ps n ak at_ h h')
  have HSO := Lib.hid (fun n ak at_ x h h' => @reachR_some l (xs.map BE.d) key ps n ak at_ x h h')
  unfold retS foundE at HF
  unfold enV at HT
  unfold rtV enV
  clear h1 ha hk hn1 h2 hn2 hR ho hp hnp hm
  go_enter Tryz.func51, Tryz.ntmps51
  go_upto_region 1 with fail
  refine name_world (C := fun w1 => Code.wp _ _ _ _ w1) ((w.alloc (.cells [.slice A1 l.length c1, .slice A2 xs.length c2].toArray 25)).alloc (.cells [.string key, .slice Ap ps.length cp].toArray 79)) ?_
  intro w1 hw1
  obtain ⟨u1, u2, hs0, hB0⟩ := S2.two_laid hw1
  have T_w1 := Lib.hid u1
  have E_w1 := Lib.hid u2
  have B_w1 := Lib.hid hB0
  have HZ1 := Lib.hid hs0
  clear hw1 u1 u2 hs0 hB0
  go_wp2_with fail
  go_loopg [1, 7] (l.length + 1) (fun g v v7 wr => ∃ (ak : List ByteArray) (at_ : ByteArray), ak.length + g = l.length + 1 ∧ v = .string at_ ∧ OwnT wr w1.heap.size v7 ak ∧ Asked l ak ∧ reachR l (xs.map BE.d) key ps g ak at_ = R ∧ Below w1.heap.size w1 wr)
  case atStart => exact ⟨[], ex, by simp, rfl, OwnG.nil _ _, Asked.nil l, HR.out, Below.refl _ _⟩
  case round =>
    obtain ⟨ak, at_, hkg, rfl, ho, has, hre, hb0⟩ := hrel
    obtain ⟨Av, cv, hv, hcv, hgl⟩ := OwnG.ret gT_len ho
    subst hv
    have O_wr := Lib.hid ho
    have B_wr := Lib.hid hb0
    have HG := Lib.hid hkg
    have HAS := Lib.hid has
    have HRE := Lib.hid hre
    have HGL := Lib.hid hgl
    clear ho hb0 has hre hgl
    cases gk with
    | zero => exact absurd HAS.out.len (by omega)
    | succ n =>
      have HAL : Hid (ak.length ≤ 100000) := Lib.hid (by have := HAS.out.len; have := HN1.out; omega)
      have HCC := Lib.hid (HC.out Av cv wr.heap.size ak at_ wr HGL.out (by have := HAL.out; omega))
      have HIN := Lib.hid (HI.out n ak at_)
      have HNN := Lib.hid (HNO.out n ak at_)
      have HSS := Lib.hid (fun x => HSO.out n ak at_ x)
      have HAD := Lib.hid (fun x h h' => @Asked.add l ak HAS.out at_ x h h')
      obtain ⟨hb, hhb⟩ : ∃ b, ak.any (fun a => decide (a = at_)) = b := ⟨_, rfl⟩
      rw [hhb] at HCC HIN HNN HSS HAD
      clear hkg hcv hhb HGL
      obtain ⟨na, hna⟩ : ∃ n, ak.length = n := ⟨_, rfl⟩
      rw [hna] at HCC HAL HG O_wr
      try rw [hna]
      have HNA := Lib.hid hna
      clear hna
      go_wp2_with fail
      refine HCC.out.mono ?_
      rintro e w2 ⟨rfl, hw⟩
      have hw := hw.symm
      subst hw
      clear HCC
      cases hb with
      | true =>
        have HV : Hid (R = []) := Lib.hid (by rw [← HRE.out]; exact HIN.out rfl)
        go_wp2_with fail
        go_ret
        exact ⟨_, rfl, by rw [HV.out]; exact OwnG.nil _ _, stepB B_w1.out B_wr.out⟩
      | false =>
        have T_wr := Lib.hid (T_w1.out.step B_wr.out)
        have E_wr := Lib.hid (E_w1.out.step B_wr.out)
        have r0 := T_wr.out.cell 0 rfl
        go_wp2_with fail
        refine (HF.out at_ _ (GL.step HE.out (stepB B_w1.out B_wr.out))).mono ?_
        rintro e w2 ⟨rfl, hb⟩
        have T_w2 := Lib.hid (T_wr.out.step hb)
        have E_w2 := Lib.hid (E_wr.out.step hb)
        have O_w2 := Lib.hid (OwnG.step O_wr.out hb)
        have B_w2 := Lib.hid (stepB B_wr.out hb)
        clear hb r0 T_wr E_wr O_wr B_wr
        obtain ⟨og, hog⟩ : ∃ o, getE l at_ = o := ⟨_, rfl⟩
        have HGX := Lib.hid (HGE.out at_)
        rw [hog] at HNN HSS HAD HGX
        try rw [hog]
        generalize posE l at_ = pos at *
        cases og with
        | none =>
          have HV : Hid (R = []) := Lib.hid (by rw [← HRE.out]; exact HNN.out (by trivial) (by trivial))
          clear hog
          go_wp2_with fail
          go_ret
          exact ⟨_, rfl, by rw [HV.out]; exact OwnG.nil _ _, stepB B_w1.out B_w2.out⟩
        | some x =>
          have HKX := Lib.hid (HKO.out x (getE_some hog).2)
          have hx := HGX.out x rfl
          have hsl := GL.step HE.out (stepB B_w1.out B_w2.out)
          obtain ⟨b, o, hA, hbB, hcl⟩ := EL.at_ hsl hx
          have HLD := Lib.hid (load_ex hcl)
          have j1 : (0 : Int) ≤ (pos : Int) := by omega
          have j2 : (pos : Int) < (l.length : Int) := by have := (List.getElem?_eq_some_iff.1 hx).1; omega
          subst hA
          have r0 := T_w2.out.cell 0 rfl
          clear hx hcl hbB hsl hog HGX
          go_upto_region 7 with first
            | (refine wpList_load_v (by rfl) 32 (.tmp 28) rfl ⟨b, o + pos * 3, none⟩ (by go_simp) _ HLD.out ?_)
            | (refine S2.wpList_store_all (by rfl) 32 (.tmp 10) (.tmp 29) rfl rfl w2.heap.size rfl (gE x) rfl 32 _ (BK.new w2 _ _) exSize rfl (gE_one _) ?_; intro w4 hM hP; have hb := hP.below (S2.below_new w2 _) (Nat.le_refl _); have B_w4 := Lib.hid (stepB B_w2.out hb); have X_w4 := Lib.hid hM; have O_w4 := Lib.hid (OwnG.step O_w2.out hb); have T_w4 := Lib.hid (T_w2.out.step hb); have E_w4 := Lib.hid (E_w2.out.step hb); have HOX := Lib.hid (OwnG.high O_w2.out (Nat.le_refl _)); clear hM hP hb)
          obtain ⟨q, hq⟩ : ∃ q, q = w2.heap.size := ⟨_, rfl⟩
          rw [← hq] at X_w4 HOX
          try rw [← hq]
          clear r0 HLD T_w2 E_w2 O_w2 B_w2 hq
          have r1 := T_w4.out.cell 1 rfl
          have HLX := Lib.hid (load_ex0 X_w4.out)
          have HLE4 := Lib.hid (S2.run_load_all E_w4.out Tryz.underlying79 rfl enSize)
          have HTX := Lib.hid (HT.out x w4 (HX.out.step (stepB B_w1.out B_w4.out)) HKX.out (HOK.out.step (stepB B_w1.out B_w4.out)) (GL.step HPS.out (stepB B_w1.out B_w4.out)))
          have HTLX := Lib.hid (HTL.out x)
          obtain ⟨tk, htk⟩ : ∃ t, takenR (xs.map BE.d) x key ps = t := ⟨_, rfl⟩
          have HSX := Lib.hid (HSS.out x (by trivial) rfl)
          rw [htk] at HTX HSX HTLX
          clear htk
          go_wp2_with first
            | (refine wpList_load_v (by rfl) 32 (.tmp 10) rfl ⟨q, 0, none⟩ (by go_simp) _ HLX.out ?_)
            | (refine wpList_load_v (by rfl) 79 (.tmp 5) rfl ⟨w.heap.size + 1, 0, none⟩ (by go_simp) _ HLE4.out ?_)
          refine HTX.out.mono ?_
          rintro e w5 ⟨vq, rfl, hq, hb⟩
          have O_w5 := Lib.hid (OwnG.step O_w4.out hb)
          have B_w5 := Lib.hid (stepB B_w4.out hb)
          have X_w5 := Lib.hid (X_w4.out.step hb)
          obtain ⟨Aq, cq, hvq, _⟩ := OwnG.ret gT_len hq
          subst hvq
          have HQ : Hid (OwnT w5 w.heap.size (.slice Aq tk.length cq) tk) := Lib.hid (OwnG.weak hq (stepB B_w1.out B_w4.out).size)
          clear hb hq r1 HLX HLE4 O_w4 B_w4 X_w4 E_w4 T_w4 HTX
          by_cases ht : tk = []
          · subst ht
            have HV : Hid (reachR l (xs.map BE.d) key ps n (ak ++ [at_]) x.alt = R) := Lib.hid (by rw [← HRE.out, HSX.out, if_pos rfl])
            have HAN := Lib.hid (HAD.out x rfl (by trivial))
            clear HQ
            have hz : (([] : List ByteArray).length : Int) = 0 := rfl
            go_wp2_with (at_builtin; go_must (refine wpList_plain rfl (fun K hK => ?_)); refine oper_appG (g := gT) (k := 1) (e := 9) (by decide) _ _ 45 45 rfl (.string ByteArray.empty) 16 Tryz.underlying45 strInfo9 rfl (by decide) w1.heap.size (.slice Av na cv) ak [at_] _ rfl (OwnG.step O_w5.out (S2.below_new w5 _)) rfl (srcG_one gT_len gT_one Tryz.underlying45 w5 at_) (by have := B_w5.out.size; simp; omega) (by have := HAL.out; have := HNA.out; simp; omega) ?_; intro v9 wa hown' hgr hof; refine hK _ _ ?_; clear hK K; have O_wa := Lib.hid hown'; have B_wa : Hid (Below w1.heap.size w1 wa) := Lib.hid (Below.grow (B := w1.heap.size) (stepB B_w5.out (S2.below_new w5 _)) (OwnG.step O_w5.out (S2.below_new w5 _)) hgr (by have := B_w5.out.size; simp; omega) (Nat.le_refl _)); have X_wa : Hid (BK 32 wa q (gE x)) := Lib.hid ((hgr.block q (by have := X_w5.out.lt; simp; omega) (fun e => HOX.out e.symm)).trans (X_w5.out.step (S2.below_new w5 _))); have x2 := X_wa.out.cell 2 rfl; clear hown' hgr hof)
            go_roundg n
            case measure => omega
            case rel => exact ⟨ak ++ [at_], x.alt, by have := HG.out; have := HNA.out; simp; omega, rfl, O_wa.out, HAN.out, HV.out, B_wa.out⟩
          · have HV : Hid (R = tk) := Lib.hid (by rw [← HRE.out, HSX.out, if_neg ht])
            have q7 : 0 < tk.length := List.length_pos_iff.2 ht
            clear ht
            go_wp2_with fail
            go_ret
            exact ⟨_, rfl, by rw [HV.out]; exact HQ.out, stepB B_w1.out B_w5.out⟩
set_option maxRecDepth 20000 in
set_option maxHeartbeats 8000000 in
theorem Route2_any (A1 : Option Addr) (c1 : Nat) (l : List Ex) (A2 : Option Addr) (c2 : Nat) (xs : List BE) (ex key : ByteArray) (ps : List PR) (Ap : Option Addr) (cp : Nat) (w : World) (h1 : EL w w.heap.size A1 l) (ha : AscE l) (hk : ∀ x ∈ l, KA x.kd) (hn1 : l.length ≤ 100000) (h2 : BI w w.heap.size A2 xs) (hn2 : xs.length ≤ 100000) (h3 : PL w w.heap.size Ap ps) (ho : S1.Okw w) (hnp : ps.length ≤ 4398046511104) (hm : ∀ y ∈ xs, y.d.ml.length ≤ 4398046511104) :
    Calls Tryz.prog 19 #[rtV A1 l.length c1 A2 xs.length c2, .string ex, .string key, .slice Ap ps.length cp] w (RetRu (routeR l (xs.map BE.d) ex key ps) w) := by
  have HK := Lib.hid (fun w1 => checkKey_any key w1)
  have HP := Lib.hid (fun w1 h => props_any Ap cp ps w1 h)
  have HD := Lib.hid (fun w1 => byDefault_any key w1)
  have HN : Hid (∀ w1, Calls Tryz.prog 24 #[.string ex] w1 fun e w' => e = .returned (.bool (nameR ex)) ∧ Below w1.heap.size w1 w') := Lib.hid (fun w1 => S1.tName_any ex w1)
  have HF := Lib.hid (fun w1 h1 => find_any A1 c1 l ex w1 h1 ha hn1)
  have HR := Lib.hid (fun w1 h1 h2 ho hp => reached2_any A1 c1 l A2 c2 xs ex key ps Ap cp w1 h1 ha hk hn1 h2 hn2 ho hp hnp hm)
  have HOK := Lib.hid ho
  have HRL : Hid ((reachR l (xs.map BE.d) key ps (l.length + 1) [] ex).length ≤ 1000000) := Lib.hid (by
    have h : ∀ n ak at_, (reachR l (xs.map BE.d) key ps n ak at_).length ≤ xs.length := by
      intro n
      induction n with
      | zero => intro ak at_; exact Nat.zero_le _
      | succ n ih =>
        intro ak at_
        unfold reachR
        split
        · exact Nat.zero_le _
        · split
          · exact Nat.zero_le _
          · split
            · exact ih _ _
            · have := takenR_le (xs.map BE.d) (by assumption) key ps
              rwa [List.length_map] at this
    have := h (l.length + 1) [] ex
    omega)
  have HE := Lib.hid h1
  have HX := Lib.hid h2
  have HPL := Lib.hid h3
  have q2 := nm_emp ex
  have q3 := eqL ex []
  have QR : Hid (routeR l (xs.map BE.d) ex key ps = if txR key ≠ 0 then ([], txR key) else if propsR ps ≠ 0 then ([], (propsR ps : Int)) else if ex = ⟨#[]⟩ then (if nameR key = true then [key] else [], 0) else if nameR ex = false then ([], 11) else ofQ (getE l ex) (reachR l (xs.map BE.d) key ps (l.length + 1) [] ex)) := Lib.hid rfl
  obtain ⟨Q, hQ⟩ : ∃ Q, routeR l (xs.map BE.d) ex key ps = Q := ⟨_, rfl⟩
  rw [hQ] at QR ⊢
  generalize (if nameR key = true then [key] else []) = dk at HD QR
  generalize reachR l (xs.map BE.d) key ps (l.length + 1) [] ex = rr at HR QR HRL
  generalize nameR ex = bn at HN QR
  generalize txR key = tk at HK QR
  generalize propsR ps = pr at HP QR
  obtain ⟨be, hbe⟩ : ∃ b, decide (ex = ⟨#[]⟩) = b := ⟨_, rfl⟩
  have q3 : (ex.toList == ([] : List UInt8)) = be := by rw [← hbe]; exact q3
  rw [hbe] at q2
  have HBE := Lib.hid hbe
  unfold retS foundE at HF
  obtain ⟨og, hog⟩ : ∃ o, getE l ex = o := ⟨_, rfl⟩
  rw [hog] at HF QR
  generalize posE l ex = pos at HF
  unfold enV rtV at HR
  unfold rtV
  clear h1 ha hk hn1 h2 hn2 h3 hQ hog ho hnp hm
  go_enter Tryz.func19, Tryz.ntmps19
  go_upto_region 1 with fail
  refine name_world (C := fun w1 => Code.wp _ _ _ _ w1) (w.alloc (.cells [.slice A1 l.length c1, .slice A2 xs.length c2].toArray 25)) ?_
  intro w1 hw1
  have hb : Below w.heap.size w w1 := by rw [hw1]; exact S2.below_new w _
  have T_w1 : Hid (BK 25 w1 w.heap.size [.slice A1 l.length c1, .slice A2 xs.length c2]) := Lib.hid (by rw [hw1]; exact BK.new w _ _)
  have B_w1 := Lib.hid hb
  clear hw1 hb
  go_wp2_with fail
  refine (HK.out _).mono ?_
  rintro e w2 ⟨rfl, hw⟩
  have hw := hw.symm
  subst hw
  clear HK
  by_cases ht : tk = 0
  · subst ht
    go_wp2_with fail
    refine (HP.out _ (GL.step HPL.out B_w1.out)).mono ?_
    rintro e w2 ⟨rfl, hb⟩
    have T_w2 := Lib.hid (T_w1.out.step hb)
    have B_w2 := Lib.hid (stepB B_w1.out hb)
    clear hb HP T_w1 B_w1
    by_cases hp : pr = 0
    · subst hp
      cases be with
      | true =>
        have HQ : Hid (Q = (dk, 0)) := Lib.hid (by rw [QR.out, if_neg (by simp), if_neg (by simp), if_pos (of_decide_eq_true HBE.out)])
        go_wp2_with fail
        refine (HD.out _).mono ?_
        rintro e w3 ⟨v, rfl, ho, hb⟩
        have O_w3 := Lib.hid (OwnG.weak ho B_w2.out.size)
        have B_w3 := Lib.hid (stepB B_w2.out hb)
        clear ho hb
        go_wp2_with fail
        go_ret2
        exact RetRu.out HQ.out O_w3.out B_w3.out
      | false =>
        have QR2 : Hid (Q = if bn = false then (([], 11) : List ByteArray × Int) else ofQ og rr) := Lib.hid (by rw [QR.out, if_neg (by simp), if_neg (by simp), if_neg (of_decide_eq_false HBE.out)])
        clear QR
        go_wp2_with fail
        refine (HN.out _).mono ?_
        rintro e w3 ⟨rfl, hb⟩
        have T_w3 := Lib.hid (T_w2.out.step hb)
        have B_w3 := Lib.hid (stepB B_w2.out hb)
        clear hb T_w2 B_w2
        cases bn with
        | false =>
          have HQ : Hid (Q = ([], 11)) := Lib.hid (by rw [QR2.out, if_pos rfl])
          go_wp2_with fail
          go_ret2
          exact RetRu.out HQ.out (OwnG.nil _ _) B_w3.out
        | true =>
          have r0 := T_w3.out.cell 0 rfl
          go_wp2_with fail
          refine (HF.out _ (GL.step HE.out B_w3.out)).mono ?_
          rintro e w4 ⟨rfl, hb⟩
          have T_w4 := Lib.hid (T_w3.out.step hb)
          have B_w4 := Lib.hid (stepB B_w3.out hb)
          clear hb T_w3 B_w3 r0
          cases og with
          | none =>
            have HQ : Hid (Q = ([], 8)) := Lib.hid (by rw [QR2.out, if_neg (by decide)]; rfl)
            go_wp2_with fail
            go_ret2
            exact RetRu.out HQ.out (OwnG.nil _ _) B_w4.out
          | some x =>
            have HQ : Hid (Q = (compR (sortR rr), 0)) := Lib.hid (by rw [QR2.out, if_neg (by decide)]; rfl)
            have HLT := Lib.hid (S2.run_load_all T_w4.out Tryz.underlying25 rfl rtSize)
            clear QR2
            go_wp2_with (refine wpList_load_v (by rfl) 25 (.tmp 4) rfl ⟨w.heap.size, 0, none⟩ (by go_simp) _ HLT.out ?_)
            refine (HR.out _ (GL.step HE.out B_w4.out) (HX.out.step B_w4.out) (HOK.out.step B_w4.out) (GL.step HPL.out B_w4.out)).mono ?_
            rintro e w5 ⟨v, rfl, ho, hb⟩
            have HS := Lib.hid (sort_own ho HRL.out)
            have B_w5 := Lib.hid (stepB B_w4.out hb)
            have HSZ := Lib.hid B_w4.out.size
            clear ho hb T_w4 HLT HR
            go_wp2_with fail
            refine HS.out.mono ?_
            rintro e w6 ⟨rfl, ho, hb⟩
            have B_w6 := Lib.hid (B_w5.out.trans (hb.mono HSZ.out))
            have HCM := Lib.hid (compact_own ho (by rw [sortR_len]; exact HRL.out))
            clear ho hb HS B_w5
            go_wp2_with fail
            refine HCM.out.mono ?_
            rintro e w7 ⟨v7, rfl, ho, hb⟩
            have B_w7 := Lib.hid (B_w6.out.trans (hb.mono HSZ.out))
            have O_w7 := Lib.hid (OwnG.weak ho HSZ.out)
            clear ho hb HCM B_w6
            go_wp2_with fail
            go_ret2
            exact RetRu.out HQ.out O_w7.out B_w7.out
    · have HQ : Hid (Q = ([], (pr : Int))) := Lib.hid (by rw [QR.out, if_neg (by simp), if_pos hp])
      have q5 : ((pr : Int) != 0) = true := bne_iff_ne.2 (by omega)
      clear hp
      go_wp2_with fail
      go_ret2
      exact RetRu.out HQ.out (OwnG.nil _ _) B_w2.out
  · have HQ : Hid (Q = ([], tk)) := Lib.hid (by rw [QR.out, if_pos ht])
    have q5 : (tk != 0) = true := bne_iff_ne.2 ht
    clear ht
    go_wp2_with fail
    go_ret2
    exact RetRu.out HQ.out (OwnG.nil _ _) B_w1.out
end Go.Proofs.YtjkhfifnfgchgabGreatDoor
namespace Go.Proofs.YtjkhfifnfgchgabGreatDoor
open Go.RowKit
open S2 (BK Put)

theorem fB_in {b : Bd} : ∀ {r : List Bd} {k : Nat}, b ∈ r → 0 ≤ fB b r k
  | x :: r, k, h => by
    show 0 ≤ (if x = b then (k : Int) else fB b r (k + 1))
    split
    · omega
    · rename_i hne
      rcases List.mem_cons.1 h with rfl | h
      · exact absurd rfl hne
      · exact fB_in h
theorem fB_out {b : Bd} : ∀ {r : List Bd} {k : Nat}, b ∉ r → fB b r k = -1
  | [], _, _ => rfl
  | x :: r, k, h => by
    show (if x = b then (k : Int) else fB b r (k + 1)) = -1
    rw [if_neg (fun e => h (by rw [e]; exact List.mem_cons_self)), fB_out (fun hm => h (List.mem_cons_of_mem _ hm))]
theorem fB_app {b : Bd} : ∀ {r : List Bd} {k : Nat}, b ∉ r → fB b (r ++ [b]) k = ((k + r.length : Nat) : Int)
  | [], k, _ => by show (if b = b then (k : Int) else _) = _; rw [if_pos rfl]; rfl
  | x :: r, k, h => by
    show (if x = b then (k : Int) else fB b (r ++ [b]) (k + 1)) = _
    rw [if_neg (fun e => h (by rw [e]; exact List.mem_cons_self)), fB_app (fun hm => h (List.mem_cons_of_mem _ hm)), List.length_cons]
    congr 1
    omega
theorem unb_app {bs : List Bd} {b : Bd} (h : b ∉ bs) : unbR (bs ++ [b]) b = (bs, 0) := by
  have e := fB_app (k := 0) h
  rw [Nat.zero_add] at e
  unfold unbR
  rw [e, if_neg (by omega), Int.toNat_natCast, List.eraseIdx_append_of_length_le (Nat.le_refl _), Nat.sub_self]
  simp
theorem bind_in {l : List Ex} {bs : List Bd} {b : Bd} (h : b ∈ bs) (h0 : (bindR l bs b).2 = 0) : bindR l bs b = (bs, 0) := by
  by_cases h1 : bdR l b = 0
  · exact bindR_same h1 (fB_in h)
  · rw [bindR_err h1] at h0; exact absurd h0 h1
theorem bind_out {l : List Ex} {bs : List Bd} {b : Bd} (h : b ∉ bs) (h0 : (bindR l bs b).2 = 0) : bindR l bs b = (bs ++ [b], 0) := by
  by_cases h1 : bdR l b = 0
  · have hf : fB b bs 0 < 0 := by rw [fB_out h]; decide
    by_cases hl : 256 ≤ bs.length
    · rw [bindR_full h1 hf hl] at h0; exact absurd h0 (by decide)
    · exact bindR_new h1 hf (by omega)
  · rw [bindR_err h1] at h0; exact absurd h0 h1
theorem decl_in {l : List Ex} {bs : List Bd} (hv : VR l bs) {x : Ex} (h : x ∈ l) : declR l x = (l, 0) := declR_same (hv.ex x h) (asc_get hv.asc h)
theorem there_iff {xs : List BE} {b : Bd} : (xs.any fun x => decide (x.d = b)) = true ↔ b ∈ xs.map BE.d := by
  rw [List.any_eq_true]
  constructor
  · rintro ⟨x, hx, he⟩
    have := of_decide_eq_true he
    exact this ▸ List.mem_map_of_mem hx
  · intro h
    obtain ⟨x, hx, he⟩ := List.mem_map.1 h
    exact ⟨x, hx, decide_eq_true he⟩
theorem there_no {xs : List BE} {b : Bd} (h : (xs.any fun x => decide (x.d = b)) = false) : b ∉ xs.map BE.d := fun hm => by rw [there_iff.2 hm] at h; cases h
theorem any_take {α : Type} {xs : List α} {k : Nat} {x : α} {p : α → Bool} (hx : xs[k]? = some x) : (xs.take (k + 1)).any p = ((xs.take k).any p || p x) := by
  rw [List.take_add_one, hx, List.any_append]
  simp
theorem KA_of {k : Int} (h : kdR k = true) : KA k := by
  unfold kdR at h
  unfold KA
  simp only [Bool.and_eq_true, decide_eq_true_eq] at h
  omega
theorem ex_kd {x : Ex} (h : exR x = 0) : KA x.kd := by
  unfold exR at h
  refine KA_of ?_
  cases hk : kdR x.kd with
  | true => rfl
  | false =>
    rw [hk] at h
    exfalso
    revert h
    cases nameR x.nm <;> simp [exE]
theorem VR.kinds {l : List Ex} {bs : List Bd} (hv : VR l bs) : ∀ x ∈ l, KA x.kd := fun x hx => ex_kd (hv.ex x hx)

/-! ### Who is reached -/
theorem takenR_mem {bs : List Bd} {x : Ex} {key : ByteArray} {ps : List PR} {q : ByteArray} (h : q ∈ takenR bs x key ps) : ∃ b ∈ bs, b.qu = q := by
  obtain ⟨b, hb, e⟩ := List.mem_map.1 h
  exact ⟨b, (List.mem_filter.1 hb).1, e⟩
theorem reachR_mem {l : List Ex} {bs : List Bd} {key : ByteArray} {ps : List PR} {q : ByteArray} : ∀ {n : Nat} {asked : List ByteArray} {at_ : ByteArray}, q ∈ reachR l bs key ps n asked at_ → ∃ b ∈ bs, b.qu = q
  | 0, _, _, h => by cases h
  | n + 1, asked, at_, h => by
    unfold reachR at h
    split at h
    · cases h
    · split at h
      · cases h
      · split at h
        · exact reachR_mem h
        · exact takenR_mem h
theorem sortR_mem {xs : List ByteArray} {q : ByteArray} : q ∈ sortR xs ↔ q ∈ xs := by
  unfold sortR
  rw [List.mem_map]
  constructor
  · rintro ⟨a, ha, rfl⟩
    rw [List.mem_mergeSort] at ha
    obtain ⟨b, hb, rfl⟩ := List.mem_map.1 ha
    rwa [bs_dl]
  · intro h
    exact ⟨dl q, List.mem_mergeSort.2 (List.mem_map_of_mem h), bs_dl q⟩
theorem compact_sub {α : Type} [Inhabited α] [DecidableEq α] {zs : List α} {x : α} (h : x ∈ Lib.compact zs) : x ∈ zs := by
  unfold Lib.compact Lib.compactUpTo at h
  obtain ⟨j, hj, rfl⟩ := List.mem_map.1 h
  have hlt := List.mem_range.1 (List.mem_filter.1 hj).1
  simp [hlt]
theorem compR_sub {xs : List ByteArray} {q : ByteArray} (h : q ∈ compR xs) : q ∈ xs := by
  unfold compR at h
  obtain ⟨a, ha, rfl⟩ := List.mem_map.1 h
  obtain ⟨b, hb, rfl⟩ := List.mem_map.1 (compact_sub ha)
  rwa [bs_dl]
theorem route_mem {l : List Ex} {bs : List Bd} {ex key : ByteArray} {ps : List PR} {q : ByteArray} (he : ex ≠ ⟨#[]⟩) (h : q ∈ (routeR l bs ex key ps).1) : ∃ b ∈ bs, b.qu = q := by
  unfold routeR at h
  split at h
  · cases h
  · split at h
    · cases h
    · split at h
      · cases h
      · split at h
        · cases h
        · exact reachR_mem (sortR_mem.1 (compR_sub h))
theorem route_off {l : List Ex} {bs : List Bd} {ex key : ByteArray} {ps : List PR} {q : ByteArray} (he : ex ≠ ⟨#[]⟩) : (routeR l (dropR bs q) ex key ps).1.any (fun a => decide (a = q)) = false := by
  rw [List.any_eq_false]
  intro a ha hd
  have := of_decide_eq_true hd
  subst this
  obtain ⟨b, hb, e⟩ := route_mem he ha
  have := (List.mem_filter.1 hb).2
  rw [e] at this
  simp at this
theorem route_len {l : List Ex} {bs : List Bd} {ex key : ByteArray} {ps : List PR} (hl : bs.length ≤ 1000) : (routeR l bs ex key ps).1.length ≤ 1000 := by
  have h0 : ∀ n ak at_, (reachR l bs key ps n ak at_).length ≤ bs.length := by
    intro n
    induction n with
    | zero => intro ak at_; exact Nat.zero_le _
    | succ n ih =>
      intro ak at_
      unfold reachR
      split
      · exact Nat.zero_le _
      · split
        · exact Nat.zero_le _
        · split
          · exact ih _ _
          · exact takenR_le bs (by assumption) key ps
  unfold routeR
  split
  · simp
  · split
    · simp
    · split
      · split <;> simp
      · split
        · simp
        · split
          · simp
          · have h1 := Lib.compact_length_le ((sortR (reachR l bs key ps (l.length + 1) [] ex)).map dl)
            rw [List.length_map, sortR_len] at h1
            have := h0 (l.length + 1) [] ex
            unfold compR
            rw [List.length_map]
            omega
theorem PL.none (w : World) (B : Nat) : PL w B none [] := fun h => by cases h
end Go.Proofs.YtjkhfifnfgchgabGreatDoor
namespace Go.Proofs.YtjkhfifnfgchgabGreatDoor
open Go.RowKit
open S2 (BK Put get_ops exec_load)

theorem prSize2 : (Tryz.prog.info? 85).map (·.size) = some 2 := by kernel_rfl
theorem filt_next {ml ps : List PR} {k : Nat} {y : PR} (h : ml[k]? = some y) : ((ml.take (k + 1)).filter (hasP ps)).length = if hasP ps y = true then ((ml.take k).filter (hasP ps)).length + 1 else ((ml.take k).filter (hasP ps)).length := by
  rw [List.take_add_one, h]
  simp only [Option.toList_some, List.filter_append, List.length_append, List.filter_cons, List.filter_nil]
  split <;> simp
theorem filt_le (ml ps : List PR) (k : Nat) : ((ml.take k).filter (hasP ps)).length ≤ ml.length := Nat.le_trans (List.length_filter_le _ _) (by rw [List.length_take]; omega)
theorem filt_all (ml ps : List PR) : decide ((ml.filter (hasP ps)).length = ml.length) = ml.all (hasP ps) := by
  rw [Bool.eq_iff_iff, decide_eq_true_eq, List.length_filter_eq_length_iff, List.all_eq_true]
theorem filt_any (ml ps : List PR) : decide (0 < (ml.filter (hasP ps)).length) = ml.any (hasP ps) := by
  rw [Bool.eq_iff_iff, decide_eq_true_eq, List.length_pos_iff_exists_mem, List.any_eq_true]
  constructor
  · rintro ⟨x, hx⟩
    exact ⟨x, (List.mem_filter.1 hx).1, (List.mem_filter.1 hx).2⟩
  · rintro ⟨x, hx, h⟩
    exact ⟨x, List.mem_filter.2 ⟨hx, h⟩⟩
set_option maxRecDepth 20000 in
set_option maxHeartbeats 8000000 in
theorem rTakes_any (kd : Int) (x : BE) (key : ByteArray) (ps : List PR) (Ap : Option Addr) (cp : Nat) (w : World) (ho : S1.Okw w) (hx : BIn w x) (hp : PL w w.heap.size Ap ps) (hnp : ps.length ≤ 4398046511104) :
    Calls Tryz.prog 57 #[.int .i64 kd, bdV x, .string key, .slice Ap ps.length cp] w fun e w' => e = .returned (.bool (takesR kd x.d key ps)) ∧ Below w.heap.size w w' := by
  have HM := Lib.hid (fun w1 h => rMatches24_any x.d.ky key w1 h)
  have HC := Lib.hid (fun y w1 h => conP_any Ap cp ps y w1 h hnp)
  have HO := Lib.hid ho
  have HX := Lib.hid hx
  have HP := Lib.hid hp
  have q1 := str_dec x.d.ky key
  obtain ⟨R, hR⟩ : ∃ R, takesR kd x.d key ps = R := ⟨_, rfl⟩
  have HR := Lib.hid hR
  rw [hR]
  have HV : Hid (bdV x = .agg (gB x).toArray) := Lib.hid rfl
  rw [HV.out]
  have CX : gB x = [.string x.d.ex, .string x.d.qu, .string x.d.ky, .bool x.d.all, .slice x.a x.d.ml.length x.c] := rfl
  rw [CX]
  unfold prV at HC
  clear ho hx hp hnp hR HV CX
  go_enter Tryz.func57, Tryz.ntmps57
  go_upto_region 1 with fail
  refine name_world (C := fun w1 => Code.wp _ _ _ _ w1) (w.alloc (.cells [.string x.d.ex, .string x.d.qu, .string x.d.ky, .bool x.d.all, .slice x.a x.d.ml.length x.c].toArray 35)) ?_
  intro w1 hw1
  have hb : Below w.heap.size w w1 := by rw [hw1]; exact S2.below_new w _
  have X_w1 : Hid (BK 35 w1 w.heap.size (gB x)) := Lib.hid (by rw [hw1]; exact BK.new w _ _)
  have B_w1 := Lib.hid hb
  clear hw1 hb
  by_cases h1 : kd = 1
  · have k1 : (kd == 1) = true := by rw [h1]; rfl
    have HQ : Hid (R = decide (x.d.ky = key)) := Lib.hid (by rw [← HR.out]; unfold takesR; rw [if_pos h1])
    clear h1 HR
    generalize decide (x.d.ky = key) = b at *
    have x2 := X_w1.out.cell 2 rfl
    go_wp2_with fail
    go_ret
    exact ⟨by rw [HQ.out]; try rfl, B_w1.out⟩
  clear q1
  by_cases h2 : kd = 2
  · have k1 : (kd == 1) = false := by simp [h1]
    have k2 : (kd == 2) = true := by rw [h2]; rfl
    have HQ : Hid (R = true) := Lib.hid (by rw [← HR.out]; unfold takesR; rw [if_neg h1, if_pos h2])
    clear h1 h2 HR
    go_wp2_with fail
    go_ret
    exact ⟨by rw [HQ.out]; try rfl, B_w1.out⟩
  by_cases h3 : kd = 3
  · have k1 : (kd == 1) = false := by simp [h1]
    have k2 : (kd == 2) = false := by simp [h2]
    have k3 : (kd == 3) = true := by rw [h3]; rfl
    have HQ : Hid (R = mtR x.d.ky key) := Lib.hid (by rw [← HR.out]; unfold takesR; rw [if_neg h1, if_neg h2, if_pos h3])
    clear h1 h2 h3 HR
    have x2 := X_w1.out.cell 2 rfl
    go_wp2_with fail
    refine (HM.out w1 (HO.out.step B_w1.out)).mono ?_
    rintro e w2 ⟨rfl, hb⟩
    have B_w2 := Lib.hid (stepB B_w1.out hb)
    clear hb x2
    go_wp2_with fail
    go_ret
    exact ⟨by rw [HQ.out]; try rfl, B_w2.out⟩
  have k1 : (kd == 1) = false := by simp [h1]
  have k2 : (kd == 2) = false := by simp [h2]
  have k3 : (kd == 3) = false := by simp [h3]
  have HQ : Hid (R = hdR x.d ps) := Lib.hid (by rw [← HR.out]; unfold takesR hdR; rw [if_neg h1, if_neg h2, if_neg h3])
  clear h1 h2 h3 HR HM
  obtain ⟨CN, hCN⟩ : ∃ C : Nat → Nat, C = fun k => ((x.d.ml.take k).filter (hasP ps)).length := ⟨_, rfl⟩
  have HC0 : Hid (CN 0 = 0) := Lib.hid (by rw [hCN]; rfl)
  have HCS : Hid (∀ k y, x.d.ml[k]? = some y → CN (k + 1) = if hasP ps y = true then CN k + 1 else CN k) := Lib.hid (fun k y h => by rw [hCN]; exact filt_next h)
  have HCB : Hid (∀ k, CN k ≤ x.d.ml.length) := Lib.hid (fun k => by rw [hCN]; exact filt_le _ _ _)
  have HCE : Hid (CN x.d.ml.length = (x.d.ml.filter (hasP ps)).length) := Lib.hid (by rw [hCN]; show ((x.d.ml.take x.d.ml.length).filter _).length = _; rw [List.take_length])
  have HML : Hid (x.d.ml.length ≤ 4398046511104) := Lib.hid HX.out.2
  clear hCN
  have x4 := X_w1.out.cell 4 rfl
  go_wp2_with fail
  clear x4
  go_loopg [9, 30] x.d.ml.length (fun g v9 v wr => ∃ k : Nat, k + g = x.d.ml.length ∧ v = .int .i64 k ∧ v9 = .int .i64 (CN k) ∧ Below w1.heap.size w1 wr)
  case atStart => exact ⟨0, by omega, rfl, by rw [HC0.out]; rfl, Below.refl _ _⟩
  case round =>
    obtain ⟨k, hkg, rfl, rfl, hb0⟩ := hrel
    have HG := Lib.hid hkg
    have W_wr := Lib.hid hb0
    clear hb0 HC0
    cases gk with
    | zero =>
      obtain rfl : k = x.d.ml.length := by omega
      have e3 : decide ((x.d.ml.length : Int) < (x.d.ml.length : Int)) = false := decide_eq_false (by omega)
      have x3 := (X_w1.out.step W_wr.out).cell 3 rfl
      have x4 := (X_w1.out.step W_wr.out).cell 4 rfl
      have hqa := filt_all x.d.ml ps
      have hqn := filt_any x.d.ml ps
      rw [← HCE.out] at hqa hqn
      obtain ⟨cl, hcl⟩ : ∃ c, CN x.d.ml.length = c := ⟨_, rfl⟩
      rw [hcl] at hqa hqn
      rw [hcl]
      have HRA : Hid (x.d.all = true → R = decide (cl = x.d.ml.length)) := Lib.hid (fun h => by rw [HQ.out, hqa]; unfold hdR; rw [if_pos h])
      have HRN : Hid (x.d.all = false → R = decide (0 < cl)) := Lib.hid (fun h => by rw [HQ.out, hqn]; unfold hdR; rw [if_neg (by rw [h]; decide)])
      obtain ⟨ba, hba⟩ : ∃ b, x.d.all = b := ⟨_, rfl⟩
      rw [hba] at x3
      have HBA := Lib.hid hba
      clear hkg hqa hqn hcl hba HCS HCB HCE HQ
      cases ba with
      | true =>
        have HF := Lib.hid (HRA.out HBA.out)
        obtain ⟨z, hz⟩ : ∃ z, decide (cl = x.d.ml.length) = z := ⟨_, rfl⟩
        have k4 : ((cl : Int) == (x.d.ml.length : Int)) = z := by rw [← hz, Bool.eq_iff_iff, beq_iff_eq, decide_eq_true_eq]; omega
        have k5 : (cl == x.d.ml.length) = z := by rw [← hz, Bool.eq_iff_iff, beq_iff_eq, decide_eq_true_eq]
        rw [hz] at HF
        clear hz HRA HRN
        go_wp2_with fail
        go_ret
        exact ⟨by rw [HF.out]; try rfl, stepB B_w1.out W_wr.out⟩
      | false =>
        have HF := Lib.hid (HRN.out HBA.out)
        obtain ⟨z, hz⟩ : ∃ z, decide (0 < cl) = z := ⟨_, rfl⟩
        have k4 : decide ((0 : Int) < (cl : Int)) = z := by rw [← hz, Bool.eq_iff_iff, decide_eq_true_eq, decide_eq_true_eq]; omega
        have HF : Hid (R = z) := Lib.hid (by rw [HF.out]; exact hz)
        have HZ := Lib.hid hz
        clear hz HRA HRN
        go_wp2_with fail
        go_ret
        exact ⟨by rw [HF.out]; first | rfl | exact congrArg (fun b => Ending.returned (Value.bool b)) HZ.out | exact congrArg (fun b => Ending.returned (Value.bool b)) k4, stepB B_w1.out W_wr.out⟩
    | succ n =>
      have hlt : k < x.d.ml.length := by omega
      have e3 : decide ((k : Int) < (x.d.ml.length : Int)) = true := decide_eq_true (by omega)
      obtain ⟨y, hy⟩ : ∃ y, x.d.ml[k]? = some y := ⟨_, List.getElem?_eq_getElem hlt⟩
      obtain ⟨b, o, hA, hbB, kk, kv⟩ := PL.at_ (GL.step HX.out.1 (stepB B_w1.out W_wr.out)) hy
      have HCK := Lib.hid (HCS.out k y hy)
      obtain ⟨xd, xa, xc⟩ := x
      dsimp only at hA
      subst hA
      have j1 : (0 : Int) ≤ (k : Int) := by omega
      have j2 : (k : Int) < (xd.ml.length : Int) := by dsimp only at hlt; omega
      dsimp only at e3
      clear hy hkg hlt hbB HCS HCE HQ
      go_upto_region 12 with first
        | (refine S2.wpList_store_all (by rfl) 85 (.tmp 11) (.tmp 33) rfl rfl wr.heap.size rfl (gP y) rfl 85 _ (BK.new wr _ _) prSize2 rfl (gP_one _) ?_; intro w2 hM hP; have hb := hP.below (S2.below_new wr _) (Nat.le_refl _); have Y_w2 := Lib.hid hM; have W_w2 := Lib.hid (stepB W_wr.out hb); clear hM hP hb W_wr kk kv)
      have p0 : w2.cell? ⟨wr.heap.size, 0, none⟩ = some (.string y.1) := Y_w2.out.cell 0 rfl
      have p1 : w2.cell? ⟨wr.heap.size, 1, none⟩ = some (.string y.2) := Y_w2.out.cell 1 rfl
      have HCY := Lib.hid (HC.out y w2 (GL.step HP.out (stepB B_w1.out W_w2.out)))
      obtain ⟨hb1, hh⟩ : ∃ z, hasP ps y = z := ⟨_, rfl⟩
      rw [hh] at HCY HCK
      clear hh
      go_wp2_with fail
      refine HCY.out.mono ?_
      rintro e w3 ⟨rfl, hb⟩
      have W_w3 := Lib.hid (stepB W_w2.out hb)
      clear hb p0 p1 HCY W_w2 Y_w2
      cases hb1 with
      | true =>
        have HCK : Hid (CN (k + 1) = CN k + 1) := Lib.hid (by rw [HCK.out, if_pos rfl])
        go_wp2_with fail
        go_roundg n
        case measure => omega
        case rel => exact ⟨k + 1, by have := HG.out; (try dsimp only at *); omega, nxt k (by have := HML.out; have := HG.out; (try dsimp only at *); omega), by rw [HCK.out]; exact nxt (CN k) (by have := HML.out; have := HCB.out k; (try dsimp only at *); omega), W_w3.out⟩
      | false =>
        have HCK : Hid (CN (k + 1) = CN k) := Lib.hid (by rw [HCK.out, if_neg (by decide)])
        go_wp2_with fail
        go_roundg n
        case measure => omega
        case rel => exact ⟨k + 1, by have := HG.out; (try dsimp only at *); omega, nxt k (by have := HML.out; have := HG.out; (try dsimp only at *); omega), by rw [HCK.out], W_w3.out⟩
end Go.Proofs.YtjkhfifnfgchgabGreatDoor
namespace Go.Proofs.YtjkhfifnfgchgabGreatDoor
open Go.RowKit
open S2 (BK Put get_ops exec_load)

theorem reach_len {l : List Ex} {bs : List Bd} {key : ByteArray} {ps : List PR} : ∀ n ak at_, (reachR l bs key ps n ak at_).length ≤ bs.length := by
  intro n
  induction n with
  | zero => intro ak at_; exact Nat.zero_le _
  | succ n ih =>
    intro ak at_
    unfold reachR
    split
    · exact Nat.zero_le _
    · split
      · exact Nat.zero_le _
      · split
        · exact ih _ _
        · exact takenR_le bs (by assumption) key ps
/-- the search of the specification: what it has asked, what it has found -/
structure Srch (l : List Ex) (bs : List Bd) (key : ByteArray) (ps : List PR) (RR : List ByteArray) (g : Nat) (ak out : List ByteArray) (at_ : ByteArray) : Prop where
  pos : 1 ≤ g
  len : ak.length ≤ l.length + 1
  non : out = [] → ak.length + g = l.length + 2 ∧ Asked l ak ∧ reachR l bs key ps (g - 1) ak at_ = RR
  som : out ≠ [] → out = RR
theorem Srch.start (l : List Ex) (bs : List Bd) (key : ByteArray) (ps : List PR) (ex : ByteArray) : Srch l bs key ps (reachR l bs key ps (l.length + 1) [] ex) (l.length + 2) [] [] ex :=
  ⟨by omega, by simp, fun _ => ⟨by simp, Asked.nil l, rfl⟩, fun h => absurd rfl h⟩
theorem Srch.stop {l : List Ex} {bs : List Bd} {key : ByteArray} {ps : List PR} {RR : List ByteArray} {g : Nat} {ak out : List ByteArray} {at_ : ByteArray} (h : Srch l bs key ps RR g ak out at_)
    (hx : getE l at_ = none ∨ ak.any (fun a => decide (a = at_)) = true ∨ out ≠ []) : RR = out := by
  by_cases ho : out = []
  · obtain ⟨h1, h2, h3⟩ := h.non ho
    have h4 := h2.len
    obtain ⟨m, hm⟩ : ∃ m, g - 1 = m + 1 := ⟨g - 2, by omega⟩
    rw [hm] at h3
    rw [ho, ← h3]
    cases ha : ak.any (fun a => decide (a = at_)) with
    | true => exact reachR_in ha
    | false =>
      rcases hx with hx | hx | hx
      · exact reachR_none ha hx
      · rw [ha] at hx; cases hx
      · exact absurd ho hx
  · exact (h.som ho).symm
theorem Srch.next {l : List Ex} {bs : List Bd} {key : ByteArray} {ps : List PR} {RR : List ByteArray} {n : Nat} {ak : List ByteArray} {at_ : ByteArray} {x : Ex} (h : Srch l bs key ps RR (n + 1) ak [] at_)
    (ha : ak.any (fun a => decide (a = at_)) = false) (hg : getE l at_ = some x) : Srch l bs key ps RR n (ak ++ [at_]) (takenR bs x key ps) x.alt := by
  obtain ⟨h1, h2, h3⟩ := h.non rfl
  have h4 := h2.len
  obtain ⟨m, rfl⟩ : ∃ m, n = m + 1 := ⟨n - 1, by omega⟩
  have e : m + 1 + 1 - 1 = m + 1 := by omega
  rw [e, reachR_some ha hg] at h3
  refine ⟨by omega, by rw [List.length_append]; simp; omega, fun ho => ?_, fun ho => ?_⟩
  · rw [if_pos ho] at h3
    refine ⟨by rw [List.length_append]; simp; omega, h2.add hg ha, ?_⟩
    have e2 : m + 1 - 1 = m := by omega
    rw [e2]
    exact h3
  · rw [if_neg ho] at h3; exact h3
theorem tkB_at {x : Ex} {key : ByteArray} {ps : List PR} {b : Bd} {at_ : ByteArray} (h : x.nm = at_) : tkB x key ps b = (decide (b.ex = at_) && takesR x.kd b key ps) := by unfold tkB; rw [h]

set_option maxRecDepth 20000 in
set_option maxHeartbeats 16000000 in
theorem rRoute_any (A1 : Option Addr) (c1 : Nat) (l : List Ex) (A2 : Option Addr) (c2 : Nat) (xs : List BE) (ex key : ByteArray) (ps : List PR) (Ap : Option Addr) (cp : Nat) (w : World) (h1 : EL w w.heap.size A1 l) (hne : getE l ⟨#[]⟩ = none) (hn1 : l.length ≤ 100000) (h2 : BI w w.heap.size A2 xs) (hf : Few xs) (hn2 : xs.length ≤ 100000) (h3 : PL w w.heap.size Ap ps) (ho : S1.Okw w) (hnp : ps.length ≤ 4398046511104) (hpz : ∀ x ∈ ps, x.1.size ≤ 9223372036854775807) (hez : ex.size ≤ 9223372036854775807) :
    Calls Tryz.prog 20 #[rtV A1 l.length c1 A2 xs.length c2, .string ex, .string key, .slice Ap ps.length cp] w (RetRu (routeR l (xs.map BE.d) ex key ps) w) := by
  have HK := Lib.hid (fun w1 => xText_any key w1)
  have HP := Lib.hid (fun w1 h => vProps_any Ap cp ps w1 h hpz)
  have HNK : Hid (txR key = 0 → ∀ w1, Calls Tryz.prog 56 #[.string key] w1 fun e w' => e = .returned (.bool (nameR key)) ∧ w1 = w') := Lib.hid (fun h w1 => S1.rName_any key w1 (by have := txR_size h; omega))
  have HN : Hid (∀ w1, Calls Tryz.prog 56 #[.string ex] w1 fun e w' => e = .returned (.bool (nameR ex)) ∧ w1 = w') := Lib.hid (fun w1 => S1.rName_any ex w1 hez)
  have HF := Lib.hid (fun at_ w1 h1 => rfind_any A1 c1 l A2 xs.length c2 at_ w1 h1 (by omega))
  have HFS := Lib.hid (fun at_ => fE_spec at_ l 0)
  have HC := Lib.hid (fun A c B ak x w1 h hn => hasT_any A c B ak x w1 h hn)
  have HT := Lib.hid (fun kd x w1 ho hx hp => rTakes_any kd x key ps Ap cp w1 ho hx hp hnp)
  have HO := Lib.hid ho
  have HE := Lib.hid h1
  have HX := Lib.hid h2
  have HFE := Lib.hid hf
  have HPL := Lib.hid h3
  have HNE := Lib.hid hne
  have HN1 := Lib.hid hn1
  have HN2 := Lib.hid hn2
  have HRL : Hid ((reachR l (xs.map BE.d) key ps (l.length + 1) [] ex).length ≤ 1000000) := Lib.hid (by have := @reach_len l (xs.map BE.d) key ps (l.length + 1) [] ex; rw [List.length_map] at this; omega)
  have HST := Lib.hid (Srch.start l (xs.map BE.d) key ps ex)
  have q1 := nm_beq ex
  have q2 := nm_emp ex
  have q3a := eqL ex []
  have QR : Hid (routeR l (xs.map BE.d) ex key ps = if txR key ≠ 0 then ([], txR key) else if propsR ps ≠ 0 then ([], (propsR ps : Int)) else if ex = ⟨#[]⟩ then (if nameR key = true then [key] else [], 0) else if nameR ex = false then ([], 11) else ofQ (getE l ex) (reachR l (xs.map BE.d) key ps (l.length + 1) [] ex)) := Lib.hid rfl
  obtain ⟨Q, hQ⟩ : ∃ Q, routeR l (xs.map BE.d) ex key ps = Q := ⟨_, rfl⟩
  rw [hQ] at QR ⊢
  obtain ⟨RR, hRR⟩ : ∃ R, reachR l (xs.map BE.d) key ps (l.length + 1) [] ex = R := ⟨_, rfl⟩
  rw [hRR] at QR HRL HST
  generalize nameR ex = bn at HN QR
  generalize nameR key = bk at HNK QR
  generalize txR key = tk at HK HNK QR
  generalize propsR ps = pr at HP QR
  obtain ⟨be, hbe⟩ : ∃ b, decide (ex = ⟨#[]⟩) = b := ⟨_, rfl⟩
  have q3 : (ex.toList == ([] : List UInt8)) = be := by rw [← hbe]; exact q3a
  rw [hbe] at q1 q2
  have HBE := Lib.hid hbe
  unfold rtV at HF
  unfold rtV
  clear h1 hne hn1 h2 hf hn2 h3 ho hnp hpz hez hQ hRR hbe q3a
  go_enter Tryz.func20, Tryz.ntmps20
  go_upto_region 1 with fail
  refine name_world (C := fun w1 => Code.wp _ _ _ _ w1) (w.alloc (.cells [.slice A1 l.length c1, .slice A2 xs.length c2].toArray 25)) ?_
  intro w1 hw1
  have hb : Below w.heap.size w w1 := by rw [hw1]; exact S2.below_new w _
  have T_w1 : Hid (BK 25 w1 w.heap.size [.slice A1 l.length c1, .slice A2 xs.length c2]) := Lib.hid (by rw [hw1]; exact BK.new w _ _)
  have B_w1 := Lib.hid hb
  clear hw1 hb
  go_wp2_with fail
  refine (HK.out _).mono ?_
  rintro e w2 ⟨rfl, hw⟩
  have hw := hw.symm
  subst hw
  clear HK
  by_cases ht : tk = 0
  case neg =>
    have HQ : Hid (Q = ([], tk)) := Lib.hid (by rw [QR.out, if_pos ht])
    have q5 : (tk != 0) = true := bne_iff_ne.2 ht
    clear ht
    go_wp2_with fail
    go_ret2
    exact RetRu.out HQ.out (OwnG.nil _ _) B_w1.out
  subst ht
  have HNK2 := Lib.hid (HNK.out rfl)
  go_wp2_with fail
  refine (HP.out _ (GL.step HPL.out B_w1.out)).mono ?_
  rintro e w2 ⟨rfl, hb⟩
  have T_w2 := Lib.hid (T_w1.out.step hb)
  have B_w2 := Lib.hid (stepB B_w1.out hb)
  clear hb HP T_w1 B_w1
  by_cases hp : pr = 0
  case neg =>
    have HQ : Hid (Q = ([], (pr : Int))) := Lib.hid (by rw [QR.out, if_neg (by simp), if_pos hp])
    have q5 : ((pr : Int) != 0) = true := bne_iff_ne.2 (by omega)
    clear hp
    go_wp2_with fail
    go_ret2
    exact RetRu.out HQ.out (OwnG.nil _ _) B_w2.out
  subst hp
  cases be with
  | true =>
    have HQ0 : Hid (Q = (if bk = true then [key] else [], 0)) := Lib.hid (by rw [QR.out, if_neg (by simp), if_neg (by simp), if_pos (of_decide_eq_true HBE.out)])
    go_wp2_with fail
    refine (HNK2.out _).mono ?_
    rintro e w3 ⟨rfl, hw⟩
    subst hw
    cases bk with
    | false =>
      have HQ : Hid (Q = ([], 0)) := Lib.hid (by rw [HQ0.out, if_neg (by decide)])
      go_wp2_with fail
      go_ret2
      exact RetRu.out HQ.out (OwnG.nil _ _) B_w2.out
    | true =>
      have HQ : Hid (Q = ([key], 0)) := Lib.hid (by rw [HQ0.out, if_pos rfl])
      have HO1 : Hid (OwnT (w2.alloc (.cells (gT key).toArray 9)) w.heap.size (.slice (some ⟨w2.heap.size, 0, none⟩) 1 1) [key]) := Lib.hid (row_ownG (q := w2.heap.size) (cap := 1) (xs := [key]) (sp := []) gT_len B_w2.out.size (BK.new w2 _ _) (Nat.le_refl _) (by decide) rfl)
      have HB2 := Lib.hid (B_w2.out.alloc B_w2.out.size (.cells (gT key).toArray 9))
      go_wp2_with fail
      go_ret2
      exact RetRu.out HQ.out HO1.out HB2.out
  | false =>
  have QR1 : Hid (Q = if bn = false then (([], 11) : List ByteArray × Int) else ofQ (getE l ex) RR) := Lib.hid (by rw [QR.out, if_neg (by simp), if_neg (by simp), if_neg (of_decide_eq_false HBE.out)])
  clear QR
  go_wp2_with fail
  refine (HN.out _).mono ?_
  rintro e w3 ⟨rfl, hw⟩
  subst hw
  cases bn with
  | false =>
    have HQ : Hid (Q = ([], 11)) := Lib.hid (by rw [QR1.out, if_pos rfl])
    go_wp2_with fail
    go_ret2
    exact RetRu.out HQ.out (OwnG.nil _ _) B_w2.out
  | true =>
  have QR0 : Hid (Q = ofQ (getE l ex) RR) := Lib.hid (by rw [QR1.out, if_neg (by decide)])
  clear QR1 HN HNK HNK2 HBE q1 q2 q3
  have HLT := Lib.hid (S2.run_load_all T_w2.out Tryz.underlying25 rfl rtSize)
  go_wp2_with (refine wpList_load_v (by rfl) 25 (.tmp 4) rfl ⟨w.heap.size, 0, none⟩ (by go_simp) _ HLT.out ?_)
  refine (HF.out ex w2 (GL.step HE.out B_w2.out)).mono ?_
  rintro e w3 ⟨rfl, hb⟩
  have T_w3 := Lib.hid (T_w2.out.step hb)
  have B_w3 := Lib.hid (stepB B_w2.out hb)
  clear hb HLT T_w2 B_w2
  rcases HFS.out ex with ⟨hfe, hge⟩ | ⟨i0, x0, hfe, hx0, hge⟩
  · have HQ : Hid (Q = ([], 8)) := Lib.hid (by rw [QR0.out, hge]; rfl)
    rw [hfe]
    clear hge hfe
    go_wp2_with fail
    go_ret2
    exact RetRu.out HQ.out (OwnG.nil _ _) B_w3.out
  have QR2 : Hid (Q = (compR (sortR RR), 0)) := Lib.hid (by rw [QR0.out, hge]; rfl)
  rw [hfe]
  rw [Nat.zero_add]
  have e4 : decide ((i0 : Int) < 0) = false := decide_eq_false (by omega)
  clear hge hfe hx0 QR0
  obtain ⟨wb, hwb⟩ : ∃ wb, wb = w3 := ⟨_, rfl⟩
  subst hwb
  go_wp2_with fail
  go_loopg [12, 13, 14] (l.length + 2) (fun g v12 v13 v14 wr => ∃ (ak out : List ByteArray) (at_ : ByteArray), v14 = .string at_ ∧ OwnT wr wb.heap.size v12 ak ∧ OwnT wr wb.heap.size v13 out ∧ (out = [] → v13 = .slice none 0 0) ∧ Srch l (xs.map BE.d) key ps RR g ak out at_ ∧ Below wb.heap.size wb wr)
  case atStart => exact ⟨[], [], ex, rfl, OwnG.nil _ _, OwnG.nil _ _, fun _ => rfl, HST.out, Below.refl _ _⟩
  case round =>
    obtain ⟨ak, out, at_, rfl, ho1, ho2, hnil, hsr, hb0⟩ := hrel
    obtain ⟨Av, cv, hv, hcv, hgl⟩ := OwnG.ret gT_len ho1
    subst hv
    obtain ⟨Aw, cw, hv, hcw, hgl2⟩ := OwnG.ret gT_len ho2
    subst hv
    have K_wr := Lib.hid ho1
    have O_wr := Lib.hid ho2
    have B_wr := Lib.hid hb0
    have HS := Lib.hid hsr
    have HNI := Lib.hid hnil
    have HGL := Lib.hid hgl
    have HAL : Hid (ak.length ≤ 100001) := Lib.hid (by have := hsr.len; have := HN1.out; omega)
    clear ho1 ho2 hnil hsr hb0 hcv hcw hgl hgl2 HST
    cases gk with
    | zero => exact absurd HS.out.pos (by omega)
    | succ n =>
    have HSTOP := Lib.hid (fun h => HS.out.stop h)
    have B_w1 := B_w3
    have q1 := nm_beq at_
    have q2 := nm_emp at_
    obtain ⟨be, hbe⟩ : ∃ b, decide (at_ = ⟨#[]⟩) = b := ⟨_, rfl⟩
    rw [hbe] at q1 q2
    have HBE := Lib.hid hbe
    obtain ⟨na, hna⟩ : ∃ n, ak.length = n := ⟨_, rfl⟩
    have HNA := Lib.hid hna
    have HCC := Lib.hid (HC.out Av cv wr.heap.size ak at_ wr HGL.out (by have := HAL.out; omega))
    rw [hna] at HCC K_wr
    try rw [hna]
    obtain ⟨no, hno⟩ : ∃ n, out.length = n := ⟨_, rfl⟩
    have HNO := Lib.hid hno
    rw [hno] at O_wr HNI
    try rw [hno]
    clear hbe hna hno
    cases be with
    | true =>
      have HXR : Hid (RR = out) := Lib.hid (HSTOP.out (Or.inl (by rw [of_decide_eq_true HBE.out]; exact HNE.out)))
      clear HCC
      go_wp2_with fail
      have HQ : Hid (Q = (compR (sortR out), 0)) := Lib.hid (by rw [QR2.out, HXR.out])
      have HSO := Lib.hid (sort_own O_wr.out (by have := HRL.out; rw [← HXR.out]; exact this))
      have HSL : Hid ((sortR out).length ≤ 1000000) := Lib.hid (by rw [sortR_len]; have := HRL.out; rw [← HXR.out]; exact this)
      refine HSO.out.mono ?_
      rintro e w6 ⟨rfl, ho6, hb⟩
      have B_w6 := Lib.hid (B_wr.out.trans hb)
      have HCM := Lib.hid (compact_own ho6 HSL.out)
      clear ho6 hb HSO
      go_wp2_with fail
      refine HCM.out.mono ?_
      rintro e w7 ⟨v7, rfl, ho7, hb⟩
      have B_w7 := Lib.hid (B_w6.out.trans hb)
      have O_w7 := Lib.hid (OwnG.weak ho7 B_w1.out.size)
      clear ho7 hb HCM
      go_wp2_with fail
      go_ret2
      exact RetRu.out HQ.out O_w7.out (stepB B_w1.out B_w7.out)
    | false =>
    have T_wr := Lib.hid (T_w3.out.step B_wr.out)
    have HLT := Lib.hid (S2.run_load_all T_wr.out Tryz.underlying25 rfl rtSize)
    go_wp2_with (refine wpList_load_v (by rfl) 25 (.tmp 4) rfl ⟨w.heap.size, 0, none⟩ (by go_simp) _ HLT.out ?_)
    have HC2 := Lib.hid (fun w5 h => HC.out Av cv w5.heap.size ak at_ w5 h (by have := HAL.out; omega))
    rw [HNA.out] at HC2
    refine (HF.out at_ wr (GL.step HE.out (stepB B_w3.out B_wr.out))).mono ?_
    rintro e w4 ⟨rfl, hb⟩
    have T_w4 := Lib.hid (T_wr.out.step hb)
    have K_w4 := Lib.hid (OwnG.step K_wr.out hb)
    have O_w4 := Lib.hid (OwnG.step O_wr.out hb)
    have HC3 := Lib.hid (HC2.out w4 (GL.step HGL.out hb))
    have B_w4 := Lib.hid (stepB B_wr.out hb)
    clear hb HLT T_wr K_wr O_wr B_wr HCC HC2 HGL q1 q2 HBE
    rcases HFS.out at_ with ⟨hfe, hge⟩ | ⟨i, x, hfe, hxi, hge⟩
    · have HXR : Hid (RR = out) := Lib.hid (HSTOP.out (Or.inl hge))
      rw [hfe]
      clear hfe hge HC3
      go_wp2_with fail
      have HQ : Hid (Q = (compR (sortR out), 0)) := Lib.hid (by rw [QR2.out, HXR.out])
      have HSO := Lib.hid (sort_own O_w4.out (by have := HRL.out; rw [HXR.out] at this; exact this))
      have HSL : Hid ((sortR out).length ≤ 1000000) := Lib.hid (by rw [sortR_len]; have := HRL.out; rw [HXR.out] at this; exact this)
      refine HSO.out.mono ?_
      rintro e w6 ⟨rfl, ho6, hb⟩
      have B_w6 := Lib.hid (B_w4.out.trans hb)
      have HCM := Lib.hid (compact_own ho6 HSL.out)
      clear ho6 hb HSO
      go_wp2_with fail
      refine HCM.out.mono ?_
      rintro e w7 ⟨v7, rfl, ho7, hb⟩
      have B_w7 := Lib.hid (B_w6.out.trans hb)
      have O_w7 := Lib.hid (OwnG.weak ho7 B_w1.out.size)
      clear ho7 hb HCM
      go_wp2_with fail
      go_ret2
      exact RetRu.out HQ.out O_w7.out (stepB B_w1.out B_w7.out)
    rw [hfe, Nat.zero_add]
    have e5 : decide ((0 : Int) ≤ (i : Int)) = true := decide_eq_true (by omega)
    have HFE2 := Lib.hid hfe
    have HXI := Lib.hid hxi
    have HGE := Lib.hid hge
    clear hfe hxi hge
    obtain ⟨hb, hhb⟩ : ∃ b, ak.any (fun a => decide (a = at_)) = b := ⟨_, rfl⟩
    rw [hhb] at HC3
    have HHB := Lib.hid hhb
    clear hhb
    go_wp2_with fail
    refine HC3.out.mono ?_
    rintro e w5 ⟨rfl, hw⟩
    have hw := hw.symm
    subst hw
    clear HC3
    cases hb with
    | true =>
      have HXR : Hid (RR = out) := Lib.hid (HSTOP.out (Or.inr (Or.inl HHB.out)))
      go_wp2_with fail
      have HQ : Hid (Q = (compR (sortR out), 0)) := Lib.hid (by rw [QR2.out, HXR.out])
      have HSO := Lib.hid (sort_own O_w4.out (by have := HRL.out; rw [HXR.out] at this; exact this))
      have HSL : Hid ((sortR out).length ≤ 1000000) := Lib.hid (by rw [sortR_len]; have := HRL.out; rw [HXR.out] at this; exact this)
      refine HSO.out.mono ?_
      rintro e w6 ⟨rfl, ho6, hb⟩
      have B_w6 := Lib.hid (B_w4.out.trans hb)
      have HCM := Lib.hid (compact_own ho6 HSL.out)
      clear ho6 hb HSO
      go_wp2_with fail
      refine HCM.out.mono ?_
      rintro e w7 ⟨v7, rfl, ho7, hb⟩
      have B_w7 := Lib.hid (B_w6.out.trans hb)
      have O_w7 := Lib.hid (OwnG.weak ho7 B_w1.out.size)
      clear ho7 hb HCM
      go_wp2_with fail
      go_ret2
      exact RetRu.out HQ.out O_w7.out (stepB B_w1.out B_w7.out)
    | false =>
    by_cases hoe : out = []
    case neg =>
      have HXR : Hid (RR = out) := Lib.hid (HSTOP.out (Or.inr (Or.inr hoe)))
      have hpos : 0 < no := by have := HNO.out; have := List.length_pos_iff.2 hoe; omega
      have k4 : ((no : Int) == 0) = false := beq_eq_false_iff_ne.2 (by omega)
      have k5 : (no == 0) = false := beq_eq_false_iff_ne.2 (by omega)
      clear hoe hpos
      go_wp2_with fail
      have HQ : Hid (Q = (compR (sortR out), 0)) := Lib.hid (by rw [QR2.out, HXR.out])
      have HSO := Lib.hid (sort_own O_w4.out (by have := HRL.out; rw [HXR.out] at this; exact this))
      have HSL : Hid ((sortR out).length ≤ 1000000) := Lib.hid (by rw [sortR_len]; have := HRL.out; rw [HXR.out] at this; exact this)
      refine HSO.out.mono ?_
      rintro e w6 ⟨rfl, ho6, hb⟩
      have B_w6 := Lib.hid (B_w4.out.trans hb)
      have HCM := Lib.hid (compact_own ho6 HSL.out)
      clear ho6 hb HSO
      go_wp2_with fail
      refine HCM.out.mono ?_
      rintro e w7 ⟨v7, rfl, ho7, hb⟩
      have B_w7 := Lib.hid (B_w6.out.trans hb)
      have O_w7 := Lib.hid (OwnG.weak ho7 B_w1.out.size)
      clear ho7 hb HCM
      go_wp2_with fail
      go_ret2
      exact RetRu.out HQ.out O_w7.out (stepB B_w1.out B_w7.out)
    subst hoe
    have hh := HNI.out rfl
    simp only [Value.slice.injEq] at hh
    obtain ⟨rfl, rfl, rfl⟩ := hh
    have HNX := Lib.hid (HS.out.next HHB.out HGE.out)
    have HNM := Lib.hid (getE_some HGE.out).1
    clear HS HSTOP HNI HNO O_w4
    go_upto_region 19 with (at_builtin; refine wpList_app1 gT_len gT_one (by decide) w4 rfl _ _ 45 rfl (.string ByteArray.empty) 16 Tryz.underlying45 strInfo9 rfl (by decide) wb.heap.size _ ak at_ (by rfl) K_w4.out (by rfl) wb B_w4.out B_w4.out.size (by have := HAL.out; omega) ?_; intro v9 w9 hown9 hb9 hs9; have K_w9 := Lib.hid hown9; have B_w9 := Lib.hid hb9; have T_w9 := Lib.hid (T_w3.out.step hb9); clear hown9 hb9 hs9 K_w4 T_w4 B_w4)
    have HLT := Lib.hid (S2.run_load_all T_w9.out Tryz.underlying25 rfl rtSize)
    go_wp2_with (refine wpList_load_v (by rfl) 25 (.tmp 4) rfl ⟨w.heap.size, 0, none⟩ (by go_simp) _ HLT.out ?_)
    refine (HF.out at_ w9 (GL.step HE.out (stepB B_w3.out B_w9.out))).mono ?_
    rintro e wc ⟨rfl, hb⟩
    have T_wc := Lib.hid (T_w9.out.step hb)
    have K_wc := Lib.hid (OwnG.step K_w9.out hb)
    have B_wc := Lib.hid (stepB B_w9.out hb)
    clear hb HLT T_w9 K_w9 B_w9
    rw [HFE2.out, Nat.zero_add]
    have r0 := T_wc.out.cell 0 rfl
    obtain ⟨b, o, hA, hbB, hcl⟩ := EL.at_ (GL.step HE.out (stepB B_w3.out B_wc.out)) HXI.out
    have HLD := Lib.hid (load_ex hcl)
    have j1 : (0 : Int) ≤ (i : Int) := by omega
    have j2 : (i : Int) < (l.length : Int) := by have := (List.getElem?_eq_some_iff.1 HXI.out).1; omega
    subst hA
    clear hcl hbB
    go_upto_region 21 with first
      | (refine wpList_load_v (by rfl) 32 (.tmp 72) rfl ⟨b, o + i * 3, none⟩ (by go_simp) _ HLD.out ?_)
      | (refine S2.wpList_store_all (by rfl) 32 (.tmp 16) (.tmp 73) rfl rfl wc.heap.size rfl (gE x) rfl 32 _ (BK.new wc _ _) exSize rfl (gE_one _) ?_; intro wd hM hP; have hb := hP.below (S2.below_new wc _) (Nat.le_refl _); have X_wd := Lib.hid hM; have T_wd := Lib.hid (T_wc.out.step hb); have K_wd := Lib.hid (OwnG.step K_wc.out hb); have B_wd := Lib.hid (stepB B_wc.out hb); clear hM hP hb T_wc K_wc B_wc r0 HLD)
    obtain ⟨g16, hg16⟩ : ∃ g, g = wc.heap.size := ⟨_, rfl⟩
    rw [← hg16] at X_wd
    try rw [← hg16]
    clear hg16 j1 j2
    have r1 := T_wd.out.cell 1 rfl
    go_wp2_with fail
    clear r1
    obtain ⟨TR, hTR⟩ : ∃ F : Nat → List ByteArray, F = fun k => takenR ((xs.take k).map BE.d) x key ps := ⟨_, rfl⟩
    have HT0 : Hid (TR 0 = []) := Lib.hid (by rw [hTR]; rfl)
    have HTE : Hid (TR xs.length = takenR (xs.map BE.d) x key ps) := Lib.hid (by rw [hTR]; show takenR ((xs.take xs.length).map BE.d) x key ps = _; rw [List.take_length])
    have HNEX : Hid (∀ k y, xs[k]? = some y → TR (k + 1) = if tkB x key ps y.d = true then TR k ++ [y.d.qu] else TR k) := Lib.hid (fun k y hy => by rw [hTR]; exact takenR_next hy)
    have HLE : Hid (∀ k, (TR k).length ≤ 100000) := Lib.hid (fun k => by rw [hTR]; have := takenR_le ((xs.take k).map BE.d) x key ps; rw [List.length_map, List.length_take] at this; have := HN2.out; show (takenR ((xs.take k).map BE.d) x key ps).length ≤ _; omega)
    clear hTR
    go_loopg [13, 77] xs.length (fun g v13 v wr => ∃ k : Nat, k + g = xs.length ∧ v = .int .i64 k ∧ OwnT wr wd.heap.size v13 (TR k) ∧ (TR k = [] → v13 = .slice none 0 0) ∧ Below wd.heap.size wd wr)
    case atStart => exact ⟨0, by omega, rfl, by rw [HT0.out]; exact OwnG.nil _ _, fun _ => rfl, Below.refl _ _⟩
    case round =>
      obtain ⟨k, hkg, rfl, ho, hnil, hb0⟩ := hrel
      have HG := Lib.hid hkg
      have O_wr := Lib.hid ho
      have HNI := Lib.hid hnil
      have W_wr := Lib.hid hb0
      clear ho hnil hb0 HT0
      cases gk with
      | zero =>
        obtain rfl : k = xs.length := by omega
        have e3 : decide ((xs.length : Int) < (xs.length : Int)) = false := decide_eq_false (by omega)
        have K_wr := Lib.hid (OwnG.step K_wd.out W_wr.out)
        have x2 := (X_wd.out.step W_wr.out).cell 2 rfl
        clear hkg
        go_wp2_with fail
        go_roundg n
        case measure => omega
        case rel => exact ⟨ak ++ [at_], takenR (xs.map BE.d) x key ps, x.alt, rfl, K_wr.out, by rw [← HTE.out]; exact OwnG.weak O_wr.out B_wd.out.size, by rw [← HTE.out]; exact HNI.out, HNX.out, stepB B_wd.out W_wr.out⟩
      | succ m =>
        have hlt : k < xs.length := by omega
        have e3 : decide ((k : Int) < (xs.length : Int)) = true := decide_eq_true (by omega)
        obtain ⟨y, hy⟩ : ∃ y, xs[k]? = some y := ⟨_, List.getElem?_eq_getElem hlt⟩
        have hbw := stepB B_w3.out (stepB B_wd.out W_wr.out)
        obtain ⟨b2, o2, hA, hbB, hcl, hpl⟩ := (HX.out.step hbw).at_ hy
        have HLD := Lib.hid (load_bd hcl)
        have YI_wr : Hid (BIn wr y) := Lib.hid ⟨hpl, HFE.out y (List.mem_of_getElem? hy)⟩
        have X_wr := Lib.hid (X_wd.out.step W_wr.out)
        have HNK := Lib.hid (HNEX.out k y hy)
        have HTY := Lib.hid (@tkB_at x key ps y.d at_ HNM.out)
        have HQL := Lib.hid (HLE.out k)
        subst hA
        have j1 : (0 : Int) ≤ (k : Int) := by omega
        have j2 : (k : Int) < (xs.length : Int) := by omega
        clear hy hkg hlt hbB hcl hpl hbw
        go_upto_region 24 with first
          | (refine wpList_load_v (by rfl) 35 (.tmp 79) rfl ⟨b2, o2 + k * 5, none⟩ (by go_simp) _ HLD.out ?_)
          | (refine S2.wpList_store_all (by rfl) 35 (.tmp 18) (.tmp 80) rfl rfl wr.heap.size rfl (gB y) rfl 35 _ (BK.new wr _ _) bdSize rfl (gB_one _) ?_; intro we hM hP; have hb := hP.below (S2.below_new wr _) (Nat.le_refl _); have V_we := Lib.hid hM; have YI_we := Lib.hid (YI_wr.out.step hb); have X_we := Lib.hid (X_wr.out.step hb); have O_we := Lib.hid (OwnG.step O_wr.out hb); have W_we := Lib.hid (stepB W_wr.out hb); clear hM hP hb YI_wr X_wr O_wr W_wr HLD)
        have v0 := V_we.out.cell 0 rfl
        have q1 : (y.d.ex.toList == at_.toList) = decide (y.d.ex = at_) := str_dec _ _
        generalize decide (y.d.ex = at_) = b1 at *
        cases b1 with
        | false =>
          have HT9 : Hid (tkB x key ps y.d = false) := Lib.hid (by rw [HTY.out]; rfl)
          have HNK : Hid (TR (k + 1) = TR k) := Lib.hid (by rw [HNK.out, if_neg (by rw [HT9.out]; decide)])
          go_wp2_with fail
          go_roundg m
          case measure => omega
          case rel => exact ⟨k + 1, by have := HG.out; omega, nxt k (by have := HN2.out; have := HG.out; omega), by rw [HNK.out]; exact O_we.out, by rw [HNK.out]; exact HNI.out, W_we.out⟩
        | true =>
          have x1 := X_we.out.cell 1 rfl
          have HLV := Lib.hid (load_bd0 V_we.out)
          have hbw := stepB B_w3.out (stepB B_wd.out W_we.out)
          have HTK := Lib.hid (HT.out x.kd y we (HO.out.step hbw) YI_we.out (GL.step HPL.out hbw))
          obtain ⟨b2, hb2⟩ : ∃ z, takesR x.kd y.d key ps = z := ⟨_, rfl⟩
          rw [hb2] at HTK HTY
          clear hb2 hbw
          go_wp2_with (refine wpList_load_v (by rfl) 35 (.tmp 18) rfl ⟨wr.heap.size, 0, none⟩ (by go_simp) _ HLV.out ?_)
          refine HTK.out.mono ?_
          rintro e wf ⟨rfl, hb⟩
          have V_wf := Lib.hid (V_we.out.step hb)
          have O_wf := Lib.hid (OwnG.step O_we.out hb)
          have W_wf := Lib.hid (stepB W_we.out hb)
          clear hb v0 x1 HLV HTK V_we YI_we X_we O_we W_we
          cases b2 with
          | false =>
            have HT9 : Hid (tkB x key ps y.d = false) := Lib.hid (by rw [HTY.out]; rfl)
            have HNK : Hid (TR (k + 1) = TR k) := Lib.hid (by rw [HNK.out, if_neg (by rw [HT9.out]; decide)])
            go_wp2_with fail
            go_roundg m
            case measure => omega
            case rel => exact ⟨k + 1, by have := HG.out; omega, nxt k (by have := HN2.out; have := HG.out; omega), by rw [HNK.out]; exact O_wf.out, by rw [HNK.out]; exact HNI.out, W_wf.out⟩
          | true =>
            have HT9 : Hid (tkB x key ps y.d = true) := Lib.hid (by rw [HTY.out]; rfl)
            have HNK : Hid (TR (k + 1) = TR k ++ [y.d.qu]) := Lib.hid (by rw [HNK.out, if_pos HT9.out])
            have v1 := V_wf.out.cell 1 rfl
            go_wp2_with (at_builtin; refine wpList_app1 gT_len gT_one (by decide) wf rfl _ _ 45 rfl (.string ByteArray.empty) 16 Tryz.underlying45 strInfo9 rfl (by decide) wd.heap.size _ (TR k) y.d.qu (by rfl) O_wf.out (by rfl) wd W_wf.out W_wf.out.size (by have := HQL.out; omega) ?_; intro v9 wg hown9 hb9 hs9; have O_wg := Lib.hid hown9; have W_wg := Lib.hid hb9; clear hown9 hb9 hs9 v1)
            go_roundg m
            case measure => omega
            case rel => exact ⟨k + 1, by have := HG.out; omega, nxt k (by have := HN2.out; have := HG.out; omega), by rw [HNK.out]; exact O_wg.out, fun h => (by rw [HNK.out] at h; simp at h), W_wg.out⟩
end Go.Proofs.YtjkhfifnfgchgabGreatDoor
