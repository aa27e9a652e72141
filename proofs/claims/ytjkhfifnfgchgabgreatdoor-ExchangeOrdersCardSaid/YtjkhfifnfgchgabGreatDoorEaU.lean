/-
  What takes of the kinds topical and headers answers, and taken of exchange for all four kinds. Conditions: the lists read as data; few elements; the library's bound on short texts holds a number.
  What reached and Route of exchange answer, for all four kinds. Conditions: the lists read as data, names ascend; few elements; the library's bound on short texts holds a number.
  What the laws ExchangeUndoes, ExchangeRoutes and ExchangeOrders of the specification compare, as values. No function is walked here.
  Routing as values: the order of the bindings changes nothing; what is reached ascends and consists of names; without an alternate nothing else is reached. No function is walked here.
  What Clone and Reverse of slices answer at bindings: a row of one's own. Conditions: the list reads as data, or the row is one's own; few elements.
  What Reverse of slices answers at any row of bindings of one's own; what is reached ascends as the program compares texts. Conditions: few elements.
-/
import Derived.Test.YtjkhfifnfgchgabGreatDoorEaM
import Derived.Test.YtjkhfifnfgchgabGreatDoorEaN
namespace Go.Proofs.YtjkhfifnfgchgabGreatDoor
open Go.RowKit
open S2 (BK Put get_ops exec_load)

theorem kdN_3 : kdN 3 = .iface 109 (.agg #[]) := rfl
theorem kdN_4 : kdN 4 = .iface 110 (.agg #[]) := rfl
def prV (x : PR) : Value := .agg #[.string x.1, .string x.2]
theorem hasP_eq (ps : List PR) (x : PR) : hasP ps x = ps.any fun y => eqPR x.1 x.2 y.1 y.2 := by
  unfold hasP eqPR
  congr 1
  funext y
  rw [Bool.eq_iff_iff]
  simp only [Bool.and_eq_true, decide_eq_true_eq, Prod.mk.injEq]
  exact ⟨fun ⟨a, b⟩ => ⟨a.symm, b.symm⟩, fun ⟨a, b⟩ => ⟨a.symm, b.symm⟩⟩
theorem dropG {α : Type} {xs : List α} {k : Nat} {x : α} (h : xs[k]? = some x) : xs.drop k = x :: xs.drop (k + 1) := by
  obtain ⟨hk, e⟩ := List.getElem?_eq_some_iff.1 h
  rw [List.drop_eq_getElem_cons hk, e]
theorem hasP_cons {ps : List PR} {k : Nat} {x y : PR} (h : ps[k]? = some y) : hasP (ps.drop k) x = (eqPR x.1 x.2 y.1 y.2 || hasP (ps.drop (k + 1)) x) := by
  rw [dropG h, hasP_eq, hasP_eq, List.any_cons]
def RetIb (b : Bool) (w : World) (e : Ending) (w' : World) : Prop := ∃ k : Int, e = .returned (.int .i64 k) ∧ decide (0 ≤ k) = b ∧ Below w.heap.size w w'

set_option maxRecDepth 20000 in
set_option maxHeartbeats 2000000 in
theorem idxP_any (A : Option Addr) (c : Nat) (ps : List PR) (x : PR) (w : World) (h : PL w w.heap.size A ps) (hn : ps.length ≤ 4398046511104) :
    Calls Tryz.prog 101 #[.slice A ps.length c, prV x] w (RetIb (hasP ps x) w) := by
  have HS := Lib.hid h
  have HNP := Lib.hid hn
  obtain ⟨R, hR⟩ : ∃ R, hasP ps x = R := ⟨_, rfl⟩
  rw [hR]
  have HR : Hid (R = hasP (ps.drop 0) x) := Lib.hid (by rw [List.drop_zero]; exact hR.symm)
  have HPC := Lib.hid (fun k y h => @hasP_cons ps k x y h)
  have heq := eqP
  have hgd := guardP
  unfold prV
  clear h hR hn
  go_enter Tryz.func101, Tryz.ntmps101
  go_upto_region 1 with fail
  refine name_world (C := fun w1 => Code.wp _ _ _ _ w1) (w.alloc (.cells [.string x.1, .string x.2].toArray 85)) ?_
  intro w1 hw1
  have hb1 : Below w.heap.size w w1 := by rw [hw1]; exact S2.below_new w _
  have X_w1 : Hid (BK 85 w1 w.heap.size [.string x.1, .string x.2]) := Lib.hid (by rw [hw1]; exact BK.new w _ _)
  have B_w1 := Lib.hid hb1
  clear hw1 hb1
  go_wp2_with fail
  go_loopg [8] ps.length (fun g v wr => ∃ k : Nat, k + g = ps.length ∧ v = .int .i64 k ∧ R = hasP (ps.drop k) x ∧ Below w1.heap.size w1 wr)
  case atStart => exact ⟨0, by omega, rfl, HR.out, Below.refl _ _⟩
  case round =>
    obtain ⟨k, hkg, rfl, hrel, hb0⟩ := hrel
    have HREL := Lib.hid hrel
    have HG := Lib.hid hkg
    have B_wr := Lib.hid hb0
    clear hrel HR hb0
    cases gk with
    | zero =>
      obtain rfl : k = ps.length := by omega
      have HF : Hid (R = false) := Lib.hid (by rw [HREL.out, List.drop_length]; rfl)
      clear hkg
      go_wp2_with fail
      go_ret
      exact ⟨-1, rfl, by rw [HF.out]; decide, stepB B_w1.out B_wr.out⟩
    | succ g =>
      have hlt : k < ps.length := by omega
      have e3 : decide ((k : Int) < (ps.length : Int)) = true := decide_eq_true (by omega)
      obtain ⟨y, hy⟩ : ∃ y, ps[k]? = some y := ⟨_, List.getElem?_eq_getElem hlt⟩
      obtain ⟨b, o, hA, hbB, kk, kv⟩ := PL.at_ (GL.step HS.out (stepB B_w1.out B_wr.out)) hy
      subst hA
      have x0 := (X_w1.out.step B_wr.out).cell 0 rfl
      have x1 := (X_w1.out.step B_wr.out).cell 1 rfl
      have j1 : (0 : Int) ≤ (k : Int) := by omega
      have j2 : (k : Int) < (ps.length : Int) := by omega
      have HPX := Lib.hid (HPC.out k y hy)
      obtain ⟨be, hbe⟩ : ∃ z, eqPR x.1 x.2 y.1 y.2 = z := ⟨_, rfl⟩
      have HBE := Lib.hid hbe
      rw [hbe] at HPX
      clear hy hkg hbB hlt
      cases be with
      | true =>
        have HF : Hid (R = true) := Lib.hid (by rw [HREL.out, HPX.out]; rfl)
        go_wp2_with fail
        go_quiet (fail)
        go_wp2_with fail
        go_ret
        exact ⟨k, rfl, by rw [HF.out]; exact decide_eq_true (by omega), stepB B_w1.out (stepB B_wr.out (below_drewN _ _))⟩
      | false =>
        have HF : Hid (R = hasP (ps.drop (k + 1)) x) := Lib.hid (by rw [HREL.out, HPX.out]; rfl)
        go_wp2_with fail
        go_quiet (fail)
        go_wp2_with fail
        go_roundg g
        case measure => omega
        case rel => exact ⟨k + 1, by have := HG.out; omega, nxt k (by have := HNP.out; have := HG.out; omega), HF.out, stepB B_wr.out (below_drewN _ _)⟩
set_option maxHeartbeats 2000000 in
theorem conP_any (A : Option Addr) (c : Nat) (ps : List PR) (x : PR) (w : World) (h : PL w w.heap.size A ps) (hn : ps.length ≤ 4398046511104) :
    Calls Tryz.prog 81 #[.slice A ps.length c, prV x] w fun e w' => e = .returned (.bool (hasP ps x)) ∧ Below w.heap.size w w' := by
  have HC := Lib.hid (fun w1 h => idxP_any A c ps x w1 h hn)
  have HS := Lib.hid h
  obtain ⟨R, hR⟩ : ∃ R, hasP ps x = R := ⟨_, rfl⟩
  rw [hR] at HC ⊢
  unfold prV at HC ⊢
  clear h hR hn
  go_enter Tryz.func81, Tryz.ntmps81
  go_upto_region 1 with fail
  refine name_world (C := fun w1 => Code.wp _ _ _ _ w1) (w.alloc (.cells [.string x.1, .string x.2].toArray 85)) ?_
  intro w1 hw1
  have hb1 : Below w.heap.size w w1 := by rw [hw1]; exact S2.below_new w _
  have X_w1 : Hid (BK 85 w1 w.heap.size [.string x.1, .string x.2]) := Lib.hid (by rw [hw1]; exact BK.new w _ _)
  have B_w1 := Lib.hid hb1
  clear hw1 hb1
  have x0 := X_w1.out.cell 0 rfl
  have x1 := X_w1.out.cell 1 rfl
  go_wp2_with fail
  refine (HC.out _ (GL.step HS.out B_w1.out)).mono ?_
  rintro e w2 ⟨k, rfl, hk, hb⟩
  have HB := Lib.hid (stepB B_w1.out hb)
  subst hk
  clear hb x0 x1
  go_wp2_with fail
  go_ret
  exact ⟨by simp, HB.out⟩
set_option maxHeartbeats 2000000 in
theorem has1_any (x : PR) (key : ByteArray) (Ap : Option Addr) (ps : List PR) (cp : Nat) (g : Nat) (w : World) (hE : BK 79 w g (enC key Ap ps.length cp)) (h : PL w w.heap.size Ap ps) (hn : ps.length ≤ 4398046511104) :
    Calls Tryz.prog 146 #[prV x, .pointer (some ⟨g, 0, none⟩)] w fun e w' => e = .returned (.bool (hasP ps x)) ∧ Below w.heap.size w w' := by
  have HC := Lib.hid (fun w1 h => conP_any Ap cp ps x w1 h hn)
  have HS := Lib.hid h
  have HE := Lib.hid hE
  obtain ⟨R, hR⟩ : ∃ R, hasP ps x = R := ⟨_, rfl⟩
  rw [hR] at HC ⊢
  unfold prV at HC ⊢
  unfold enC at HE
  clear h hR hn hE
  go_enter Tryz.func146, Tryz.ntmps146
  go_upto_region 1 with fail
  refine name_world (C := fun w1 => Code.wp _ _ _ _ w1) (w.alloc (.cells [.string x.1, .string x.2].toArray 85)) ?_
  intro w1 hw1
  have hb1 : Below w.heap.size w w1 := by rw [hw1]; exact S2.below_new w _
  have X_w1 : Hid (BK 85 w1 w.heap.size [.string x.1, .string x.2]) := Lib.hid (by rw [hw1]; exact BK.new w _ _)
  have B_w1 := Lib.hid hb1
  clear hw1 hb1
  have x0 := X_w1.out.cell 0 rfl
  have x1 := X_w1.out.cell 1 rfl
  have y1 := (HE.out.step B_w1.out).cell 1 rfl
  go_wp2_with fail
  refine (HC.out _ (GL.step HS.out B_w1.out)).mono ?_
  rintro e w2 ⟨rfl, hb⟩
  have HB := Lib.hid (stepB B_w1.out hb)
  clear hb x0 x1 y1
  go_wp2_with fail
  go_ret
  exact ⟨rfl, HB.out⟩
set_option maxHeartbeats 2000000 in
theorem has2_any (x : PR) (key : ByteArray) (Ap : Option Addr) (ps : List PR) (cp : Nat) (g q : Nat) (w : World) (hE : BK 79 w g (enC key Ap ps.length cp)) (hF : BK 164 w q [.func (.func 146) #[] #[.pointer (some ⟨g, 0, none⟩)]]) (h : PL w w.heap.size Ap ps) (hn : ps.length ≤ 4398046511104) :
    Calls Tryz.prog 148 #[prV x, .pointer (some ⟨q, 0, none⟩)] w fun e w' => e = .returned (.bool (!hasP ps x)) ∧ Below w.heap.size w w' := by
  have HC := Lib.hid (fun w1 hE h => has1_any x key Ap ps cp g w1 hE h hn)
  have HS := Lib.hid h
  have HE := Lib.hid hE
  have HF := Lib.hid hF
  obtain ⟨R, hR⟩ : ∃ R, hasP ps x = R := ⟨_, rfl⟩
  rw [hR] at HC ⊢
  unfold prV at HC ⊢
  clear h hR hn hE hF
  go_enter Tryz.func148, Tryz.ntmps148
  go_upto_region 1 with fail
  refine name_world (C := fun w1 => Code.wp _ _ _ _ w1) (w.alloc (.cells [.string x.1, .string x.2].toArray 85)) ?_
  intro w1 hw1
  have hb1 : Below w.heap.size w w1 := by rw [hw1]; exact S2.below_new w _
  have X_w1 : Hid (BK 85 w1 w.heap.size [.string x.1, .string x.2]) := Lib.hid (by rw [hw1]; exact BK.new w _ _)
  have B_w1 := Lib.hid hb1
  clear hw1 hb1
  have x0 := X_w1.out.cell 0 rfl
  have x1 := X_w1.out.cell 1 rfl
  have y1 := (HF.out.step B_w1.out).cell 0 rfl
  go_wp2_with fail
  refine (HC.out _ (HE.out.step B_w1.out) (GL.step HS.out B_w1.out)).mono ?_
  rintro e w2 ⟨rfl, hb⟩
  have HB := Lib.hid (stepB B_w1.out hb)
  clear hb x0 x1 y1
  go_wp2_with fail
  go_ret
  exact ⟨rfl, HB.out⟩

set_option maxRecDepth 20000 in
set_option maxHeartbeats 2000000 in
theorem idxF1_any (A : Option Addr) (cc : Nat) (xs : List PR) (a1 : Value) (p : PR → Bool) (w : World) (h : PL w w.heap.size A xs) (hn : xs.length ≤ 4398046511104)
    (hp : ∀ x ∈ xs, ∀ w1, Below w.heap.size w w1 → Calls Tryz.prog 146 #[prV x, a1] w1 fun e w' => e = .returned (.bool (p x)) ∧ Below w1.heap.size w1 w') :
    Calls Tryz.prog 149 #[.slice A xs.length cc, .func (.func 146) #[] #[a1]] w (RetIb (xs.any p) w) := by
  have HS := Lib.hid h
  have HP := Lib.hid hp
  have HNP := Lib.hid hn
  obtain ⟨R, hR⟩ : ∃ R, xs.any p = R := ⟨_, rfl⟩
  rw [hR]
  have HR : Hid (R = (xs.drop 0).any p) := Lib.hid (by rw [List.drop_zero]; exact hR.symm)
  unfold prV at HP
  clear h hp hR hn
  go_enter Tryz.func149, Tryz.ntmps149
  go_wp2
  go_loopg [8] xs.length (fun g v wr => ∃ k : Nat, k + g = xs.length ∧ v = .int .i64 k ∧ R = (xs.drop k).any p ∧ Below w.heap.size w wr)
  case atStart => exact ⟨0, by omega, rfl, HR.out, Below.refl _ _⟩
  case round =>
    obtain ⟨k, hkg, rfl, hrel, hb0⟩ := hrel
    have HREL := Lib.hid hrel
    have HB0 := Lib.hid hb0
    have HG := Lib.hid hkg
    clear hrel hb0 HR
    cases gk with
    | zero =>
      obtain rfl : k = xs.length := by omega
      have HF : Hid (R = false) := Lib.hid (by rw [HREL.out, List.drop_length]; rfl)
      clear hkg
      go_wp2_with fail
      go_ret
      exact ⟨-1, rfl, by rw [HF.out]; decide, HB0.out⟩
    | succ g =>
      have hlt : k < xs.length := by omega
      have e3 : decide ((k : Int) < (xs.length : Int)) = true := decide_eq_true (by omega)
      obtain ⟨x, hx⟩ : ∃ x, xs[k]? = some x := ⟨_, List.getElem?_eq_getElem hlt⟩
      obtain ⟨b, o, hA, hbB, kk, kv⟩ := PL.at_ (GL.step HS.out HB0.out) hx
      subst hA
      have j1 : (0 : Int) ≤ (k : Int) := by omega
      have j2 : (k : Int) < (xs.length : Int) := by omega
      have HCL := Lib.hid (HP.out x (List.mem_of_getElem? hx) wr HB0.out)
      have HD : Hid ((xs.drop k).any p = (p x || (xs.drop (k + 1)).any p)) := Lib.hid (by rw [dropG hx, List.any_cons])
      obtain ⟨bp, hbp⟩ : ∃ z, p x = z := ⟨_, rfl⟩
      rw [hbp] at HCL HD
      clear hx hbB hkg hbp hlt
      cases bp with
      | true =>
        have HF : Hid (R = true) := Lib.hid (by rw [HREL.out, HD.out]; rfl)
        go_wp2_with fail
        refine HCL.out.mono ?_
        rintro e w1 ⟨rfl, hb⟩
        have HB1 := Lib.hid (stepB HB0.out hb)
        clear hb
        go_wp2_with fail
        go_ret
        exact ⟨k, rfl, by rw [HF.out]; exact decide_eq_true (by omega), HB1.out⟩
      | false =>
        have HF : Hid (R = (xs.drop (k + 1)).any p) := Lib.hid (by rw [HREL.out, HD.out]; rfl)
        go_wp2_with fail
        refine HCL.out.mono ?_
        rintro e w1 ⟨rfl, hb⟩
        have HB1 := Lib.hid (stepB HB0.out hb)
        clear hb
        go_wp2_with fail
        go_roundg g
        case measure => omega
        case rel => exact ⟨k + 1, by have := HG.out; omega, nxt k (by have := HNP.out; have := HG.out; omega), HF.out, HB1.out⟩
set_option maxHeartbeats 1000000 in
theorem conF1_any (A : Option Addr) (cc : Nat) (xs : List PR) (a1 : Value) (p : PR → Bool) (w : World) (h : PL w w.heap.size A xs) (hn : xs.length ≤ 4398046511104)
    (hp : ∀ x ∈ xs, ∀ w1, Below w.heap.size w w1 → Calls Tryz.prog 146 #[prV x, a1] w1 fun e w' => e = .returned (.bool (p x)) ∧ Below w1.heap.size w1 w') :
    Calls Tryz.prog 147 #[.slice A xs.length cc, .func (.func 146) #[] #[a1]] w fun e w' => e = .returned (.bool (xs.any p)) ∧ Below w.heap.size w w' := by
  have HC := Lib.hid (idxF1_any A cc xs a1 p w h hn hp)
  obtain ⟨R, hR⟩ : ∃ R, xs.any p = R := ⟨_, rfl⟩
  rw [hR] at HC ⊢
  clear h hR hp
  go_enter Tryz.func147, Tryz.ntmps147
  go_wp2_with fail
  refine HC.out.mono ?_
  rintro e w1 ⟨k, rfl, hk, hb⟩
  have HB := Lib.hid hb
  subst hk
  clear hb
  go_wp2_with fail
  go_ret
  exact ⟨by simp, HB.out⟩

set_option maxRecDepth 20000 in
set_option maxHeartbeats 2000000 in
theorem idxF2_any (A : Option Addr) (cc : Nat) (xs : List PR) (a1 : Value) (p : PR → Bool) (w : World) (h : PL w w.heap.size A xs) (hn : xs.length ≤ 4398046511104)
    (hp : ∀ x ∈ xs, ∀ w1, Below w.heap.size w w1 → Calls Tryz.prog 148 #[prV x, a1] w1 fun e w' => e = .returned (.bool (p x)) ∧ Below w1.heap.size w1 w') :
    Calls Tryz.prog 149 #[.slice A xs.length cc, .func (.func 148) #[] #[a1]] w (RetIb (xs.any p) w) := by
  have HS := Lib.hid h
  have HP := Lib.hid hp
  have HNP := Lib.hid hn
  obtain ⟨R, hR⟩ : ∃ R, xs.any p = R := ⟨_, rfl⟩
  rw [hR]
  have HR : Hid (R = (xs.drop 0).any p) := Lib.hid (by rw [List.drop_zero]; exact hR.symm)
  unfold prV at HP
  clear h hp hR hn
  go_enter Tryz.func149, Tryz.ntmps149
  go_wp2
  go_loopg [8] xs.length (fun g v wr => ∃ k : Nat, k + g = xs.length ∧ v = .int .i64 k ∧ R = (xs.drop k).any p ∧ Below w.heap.size w wr)
  case atStart => exact ⟨0, by omega, rfl, HR.out, Below.refl _ _⟩
  case round =>
    obtain ⟨k, hkg, rfl, hrel, hb0⟩ := hrel
    have HREL := Lib.hid hrel
    have HB0 := Lib.hid hb0
    have HG := Lib.hid hkg
    clear hrel hb0 HR
    cases gk with
    | zero =>
      obtain rfl : k = xs.length := by omega
      have HF : Hid (R = false) := Lib.hid (by rw [HREL.out, List.drop_length]; rfl)
      clear hkg
      go_wp2_with fail
      go_ret
      exact ⟨-1, rfl, by rw [HF.out]; decide, HB0.out⟩
    | succ g =>
      have hlt : k < xs.length := by omega
      have e3 : decide ((k : Int) < (xs.length : Int)) = true := decide_eq_true (by omega)
      obtain ⟨x, hx⟩ : ∃ x, xs[k]? = some x := ⟨_, List.getElem?_eq_getElem hlt⟩
      obtain ⟨b, o, hA, hbB, kk, kv⟩ := PL.at_ (GL.step HS.out HB0.out) hx
      subst hA
      have j1 : (0 : Int) ≤ (k : Int) := by omega
      have j2 : (k : Int) < (xs.length : Int) := by omega
      have HCL := Lib.hid (HP.out x (List.mem_of_getElem? hx) wr HB0.out)
      have HD : Hid ((xs.drop k).any p = (p x || (xs.drop (k + 1)).any p)) := Lib.hid (by rw [dropG hx, List.any_cons])
      obtain ⟨bp, hbp⟩ : ∃ z, p x = z := ⟨_, rfl⟩
      rw [hbp] at HCL HD
      clear hx hbB hkg hbp hlt
      cases bp with
      | true =>
        have HF : Hid (R = true) := Lib.hid (by rw [HREL.out, HD.out]; rfl)
        go_wp2_with fail
        refine HCL.out.mono ?_
        rintro e w1 ⟨rfl, hb⟩
        have HB1 := Lib.hid (stepB HB0.out hb)
        clear hb
        go_wp2_with fail
        go_ret
        exact ⟨k, rfl, by rw [HF.out]; exact decide_eq_true (by omega), HB1.out⟩
      | false =>
        have HF : Hid (R = (xs.drop (k + 1)).any p) := Lib.hid (by rw [HREL.out, HD.out]; rfl)
        go_wp2_with fail
        refine HCL.out.mono ?_
        rintro e w1 ⟨rfl, hb⟩
        have HB1 := Lib.hid (stepB HB0.out hb)
        clear hb
        go_wp2_with fail
        go_roundg g
        case measure => omega
        case rel => exact ⟨k + 1, by have := HG.out; omega, nxt k (by have := HNP.out; have := HG.out; omega), HF.out, HB1.out⟩
set_option maxHeartbeats 1000000 in
theorem conF2_any (A : Option Addr) (cc : Nat) (xs : List PR) (a1 : Value) (p : PR → Bool) (w : World) (h : PL w w.heap.size A xs) (hn : xs.length ≤ 4398046511104)
    (hp : ∀ x ∈ xs, ∀ w1, Below w.heap.size w w1 → Calls Tryz.prog 148 #[prV x, a1] w1 fun e w' => e = .returned (.bool (p x)) ∧ Below w1.heap.size w1 w') :
    Calls Tryz.prog 147 #[.slice A xs.length cc, .func (.func 148) #[] #[a1]] w fun e w' => e = .returned (.bool (xs.any p)) ∧ Below w.heap.size w w' := by
  have HC := Lib.hid (idxF2_any A cc xs a1 p w h hn hp)
  obtain ⟨R, hR⟩ : ∃ R, xs.any p = R := ⟨_, rfl⟩
  rw [hR] at HC ⊢
  clear h hR hp
  go_enter Tryz.func147, Tryz.ntmps147
  go_wp2_with fail
  refine HC.out.mono ?_
  rintro e w1 ⟨k, rfl, hk, hb⟩
  have HB := Lib.hid hb
  subst hk
  clear hb
  go_wp2_with fail
  go_ret
  exact ⟨by simp, HB.out⟩

def hdR (b : Bd) (ps : List PR) : Bool := if b.all then b.ml.all (hasP ps) else b.ml.any (hasP ps)
theorem notany (ml ps : List PR) : (!ml.any fun x => !hasP ps x) = ml.all (hasP ps) := by
  rw [List.not_any_eq_all_not]
  congr 1
  funext x
  exact Bool.not_not _
set_option maxHeartbeats 2000000 in
theorem topical_any (x : BE) (key : ByteArray) (Ap : Option Addr) (np cp : Nat) (w : World) (ho : S1.Okw w) :
    Calls Tryz.prog 144 #[.agg #[], bdV x, enV key Ap np cp] w fun e w' => e = .returned (.bool (mtR x.d.ky key)) ∧ Below w.heap.size w w' := by
  have HC := Lib.hid (fun w1 h => xMatches_any x.d.ky key w1 h)
  have HO := Lib.hid ho
  generalize mtR x.d.ky key = b at *
  have HV : Hid (bdV x = .agg #[.string x.d.ex, .string x.d.qu, .string x.d.ky, .bool x.d.all, .slice x.a x.d.ml.length x.c]) := Lib.hid rfl
  rw [HV.out]
  unfold enV
  clear HV ho
  go_enter Tryz.func144, Tryz.ntmps144
  go_upto_region 1 with fail
  refine name_world (C := fun w1 => Code.wp _ _ _ _ w1) (((w.alloc (.cells ([] : List Value).toArray 109)).alloc (.cells [.string x.d.ex, .string x.d.qu, .string x.d.ky, .bool x.d.all, .slice x.a x.d.ml.length x.c].toArray 35)).alloc (.cells [.string key, .slice Ap np cp].toArray 79)) ?_
  intro w1 hw1
  obtain ⟨u1, u2, u3, hB0, hs0⟩ := three_laid hw1
  have X_w1 := Lib.hid u2
  have E_w1 := Lib.hid u3
  have B_w1 := Lib.hid hB0
  have O_w1 := Lib.hid (HO.out.step hB0)
  clear hw1 u1 u2 u3 hB0 hs0
  have x2 := X_w1.out.cell 2 rfl
  have e0 := E_w1.out.cell 0 rfl
  go_wp2_with fail
  refine (HC.out _ O_w1.out).mono ?_
  rintro e w2 ⟨rfl, hb⟩
  have HB := Lib.hid (stepB B_w1.out hb)
  clear hb x2 e0
  go_wp2_with fail
  go_ret
  exact ⟨rfl, HB.out⟩
set_option maxRecDepth 20000 in
set_option maxHeartbeats 4000000 in
theorem headers_any (x : BE) (key : ByteArray) (Ap : Option Addr) (ps : List PR) (cp : Nat) (w : World) (h : PL w w.heap.size Ap ps) (hm : PL w w.heap.size x.a x.d.ml) (hn : ps.length ≤ 4398046511104) (hnm : x.d.ml.length ≤ 4398046511104) :
    Calls Tryz.prog 145 #[.agg #[], bdV x, enV key Ap ps.length cp] w fun e w' => e = .returned (.bool (hdR x.d ps)) ∧ Below w.heap.size w w' := by
  have HP := Lib.hid h
  have HM := Lib.hid hm
  have H1 := Lib.hid (fun g y w1 hE h => has1_any y key Ap ps cp g w1 hE h hn)
  have H2 := Lib.hid (fun g q y w1 hE hF h => has2_any y key Ap ps cp g q w1 hE hF h hn)
  have HC1 := Lib.hid (fun a1 w1 h hp => conF1_any x.a x.c x.d.ml a1 (hasP ps) w1 h hnm hp)
  have HC2 := Lib.hid (fun a1 w1 h hp => conF2_any x.a x.c x.d.ml a1 (fun y => !hasP ps y) w1 h hnm hp)
  have HR1 : Hid (x.d.all = true → hdR x.d ps = !(x.d.ml.any fun y => !hasP ps y)) := Lib.hid (fun h => by unfold hdR; rw [if_pos h, notany])
  have HR2 : Hid (x.d.all = false → hdR x.d ps = x.d.ml.any (hasP ps)) := Lib.hid (fun h => by unfold hdR; rw [if_neg (by rw [h]; decide)])
  have HV : Hid (bdV x = .agg #[.string x.d.ex, .string x.d.qu, .string x.d.ky, .bool x.d.all, .slice x.a x.d.ml.length x.c]) := Lib.hid rfl
  rw [HV.out]
  generalize hdR x.d ps = R at *
  generalize x.d.all = ba at *
  unfold enC at H1 H2
  unfold enV
  clear HV h hm hn hnm
  go_enter Tryz.func145, Tryz.ntmps145
  go_upto_region 1 with fail
  refine name_world (C := fun w1 => Code.wp _ _ _ _ w1) (((w.alloc (.cells ([] : List Value).toArray 110)).alloc (.cells [.string x.d.ex, .string x.d.qu, .string x.d.ky, .bool ba, .slice x.a x.d.ml.length x.c].toArray 35)).alloc (.cells [.string key, .slice Ap ps.length cp].toArray 79)) ?_
  intro w1 hw1
  obtain ⟨u1, u2, u3, hB0, hs0⟩ := three_laid hw1
  have X_w1 := Lib.hid u2
  have E_w1 := Lib.hid u3
  have B_w1 := Lib.hid hB0
  have M_w1 := Lib.hid (GL.step HM.out hB0)
  have P_w1 := Lib.hid (GL.step HP.out hB0)
  clear hw1 u1 u2 u3 hB0 hs0 HM HP
  go_upto_region 2 with (refine wpList_store_row (by rfl) 164 (.tmp 7) (.tmp 8) rfl rfl w1.heap.size 0 1 rfl _ rfl 164 [.nilFunc] [.func (.func 146) #[] #[.pointer (some ⟨w.heap.size + 2, 0, none⟩)]] (BK.new w1 _ _) rfl rfl (by kernel_rfl) (by simp) (fun u hu => by simp only [List.mem_cons, List.not_mem_nil, or_false] at hu; subst hu; rfl) ?_; intro w2 hM hP _; have F_w2 : Hid (BK 164 w2 w1.heap.size [.func (.func 146) #[] #[.pointer (some ⟨w.heap.size + 2, 0, none⟩)]]) := Lib.hid hM; have hb := hP.below (S2.below_new w1 _) (Nat.le_refl _); have B_w2 := Lib.hid (stepB B_w1.out hb); have X_w2 := Lib.hid (X_w1.out.step hb); have E_w2 := Lib.hid (E_w1.out.step hb); have M_w2 := Lib.hid (GL.step M_w1.out hb); have P_w2 := Lib.hid (GL.step P_w1.out hb); clear hM hP hb X_w1 E_w1 M_w1 P_w1 B_w1)
  have x3 := X_w2.out.cell 3 rfl
  have x4 := X_w2.out.cell 4 rfl
  have f0 := F_w2.out.cell 0 rfl
  cases ba with
  | true =>
    go_wp2_with fail
    refine (HC2.out (.pointer (some ⟨w1.heap.size, 0, none⟩)) _ M_w2.out (fun y hy w3 hb => H2.out _ _ y w3 (E_w2.out.step hb) (F_w2.out.step hb) (GL.step P_w2.out hb))).mono ?_
    rintro e w3 ⟨rfl, hb⟩
    have HB := Lib.hid (stepB B_w2.out hb)
    clear hb x4 f0
    go_wp2_with fail
    go_ret
    exact ⟨by rw [HR1.out (by first | rfl | trivial)]; rfl, HB.out⟩
  | false =>
    go_wp2_with fail
    refine (HC1.out (.pointer (some ⟨w.heap.size + 2, 0, none⟩)) _ M_w2.out (fun y hy w3 hb => H1.out _ y w3 (E_w2.out.step hb) (GL.step P_w2.out hb))).mono ?_
    rintro e w3 ⟨rfl, hb⟩
    have HB := Lib.hid (stepB B_w2.out hb)
    clear hb x4 f0
    go_wp2_with fail
    go_ret
    exact ⟨by rw [HR2.out (by first | rfl | trivial)]; rfl, HB.out⟩


set_option maxRecDepth 20000 in
set_option maxHeartbeats 8000000 in
theorem taken_3 (A2 : Option Addr) (c2 : Nat) (xs : List BE) (x : Ex) (key : ByteArray) (ps : List PR) (Ap : Option Addr) (np cp : Nat) (w : World) (h : BI w w.heap.size A2 xs) (hk : x.kd = 3) (hn : xs.length ≤ 100000) (ho : S1.Okw w) :
    Calls Tryz.prog 74 #[.slice A2 xs.length c2, exV x, enV key Ap np cp] w fun e w' => ∃ v, e = .returned v ∧ OwnT w' w.heap.size v (takenR (xs.map BE.d) x key ps) ∧ Below w.heap.size w w' := by
  have HK : Hid (∀ w1, Calls Tryz.prog 62 #[.int .i64 3] w1 fun e w' => e = .returned (.tuple #[.iface 109 (.agg #[]), .bool true]) ∧ w' = w1) := Lib.hid (fun w1 => kindOf_any 3 w1)
  have HT := Lib.hid (fun y w1 ho => topical_any y key Ap np cp w1 ho)
  have HOK := Lib.hid ho
  have HTK : Hid (∀ y : BE, tkB x key ps y.d = (decide (y.d.ex = x.nm) && mtR y.d.ky key)) := Lib.hid (fun y => by unfold tkB takesR; rw [hk]; rfl)
  have HX := Lib.hid h
  have HNX := Lib.hid hn
  have HNE : Hid (∀ k y, xs[k]? = some y → takenR ((xs.take (k + 1)).map BE.d) x key ps = if tkB x key ps y.d = true then takenR ((xs.take k).map BE.d) x key ps ++ [y.d.qu] else takenR ((xs.take k).map BE.d) x key ps) := Lib.hid (fun k y hy => takenR_next hy)
  have HLE : Hid (∀ k, (takenR ((xs.take k).map BE.d) x key ps).length ≤ 100000) := Lib.hid (fun k => by have := takenR_le ((xs.take k).map BE.d) x key ps; rw [List.length_map, List.length_take] at this; omega)
  have HT0 : Hid (takenR ((xs.take 0).map BE.d) x key ps = []) := Lib.hid rfl
  have HTE : Hid (takenR ((xs.take xs.length).map BE.d) x key ps = takenR (xs.map BE.d) x key ps) := Lib.hid (by rw [List.take_length])
  obtain ⟨TR, hTR⟩ : ∃ F : Nat → List ByteArray, F = fun k => takenR ((xs.take k).map BE.d) x key ps := ⟨_, rfl⟩
  have HTR : ∀ k, takenR ((xs.take k).map BE.d) x key ps = TR k := fun k => by rw [hTR]
  simp only [HTR] at HNE HLE HT0 HTE
  rw [← HTE.out]
  have HV : Hid (exV x = .agg #[.string x.nm, .int .i64 3, .string x.alt]) := Lib.hid (by rw [← hk]; rfl)
  rw [HV.out]
  unfold enV
  clear h hn hTR HTR HTE HV
  generalize x.nm = nm at *
  generalize x.alt = alt at *
  go_enter Tryz.func74, Tryz.ntmps74
  go_upto_region 1 with fail
  refine name_world (C := fun w1 => Code.wp _ _ _ _ w1) ((w.alloc (.cells [.string nm, .int .i64 3, .string alt].toArray 32)).alloc (.cells [.string key, .slice Ap np cp].toArray 79)) ?_
  intro w1 hw1
  obtain ⟨u1, u2, hs0, hB0⟩ := S2.two_laid hw1
  have X_w1 := Lib.hid u1
  have E_w1 := Lib.hid u2
  have B_w1 := Lib.hid hB0
  have HZ1 := Lib.hid hs0
  clear hw1 u1 u2 hs0 hB0
  have x1 := X_w1.out.cell 1 rfl
  go_wp2_with fail
  refine (HK.out _).mono ?_
  rintro e w2 ⟨rfl, hw⟩
  have hw := hw.symm
  subst hw
  clear x1 HK
  go_wp2_with fail
  go_loopg [7, 20] xs.length (fun g v7 v wr => ∃ (k : Nat), k + g = xs.length ∧ v = .int .i64 k ∧ OwnT wr w1.heap.size v7 (TR k) ∧ Below w1.heap.size w1 wr)
  case atStart => exact ⟨0, by omega, rfl, by rw [HT0.out]; exact OwnG.nil _ _, Below.refl _ _⟩
  case round =>
    obtain ⟨k, hkg, rfl, ho, hb0⟩ := hrel
    have O_wr := Lib.hid ho
    have B_wr := Lib.hid hb0
    have HG := Lib.hid hkg
    clear ho hb0
    cases gk with
    | zero =>
      obtain rfl : k = xs.length := by omega
      clear hkg
      go_wp2_with fail
      go_ret
      exact ⟨_, rfl, OwnG.weak O_wr.out B_w1.out.size, (stepB B_w1.out B_wr.out)⟩
    | succ n =>
      have hlt : k < xs.length := by omega
      have e3 : decide ((k : Int) < (xs.length : Int)) = true := decide_eq_true (by omega)
      obtain ⟨y, hy⟩ : ∃ y, xs[k]? = some y := ⟨_, List.getElem?_eq_getElem hlt⟩
      have hsr := HX.out.step (stepB B_w1.out B_wr.out)
      obtain ⟨b, o, hA, hbB, hcl, hpl⟩ := hsr.at_ hy
      have HLD := Lib.hid (load_bd hcl)
      have HNK := Lib.hid (HNE.out k y hy)
      have HTY := Lib.hid (HTK.out y)
      have HCT := Lib.hid (HT.out y)
      have HYY := Lib.hid hy
      have HQL := Lib.hid (HLE.out k)
      subst hA
      have j1 : (0 : Int) ≤ (k : Int) := by omega
      have j2 : (k : Int) < (xs.length : Int) := by omega
      clear hy hkg hlt hbB hcl hpl hsr
      go_upto_region 6 with first
        | (refine wpList_load_v (by rfl) 35 (.tmp 22) rfl ⟨b, o + k * 5, none⟩ (by go_simp) _ HLD.out ?_)
        | (refine S2.wpList_store_all (by rfl) 35 (.tmp 11) (.tmp 23) rfl rfl wr.heap.size rfl (gB y) rfl 35 _ (BK.new wr _ _) bdSize rfl (gB_one _) ?_; intro w4 hM hP; have hb := hP.below (S2.below_new wr _) (Nat.le_refl _); have B_w4 := Lib.hid (stepB B_wr.out hb); have V_w4 := Lib.hid hM; have O_w4 := Lib.hid (OwnG.step O_wr.out hb); clear hM hP hb)
      clear HLD B_wr O_wr
      have X_w4 := Lib.hid (X_w1.out.step B_w4.out)
      have E_w4 := Lib.hid (E_w1.out.step B_w4.out)
      have HLV := Lib.hid (load_bd0 V_w4.out)
      have HLE4 := Lib.hid (S2.run_load_all E_w4.out Tryz.underlying79 rfl enSize)
      have HB4 := B_w4
      have x0 := X_w4.out.cell 0 rfl
      have v0 := V_w4.out.cell 0 rfl
      have q1 : (y.d.ex.toList == nm.toList) = decide (y.d.ex = nm) := str_dec _ _
      generalize decide (y.d.ex = nm) = b1 at *
      generalize mtR y.d.ky key = b2 at *
      cases b1 with
      | false =>
        have HT9 : Hid (tkB x key ps y.d = false) := Lib.hid (by rw [HTY.out]; rfl)
        go_wp2_with fail
        go_roundg n
        case measure => omega
        case rel => exact ⟨k + 1, by have := HG.out; omega, nxt k (by have := HNX.out; have := HG.out; omega), by rw [HNK.out, if_neg (by rw [HT9.out]; decide)]; exact O_w4.out, B_w4.out⟩
      | true =>
        go_wp2_with first
          | (refine wpList_load_v (by rfl) 35 (.tmp 11) rfl ⟨wr.heap.size, 0, none⟩ (by go_simp) _ HLV.out ?_)
          | (refine wpList_load_v (by rfl) 79 (.tmp 5) rfl ⟨w.heap.size + 1, 0, none⟩ (by go_simp) _ HLE4.out ?_)
        refine (HCT.out _ (HOK.out.step (stepB B_w1.out HB4.out))).mono ?_
        rintro e w5 ⟨rfl, hb⟩
        have B_w5 := Lib.hid (stepB B_w4.out hb)
        have V_w5 := Lib.hid (V_w4.out.step hb)
        have O_w5 := Lib.hid (OwnG.step O_w4.out hb)
        clear hb V_w4 O_w4 x0 v0 HLV HLE4 X_w4 E_w4
        cases b2 with
        | false =>
          have HT9 : Hid (tkB x key ps y.d = false) := Lib.hid (by rw [HTY.out]; rfl)
          go_wp2_with fail
          go_roundg n
          case measure => omega
          case rel => exact ⟨k + 1, by have := HG.out; omega, nxt k (by have := HNX.out; have := HG.out; omega), by rw [HNK.out, if_neg (by rw [HT9.out]; decide)]; exact O_w5.out, B_w5.out⟩
        | true =>
          have HT9 : Hid (tkB x key ps y.d = true) := Lib.hid (by rw [HTY.out]; rfl)
          have v1 := V_w5.out.cell 1 rfl
          go_wp2_with (at_builtin; refine wpList_app1 gT_len gT_one (by decide) w5 rfl _ _ 45 rfl (.string ByteArray.empty) 16 Tryz.underlying45 strInfo9 rfl (by decide) w1.heap.size _ (TR k) y.d.qu (by rfl) O_w5.out (by rfl) w1 B_w5.out B_w5.out.size (by have := HQL.out; omega) ?_; intro v9 w9 hown9 hb9 hs9; have O_w9 := Lib.hid hown9; have B_w9 := Lib.hid hb9; clear hown9 hb9 hs9 v1)
          go_roundg n
          case measure => omega
          case rel => exact ⟨k + 1, by have := HG.out; omega, nxt k (by have := HNX.out; have := HG.out; omega), by rw [HNK.out, if_pos HT9.out]; exact O_w9.out, B_w9.out⟩


set_option maxRecDepth 20000 in
set_option maxHeartbeats 8000000 in
theorem taken_4 (A2 : Option Addr) (c2 : Nat) (xs : List BE) (x : Ex) (key : ByteArray) (ps : List PR) (Ap : Option Addr) (cp : Nat) (w : World) (h : BI w w.heap.size A2 xs) (hk : x.kd = 4) (hn : xs.length ≤ 100000) (hp : PL w w.heap.size Ap ps) (hnp : ps.length ≤ 4398046511104) (hm : ∀ y ∈ xs, y.d.ml.length ≤ 4398046511104) :
    Calls Tryz.prog 74 #[.slice A2 xs.length c2, exV x, enV key Ap ps.length cp] w fun e w' => ∃ v, e = .returned v ∧ OwnT w' w.heap.size v (takenR (xs.map BE.d) x key ps) ∧ Below w.heap.size w w' := by
  have HK : Hid (∀ w1, Calls Tryz.prog 62 #[.int .i64 4] w1 fun e w' => e = .returned (.tuple #[.iface 110 (.agg #[]), .bool true]) ∧ w' = w1) := Lib.hid (fun w1 => kindOf_any 4 w1)
  have HT := Lib.hid (fun y w1 h h2 hm => headers_any y key Ap ps cp w1 h h2 hnp hm)
  have HPS := Lib.hid hp
  have HMS := Lib.hid hm
  have HTK : Hid (∀ y : BE, tkB x key ps y.d = (decide (y.d.ex = x.nm) && hdR y.d ps)) := Lib.hid (fun y => by unfold tkB takesR; rw [hk]; rfl)
  have HX := Lib.hid h
  have HNX := Lib.hid hn
  have HNE : Hid (∀ k y, xs[k]? = some y → takenR ((xs.take (k + 1)).map BE.d) x key ps = if tkB x key ps y.d = true then takenR ((xs.take k).map BE.d) x key ps ++ [y.d.qu] else takenR ((xs.take k).map BE.d) x key ps) := Lib.hid (fun k y hy => takenR_next hy)
  have HLE : Hid (∀ k, (takenR ((xs.take k).map BE.d) x key ps).length ≤ 100000) := Lib.hid (fun k => by have := takenR_le ((xs.take k).map BE.d) x key ps; rw [List.length_map, List.length_take] at this; omega)
  have HT0 : Hid (takenR ((xs.take 0).map BE.d) x key ps = []) := Lib.hid rfl
  have HTE : Hid (takenR ((xs.take xs.length).map BE.d) x key ps = takenR (xs.map BE.d) x key ps) := Lib.hid (by rw [List.take_length])
  obtain ⟨TR, hTR⟩ : ∃ F : Nat → List ByteArray, F = fun k => takenR ((xs.take k).map BE.d) x key ps := ⟨_, rfl⟩
  have HTR : ∀ k, takenR ((xs.take k).map BE.d) x key ps = TR k := fun k => by rw [hTR]
  simp only [HTR] at HNE HLE HT0 HTE
  rw [← HTE.out]
  have HV : Hid (exV x = .agg #[.string x.nm, .int .i64 4, .string x.alt]) := Lib.hid (by rw [← hk]; rfl)
  rw [HV.out]
  unfold enV
  clear h hn hTR HTR HTE HV
  generalize x.nm = nm at *
  generalize x.alt = alt at *
  go_enter Tryz.func74, Tryz.ntmps74
  go_upto_region 1 with fail
  refine name_world (C := fun w1 => Code.wp _ _ _ _ w1) ((w.alloc (.cells [.string nm, .int .i64 4, .string alt].toArray 32)).alloc (.cells [.string key, .slice Ap ps.length cp].toArray 79)) ?_
  intro w1 hw1
  obtain ⟨u1, u2, hs0, hB0⟩ := S2.two_laid hw1
  have X_w1 := Lib.hid u1
  have E_w1 := Lib.hid u2
  have B_w1 := Lib.hid hB0
  have HZ1 := Lib.hid hs0
  clear hw1 u1 u2 hs0 hB0
  have x1 := X_w1.out.cell 1 rfl
  go_wp2_with fail
  refine (HK.out _).mono ?_
  rintro e w2 ⟨rfl, hw⟩
  have hw := hw.symm
  subst hw
  clear x1 HK
  go_wp2_with fail
  go_loopg [7, 20] xs.length (fun g v7 v wr => ∃ (k : Nat), k + g = xs.length ∧ v = .int .i64 k ∧ OwnT wr w1.heap.size v7 (TR k) ∧ Below w1.heap.size w1 wr)
  case atStart => exact ⟨0, by omega, rfl, by rw [HT0.out]; exact OwnG.nil _ _, Below.refl _ _⟩
  case round =>
    obtain ⟨k, hkg, rfl, ho, hb0⟩ := hrel
    have O_wr := Lib.hid ho
    have B_wr := Lib.hid hb0
    have HG := Lib.hid hkg
    clear ho hb0
    cases gk with
    | zero =>
      obtain rfl : k = xs.length := by omega
      clear hkg
      go_wp2_with fail
      go_ret
      exact ⟨_, rfl, OwnG.weak O_wr.out B_w1.out.size, (stepB B_w1.out B_wr.out)⟩
    | succ n =>
      have hlt : k < xs.length := by omega
      have e3 : decide ((k : Int) < (xs.length : Int)) = true := decide_eq_true (by omega)
      obtain ⟨y, hy⟩ : ∃ y, xs[k]? = some y := ⟨_, List.getElem?_eq_getElem hlt⟩
      have hsr := HX.out.step (stepB B_w1.out B_wr.out)
      obtain ⟨b, o, hA, hbB, hcl, hpl⟩ := hsr.at_ hy
      have HLD := Lib.hid (load_bd hcl)
      have HNK := Lib.hid (HNE.out k y hy)
      have HTY := Lib.hid (HTK.out y)
      have HCT := Lib.hid (HT.out y)
      have HYY := Lib.hid hy
      have HQL := Lib.hid (HLE.out k)
      subst hA
      have j1 : (0 : Int) ≤ (k : Int) := by omega
      have j2 : (k : Int) < (xs.length : Int) := by omega
      clear hy hkg hlt hbB hcl hpl hsr
      go_upto_region 6 with first
        | (refine wpList_load_v (by rfl) 35 (.tmp 22) rfl ⟨b, o + k * 5, none⟩ (by go_simp) _ HLD.out ?_)
        | (refine S2.wpList_store_all (by rfl) 35 (.tmp 11) (.tmp 23) rfl rfl wr.heap.size rfl (gB y) rfl 35 _ (BK.new wr _ _) bdSize rfl (gB_one _) ?_; intro w4 hM hP; have hb := hP.below (S2.below_new wr _) (Nat.le_refl _); have B_w4 := Lib.hid (stepB B_wr.out hb); have V_w4 := Lib.hid hM; have O_w4 := Lib.hid (OwnG.step O_wr.out hb); clear hM hP hb)
      clear HLD B_wr O_wr
      have X_w4 := Lib.hid (X_w1.out.step B_w4.out)
      have E_w4 := Lib.hid (E_w1.out.step B_w4.out)
      have HLV := Lib.hid (load_bd0 V_w4.out)
      have HLE4 := Lib.hid (S2.run_load_all E_w4.out Tryz.underlying79 rfl enSize)
      have HB4 := B_w4
      have x0 := X_w4.out.cell 0 rfl
      have v0 := V_w4.out.cell 0 rfl
      have q1 : (y.d.ex.toList == nm.toList) = decide (y.d.ex = nm) := str_dec _ _
      generalize decide (y.d.ex = nm) = b1 at *
      generalize hdR y.d ps = b2 at *
      cases b1 with
      | false =>
        have HT9 : Hid (tkB x key ps y.d = false) := Lib.hid (by rw [HTY.out]; rfl)
        go_wp2_with fail
        go_roundg n
        case measure => omega
        case rel => exact ⟨k + 1, by have := HG.out; omega, nxt k (by have := HNX.out; have := HG.out; omega), by rw [HNK.out, if_neg (by rw [HT9.out]; decide)]; exact O_w4.out, B_w4.out⟩
      | true =>
        go_wp2_with first
          | (refine wpList_load_v (by rfl) 35 (.tmp 11) rfl ⟨wr.heap.size, 0, none⟩ (by go_simp) _ HLV.out ?_)
          | (refine wpList_load_v (by rfl) 79 (.tmp 5) rfl ⟨w.heap.size + 1, 0, none⟩ (by go_simp) _ HLE4.out ?_)
        have hpl4 := (HX.out.step (stepB B_w1.out HB4.out)).2 y (List.mem_of_getElem? HYY.out)
        refine (HCT.out _ (GL.step HPS.out (stepB B_w1.out HB4.out)) hpl4 (HMS.out y (List.mem_of_getElem? HYY.out))).mono ?_
        rintro e w5 ⟨rfl, hb⟩
        have B_w5 := Lib.hid (stepB B_w4.out hb)
        have V_w5 := Lib.hid (V_w4.out.step hb)
        have O_w5 := Lib.hid (OwnG.step O_w4.out hb)
        clear hb V_w4 O_w4 B_w4 x0 v0 HLV HLE4 X_w4 E_w4
        cases b2 with
        | false =>
          have HT9 : Hid (tkB x key ps y.d = false) := Lib.hid (by rw [HTY.out]; rfl)
          go_wp2_with fail
          go_roundg n
          case measure => omega
          case rel => exact ⟨k + 1, by have := HG.out; omega, nxt k (by have := HNX.out; have := HG.out; omega), by rw [HNK.out, if_neg (by rw [HT9.out]; decide)]; exact O_w5.out, B_w5.out⟩
        | true =>
          have HT9 : Hid (tkB x key ps y.d = true) := Lib.hid (by rw [HTY.out]; rfl)
          have v1 := V_w5.out.cell 1 rfl
          go_wp2_with (at_builtin; refine wpList_app1 gT_len gT_one (by decide) w5 rfl _ _ 45 rfl (.string ByteArray.empty) 16 Tryz.underlying45 strInfo9 rfl (by decide) w1.heap.size _ (TR k) y.d.qu (by rfl) O_w5.out (by rfl) w1 B_w5.out B_w5.out.size (by have := HQL.out; omega) ?_; intro v9 w9 hown9 hb9 hs9; have O_w9 := Lib.hid hown9; have B_w9 := Lib.hid hb9; clear hown9 hb9 hs9 v1)
          go_roundg n
          case measure => omega
          case rel => exact ⟨k + 1, by have := HG.out; omega, nxt k (by have := HNX.out; have := HG.out; omega), by rw [HNK.out, if_pos HT9.out]; exact O_w9.out, B_w9.out⟩


/-- the kinds -/
def KA (k : Int) : Prop := k = 1 ∨ k = 2 ∨ k = 3 ∨ k = 4
theorem taken2_any (A2 : Option Addr) (c2 : Nat) (xs : List BE) (x : Ex) (key : ByteArray) (ps : List PR) (Ap : Option Addr) (cp : Nat) (w : World) (h : BI w w.heap.size A2 xs) (hk : KA x.kd) (hn : xs.length ≤ 100000) (ho : S1.Okw w) (hp : PL w w.heap.size Ap ps) (hnp : ps.length ≤ 4398046511104) (hm : ∀ y ∈ xs, y.d.ml.length ≤ 4398046511104) :
    Calls Tryz.prog 74 #[.slice A2 xs.length c2, exV x, enV key Ap ps.length cp] w fun e w' => ∃ v, e = .returned v ∧ OwnT w' w.heap.size v (takenR (xs.map BE.d) x key ps) ∧ Below w.heap.size w w' := by
  rcases hk with hk | hk | hk | hk
  · exact taken_1 A2 c2 xs x key ps Ap ps.length cp w h hk hn
  · exact taken_2 A2 c2 xs x key ps Ap ps.length cp w h hk hn
  · exact taken_3 A2 c2 xs x key ps Ap ps.length cp w h hk hn ho
  · exact taken_4 A2 c2 xs x key ps Ap cp w h hk hn hp hnp hm
end Go.Proofs.YtjkhfifnfgchgabGreatDoor
namespace Go.Proofs.YtjkhfifnfgchgabGreatDoor
open Go.RowKit
open S2 (BK Put get_ops)

set_option maxRecDepth 20000 in
set_option maxHeartbeats 8000000 in
theorem reached2_any (A1 : Option Addr) (c1 : Nat) (l : List Ex) (A2 : Option Addr) (c2 : Nat) (xs : List BE) (ex key : ByteArray) (ps : List PR) (Ap : Option Addr) (cp : Nat) (w : World) (h1 : EL w w.heap.size A1 l) (ha : AscE l) (hk : ∀ x ∈ l, KA x.kd) (hn1 : l.length ≤ 100000) (h2 : BI w w.heap.size A2 xs) (hn2 : xs.length ≤ 100000) (ho : S1.Okw w) (hp : PL w w.heap.size Ap ps) (hnp : ps.length ≤ 4398046511104) (hm : ∀ y ∈ xs, y.d.ml.length ≤ 4398046511104) :
    Calls Tryz.prog 51 #[rtV A1 l.length c1 A2 xs.length c2, .string ex, enV key Ap ps.length cp] w fun e w' => ∃ v, e = .returned v ∧ OwnT w' w.heap.size v (reachR l (xs.map BE.d) key ps (l.length + 1) [] ex) ∧ Below w.heap.size w w' := by
  have HC := Lib.hid (fun A c B ak x w1 h hn => hasT_any A c B ak x w1 h hn)
  have HF := Lib.hid (fun at_ w1 h1 => find_any A1 c1 l at_ w1 h1 ha hn1)
  have HGE := Lib.hid (fun at_ x h1 => @getE_pos l ha at_ x h1)
  have HT := Lib.hid (fun x w1 h kx ho hp => taken2_any A2 c2 xs x key ps Ap cp w1 h kx hn2 ho hp hnp hm)
  have HOK := Lib.hid ho
  have HPS := Lib.hid hp
  have HKO := Lib.hid hk
  have HE := Lib.hid h1
  have HX := Lib.hid h2
  have HN1 := Lib.hid hn1
  have HTL : Hid (∀ x : Ex, (takenR (xs.map BE.d) x key ps).length ≤ 100000) := Lib.hid (fun x => by have := takenR_le (xs.map BE.d) x key ps; rw [List.length_map] at this; omega)
  obtain ⟨R, hR⟩ : ∃ R, reachR l (xs.map BE.d) key ps (l.length + 1) [] ex = R := ⟨_, rfl⟩
  rw [hR]
  have HR := Lib.hid hR
  have HI := Lib.hid (fun n ak at_ h => @reachR_in l (xs.map BE.d) key ps n ak at_ h)
  have HNO := Lib.hid (fun n ak at_ h h' => @reachR_none l (xs.map BE.d) key ps n ak at_ h h')
  have HSO := Lib.hid (fun n ak at_ x h h' => @reachR_some l (xs.map BE.d) key ps n ak at_ x h h')
  unfold retS foundE at HF
  unfold enV at HT
  unfold rtV enV
  clear h1 ha hk hn1 h2 hn2 hR ho hp hnp hm
  go_enter Tryz.func51, Tryz.ntmps51
  go_upto_region 1 with fail
  refine name_world (C := fun w1 => Code.wp _ _ _ _ w1) ((w.alloc (.cells [.slice A1 l.length c1, .slice A2 xs.length c2].toArray 25)).alloc (.cells [.string key, .slice Ap ps.length cp].toArray 79)) ?_
  intro w1 hw1
  obtain ⟨u1, u2, hs0, hB0⟩ := S2.two_laid hw1
  have T_w1 := Lib.hid u1
  have E_w1 := Lib.hid u2
  have B_w1 := Lib.hid hB0
  have HZ1 := Lib.hid hs0
  clear hw1 u1 u2 hs0 hB0
  go_wp2_with fail
  go_loopg [1, 7] (l.length + 1) (fun g v v7 wr => ∃ (ak : List ByteArray) (at_ : ByteArray), ak.length + g = l.length + 1 ∧ v = .string at_ ∧ OwnT wr w1.heap.size v7 ak ∧ Asked l ak ∧ reachR l (xs.map BE.d) key ps g ak at_ = R ∧ Below w1.heap.size w1 wr)
  case atStart => exact ⟨[], ex, by simp, rfl, OwnG.nil _ _, Asked.nil l, HR.out, Below.refl _ _⟩
  case round =>
    obtain ⟨ak, at_, hkg, rfl, ho, has, hre, hb0⟩ := hrel
    obtain ⟨Av, cv, hv, hcv, hgl⟩ := OwnG.ret gT_len ho
    subst hv
    have O_wr := Lib.hid ho
    have B_wr := Lib.hid hb0
    have HG := Lib.hid hkg
    have HAS := Lib.hid has
    have HRE := Lib.hid hre
    have HGL := Lib.hid hgl
    clear ho hb0 has hre hgl
    cases gk with
    | zero => exact absurd HAS.out.len (by omega)
    | succ n =>
      have HAL : Hid (ak.length ≤ 100000) := Lib.hid (by have := HAS.out.len; have := HN1.out; omega)
      have HCC := Lib.hid (HC.out Av cv wr.heap.size ak at_ wr HGL.out (by have := HAL.out; omega))
      have HIN := Lib.hid (HI.out n ak at_)
      have HNN := Lib.hid (HNO.out n ak at_)
      have HSS := Lib.hid (fun x => HSO.out n ak at_ x)
      have HAD := Lib.hid (fun x h h' => @Asked.add l ak HAS.out at_ x h h')
      obtain ⟨hb, hhb⟩ : ∃ b, ak.any (fun a => decide (a = at_)) = b := ⟨_, rfl⟩
      rw [hhb] at HCC HIN HNN HSS HAD
      clear hkg hcv hhb HGL
      obtain ⟨na, hna⟩ : ∃ n, ak.length = n := ⟨_, rfl⟩
      rw [hna] at HCC HAL HG O_wr
      try rw [hna]
      have HNA := Lib.hid hna
      clear hna
      go_wp2_with fail
      refine HCC.out.mono ?_
      rintro e w2 ⟨rfl, hw⟩
      have hw := hw.symm
      subst hw
      clear HCC
      cases hb with
      | true =>
        have HV : Hid (R = []) := Lib.hid (by rw [← HRE.out]; exact HIN.out rfl)
        go_wp2_with fail
        go_ret
        exact ⟨_, rfl, by rw [HV.out]; exact OwnG.nil _ _, stepB B_w1.out B_wr.out⟩
      | false =>
        have T_wr := Lib.hid (T_w1.out.step B_wr.out)
        have E_wr := Lib.hid (E_w1.out.step B_wr.out)
        have r0 := T_wr.out.cell 0 rfl
        go_wp2_with fail
        refine (HF.out at_ _ (GL.step HE.out (stepB B_w1.out B_wr.out))).mono ?_
        rintro e w2 ⟨rfl, hb⟩
        have T_w2 := Lib.hid (T_wr.out.step hb)
        have E_w2 := Lib.hid (E_wr.out.step hb)
        have O_w2 := Lib.hid (OwnG.step O_wr.out hb)
        have B_w2 := Lib.hid (stepB B_wr.out hb)
        clear hb r0 T_wr E_wr O_wr B_wr
        obtain ⟨og, hog⟩ : ∃ o, getE l at_ = o := ⟨_, rfl⟩
        have HGX := Lib.hid (HGE.out at_)
        rw [hog] at HNN HSS HAD HGX
        try rw [hog]
        generalize posE l at_ = pos at *
        cases og with
        | none =>
          have HV : Hid (R = []) := Lib.hid (by rw [← HRE.out]; exact HNN.out (by trivial) (by trivial))
          clear hog
          go_wp2_with fail
          go_ret
          exact ⟨_, rfl, by rw [HV.out]; exact OwnG.nil _ _, stepB B_w1.out B_w2.out⟩
        | some x =>
          have HKX := Lib.hid (HKO.out x (getE_some hog).2)
          have hx := HGX.out x rfl
          have hsl := GL.step HE.out (stepB B_w1.out B_w2.out)
          obtain ⟨b, o, hA, hbB, hcl⟩ := EL.at_ hsl hx
          have HLD := Lib.hid (load_ex hcl)
          have j1 : (0 : Int) ≤ (pos : Int) := by omega
          have j2 : (pos : Int) < (l.length : Int) := by have := (List.getElem?_eq_some_iff.1 hx).1; omega
          subst hA
          have r0 := T_w2.out.cell 0 rfl
          clear hx hcl hbB hsl hog HGX
          go_upto_region 7 with first
            | (refine wpList_load_v (by rfl) 32 (.tmp 28) rfl ⟨b, o + pos * 3, none⟩ (by go_simp) _ HLD.out ?_)
            | (refine S2.wpList_store_all (by rfl) 32 (.tmp 10) (.tmp 29) rfl rfl w2.heap.size rfl (gE x) rfl 32 _ (BK.new w2 _ _) exSize rfl (gE_one _) ?_; intro w4 hM hP; have hb := hP.below (S2.below_new w2 _) (Nat.le_refl _); have B_w4 := Lib.hid (stepB B_w2.out hb); have X_w4 := Lib.hid hM; have O_w4 := Lib.hid (OwnG.step O_w2.out hb); have T_w4 := Lib.hid (T_w2.out.step hb); have E_w4 := Lib.hid (E_w2.out.step hb); have HOX := Lib.hid (OwnG.high O_w2.out (Nat.le_refl _)); clear hM hP hb)
          obtain ⟨q, hq⟩ : ∃ q, q = w2.heap.size := ⟨_, rfl⟩
          rw [← hq] at X_w4 HOX
          try rw [← hq]
          clear r0 HLD T_w2 E_w2 O_w2 B_w2 hq
          have r1 := T_w4.out.cell 1 rfl
          have HLX := Lib.hid (load_ex0 X_w4.out)
          have HLE4 := Lib.hid (S2.run_load_all E_w4.out Tryz.underlying79 rfl enSize)
          have HTX := Lib.hid (HT.out x w4 (HX.out.step (stepB B_w1.out B_w4.out)) HKX.out (HOK.out.step (stepB B_w1.out B_w4.out)) (GL.step HPS.out (stepB B_w1.out B_w4.out)))
          have HTLX := Lib.hid (HTL.out x)
          obtain ⟨tk, htk⟩ : ∃ t, takenR (xs.map BE.d) x key ps = t := ⟨_, rfl⟩
          have HSX := Lib.hid (HSS.out x (by trivial) rfl)
          rw [htk] at HTX HSX HTLX
          clear htk
          go_wp2_with first
            | (refine wpList_load_v (by rfl) 32 (.tmp 10) rfl ⟨q, 0, none⟩ (by go_simp) _ HLX.out ?_)
            | (refine wpList_load_v (by rfl) 79 (.tmp 5) rfl ⟨w.heap.size + 1, 0, none⟩ (by go_simp) _ HLE4.out ?_)
          refine HTX.out.mono ?_
          rintro e w5 ⟨vq, rfl, hq, hb⟩
          have O_w5 := Lib.hid (OwnG.step O_w4.out hb)
          have B_w5 := Lib.hid (stepB B_w4.out hb)
          have X_w5 := Lib.hid (X_w4.out.step hb)
          obtain ⟨Aq, cq, hvq, _⟩ := OwnG.ret gT_len hq
          subst hvq
          have HQ : Hid (OwnT w5 w.heap.size (.slice Aq tk.length cq) tk) := Lib.hid (OwnG.weak hq (stepB B_w1.out B_w4.out).size)
          clear hb hq r1 HLX HLE4 O_w4 B_w4 X_w4 E_w4 T_w4 HTX
          by_cases ht : tk = []
          · subst ht
            have HV : Hid (reachR l (xs.map BE.d) key ps n (ak ++ [at_]) x.alt = R) := Lib.hid (by rw [← HRE.out, HSX.out, if_pos rfl])
            have HAN := Lib.hid (HAD.out x rfl (by trivial))
            clear HQ
            have hz : (([] : List ByteArray).length : Int) = 0 := rfl
            go_wp2_with (at_builtin; go_must (refine wpList_plain rfl (fun K hK => ?_)); refine oper_appG (g := gT) (k := 1) (e := 9) (by decide) _ _ 45 45 rfl (.string ByteArray.empty) 16 Tryz.underlying45 strInfo9 rfl (by decide) w1.heap.size (.slice Av na cv) ak [at_] _ rfl (OwnG.step O_w5.out (S2.below_new w5 _)) rfl (srcG_one gT_len gT_one Tryz.underlying45 w5 at_) (by have := B_w5.out.size; simp; omega) (by have := HAL.out; have := HNA.out; simp; omega) ?_; intro v9 wa hown' hgr hof; refine hK _ _ ?_; clear hK K; have O_wa := Lib.hid hown'; have B_wa : Hid (Below w1.heap.size w1 wa) := Lib.hid (Below.grow (B := w1.heap.size) (stepB B_w5.out (S2.below_new w5 _)) (OwnG.step O_w5.out (S2.below_new w5 _)) hgr (by have := B_w5.out.size; simp; omega) (Nat.le_refl _)); have X_wa : Hid (BK 32 wa q (gE x)) := Lib.hid ((hgr.block q (by have := X_w5.out.lt; simp; omega) (fun e => HOX.out e.symm)).trans (X_w5.out.step (S2.below_new w5 _))); have x2 := X_wa.out.cell 2 rfl; clear hown' hgr hof)
            go_roundg n
            case measure => omega
            case rel => exact ⟨ak ++ [at_], x.alt, by have := HG.out; have := HNA.out; simp; omega, rfl, O_wa.out, HAN.out, HV.out, B_wa.out⟩
          · have HV : Hid (R = tk) := Lib.hid (by rw [← HRE.out, HSX.out, if_neg ht])
            have q7 : 0 < tk.length := List.length_pos_iff.2 ht
            clear ht
            go_wp2_with fail
            go_ret
            exact ⟨_, rfl, by rw [HV.out]; exact HQ.out, stepB B_w1.out B_w5.out⟩
set_option maxRecDepth 20000 in
set_option maxHeartbeats 8000000 in
theorem Route2_any (A1 : Option Addr) (c1 : Nat) (l : List Ex) (A2 : Option Addr) (c2 : Nat) (xs : List BE) (ex key : ByteArray) (ps : List PR) (Ap : Option Addr) (cp : Nat) (w : World) (h1 : EL w w.heap.size A1 l) (ha : AscE l) (hk : ∀ x ∈ l, KA x.kd) (hn1 : l.length ≤ 100000) (h2 : BI w w.heap.size A2 xs) (hn2 : xs.length ≤ 100000) (h3 : PL w w.heap.size Ap ps) (ho : S1.Okw w) (hnp : ps.length ≤ 4398046511104) (hm : ∀ y ∈ xs, y.d.ml.length ≤ 4398046511104) :
    Calls Tryz.prog 19 #[rtV A1 l.length c1 A2 xs.length c2, .string ex, .string key, .slice Ap ps.length cp] w (RetRu (routeR l (xs.map BE.d) ex key ps) w) := by
  have HK := Lib.hid (fun w1 => checkKey_any key w1)
  have HP := Lib.hid (fun w1 h => props_any Ap cp ps w1 h)
  have HD := Lib.hid (fun w1 => byDefault_any key w1)
  have HN : Hid (∀ w1, Calls Tryz.prog 24 #[.string ex] w1 fun e w' => e = .returned (.bool (nameR ex)) ∧ Below w1.heap.size w1 w') := Lib.hid (fun w1 => S1.tName_any ex w1)
  have HF := Lib.hid (fun w1 h1 => find_any A1 c1 l ex w1 h1 ha hn1)
  have HR := Lib.hid (fun w1 h1 h2 ho hp => reached2_any A1 c1 l A2 c2 xs ex key ps Ap cp w1 h1 ha hk hn1 h2 hn2 ho hp hnp hm)
  have HOK := Lib.hid ho
  have HRL : Hid ((reachR l (xs.map BE.d) key ps (l.length + 1) [] ex).length ≤ 1000000) := Lib.hid (by
    have h : ∀ n ak at_, (reachR l (xs.map BE.d) key ps n ak at_).length ≤ xs.length := by
      intro n
      induction n with
      | zero => intro ak at_; exact Nat.zero_le _
      | succ n ih =>
        intro ak at_
        unfold reachR
        split
        · exact Nat.zero_le _
        · split
          · exact Nat.zero_le _
          · split
            · exact ih _ _
            · have := takenR_le (xs.map BE.d) (by assumption) key ps
              rwa [List.length_map] at this
    have := h (l.length + 1) [] ex
    omega)
  have HE := Lib.hid h1
  have HX := Lib.hid h2
  have HPL := Lib.hid h3
  have q2 := nm_emp ex
  have q3 := eqL ex []
  have QR : Hid (routeR l (xs.map BE.d) ex key ps = if txR key ≠ 0 then ([], txR key) else if propsR ps ≠ 0 then ([], (propsR ps : Int)) else if ex = ⟨#[]⟩ then (if nameR key = true then [key] else [], 0) else if nameR ex = false then ([], 11) else ofQ (getE l ex) (reachR l (xs.map BE.d) key ps (l.length + 1) [] ex)) := Lib.hid rfl
  obtain ⟨Q, hQ⟩ : ∃ Q, routeR l (xs.map BE.d) ex key ps = Q := ⟨_, rfl⟩
  rw [hQ] at QR ⊢
  generalize (if nameR key = true then [key] else []) = dk at HD QR
  generalize reachR l (xs.map BE.d) key ps (l.length + 1) [] ex = rr at HR QR HRL
  generalize nameR ex = bn at HN QR
  generalize txR key = tk at HK QR
  generalize propsR ps = pr at HP QR
  obtain ⟨be, hbe⟩ : ∃ b, decide (ex = ⟨#[]⟩) = b := ⟨_, rfl⟩
  have q3 : (ex.toList == ([] : List UInt8)) = be := by rw [← hbe]; exact q3
  rw [hbe] at q2
  have HBE := Lib.hid hbe
  unfold retS foundE at HF
  obtain ⟨og, hog⟩ : ∃ o, getE l ex = o := ⟨_, rfl⟩
  rw [hog] at HF QR
  generalize posE l ex = pos at HF
  unfold enV rtV at HR
  unfold rtV
  clear h1 ha hk hn1 h2 hn2 h3 hQ hog ho hnp hm
  go_enter Tryz.func19, Tryz.ntmps19
  go_upto_region 1 with fail
  refine name_world (C := fun w1 => Code.wp _ _ _ _ w1) (w.alloc (.cells [.slice A1 l.length c1, .slice A2 xs.length c2].toArray 25)) ?_
  intro w1 hw1
  have hb : Below w.heap.size w w1 := by rw [hw1]; exact S2.below_new w _
  have T_w1 : Hid (BK 25 w1 w.heap.size [.slice A1 l.length c1, .slice A2 xs.length c2]) := Lib.hid (by rw [hw1]; exact BK.new w _ _)
  have B_w1 := Lib.hid hb
  clear hw1 hb
  go_wp2_with fail
  refine (HK.out _).mono ?_
  rintro e w2 ⟨rfl, hw⟩
  have hw := hw.symm
  subst hw
  clear HK
  by_cases ht : tk = 0
  · subst ht
    go_wp2_with fail
    refine (HP.out _ (GL.step HPL.out B_w1.out)).mono ?_
    rintro e w2 ⟨rfl, hb⟩
    have T_w2 := Lib.hid (T_w1.out.step hb)
    have B_w2 := Lib.hid (stepB B_w1.out hb)
    clear hb HP T_w1 B_w1
    by_cases hp : pr = 0
    · subst hp
      cases be with
      | true =>
        have HQ : Hid (Q = (dk, 0)) := Lib.hid (by rw [QR.out, if_neg (by simp), if_neg (by simp), if_pos (of_decide_eq_true HBE.out)])
        go_wp2_with fail
        refine (HD.out _).mono ?_
        rintro e w3 ⟨v, rfl, ho, hb⟩
        have O_w3 := Lib.hid (OwnG.weak ho B_w2.out.size)
        have B_w3 := Lib.hid (stepB B_w2.out hb)
        clear ho hb
        go_wp2_with fail
        go_ret2
        exact RetRu.out HQ.out O_w3.out B_w3.out
      | false =>
        have QR2 : Hid (Q = if bn = false then (([], 11) : List ByteArray × Int) else ofQ og rr) := Lib.hid (by rw [QR.out, if_neg (by simp), if_neg (by simp), if_neg (of_decide_eq_false HBE.out)])
        clear QR
        go_wp2_with fail
        refine (HN.out _).mono ?_
        rintro e w3 ⟨rfl, hb⟩
        have T_w3 := Lib.hid (T_w2.out.step hb)
        have B_w3 := Lib.hid (stepB B_w2.out hb)
        clear hb T_w2 B_w2
        cases bn with
        | false =>
          have HQ : Hid (Q = ([], 11)) := Lib.hid (by rw [QR2.out, if_pos rfl])
          go_wp2_with fail
          go_ret2
          exact RetRu.out HQ.out (OwnG.nil _ _) B_w3.out
        | true =>
          have r0 := T_w3.out.cell 0 rfl
          go_wp2_with fail
          refine (HF.out _ (GL.step HE.out B_w3.out)).mono ?_
          rintro e w4 ⟨rfl, hb⟩
          have T_w4 := Lib.hid (T_w3.out.step hb)
          have B_w4 := Lib.hid (stepB B_w3.out hb)
          clear hb T_w3 B_w3 r0
          cases og with
          | none =>
            have HQ : Hid (Q = ([], 8)) := Lib.hid (by rw [QR2.out, if_neg (by decide)]; rfl)
            go_wp2_with fail
            go_ret2
            exact RetRu.out HQ.out (OwnG.nil _ _) B_w4.out
          | some x =>
            have HQ : Hid (Q = (compR (sortR rr), 0)) := Lib.hid (by rw [QR2.out, if_neg (by decide)]; rfl)
            have HLT := Lib.hid (S2.run_load_all T_w4.out Tryz.underlying25 rfl rtSize)
            clear QR2
            go_wp2_with (refine wpList_load_v (by rfl) 25 (.tmp 4) rfl ⟨w.heap.size, 0, none⟩ (by go_simp) _ HLT.out ?_)
            refine (HR.out _ (GL.step HE.out B_w4.out) (HX.out.step B_w4.out) (HOK.out.step B_w4.out) (GL.step HPL.out B_w4.out)).mono ?_
            rintro e w5 ⟨v, rfl, ho, hb⟩
            have HS := Lib.hid (sort_own ho HRL.out)
            have B_w5 := Lib.hid (stepB B_w4.out hb)
            have HSZ := Lib.hid B_w4.out.size
            clear ho hb T_w4 HLT HR
            go_wp2_with fail
            refine HS.out.mono ?_
            rintro e w6 ⟨rfl, ho, hb⟩
            have B_w6 := Lib.hid (B_w5.out.trans (hb.mono HSZ.out))
            have HCM := Lib.hid (compact_own ho (by rw [sortR_len]; exact HRL.out))
            clear ho hb HS B_w5
            go_wp2_with fail
            refine HCM.out.mono ?_
            rintro e w7 ⟨v7, rfl, ho, hb⟩
            have B_w7 := Lib.hid (B_w6.out.trans (hb.mono HSZ.out))
            have O_w7 := Lib.hid (OwnG.weak ho HSZ.out)
            clear ho hb HCM B_w6
            go_wp2_with fail
            go_ret2
            exact RetRu.out HQ.out O_w7.out B_w7.out
    · have HQ : Hid (Q = ([], (pr : Int))) := Lib.hid (by rw [QR.out, if_neg (by simp), if_pos hp])
      have q5 : ((pr : Int) != 0) = true := bne_iff_ne.2 (by omega)
      clear hp
      go_wp2_with fail
      go_ret2
      exact RetRu.out HQ.out (OwnG.nil _ _) B_w2.out
  · have HQ : Hid (Q = ([], tk)) := Lib.hid (by rw [QR.out, if_pos ht])
    have q5 : (tk != 0) = true := bne_iff_ne.2 ht
    clear ht
    go_wp2_with fail
    go_ret2
    exact RetRu.out HQ.out (OwnG.nil _ _) B_w1.out
end Go.Proofs.YtjkhfifnfgchgabGreatDoor
namespace Go.Proofs.YtjkhfifnfgchgabGreatDoor
open Go.RowKit
open S2 (BK Put)

theorem fB_in {b : Bd} : ∀ {r : List Bd} {k : Nat}, b ∈ r → 0 ≤ fB b r k
  | x :: r, k, h => by
    show 0 ≤ (if x = b then (k : Int) else fB b r (k + 1))
    split
    · omega
    · rename_i hne
      rcases List.mem_cons.1 h with rfl | h
      · exact absurd rfl hne
      · exact fB_in h
theorem fB_out {b : Bd} : ∀ {r : List Bd} {k : Nat}, b ∉ r → fB b r k = -1
  | [], _, _ => rfl
  | x :: r, k, h => by
    show (if x = b then (k : Int) else fB b r (k + 1)) = -1
    rw [if_neg (fun e => h (by rw [e]; exact List.mem_cons_self)), fB_out (fun hm => h (List.mem_cons_of_mem _ hm))]
theorem fB_app {b : Bd} : ∀ {r : List Bd} {k : Nat}, b ∉ r → fB b (r ++ [b]) k = ((k + r.length : Nat) : Int)
  | [], k, _ => by show (if b = b then (k : Int) else _) = _; rw [if_pos rfl]; rfl
  | x :: r, k, h => by
    show (if x = b then (k : Int) else fB b (r ++ [b]) (k + 1)) = _
    rw [if_neg (fun e => h (by rw [e]; exact List.mem_cons_self)), fB_app (fun hm => h (List.mem_cons_of_mem _ hm)), List.length_cons]
    congr 1
    omega
theorem unb_app {bs : List Bd} {b : Bd} (h : b ∉ bs) : unbR (bs ++ [b]) b = (bs, 0) := by
  have e := fB_app (k := 0) h
  rw [Nat.zero_add] at e
  unfold unbR
  rw [e, if_neg (by omega), Int.toNat_natCast, List.eraseIdx_append_of_length_le (Nat.le_refl _), Nat.sub_self]
  simp
theorem bind_in {l : List Ex} {bs : List Bd} {b : Bd} (h : b ∈ bs) (h0 : (bindR l bs b).2 = 0) : bindR l bs b = (bs, 0) := by
  by_cases h1 : bdR l b = 0
  · exact bindR_same h1 (fB_in h)
  · rw [bindR_err h1] at h0; exact absurd h0 h1
theorem bind_out {l : List Ex} {bs : List Bd} {b : Bd} (h : b ∉ bs) (h0 : (bindR l bs b).2 = 0) : bindR l bs b = (bs ++ [b], 0) := by
  by_cases h1 : bdR l b = 0
  · have hf : fB b bs 0 < 0 := by rw [fB_out h]; decide
    by_cases hl : 256 ≤ bs.length
    · rw [bindR_full h1 hf hl] at h0; exact absurd h0 (by decide)
    · exact bindR_new h1 hf (by omega)
  · rw [bindR_err h1] at h0; exact absurd h0 h1
theorem decl_in {l : List Ex} {bs : List Bd} (hv : VR l bs) {x : Ex} (h : x ∈ l) : declR l x = (l, 0) := declR_same (hv.ex x h) (asc_get hv.asc h)
theorem there_iff {xs : List BE} {b : Bd} : (xs.any fun x => decide (x.d = b)) = true ↔ b ∈ xs.map BE.d := by
  rw [List.any_eq_true]
  constructor
  · rintro ⟨x, hx, he⟩
    have := of_decide_eq_true he
    exact this ▸ List.mem_map_of_mem hx
  · intro h
    obtain ⟨x, hx, he⟩ := List.mem_map.1 h
    exact ⟨x, hx, decide_eq_true he⟩
theorem there_no {xs : List BE} {b : Bd} (h : (xs.any fun x => decide (x.d = b)) = false) : b ∉ xs.map BE.d := fun hm => by rw [there_iff.2 hm] at h; cases h
theorem any_take {α : Type} {xs : List α} {k : Nat} {x : α} {p : α → Bool} (hx : xs[k]? = some x) : (xs.take (k + 1)).any p = ((xs.take k).any p || p x) := by
  rw [List.take_add_one, hx, List.any_append]
  simp
theorem KA_of {k : Int} (h : kdR k = true) : KA k := by
  unfold kdR at h
  unfold KA
  simp only [Bool.and_eq_true, decide_eq_true_eq] at h
  omega
theorem ex_kd {x : Ex} (h : exR x = 0) : KA x.kd := by
  unfold exR at h
  refine KA_of ?_
  cases hk : kdR x.kd with
  | true => rfl
  | false =>
    rw [hk] at h
    exfalso
    revert h
    cases nameR x.nm <;> simp [exE]
theorem VR.kinds {l : List Ex} {bs : List Bd} (hv : VR l bs) : ∀ x ∈ l, KA x.kd := fun x hx => ex_kd (hv.ex x hx)

/-! ### Who is reached -/
theorem takenR_mem {bs : List Bd} {x : Ex} {key : ByteArray} {ps : List PR} {q : ByteArray} (h : q ∈ takenR bs x key ps) : ∃ b ∈ bs, b.qu = q := by
  obtain ⟨b, hb, e⟩ := List.mem_map.1 h
  exact ⟨b, (List.mem_filter.1 hb).1, e⟩
theorem reachR_mem {l : List Ex} {bs : List Bd} {key : ByteArray} {ps : List PR} {q : ByteArray} : ∀ {n : Nat} {asked : List ByteArray} {at_ : ByteArray}, q ∈ reachR l bs key ps n asked at_ → ∃ b ∈ bs, b.qu = q
  | 0, _, _, h => by cases h
  | n + 1, asked, at_, h => by
    unfold reachR at h
    split at h
    · cases h
    · split at h
      · cases h
      · split at h
        · exact reachR_mem h
        · exact takenR_mem h
theorem sortR_mem {xs : List ByteArray} {q : ByteArray} : q ∈ sortR xs ↔ q ∈ xs := by
  unfold sortR
  rw [List.mem_map]
  constructor
  · rintro ⟨a, ha, rfl⟩
    rw [List.mem_mergeSort] at ha
    obtain ⟨b, hb, rfl⟩ := List.mem_map.1 ha
    rwa [bs_dl]
  · intro h
    exact ⟨dl q, List.mem_mergeSort.2 (List.mem_map_of_mem h), bs_dl q⟩
theorem compact_sub {α : Type} [Inhabited α] [DecidableEq α] {zs : List α} {x : α} (h : x ∈ Lib.compact zs) : x ∈ zs := by
  unfold Lib.compact Lib.compactUpTo at h
  obtain ⟨j, hj, rfl⟩ := List.mem_map.1 h
  have hlt := List.mem_range.1 (List.mem_filter.1 hj).1
  simp [hlt]
theorem compR_sub {xs : List ByteArray} {q : ByteArray} (h : q ∈ compR xs) : q ∈ xs := by
  unfold compR at h
  obtain ⟨a, ha, rfl⟩ := List.mem_map.1 h
  obtain ⟨b, hb, rfl⟩ := List.mem_map.1 (compact_sub ha)
  rwa [bs_dl]
theorem route_mem {l : List Ex} {bs : List Bd} {ex key : ByteArray} {ps : List PR} {q : ByteArray} (he : ex ≠ ⟨#[]⟩) (h : q ∈ (routeR l bs ex key ps).1) : ∃ b ∈ bs, b.qu = q := by
  unfold routeR at h
  split at h
  · cases h
  · split at h
    · cases h
    · split at h
      · cases h
      · split at h
        · cases h
        · exact reachR_mem (sortR_mem.1 (compR_sub h))
theorem route_off {l : List Ex} {bs : List Bd} {ex key : ByteArray} {ps : List PR} {q : ByteArray} (he : ex ≠ ⟨#[]⟩) : (routeR l (dropR bs q) ex key ps).1.any (fun a => decide (a = q)) = false := by
  rw [List.any_eq_false]
  intro a ha hd
  have := of_decide_eq_true hd
  subst this
  obtain ⟨b, hb, e⟩ := route_mem he ha
  have := (List.mem_filter.1 hb).2
  rw [e] at this
  simp at this
theorem route_len {l : List Ex} {bs : List Bd} {ex key : ByteArray} {ps : List PR} (hl : bs.length ≤ 1000) : (routeR l bs ex key ps).1.length ≤ 1000 := by
  have h0 : ∀ n ak at_, (reachR l bs key ps n ak at_).length ≤ bs.length := by
    intro n
    induction n with
    | zero => intro ak at_; exact Nat.zero_le _
    | succ n ih =>
      intro ak at_
      unfold reachR
      split
      · exact Nat.zero_le _
      · split
        · exact Nat.zero_le _
        · split
          · exact ih _ _
          · exact takenR_le bs (by assumption) key ps
  unfold routeR
  split
  · simp
  · split
    · simp
    · split
      · split <;> simp
      · split
        · simp
        · split
          · simp
          · have h1 := Lib.compact_length_le ((sortR (reachR l bs key ps (l.length + 1) [] ex)).map dl)
            rw [List.length_map, sortR_len] at h1
            have := h0 (l.length + 1) [] ex
            unfold compR
            rw [List.length_map]
            omega
theorem PL.none (w : World) (B : Nat) : PL w B none [] := fun h => by cases h
end Go.Proofs.YtjkhfifnfgchgabGreatDoor
namespace Go.Proofs.YtjkhfifnfgchgabGreatDoor
open Go.RowKit
open S2 (BK Put)

/-! ### The order of the bindings -/
theorem takenR_rev (bs : List Bd) (x : Ex) (key : ByteArray) (ps : List PR) : takenR bs.reverse x key ps = (takenR bs x key ps).reverse := by
  unfold takenR
  rw [List.filter_reverse, List.map_reverse]
theorem reachR_rev {l : List Ex} {bs : List Bd} {key : ByteArray} {ps : List PR} : ∀ n ak at_, reachR l bs.reverse key ps n ak at_ = (reachR l bs key ps n ak at_).reverse
  | 0, _, _ => rfl
  | n + 1, ak, at_ => by
    unfold reachR
    split
    · rfl
    · split
      · rfl
      · rename_i x _
        rw [takenR_rev]
        by_cases h : takenR bs x key ps = []
        · rw [if_pos (by rw [h]; rfl), if_pos h]
          exact reachR_rev n _ _
        · rw [if_neg (by rwa [List.reverse_eq_nil_iff]), if_neg h]
theorem le_trans8 (a b c : List UInt8) (h1 : decide (a ≤ b) = true) (h2 : decide (b ≤ c) = true) : decide (a ≤ c) = true := decide_eq_true (List.le_trans (of_decide_eq_true h1) (of_decide_eq_true h2))
theorem le_total8 (a b : List UInt8) : (decide (a ≤ b) || decide (b ≤ a)) = true := by
  rw [Bool.or_eq_true, decide_eq_true_eq, decide_eq_true_eq]
  exact List.le_total a b
theorem sorted8 (l : List (List UInt8)) : (l.mergeSort fun x y => decide (x ≤ y)).Pairwise (fun a b => decide (a ≤ b) = true) := List.pairwise_mergeSort le_trans8 le_total8 l
theorem sortR_rev (xs : List ByteArray) : sortR xs.reverse = sortR xs := by
  unfold sortR
  rw [List.map_reverse]
  congr 1
  refine List.Perm.eq_of_pairwise (le := fun a b => decide (a ≤ b) = true) (fun a b _ _ h1 h2 => List.le_antisymm (of_decide_eq_true h1) (of_decide_eq_true h2)) (sorted8 _) (sorted8 _) ?_
  exact (List.mergeSort_perm _ _).trans ((List.reverse_perm _).trans (List.mergeSort_perm _ _).symm)
theorem routeR_rev (l : List Ex) (bs : List Bd) (ex key : ByteArray) (ps : List PR) : routeR l bs.reverse ex key ps = routeR l bs ex key ps := by
  unfold routeR
  rw [reachR_rev, sortR_rev]

/-! ### What is reached ascends -/
theorem keeps_lt {d : List (List UInt8)} (hs : d.Pairwise (fun a b => decide (a ≤ b) = true)) {i j : Nat} (hij : i < j) (hj : j < d.length) (hk : Lib.keeps d.toArray j = true) : d.toArray[i]! < d.toArray[j]! := by
  have hi : i < d.length := by omega
  have hp : j - 1 < d.length := by omega
  have e1 : d.toArray[i]! = d[i] := by simp [hi]
  have e2 : d.toArray[j]! = d[j] := by simp [hj]
  have e3 : d.toArray[j - 1]! = d[j - 1] := by simp [hp]
  have h1 : d[i] ≤ d[j - 1] := by
    by_cases he : i = j - 1
    · subst he; exact List.le_refl _
    · exact of_decide_eq_true (List.pairwise_iff_getElem.1 hs i (j - 1) hi hp (by omega))
  have h2 : d[j - 1] ≤ d[j] := of_decide_eq_true (List.pairwise_iff_getElem.1 hs (j - 1) j hp hj (by omega))
  have h3 := of_decide_eq_true hk
  rw [e1, e2]
  rw [e2, e3] at h3
  rcases h3 with h3 | h3
  · omega
  · have h4 : d[j - 1] < d[j] := by
      rcases List.le_iff_lt_or_eq.1 h2 with h | h
      · exact h
      · exact absurd h.symm h3
    exact Std.lt_of_le_of_lt h1 h4
theorem compact_asc {d : List (List UInt8)} (hs : d.Pairwise (fun a b => decide (a ≤ b) = true)) : (Lib.compact d).Pairwise (· < ·) := by
  unfold Lib.compact Lib.compactUpTo
  rw [List.pairwise_map]
  have h0 : ((List.range d.length).filter (Lib.keeps d.toArray)).Pairwise (fun a b => a < b ∧ b < d.length ∧ Lib.keeps d.toArray b = true) := by
    have h1 : ((List.range d.length).filter (Lib.keeps d.toArray)).Pairwise (· < ·) := List.Pairwise.filter _ List.pairwise_lt_range
    refine List.Pairwise.imp_of_mem ?_ h1
    intro a b _ hb hlt
    exact ⟨hlt, List.mem_range.1 (List.mem_filter.1 hb).1, (List.mem_filter.1 hb).2⟩
  exact h0.imp fun ⟨a, b, c⟩ => keeps_lt hs a b c
theorem compR_asc (xs : List ByteArray) : ((compR (sortR xs)).map dl).Pairwise (· < ·) := by
  unfold compR sortR
  rw [map_dlbs, map_dlbs]
  exact compact_asc (sorted8 _)
theorem route_asc (l : List Ex) (bs : List Bd) (ex key : ByteArray) (ps : List PR) : ((routeR l bs ex key ps).1.map dl).Pairwise (· < ·) := by
  unfold routeR
  split
  · exact List.Pairwise.nil
  · split
    · exact List.Pairwise.nil
    · split
      · split
        · exact List.pairwise_singleton _ _
        · exact List.Pairwise.nil
      · split
        · exact List.Pairwise.nil
        · split
          · exact List.Pairwise.nil
          · exact compR_asc _
theorem bd_qu {l : List Ex} {b : Bd} (h : bdR l b = 0) : nameR b.qu = true := by
  cases hq : nameR b.qu with
  | true => rfl
  | false =>
    unfold bdR at h
    rw [hq] at h
    exfalso
    revert h
    cases nameR b.ex <;> simp
theorem route_name {l : List Ex} {bs : List Bd} (hv : VR l bs) {ex key : ByteArray} {ps : List PR} {q : ByteArray} (h : q ∈ (routeR l bs ex key ps).1) : nameR q = true := by
  by_cases he : ex = ⟨#[]⟩
  · unfold routeR at h
    rw [if_pos he] at h
    split at h
    · cases h
    · split at h
      · cases h
      · split at h
        · rename_i hk
          rw [List.mem_singleton] at h
          rw [h]
          exact hk
        · cases h
  · obtain ⟨b, hb, rfl⟩ := route_mem he h
    exact bd_qu (hv.bd b hb)
theorem route_err {l : List Ex} {bs : List Bd} {ex key : ByteArray} {ps : List PR} (h : (routeR l bs ex key ps).2 ≠ 0) : (routeR l bs ex key ps).1 = [] := by
  unfold routeR at h ⊢
  split
  · rfl
  · rename_i h1
    rw [if_neg h1] at h
    split
    · rfl
    · rename_i h2
      rw [if_neg h2] at h
      split
      · rename_i h3
        rw [if_pos h3] at h
        exact absurd rfl h
      · rename_i h3
        rw [if_neg h3] at h
        split
        · rfl
        · rename_i h4
          rw [if_neg h4] at h
          split
          · rfl
          · rename_i x hx
            rw [hx] at h
            exact absurd rfl h

/-! ### Without the alternate -/
def aloneE (t : ByteArray) (x : Ex) : Ex := if x.nm = t then ⟨x.nm, x.kd, ⟨#[]⟩⟩ else x
theorem alone_nm (t : ByteArray) (x : Ex) : (aloneE t x).nm = x.nm := by unfold aloneE; split <;> rfl
theorem alone_kd (t : ByteArray) (x : Ex) : (aloneE t x).kd = x.kd := by unfold aloneE; split <;> rfl
theorem getE_alone (t : ByteArray) (l : List Ex) (n : ByteArray) : getE (l.map (aloneE t)) n = (getE l n).map (aloneE t) := by
  unfold getE
  rw [List.find?_map]
  congr 2
  funext x
  simp [alone_nm]
theorem takenR_alone (t : ByteArray) (bs : List Bd) (x : Ex) (key : ByteArray) (ps : List PR) : takenR bs (aloneE t x) key ps = takenR bs x key ps := by
  unfold takenR tkB
  rw [alone_nm, alone_kd]
theorem route_alone {l : List Ex} {bs : List Bd} (hne : getE l ⟨#[]⟩ = none) (ex key : ByteArray) (ps : List PR) :
    (routeR (l.map (aloneE ex)) bs ex key ps).2 = (routeR l bs ex key ps).2 ∧ ((routeR (l.map (aloneE ex)) bs ex key ps).1 = [] ∨ (routeR (l.map (aloneE ex)) bs ex key ps).1 = (routeR l bs ex key ps).1) := by
  unfold routeR
  by_cases h1 : txR key ≠ 0
  · rw [if_pos h1, if_pos h1]; exact ⟨rfl, Or.inl rfl⟩
  · rw [if_neg h1, if_neg h1]
    by_cases h2 : propsR ps ≠ 0
    · rw [if_pos h2, if_pos h2]; exact ⟨rfl, Or.inl rfl⟩
    · rw [if_neg h2, if_neg h2]
      by_cases h3 : ex = ⟨#[]⟩
      · rw [if_pos h3, if_pos h3]; exact ⟨rfl, Or.inr rfl⟩
      · rw [if_neg h3, if_neg h3]
        by_cases h4 : nameR ex = false
        · rw [if_pos h4, if_pos h4]; exact ⟨rfl, Or.inl rfl⟩
        · rw [if_neg h4, if_neg h4, getE_alone]
          cases hg : getE l ex with
          | none => exact ⟨rfl, Or.inl rfl⟩
          | some x =>
            have hxn := (getE_some hg).1
            refine ⟨rfl, ?_⟩
            show compR (sortR (reachR (l.map (aloneE ex)) bs key ps ((l.map (aloneE ex)).length + 1) [] ex)) = [] ∨ compR (sortR (reachR (l.map (aloneE ex)) bs key ps ((l.map (aloneE ex)).length + 1) [] ex)) = compR (sortR (reachR l bs key ps (l.length + 1) [] ex))
            rw [List.length_map, reachR_some (x := aloneE ex x) rfl (by rw [getE_alone, hg]; rfl), reachR_some rfl hg, takenR_alone]
            by_cases ht : takenR bs x key ps = []
            · rw [if_pos ht]
              left
              have ha : (aloneE ex x).alt = ⟨#[]⟩ := by unfold aloneE; rw [if_pos hxn]
              rw [ha]
              have hz : reachR (l.map (aloneE ex)) bs key ps l.length ([] ++ [ex]) ⟨#[]⟩ = [] := by
                cases l.length with
                | zero => rfl
                | succ n =>
                  refine reachR_none ?_ (by rw [getE_alone, hne]; rfl)
                  simp [h3]
              rw [hz, sortR_nil, compR_nil]
            · rw [if_neg ht, if_neg ht]
              exact Or.inr rfl
theorem asc_alone (t : ByteArray) {l : List Ex} (ha : AscE l) : AscE (l.map (aloneE t)) := fun i j x y hx hy hij => by
  rw [List.getElem?_map] at hx hy
  cases hi : l[i]? with
  | none => rw [hi] at hx; cases hx
  | some x' =>
    cases hj : l[j]? with
    | none => rw [hj] at hy; cases hy
    | some y' =>
      rw [hi] at hx
      rw [hj] at hy
      simp only [Option.map_some, Option.some.injEq] at hx hy
      rw [← hx, ← hy, alone_nm, alone_nm]
      exact ha i j x' y' hi hj hij
theorem kinds_alone (t : ByteArray) {l : List Ex} (hk : ∀ x ∈ l, KA x.kd) : ∀ x ∈ l.map (aloneE t), KA x.kd := fun x hx => by
  obtain ⟨y, hy, rfl⟩ := List.mem_map.1 hx
  rw [alone_kd]
  exact hk y hy
end Go.Proofs.YtjkhfifnfgchgabGreatDoor
namespace Go.Proofs.YtjkhfifnfgchgabGreatDoor
open Go.RowKit
open S2 (BK Put get_ops exec_load)

theorem wp_load2 {P : Program} {o : Oper} {a : Act} {w : World} {K : Act → World → Prop} {Q : Exit → Act → World → Prop} (ty : TypeId) (x : Operand) (ho : o.op = .load ty x)
    (p : Addr) (hx : a.eval x = .pointer (some p)) (v : Value) (hl : (loadVar ty p).run P w = .ok v w) (h : K (a.put o.dst v) w) : o.wp P a w K Q := by
  unfold Oper.wp execOp
  simp only [ho, hx, Instr.loadAt, Instr.sureAddr, Sem.run_bind, Sem.run_pure, Result.andThen_ok, hl]
  exact h
theorem wp_store_row2 {P : Program} {o : Oper} {a : Act} {w : World} {K : Act → World → Prop} {Q : Exit → Act → World → Prop} (ty : TypeId) (x y : Operand) (ho : o.op = .store ty x y) (hd : o.dst = none) (g off : Nat) (hx : a.eval x = .pointer (some ⟨g, off, none⟩))
    (v : Value) (hy : a.eval y = v) (T : TypeId) (vs cs : List Value) (hM : BK T w g vs) (hv : v.cells = cs.toArray) (hn : cs.length = 5) (hi : (P.info? ty).map (·.size) = some 5) (hf : off + 5 ≤ vs.length) (h1 : ∀ u ∈ cs, u.oneCell' = true)
    (h : ∀ w', BK T w' g (putC vs off cs) → Put g w w' → (∀ b, b ≠ g → w'.heap[b]? = w.heap[b]?) → K a w') : o.wp P a w K Q :=
  S2.wp_store ty x y ho hd _ hx v hy _ (run_store_part w g off 5 T ty vs cs v hv hn hi hM hf h1) (h _ (MT.put hM off cs) (S2.put_row w g _) (fun b hb => setRow_other w g b _ hb))
theorem putC_w5 (vs cs : List Value) (h : cs.length = vs.length) : putC vs 0 cs = cs := by unfold putC; rw [Nat.zero_add, h, List.drop_length]; simp
/-- the first i and the last i elements have changed places -/
def Rv (xs ys : List BE) (i : Nat) : Prop := ∀ k, k < xs.length → ys[k]? = if k < i ∨ xs.length ≤ k + i then xs[xs.length - 1 - k]? else xs[k]?
theorem Rv.zero (xs : List BE) : Rv xs xs 0 := fun k hk => by rw [if_neg (by omega)]
theorem Rv.done {xs ys : List BE} {i : Nat} (h : Rv xs ys i) (hl : ys.length = xs.length) (hi : xs.length ≤ 2 * i + 1) : ys = xs.reverse := by
  refine List.ext_getElem? (fun k => ?_)
  by_cases hk : k < xs.length
  · rw [h k hk, List.getElem?_reverse hk]
    split
    · rfl
    · have : xs.length - 1 - k = k := by omega
      rw [this]
  · rw [List.getElem?_eq_none (by omega), List.getElem?_eq_none (by rw [List.length_reverse]; omega)]
theorem Rv.swap {xs ys : List BE} {i j : Nat} {yi yj : BE} (h : Rv xs ys i) (hl : ys.length = xs.length) (hij : i < j) (hj : j + i + 1 = xs.length) (hyi : ys[i]? = some yi) (hyj : ys[j]? = some yj) : Rv xs ((ys.set i yj).set j yi) (i + 1) := fun k hk => by
  have h1 := h i (by omega)
  have h2 := h j (by omega)
  rw [if_neg (by omega), hyi] at h1
  rw [if_neg (by omega), hyj] at h2
  by_cases e1 : k = j
  · subst e1
    rw [List.getElem?_set_self (by rw [List.length_set]; omega), if_pos (by omega), h1]
    congr 1
    omega
  · rw [List.getElem?_set_ne (fun e => e1 e.symm)]
    by_cases e2 : k = i
    · subst e2
      rw [List.getElem?_set_self (by omega), if_pos (by omega), h2]
      congr 1
      omega
    · rw [List.getElem?_set_ne (fun e => e2 e.symm), h k hk]
      by_cases e3 : k < i ∨ xs.length ≤ k + i
      · rw [if_pos e3, if_pos (by omega)]
      · rw [if_neg e3, if_neg (by omega)]
set_option maxHeartbeats 1000000 in
theorem cloneB_any (A : Option Addr) (c : Nat) (xs : List BE) (w : World) (hsl : GL gB 5 w w.heap.size A xs) (hn : xs.length ≤ 1000000) :
    Calls Tryz.prog 22 #[.slice A xs.length c] w fun e w' => ∃ v, e = .returned v ∧ OwnG 35 gB 5 w' w.heap.size v xs ∧ Below w.heap.size w w' := by
  have q22 : ∀ (w : World) (a : Option Addr) (n c n' c' : Nat), (binOp .eql 23 (.slice a n c) (.slice none n' c')).run Tryz.prog w = .ok (.bool a.isNone) w := fun w a n c n' c' => Lib.run_eql_slice_nil w _ _ a n c n' c' Tryz.underlying23
  cases A with
  | none =>
    have h0 : xs = [] := by
      rcases Nat.eq_zero_or_pos xs.length with h | h
      · exact List.eq_nil_of_length_eq_zero h
      · obtain ⟨b, o, e, _⟩ := hsl h; cases e
    subst h0
    clear hsl hn
    go_enter Tryz.func22, Tryz.ntmps22
    go_wp2
    go_ret
    exact ⟨_, rfl, OwnG.nil _ _, Below.refl _ _⟩
  | some a =>
    have hsl2 := hsl.step ((Below.refl _ _).alloc (Nat.le_refl _) (.cells #[] 35))
    have hb0 := (Below.refl w.heap.size w).alloc (Nat.le_refl _) (.cells #[] 35)
    have HS := Lib.hid hsl2
    clear hsl hsl2
    go_enter Tryz.func22, Tryz.ntmps22
    go_wp2_with (at_builtin; go_must (refine wpList_appG (g := gB) (k := 5) (e := 35) (by decide) _ rfl _ _ 23 23 rfl (.agg #[.string ByteArray.empty, .string ByteArray.empty, .string ByteArray.empty, .bool false, .slice none 0 0]) 80 Tryz.underlying23 bdInfo rfl (by decide) w.heap.size _ [] xs rfl (OwnG.made w 0 #[] w.heap.size (Nat.le_refl _) (by decide) rfl) _ rfl (GL.src gB_len gB_one HS.out Tryz.underlying23 c) w hb0 (by simp) (by simp; omega) ?_); intro v' w' hown' hb' hsz')
    go_ret
    exact ⟨_, rfl, hown', hb'⟩
set_option maxRecDepth 20000 in
set_option maxHeartbeats 8000000 in
theorem reverseB_any (g cap : Nat) (xs : List BE) (sp : List Value) (W : World) (hg : BK 35 W g (xs.flatMap gB ++ sp)) (hn : xs.length ≤ 1000000) (hcap : xs.length ≤ cap) (hcs : (xs.flatMap gB ++ sp).length = cap * 5) :
    Calls Tryz.prog 23 #[.slice (some ⟨g, 0, none⟩) xs.length cap] W fun e w' => e = .returned (.tuple #[]) ∧ BK 35 w' g (xs.reverse.flatMap gB ++ sp) ∧ Kg g W w' := by
  have HN := Lib.hid hn
  have HCAP := Lib.hid hcap
  have hspl : xs.length * 5 + sp.length = cap * 5 := by rw [List.length_append, flat_len gB_len] at hcs; exact hcs
  have HSP := Lib.hid hspl
  have HBK := Lib.hid hg
  have HKG := Lib.hid (Kg.refl hg.lt)
  clear hg hn hcap hcs hspl
  go_enter Tryz.func23, Tryz.ntmps23
  go_wp2_with fail
  go_loopg [2, 3] xs.length (fun gk v2 v3 wr => ∃ (i : Nat) (jj : Int) (ys : List BE), v2 = .int .i64 i ∧ v3 = .int .i64 jj ∧ jj = (xs.length : Int) - 1 - i ∧ i + gk = xs.length ∧ ys.length = xs.length ∧ Rv xs ys i ∧ BK 35 wr g (ys.flatMap gB ++ sp) ∧ Kg g W wr)
  case atStart => exact ⟨0, (xs.length : Int) - 1, xs, rfl, by rw [wrap64_id _ (by omega) (by have := HN.out; omega)], by omega, by omega, rfl, Rv.zero xs, HBK.out, HKG.out⟩
  case round =>
    obtain ⟨i, jj, ys, rfl, rfl, hjj, hm, hyl, hrv, hbk, hkg⟩ := hrel
    have HJ := Lib.hid hjj
    have HM := Lib.hid hm
    have HYL := Lib.hid hyl
    have HRV := Lib.hid hrv
    have R_wr := Lib.hid hbk
    have G_wr := Lib.hid hkg
    clear hyl hrv hbk hkg HBK HKG
    by_cases hij : (i : Int) < jj
    case neg =>
      have e3 : decide ((i : Int) < jj) = false := decide_eq_false hij
      have HD : Hid (ys = xs.reverse) := Lib.hid (HRV.out.done HYL.out (by omega))
      clear hjj hm hij
      go_wp2_with fail
      go_end0
      exact ⟨rfl, by rw [← HD.out]; exact R_wr.out, G_wr.out⟩
    obtain ⟨j, rfl⟩ : ∃ j : Nat, jj = j := ⟨jj.toNat, by omega⟩
    cases gk with
    | zero => exact absurd hij (by omega)
    | succ n =>
      have hlt : i < j := by omega
      have hji : j + i + 1 = xs.length := by omega
      have e3 : decide ((i : Int) < (j : Int)) = true := decide_eq_true (by omega)
      obtain ⟨yi, hyi⟩ : ∃ y, ys[i]? = some y := ⟨_, List.getElem?_eq_getElem (by have := HYL.out; omega)⟩
      obtain ⟨yj, hyj⟩ : ∃ y, ys[j]? = some y := ⟨_, List.getElem?_eq_getElem (by have := HYL.out; omega)⟩
      have HJJ : Hid ((j : Int) = (xs.length : Int) - 1 - i) := HJ
      have HIJ : Hid (i < j ∧ j < xs.length ∧ xs.length ≤ 1000000) := Lib.hid ⟨hlt, by omega, HN.out⟩
      have HCS : Hid (xs.length * 5 + sp.length = cap * 5) := HSP
      have HRV2 := Lib.hid (HRV.out.swap HYL.out hlt hji hyi hyj)
      have HS1 : Hid (putC (ys.flatMap gB ++ sp) (i * 5) (gB yj) = (ys.set i yj).flatMap gB ++ sp) := Lib.hid (by have := put_atG gB_len hyi yj 0 (gB yj) sp (by rw [putC_w5 _ _ (by rw [gB_len, gB_len])]) (by rw [gB_len]; omega); simpa using this)
      have HS2 : Hid (putC ((ys.set i yj).flatMap gB ++ sp) (j * 5) (gB yi) = ((ys.set i yj).set j yi).flatMap gB ++ sp) := Lib.hid (by have := put_atG gB_len (xs := ys.set i yj) (j := j) (x := yj) (by rw [List.getElem?_set_ne (by omega)]; exact hyj) yi 0 (gB yi) sp (by rw [putC_w5 _ _ (by rw [gB_len, gB_len])]) (by rw [gB_len]; omega); simpa using this)
      have j1 : (0 : Int) ≤ (i : Int) := by omega
      have j2 : (i : Int) < (xs.length : Int) := by omega
      have j3 : (0 : Int) ≤ (j : Int) := by omega
      have j4 : (j : Int) < (xs.length : Int) := by omega
      go_upto_region 3 with fail
      obtain ⟨d1, hd1⟩ : ∃ d1, d1 = World.drew wr := ⟨_, rfl⟩
      have hbD : Below wr.heap.size wr d1 := by rw [hd1]; exact (Below.refl _ _).drew
      have R_d1 := Lib.hid (R_wr.out.step hbD)
      have G_d1 := Lib.hid (G_wr.out.step hbD)
      have HLI := Lib.hid (load_bd (o := i * 5) (row_atG gB_len R_d1.out hyi))
      have HLJ := Lib.hid (load_bd (o := j * 5) (row_atG gB_len R_d1.out hyj))
      have HWD := Lib.hid hd1
      clear hjj hm hij hlt hji hyi hyj hd1 hbD e3 R_wr G_wr HRV HJ
      refine wp_region_held_drew (S := fun _ => True) (by kernel_rfl) trivial (fun hHeld => ?_)
      rw [← HWD.out]
      refine wpAnyH_take (i := 0) (v := .slice (some ⟨g, 0, none⟩) xs.length cap) (get_ops _ _ _ rfl) (by kernel_rfl) (by kernel_rfl) (by kernel_rfl) (fun _ _ _ h => h) (Or.inl ⟨by rfl, fun wS hSw => by go_simp⟩) hHeld ?_
      try simp only [Act.put, List.setIfInBounds_toArray, List.set_cons_zero, List.set_cons_succ]
      refine wpAnyH_take (i := 1) (v := .int .i64 i) (get_ops _ _ _ rfl) (by kernel_rfl) (by kernel_rfl) (by kernel_rfl) (fun _ _ _ h => h) (Or.inl ⟨by rfl, fun wS hSw => by go_simp⟩) hHeld ?_
      try simp only [Act.put, List.setIfInBounds_toArray, List.set_cons_zero, List.set_cons_succ]
      refine wpAnyH_take (i := 2) (v := .slice (some ⟨g, 0, none⟩) xs.length cap) (get_ops _ _ _ rfl) (by kernel_rfl) (by kernel_rfl) (by kernel_rfl) (fun _ _ _ h => h) (Or.inl ⟨by rfl, fun wS hSw => by go_simp⟩) hHeld ?_
      try simp only [Act.put, List.setIfInBounds_toArray, List.set_cons_zero, List.set_cons_succ]
      refine wpAnyH_take (i := 3) (v := .int .i64 j) (get_ops _ _ _ rfl) (by kernel_rfl) (by kernel_rfl) (by kernel_rfl) (fun _ _ _ h => h) (Or.inl ⟨by rfl, fun wS hSw => by go_simp⟩) hHeld ?_
      try simp only [Act.put, List.setIfInBounds_toArray, List.set_cons_zero, List.set_cons_succ]
      refine wpAnyH_take (i := 4) (v := .slice (some ⟨g, 0, none⟩) xs.length cap) (get_ops _ _ _ rfl) (by kernel_rfl) (by kernel_rfl) (by kernel_rfl) (fun _ _ _ h => h) (Or.inl ⟨by rfl, fun wS hSw => by go_simp⟩) hHeld ?_
      try simp only [Act.put, List.setIfInBounds_toArray, List.set_cons_zero, List.set_cons_succ]
      refine wpAnyH_take (i := 5) (v := .int .i64 j) (get_ops _ _ _ rfl) (by kernel_rfl) (by kernel_rfl) (by kernel_rfl) (fun _ _ _ h => h) (Or.inl ⟨by rfl, fun wS hSw => by go_simp⟩) hHeld ?_
      try simp only [Act.put, List.setIfInBounds_toArray, List.set_cons_zero, List.set_cons_succ]
      refine wpAnyH_take (i := 6) (v := .pointer (some ⟨g, j * 5, none⟩)) (get_ops _ _ _ rfl) (by kernel_rfl) (by kernel_rfl) (by kernel_rfl) (fun _ _ _ h => h) (Or.inl ⟨by rfl, fun wS hSw => by go_simp⟩) hHeld ?_
      try simp only [Act.put, List.setIfInBounds_toArray, List.set_cons_zero, List.set_cons_succ]
      refine wpAnyH_take (i := 8) (v := .slice (some ⟨g, 0, none⟩) xs.length cap) (get_ops _ _ _ rfl) (by kernel_rfl) (by kernel_rfl) (by kernel_rfl) (fun _ _ _ h => h) (Or.inl ⟨by rfl, fun wS hSw => by go_simp⟩) hHeld ?_
      try simp only [Act.put, List.setIfInBounds_toArray, List.set_cons_zero, List.set_cons_succ]
      refine wpAnyH_take (i := 9) (v := .int .i64 i) (get_ops _ _ _ rfl) (by kernel_rfl) (by kernel_rfl) (by kernel_rfl) (fun _ _ _ h => h) (Or.inl ⟨by rfl, fun wS hSw => by go_simp⟩) hHeld ?_
      try simp only [Act.put, List.setIfInBounds_toArray, List.set_cons_zero, List.set_cons_succ]
      refine wpAnyH_take (i := 10) (v := .pointer (some ⟨g, i * 5, none⟩)) (get_ops _ _ _ rfl) (by kernel_rfl) (by kernel_rfl) (by kernel_rfl) (fun _ _ _ h => h) (Or.inl ⟨by rfl, fun wS hSw => by go_simp⟩) hHeld ?_
      try simp only [Act.put, List.setIfInBounds_toArray, List.set_cons_zero, List.set_cons_succ]
      refine wpAnyH_ready (rs := [7, 11]) (by kernel_rfl) (by simp) ?_
      refine (AllReadyH.cons (get_ops _ _ _ rfl) (fun K hK => ?_) (AllReadyH.cons (get_ops _ _ _ rfl) (fun K hK => ?_) AllReadyH.nil))
      · refine wp_load2 35 _ rfl ⟨g, j * 5, none⟩ (by go_simp) (bdV yj) HLJ.out ?_
        refine hK.out _ _ trivial (fun hHeld => ?_)
        clear hK K
        try simp only [Act.put, List.setIfInBounds_toArray, List.set_cons_zero, List.set_cons_succ]
        refine wpAnyH_ready (rs := [11]) (by kernel_rfl) (by simp) ?_
        refine (AllReadyH.cons (get_ops _ _ _ rfl) (fun K hK => ?_) AllReadyH.nil)
        refine wp_load2 35 _ rfl ⟨g, i * 5, none⟩ (by go_simp) (bdV yi) HLI.out ?_
        refine hK.out _ _ trivial (fun hHeld => ?_)
        clear hK K
        try simp only [Act.put, List.setIfInBounds_toArray, List.set_cons_zero, List.set_cons_succ]
        refine wpAnyH_take (i := 12) (v := .pointer (some ⟨g, i * 5, none⟩)) (get_ops _ _ _ rfl) (by kernel_rfl) (by kernel_rfl) (by kernel_rfl) (fun _ _ _ h => h) (Or.inl ⟨by rfl, fun wS hSw => by go_simp⟩) hHeld ?_
        try simp only [Act.put, List.setIfInBounds_toArray, List.set_cons_zero, List.set_cons_succ]
        refine wpAnyH_ready (rs := [13]) (by kernel_rfl) (by simp) ?_
        refine (AllReadyH.cons (get_ops _ _ _ rfl) (fun K hK => ?_) AllReadyH.nil)
        refine wp_store_row2 35 _ _ rfl rfl g (i * 5) (by go_simp) (bdV yj) (by first | rfl | go_simp) 35 (ys.flatMap gB ++ sp) (gB yj) R_d1.out rfl rfl bdSize (by have := HCS.out; have := HYL.out; simp only [List.length_append, flat_len gB_len] at *; omega) (gB_one _) ?_
        intro d2 hM hP hO
        have R_d2 : Hid (BK 35 d2 g ((ys.set i yj).flatMap gB ++ sp)) := Lib.hid (by rw [HS1.out] at hM; exact hM)
        have G_d2 := Lib.hid (Kg.put G_d1.out hO hP)
        clear hM hP hO
        refine hK.out _ _ trivial (fun hHeld => ?_)
        clear hK K
        try simp only [Act.put, List.setIfInBounds_toArray, List.set_cons_zero, List.set_cons_succ]
        refine wpAnyH_take (i := 14) (v := .pointer (some ⟨g, j * 5, none⟩)) (get_ops _ _ _ rfl) (by kernel_rfl) (by kernel_rfl) (by kernel_rfl) (fun _ _ _ h => h) (Or.inl ⟨by rfl, fun wS hSw => by go_simp⟩) hHeld ?_
        try simp only [Act.put, List.setIfInBounds_toArray, List.set_cons_zero, List.set_cons_succ]
        refine wpAnyH_ready (rs := [15]) (by kernel_rfl) (by simp) ?_
        refine (AllReadyH.cons (get_ops _ _ _ rfl) (fun K hK => ?_) AllReadyH.nil)
        refine wp_store_row2 35 _ _ rfl rfl g (j * 5) (by go_simp) (bdV yi) (by first | rfl | go_simp) 35 ((ys.set i yj).flatMap gB ++ sp) (gB yi) R_d2.out rfl rfl bdSize (by have := HCS.out; have := HYL.out; simp only [List.length_append, flat_len gB_len, List.length_set] at *; omega) (gB_one _) ?_
        intro d3 hM hP hO
        have R_d3 : Hid (BK 35 d3 g (((ys.set i yj).set j yi).flatMap gB ++ sp)) := Lib.hid (by rw [HS2.out] at hM; exact hM)
        have G_d3 := Lib.hid (Kg.put G_d2.out hO hP)
        clear hM hP hO
        refine hK.out _ _ trivial (fun hHeld => ?_)
        clear hK K
        try simp only [Act.put, List.setIfInBounds_toArray, List.set_cons_zero, List.set_cons_succ]
        refine wpAnyH_done (by kernel_rfl) ?_ _
        clear hHeld
        go_wp2_with fail
        go_roundg n
        case measure => omega
        case rel => exact ⟨i + 1, (j : Int) - 1, (ys.set i yj).set j yi, nxt i (by have := HIJ.out; omega), by rw [wrap64_id _ (by omega) (by have := HIJ.out; omega)], by have := HJJ.out; push_cast; omega, by have := HM.out; omega, by rw [List.length_set, List.length_set]; exact HYL.out, HRV2.out, R_d3.out, G_d3.out⟩
      · refine wp_load2 35 _ rfl ⟨g, i * 5, none⟩ (by go_simp) (bdV yi) HLI.out ?_
        refine hK.out _ _ trivial (fun hHeld => ?_)
        clear hK K
        try simp only [Act.put, List.setIfInBounds_toArray, List.set_cons_zero, List.set_cons_succ]
        refine wpAnyH_ready (rs := [7]) (by kernel_rfl) (by simp) ?_
        refine (AllReadyH.cons (get_ops _ _ _ rfl) (fun K hK => ?_) AllReadyH.nil)
        refine wp_load2 35 _ rfl ⟨g, j * 5, none⟩ (by go_simp) (bdV yj) HLJ.out ?_
        refine hK.out _ _ trivial (fun hHeld => ?_)
        clear hK K
        try simp only [Act.put, List.setIfInBounds_toArray, List.set_cons_zero, List.set_cons_succ]
        refine wpAnyH_take (i := 12) (v := .pointer (some ⟨g, i * 5, none⟩)) (get_ops _ _ _ rfl) (by kernel_rfl) (by kernel_rfl) (by kernel_rfl) (fun _ _ _ h => h) (Or.inl ⟨by rfl, fun wS hSw => by go_simp⟩) hHeld ?_
        try simp only [Act.put, List.setIfInBounds_toArray, List.set_cons_zero, List.set_cons_succ]
        refine wpAnyH_ready (rs := [13]) (by kernel_rfl) (by simp) ?_
        refine (AllReadyH.cons (get_ops _ _ _ rfl) (fun K hK => ?_) AllReadyH.nil)
        refine wp_store_row2 35 _ _ rfl rfl g (i * 5) (by go_simp) (bdV yj) (by first | rfl | go_simp) 35 (ys.flatMap gB ++ sp) (gB yj) R_d1.out rfl rfl bdSize (by have := HCS.out; have := HYL.out; simp only [List.length_append, flat_len gB_len] at *; omega) (gB_one _) ?_
        intro d2 hM hP hO
        have R_d2 : Hid (BK 35 d2 g ((ys.set i yj).flatMap gB ++ sp)) := Lib.hid (by rw [HS1.out] at hM; exact hM)
        have G_d2 := Lib.hid (Kg.put G_d1.out hO hP)
        clear hM hP hO
        refine hK.out _ _ trivial (fun hHeld => ?_)
        clear hK K
        try simp only [Act.put, List.setIfInBounds_toArray, List.set_cons_zero, List.set_cons_succ]
        refine wpAnyH_take (i := 14) (v := .pointer (some ⟨g, j * 5, none⟩)) (get_ops _ _ _ rfl) (by kernel_rfl) (by kernel_rfl) (by kernel_rfl) (fun _ _ _ h => h) (Or.inl ⟨by rfl, fun wS hSw => by go_simp⟩) hHeld ?_
        try simp only [Act.put, List.setIfInBounds_toArray, List.set_cons_zero, List.set_cons_succ]
        refine wpAnyH_ready (rs := [15]) (by kernel_rfl) (by simp) ?_
        refine (AllReadyH.cons (get_ops _ _ _ rfl) (fun K hK => ?_) AllReadyH.nil)
        refine wp_store_row2 35 _ _ rfl rfl g (j * 5) (by go_simp) (bdV yi) (by first | rfl | go_simp) 35 ((ys.set i yj).flatMap gB ++ sp) (gB yi) R_d2.out rfl rfl bdSize (by have := HCS.out; have := HYL.out; simp only [List.length_append, flat_len gB_len, List.length_set] at *; omega) (gB_one _) ?_
        intro d3 hM hP hO
        have R_d3 : Hid (BK 35 d3 g (((ys.set i yj).set j yi).flatMap gB ++ sp)) := Lib.hid (by rw [HS2.out] at hM; exact hM)
        have G_d3 := Lib.hid (Kg.put G_d2.out hO hP)
        clear hM hP hO
        refine hK.out _ _ trivial (fun hHeld => ?_)
        clear hK K
        try simp only [Act.put, List.setIfInBounds_toArray, List.set_cons_zero, List.set_cons_succ]
        refine wpAnyH_done (by kernel_rfl) ?_ _
        clear hHeld
        go_wp2_with fail
        go_roundg n
        case measure => omega
        case rel => exact ⟨i + 1, (j : Int) - 1, (ys.set i yj).set j yi, nxt i (by have := HIJ.out; omega), by rw [wrap64_id _ (by omega) (by have := HIJ.out; omega)], by have := HJJ.out; push_cast; omega, by have := HM.out; omega, by rw [List.length_set, List.length_set]; exact HYL.out, HRV2.out, R_d3.out, G_d3.out⟩
end Go.Proofs.YtjkhfifnfgchgabGreatDoor
namespace Go.Proofs.YtjkhfifnfgchgabGreatDoor
open Go.RowKit
open S2 (BK Put get_ops exec_load)

theorem bless {a b : List UInt8} (h : a < b) : Op.bytesLess a b = true := by
  induction a generalizing b with
  | nil =>
    cases b with
    | nil => exact absurd h (List.lt_irrefl _)
    | cons _ _ => rfl
  | cons x r ih =>
    cases b with
    | nil => exact absurd h (by simp)
    | cons y s =>
      rw [List.cons_lt_cons_iff] at h
      simp only [Op.bytesLess, Bool.or_eq_true, Bool.and_eq_true, decide_eq_true_eq, beq_iff_eq]
      rcases h with h | ⟨rfl, h⟩
      · exact Or.inl h
      · exact Or.inr ⟨rfl, ih h⟩
theorem route_lt {l : List Ex} {bs : List Bd} {ex key : ByteArray} {ps : List PR} {i j : Nat} {x y : ByteArray} (hx : (routeR l bs ex key ps).1[i]? = some x) (hy : (routeR l bs ex key ps).1[j]? = some y) (hij : i < j) : ltS x y = true := by
  have h := route_asc l bs ex key ps
  have hi := (List.getElem?_eq_some_iff.1 hx).1
  have hj := (List.getElem?_eq_some_iff.1 hy).1
  have h2 := List.pairwise_iff_getElem.1 h i j (by rw [List.length_map]; exact hi) (by rw [List.length_map]; exact hj) hij
  rw [List.getElem_map, List.getElem_map, (List.getElem?_eq_some_iff.1 hx).2, (List.getElem?_eq_some_iff.1 hy).2] at h2
  exact bless h2
/-- a row of one's own, turned: all else is as it was -/
structure Turn (v : Value) (B : Nat) (w w' : World) : Prop where
  keep : ∀ b, b < w.heap.size → v.ownBlock ≠ some b → w'.heap[b]? = w.heap[b]?
  below : ∀ w0, Below B w0 w → Below B w0 w'
set_option maxHeartbeats 2000000 in
theorem reverseO_any (v : Value) (B : Nat) (xs : List BE) (w : World) (h : OwnG 35 gB 5 w B v xs) (hn : xs.length ≤ 1000000) :
    Calls Tryz.prog 23 #[v] w fun e w' => e = .returned (.tuple #[]) ∧ OwnG 35 gB 5 w' B v xs.reverse ∧ Turn v B w w' := by
  rcases own_rowG h with ⟨rfl, rfl⟩ | ⟨q, cap, sp, rfl, hB, hbk, hnc, hcm, hl⟩
  · have HD : Hid (Turn (.slice none 0 0) B w w) := Lib.hid ⟨fun _ _ _ => rfl, fun _ h => h⟩
    clear h hn
    have e3 : decide ((0 : Int) < -1) = false := by decide
    go_enter Tryz.func23, Tryz.ntmps23
    go_wp2_with fail
    go_loopg [2, 3] 0 (fun gk v2 v3 wr => v2 = .int .i64 0 ∧ v3 = .int .i64 (-1) ∧ wr = w)
    case atStart => exact ⟨rfl, rfl, rfl⟩
    case round =>
      obtain ⟨rfl, rfl, rfl⟩ := hrel
      go_wp2_with fail
      go_end0
      exact ⟨rfl, OwnG.nil _ _, HD.out⟩
  · refine (reverseB_any q cap xs sp w hbk hn hnc hl).mono ?_
    rintro e w' ⟨rfl, hb, hk⟩
    refine ⟨rfl, ?_, ?_⟩
    · have := row_ownG (q := q) (cap := cap) (xs := xs.reverse) (sp := sp) gB_len hB hb (by rw [List.length_reverse]; exact hnc) hcm (by rw [List.length_append, flat_len gB_len] at hl ⊢; rw [List.length_reverse]; exact hl)
      rw [List.length_reverse] at this
      exact this
    · exact ⟨fun b h1 h2 => hk.keep b h1 (fun e => h2 (by rw [e]; rfl)), fun w0 h1 => hk.below B w0 h1 hB⟩
end Go.Proofs.YtjkhfifnfgchgabGreatDoor
