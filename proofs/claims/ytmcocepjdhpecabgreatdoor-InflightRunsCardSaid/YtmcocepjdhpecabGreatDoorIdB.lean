/-
  What the specification of the pools answers where it makes lists: with, Free, Take; and its Check. Conditions: the pool reads as data; few elements.
-/
import Derived.Test.YtmcocepjdhpecabGreatDoorIdA
namespace Go.Proofs.YtmcocepjdhpecabGreatDoor.S2
open Go.RowKit

theorem infoI : (Tryz.prog.info? 3).map (fun i => (i.zero, i.size, i.bytes)) = some (some (.int .i64 0), 1, 8) := by kernel_rfl
theorem wpList_appI1 {ops : Array Oper} {rest : List Oper} {o : Oper} {a : Act} {Q : Exit → Act → World → Prop} (wr : World) (hgd : o.guard = none) (s x : Operand) (ho : o.op = .call { callee := .builtin .append, args := #[s, x], argTypes := #[24, 24] })
    (B : Nat) (v : Value) (xs : List Int) (y : Int) (hs : a.eval s = v) (hown : Own 3 iv wr B v xs) (hx : a.eval x = .slice (some ⟨wr.heap.size, 0, none⟩) 1 1) (w0 : World) (hb : Below B w0 wr) (hB : B ≤ wr.heap.size)
    (hn : xs.length ≤ 1099511627776) (h : ∀ v' w', Own 3 iv w' B v' (xs ++ [y]) → Below B w0 w' → B ≤ w'.heap.size → wpList Tryz.prog ops Q rest (a.put o.dst v') w') : wpList Tryz.prog ops Q (o :: rest) a (wr.alloc (.cells #[.int .i64 y] 3)) :=
  wpList_app _ hgd s x 24 24 ho (.int .i64 0) 8 Tryz.underlying24 infoI rfl (by decide) B v xs [y] hs (hown.alloc _) _ hx 1 (src_one Tryz.underlying24 wr y _ rfl rfl) w0 (hb.alloc hB _) (by simp; omega) (by simp; omega) h
theorem wpList_appI {ops : Array Oper} {rest : List Oper} {o : Oper} {a : Act} {Q : Exit → Act → World → Prop} (wr : World) (hgd : o.guard = none) (s x : Operand) (ho : o.op = .call { callee := .builtin .append, args := #[s, x], argTypes := #[24, 24] })
    (B : Nat) (v : Value) (xs ys : List Int) (hs : a.eval s = v) (hown : Own 3 iv wr B v xs) (A2 : Option Addr) (c2 : Nat) (hx : a.eval x = .slice A2 ys.length c2) (B2 : Nat) (hys : IL wr B2 A2 ys) (w0 : World) (hb : Below B w0 wr) (hB : B ≤ wr.heap.size)
    (hn : xs.length + ys.length ≤ 1099511627776) (h : ∀ v' w', Own 3 iv w' B v' (xs ++ ys) → Below B w0 w' → B ≤ w'.heap.size → wpList Tryz.prog ops Q rest (a.put o.dst v') w') : wpList Tryz.prog ops Q (o :: rest) a wr :=
  wpList_app _ hgd s x 24 24 ho (.int .i64 0) 8 Tryz.underlying24 infoI rfl (by decide) B v xs ys hs hown _ hx ys.length (hys.src Tryz.underlying24 iv_one c2) w0 hb hB (by omega) h

theorem elemI : Tryz.prog.elem 24 = 3 := by kernel_rfl
theorem undI : Tryz.prog.underlying 24 = some (.slice (Tryz.prog.elem 24)) := by rw [elemI]; exact Tryz.underlying24
theorem sizeI (w : World) : (sizeOf (Tryz.prog.elem 24)).run Tryz.prog w = .ok 1 w := by
  obtain ⟨i, hi, hz, hz1, hz2⟩ := info_parts infoI
  rw [elemI]
  simp [sizeOf, typeInfo, hi, hz1]
theorem cutI_addr {w : World} {B : Nat} {A : Option Addr} {xs : List Int} (h : IL w B A xs) {k m : Nat} (hk : k ≤ xs.length) (hm : k < xs.length → m ≠ k) :
    IL w B (if m = k then A else A.map (·.add (k * 1))) (xs.drop k) := fun hn => by
  rw [List.length_drop] at hn
  obtain ⟨b, o, e, hb, hcell⟩ := h (by omega)
  rw [if_neg (hm (by omega)), e]
  refine ⟨b, o + k, ?_, hb, fun j x hx => ?_⟩
  · simp only [Option.map_some, Addr.add, Nat.mul_one]
    split
    · next h0 => subst h0; rfl
    · rfl
  · rw [List.getElem?_drop] at hx
    rw [Nat.add_assoc]
    exact hcell _ x hx
theorem sliceI (A : Option Addr) (c : Nat) (xs : List Int) (k : Nat) (hk : k ≤ xs.length) (hc : xs.length ≤ c) :
    ∃ A2, (∀ w, (Instr.slice 24 (.slice A xs.length c) (some (.int .i64 k)) none none).run Tryz.prog w = .ok (.slice A2 (xs.drop k).length (c - k)) w) ∧ ∀ w B, IL w B A xs → IL w B A2 (xs.drop k) := by
  refine ⟨if c = k then A else A.map (·.add (k * 1)), fun w => ?_, fun w B h => cutI_addr h hk (fun _ => by omega)⟩
  rw [run_slice_l (P := Tryz.prog) w 24 A xs.length c undI .i64 k (by omega) (by omega), sizeI, List.length_drop]
  simp [Result.andThen, sliced]

/-- a list that a call answers -/
def RetIs (X : List Int) (W : World) (e : Ending) (w' : World) : Prop := ∃ v, e = .returned v ∧ Own 3 iv w' W.heap.size v X ∧ Below W.heap.size W w'

theorem insI_drop {X : List Int} {k : Nat} {x n : Int} (hx : X[k]? = some x) (h : x < n) (hp : insI X n = X.take k ++ insI (X.drop k) n) : insI X n = X.take (k + 1) ++ insI (X.drop (k + 1)) n := by
  rw [hp, dropI hx]
  conv => lhs; rhs; unfold insI
  rw [if_pos h]
  have : X.take (k + 1) = X.take k ++ [x] := by rw [List.take_add_one, hx]; rfl
  rw [this, List.append_assoc]
  rfl
theorem takeS {X : List Int} {k : Nat} {x : Int} (hx : X[k]? = some x) : X.take k ++ [x] = X.take (k + 1) := by rw [List.take_add_one, hx]; rfl

set_option maxRecDepth 20000 in
set_option maxHeartbeats 2000000 in
theorem rWith_any (A : Option Addr) (c : Nat) (X : List Int) (n : Int) (w : World) (hsl : IL w w.heap.size A X) (hc : X.length ≤ c) (hX : X.length ≤ 1000000) :
    Calls Tryz.prog 62 #[.slice A X.length c, .int .i64 n] w (RetIs (insI X n) w) := by
  have HS := Lib.hid hsl
  have HC := Lib.hid hc
  clear hsl hc
  obtain ⟨R, hR⟩ : ∃ R, insI X n = R := ⟨_, rfl⟩
  rw [hR]
  have HR := Lib.hid hR
  clear hR
  go_enter Tryz.func62, Tryz.ntmps62
  go_wp2
  go_loopg [5, 6] X.length (fun g u5 v wr => ∃ k : Nat, k + g = X.length ∧ v = .int .i64 k ∧ R = X.take k ++ insI (X.drop k) n ∧ Own 3 iv wr w.heap.size u5 (X.take k) ∧ Below w.heap.size w wr)
  case atStart => exact ⟨0, by omega, rfl, by rw [List.drop_zero, List.take_zero]; exact HR.out.symm, Own.nil _ _, Below.refl _ _⟩
  case round =>
    obtain ⟨k, hkg, rfl, hrel, hown, hb0⟩ := hrel
    have HREL := Lib.hid hrel
    have HG := Lib.hid hkg
    have HO := Lib.hid hown
    have HB := Lib.hid hb0
    have hBs := hb0.size
    have hkl : (X.take k).length ≤ 1000000 := by rw [List.length_take]; omega
    obtain ⟨A2, hsr, hscl⟩ := sliceI A c X k (by omega) HC.out
    have hdl : (X.drop k).length ≤ 1000000 := by rw [List.length_drop]; omega
    obtain ⟨D, hD⟩ : ∃ D, X.drop k = D := ⟨_, rfl⟩
    rw [hD] at hsr hdl hscl
    have HSR := Lib.hid hsr
    have HCL := Lib.hid (fun w0 => hscl w0 w.heap.size)
    have HDD := Lib.hid hD
    clear hrel hown hsr hscl hD
    have hkl2 : X.length - k ≤ 1000000 := by omega
    cases gk with
    | zero =>
      obtain rfl : k = X.length := by omega
      have HF : Hid (R = X.take X.length ++ [n] ++ D) := Lib.hid (by rw [HREL.out, ← HDD.out, List.drop_length]; simp [insI])
      clear hkg hb0
      go_wp2_with first
          | (at_builtin; refine wpList_appI1 wr rfl _ _ rfl w.heap.size u5 _ n rfl HO.out rfl w HB.out hBs (by omega) ?_; intro v1 w1 hown1 hb1 hB1; have hs1 := HSR.out w1; have HC1 := Lib.hid ((HS.out.below hb1)); have HO1 := Lib.hid hown1; have HB1 := Lib.hid hb1; clear hown1 hb1)
          | (at_builtin; go_must (refine wpList_appI _ rfl _ _ rfl w.heap.size _ _ D rfl HO1.out A2 _ rfl w.heap.size (HCL.out _ HC1.out) w HB1.out hB1 (by simp; omega) ?_); intro v2 w2 hown2 hb2 hB2)
      go_ret
      rw [HF.out]
      exact ⟨_, rfl, hown2, hb2⟩
    | succ g =>
      have hlt : k < X.length := by omega
      have e3 : decide ((k : Int) < (X.length : Int)) = true := decide_eq_true (by omega)
      obtain ⟨x, hx⟩ : ∃ x, X[k]? = some x := ⟨_, List.getElem?_eq_getElem hlt⟩
      obtain ⟨b, o, hA, hbB, kv⟩ := IL.at_ (HS.out.step hb0) hx
      subst hA
      have j1 : (0 : Int) ≤ (k : Int) := by omega
      have j2 : (k : Int) < (X.length : Int) := by omega
      have HX := Lib.hid hx
      clear hx hkg hlt hbB hb0
      by_cases hxn : x < n
      · have hb : decide (x < n) = true := decide_eq_true hxn
        have HF : Hid (R = X.take (k + 1) ++ insI (X.drop (k + 1)) n) := Lib.hid (by
          have h0 := HREL.out
          rw [dropI HX.out] at h0
          rw [h0]
          conv => lhs; rhs; unfold insI
          rw [if_pos hxn, ← takeS HX.out, List.append_assoc]
          rfl)
        clear hxn HSR HCL
        go_wp2_with first
          | (at_builtin; refine wpList_appI1 wr rfl _ _ rfl w.heap.size u5 (X.take k) x rfl HO.out rfl w HB.out hBs (by omega) ?_; intro v1 w1 hown1 hb1 hB1)
        rw [takeS HX.out] at hown1
        go_roundg g
        case measure => omega
        case rel => exact ⟨k + 1, by have := HG.out; omega, rfl, HF.out, hown1, hb1⟩
      · have hb : decide (x < n) = false := decide_eq_false hxn
        have HF : Hid (R = X.take k ++ [n] ++ D) := Lib.hid (by
          have h0 := HREL.out
          rw [dropI HX.out] at h0
          rw [h0, ← HDD.out]
          conv => lhs; rhs; unfold insI
          rw [if_neg hxn, dropI HX.out]
          simp)
        clear hxn
        go_wp2_with first
          | (at_builtin; refine wpList_appI1 wr rfl _ _ rfl w.heap.size u5 _ n rfl HO.out rfl w HB.out hBs (by omega) ?_; intro v1 w1 hown1 hb1 hB1; have hs1 := HSR.out w1; have HC1 := Lib.hid ((HS.out.below hb1)); have HO1 := Lib.hid hown1; have HB1 := Lib.hid hb1; clear hown1 hb1)
          | (at_builtin; go_must (refine wpList_appI _ rfl _ _ rfl w.heap.size _ _ D rfl HO1.out A2 _ rfl w.heap.size (HCL.out _ HC1.out) w HB1.out hB1 (by simp; omega) ?_); intro v2 w2 hown2 hb2 hB2)
        go_ret
        rw [HF.out]
        exact ⟨_, rfl, hown2, hb2⟩

theorem delI_take {X : List Int} {k : Nat} {x n : Int} (hx : X[k]? = some x) : delI (X.take (k + 1)) n = if x ≠ n then delI (X.take k) n ++ [x] else delI (X.take k) n := by
  rw [← takeS hx]
  unfold delI
  rw [List.filter_append]
  split
  · next h => simp [h]
  · next h => simp at h; simp [h]
/-- a pool and a truth value that a call answers -/
def RetPB (A0 : Option Addr) (X0 X : List Int) (L : Int) (b : Bool) (W : World) (e : Ending) (w' : World) : Prop :=
  ∃ A c, e = .returned (.tuple #[pv A c X L, .bool b]) ∧ X.length ≤ c ∧ IL w' w'.heap.size A X ∧ Fr W A0 X0 A X ∧ Below W.heap.size W w'

set_option maxRecDepth 20000 in
set_option maxHeartbeats 2000000 in
theorem rFree_any (A : Option Addr) (c : Nat) (X : List Int) (L n : Int) (w : World) (hsl : IL w w.heap.size A X) (hX : X.length ≤ 1000000) :
    Calls Tryz.prog 66 #[pv A c X L, .int .i64 n] w (RetPB A X (delI X n) L (decide (n ∈ X)) w) := by
  have HS := Lib.hid hsl
  have hlt0 : decide ((delI X n).length < X.length) = decide (n ∈ X) := by rw [Bool.eq_iff_iff, decide_eq_true_eq, decide_eq_true_eq]; exact del_lt X n
  rw [← hlt0]
  have HLE := Lib.hid (del_len X n)
  obtain ⟨R, hR⟩ : ∃ R, delI X n = R := ⟨_, rfl⟩
  rw [hR] at HLE ⊢
  have HR := Lib.hid hR
  clear hR hsl hlt0
  go_enter Tryz.func66, Tryz.ntmps66
  go_wp2
  obtain ⟨W0, hW0⟩ : ∃ W0, W0 = (w.alloc (.cells #[.slice A X.length c, .int .i64 L] 26)).alloc (.cells #[.slice none 0 0, .int .i64 0] 26) := ⟨_, rfl⟩
  rw [← hW0]
  have H0 := Lib.hid (two_laid (v1 := [.slice A X.length c, .int .i64 L]) (v2 := [.slice none 0 0, .int .i64 0]) hW0)
  clear hW0
  go_loopg [6, 7] X.length (fun g u6 v wr => ∃ k : Nat, k + g = X.length ∧ v = .int .i64 k ∧ Own 3 iv wr (w.heap.size + 2) u6 (delI (X.take k) n) ∧ Below (w.heap.size + 2) W0 wr)
  case atStart => exact ⟨0, by omega, rfl, Own.nil _ _, Below.refl _ _⟩
  case round =>
    obtain ⟨k, hkg, rfl, hown, hb0⟩ := hrel
    obtain ⟨t1, t2, hs0, hB0⟩ := H0.out
    have hb1 : Below w.heap.size w wr := hB0.trans (hb0.mono (by omega))
    have t1' := t1.keep (by omega) hb0
    have t2' := t2.keep (by omega) hb0
    have d0 := t1'.cell 0 rfl
    have d1 := t1'.cell 1 rfl
    have d2 := t2'.cell 0 rfl
    have d3 := t2'.cell 1 rfl
    have f2 := t2'.free 0
    have f3 := t2'.free 1
    have HT2 := Lib.hid t2'
    have hBs : w.heap.size + 2 ≤ wr.heap.size := by have := hb0.size; omega
    have hkl : (delI (X.take k) n).length ≤ 1000000 := by have := del_len (X.take k) n; rw [List.length_take] at this; omega
    have HB0 := Lib.hid hb0
    have HB1 := Lib.hid hb1
    have HO := Lib.hid hown
    have HG := Lib.hid hkg
    clear hB0 hs0 t1 t2 t1' t2' hown
    cases gk with
    | zero =>
      obtain rfl : k = X.length := by omega
      rw [List.take_length, HR.out] at HO
      obtain ⟨A1, c1, hv, hc1, hsl1, hfr1⟩ := HO.out.retB
      have HFR := Lib.hid hfr1
      subst hv
      have HSL := Lib.hid hsl1
      have HC1 := Lib.hid hc1
      clear hkg hb0 hb1 hsl1 hc1 hfr1
      go_wp2
      go_region
      all_goals
        have HB6 := Lib.hid ((HB1.out.drew.setCell (p := ⟨w.heap.size + 1, 0, none⟩) (Nat.le_succ _) (.slice A1 R.length c1)).setCell (p := ⟨w.heap.size + 1, 1, none⟩) (Nat.le_succ _) (.int .i64 L))
        have HS6 := HSL.out (((wr.drew.setCell ⟨w.heap.size + 1, 0, none⟩ (.slice A1 R.length c1))).setCell ⟨w.heap.size + 1, 1, none⟩ (.int .i64 L)) (by simp) (fun p hp => by
          rw [set_other _ _ _ _ _ (by omega), set_other _ _ _ _ _ (by omega)]
          rfl)
        go_wp2
        exact bodyPost_ret (v := .tuple #[pv A1 c1 R L, .bool (decide (R.length < X.length))]) (by simp [results, Tryz.results66, go_sem, d2, d3]) rfl ⟨A1, c1, rfl, HC1.out, HS6, .inr (.inr (fun b o e => by have := HFR.out b o e; omega)), HB6.out⟩
    | succ g =>
      have hlt : k < X.length := by omega
      have e3 : decide ((k : Int) < (X.length : Int)) = true := decide_eq_true (by omega)
      obtain ⟨x, hx⟩ : ∃ x, X[k]? = some x := ⟨_, List.getElem?_eq_getElem hlt⟩
      obtain ⟨b, o, hA, hbB, kv⟩ := IL.at_ (HS.out.step hb1) hx
      subst hA
      have j1 : (0 : Int) ≤ (k : Int) := by omega
      have j2 : (k : Int) < (X.length : Int) := by omega
      have HX := Lib.hid hx
      clear hx hkg hlt hbB hb0 hb1
      by_cases hxn : x = n
      · have hb : (x != n) = false := by simp [hxn]
        have HF : Hid (delI (X.take (k + 1)) n = delI (X.take k) n) := Lib.hid (by rw [delI_take HX.out, if_neg (by simp [hxn])])
        clear hxn
        go_wp2
        go_roundg g
        case measure => omega
        case rel => exact ⟨k + 1, by have := HG.out; omega, rfl, by rw [HF.out]; exact HO.out, HB0.out⟩
      · have hb : (x != n) = true := by simp [hxn]
        have HF : Hid (delI (X.take (k + 1)) n = delI (X.take k) n ++ [x]) := Lib.hid (by rw [delI_take HX.out, if_pos hxn])
        clear hxn
        go_wp2_with first
          | (at_builtin; refine wpList_appI1 wr rfl _ _ rfl (w.heap.size + 2) u6 _ x rfl HO.out rfl W0 HB0.out hBs (by omega) ?_; intro v1 w1 hown1 hb1 hB1)
        rw [← HF.out] at hown1
        go_roundg g
        case measure => omega
        case rel => exact ⟨k + 1, by have := HG.out; omega, rfl, hown1, hb1⟩
end Go.Proofs.YtmcocepjdhpecabGreatDoor.S2
