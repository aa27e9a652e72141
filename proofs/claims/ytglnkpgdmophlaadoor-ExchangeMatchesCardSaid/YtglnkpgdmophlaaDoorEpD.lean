/-
  What checkBinding of exchange, and exchange, find and binding of brokerref24 answer: the first error of an exchange and of a binding, the place of a name. Conditions: the lists read as data; few elements; lengths fit an int.
-/
import Derived.Test.YtglnkpgdmophlaaDoorEpC
import Derived.Test.YtglnkpgdmophlaaDoorPropP
import Derived.Deep.QuietTactic
import Derived.BigQuiet
namespace Go.Proofs.YtglnkpgdmophlaaDoor
open Go.RowKit
open S2 (BK Put)

/-- by what is known: the names, the key's error, the exchange's kind or none, the properties' error, All, whether there are properties -/
def bdK (b1 b2 : Bool) (t : Int) (k : Option Int) (p : Int) (al lm : Bool) : Int := if b1 = false then 11 else if b2 = false then 11 else if t ≠ 0 then t else match k with
  | none => 8
  | some k => if k = 4 then p else if al = true then 28 else if lm = true then 28 else 0
theorem bdR_k (l : List Ex) (b : Bd) : bdR l b = bdK (nameR b.ex) (nameR b.qu) (txR b.ky) ((getE l b.ex).map (·.kd)) (propsR b.ml) b.all (decide (0 < b.ml.length)) := by
  unfold bdR bdK ofE
  cases getE l b.ex with
  | none => rfl
  | some x => simp only [Option.map_some, decide_eq_true_eq]
/-- texts fit an int -/
def SzX (x : Ex) : Prop := x.nm.size ≤ 9223372036854775807 ∧ x.alt.size ≤ 9223372036854775807
def SzB (b : Bd) : Prop := b.ex.size ≤ 9223372036854775807 ∧ b.qu.size ≤ 9223372036854775807 ∧ ∀ p ∈ b.ml, p.1.size ≤ 9223372036854775807
/-- the index of a name, from k on, or -1 -/
def fE (n : ByteArray) : List Ex → Nat → Int
  | [], _ => -1
  | x :: r, k => if x.nm = n then (k : Int) else fE n r (k + 1)
theorem fE_spec (n : ByteArray) : ∀ (l : List Ex) (k : Nat), (fE n l k = -1 ∧ getE l n = none) ∨ ∃ i x, fE n l k = ((k + i : Nat) : Int) ∧ l[i]? = some x ∧ getE l n = some x
  | [], k => Or.inl ⟨rfl, rfl⟩
  | x :: r, k => by
    unfold fE
    by_cases h : x.nm = n
    · rw [if_pos h]
      exact Or.inr ⟨0, x, rfl, rfl, by unfold getE; simp [h]⟩
    · rw [if_neg h]
      have hg : getE (x :: r) n = getE r n := by unfold getE; simp [h]
      rw [hg]
      rcases fE_spec n r (k + 1) with h2 | ⟨i, y, h2, h3, h4⟩
      · exact Or.inl h2
      · exact Or.inr ⟨i + 1, y, by rw [h2, show k + 1 + i = k + (i + 1) by omega], h3, h4⟩

set_option maxRecDepth 20000 in
set_option maxHeartbeats 4000000 in
theorem checkBinding_any (A : Option Addr) (c : Nat) (l : List Ex) (y : BE) (w : World) (h : EL w w.heap.size A l) (ha : AscE l) (hn : l.length ≤ 100000) (hy : BIn w y) :
    Calls Tryd.prog 20 #[.slice A l.length c, bdV y] w fun e w' => e = .returned (.int .i64 (bdR l y.d)) ∧ Below w.heap.size w w' := by
  have CN : ∀ s w, Calls Tryd.prog 24 #[.string s] w fun e w' => e = .returned (.bool (nameR s)) ∧ Below w.heap.size w w' := fun s w => S1.tName_any s w
  have HN1 := Lib.hid (fun w1 => CN y.d.ex w1)
  have HN2 := Lib.hid (fun w1 => CN y.d.qu w1)
  have HK := Lib.hid (fun w1 => checkKey_any y.d.ky w1)
  have HF := Lib.hid (fun w1 h1 => find_any A c l y.d.ex w1 h1 ha hn)
  have HP := Lib.hid (fun w1 h1 => props_any y.a y.c y.d.ml w1 h1)
  have HS := Lib.hid h
  have HY := Lib.hid hy
  have HGE := Lib.hid (fun x h1 => @getE_pos l ha y.d.ex x h1)
  have HPL := Lib.hid (posE_le l y.d.ex)
  unfold retS foundE at HF
  rw [bdR_k]
  clear CN h ha hy
  have HV : Hid (bdV y = .agg (gB y).toArray) := Lib.hid rfl
  rw [HV.out]
  have CY : gB y = [.string y.d.ex, .string y.d.qu, .string y.d.ky, .bool y.d.all, .slice y.a y.d.ml.length y.c] := rfl
  rw [CY]
  clear HV CY
  generalize nameR y.d.ex = b1 at *
  generalize nameR y.d.qu = b2 at *
  generalize txR y.d.ky = tx at *
  generalize propsR y.d.ml = pr at *
  generalize posE l y.d.ex = pos at *
  have q5 : decide ((0 : Int) < (y.d.ml.length : Int)) = decide (0 < y.d.ml.length) := by rw [Bool.eq_iff_iff]; simp
  obtain ⟨bm, hbm⟩ : ∃ b, decide (0 < y.d.ml.length) = b := ⟨_, rfl⟩
  rw [hbm] at q5 ⊢
  have HBM := Lib.hid hbm
  have HQ5 := Lib.hid q5
  clear hbm q5
  generalize y.d.ex = ex at *
  generalize y.d.qu = qu at *
  generalize y.d.ky = ky at *
  generalize y.d.all = al at *
  obtain ⟨og, hog⟩ : ∃ o, getE l ex = o := ⟨_, rfl⟩
  rw [hog] at HF HGE ⊢
  clear hog
  go_enter Tryd.func20, Tryd.ntmps20
  go_upto_region 1 with fail
  refine name_world (C := fun w1 => Code.wp _ _ _ _ w1) (w.alloc (.cells [.string ex, .string qu, .string ky, .bool al, .slice y.a y.d.ml.length y.c].toArray 39)) ?_
  intro w1 hw1
  have hb : Below w.heap.size w w1 := by rw [hw1]; exact S2.below_new w _
  have V_w1 : Hid (BK 39 w1 w.heap.size [.string ex, .string qu, .string ky, .bool al, .slice y.a y.d.ml.length y.c]) := Lib.hid (by rw [hw1]; exact BK.new w _ _)
  have B_w1 := Lib.hid hb
  have S_w1 := Lib.hid (HS.out.step hb)
  have Y_w1 := Lib.hid (HY.out.step hb)
  clear hw1 hb HS HY
  have d0 := V_w1.out.cell 0 rfl
  go_wp2_with fail
  refine (HN1.out _).mono ?_
  rintro e w2 ⟨rfl, hb⟩
  have V_w2 := Lib.hid (V_w1.out.step hb)
  have B_w2 := Lib.hid (stepB B_w1.out hb)
  have S_w2 := Lib.hid (S_w1.out.step hb)
  have Y_w2 := Lib.hid (Y_w1.out.step hb)
  clear hb d0 V_w1 B_w1 S_w1 Y_w1 HN1
  cases b1 with
  | false =>
    go_wp2_with fail
    go_ret
    exact ⟨rfl, B_w2.out⟩
  | true =>
    have d1 := V_w2.out.cell 1 rfl
    go_wp2_with fail
    refine (HN2.out _).mono ?_
    rintro e w3 ⟨rfl, hb⟩
    have V_w3 := Lib.hid (V_w2.out.step hb)
    have B_w3 := Lib.hid (stepB B_w2.out hb)
    have S_w3 := Lib.hid (S_w2.out.step hb)
    have Y_w3 := Lib.hid (Y_w2.out.step hb)
    clear hb d1 V_w2 B_w2 S_w2 Y_w2 HN2
    cases b2 with
    | false =>
      go_wp2_with fail
      go_ret
      exact ⟨rfl, B_w3.out⟩
    | true =>
      have d2 := V_w3.out.cell 2 rfl
      go_wp2_with fail
      refine (HK.out _).mono ?_
      rintro e w4 ⟨rfl, rfl⟩
      clear d2 HK
      by_cases ht : tx = 0
      · subst ht
        have d0 := V_w3.out.cell 0 rfl
        go_wp2_with fail
        refine (HF.out _ S_w3.out).mono ?_
        rintro e w5 ⟨rfl, hb⟩
        have V_w5 := Lib.hid (V_w3.out.step hb)
        have B_w5 := Lib.hid (stepB B_w3.out hb)
        have S_w5 := Lib.hid (S_w3.out.step hb)
        have Y_w5 := Lib.hid (Y_w3.out.step hb)
        clear hb d0 V_w3 B_w3 S_w3 Y_w3 HF
        cases og with
        | none =>
          go_wp2_with fail
          go_ret
          exact ⟨rfl, B_w5.out⟩
        | some x =>
          have hx := HGE.out x rfl
          obtain ⟨b, o, hA, hbB, hcl⟩ := EL.at_ S_w5.out hx
          have kv := hcl 1 _ rfl
          have j1 : (0 : Int) ≤ (pos : Int) := by omega
          have j2 : (pos : Int) < (l.length : Int) := by have := (List.getElem?_eq_some_iff.1 hx).1; omega
          subst hA
          clear hx hcl hbB HGE
          by_cases h4 : x.kd = 4
          · have q1 : (x.kd == 4) = true := by rw [h4]; rfl
            have H4 : Hid (bdK true true 0 (Option.map (·.kd) (some x)) (pr : Int) al bm = (pr : Int)) := Lib.hid (by show (if x.kd = 4 then (pr : Int) else _) = _; rw [if_pos h4])
            clear h4
            have d4 := V_w5.out.cell 4 rfl
            go_wp2_with fail
            refine (HP.out _ Y_w5.out.1).mono ?_
            rintro e w6 ⟨rfl, hb⟩
            have B_w6 := Lib.hid (stepB B_w5.out hb)
            clear hb d4
            go_wp2_with fail
            go_ret
            exact ⟨by rw [H4.out]; rfl, B_w6.out⟩
          · have q1 : (x.kd == 4) = false := beq_eq_false_iff_ne.2 h4
            have H4 : Hid (bdK true true 0 (Option.map (·.kd) (some x)) (pr : Int) al bm = if al = true then 28 else if bm = true then 28 else 0) := Lib.hid (by show (if x.kd = 4 then (pr : Int) else _) = _; rw [if_neg h4])
            clear h4 HP
            have d3 := V_w5.out.cell 3 rfl
            cases al with
            | true =>
              go_wp2_with fail
              go_ret
              exact ⟨by rw [H4.out]; rfl, B_w5.out⟩
            | false =>
              have d4 := V_w5.out.cell 4 rfl
              have q5 := HQ5.out
              have q6 := HBM.out
              cases bm
              all_goals
                go_wp2_with fail
                go_ret
                exact ⟨by rw [H4.out]; rfl, B_w5.out⟩
      · have q1 : (tx != 0) = true := bne_iff_ne.2 ht
        have HT : Hid (bdK true true tx (Option.map (·.kd) og) (pr : Int) al bm = tx) := Lib.hid (by show (if tx ≠ 0 then tx else _) = tx; rw [if_pos ht])
        clear ht
        go_wp2_with fail
        go_ret
        exact ⟨by rw [HT.out]; rfl, B_w3.out⟩

/-! ### The specification -/
/-- routes by value -/
def rtV (A1 : Option Addr) (n1 c1 : Nat) (A2 : Option Addr) (n2 c2 : Nat) : Value := .agg #[.slice A1 n1 c1, .slice A2 n2 c2]
/-- a place that a search answers -/
def RetFx (l : List Ex) (n : ByteArray) (w : World) (e : Ending) (w' : World) : Prop := Below w.heap.size w w' ∧ ((getE l n = none ∧ e = .returned (.int .i64 (-1))) ∨ ∃ i x, e = .returned (.int .i64 ((i : Nat) : Int)) ∧ l[i]? = some x ∧ getE l n = some x)
end Go.Proofs.YtglnkpgdmophlaaDoor
