/-
  What checkBinding of exchange, and exchange, find and binding of brokerref24 answer: the first error of an exchange and of a binding, the place of a name. Conditions: the lists read as data; few elements; lengths fit an int.
-/
import Derived.Test.YtjkhfifnfgchgabGreatDoorEpC
import Derived.Test.YtjkhfifnfgchgabGreatDoorPropP
import Derived.Deep.QuietTactic
import Derived.BigQuiet
namespace Go.Proofs.YtjkhfifnfgchgabGreatDoor
open Go.RowKit
open S2 (BK Put)

/-- by what is known: the names, the key's error, the exchange's kind or none, the properties' error, All, whether there are properties -/
def bdK (b1 b2 : Bool) (t : Int) (k : Option Int) (p : Int) (al lm : Bool) : Int := if b1 = false then 11 else if b2 = false then 11 else if t ≠ 0 then t else match k with
  | none => 8
  | some k => if k = 4 then p else if al = true then 28 else if lm = true then 28 else 0
theorem bdR_k (l : List Ex) (b : Bd) : bdR l b = bdK (nameR b.ex) (nameR b.qu) (txR b.ky) ((getE l b.ex).map (·.kd)) (propsR b.ml) b.all (decide (0 < b.ml.length)) := by
  unfold bdR bdK ofE
  cases getE l b.ex with
  | none => rfl
  | some x => simp only [Option.map_some, decide_eq_true_eq]
/-- texts fit an int -/
def SzX (x : Ex) : Prop := x.nm.size ≤ 9223372036854775807 ∧ x.alt.size ≤ 9223372036854775807
def SzB (b : Bd) : Prop := b.ex.size ≤ 9223372036854775807 ∧ b.qu.size ≤ 9223372036854775807 ∧ ∀ p ∈ b.ml, p.1.size ≤ 9223372036854775807
/-- the index of a name, from k on, or -1 -/
def fE (n : ByteArray) : List Ex → Nat → Int
  | [], _ => -1
  | x :: r, k => if x.nm = n then (k : Int) else fE n r (k + 1)
theorem fE_spec (n : ByteArray) : ∀ (l : List Ex) (k : Nat), (fE n l k = -1 ∧ getE l n = none) ∨ ∃ i x, fE n l k = ((k + i : Nat) : Int) ∧ l[i]? = some x ∧ getE l n = some x
  | [], k => Or.inl ⟨rfl, rfl⟩
  | x :: r, k => by
    unfold fE
    by_cases h : x.nm = n
    · rw [if_pos h]
      exact Or.inr ⟨0, x, rfl, rfl, by unfold getE; simp [h]⟩
    · rw [if_neg h]
      have hg : getE (x :: r) n = getE r n := by unfold getE; simp [h]
      rw [hg]
      rcases fE_spec n r (k + 1) with h2 | ⟨i, y, h2, h3, h4⟩
      · exact Or.inl h2
      · exact Or.inr ⟨i + 1, y, by rw [h2, show k + 1 + i = k + (i + 1) by omega], h3, h4⟩

set_option maxRecDepth 20000 in
set_option maxHeartbeats 4000000 in
theorem checkBinding_any (A : Option Addr) (c : Nat) (l : List Ex) (y : BE) (w : World) (h : EL w w.heap.size A l) (ha : AscE l) (hn : l.length ≤ 100000) (hy : BIn w y) :
    Calls Tryz.prog 40 #[.slice A l.length c, bdV y] w fun e w' => e = .returned (.int .i64 (bdR l y.d)) ∧ Below w.heap.size w w' := by
  have CN : ∀ s w, Calls Tryz.prog 24 #[.string s] w fun e w' => e = .returned (.bool (nameR s)) ∧ Below w.heap.size w w' := fun s w => S1.tName_any s w
  have HN1 := Lib.hid (fun w1 => CN y.d.ex w1)
  have HN2 := Lib.hid (fun w1 => CN y.d.qu w1)
  have HK := Lib.hid (fun w1 => checkKey_any y.d.ky w1)
  have HF := Lib.hid (fun w1 h1 => find_any A c l y.d.ex w1 h1 ha hn)
  have HP := Lib.hid (fun w1 h1 => props_any y.a y.c y.d.ml w1 h1)
  have HS := Lib.hid h
  have HY := Lib.hid hy
  have HGE := Lib.hid (fun x h1 => @getE_pos l ha y.d.ex x h1)
  have HPL := Lib.hid (posE_le l y.d.ex)
  unfold retS foundE at HF
  rw [bdR_k]
  clear CN h ha hy
  have HV : Hid (bdV y = .agg (gB y).toArray) := Lib.hid rfl
  rw [HV.out]
  have CY : gB y = [.string y.d.ex, .string y.d.qu, .string y.d.ky, .bool y.d.all, .slice y.a y.d.ml.length y.c] := rfl
  rw [CY]
  clear HV CY
  generalize nameR y.d.ex = b1 at *
  generalize nameR y.d.qu = b2 at *
  generalize txR y.d.ky = tx at *
  generalize propsR y.d.ml = pr at *
  generalize posE l y.d.ex = pos at *
  have q5 : decide ((0 : Int) < (y.d.ml.length : Int)) = decide (0 < y.d.ml.length) := by rw [Bool.eq_iff_iff]; simp
  obtain ⟨bm, hbm⟩ : ∃ b, decide (0 < y.d.ml.length) = b := ⟨_, rfl⟩
  rw [hbm] at q5 ⊢
  have HBM := Lib.hid hbm
  have HQ5 := Lib.hid q5
  clear hbm q5
  generalize y.d.ex = ex at *
  generalize y.d.qu = qu at *
  generalize y.d.ky = ky at *
  generalize y.d.all = al at *
  obtain ⟨og, hog⟩ : ∃ o, getE l ex = o := ⟨_, rfl⟩
  rw [hog] at HF HGE ⊢
  clear hog
  go_enter Tryz.func40, Tryz.ntmps40
  go_upto_region 1 with fail
  refine name_world (C := fun w1 => Code.wp _ _ _ _ w1) (w.alloc (.cells [.string ex, .string qu, .string ky, .bool al, .slice y.a y.d.ml.length y.c].toArray 35)) ?_
  intro w1 hw1
  have hb : Below w.heap.size w w1 := by rw [hw1]; exact S2.below_new w _
  have V_w1 : Hid (BK 35 w1 w.heap.size [.string ex, .string qu, .string ky, .bool al, .slice y.a y.d.ml.length y.c]) := Lib.hid (by rw [hw1]; exact BK.new w _ _)
  have B_w1 := Lib.hid hb
  have S_w1 := Lib.hid (HS.out.step hb)
  have Y_w1 := Lib.hid (HY.out.step hb)
  clear hw1 hb HS HY
  have d0 := V_w1.out.cell 0 rfl
  go_wp2_with fail
  refine (HN1.out _).mono ?_
  rintro e w2 ⟨rfl, hb⟩
  have V_w2 := Lib.hid (V_w1.out.step hb)
  have B_w2 := Lib.hid (stepB B_w1.out hb)
  have S_w2 := Lib.hid (S_w1.out.step hb)
  have Y_w2 := Lib.hid (Y_w1.out.step hb)
  clear hb d0 V_w1 B_w1 S_w1 Y_w1 HN1
  cases b1 with
  | false =>
    go_wp2_with fail
    go_ret
    exact ⟨rfl, B_w2.out⟩
  | true =>
    have d1 := V_w2.out.cell 1 rfl
    go_wp2_with fail
    refine (HN2.out _).mono ?_
    rintro e w3 ⟨rfl, hb⟩
    have V_w3 := Lib.hid (V_w2.out.step hb)
    have B_w3 := Lib.hid (stepB B_w2.out hb)
    have S_w3 := Lib.hid (S_w2.out.step hb)
    have Y_w3 := Lib.hid (Y_w2.out.step hb)
    clear hb d1 V_w2 B_w2 S_w2 Y_w2 HN2
    cases b2 with
    | false =>
      go_wp2_with fail
      go_ret
      exact ⟨rfl, B_w3.out⟩
    | true =>
      have d2 := V_w3.out.cell 2 rfl
      go_wp2_with fail
      refine (HK.out _).mono ?_
      rintro e w4 ⟨rfl, rfl⟩
      clear d2 HK
      by_cases ht : tx = 0
      · subst ht
        have d0 := V_w3.out.cell 0 rfl
        go_wp2_with fail
        refine (HF.out _ S_w3.out).mono ?_
        rintro e w5 ⟨rfl, hb⟩
        have V_w5 := Lib.hid (V_w3.out.step hb)
        have B_w5 := Lib.hid (stepB B_w3.out hb)
        have S_w5 := Lib.hid (S_w3.out.step hb)
        have Y_w5 := Lib.hid (Y_w3.out.step hb)
        clear hb d0 V_w3 B_w3 S_w3 Y_w3 HF
        cases og with
        | none =>
          go_wp2_with fail
          go_ret
          exact ⟨rfl, B_w5.out⟩
        | some x =>
          have hx := HGE.out x rfl
          obtain ⟨b, o, hA, hbB, hcl⟩ := EL.at_ S_w5.out hx
          have kv := hcl 1 _ rfl
          have j1 : (0 : Int) ≤ (pos : Int) := by omega
          have j2 : (pos : Int) < (l.length : Int) := by have := (List.getElem?_eq_some_iff.1 hx).1; omega
          subst hA
          clear hx hcl hbB HGE
          by_cases h4 : x.kd = 4
          · have q1 : (x.kd == 4) = true := by rw [h4]; rfl
            have H4 : Hid (bdK true true 0 (Option.map (·.kd) (some x)) (pr : Int) al bm = (pr : Int)) := Lib.hid (by show (if x.kd = 4 then (pr : Int) else _) = _; rw [if_pos h4])
            clear h4
            have d4 := V_w5.out.cell 4 rfl
            go_wp2_with fail
            refine (HP.out _ Y_w5.out.1).mono ?_
            rintro e w6 ⟨rfl, hb⟩
            have B_w6 := Lib.hid (stepB B_w5.out hb)
            clear hb d4
            go_wp2_with fail
            go_ret
            exact ⟨by rw [H4.out]; rfl, B_w6.out⟩
          · have q1 : (x.kd == 4) = false := beq_eq_false_iff_ne.2 h4
            have H4 : Hid (bdK true true 0 (Option.map (·.kd) (some x)) (pr : Int) al bm = if al = true then 28 else if bm = true then 28 else 0) := Lib.hid (by show (if x.kd = 4 then (pr : Int) else _) = _; rw [if_neg h4])
            clear h4 HP
            have d3 := V_w5.out.cell 3 rfl
            cases al with
            | true =>
              go_wp2_with fail
              go_ret
              exact ⟨by rw [H4.out]; rfl, B_w5.out⟩
            | false =>
              have d4 := V_w5.out.cell 4 rfl
              have q5 := HQ5.out
              have q6 := HBM.out
              cases bm
              all_goals
                go_wp2_with fail
                go_ret
                exact ⟨by rw [H4.out]; rfl, B_w5.out⟩
      · have q1 : (tx != 0) = true := bne_iff_ne.2 ht
        have HT : Hid (bdK true true tx (Option.map (·.kd) og) (pr : Int) al bm = tx) := Lib.hid (by show (if tx ≠ 0 then tx else _) = tx; rw [if_pos ht])
        clear ht
        go_wp2_with fail
        go_ret
        exact ⟨by rw [HT.out]; rfl, B_w3.out⟩

/-! ### The specification -/
set_option maxRecDepth 20000 in
set_option maxHeartbeats 4000000 in
theorem rexchange_any (x : Ex) (w : World) (hz : SzX x) : Calls Tryz.prog 29 #[exV x] w fun e w' => e = .returned (.int .i64 (exR x)) ∧ Below w.heap.size w w' := by
  have HN1 := Lib.hid (fun w1 => S1.rName_any x.nm w1 hz.1)
  have HN2 := Lib.hid (fun w1 => S1.rName_any x.alt w1 hz.2)
  clear hz
  obtain ⟨n, k, a⟩ := x
  unfold exV gE exR
  dsimp only at HN1 HN2 ⊢
  have HE1 : Hid (S1.T.nameL n.data.toList = nameR n) := Lib.hid rfl
  have HE2 : Hid (S1.T.nameL a.data.toList = nameR a) := Lib.hid rfl
  rw [HE1.out] at HN1
  rw [HE2.out] at HN2
  have q1 := nm_beq a
  have q2 := nm_emp a
  have HB1 := Lib.hid (S2.below_new w (.cells #[.string n, .int .i64 k, .string a] 32))
  have HKD : Hid (kdR k = (decide (1 ≤ k) && decide (k ≤ 4))) := Lib.hid rfl
  clear HE1 HE2
  generalize nameR n = b1 at *
  generalize nameR a = b2 at *
  generalize decide (a = ⟨#[]⟩) = b4 at q1 q2 ⊢
  obtain ⟨w1, hw1⟩ : ∃ w1, w1 = w.alloc (.cells #[.string n, .int .i64 k, .string a] 32) := ⟨_, rfl⟩
  have V_w1 : Hid (BK 32 w1 w.heap.size [.string n, .int .i64 k, .string a]) := Lib.hid (by rw [hw1]; exact BK.new w _ _)
  have HW := Lib.hid hw1
  rw [← hw1] at HB1
  clear hw1
  go_enter Tryz.func29, Tryz.ntmps29
  go_upto_region 1 with fail
  rw [← HW.out]
  have d0 := V_w1.out.cell 0 rfl
  go_wp2_with fail
  refine (HN1.out _).mono ?_
  rintro e w2 ⟨rfl, rfl⟩
  clear d0 HW
  cases b1 with
  | false =>
    go_wp2_with fail
    go_ret
    exact ⟨rfl, HB1.out⟩
  | true =>
    have d1 := V_w1.out.cell 1 rfl
    by_cases hk1 : k < 1
    · have p1 : decide (k < 1) = true := decide_eq_true hk1
      have p2 : decide (1 ≤ k) = false := decide_eq_false (by omega)
      have HKF : Hid (kdR k = false) := Lib.hid (by rw [HKD.out, p2]; rfl)
      clear hk1
      go_wp2_with fail
      go_ret
      exact ⟨by rw [HKF.out]; rfl, HB1.out⟩
    · by_cases hk4 : 4 < k
      · have p1 : decide (k < 1) = false := decide_eq_false hk1
        have p2 : decide (4 < k) = true := decide_eq_true hk4
        have HKF : Hid (kdR k = false) := Lib.hid (by rw [HKD.out, decide_eq_false (by omega : ¬ k ≤ 4), Bool.and_false])
        clear hk1 hk4
        go_wp2_with fail
        go_ret
        exact ⟨by rw [HKF.out]; rfl, HB1.out⟩
      · have p1 : decide (k < 1) = false := decide_eq_false hk1
        have p2 : decide (4 < k) = false := decide_eq_false hk4
        have HKF : Hid (kdR k = true) := Lib.hid (by rw [HKD.out, decide_eq_true (by omega : 1 ≤ k), decide_eq_true (by omega : k ≤ 4)]; rfl)
        clear hk1 hk4
        have d2 := V_w1.out.cell 2 rfl
        cases b4 with
        | true =>
          go_wp2_with fail
          go_ret
          exact ⟨by rw [HKF.out]; rfl, HB1.out⟩
        | false =>
          go_wp2_with fail
          refine (HN2.out _).mono ?_
          rintro e w4 ⟨rfl, rfl⟩
          clear d2
          cases b2
          all_goals
            go_wp2_with fail
            go_ret
            exact ⟨by rw [HKF.out]; rfl, HB1.out⟩
/-- routes by value -/
def rtV (A1 : Option Addr) (n1 c1 : Nat) (A2 : Option Addr) (n2 c2 : Nat) : Value := .agg #[.slice A1 n1 c1, .slice A2 n2 c2]
set_option maxRecDepth 20000 in
set_option maxHeartbeats 4000000 in
theorem rfind_any (A1 : Option Addr) (c1 : Nat) (l : List Ex) (A2 : Option Addr) (n2 c2 : Nat) (n : ByteArray) (w : World) (h : EL w w.heap.size A1 l) (hn : l.length ≤ 1000000) :
    Calls Tryz.prog 39 #[rtV A1 l.length c1 A2 n2 c2, .string n] w fun e w' => e = .returned (.int .i64 (fE n l 0)) ∧ Below w.heap.size w w' := by
  have HS := Lib.hid h
  obtain ⟨R, hR⟩ : ∃ R, fE n l 0 = R := ⟨_, rfl⟩
  have HR : Hid (R = fE n (l.drop 0) 0) := Lib.hid (by rw [← hR]; rfl)
  rw [hR]
  clear h hR
  unfold rtV
  go_enter Tryz.func39, Tryz.ntmps39
  go_wp2_with fail
  go_loopg [10] l.length (fun g v wr => ∃ k : Nat, k + g = l.length ∧ v = .int .i64 k ∧ R = fE n (l.drop k) k ∧ Below w.heap.size w wr)
  case atStart => exact ⟨0, by omega, rfl, HR.out, S2.below_new w _⟩
  case round =>
    obtain ⟨k, hkg, rfl, hrel, hb0⟩ := hrel
    have HREL := Lib.hid hrel
    have HB0 := Lib.hid hb0
    have HG := Lib.hid hkg
    clear hrel hb0 HR
    cases gk with
    | zero =>
      obtain rfl : k = l.length := by omega
      have HV : Hid (R = -1) := Lib.hid (by rw [HREL.out, List.drop_length]; rfl)
      clear hkg
      go_wp2
      go_ret
      exact ⟨retI HV.out.symm, HB0.out⟩
    | succ g =>
      have hlt : k < l.length := by omega
      have e3 : decide ((k : Int) < (l.length : Int)) = true := decide_eq_true (by omega)
      obtain ⟨x, hx⟩ : ∃ x, l[k]? = some x := ⟨_, List.getElem?_eq_getElem hlt⟩
      have hslr := GL.step HS.out HB0.out
      obtain ⟨b, o, hA, hbB, hc⟩ := EL.at_ hslr hx
      have HLD := Lib.hid (load_ex hc)
      have HD : Hid (R = if x.nm = n then (k : Int) else fE n (l.drop (k + 1)) (k + 1)) := Lib.hid (by rw [HREL.out, dropC hx]; rfl)
      have q1 : (x.nm.toList == n.toList) = decide (x.nm = n) := str_dec _ _
      subst hA
      have j1 : (0 : Int) ≤ (k : Int) := by omega
      have j2 : (k : Int) < (l.length : Int) := by omega
      clear hx hc hbB hkg hslr HREL
      obtain ⟨bn, hbn⟩ : ∃ b, decide (x.nm = n) = b := ⟨_, rfl⟩
      rw [hbn] at q1
      have HBN := Lib.hid hbn
      clear hbn
      go_upto_region 4 with first
        | (refine wpList_load_v (by rfl) 32 (.tmp 13) rfl ⟨b, o + k * 3, none⟩ (by go_simp) _ HLD.out ?_)
        | (refine S2.wpList_store_all (by rfl) 32 (.tmp 6) (.tmp 14) rfl rfl wr.heap.size rfl (gE x) rfl 32 _ (BK.new wr _ _) exSize rfl (gE_one _) ?_; intro w2 hM hP; have hb := hP.below (S2.below_new wr _) (Nat.le_refl _); have B_w2 := Lib.hid (stepB HB0.out hb); have X_w2 := Lib.hid hM; clear hM hP hb)
      have d0 := X_w2.out.cell 0 rfl
      cases bn with
      | true =>
        have HV : Hid (R = (k : Int)) := Lib.hid (by rw [HD.out, if_pos (of_decide_eq_true HBN.out)])
        go_wp2_with fail
        go_ret
        exact ⟨retI HV.out.symm, B_w2.out⟩
      | false =>
        have HV : Hid (R = fE n (l.drop (k + 1)) (k + 1)) := Lib.hid (by rw [HD.out, if_neg (of_decide_eq_false HBN.out)])
        go_wp2_with fail
        go_roundg g
        case measure => omega
        case rel => exact ⟨k + 1, by have := HG.out; omega, by go_num, HV.out, B_w2.out⟩
/-- a place that a search answers -/
def RetFx (l : List Ex) (n : ByteArray) (w : World) (e : Ending) (w' : World) : Prop := Below w.heap.size w w' ∧ ((getE l n = none ∧ e = .returned (.int .i64 (-1))) ∨ ∃ i x, e = .returned (.int .i64 ((i : Nat) : Int)) ∧ l[i]? = some x ∧ getE l n = some x)
theorem rfind_get (A1 : Option Addr) (c1 : Nat) (l : List Ex) (A2 : Option Addr) (n2 c2 : Nat) (n : ByteArray) (w : World) (h : EL w w.heap.size A1 l) (hn : l.length ≤ 1000000) :
    Calls Tryz.prog 39 #[rtV A1 l.length c1 A2 n2 c2, .string n] w (RetFx l n w) := (rfind_any A1 c1 l A2 n2 c2 n w h hn).mono fun e w' hh => by
  refine ⟨hh.2, ?_⟩
  rcases fE_spec n l 0 with h2 | ⟨i, x, h2, h3, h4⟩
  · exact Or.inl ⟨h2.2, by rw [hh.1, h2.1]⟩
  · exact Or.inr ⟨i, x, by rw [hh.1, h2, Nat.zero_add], h3, h4⟩
set_option maxRecDepth 20000 in
set_option maxHeartbeats 4000000 in
theorem rbinding_any (A : Option Addr) (c : Nat) (l : List Ex) (A2 : Option Addr) (n2 c2 : Nat) (y : BE) (w : World) (h : EL w w.heap.size A l) (hn : l.length ≤ 1000000) (hy : BIn w y) (hz : SzB y.d) :
    Calls Tryz.prog 30 #[rtV A l.length c A2 n2 c2, bdV y] w fun e w' => e = .returned (.int .i64 (bdR l y.d)) ∧ Below w.heap.size w w' := by
  have HN1 := Lib.hid (fun w1 => S1.rName_any y.d.ex w1 hz.1)
  have HN2 := Lib.hid (fun w1 => S1.rName_any y.d.qu w1 hz.2.1)
  have HK := Lib.hid (fun w1 => xText_any y.d.ky w1)
  have HF := Lib.hid (fun w1 h1 => rfind_get A c l A2 n2 c2 y.d.ex w1 h1 hn)
  have HP := Lib.hid (fun w1 h1 => vProps_any y.a y.c y.d.ml w1 h1 hz.2.2)
  have HE1 : Hid (S1.T.nameL y.d.ex.data.toList = nameR y.d.ex) := Lib.hid rfl
  have HE2 : Hid (S1.T.nameL y.d.qu.data.toList = nameR y.d.qu) := Lib.hid rfl
  rw [HE1.out] at HN1
  rw [HE2.out] at HN2
  have HS := Lib.hid h
  have HY := Lib.hid hy
  unfold rtV at HF
  rw [bdR_k]
  clear h hy hz HE1 HE2
  unfold rtV
  have HV : Hid (bdV y = .agg (gB y).toArray) := Lib.hid rfl
  rw [HV.out]
  have CY : gB y = [.string y.d.ex, .string y.d.qu, .string y.d.ky, .bool y.d.all, .slice y.a y.d.ml.length y.c] := rfl
  rw [CY]
  clear HV CY
  generalize nameR y.d.ex = b1 at *
  generalize nameR y.d.qu = b2 at *
  generalize txR y.d.ky = tx at *
  generalize propsR y.d.ml = pr at *
  have q5 : decide ((0 : Int) < (y.d.ml.length : Int)) = decide (0 < y.d.ml.length) := by rw [Bool.eq_iff_iff]; simp
  obtain ⟨bm, hbm⟩ : ∃ b, decide (0 < y.d.ml.length) = b := ⟨_, rfl⟩
  rw [hbm] at q5 ⊢
  have HBM := Lib.hid hbm
  have HQ5 := Lib.hid q5
  clear hbm q5
  generalize y.d.ex = ex at *
  generalize y.d.qu = qu at *
  generalize y.d.ky = ky at *
  generalize y.d.all = al at *
  go_enter Tryz.func30, Tryz.ntmps30
  go_upto_region 1 with fail
  refine name_world (C := fun w1 => Code.wp _ _ _ _ w1) ((w.alloc (.cells [.slice A l.length c, .slice A2 n2 c2].toArray 25)).alloc (.cells [.string ex, .string qu, .string ky, .bool al, .slice y.a y.d.ml.length y.c].toArray 35)) ?_
  intro w1 hw1
  obtain ⟨t1, t2, hs0, hb⟩ := S2.two_laid hw1
  have T_w1 := Lib.hid t1
  have V_w1 := Lib.hid t2
  have B_w1 := Lib.hid hb
  have S_w1 := Lib.hid (HS.out.step hb)
  have Y_w1 := Lib.hid (HY.out.step hb)
  clear hw1 hb HS HY t1 t2 hs0
  have d0 := V_w1.out.cell 0 rfl
  go_wp2_with fail
  refine (HN1.out _).mono ?_
  rintro e w2 ⟨rfl, rfl⟩
  clear d0 HN1
  cases b1 with
  | false =>
    go_wp2_with fail
    go_ret
    exact ⟨rfl, B_w1.out⟩
  | true =>
    have d1 := V_w1.out.cell 1 rfl
    go_wp2_with fail
    refine (HN2.out _).mono ?_
    rintro e w3 ⟨rfl, rfl⟩
    clear d1 HN2
    cases b2 with
    | false =>
      go_wp2_with fail
      go_ret
      exact ⟨rfl, B_w1.out⟩
    | true =>
      have d2 := V_w1.out.cell 2 rfl
      go_wp2_with fail
      refine (HK.out _).mono ?_
      rintro e w4 ⟨rfl, rfl⟩
      clear d2 HK
      by_cases ht : tx = 0
      · subst ht
        have d0 := V_w1.out.cell 0 rfl
        have HLT : Hid ((loadVar 25 ⟨w.heap.size, 0, none⟩).run Tryz.prog w4 = .ok (.agg #[.slice A l.length c, .slice A2 n2 c2]) w4) := Lib.hid (S2.run_load_all T_w1.out Tryz.underlying25 rfl rtSize)
        go_wp2_with first
          | (refine wpList_load_v (by rfl) 25 (.tmp 2) rfl ⟨w.heap.size, 0, none⟩ rfl _ HLT.out ?_)
        refine (HF.out _ S_w1.out).mono ?_
        rintro e w5 ⟨hb, hres⟩
        have V_w5 := Lib.hid (V_w1.out.step hb)
        have T_w5 := Lib.hid (T_w1.out.step hb)
        have B_w5 := Lib.hid (stepB B_w1.out hb)
        have S_w5 := Lib.hid (S_w1.out.step hb)
        have Y_w5 := Lib.hid (Y_w1.out.step hb)
        clear hb d0 V_w1 B_w1 S_w1 Y_w1 HF HLT T_w1
        rcases hres with ⟨hg, rfl⟩ | ⟨i, x, rfl, hx, hg⟩
        · have HG := Lib.hid hg
          clear hg
          go_wp2_with fail
          go_ret
          exact ⟨by rw [HG.out]; rfl, B_w5.out⟩
        · have HG := Lib.hid hg
          clear hg
          obtain ⟨b, o, hA, hbB, hcl⟩ := EL.at_ S_w5.out hx
          have kv := hcl 1 _ rfl
          have j1 : (0 : Int) ≤ (i : Int) := by omega
          have j2 : (i : Int) < (l.length : Int) := by have := (List.getElem?_eq_some_iff.1 hx).1; omega
          have j3 : decide ((i : Int) < 0) = false := decide_eq_false (by omega)
          have t0 := T_w5.out.cell 0 rfl
          subst hA
          clear hx hcl hbB
          by_cases h4 : x.kd = 4
          · have q1 : (x.kd == 4) = true := by rw [h4]; rfl
            have H4 : Hid (bdK true true 0 (Option.map (·.kd) (some x)) (pr : Int) al bm = (pr : Int)) := Lib.hid (by show (if x.kd = 4 then (pr : Int) else _) = _; rw [if_pos h4])
            clear h4
            have d4 := V_w5.out.cell 4 rfl
            go_wp2_with fail
            refine (HP.out _ Y_w5.out.1).mono ?_
            rintro e w6 ⟨rfl, hb⟩
            have B_w6 := Lib.hid (stepB B_w5.out hb)
            clear hb d4
            go_wp2_with fail
            go_ret
            exact ⟨by rw [HG.out, H4.out]; rfl, B_w6.out⟩
          · have q1 : (x.kd == 4) = false := beq_eq_false_iff_ne.2 h4
            have H4 : Hid (bdK true true 0 (Option.map (·.kd) (some x)) (pr : Int) al bm = if al = true then 28 else if bm = true then 28 else 0) := Lib.hid (by show (if x.kd = 4 then (pr : Int) else _) = _; rw [if_neg h4])
            clear h4 HP
            have d3 := V_w5.out.cell 3 rfl
            cases al with
            | true =>
              go_wp2_with fail
              go_ret
              exact ⟨by rw [HG.out, H4.out]; rfl, B_w5.out⟩
            | false =>
              have d4 := V_w5.out.cell 4 rfl
              have q5 := HQ5.out
              have q6 := HBM.out
              cases bm
              all_goals
                go_wp2_with fail
                go_ret
                exact ⟨by rw [HG.out, H4.out]; rfl, B_w5.out⟩
      · have q1 : (tx != 0) = true := bne_iff_ne.2 ht
        have HT : Hid (bdK true true tx (Option.map (·.kd) (getE l ex)) (pr : Int) al bm = tx) := Lib.hid (by show (if tx ≠ 0 then tx else _) = tx; rw [if_pos ht])
        clear ht
        go_wp2_with fail
        go_ret
        exact ⟨by rw [HT.out]; rfl, B_w1.out⟩
end Go.Proofs.YtjkhfifnfgchgabGreatDoor
