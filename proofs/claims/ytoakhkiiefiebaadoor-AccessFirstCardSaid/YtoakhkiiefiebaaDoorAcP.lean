/-
  Access rules as plain values: which rule applies, what is allowed, which rules are shadowed, and what follows from it (no program, no run). Conditions: as in each theorem.
-/
import Derived.Test.YtoakhkiiefiebaaDoorPure4
namespace Go.Proofs.YtoakhkiiefiebaaDoor.S1

structure Rl where
  al : Bool
  us : ByteArray
  ac : Int
  fi : ByteArray
def starB : ByteArray := ⟨#[42]⟩
def pcB : ByteArray := ⟨#[37, 99]⟩
def puB : ByteArray := ⟨#[37, 117]⟩
/-- a level, with the client and the user in the place of the two that are replaced -/
def expL (c u x : ByteArray) : ByteArray := if x = pcB then c else if x = puB then u else x
def expB (f c u : ByteArray) : ByteArray := jnB ((lvB f).map (expL c u))
def forR (x : Rl) (us : ByteArray) (ac : Int) : Bool := (decide (x.us = starB) || decide (x.us = us)) && (decide (x.ac = 0) || decide (x.ac = ac))
def alP (c u : ByteArray) (ac : Int) (o : ByteArray) (x : Rl) : Bool := forR x u ac && matchesL (expB x.fi c u) o
def suP (c u f : ByteArray) (x : Rl) : Bool := forR x u 2 && (cmRes (expB x.fi c u) f).isSome
def allowR (l : List Rl) (c u : ByteArray) (ac : Int) (o : ByteArray) : Bool := match l.find? (alP c u ac o) with
  | some x => x.al
  | none => false
def subsR (l : List Rl) (c u f : ByteArray) : Bool := match l.find? (suP c u f) with
  | some x => x.al && coversL (expB x.fi c u) f
  | none => false
/-- is nothing in a filter replaced? -/
def fixB (f : ByteArray) : Bool := (lvB f).all fun x => !(decide (x = pcB) || decide (x = puB))
def hidR (a b : Rl) : Bool := forR a b.us b.ac && (decide (a.fi = b.fi) || fixB a.fi && fixB b.fi && coversL a.fi b.fi)
def shadR (a b : Rl) : Bool := (decide (a.fi = b.fi) || fixB a.fi && fixB b.fi) && forR a b.us b.ac && coversL a.fi b.fi
def shAt (P : Rl → Rl → Bool) (l : List Rl) (i : Nat) : Bool := match l[i]? with
  | some x => (l.take i).any fun a => P a x
  | none => false
/-- the indexes below k of the rules that an earlier one covers -/
def shdw (P : Rl → Rl → Bool) (l : List Rl) (k : Nat) : List Int := ((List.range k).filter fun i => shAt P l i).map fun i : Nat => (i : Int)
/-- the first error of a rule -/
def ruleE (x : Rl) : Int := if !(decide (x.us = starB) || T.nameL (dl x.us)) then 11 else if x.ac < 0 ∨ 4 < x.ac then 10 else if !T.filterL (dl x.fi) then 13 else 0
def chkL : List Rl → Int
  | [] => 0
  | x :: r => if ruleE x = 0 then chkL r else ruleE x
def chkR (l : List Rl) : Int := if 32 < l.length then 5 else chkL l

/-! ### Valid lists -/
theorem chkL_zero : ∀ {l : List Rl}, chkL l = 0 ↔ ∀ x ∈ l, ruleE x = 0
  | [] => by simp [chkL]
  | x :: r => by
    unfold chkL
    by_cases h : ruleE x = 0
    · rw [if_pos h, chkL_zero]; simp [h]
    · rw [if_neg h]
      simp [h]
theorem chkL_at : ∀ {l : List Rl} {k : Nat} {x : Rl}, (∀ j y, j < k → l[j]? = some y → ruleE y = 0) → l[k]? = some x → ruleE x ≠ 0 → chkL l = ruleE x
  | [], k, x, _, hx, _ => by simp at hx
  | y :: r, 0, x, _, hx, hn => by
    obtain rfl : y = x := by simpa using hx
    unfold chkL
    rw [if_neg hn]
  | y :: r, k + 1, x, h, hx, hn => by
    unfold chkL
    rw [if_pos (h 0 y (by omega) rfl)]
    exact chkL_at (fun j z hj hz => h (j + 1) z (by omega) hz) hx hn
theorem chkL_all {l : List Rl} (h : ∀ j y, j < l.length → l[j]? = some y → ruleE y = 0) : chkL l = 0 := chkL_zero.2 fun x hx => by
  obtain ⟨j, hj⟩ := List.mem_iff_getElem?.1 hx
  exact h j x (List.getElem?_eq_some_iff.1 hj).1 hj
theorem ruleE_filter {x : Rl} (h : ruleE x = 0) : T.filterL (dl x.fi) = true := by
  unfold ruleE at h
  split at h
  · cases h
  split at h
  · cases h
  split at h
  · cases h
  · next h3 => simpa using h3
theorem chkR_zero {l : List Rl} (h : chkR l = 0) : l.length ≤ 32 ∧ ∀ x ∈ l, ruleE x = 0 := by
  unfold chkR at h
  split at h
  · cases h
  · exact ⟨by omega, chkL_zero.1 h⟩
theorem fil64 {f : ByteArray} (h : T.filterL (dl f) = true) : f.size ≤ 64 := by
  have := (T.filterL_parts h).2.1
  rw [size_dl]
  omega

/-! ### What is replaced -/
theorem jn_lvB (s : ByteArray) : jnB (lvB s) = s := by
  unfold jnB
  rw [lvB_dl, T.jn_lv, bs_dl]
theorem exp_fix {f : ByteArray} (c u : ByteArray) (h : fixB f = true) : expB f c u = f := by
  unfold expB
  have : (lvB f).map (expL c u) = lvB f := by
    conv => rhs; rw [← List.map_id (lvB f)]
    refine List.map_congr_left fun x hx => ?_
    have := List.all_eq_true.1 h x hx
    simp only [Bool.not_eq_true', Bool.or_eq_false_iff, decide_eq_false_iff_not] at this
    unfold expL
    rw [if_neg this.1, if_neg this.2]; rfl
  rw [this, jn_lvB]
theorem expL_le {c u x : ByteArray} {M : Nat} (hc : c.size ≤ M) (hu : u.size ≤ M) (hx : x.size ≤ M) : (expL c u x).size ≤ M := by
  unfold expL
  split
  · exact hc
  split
  · exact hu
  · exact hx
theorem exps_le {f c u : ByteArray} (hc : c.size ≤ 64) (hu : u.size ≤ 64) (hf : f.size ≤ 1000) : ∀ x ∈ (lvB f).map (expL c u), x.size ≤ 1000 := fun x hx => by
  obtain ⟨y, hy, rfl⟩ := List.mem_map.1 hx
  have := lvB_size_le f y hy
  exact expL_le (by omega) (by omega) (by omega)
theorem lvs_le {f : ByteArray} {M : Nat} (hf : f.size ≤ M) : (lvB f).length ≤ M + 1 := by
  have h1 : (T.lv (dl f)).length = (dl f).count 47 + 1 := T.lv_length _
  have h2 := lvB_length f
  have h3 : (dl f).count 47 ≤ (dl f).length := List.count_le_length
  have h4 := size_dl f
  omega

/-! ### Covering and meeting -/
theorem cov_met : ∀ (a b f : List ByteArray), covB a b = true → metB b f = true → metB a f = true
  | [], b, f, h1, h2 => by
    have : b = [] := List.isEmpty_iff.1 (by unfold covB at h1; exact h1)
    subst this; exact h2
  | x :: a, b, f, h1, h2 => by
    by_cases hx : x = hashB
    · cases f with
      | nil => simp [metB, hx]
      | cons z f => rw [metB, if_pos (.inl hx)]
    · cases b with
      | nil => rw [cov_nil _ hx] at h1; cases h1
      | cons y b =>
        rw [covB, if_neg hx, Bool.and_eq_true] at h1
        have hy : y ≠ hashB := by
          by_cases hp : x = plusB
          · have := h1.1; rw [if_pos hp] at this; exact of_decide_eq_true this
          · have := h1.1; rw [if_neg hp] at this; rw [← of_decide_eq_true this]; exact hx
        cases f with
        | nil => simp [metB, hy] at h2
        | cons z f =>
          rw [metB]
          by_cases hz : z = hashB
          · rw [if_pos (.inr hz)]
          · rw [if_neg (fun h => h.elim hx hz)]
            rw [metB, if_neg (fun h => h.elim hy hz), Bool.and_eq_true] at h2
            rw [cov_met a b f h1.2 h2.2, Bool.and_true]
            by_cases hp : x = plusB
            · simp [hp]
            · have := h1.1; rw [if_neg hp] at this; rw [of_decide_eq_true this]; exact h2.1
theorem sys_plain {s x : ByteArray} {r : List ByteArray} (hs : sysL (dl s) = true) (e : lvB s = x :: r) : sysL (dl x) = true ∧ x ≠ plusB ∧ x ≠ hashB := by
  rw [sys_head, e] at hs
  have hs : sysL (dl x) = true := hs
  exact ⟨hs, fun e => by rw [e] at hs; exact absurd hs (by decide +kernel), fun e => by rw [e] at hs; exact absurd hs (by decide +kernel)⟩
theorem lv_cons (s : ByteArray) : ∃ x r, lvB s = x :: r := by
  cases h : lvB s with
  | nil => exact absurd h (lvB_ne s)
  | cons x r => exact ⟨x, r, rfl⟩
theorem met_iff {a b : ByteArray} (h : (cmRes a b).isSome = true) : cmGate a b = true ∧ metB (lvB a) (lvB b) = true := by
  unfold cmRes at h
  split at h
  · next hg =>
    refine ⟨hg, ?_⟩
    have hg2 := hg
    unfold cmGate at hg2
    simp only [Bool.and_eq_true] at hg2
    rw [Option.isSome_map, com_met _ _ (filOk_of hg2.1.1.1) (filOk_of hg2.1.1.2)] at h
    exact h
  · cases h
theorem met_mk {a b : ByteArray} (hg : cmGate a b = true) (h : metB (lvB a) (lvB b) = true) : (cmRes a b).isSome = true := by
  have hg2 := hg
  unfold cmGate at hg2
  simp only [Bool.and_eq_true] at hg2
  unfold cmRes
  rw [if_pos hg, Option.isSome_map, com_met _ _ (filOk_of hg2.1.1.1) (filOk_of hg2.1.1.2)]
  exact h
/-- what meets a filter meets each that covers it -/
theorem met_mono {a b f : ByteArray} (h1 : coversL a b = true) (h2 : (cmRes b f).isSome = true) : (cmRes a f).isSome = true := by
  obtain ⟨fa, fb, bab, cab⟩ := cov_parts h1
  obtain ⟨hg, hm⟩ := met_iff h2
  unfold cmGate at hg
  simp only [Bool.and_eq_true, Bool.not_eq_true'] at hg
  obtain ⟨⟨⟨_, ff⟩, g1⟩, g2⟩ := hg
  obtain ⟨y, b', eb⟩ := lv_cons b
  obtain ⟨z, f', ef⟩ := lv_cons f
  have k1 : blB a f = false := by
    cases e : blB a f with
    | false => rfl
    | true =>
      unfold blB at e bab g1
      rw [Bool.and_eq_true] at e
      rw [e.2, Bool.and_true] at bab
      rw [e.1, Bool.true_and] at g1
      obtain ⟨z1, z2, z3⟩ := sys_plain e.1 ef
      rw [eb] at g1
      unfold hdW at g1
      simp only [Bool.or_eq_false_iff, decide_eq_false_iff_not] at g1
      rw [eb, ef, metB, if_neg (fun h => h.elim g1.2 z3), Bool.and_eq_true] at hm
      have hyz : y = z := by simpa [g1.1, z2] using hm.1
      rw [sys_head, eb] at bab
      have bab : sysL (dl y) = false := bab
      rw [hyz, z1] at bab; cases bab
  have k2 : blB f a = false := by
    cases e : blB f a with
    | false => rfl
    | true =>
      unfold blB at e g2
      rw [Bool.and_eq_true] at e
      obtain ⟨x, a', ea⟩ := lv_cons a
      obtain ⟨x1, x2, x3⟩ := sys_plain e.1 ea
      have hw : hdW (lvB a) = false := by rw [ea]; unfold hdW; simp [x2, x3]
      have := head_same cab hw (lvB_ne a)
      rw [← sys_head, ← sys_head, e.1] at this
      rw [← this, e.2] at g2; cases g2
  exact met_mk (by unfold cmGate; rw [fa, ff, k1, k2]; rfl) (cov_met _ _ _ cab hm)

/-! ### A shadowed rule never decides -/
theorem forR_mono {a b : Rl} {us : ByteArray} {ac : Int} (h : forR a b.us b.ac = true) (hb : forR b us ac = true) : forR a us ac = true := by
  unfold forR at *
  simp only [Bool.and_eq_true, Bool.or_eq_true, decide_eq_true_eq] at *
  refine ⟨?_, ?_⟩
  · rcases h.1 with h1 | h1
    · exact .inl h1
    · rw [h1]; exact hb.1
  · rcases h.2 with h1 | h1
    · exact .inl h1
    · rw [h1]; exact hb.2
theorem exp_hid {a b : Rl} (c u : ByteArray) (h : hidR a b = true) : expB a.fi c u = expB b.fi c u ∨ coversL (expB a.fi c u) (expB b.fi c u) = true := by
  unfold hidR at h
  simp only [Bool.and_eq_true, Bool.or_eq_true, decide_eq_true_eq] at h
  rcases h.2 with h1 | h1
  · left; rw [h1]
  · right; rw [exp_fix c u h1.1.1, exp_fix c u h1.1.2]; exact h1.2
theorem hid_for {a b : Rl} (h : hidR a b = true) : forR a b.us b.ac = true := by
  unfold hidR at h
  simp only [Bool.and_eq_true] at h
  exact h.1
theorem al_mono {a b : Rl} {c u : ByteArray} {ac : Int} {o : ByteArray} (h : hidR a b = true) (hb : alP c u ac o b = true) : alP c u ac o a = true := by
  unfold alP at *
  rw [Bool.and_eq_true] at *
  refine ⟨forR_mono (hid_for h) hb.1, ?_⟩
  rcases exp_hid c u h with e | e
  · rw [e]; exact hb.2
  · exact match_covers e hb.2
theorem su_mono {a b : Rl} {c u f : ByteArray} (h : hidR a b = true) (hb : suP c u f b = true) : suP c u f a = true := by
  unfold suP at *
  rw [Bool.and_eq_true] at *
  refine ⟨forR_mono (hid_for h) hb.1, ?_⟩
  rcases exp_hid c u h with e | e
  · rw [e]; exact hb.2
  · exact met_mono e hb.2
theorem find_erase {p : Rl → Bool} {l : List Rl} {j : Nat} {x : Rl} (hx : l[j]? = some x) (h : p x = true → ∃ y ∈ l.take j, p y = true) : (l.take j ++ l.drop (j + 1)).find? p = l.find? p := by
  have e : l = l.take j ++ x :: l.drop (j + 1) := by
    obtain ⟨hk, rfl⟩ := List.getElem?_eq_some_iff.1 hx
    rw [← List.drop_eq_getElem_cons hk, List.take_append_drop]
  conv => rhs; rw [e]
  rw [List.find?_append, List.find?_append]
  cases hf : (l.take j).find? p with
  | some y => simp
  | none =>
    cases hp : p x with
    | false => simp [hp]
    | true =>
      obtain ⟨y, hy, hpy⟩ := h hp
      exact absurd hpy (by simpa using List.find?_eq_none.1 hf y hy)
theorem shAt_hid {l : List Rl} {j : Nat} (h : shAt hidR l j = true) : ∃ x, l[j]? = some x ∧ ∃ y ∈ l.take j, hidR y x = true := by
  unfold shAt at h
  split at h
  · next x hx => exact ⟨x, hx, List.any_eq_true.1 h⟩
  · cases h
theorem allow_erase {l : List Rl} {j : Nat} (h : shAt hidR l j = true) (c u : ByteArray) (ac : Int) (o : ByteArray) : allowR (l.take j ++ l.drop (j + 1)) c u ac o = allowR l c u ac o := by
  obtain ⟨x, hx, y, hy, hh⟩ := shAt_hid h
  unfold allowR
  rw [find_erase hx fun hp => ⟨y, hy, al_mono hh hp⟩]
theorem subs_erase {l : List Rl} {j : Nat} (h : shAt hidR l j = true) (c u f : ByteArray) : subsR (l.take j ++ l.drop (j + 1)) c u f = subsR l c u f := by
  obtain ⟨x, hx, y, hy, hh⟩ := shAt_hid h
  unfold subsR
  rw [find_erase hx fun hp => ⟨y, hy, su_mono hh hp⟩]
theorem shAt_pos {P : Rl → Rl → Bool} {l : List Rl} {j : Nat} (h : shAt P l j = true) : 1 ≤ j ∧ j < l.length := by
  unfold shAt at h
  split at h
  · next x hx =>
    refine ⟨?_, (List.getElem?_eq_some_iff.1 hx).1⟩
    rcases Nat.eq_zero_or_pos j with rfl | h1
    · simp at h
    · exact h1
  · cases h
/-- with valid filters both forms of hiding say the same -/
theorem shad_hid {a b : Rl} (_ : T.filterL (dl a.fi) = true) (hb : T.filterL (dl b.fi) = true) : shadR a b = hidR a b := by
  unfold shadR hidR
  by_cases e : a.fi = b.fi
  · rw [e, cov_self hb]; simp
  · simp only [decide_eq_false e, Bool.false_or]
    cases fixB a.fi <;> cases fixB b.fi <;> cases forR a b.us b.ac <;> cases coversL a.fi b.fi <;> rfl
theorem shAt_same {l : List Rl} (h : ∀ x ∈ l, T.filterL (dl x.fi) = true) (j : Nat) : shAt shadR l j = shAt hidR l j := by
  unfold shAt
  cases hx : l[j]? with
  | none => rfl
  | some x =>
    show (l.take j).any _ = (l.take j).any _
    rw [Bool.eq_iff_iff, List.any_eq_true, List.any_eq_true]
    have hxm := h x (List.mem_of_getElem? hx)
    constructor
    · rintro ⟨y, hy, e⟩
      exact ⟨y, hy, by rw [← shad_hid (h y (List.mem_of_mem_take hy)) hxm]; exact e⟩
    · rintro ⟨y, hy, e⟩
      exact ⟨y, hy, by rw [shad_hid (h y (List.mem_of_mem_take hy)) hxm]; exact e⟩
theorem shdw_same {l : List Rl} (h : ∀ x ∈ l, T.filterL (dl x.fi) = true) (k : Nat) : shdw shadR l k = shdw hidR l k := by
  unfold shdw
  rw [show (fun i => shAt shadR l i) = (fun i => shAt hidR l i) from funext (shAt_same h)]
theorem shdw_zero (P : Rl → Rl → Bool) (l : List Rl) : shdw P l 0 = [] := rfl
theorem shdw_yes {P : Rl → Rl → Bool} {l : List Rl} {k : Nat} (h : shAt P l k = true) : shdw P l (k + 1) = shdw P l k ++ [(k : Int)] := by
  unfold shdw
  rw [List.range_succ, List.filter_append]
  simp [h]
theorem shdw_no {P : Rl → Rl → Bool} {l : List Rl} {k : Nat} (h : shAt P l k = false) : shdw P l (k + 1) = shdw P l k := by
  unfold shdw
  rw [List.range_succ, List.filter_append]
  simp [h]
theorem shdw_le (P : Rl → Rl → Bool) (l : List Rl) (k : Nat) : (shdw P l k).length ≤ k := by
  unfold shdw
  rw [List.length_map]
  have := List.length_filter_le (fun i => shAt P l i) (List.range k)
  rwa [List.length_range] at this
theorem shdw_mem {P : Rl → Rl → Bool} {l : List Rl} {k : Nat} {n : Int} (h : n ∈ shdw P l k) : ∃ j : Nat, n = (j : Int) ∧ shAt P l j = true := by
  unfold shdw at h
  obtain ⟨j, hj, rfl⟩ := List.mem_map.1 h
  exact ⟨j, rfl, (List.mem_filter.1 hj).2⟩

/-! ### Who may subscribe is allowed -/
theorem incl {l : List Rl} {c u f n : ByteArray} (h : subsR l c u f = true) (hm : matchesL f n = true) : allowR l c u 2 n = true := by
  unfold subsR at h
  split at h
  · next x hx =>
    rw [Bool.and_eq_true] at h
    rw [List.find?_eq_some_iff_append] at hx
    obtain ⟨hp, l1, l2, e, hn⟩ := hx
    have : l.find? (alP c u 2 n) = some x := by
      rw [List.find?_eq_some_iff_append]
      refine ⟨?_, l1, l2, e, fun y hy => ?_⟩
      · unfold alP
        unfold suP at hp
        rw [Bool.and_eq_true] at *
        exact ⟨hp.1, match_covers h.2 hm⟩
      · have := hn y hy
        unfold alP
        unfold suP at this
        cases h1 : forR y u 2 with
        | false => rfl
        | true =>
          rw [h1] at this
          cases h2 : matchesL (expB y.fi c u) n with
          | false => rfl
          | true => rw [meets_of h2 hm] at this; cases this
    unfold allowR
    rw [this]
    exact h.1
  · cases h
theorem subs_nil (c u f : ByteArray) : subsR [] c u f = false := rfl
theorem allow_nil (c u : ByteArray) (ac : Int) (o : ByteArray) : allowR [] c u ac o = false := rfl
theorem allow_cons (x : Rl) (l : List Rl) (c u : ByteArray) (ac : Int) (o : ByteArray) : allowR (x :: l) c u ac o = if alP c u ac o x then x.al else allowR l c u ac o := by
  unfold allowR
  rw [List.find?_cons]
  cases alP c u ac o x <;> rfl
theorem allow_one (us : ByteArray) (n : Int) (fi c u : ByteArray) (ac : Int) (o : ByteArray) : allowR [⟨true, us, n, fi⟩] c u ac o = alP c u ac o ⟨true, us, n, fi⟩ := by
  rw [allow_cons, allow_nil]
  cases alP c u ac o ⟨true, us, n, fi⟩ <;> rfl
theorem alP_al (a b : Bool) (us : ByteArray) (n : Int) (fi c u : ByteArray) (ac : Int) (o : ByteArray) : alP c u ac o ⟨a, us, n, fi⟩ = alP c u ac o ⟨b, us, n, fi⟩ := rfl

/-! ### Searching -/
theorem find_step {p : Rl → Bool} {l : List Rl} {k : Nat} {x : Rl} (hx : l[k]? = some x) (h : (l.take k).find? p = none) (hp : p x = true) : l.find? p = some x := by
  have e : l = l.take k ++ x :: l.drop (k + 1) := by
    obtain ⟨hk, rfl⟩ := List.getElem?_eq_some_iff.1 hx
    rw [← List.drop_eq_getElem_cons hk, List.take_append_drop]
  rw [e, List.find?_append, h]
  simp [hp]
theorem find_no {p : Rl → Bool} {l : List Rl} {k : Nat} {x : Rl} (hx : l[k]? = some x) (h : (l.take k).find? p = none) (hp : p x = false) : (l.take (k + 1)).find? p = none := by
  rw [List.take_add_one, hx, List.find?_append, h]
  simp [hp]
end Go.Proofs.YtoakhkiiefiebaaDoor.S1
