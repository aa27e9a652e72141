/-
  Lists of consumers as plain values: what is valid, whose turn it is, what a change answers, and what follows of it. No program is named here.
-/
import Derived.Test.YtjkhfifnfgchgaaPure
import Derived.Test.YtjkhfifnfgchgaaCell
namespace Go.Proofs.Ytjkhfifnfgchgaa

structure Cs where
  tag : Int
  conn : Int
  qu : ByteArray
  pre : Int
  una : Int
deriving DecidableEq
def inN (n : Int) : Bool := decide (0 ≤ n) && decide (n ≤ 1099511627776)
def isC (cn tg : Int) (x : Cs) : Bool := decide (x.conn = cn) && decide (x.tag = tg)
/-- the first error of a consumer; has: is one of its connection with its tag there already? -/
def oneE (has : Bool) (x : Cs) : Int := if !(inN x.tag && inN x.conn && inN x.pre && inN x.una) then 1 else if !T.nameL (dl x.qu) then 11 else if has then 7 else 0
def oneC (l : List Cs) (x : Cs) : Int := oneE (l.any (isC x.conn x.tag)) x
def chkG : List Cs → List Cs → Int
  | _, [] => 0
  | p, x :: r => if oneC p x = 0 then chkG (p ++ [x]) r else oneC p x
def chkC (l : List Cs) : Int := if 32 < l.length then 5 else chkG [] l
def rdyC (x : Cs) : Bool := decide (x.pre = 0) || decide (x.una < x.pre)
def hitC (q : ByteArray) (x : Cs) : Bool := decide (x.qu = q) && rdyC x
def hitA (l : List Cs) (q : ByteArray) (i : Nat) : Bool := (l[i]?).any (hitC q)
/-- the index behind the first one with this tag, or 0 -/
def begC (t : Int) : List Cs → Nat → Nat
  | [], _ => 0
  | x :: r, k => if x.tag = t then k + 1 else begC t r (k + 1)
/-- the indexes in their order from b on -/
def ixs (n b : Nat) : List Nat := List.range' b (n - b) ++ List.range b
def nxC (l : List Cs) (q : ByteArray) (t : Int) : Option Nat := (ixs l.length (begC t l 0)).find? (hitA l q)
/-- the index of the consumer, from k on -/
def fndC (cn tg : Int) : List Cs → Nat → Option Nat
  | [], _ => none
  | x :: r, k => if isC cn tg x then some k else fndC cn tg r (k + 1)
def fnC (l : List Cs) (cn tg : Int) : Option Nat := fndC cn tg l 0
def addC (l : List Cs) (x : Cs) : List Cs × Int := if oneC l x ≠ 0 then ([], oneC l x) else if 32 ≤ l.length then ([], 6) else (l ++ [x], 0)
def remC (l : List Cs) (cn tg : Int) : List Cs × Int := match fnC l cn tg with
  | none => ([], 8)
  | some i => (l.take i ++ l.drop (i + 1), 0)
def clampC (u n : Int) : Int := min (max (u + min (max n (-2199023255552)) 2199023255552) 0) 1099511627776
def cntC (l : List Cs) (cn tg n : Int) : List Cs := match fnC l cn tg with
  | none => l
  | some i => match l[i]? with
    | none => l
    | some x => l.set i { x with una := clampC x.una n }

/-! ### The search for an index -/
theorem fnd_none {cn tg : Int} : ∀ {l : List Cs} {k : Nat}, fndC cn tg l k = none ↔ l.any (isC cn tg) = false
  | [], k => by simp [fndC]
  | x :: r, k => by
    unfold fndC
    cases h : isC cn tg x with
    | true => simp [h]
    | false => simp [h, fnd_none (l := r)]
theorem fnd_some {cn tg : Int} : ∀ {l : List Cs} {k i : Nat}, fndC cn tg l k = some i → k ≤ i ∧ ∃ x, l[i - k]? = some x ∧ isC cn tg x = true ∧ ∀ j, j < i - k → (l[j]?).any (isC cn tg) = false
  | [], k, i, h => by simp [fndC] at h
  | x :: r, k, i, h => by
    unfold fndC at h
    cases hc : isC cn tg x with
    | true =>
      rw [hc, if_pos rfl] at h
      obtain rfl := Option.some.inj h
      exact ⟨Nat.le_refl _, x, by rw [Nat.sub_self]; rfl, hc, fun j hj => by omega⟩
    | false =>
      rw [hc, if_neg (by simp)] at h
      obtain ⟨h1, y, hy, hy2, hn⟩ := fnd_some h
      have e : i - k = (i - (k + 1)) + 1 := by omega
      refine ⟨by omega, y, by rw [e, List.getElem?_cons_succ]; exact hy, hy2, fun j hj => ?_⟩
      cases j with
      | zero => simpa using hc
      | succ j => rw [List.getElem?_cons_succ]; exact hn j (by omega)
theorem fn_some {l : List Cs} {cn tg : Int} {i : Nat} (h : fnC l cn tg = some i) : ∃ x, l[i]? = some x ∧ x.conn = cn ∧ x.tag = tg ∧ i < l.length := by
  obtain ⟨_, x, hx, h2, _⟩ := fnd_some h
  rw [Nat.sub_zero] at hx
  unfold isC at h2
  simp only [Bool.and_eq_true, decide_eq_true_eq] at h2
  exact ⟨x, hx, h2.1, h2.2, (List.getElem?_eq_some_iff.1 hx).1⟩
theorem fn_none {l : List Cs} {cn tg : Int} : fnC l cn tg = none ↔ l.any (isC cn tg) = false := fnd_none

/-! ### Valid lists -/
def keyC (x : Cs) : Int × Int := (x.conn, x.tag)
theorem is_key {cn tg : Int} {x : Cs} : isC cn tg x = true ↔ keyC x = (cn, tg) := by
  unfold isC keyC
  simp
theorem any_key {cn tg : Int} {l : List Cs} : l.any (isC cn tg) = true ↔ (cn, tg) ∈ l.map keyC := by
  simp only [List.any_eq_true, List.mem_map, is_key]
theorem one_zero {h : Bool} {x : Cs} : oneE h x = 0 ↔ oneE false x = 0 ∧ h = false := by
  unfold oneE
  split
  · simp
  · split
    · simp
    · cases h <;> simp
theorem chkG_zero : ∀ {l p : List Cs}, (p.map keyC).Nodup → (chkG p l = 0 ↔ (∀ x ∈ l, oneE false x = 0) ∧ ((p ++ l).map keyC).Nodup)
  | [], p, hp => by simp [chkG, hp]
  | x :: r, p, hp => by
    unfold chkG
    have e : p ++ x :: r = (p ++ [x]) ++ r := by simp
    by_cases h : oneC p x = 0
    · rw [if_pos h]
      have h2 := (one_zero.1 h)
      have h3 : keyC x ∉ p.map keyC := fun hm => by
        have := any_key.2 hm
        rw [h2.2] at this; cases this
      have hq : ((p ++ [x]).map keyC).Nodup := by
        rw [List.map_append, List.nodup_append]
        refine ⟨hp, by simp, fun a ha b hb => ?_⟩
        simp only [List.map_cons, List.map_nil, List.mem_singleton] at hb
        subst hb
        exact fun e => h3 (e ▸ ha)
      rw [chkG_zero hq, e]
      simp [h2.1]
    · rw [if_neg h]
      refine ⟨fun h0 => absurd h0 h, fun ⟨h1, h2⟩ => absurd ?_ h⟩
      refine one_zero.2 ⟨h1 x (by simp), ?_⟩
      cases ha : p.any (isC x.conn x.tag) with
      | false => rfl
      | true =>
        have hm := any_key.1 ha
        rw [List.map_append, List.nodup_append] at h2
        exact absurd rfl (h2.2.2 _ hm (keyC x) (by simp))
/-- a valid list -/
def OkC (l : List Cs) : Prop := l.length ≤ 32 ∧ (∀ x ∈ l, oneE false x = 0) ∧ (l.map keyC).Nodup
theorem chk_iff {l : List Cs} : chkC l = 0 ↔ OkC l := by
  unfold chkC OkC
  by_cases h : 32 < l.length
  · rw [if_pos h]; exact ⟨fun h => (by cases h), fun h2 => (by omega)⟩
  · rw [if_neg h, chkG_zero (by simp)]
    simp only [List.nil_append]
    exact ⟨fun h2 => ⟨by omega, h2⟩, fun h2 => h2.2⟩
theorem ok_una {x : Cs} {b : Bool} (h : oneE b x = 0) : 0 ≤ x.una ∧ x.una ≤ 1099511627776 := by
  unfold oneE at h
  split at h
  · cases h
  · next h1 =>
    unfold inN at h1
    simp at h1
    omega
theorem ok_any {l : List Cs} (hl : OkC l) {i j : Nat} {x y : Cs} (hx : l[i]? = some x) (hy : l[j]? = some y) (h1 : keyC x = keyC y) : i = j := by
  have hn := hl.2.2
  have e1 : (l.map keyC)[i]? = some (keyC x) := by rw [List.getElem?_map, hx]; rfl
  have e2 : (l.map keyC)[j]? = some (keyC y) := by rw [List.getElem?_map, hy]; rfl
  rw [← h1] at e2
  have hi := (List.getElem?_eq_some_iff.1 e1).1
  exact (List.getElem?_inj hi hn).1 (e1.trans e2.symm)
theorem ok_take {l : List Cs} (h : OkC l) {k : Nat} {x : Cs} (hx : l[k]? = some x) : oneC (l.take k) x = 0 := by
  refine one_zero.2 ⟨h.2.1 x (List.mem_of_getElem? hx), ?_⟩
  cases ha : (l.take k).any (isC x.conn x.tag) with
  | false => rfl
  | true =>
    obtain ⟨y, hy, hk⟩ := List.any_eq_true.1 ha
    obtain ⟨j, hj⟩ := List.mem_iff_getElem?.1 hy
    have hjl := (List.getElem?_eq_some_iff.1 hj).1
    rw [List.length_take] at hjl
    rw [List.getElem?_take, if_pos (by omega)] at hj
    have := ok_any h hj hx (is_key.1 hk)
    omega
/-! ### Changes of a valid list -/
theorem add_ok {l : List Cs} {x : Cs} (hl : OkC l) (h : (addC l x).2 = 0) : (addC l x).1 = l ++ [x] ∧ OkC (l ++ [x]) ∧ l.any (isC x.conn x.tag) = false := by
  unfold addC at h ⊢
  split at h
  · next h1 => exact absurd h h1
  next h1 =>
  split at h
  · cases h
  next h2 =>
  rw [if_neg h1, if_neg h2]
  have h3 : oneC l x = 0 := by omega
  have h4 := one_zero.1 h3
  refine ⟨rfl, ⟨by rw [List.length_append]; simp; omega, fun y hy => ?_, ?_⟩, h4.2⟩
  · rcases List.mem_append.1 hy with hy | hy
    · exact hl.2.1 y hy
    · rw [List.mem_singleton.1 hy]; exact h4.1
  · rw [List.map_append, List.nodup_append]
    refine ⟨hl.2.2, by simp, fun a ha b hb => ?_⟩
    simp only [List.map_cons, List.map_nil, List.mem_singleton] at hb
    subst hb
    intro e
    subst e
    have := any_key.2 ha
    rw [h4.2] at this; cases this
theorem fnd_app {cn tg : Int} {x : Cs} (hx : isC cn tg x = true) : ∀ {l : List Cs} {k : Nat}, l.any (isC cn tg) = false → fndC cn tg (l ++ [x]) k = some (k + l.length)
  | [], k, _ => by simp [fndC, hx]
  | y :: r, k, h => by
    simp only [List.any_cons, Bool.or_eq_false_iff] at h
    simp only [List.cons_append, fndC, h.1, Bool.false_eq_true, if_false]
    rw [fnd_app hx h.2, List.length_cons]
    congr 1; omega
theorem rem_add {l : List Cs} {x : Cs} (h : l.any (isC x.conn x.tag) = false) : remC (l ++ [x]) x.conn x.tag = (l, 0) := by
  have : fnC (l ++ [x]) x.conn x.tag = some (0 + l.length) := fnd_app (by simp [isC]) h
  unfold remC
  rw [this]
  simp
theorem rem_ok {l : List Cs} (hl : OkC l) {cn tg : Int} (h : (remC l cn tg).2 = 0) : OkC (remC l cn tg).1 := by
  unfold remC at h ⊢
  cases hf : fnC l cn tg with
  | none => rw [hf] at h; cases h
  | some i =>
    have hs : (l.take i ++ l.drop (i + 1)).Sublist l := by
      have : (l.take i ++ l.drop (i + 1)).Sublist (l.take i ++ l.drop i) := List.Sublist.append (List.Sublist.refl _) (by
        rw [← List.drop_drop]; exact List.drop_sublist _ _)
      rwa [List.take_append_drop] at this
    exact ⟨Nat.le_trans hs.length_le hl.1, fun x hx => hl.2.1 x (hs.subset hx), (hs.map keyC).nodup hl.2.2⟩
theorem clamp_in (u n : Int) : inN (clampC u n) = true := by
  unfold clampC inN
  simp only [Bool.and_eq_true, decide_eq_true_eq]
  omega
theorem cnt_map {l : List Cs} {cn tg n : Int} : (cntC l cn tg n).map keyC = l.map keyC := by
  unfold cntC
  split
  · rfl
  · next i hf =>
    obtain ⟨x, hx, _, _, hi⟩ := fn_some hf
    rw [hx]
    dsimp only
    rw [List.map_set]
    have e1 : (l.map keyC)[i]? = some (keyC x) := by rw [List.getElem?_map, hx]; rfl
    obtain ⟨hk, e⟩ := List.getElem?_eq_some_iff.1 e1
    show (l.map keyC).set i (keyC x) = _
    rw [← e]
    exact List.set_getElem_self hk
theorem cnt_len {l : List Cs} {cn tg n : Int} : (cntC l cn tg n).length = l.length := by
  have := congrArg List.length (cnt_map (l := l) (cn := cn) (tg := tg) (n := n))
  simpa using this
theorem cnt_ok {l : List Cs} (hl : OkC l) (cn tg n : Int) : OkC (cntC l cn tg n) := by
  refine ⟨by rw [cnt_len]; exact hl.1, fun y hy => ?_, by rw [cnt_map]; exact hl.2.2⟩
  unfold cntC at hy
  split at hy
  · exact hl.2.1 y hy
  · next i hf =>
    obtain ⟨x, hx, _, _, hi⟩ := fn_some hf
    rw [hx] at hy
    dsimp only at hy
    rcases List.mem_or_eq_of_mem_set hy with h | rfl
    · exact hl.2.1 y h
    · have h := hl.2.1 x (List.mem_of_getElem? hx)
      unfold oneE at h ⊢
      dsimp only
      rw [clamp_in]
      split at h
      · cases h
      · next h1 =>
        simp only [Bool.and_eq_true, Bool.not_eq_true', Bool.not_eq_false] at h1
        rw [h1.1.1.1, h1.1.1.2, h1.1.2]
        exact h
/-- what Count leaves as it was -/
theorem cnt_at {l : List Cs} {cn tg n : Int} {i : Nat} {x : Cs} (hx : l[i]? = some x) : ∃ u, (cntC l cn tg n)[i]? = some { x with una := u } ∧ (fnC l cn tg ≠ some i → u = x.una) := by
  unfold cntC
  cases hf : fnC l cn tg with
  | none => exact ⟨x.una, hx, fun _ => rfl⟩
  | some k =>
    obtain ⟨y, hy, _, _, hk⟩ := fn_some hf
    dsimp only
    rw [hy]
    dsimp only
    by_cases hki : k = i
    · subst hki
      rw [hx] at hy
      obtain rfl := Option.some.inj hy
      exact ⟨clampC x.una n, by rw [List.getElem?_set_self hk], fun h => absurd rfl h⟩
    · exact ⟨x.una, by rw [List.getElem?_set_ne hki]; exact hx, fun _ => rfl⟩

/-! ### Turns -/
def hits (l : List Cs) (q : ByteArray) (b : Nat) : List Nat := (ixs l.length b).filter (hitA l q)
theorem nx_hits (l : List Cs) (q : ByteArray) (t : Int) : nxC l q t = (hits l q (begC t l 0)).head? := by
  unfold nxC hits
  rw [List.head?_filter]
theorem ixs_succ {n b : Nat} (h : b < n) : ixs n b = b :: (List.range' (b + 1) (n - (b + 1)) ++ List.range b) ∧ ixs n (b + 1) = (List.range' (b + 1) (n - (b + 1)) ++ List.range b) ++ [b] := by
  unfold ixs
  constructor
  · have e : n - b = (n - (b + 1)) + 1 := by omega
    rw [e, List.range'_succ]; rfl
  · rw [List.range_succ, List.append_assoc]
theorem hits_hit {l : List Cs} {q : ByteArray} {b : Nat} (h : b < l.length) (hh : hitA l q b = true) : ∃ r, hits l q b = b :: r ∧ hits l q (b + 1) = r ++ [b] := by
  obtain ⟨e1, e2⟩ := ixs_succ h
  unfold hits
  rw [e1, e2]
  exact ⟨_, by rw [List.filter_cons_of_pos hh], by rw [List.filter_append]; simp [hh]⟩
theorem hits_no {l : List Cs} {q : ByteArray} {b : Nat} (h : b < l.length) (hh : hitA l q b = false) : hits l q (b + 1) = hits l q b := by
  obtain ⟨e1, e2⟩ := ixs_succ h
  unfold hits
  rw [e1, e2, List.filter_cons_of_neg (by simp [hh]), List.filter_append]
  simp [hh]
theorem hits_end (l : List Cs) (q : ByteArray) : hits l q l.length = hits l q 0 := by
  unfold hits ixs
  rw [Nat.sub_self, Nat.sub_zero, List.range'_zero, List.nil_append, List.range_zero, List.append_nil, List.range_eq_range']
/-- the first hit from b on is at or behind b, or there is none there -/
theorem hits_from {l : List Cs} {q : ByteArray} : ∀ (g b : Nat), b + g = l.length → (∃ p r, b ≤ p ∧ p < l.length ∧ hitA l q p = true ∧ hits l q b = p :: r ∧ hits l q (p + 1) = r ++ [p]) ∨ hits l q b = hits l q l.length ∧ ∀ i, b ≤ i → i < l.length → hitA l q i = false
  | 0, b, h => .inr ⟨by rw [show b = l.length by omega], fun i h1 h2 => by omega⟩
  | g + 1, b, h => by
    cases hh : hitA l q b with
    | true =>
      obtain ⟨r, e1, e2⟩ := hits_hit (by omega) hh
      exact .inl ⟨b, r, Nat.le_refl _, by omega, hh, e1, e2⟩
    | false =>
      have e := hits_no (by omega) hh
      rcases hits_from (l := l) (q := q) g (b + 1) (by omega) with ⟨p, r, h1, h2, h3, h4, h5⟩ | ⟨h1, h2⟩
      · exact .inl ⟨p, r, by omega, h2, h3, by rw [← e]; exact h4, h5⟩
      · refine .inr ⟨by rw [← e]; exact h1, fun i hi1 hi2 => ?_⟩
        by_cases hb : i = b
        · rw [hb]; exact hh
        · exact h2 i (by omega) hi2
theorem hits_turn {l : List Cs} {q : ByteArray} {b p : Nat} {r : List Nat} (hb : b ≤ l.length) (h : hits l q b = p :: r) : p < l.length ∧ hitA l q p = true ∧ hits l q (p + 1) = r ++ [p] := by
  rcases hits_from (l := l) (q := q) (l.length - b) b (by omega) with ⟨p', r', _, h2, h3, h4, h5⟩ | ⟨h1, _⟩
  · rw [h] at h4
    obtain ⟨rfl, rfl⟩ := List.cons.inj h4
    exact ⟨h2, h3, h5⟩
  · rw [h1, hits_end] at h
    rcases hits_from (l := l) (q := q) l.length 0 (by omega) with ⟨p', r', _, h2, h3, h4, h5⟩ | ⟨h1, h2⟩
    · rw [h] at h4
      obtain ⟨rfl, rfl⟩ := List.cons.inj h4
      exact ⟨h2, h3, h5⟩
    · have : hits l q 0 = [] := by
        unfold hits
        rw [List.filter_eq_nil_iff]
        intro i hi
        unfold ixs at hi
        simp at hi
        rw [h2 i (by omega) hi]
        simp
      rw [this] at h; cases h
theorem beg_le {t : Int} : ∀ {l : List Cs} {k : Nat}, begC t l k ≤ k + l.length
  | [], k => by simp [begC]
  | x :: r, k => by
    unfold begC
    split
    · rw [List.length_cons]; omega
    · have := beg_le (t := t) (l := r) (k := k + 1)
      rw [List.length_cons]; omega
/-- tags are different: the index behind one's own -/
theorem beg_at {t : Int} : ∀ {l : List Cs} {k i : Nat} {x : Cs}, (l.map Cs.tag).Nodup → l[i]? = some x → x.tag = t → begC t l k = k + i + 1
  | [], k, i, x, _, h, _ => by simp at h
  | y :: r, k, i, x, hn, h, ht => by
    unfold begC
    cases i with
    | zero =>
      obtain rfl : y = x := by simpa using h
      rw [if_pos ht]
    | succ i =>
      rw [List.getElem?_cons_succ] at h
      rw [List.map_cons, List.nodup_cons] at hn
      rw [if_neg fun e => hn.1 (by rw [e, ← ht]; exact List.mem_map.2 ⟨x, List.mem_of_getElem? h, rfl⟩), beg_at hn.2 h ht]
      omega
/-- each turn moves its consumer to the end of the line -/
theorem nx_turn {l : List Cs} {q : ByteArray} {t : Int} (hn : (l.map Cs.tag).Nodup) {p : Nat} {r : List Nat} (h : hits l q (begC t l 0) = p :: r) :
    ∃ x, l[p]? = some x ∧ hitC q x = true ∧ hits l q (begC x.tag l 0) = r ++ [p] := by
  have hb := beg_le (t := t) (l := l) (k := 0)
  obtain ⟨h1, h2, h3⟩ := hits_turn (by omega) h
  unfold hitA at h2
  obtain ⟨x, hx⟩ : ∃ x, l[p]? = some x := ⟨_, List.getElem?_eq_getElem h1⟩
  rw [hx] at h2
  refine ⟨x, hx, h2, ?_⟩
  rw [beg_at hn hx rfl, Nat.zero_add]
  exact h3
theorem hits_nodup (l : List Cs) (q : ByteArray) (b : Nat) : (hits l q b).Nodup := by
  unfold hits ixs
  refine List.Pairwise.filter _ ?_
  show List.Nodup _
  rw [List.nodup_append]
  refine ⟨List.nodup_range', List.nodup_range, fun a ha c hc => ?_⟩
  rw [List.mem_range'_1] at ha
  rw [List.mem_range] at hc
  omega
theorem hits_len (l : List Cs) (q : ByteArray) {b : Nat} (hb : b ≤ l.length) : (hits l q b).length = (l.filter (hitC q)).length := by
  have h0 : ∀ m, m ≤ l.length → ((List.range m).filter (hitA l q)).length = ((l.take m).filter (hitC q)).length := by
    intro m
    induction m with
    | zero => intro _; rfl
    | succ m ih =>
      intro hm
      obtain ⟨x, hx⟩ : ∃ x, l[m]? = some x := ⟨_, List.getElem?_eq_getElem (by omega)⟩
      rw [List.range_succ, List.filter_append, List.length_append, ih (by omega), List.take_add_one, hx]
      simp only [Option.toList_some, List.filter_append, List.length_append, List.filter_cons, List.filter_nil, hitA, hx, Option.any_some]
      split <;> rfl
  have h1 : ∀ b, b ≤ l.length → (hits l q b).length = (hits l q 0).length := by
    intro b
    induction b with
    | zero => intro _; rfl
    | succ b ih =>
      intro hb
      rw [← ih (by omega)]
      cases hh : hitA l q b with
      | true =>
        obtain ⟨r, e1, e2⟩ := hits_hit (by omega) hh
        rw [e1, e2]; simp
      | false => rw [hits_no (by omega) hh]
  rw [h1 b hb]
  have : hits l q 0 = (List.range l.length).filter (hitA l q) := by unfold hits ixs; simp [List.range_eq_range']
  rw [this, h0 _ (Nat.le_refl _), List.take_length]
/-- the search by numbers: from k on, g steps -/
def nxW (l : List Cs) (q : ByteArray) (b : Nat) : Nat → Nat → Option Nat
  | 0, _ => none
  | g + 1, k => if hitA l q ((b + k) % l.length) then some ((b + k) % l.length) else nxW l q b g (k + 1)
theorem ixs_len {n b : Nat} (hb : b ≤ n) : (ixs n b).length = n := by
  unfold ixs
  rw [List.length_append, List.length_range', List.length_range]; omega
theorem ixs_at {n b k : Nat} (hb : b ≤ n) (hk : k < n) : (ixs n b)[k]? = some ((b + k) % n) := by
  unfold ixs
  by_cases h : k < n - b
  · rw [List.getElem?_append_left (by rw [List.length_range']; exact h), List.getElem?_range' h, Nat.mod_eq_of_lt (by omega), Nat.one_mul]
  · rw [List.getElem?_append_right (by rw [List.length_range']; omega), List.length_range', List.getElem?_range (by omega)]
    congr 1
    rw [Nat.mod_eq_sub_mod (by omega), Nat.mod_eq_of_lt (by omega)]
    omega
theorem nxW_drop {l : List Cs} {q : ByteArray} {b : Nat} (hb : b ≤ l.length) : ∀ {g k : Nat}, k + g = l.length → nxW l q b g k = ((ixs l.length b).drop k).find? (hitA l q)
  | 0, k, h => by
    have : (ixs l.length b).drop k = [] := by rw [List.drop_eq_nil_iff, ixs_len hb]; omega
    rw [this]; rfl
  | g + 1, k, h => by
    have hx := ixs_at (k := k) hb (by omega)
    obtain ⟨hk, he⟩ := List.getElem?_eq_some_iff.1 hx
    rw [List.drop_eq_getElem_cons hk, he, List.find?_cons, nxW, nxW_drop hb (by omega)]
    cases hitA l q ((b + k) % l.length) <;> rfl
theorem nxC_eq (l : List Cs) (q : ByteArray) (t : Int) : nxC l q t = nxW l q (begC t l 0) l.length 0 := by
  rw [nxW_drop (by have := beg_le (t := t) (l := l) (k := 0); omega) (by omega), List.drop_zero]; rfl
end Go.Proofs.Ytjkhfifnfgchgaa
