/-
  What joins frames and their reading, as lists of bytes: recovered, only, torn, damaged. No function of the program is walked here.
-/
import Derived.Test.YtbmeimpfehjnfaaAll2
namespace Go.Proofs.Ytbmeimpfehjnfaa
open Go.RowKit

theorem drop_pre {pre rest : List UInt8} : (pre ++ rest).drop pre.length = rest := List.drop_left
theorem numR_enc (pre rest : List UInt8) (n : Int) (h1 : -9223372036854775808 ≤ n) (h2 : n ≤ 9223372036854775807) : numR (pre ++ (enc n ++ rest)) (pre.length : Int) = (n, ((pre.length + (enc n).length : Nat) : Int), 0) := by
  rw [numR_in (by simp), drop_pre, rd_enc n h1 h2 rest, if_pos rfl, nc_cd]
  simp
theorem countR_enc (pre rest : List UInt8) (m : Nat) (lim : Int) (hm : (m : Int) ≤ lim) (hm2 : (m : Int) ≤ 9223372036854775807) : countR (pre ++ (enc m ++ rest)) (pre.length : Int) lim = ((m : Int), ((pre.length + (enc m).length : Nat) : Int), 0) := by
  unfold countR
  rw [numR_enc pre rest m (by omega) hm2]
  dsimp only
  rw [if_neg (by decide), if_neg (by omega), if_neg (by omega)]
theorem wrap_parts {p : List UInt8} (hp : p.length ≤ 65536) : wrapR p = enc p.length ++ (sum4 (sumR p) ++ p) := by
  unfold wrapR
  rw [if_neg (by omega), List.append_assoc]
theorem wrap_len {p : List UInt8} (hp : p.length ≤ 65536) : (wrapR p).length = (enc p.length).length + 4 + p.length := by
  rw [wrap_parts hp, List.length_append, List.length_append]
  have : (sum4 (sumR p)).length = 4 := rfl
  omega

/-- a frame whose four bytes and payload are these, read -/
theorem next_parts (pre q T post : List UInt8) (hq : q.length = 4) (hT : T.length ≤ 65536) :
    nextR (pre ++ (enc T.length ++ (q ++ (T ++ post)))) (pre.length : Int) = if sum4 (sumR T) ≠ q then ([], 0, 4) else (T, ((pre.length + (enc T.length).length + 4 + T.length : Nat) : Int), 0) := by
  unfold nextR
  rw [countR_enc pre (q ++ (T ++ post)) T.length 65536 (by omega) (by omega)]
  dsimp only
  rw [if_neg (by decide), Int.toNat_natCast, Int.toNat_natCast]
  have hl : (pre ++ (enc T.length ++ (q ++ (T ++ post)))).length = pre.length + (enc T.length).length + 4 + T.length + post.length := by
    simp only [List.length_append, hq]; omega
  rw [if_neg (by rw [hl]; omega)]
  have e1 : (pre ++ (enc T.length ++ (q ++ (T ++ post)))).drop (pre.length + (enc T.length).length) = q ++ (T ++ post) := by
    rw [← List.append_assoc, ← List.length_append, drop_pre]
  have e2 : (pre ++ (enc T.length ++ (q ++ (T ++ post)))).drop (pre.length + (enc T.length).length + 4) = T ++ post := by
    rw [← List.drop_drop, e1, ← hq, drop_pre]
  have e3 : bodyR (pre ++ (enc T.length ++ (q ++ (T ++ post)))) (pre.length + (enc T.length).length) T.length = T := by
    unfold bodyR
    rw [e2, List.take_left]
  rw [e3, e1]
  have e4 : (q ++ (T ++ post)).take 4 = q := by rw [← hq, List.take_left]
  rw [e4]
  split
  · rfl
  · congr 2
theorem next_frame (pre p post : List UInt8) (hp : p.length ≤ 65536) : nextR (pre ++ (wrapR p ++ post)) (pre.length : Int) = (p, ((pre.length + (wrapR p).length : Nat) : Int), 0) := by
  rw [wrap_len hp, wrap_parts hp]
  have e : pre ++ (enc p.length ++ (sum4 (sumR p) ++ p) ++ post) = pre ++ (enc p.length ++ (sum4 (sumR p) ++ (p ++ post))) := by simp only [List.append_assoc]
  rw [e, next_parts pre (sum4 (sumR p)) p post rfl hp, if_neg (by simp), Nat.add_assoc, Nat.add_assoc, Nat.add_assoc]

theorem nextR_err {l : List UInt8} {p nx e : Int} {T : List UInt8} (h : nextR l p = (T, nx, e)) (he : e ≠ 0) : T = [] ∧ nx = 0 := by
  unfold nextR at h
  split at h
  · simp only [Prod.mk.injEq] at h; exact ⟨h.1.symm, h.2.1.symm⟩
  · split at h
    · simp only [Prod.mk.injEq] at h; exact ⟨h.1.symm, h.2.1.symm⟩
    · split at h
      · simp only [Prod.mk.injEq] at h; exact ⟨h.1.symm, h.2.1.symm⟩
      · simp only [Prod.mk.injEq] at h; exact absurd h.2.2.symm he
/-- what is read from the beginning is a frame -/
theorem next_only {l : List UInt8} {nx : Int} {T : List UInt8} (h : nextR l 0 = (T, nx, 0)) : ∃ k : Nat, nx = k ∧ k ≤ l.length ∧ 5 ≤ k ∧ wrapR T = l.take k ∧ (wrapR T).length = k ∧ T.length ≤ 65536 := by
  obtain ⟨k, j, h1, rfl, h2, h3, h4, h5, h6, h7⟩ := nextR_ok h
  obtain rfl : k = 0 := by omega
  have hw := (wrap_same (l := l) (k := 0) (j := j) (m := T.length) (E := enc T.length) h5 h4 h3 rfl).2 (by rw [← h7]; exact h6)
  rw [← h7] at hw
  have hwl : (wrapR T).length = j + 4 + T.length := by rw [hw, List.length_take, List.length_drop]; omega
  rw [List.drop_zero] at hw
  refine ⟨0 + j + 4 + T.length, rfl, h3, by omega, ?_, by omega, h4⟩
  rw [hw, Nat.zero_add]

/-! ### A changed byte changes the checksum -/
theorem mul_inj {a b : Nat} (ha : a < 4294967296) (hb : b < 4294967296) (h : a * 16777619 % 4294967296 = b * 16777619 % 4294967296) : a = b := by
  have key : ∀ c : Nat, c < 4294967296 → c * 16777619 % 4294967296 * 899433627 % 4294967296 = c := by
    intro c hc
    rw [Nat.mul_mod, Nat.mod_mod, ← Nat.mul_mod, Nat.mul_assoc, Nat.mul_mod, show 16777619 * 899433627 % 4294967296 = 1 by decide +kernel, Nat.mul_one, Nat.mod_mod]
    exact Nat.mod_eq_of_lt hc
  rw [← key a ha, ← key b hb, h]
theorem sumStep_inj_h {h h' : Nat} (hh : h < 4294967296) (hh' : h' < 4294967296) (x : UInt8) (e : sumStep h x = sumStep h' x) : h = h' := by
  have := mul_inj (xor_lt32 hh x) (xor_lt32 hh' x) e
  have h2 : (h ^^^ x.toNat) ^^^ x.toNat = (h' ^^^ x.toNat) ^^^ x.toNat := by rw [this]
  simpa [Nat.xor_assoc] using h2
theorem sumStep_inj_x {h : Nat} (hh : h < 4294967296) {x y : UInt8} (e : sumStep h x = sumStep h y) : x = y := by
  have := mul_inj (xor_lt32 hh x) (xor_lt32 hh y) e
  have h2 : h ^^^ (h ^^^ x.toNat) = h ^^^ (h ^^^ y.toNat) := by rw [this]
  rw [← Nat.xor_assoc, ← Nat.xor_assoc, Nat.xor_self, Nat.zero_xor, Nat.zero_xor] at h2
  exact UInt8.toNat_inj.1 h2
theorem fold_inj (b : List UInt8) : ∀ {h h' : Nat}, h < 4294967296 → h' < 4294967296 → b.foldl sumStep h = b.foldl sumStep h' → h = h' := by
  induction b with
  | nil => intro h h' _ _ e; exact e
  | cons x r ih =>
    intro h h' hh hh' e
    exact sumStep_inj_h hh hh' x (ih (sumStep_lt _ _) (sumStep_lt _ _) e)
theorem sum_changed (a b : List UInt8) {x y : UInt8} (hxy : x ≠ y) : sumR (a ++ x :: b) ≠ sumR (a ++ y :: b) := by
  intro h
  unfold sumR at h
  rw [List.foldl_append, List.foldl_append, List.foldl_cons, List.foldl_cons] at h
  have hl := foldl_lt a 2166136261 (by decide)
  exact hxy (sumStep_inj_x hl (fold_inj b (sumStep_lt _ _) (sumStep_lt _ _) h))
theorem sum4_inj {h h' : Nat} (hh : h < 4294967296) (hh' : h' < 4294967296) (e : sum4 h = sum4 h') : h = h' := by
  have h1 := (sum4_be hh (q := sum4 h') rfl).1 e
  have h2 := (sum4_be hh' (q := sum4 h') rfl).1 rfl
  omega
theorem set_at {l : List UInt8} {i : Nat} {x : UInt8} (hx : l[i]? = some x) (y : UInt8) : l = l.take i ++ x :: l.drop (i + 1) ∧ l.set i y = l.take i ++ y :: l.drop (i + 1) := by
  obtain ⟨h, e⟩ := List.getElem?_eq_some_iff.1 hx
  constructor
  · conv => lhs; rw [← List.take_append_drop i l, List.drop_eq_getElem_cons h, e]
  · rw [List.set_eq_take_append_cons_drop, if_pos h]
/-- a changed byte of the checksum or of the payload -/
theorem next_damaged {p : List UInt8} (hp : p.length ≤ 65536) {k : Nat} {x y : UInt8} (hk : (enc p.length).length ≤ k) (hx : (wrapR p)[k]? = some x) (hxy : y ≠ x) : nextR ((wrapR p).set k y) 0 = ([], 0, 4) := by
  have hw := wrap_parts hp
  have hkl := (List.getElem?_eq_some_iff.1 hx).1
  rw [wrap_len hp] at hkl
  rw [hw] at hx ⊢
  rw [List.getElem?_append_right hk] at hx
  rw [List.set_append_right _ _ hk]
  obtain ⟨j, hj⟩ : ∃ j, j = k - (enc p.length).length := ⟨_, rfl⟩
  rw [← hj] at hx ⊢
  have hs4 : (sum4 (sumR p)).length = 4 := rfl
  by_cases h4 : j < 4
  · rw [List.getElem?_append_left (by omega)] at hx
    rw [List.set_append_left _ _ (by omega)]
    have hne : sum4 (sumR p) ≠ (sum4 (sumR p)).set j y := by
      intro e
      have := congrArg (fun l : List UInt8 => l[j]?) e
      simp only [List.getElem?_set_self (show j < (sum4 (sumR p)).length by omega), hx] at this
      exact hxy (Option.some.inj this).symm
    have := next_parts [] ((sum4 (sumR p)).set j y) p [] (by simp [hs4]) hp
    rw [if_pos hne] at this
    simpa using this
  · rw [List.getElem?_append_right (by omega)] at hx
    rw [List.set_append_right _ _ (by omega), hs4]
    rw [hs4] at hx
    obtain ⟨i, hi⟩ : ∃ i, i = j - 4 := ⟨_, rfl⟩
    rw [← hi] at hx ⊢
    obtain ⟨e1, e2⟩ := set_at hx y
    have hsl : (p.set i y).length = p.length := List.length_set ..
    have hne : sum4 (sumR (p.set i y)) ≠ sum4 (sumR p) := by
      intro e
      have := sum4_inj (sumR_lt _) (sumR_lt _) e
      rw [e2] at this
      conv at this => rhs; rw [e1]
      exact sum_changed _ _ hxy this
    have := next_parts [] (sum4 (sumR p)) (p.set i y) [] hs4 (by omega)
    rw [if_pos hne, hsl] at this
    simpa using this

end Go.Proofs.Ytbmeimpfehjnfaa
