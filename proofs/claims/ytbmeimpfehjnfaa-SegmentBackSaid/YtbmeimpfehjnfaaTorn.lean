/-
  Frames one after the other that end anywhere: which are found. No function of the program is walked here.
-/
import Derived.Test.YtbmeimpfehjnfaaBack
namespace Go.Proofs.Ytbmeimpfehjnfaa
open Go.RowKit

/-- frames, one after the other -/
def cat (l : List (List UInt8)) : List UInt8 := (l.map wrapR).flatten
theorem cat_succ {l : List (List UInt8)} {k : Nat} {x : List UInt8} (h : l[k]? = some x) : cat (l.take (k + 1)) = cat (l.take k) ++ wrapR x := by
  unfold cat
  rw [List.take_add_one, h]
  simp
theorem cat_split (l : List (List UInt8)) (k : Nat) : cat l = cat (l.take k) ++ cat (l.drop k) := by
  unfold cat
  rw [← List.flatten_append, ← List.map_append, List.take_append_drop]
theorem cat_mono (l : List (List UInt8)) {a b : Nat} (h : a ≤ b) : (cat (l.take a)).length ≤ (cat (l.take b)).length := by
  have := cat_split (l.take b) a
  rw [List.take_take, Nat.min_eq_left h] at this
  rw [this, List.length_append]
  omega
theorem wrap_pos {x : List UInt8} (h : x.length ≤ 65536) : 5 ≤ (wrapR x).length := by
  rw [wrap_len h]
  have := (enc_len x.length).1
  omega
theorem cat_len (l : List (List UInt8)) (h : ∀ x ∈ l, x.length ≤ 600) : (cat l).length ≤ l.length * 614 := by
  induction l with
  | nil => simp [cat]
  | cons x r ih =>
    have e : cat (x :: r) = wrapR x ++ cat r := by simp [cat]
    have h1 := h x (by simp)
    have h2 := wrap_len (p := x) (by omega)
    have h3 := (enc_len x.length).2
    have h4 := ih (fun y hy => h y (by simp [hy]))
    rw [e, List.length_append, List.length_cons, Nat.succ_mul]
    omega

/-- a frame that ends too early -/
theorem next_torn (pre x : List UInt8) (hx : x.length ≤ 65536) (r : Nat) (hr : r < (wrapR x).length) : nextR (pre ++ (wrapR x).take r) (pre.length : Int) = ([], 0, 3) := by
  have hw := wrap_parts hx
  rw [wrap_len hx] at hr
  rw [hw]
  by_cases h1 : r < (enc x.length).length
  · rw [List.take_append_of_le_length (by omega)]
    have hn : numR (pre ++ (enc x.length).take r) (pre.length : Int) = (0, 0, 3) := by
      rw [numR_in (by simp), drop_pre, rd_torn _ _ h1, if_neg (by decide)]
      rfl
    unfold nextR countR
    rw [hn]
    rfl
  · have e : (enc x.length ++ (sum4 (sumR x) ++ x)).take r = enc x.length ++ (sum4 (sumR x) ++ x).take (r - (enc x.length).length) := by
      rw [List.take_append, List.take_of_length_le (by omega)]
    rw [e]
    unfold nextR
    rw [countR_enc pre _ x.length 65536 (by omega) (by omega)]
    dsimp only
    rw [if_neg (by decide), if_pos]
    have h4 : (sum4 (sumR x)).length = 4 := rfl
    simp only [List.length_append, List.length_take, h4]
    omega

/-- how many frames are whole -/
def WholeN (l : List (List UInt8)) (cut j q : Nat) : Prop := q ≤ j ∧ (cat (l.take q)).length ≤ cut ∧ (q < j → cut < (cat (l.take (q + 1))).length)
theorem WholeN.start (l : List (List UInt8)) (cut : Nat) : WholeN l cut 0 0 := ⟨Nat.le_refl _, by simp [cat], fun h => absurd h (Nat.not_lt_zero _)⟩
theorem WholeN.fits {l : List (List UInt8)} {cut j q : Nat} (h : WholeN l cut j q) (hc : (cat (l.take (j + 1))).length ≤ cut) : q = j ∧ WholeN l cut (j + 1) (j + 1) := by
  obtain ⟨h1, h2, h3⟩ := h
  have hq : q = j := by
    by_cases hlt : q < j
    · have := h3 hlt
      have := cat_mono l (show q + 1 ≤ j + 1 by omega)
      omega
    · omega
  exact ⟨hq, Nat.le_refl _, hc, fun h => absurd h (Nat.lt_irrefl _)⟩
theorem WholeN.not {l : List (List UInt8)} {cut j q : Nat} (h : WholeN l cut j q) (hc : cut < (cat (l.take (j + 1))).length) : WholeN l cut (j + 1) q := by
  obtain ⟨h1, h2, h3⟩ := h
  refine ⟨by omega, h2, fun _ => ?_⟩
  by_cases hq : q = j
  · subst hq; exact hc
  · exact h3 (by omega)

theorem all_torn {l : List (List UInt8)} (hl : ∀ x ∈ l, x.length ≤ 600) {cut q : Nat} (hW : WholeN l cut l.length q) (hcut : cut ≤ (cat l).length) :
    ∀ (d i f : Nat), i + d = q → cut + 1 ≤ f + (cat (l.take i)).length → allF f ((cat l).take cut) (cat (l.take i)).length (l.take i) = (l.take q, (cat (l.take q)).length) := by
  intro d
  have hDl : ((cat l).take cut).length = cut := by rw [List.length_take]; omega
  obtain ⟨h1, h2, h3⟩ := hW
  induction d with
  | zero =>
    intro i f hi hf
    obtain rfl : i = q := by omega
    obtain ⟨f, rfl⟩ : ∃ f', f = f' + 1 := ⟨f - 1, by omega⟩
    rw [allF, hDl]
    by_cases hlt : (cat (l.take i)).length < cut
    · rw [if_pos hlt]
      have hin : i < l.length := by
        rcases Nat.lt_or_ge i l.length with h | h
        · exact h
        · rw [List.take_of_length_le h] at hlt
          omega
      obtain ⟨x, hx⟩ : ∃ x, l[i]? = some x := ⟨_, List.getElem?_eq_getElem hin⟩
      have hc := h3 hin
      rw [cat_succ hx, List.length_append] at hc
      have hx6 := hl x (List.mem_of_getElem? hx)
      have e : (cat l).take cut = cat (l.take i) ++ (wrapR x).take (cut - (cat (l.take i)).length) := by
        rw [cat_split l (i + 1), cat_succ hx, List.append_assoc, List.take_append, List.take_of_length_le (by omega), List.take_append_of_le_length (by omega)]
      rw [e, next_torn _ x (by omega) _ (by omega), if_pos (by decide)]
    · rw [if_neg hlt]
  | succ d ih =>
    intro i f hi hf
    have hiq : i + 1 ≤ q := by omega
    have hin : i < l.length := by omega
    obtain ⟨x, hx⟩ : ∃ x, l[i]? = some x := ⟨_, List.getElem?_eq_getElem hin⟩
    have hx6 := hl x (List.mem_of_getElem? hx)
    have hm := cat_mono l hiq
    have hcs := cat_succ hx
    have hcl : (cat (l.take (i + 1))).length = (cat (l.take i)).length + (wrapR x).length := by rw [hcs, List.length_append]
    have hwp := wrap_pos (x := x) (by omega)
    obtain ⟨f, rfl⟩ : ∃ f', f = f' + 1 := ⟨f - 1, by omega⟩
    have e : (cat l).take cut = cat (l.take i) ++ (wrapR x ++ (cat (l.drop (i + 1))).take (cut - (cat (l.take (i + 1))).length)) := by
      conv => lhs; rw [cat_split l (i + 1)]
      rw [List.take_append, List.take_of_length_le (by omega), hcs, List.append_assoc]
    have hnx := next_frame (cat (l.take i)) x ((cat (l.drop (i + 1))).take (cut - (cat (l.take (i + 1))).length)) (by omega)
    rw [← e] at hnx
    rw [allF, hDl, if_pos (by omega), hnx]
    dsimp only
    rw [if_neg (by decide), Int.toNat_natCast, ← hcl]
    have ht : l.take i ++ [x] = l.take (i + 1) := by rw [List.take_add_one, hx]; rfl
    rw [ht]
    exact ih (i + 1) f (by omega) (by omega)
theorem all_torn' {l : List (List UInt8)} (hl : ∀ x ∈ l, x.length ≤ 600) {cut q : Nat} (hW : WholeN l cut l.length q) (hcut : cut ≤ (cat l).length) : allR ((cat l).take cut) = (l.take q, (cat (l.take q)).length) := by
  unfold allR
  have hDl : ((cat l).take cut).length = cut := by rw [List.length_take]; omega
  have := all_torn hl hW hcut q 0 (cut + 1) (by omega) (by omega)
  rw [hDl]
  simpa [cat] using this

end Go.Proofs.Ytbmeimpfehjnfaa
