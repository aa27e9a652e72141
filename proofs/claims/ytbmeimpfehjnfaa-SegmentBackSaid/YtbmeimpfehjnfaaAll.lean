/-
  What All answers, of frame and of its specification, and Same of lists of byte lists; FrameReads. Conditions: so many bytes fit a slice.
-/
import Derived.Test.YtbmeimpfehjnfaaNext2
import Derived.Test.YtbmeimpfehjnfaaAwake4
namespace Go.Proofs.Ytbmeimpfehjnfaa
open Go.RowKit

/-! ### Lists of byte lists -/
/-- the slice with this address reads as these bytes; its block is older than B, or a block of bytes -/
def TL (w : World) (B : Nat) (A : Option Addr) (xs : List UInt8) : Prop :=
  0 < xs.length → ∃ b o, A = some ⟨b, o, none⟩ ∧ b < w.heap.size ∧ (b < B ∨ ∃ cur, w.heap[b]? = some (.cells cur 5 (0, 0))) ∧ ∀ j x, xs[j]? = some x → w.cell? ⟨b, o + j, none⟩ = some (bv x)
theorem TL.cl {w : World} {B : Nat} {A : Option Addr} {xs : List UInt8} (h : TL w B A xs) : CL bv w w.heap.size A xs := fun h0 => by
  obtain ⟨b, o, e, hb, _, hc⟩ := h h0
  exact ⟨b, o, e, hb, hc⟩
theorem TL.step {w w' : World} {B : Nat} {A : Option Addr} {xs : List UInt8} (h : TL w B A xs) (hb : Below w.heap.size w w') : TL w' B A xs := fun h0 => by
  obtain ⟨b, o, e, hlt, hd, hc⟩ := h h0
  refine ⟨b, o, e, Nat.lt_of_lt_of_le hlt hb.size, ?_, fun j x hx => (hb.cell (p := ⟨b, o + j, none⟩) hlt).trans (hc j x hx)⟩
  rcases hd with h1 | ⟨cur, h1⟩
  · exact .inl h1
  · exact .inr ⟨cur, by rw [hb.block b hlt]; exact h1⟩
theorem TL.outer {w w' : World} {B : Nat} {A : Option Addr} {xs : List UInt8} (h : TL w B A xs) {v : Value} {vs : List Value} (hown : Own 22 id w B v vs) (hg : w.grownBy w' v.ownBlock) : TL w' B A xs := fun h0 => by
  obtain ⟨b, o, e, hlt, hd, hc⟩ := h h0
  have hne : some b ≠ v.ownBlock := by
    intro hv
    unfold Own at hown
    rcases hown.2 with ⟨rfl, _⟩ | ⟨g, cap, cur, rfl, hB, hgc, _⟩
    · cases hv
    · have hbg : b = g := by simpa [Value.ownBlock] using hv
      subst hbg
      rcases hd with h1 | ⟨cur', h1⟩
      · omega
      · rw [h1] at hgc
        simp at hgc
  have hblk := hg.block b hlt hne
  refine ⟨b, o, e, Nat.lt_of_lt_of_le hlt hg.size, ?_, fun j x hx => (World.cell?_of_block (a := ⟨b, o + j, none⟩) hblk).trans (hc j x hx)⟩
  rcases hd with h1 | ⟨cur, h1⟩
  · exact .inl h1
  · exact .inr ⟨cur, by rw [hblk]; exact h1⟩
theorem TL.own {w : World} {B B' : Nat} {v : Value} {xs : List UInt8} (h : Own 5 bv w B v xs) : ∃ A c, v = .slice A xs.length c ∧ xs.length ≤ c ∧ TL w B' A xs := by
  have h0 := h
  unfold Own at h
  rcases h.2 with ⟨rfl, hn⟩ | ⟨g, cap, cur, rfl, hb, hg, hnc, hcm, hcs, htake⟩
  · have : xs = [] := List.eq_nil_of_length_eq_zero hn
    subst this
    exact ⟨none, 0, rfl, Nat.le_refl _, fun h => absurd h (by simp)⟩
  · refine ⟨_, cap, rfl, hnc, fun _ => ⟨g, 0, rfl, (Array.getElem?_eq_some_iff.1 hg).1, .inr ⟨cur, hg⟩, fun j x hx => ?_⟩⟩
    have hj : j < xs.length := (List.getElem?_eq_some_iff.1 hx).1
    rw [Nat.zero_add, h0.cellAt j (by omega), List.getElem?_map, hx]; rfl

/-- the values are slices that read as these byte lists -/
def Els (w : World) (B : Nat) (vs : List Value) (xss : List (List UInt8)) : Prop :=
  vs.length = xss.length ∧ ∀ (j : Nat) (v : Value) (xs : List UInt8), vs[j]? = some v → xss[j]? = some xs → ∃ A c, v = .slice A xs.length c ∧ xs.length ≤ c ∧ TL w B A xs
theorem Els.nil (w : World) (B : Nat) : Els w B [] [] := ⟨rfl, fun j v xs h => by simp at h⟩
theorem Els.keep {w w' : World} {B : Nat} {vs : List Value} {xss : List (List UInt8)} (h : Els w B vs xss) (hk : ∀ A xs, TL w B A xs → TL w' B A xs) : Els w' B vs xss :=
  ⟨h.1, fun j v xs h1 h2 => by
    obtain ⟨A, c, e, hc, hcl⟩ := h.2 j v xs h1 h2
    exact ⟨A, c, e, hc, hk _ _ hcl⟩⟩
theorem Els.step {w w' : World} {B : Nat} {vs : List Value} {xss : List (List UInt8)} (h : Els w B vs xss) (hb : Below w.heap.size w w') : Els w' B vs xss := h.keep fun _ _ h => h.step hb
theorem Els.snoc {w : World} {B : Nat} {vs : List Value} {xss : List (List UInt8)} (h : Els w B vs xss) {A : Option Addr} {xs : List UInt8} {n c : Nat} (hn : xs.length = n) (hc : n ≤ c) (hcl : TL w B A xs) :
    Els w B (vs ++ [.slice A n c]) (xss ++ [xs]) := by
  subst hn
  exact ⟨by simp [h.1], fun j v ys h1 h2 => by
    by_cases hj : j < vs.length
    · rw [List.getElem?_append_left hj] at h1
      rw [List.getElem?_append_left (by have := h.1; omega)] at h2
      exact h.2 j v ys h1 h2
    · have hl := h.1
      rw [List.getElem?_append_right (by omega)] at h1
      rw [List.getElem?_append_right (by omega), ← hl] at h2
      by_cases h0 : j - vs.length = 0
      · rw [h0] at h1 h2
        simp at h1 h2
        subst h1; subst h2
        exact ⟨A, c, rfl, hc, hcl⟩
      · rw [List.getElem?_eq_none (by simp; omega)] at h1
        cases h1⟩
/-- a slice of these byte lists, of the call's own -/
def RetAll (r : List (List UInt8) × Nat) (W : World) (e : Ending) (w' : World) : Prop :=
  ∃ v vs, e = .returned (.tuple #[v, .int .i64 (r.2 : Int)]) ∧ Own 22 id w' W.heap.size v vs ∧ Els w' W.heap.size vs r.1 ∧ Below W.heap.size W w'
theorem infoSl : (Try.prog.info? 22).map (fun i => (i.zero, i.size, i.bytes)) = some (some (.slice none 0 0), 1, 24) := by kernel_rfl
/-! ### All -/
def allF : Nat → List UInt8 → Nat → List (List UInt8) → List (List UInt8) × Nat
  | 0, _, p, acc => (acc, p)
  | f + 1, l, p, acc => if p < l.length then (if (nextR l p).2.2 ≠ 0 then (acc, p) else allF f l (nextR l p).2.1.toNat (acc ++ [(nextR l p).1])) else (acc, p)
def allR (l : List UInt8) : List (List UInt8) × Nat := allF (l.length + 1) l 0 []
theorem nextR_ok {l : List UInt8} {p nx : Int} {T : List UInt8} (h : nextR l p = (T, nx, 0)) : ∃ (k j : Nat), p = k ∧ nx = ((k + j + 4 + T.length : Nat) : Int) ∧ 1 ≤ j ∧ k + j + 4 + T.length ≤ l.length ∧ T.length ≤ 65536 ∧ enc T.length = (l.drop k).take j ∧ sum4 (sumR T) = (l.drop (k + j)).take 4 ∧ T = bodyR l (k + j) T.length := by
  unfold nextR at h
  split at h
  · next h0 => simp only [Prod.mk.injEq] at h; omega
  · next h0 =>
    split at h
    · simp at h
    · next h1 =>
      split at h
      · simp at h
      · next h2 =>
        generalize hr : countR l p 65536 = r at h h0 h1 h2
        obtain ⟨n, nx', e⟩ := r
        simp only at h h0 h1 h2
        obtain rfl : e = 0 := by omega
        obtain ⟨k, j, m, rfl, rfl, rfl, h3, h4, _, h5, h6, h7⟩ := countR_ok hr
        simp only [Prod.mk.injEq, and_true, Int.toNat_natCast] at h h2
        obtain ⟨rfl, rfl⟩ := h
        have hbl : (bodyR l (k + j) m).length = m := by unfold bodyR; rw [List.length_take, List.length_drop]; omega
        rw [hbl]
        exact ⟨k, j, rfl, by omega, h4, by omega, by omega, h7, by simpa using h2, rfl⟩

end Go.Proofs.Ytbmeimpfehjnfaa
