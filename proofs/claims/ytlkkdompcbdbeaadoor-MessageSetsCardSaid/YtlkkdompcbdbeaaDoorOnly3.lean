/-
  What a list that was read says of the bytes that were read. Conditions: none.
-/
import Derived.Test.YtlkkdompcbdbeaaDoorLawK2
namespace Go.Proofs.YtlkkdompcbdbeaaDoor
open Go.RowKit

theorem take_join {α : Type} (l : List α) (a b c : Nat) : (l.drop a).take b ++ (l.drop (a + b)).take c = (l.drop a).take (b + c) := by
  rw [← List.drop_drop, ← List.take_add]

theorem textsF_only {l : List UInt8} {limit : Int} : ∀ (n p : Nat) (acc xs : List ByteArray) (nx : Int), p ≤ l.length → textsF n l (p : Int) limit acc = (xs, nx, 0) →
    ∃ (ys : List ByteArray) (j : Nat), xs = acc ++ ys ∧ ys.length = n ∧ nx = ((p + j : Nat) : Int) ∧ p + j ≤ l.length ∧ encTs ys = (l.drop p).take j := by
  intro n
  induction n with
  | zero =>
    intro p acc xs nx hp h
    simp only [textsF, Prod.mk.injEq, and_true] at h
    obtain ⟨rfl, rfl⟩ := h
    exact ⟨[], 0, by simp, rfl, by simp, by omega, by simp [encTs]⟩
  | succ n ih =>
    intro p acc xs nx hp h
    rw [textsF] at h
    split at h
    · next h0 => simp only [Prod.mk.injEq] at h; exact absurd h.2.2 h0
    · next h0 =>
      generalize hr : textR l p limit = r at h h0
      obtain ⟨s, nx', e⟩ := r
      simp only at h h0
      obtain rfl : e = 0 := by omega
      obtain ⟨k, j, h1, rfl, h3, h4, _, h6⟩ := textR_ok hr
      obtain rfl : p = k := by omega
      obtain ⟨ys, j', rfl, rfl, rfl, h7, h8⟩ := ih (p + j) _ _ _ h4 h
      refine ⟨s :: ys, j + j', by simp, rfl, by omega, by omega, ?_⟩
      have e1 : encTs (s :: ys) = encT s ++ encTs ys := by simp [encTs]
      rw [e1, h6, h8]
      exact take_join l p j j'

theorem encL_parts {xs : List ByteArray} {T : List UInt8} (h : encL xs = T) : xs.length ≤ T.length ∧ ∀ x ∈ xs, x.size ≤ T.length := by
  subst h
  have h1 : (encTs xs).length ≤ (encL xs).length := by unfold encL; rw [List.length_append]; omega
  have h2 : ∀ ys : List ByteArray, ys.length ≤ (encTs ys).length ∧ ∀ x ∈ ys, x.size ≤ (encTs ys).length := by
    intro ys
    induction ys with
    | nil => exact ⟨by simp, fun x hx => by cases hx⟩
    | cons y ys ih =>
      have e1 : encTs (y :: ys) = encT y ++ encTs ys := by simp [encTs]
      have e2 := (enc_len y.size).1
      have e3 : (encT y).length = (enc y.size).length + y.size := by unfold encT; rw [List.length_append, size_dl]
      rw [e1, List.length_append, List.length_cons]
      refine ⟨by omega, fun x hx => ?_⟩
      rcases List.mem_cons.1 hx with rfl | hx
      · omega
      · have := ih.2 x hx; omega
  have h3 := h2 xs
  exact ⟨by omega, fun x hx => by have := h3.2 x hx; omega⟩

/-- a list that was read -/
theorem textsR_only {l : List UInt8} {limit nx : Int} {xs : List ByteArray} (h : textsR l 0 limit = (xs, nx, 0)) :
    ∃ k : Nat, nx = (k : Int) ∧ 1 ≤ k ∧ k ≤ l.length ∧ (xs.length : Int) ≤ limit ∧ encL xs = l.take k := by
  unfold textsR at h
  split at h
  · next h0 => simp only [Prod.mk.injEq] at h; exact absurd h.2.2 h0
  · next h0 =>
    generalize hr : countR l 0 limit = r at h h0
    obtain ⟨n, nx', e⟩ := r
    simp only at h h0
    obtain rfl : e = 0 := by omega
    obtain ⟨k, j, m, h1, rfl, rfl, h2, h3, _, h5, _, h7⟩ := countR_ok hr
    obtain rfl : k = 0 := by omega
    obtain ⟨ys, j', rfl, h8, rfl, h9, h10⟩ := textsF_only _ (0 + j) [] xs nx h5 h
    have e0 : (m : Int).toNat = m := by omega
    rw [e0] at h8
    refine ⟨0 + j + j', rfl, by omega, h9, by omega, ?_⟩
    unfold encL
    rw [h8, h7, h10, take_join l 0 j j', List.drop_zero, Nat.zero_add]
theorem numR_only {l : List UInt8} {n nx : Int} (h : numR l 0 = (n, nx, 0)) :
    ∃ k : Nat, nx = (k : Int) ∧ 1 ≤ k ∧ k ≤ 10 ∧ k ≤ l.length ∧ -9223372036854775808 ≤ n ∧ n ≤ 9223372036854775807 ∧ enc n = l.take k := by
  obtain ⟨k, j, h1, rfl, h3, h4, h5, h6, h7, h8⟩ := numR_ok h
  obtain rfl : k = 0 := by omega
  exact ⟨0 + j, rfl, by omega, by omega, h5, h6, h7, by simpa using h8⟩
theorem textR_only {l : List UInt8} {limit nx : Int} {s : ByteArray} (h : textR l 0 limit = (s, nx, 0)) :
    ∃ k : Nat, nx = (k : Int) ∧ 1 ≤ k ∧ k ≤ l.length ∧ (s.size : Int) ≤ limit ∧ encT s = l.take k := by
  obtain ⟨k, j, h1, rfl, h3, h4, h5, h6⟩ := textR_ok h
  obtain rfl : k = 0 := by omega
  exact ⟨0 + j, rfl, by omega, by omega, h5, by simpa using h6⟩

theorem get_ops (l : List Oper) (i : Nat) (o : Oper) (h : l[i]? = some o) : l.toArray[i]? = some o := by rw [List.getElem?_toArray]; exact h

/-- the first k bytes, as a slice and as a text -/
theorem head_of (A : Option Addr) (c : Nat) (l : List UInt8) (k : Nat) (hk : k ≤ l.length) (hc : l.length ≤ c) (w : World) (hsl : CL bv w w.heap.size A l) :
    ∃ A2 z, z = bs (l.take k) ∧ (∀ w, (Instr.slice 41 (.slice A l.length c) none (some (.int .i64 k)) none).run Tryd.prog w = .ok (.slice A2 k c) w) ∧
      ∀ w', Below w.heap.size w w' → (convert 41 9 (.slice A2 k c)).run Tryd.prog w' = .ok (.string z) w' := by
  obtain ⟨A2, hs, hcl2⟩ := slice_h A c l k hk hc
  have htl : (l.take k).length = k := by rw [List.length_take]; omega
  rw [htl] at hs
  refine ⟨A2, _, rfl, hs, fun w' hb => ?_⟩
  have := conv_str (hcl2 w' _ (hsl.below hb)) c
  rw [htl] at this
  exact this

end Go.Proofs.YtlkkdompcbdbeaaDoor
