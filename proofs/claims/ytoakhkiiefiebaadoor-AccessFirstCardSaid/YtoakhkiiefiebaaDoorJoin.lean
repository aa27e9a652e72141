/-
  What Join of the program, Join and light of the specification answer over a list of texts. Conditions: the joined text has at most 2^47 bytes (Join), or each text at most 4096 and the list at most 64 (Join of the specification).
-/
import Derived.Test.YtoakhkiiefiebaaDoorTopic
namespace Go.Proofs.YtoakhkiiefiebaaDoor.S1
open Go.RowKit

def jnB (xs : List ByteArray) : ByteArray := bs (T.jn (xs.map dl))
theorem jn_le (a : List (List UInt8)) (M : Nat) (h : ∀ x ∈ a, x.length ≤ M) : (T.jn a).length ≤ a.length * (M + 1) := by
  induction a with
  | nil => simp [T.jn]
  | cons x r ih =>
    have hx := h x (by simp)
    have hr := ih (fun y hy => h y (by simp [hy]))
    cases r with
    | nil => simp [T.jn]; omega
    | cons y t =>
      rw [T.jn_cons _ _ (by simp), List.length_append, List.length_cons]
      rw [List.length_cons, Nat.succ_mul]
      omega
theorem jnB_size {xs : List ByteArray} {M : Nat} (h : ∀ x ∈ xs, x.size ≤ M) : (jnB xs).size ≤ xs.length * (M + 1) := by
  unfold jnB
  rw [size_dl, dl_bs]
  have := jn_le (xs.map dl) M (fun x hx => by
    obtain ⟨y, hy, rfl⟩ := List.mem_map.1 hx
    rw [← size_dl]; exact h y hy)
  simpa using this

set_option maxHeartbeats 400000 in
theorem tJoin_any (A : Option Addr) (c : Nat) (xs : List ByteArray) (w : World) (h : SL w w.heap.size A xs) (hc : xs.length ≤ c) (hN : xs.length ≤ 140737488355328) (hj : (jnB xs).size ≤ 140737488355328) :
    Calls Tryd.prog 31 #[.slice A xs.length c] w fun e w' => e = .returned (.string (jnB xs)) ∧ Below w.heap.size w w' := by
  have cc : Calls Tryd.prog 56 #[.slice A xs.length c, .string ⟨#[47]⟩] w fun e w' => e = .returned (.string (jnB xs)) ∧ Below w.heap.size w w' := by
    by_cases h0 : 0 < xs.length
    · obtain ⟨b, o, rfl, hb, hcl⟩ := h h0
      have he : Lib.join (xs.map (·.data.toList)) (⟨#[47]⟩ : ByteArray).data.toList = T.jn (xs.map dl) := T.join_jn (xs.map dl)
      refine (Tryd.strings_Join b o c xs ⟨#[47]⟩ w hcl hb hN hc (by rw [he]; unfold jnB at hj; rw [size_dl, dl_bs] at hj; exact hj)).mono fun e w' ⟨h1, h2⟩ => ⟨?_, h2⟩
      rw [h1, he]; rfl
    · have : xs = [] := List.eq_nil_of_length_eq_zero (by omega)
      subst this
      exact (Tryd.strings_Join_none A c ⟨#[47]⟩ w).mono fun e w' ⟨h1, h2⟩ => ⟨h1, h2 ▸ Below.refl _ _⟩
  have HC := Lib.hid cc
  clear cc h
  go_enter Tryd.func31, Tryd.ntmps31
  go_wp2_with fail
  refine HC.out.mono ?_
  rintro e w' ⟨rfl, hb⟩
  go_wp2_with fail
  go_ret
  exact ⟨rfl, hb⟩

/-! ### Join of the specification -/
theorem jnB_nil : jnB [] = ⟨#[]⟩ := rfl
theorem jnB_one (x : ByteArray) : jnB [x] = x := by
  unfold jnB
  show bs (dl x) = x
  exact bs_dl x
theorem jn_snoc (a : List (List UInt8)) (x : List UInt8) (h : a ≠ []) : T.jn (a ++ [x]) = T.jn a ++ 47 :: x := by
  induction a with
  | nil => exact absurd rfl h
  | cons y r ih =>
    cases r with
    | nil => rfl
    | cons z t =>
      rw [List.cons_append, T.jn_cons y _ (by simp), ih (by simp), T.jn_cons y (z :: t) (by simp)]
      simp
theorem jnB_snoc (xs : List ByteArray) (x : ByteArray) (h : xs ≠ []) : jnB (xs ++ [x]) = (jnB xs ++ ⟨#[47]⟩) ++ x := by
  unfold jnB
  rw [List.map_append, List.map_cons, List.map_nil, jn_snoc _ _ (by simpa using h)]
  apply dl_inj
  rw [dl_bs]
  unfold dl bs
  simp
theorem jnB_first (x : ByteArray) : jnB ([] ++ [x]) = jnB [] ++ x := by
  rw [List.nil_append, jnB_one, jnB_nil]
  apply dl_inj
  unfold dl
  simp

set_option maxHeartbeats 1000000 in
theorem rJoin_any (A : Option Addr) (c : Nat) (xs : List ByteArray) (w : World) (B : Nat) (h : SL w B A xs) (hN : xs.length ≤ 1000000) (hM : ∀ x ∈ xs, x.size ≤ 1000000) :
    Calls Tryd.prog 33 #[.slice A xs.length c] w fun e w' => e = .returned (.string (jnB xs)) ∧ w = w' := by
  have HS := Lib.hid h
  have HM := Lib.hid hM
  clear h hM
  go_enter Tryd.func33, Tryd.ntmps33
  go_wp2
  go_loop [3, 4] (fun v i => ∃ k : Nat, k ≤ xs.length ∧ i = .int .i64 k ∧ v = .string (jnB (xs.take k))) (fun _ i => xs.length - (intOf i).toNat)
  case atStart => exact ⟨0, by omega, rfl, rfl⟩
  case round =>
    obtain ⟨k, hk, rfl, rfl⟩ := hrel
    have hjs : (jnB (xs.take k)).size ≤ 1000000 * 1000001 := by
      have := jnB_size (xs := xs.take k) (M := 1000000) (fun x hx => HM.out x (List.mem_of_mem_take hx))
      rw [List.length_take] at this
      exact Nat.le_trans this (Nat.mul_le_mul (by omega) (Nat.le_refl _))
    have hjs2 : ((jnB (xs.take k)).size : Int) ≤ 1000001000000 := by omega
    by_cases hlt : k < xs.length
    · obtain ⟨b, o, rfl, hb, hcl⟩ := HS.out (by omega)
      obtain ⟨x, hx⟩ : ∃ x, xs[k]? = some x := ⟨_, List.getElem?_eq_getElem hlt⟩
      have k1 := hcl k x hx
      have hxs : x.size ≤ 1000000 := HM.out x (List.mem_of_getElem? hx)
      have HT : Hid (xs.take (k + 1) = xs.take k ++ [x]) := Lib.hid (by rw [List.take_add_one, hx]; rfl)
      clear hcl hx
      have HH := Lib.hid hjs
      clear hjs
      by_cases h0 : 0 < k
      · have HNE : Hid (xs.take k ≠ []) := Lib.hid (fun e => by have := congrArg List.length e; rw [List.length_take] at this; simp only [List.length_nil] at this; omega)
        generalize hJ : jnB (xs.take k) = J at hjs2 HH ⊢
        have HJ := Lib.hid hJ
        clear hJ
        go_wp2
        exact ⟨⟨k + 1, by omega, by go_num, by rw [HT.out, jnB_snoc _ _ HNE.out, HJ.out]⟩, by simp [intOf]; omega⟩
      · obtain rfl : k = 0 := by omega
        rw [Nat.add_zero] at k1
        have HT0 : Hid (jnB (xs.take (0 + 1)) = jnB (xs.take 0) ++ x) := Lib.hid (by rw [HT.out]; exact jnB_first x)
        generalize hJ : jnB (xs.take 0) = J at hjs2 HH HT0 ⊢
        clear hJ
        go_wp2
        exact ⟨⟨0 + 1, by omega, by go_num, by rw [HT0.out]⟩, by simp [intOf]; omega⟩
    · have HE : Hid (xs.take k = xs) := Lib.hid (List.take_of_length_le (by omega))
      go_wp2
      go_ret
      exact ⟨by rw [HE.out]; rfl, rfl⟩

/-! ### light -/
def lightB (m : Nat) (xs : List ByteArray) : Bool := decide (xs.length ≤ m) && xs.all fun x => decide (x.size ≤ 4096)
def SmallUpto (xs : List ByteArray) (i : Nat) : Prop := ∀ j x, j < i → xs[j]? = some x → x.size ≤ 4096
theorem SmallUpto.succ {xs : List ByteArray} {i : Nat} {x : ByteArray} (h : SmallUpto xs i) (hx : xs[i]? = some x) (hs : x.size ≤ 4096) : SmallUpto xs (i + 1) := fun j y hj hy => by
  rcases Nat.lt_succ_iff_lt_or_eq.1 hj with h' | h'
  · exact h j y h' hy
  · subst h'
    rw [hx] at hy
    rw [← Option.some.inj hy]; exact hs
theorem light_done {m : Nat} {xs : List ByteArray} (h : SmallUpto xs xs.length) (hl : xs.length ≤ m) : lightB m xs = true := by
  unfold lightB
  rw [decide_eq_true hl, Bool.true_and, List.all_eq_true]
  intro x hx
  obtain ⟨j, hj⟩ := List.mem_iff_getElem?.1 hx
  exact decide_eq_true (h j x (List.getElem?_eq_some_iff.1 hj).1 hj)
theorem light_long {m : Nat} {xs : List ByteArray} (h : m < xs.length) : lightB m xs = false := by
  unfold lightB
  rw [decide_eq_false (by omega)]; rfl
theorem light_bad {m : Nat} {xs : List ByteArray} {i : Nat} {x : ByteArray} (hx : xs[i]? = some x) (hs : ¬ x.size ≤ 4096) : lightB m xs = false := by
  unfold lightB
  have : (xs.all fun x => decide (x.size ≤ 4096)) = false := by
    rw [List.all_eq_false]
    exact ⟨x, List.mem_of_getElem? hx, by simpa using hs⟩
  rw [this]; simp
theorem light_parts {m : Nat} {xs : List ByteArray} (h : lightB m xs = true) : xs.length ≤ m ∧ ∀ x ∈ xs, x.size ≤ 4096 := by
  unfold lightB at h
  rw [Bool.and_eq_true, List.all_eq_true] at h
  exact ⟨of_decide_eq_true h.1, fun x hx => of_decide_eq_true (h.2 x hx)⟩

end Go.Proofs.YtoakhkiiefiebaaDoor.S1
