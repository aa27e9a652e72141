/-
  Reading what was written, whole and torn. Conditions: those named.
-/
import Derived.Test.YtlkkdompcbdbeaaDoorOnly3
namespace Go.Proofs.YtlkkdompcbdbeaaDoor
open Go.RowKit

theorem numR_enc {l r : List UInt8} {k : Nat} {n : Int} (hk : k ≤ l.length) (h1 : -9223372036854775808 ≤ n) (h2 : n ≤ 9223372036854775807) (h : l.drop k = enc n ++ r) : numR l k = (n, ((k + (enc n).length : Nat) : Int), 0) := by
  rw [numR_in hk, h, rd_enc n h1 h2]
  simp [nc_cd]
theorem numR_torn {l : List UInt8} {k j : Nat} {n : Int} (hk : k ≤ l.length) (hj : j < (enc n).length) (h : l.drop k = (enc n).take j) : numR l k = (0, 0, 3) := by
  rw [numR_in hk, h, rd_torn n j hj]
  simp
theorem countR_enc {l r : List UInt8} {k n : Nat} {limit : Int} (hk : k ≤ l.length) (hn : (n : Int) ≤ 9223372036854775807) (hl : (n : Int) ≤ limit) (h : l.drop k = enc n ++ r) : countR l k limit = ((n : Int), ((k + (enc n).length : Nat) : Int), 0) := by
  unfold countR
  rw [numR_enc hk (by omega) hn h]
  simp only
  rw [if_neg (by simp), if_neg (by omega), if_neg (by omega)]
theorem countR_torn {l : List UInt8} {k j : Nat} {n limit : Int} (hk : k ≤ l.length) (hj : j < (enc n).length) (h : l.drop k = (enc n).take j) : countR l k limit = (0, 0, 3) := by
  unfold countR
  rw [numR_torn hk hj h]
  simp
theorem encT_len2 (s : ByteArray) : (encT s).length = (enc s.size).length + s.size := by unfold encT; rw [List.length_append, size_dl]
theorem textR_enc {l r : List UInt8} {k : Nat} {s : ByteArray} {limit : Int} (hk : k ≤ l.length) (hs : (s.size : Int) ≤ 9223372036854775807) (hl : (s.size : Int) ≤ limit) (h : l.drop k = encT s ++ r) : textR l k limit = (s, ((k + (encT s).length : Nat) : Int), 0) := by
  have hlen := congrArg List.length h
  rw [List.length_drop, List.length_append, encT_len2] at hlen
  have hc : countR l k limit = ((s.size : Int), ((k + (enc s.size).length : Nat) : Int), 0) := countR_enc hk hs hl (r := dl s ++ r) (by rw [h]; unfold encT; rw [List.append_assoc])
  unfold textR
  rw [hc]
  simp only
  rw [if_neg (by simp), if_neg (by omega), Int.toNat_natCast, Int.toNat_natCast]
  have e1 : (l.drop (k + (enc s.size).length)).take s.size = dl s := by
    rw [← List.drop_drop, h]
    unfold encT
    rw [List.append_assoc, List.drop_left, List.take_left' (size_dl s).symm]
  rw [e1, bs_dl, encT_len2]
  congr 2
  omega
theorem textR_torn {l : List UInt8} {k j : Nat} {s : ByteArray} {limit : Int} (hk : k ≤ l.length) (hs : (s.size : Int) ≤ 9223372036854775807) (hl : (s.size : Int) ≤ limit) (hj : j < (encT s).length) (h : l.drop k = (encT s).take j) : (textR l k limit).2.2 = 3 := by
  by_cases h1 : j < (enc s.size).length
  · have hc : countR l k limit = (0, 0, 3) := countR_torn hk h1 (by rw [h]; unfold encT; rw [List.take_append_of_le_length (by omega)])
    unfold textR
    rw [hc]
    simp
  · have hlen := congrArg List.length h
    rw [List.length_drop, List.length_take] at hlen
    rw [encT_len2] at hj hlen
    have hc : countR l k limit = ((s.size : Int), ((k + (enc s.size).length : Nat) : Int), 0) := countR_enc hk hs hl (r := (dl s).take (j - (enc s.size).length)) (by
      rw [h]; unfold encT; rw [List.take_append, List.take_of_length_le (by omega)])
    unfold textR
    rw [hc]
    simp only
    rw [if_neg (by simp), if_pos (by omega)]
theorem encTs_cons (y : ByteArray) (ys : List ByteArray) : encTs (y :: ys) = encT y ++ encTs ys := by simp [encTs]
theorem textsF_enc {l : List UInt8} {limit : Int} : ∀ (ys : List ByteArray) (p : Nat) (r : List UInt8) (acc : List ByteArray), p ≤ l.length → (∀ y ∈ ys, (y.size : Int) ≤ 9223372036854775807 ∧ (y.size : Int) ≤ limit) → l.drop p = encTs ys ++ r →
    textsF ys.length l (p : Int) limit acc = (acc ++ ys, ((p + (encTs ys).length : Nat) : Int), 0) := by
  intro ys
  induction ys with
  | nil => intro p r acc _ _ _; simp [textsF, encTs]
  | cons y ys ih =>
    intro p r acc hp hy h
    rw [encTs_cons, List.append_assoc] at h
    have hlen := congrArg List.length h
    rw [List.length_drop, List.length_append] at hlen
    have ht := textR_enc hp (hy y (by simp)).1 (hy y (by simp)).2 h
    rw [List.length_cons, textsF, ht]
    simp only
    rw [if_neg (by simp), ih (p + (encT y).length) r _ (by omega) (fun z hz => hy z (by simp [hz])) (by rw [← List.drop_drop, h, List.drop_left]), encTs_cons]
    simp [Nat.add_assoc]
theorem textsF_torn {l : List UInt8} {limit : Int} : ∀ (ys : List ByteArray) (p j : Nat) (acc : List ByteArray), p ≤ l.length → (∀ y ∈ ys, (y.size : Int) ≤ 9223372036854775807 ∧ (y.size : Int) ≤ limit) → j < (encTs ys).length → l.drop p = (encTs ys).take j →
    (textsF ys.length l (p : Int) limit acc).2.2 = 3 := by
  intro ys
  induction ys with
  | nil => intro p j acc _ _ hj _; simp [encTs] at hj
  | cons y ys ih =>
    intro p j acc hp hy hj h
    rw [encTs_cons] at hj h
    rw [List.length_append] at hj
    by_cases h1 : j < (encT y).length
    · have ht := textR_torn hp (hy y (by simp)).1 (hy y (by simp)).2 h1 (by rw [h, List.take_append_of_le_length (by omega)])
      rw [List.length_cons, textsF, ht]
      rw [if_pos (by simp)]
    · rw [List.take_append, List.take_of_length_le (by omega)] at h
      have hlen := congrArg List.length h
      rw [List.length_drop, List.length_append] at hlen
      have ht := textR_enc hp (hy y (by simp)).1 (hy y (by simp)).2 h
      rw [List.length_cons, textsF, ht]
      simp only
      rw [if_neg (by simp)]
      exact ih (p + (encT y).length) (j - (encT y).length) _ (by omega) (fun z hz => hy z (by simp [hz])) (by omega) (by rw [← List.drop_drop, h, List.drop_left])
theorem textsR_enc {l r : List UInt8} {k : Nat} {xs : List ByteArray} {limit : Int} (hk : k ≤ l.length) (hx : (xs.length : Int) ≤ 9223372036854775807) (hl : (xs.length : Int) ≤ limit) (hy : ∀ y ∈ xs, (y.size : Int) ≤ 9223372036854775807 ∧ (y.size : Int) ≤ limit) (h : l.drop k = encL xs ++ r) :
    textsR l k limit = (xs, ((k + (encL xs).length : Nat) : Int), 0) := by
  have h' := h
  unfold encL at h'
  rw [List.append_assoc] at h'
  have hlen := congrArg List.length h'
  rw [List.length_drop, List.length_append] at hlen
  unfold textsR
  rw [countR_enc hk hx hl h']
  simp only
  rw [if_neg (by simp), Int.toNat_natCast, textsF_enc xs (k + (enc xs.length).length) r [] (by omega) hy (by rw [← List.drop_drop, h', List.drop_left])]
  unfold encL
  simp [Nat.add_assoc]
theorem textsR_torn {l : List UInt8} {k j : Nat} {xs : List ByteArray} {limit : Int} (hk : k ≤ l.length) (hx : (xs.length : Int) ≤ 9223372036854775807) (hl : (xs.length : Int) ≤ limit) (hy : ∀ y ∈ xs, (y.size : Int) ≤ 9223372036854775807 ∧ (y.size : Int) ≤ limit) (hj : j < (encL xs).length) (h : l.drop k = (encL xs).take j) :
    (textsR l k limit).2.2 = 3 := by
  unfold encL at hj h
  rw [List.length_append] at hj
  by_cases h1 : j < (enc xs.length).length
  · unfold textsR
    rw [countR_torn hk h1 (by rw [h, List.take_append_of_le_length (by omega)])]
    rw [if_pos (by simp)]
  · rw [List.take_append, List.take_of_length_le (by omega)] at h
    have hlen := congrArg List.length h
    rw [List.length_drop, List.length_append] at hlen
    unfold textsR
    rw [countR_enc hk hx hl h]
    simp only
    rw [if_neg (by simp), Int.toNat_natCast]
    exact textsF_torn xs (k + (enc xs.length).length) (j - (enc xs.length).length) [] (by omega) hy (by omega) (by rw [← List.drop_drop, h, List.drop_left])

end Go.Proofs.YtlkkdompcbdbeaaDoor
