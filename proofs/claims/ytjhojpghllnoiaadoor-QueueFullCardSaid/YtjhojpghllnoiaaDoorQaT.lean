/-
  The queue that QueueFull fills, as plain data, and what its calls answer. Conditions: the lists read as data; the library's bound on short texts holds a number.
-/
import Derived.Test.YtjhojpghllnoiaaDoorQaS
import Derived.Test.YtjhojpghllnoiaaDoorQaK
namespace Go.Proofs.YtjhojpghllnoiaaDoor
open Go.RowKit

def fe (k : Nat) : En := ⟨(k : Int) + 1, 0, 0, mq 3⟩
def fuL (m : Nat) : List En := (List.range m).map fe
theorem fuL_len (m : Nat) : (fuL m).length = m := by unfold fuL; simp
theorem fuL_succ (m : Nat) : fuL (m + 1) = fuL m ++ [fe m] := by unfold fuL; rw [List.range_succ, List.map_append]; rfl
theorem fuL_mem {m : Nat} {a : En} (h : a ∈ fuL m) : ∃ i, i < m ∧ a = fe i := by
  unfold fuL at h
  obtain ⟨i, hi, rfl⟩ := List.mem_map.1 h
  exact ⟨i, List.mem_range.1 hi, rfl⟩
theorem fe_prec {i j : Nat} (h : i < j) : precR (fe i) (fe j) = true := by
  unfold precR fe
  rw [if_pos rfl]
  exact decide_eq_true (by show (i : Int) + 1 < (j : Int) + 1; omega)
theorem fuL_prec (m : Nat) : ∀ a ∈ fuL m, precR a (fe m) = true := fun a ha => by
  obtain ⟨i, hi, rfl⟩ := fuL_mem ha
  exact fe_prec hi
theorem fuL_sort : ∀ m, SortQ (fuL m)
  | 0 => List.Pairwise.nil
  | m + 1 => by
    rw [fuL_succ]
    refine List.pairwise_append.2 ⟨fuL_sort m, List.pairwise_singleton _ _, fun a ha b hb => ?_⟩
    rw [List.mem_singleton] at hb
    subst hb
    exact fuL_prec m a ha
theorem fuL_ins (m : Nat) : insQ (fuL m) (pushE ((m : Int) + 1) 0 (mq 3)) = fuL (m + 1) := by
  rw [fuL_succ]
  exact insQ_last (fuL_prec m)
theorem fuL_props {ys : List EE} {m : Nat} (h : ys.map EE.x = fuL m) : ∀ y ∈ ys, y.x.m.props.length ≤ 4398046511104 := fun y hy => by
  have h1 : y.x ∈ fuL m := by rw [← h]; exact List.mem_map_of_mem hy
  obtain ⟨i, _, e⟩ := fuL_mem h1
  rw [e]
  exact Nat.zero_le _
theorem mq_ok (p : Int) (h : 0 ≤ p ∧ p ≤ 9) : checkR (mq p) = 0 := by
  unfold checkR mq
  have h1 : validT (⟨#[116]⟩ : ByteArray) = true := by decide +kernel
  simp only [h1]
  have e : propsR [] = 0 := by decide +kernel
  have h2 : ¬ (p < 0 ∨ 9 < p ∨ (0 : Int) < 0 ∨ (1099511627776 : Int) < 0) := by omega
  rw [if_neg h2, e]
  simp
  decide
theorem fPush {s : Sp} {m : Nat} (hm : (m : Int) < s.max) (hs : m ≤ 100) (A : Option Addr) (c : Nat) (ys : List EE) (w : World) (hw : S1.Okw w) (hsl : EI w w.heap.size A ys) (hys : ys.map EE.x = fuL m) :
    Calls Tryd.prog 11 #[quV s ((m : Int) + 1) (.slice A ys.length c), msgV (mq 3) none 0, .int .i64 0] w (RetQ s ((m : Int) + 1 + 1) (fuL (m + 1)) 0 w) := by
  have hl : ys.length = m := by rw [len_map hys, fuL_len]
  have h := qPush_any s ((m : Int) + 1) A c ys (mq 3) none 0 0 w hw hsl (GL.nil _ _ _) (by rw [hys]; exact fuL_sort m) (by omega) (fuL_props hys) (by omega)
  have hk : pushK s ((m : Int) + 1) ys.length (mq 3) 0 = 0 := by
    unfold pushK
    rw [mq_ok 3 (by decide), hl, if_neg (by decide), if_neg (by decide), if_neg (by omega)]
  rw [hk, hys, fuL_ins] at h
  exact h
/-- what is left behind a Pop, and the entry that comes behind it -/
def fuR (m : Nat) : List En := (fuL m).drop 1
def fuE (m : Nat) : En := ⟨(m : Int) + 1, 0, 0, mq 0⟩
theorem fuL_cons {m : Nat} (h : 0 < m) : fuL m = fe 0 :: fuR m := by
  unfold fuR
  cases hf : fuL m with
  | nil => have := fuL_len m; rw [hf] at this; simp at this; omega
  | cons y r =>
    have h0 : (fuL m)[0]? = some (fe 0) := by
      unfold fuL
      rw [List.getElem?_map, List.getElem?_range h]
      rfl
    rw [hf, List.getElem?_cons_zero] at h0
    cases h0
    rfl
theorem fuR_len (m : Nat) : (fuR m).length = m - 1 := by unfold fuR; rw [List.length_drop, fuL_len]
theorem fuR_sort (m : Nat) : SortQ (fuR m) := (fuL_sort m).sublist (List.drop_sublist _ _)
theorem fuR_mem {m : Nat} {a : En} (h : a ∈ fuR m) : ∃ i, i < m ∧ a = fe i := fuL_mem (List.mem_of_mem_drop h)
theorem fuR_ins (m : Nat) : insQ (fuR m) (pushE ((m : Int) + 1) 0 (mq 0)) = fuR m ++ [fuE m] := by
  refine insQ_last (fun a ha => ?_)
  obtain ⟨i, hi, rfl⟩ := fuR_mem ha
  unfold precR
  exact (if_neg (show ¬ (fe i).m.prio = _ from (by decide : ¬ (3 : Int) = 0))).trans (decide_eq_true (show (0 : Int) < 3 by decide))
def fuP (m : Nat) : List En := fuR m ++ [fuE m]
theorem fuP_sort (m : Nat) : SortQ (fuP m) := by
  unfold fuP
  refine List.pairwise_append.2 ⟨fuR_sort m, List.pairwise_singleton _ _, fun a ha b hb => ?_⟩
  rw [List.mem_singleton] at hb
  subst hb
  obtain ⟨i, hi, rfl⟩ := fuR_mem ha
  unfold precR
  exact (if_neg (show ¬ (fe i).m.prio = _ from (by decide : ¬ (3 : Int) = 0))).trans (decide_eq_true (show (0 : Int) < 3 by decide))
theorem fuP_len {m : Nat} (h : 0 < m) : (fuP m).length = m := by unfold fuP; rw [List.length_append, fuR_len]; simp; omega
theorem fu_props {ys : List EE} {L : List En} (h : ys.map EE.x = L) (hL : ∀ a ∈ L, a.m.props = []) : ∀ y ∈ ys, y.x.m.props.length ≤ 4398046511104 := fun y hy => by
  rw [hL y.x (by rw [← h]; exact List.mem_map_of_mem hy)]
  exact Nat.zero_le _
theorem fuR_nil (m : Nat) : ∀ a ∈ fuR m, a.m.props = [] := fun a ha => by
  obtain ⟨i, _, rfl⟩ := fuR_mem ha
  rfl
theorem fuP_nil (m : Nat) : ∀ a ∈ fuP m, a.m.props = [] := fun a ha => by
  rcases List.mem_append.1 ha with h | h
  · exact fuR_nil m a h
  · rw [List.mem_singleton] at h
    subst h
    rfl
theorem fPop {s : Sp} {m : Nat} (h0 : 0 < m) (hs : m ≤ 100) (A : Option Addr) (c : Nat) (ys : List EE) (w : World) (hsl : EI w w.heap.size A ys) (hc : ys.length ≤ c) (hys : ys.map EE.x = fuL m) :
    Calls Tryd.prog 15 #[quV s ((m : Int) + 1) (.slice A ys.length c)] w (RetP s ((m : Int) + 1) (fe 0) (fuR m) w) := by
  have hl : ys.length = m := by rw [len_map hys, fuL_len]
  obtain ⟨y, r, rfl⟩ : ∃ y r, ys = y :: r := List.exists_cons_of_length_pos (by omega)
  have hy : y.x = fe 0 := by
    have h := hys
    rw [fuL_cons h0, List.map_cons] at h
    injection h
  have h := qPop_any s ((m : Int) + 1) A c (y :: r) y w hsl rfl hc (by omega) (fuL_props hys)
  rw [hys, hy] at h
  exact h
theorem fPush0 {s : Sp} {m : Nat} (h0 : 0 < m) (hm : (m : Int) ≤ s.max) (hs : m ≤ 100) (A : Option Addr) (c : Nat) (ys : List EE) (w : World) (hw : S1.Okw w) (hsl : EI w w.heap.size A ys) (hys : ys.map EE.x = fuR m) :
    Calls Tryd.prog 11 #[quV s ((m : Int) + 1) (.slice A ys.length c), msgV (mq 0) none 0, .int .i64 0] w (RetQ s ((m : Int) + 1 + 1) (fuP m) 0 w) := by
  have hl : ys.length = m - 1 := by rw [len_map hys, fuR_len]
  have h := qPush_any s ((m : Int) + 1) A c ys (mq 0) none 0 0 w hw hsl (GL.nil _ _ _) (by rw [hys]; exact fuR_sort m) (by omega) (fu_props hys (fuR_nil m)) (by omega)
  have hk : pushK s ((m : Int) + 1) ys.length (mq 0) 0 = 0 := by
    unfold pushK
    rw [mq_ok 0 (by decide), hl, if_neg (by decide), if_neg (by decide), if_neg (by omega)]
  rw [hk, hys, fuR_ins] at h
  exact h
theorem fPush6 {s : Sp} {m : Nat} (h0 : 0 < m) (hm : s.max ≤ (m : Int)) (hs : m ≤ 100) (A : Option Addr) (c : Nat) (ys : List EE) (w : World) (hw : S1.Okw w) (hsl : EI w w.heap.size A ys) (hys : ys.map EE.x = fuP m) :
    Calls Tryd.prog 11 #[quV s ((m : Int) + 1 + 1) (.slice A ys.length c), msgV (mq 0) none 0, .int .i64 0] w (RetQ Sp.zero 0 [] 6 w) := by
  have hl : ys.length = m := by rw [len_map hys, fuP_len h0]
  have h := qPush_any s ((m : Int) + 1 + 1) A c ys (mq 0) none 0 0 w hw hsl (GL.nil _ _ _) (by rw [hys]; exact fuP_sort m) (by omega) (fu_props hys (fuP_nil m)) (by omega)
  have hk : pushK s ((m : Int) + 1 + 1) ys.length (mq 0) 0 = 6 := by
    unfold pushK
    rw [mq_ok 0 (by decide), hl, if_neg (by decide), if_neg (by decide), if_pos (by omega)]
  rw [hk] at h
  exact h
theorem fLast {s : Sp} (c : Nat) (w : World) (hw : S1.Okw w) :
    Calls Tryd.prog 11 #[quV s 1099511627776 (.slice none 0 c), msgV (mq 1) none 0, .int .i64 0] w (RetQ Sp.zero 0 [] 6 w) := by
  have h := qPush_any s 1099511627776 none c [] (mq 1) none 0 0 w hw (LI.nil _ _ _) (GL.nil _ _ _) List.Pairwise.nil (by decide) (fun y hy => by cases hy) (by decide)
  have hk : pushK s 1099511627776 ([] : List EE).length (mq 1) 0 = 6 := by
    unfold pushK
    rw [mq_ok 1 (by decide), if_neg (by decide), if_neg (by decide), if_pos (by omega)]
  rw [hk] at h
  exact h
theorem fRet {s : Sp} {m : Nat} (h0 : 0 < m) (hs : m ≤ 100) (A : Option Addr) (c : Nat) (ys : List EE) (a : Option Addr) (ac : Nat) (w : World) (hw : S1.Okw w) (hsl : EI w w.heap.size A ys) (hys : ys.map EE.x = fuP m) :
    Calls Tryd.prog 13 #[quV s ((m : Int) + 1 + 1) (.slice A ys.length c), enW (fe 0) a ac] w (RetQ s ((m : Int) + 1 + 1) (insQ (fuP m) (fe 0)) 0 w) := by
  have hl : ys.length = m := by rw [len_map hys, fuP_len h0]
  have h := qReturn_any s ((m : Int) + 1 + 1) A c ys (fe 0) a ac w hw hsl (GL.nil _ _ _) (by rw [hys]; exact fuP_sort m) (by omega) (fu_props hys (fuP_nil m)) (by omega)
  have he : entR (fe 0) ((m : Int) + 1 + 1) = 0 := entR_zero ⟨by decide, by show ((0 : Nat) : Int) + 1 ≤ _; omega⟩ ⟨by decide, by decide⟩ ⟨by decide, by decide⟩ (mq_ok 3 (by decide))
  have hh : hasQ (fuP m) (fe 0).k = false := by
    have hd := List.pairwise_cons.1 (by have := fuL_sort m; rw [fuL_cons h0] at this; exact this)
    refine hasQ_none (fun b hb => ?_)
    rcases List.mem_append.1 hb with hb | hb
    · intro e
      have h1 := hd.1 b hb
      obtain ⟨i, _, rfl⟩ := fuR_mem hb
      have h2 : (i : Int) + 1 = ((0 : Nat) : Int) + 1 := e
      have : i = 0 := by omega
      subst this
      rw [precR_irr] at h1
      cases h1
    · rw [List.mem_singleton] at hb
      subst hb
      show (m : Int) + 1 ≠ ((0 : Nat) : Int) + 1
      omega
  have hk : retK ((m : Int) + 1 + 1) (fuP m) (fe 0) = 0 := by
    unfold retK
    rw [he, hh, fuP_len h0, if_neg (by decide), if_neg (by decide), if_neg (by omega)]
  rw [hys, hk] at h
  exact h
end Go.Proofs.YtjhojpghllnoiaaDoor
