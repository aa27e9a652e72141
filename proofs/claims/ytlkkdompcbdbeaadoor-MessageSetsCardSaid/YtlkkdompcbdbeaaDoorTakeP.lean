/-
  Reading a message field by field as the program does it: as plain data, and that it yields what the specification's reading yields. No function of the program is walked here.
-/
import Derived.Test.YtlkkdompcbdbeaaDoorCheck
import Derived.Test.YtlkkdompcbdbeaaDoorBack3
namespace Go.Proofs.YtlkkdompcbdbeaaDoor
open Go.RowKit

def mNum (l : List UInt8) (st : Int × Int) : Int × (Int × Int) := if st.2 ≠ 0 then (0, st) else ((numR l st.1).1, ((numR l st.1).2.1, (numR l st.1).2.2))
def mText (l : List UInt8) (limit : Int) (st : Int × Int) : ByteArray × (Int × Int) := if st.2 ≠ 0 then (⟨#[]⟩, st) else ((textR l st.1 limit).1, ((textR l st.1 limit).2.1, (textR l st.1 limit).2.2))
def mBit (l : List UInt8) (st : Int × Int) : Bool × (Int × Int) := (decide ((mNum l st).1 = 1), if withinR (mNum l st).1 1 = true then (mNum l st).2 else ((mNum l st).2.1, 2))
def mCount (l : List UInt8) (st : Int × Int) : Int × (Int × Int) := ((mNum l st).1, if (mNum l st).1 < 0 then ((mNum l st).2.1, 2) else if 8 < (mNum l st).1 then ((mNum l st).2.1, 5) else (mNum l st).2)
def mPropsF (l : List UInt8) : Nat → (Int × Int) → List PR → List PR × (Int × Int)
  | 0, st, acc => (acc, st)
  | n + 1, st, acc => mPropsF l n (mText l 160 (mText l 16 st).2).2 (acc ++ [((mText l 16 st).1, (mText l 160 (mText l 16 st).2).1)])
def mProps (l : List UInt8) (st : Int × Int) : List PR × (Int × Int) := if (mCount l st).2.2 ≠ 0 then ([], (mCount l st).2) else mPropsF l (mCount l st).1.toNat (mCount l st).2 []
def mMsg (l : List UInt8) (st : Int × Int) : Msg × (Int × Int) :=
  let s1 := mText l 64 st
  let s2 := mText l 256 s1.2
  let s3 := mNum l s2.2
  let s4 := mBit l s3.2
  let s5 := mNum l s4.2
  let s6 := mNum l s5.2
  let s7 := mText l 16 s6.2
  let s8 := mNum l s7.2
  let s9 := mProps l s8.2
  (⟨s1.1, s2.1, s3.1, s4.1, s5.1, s6.1, s7.1, s8.1, s9.1⟩, s9.2)
def takeM (l : List UInt8) (p : Int) : Msg × Int × Int :=
  if (mMsg l (p, 0)).2.2 ≠ 0 then (Msg.zero, 0, (mMsg l (p, 0)).2.2) else if checkR (mMsg l (p, 0)).1 ≠ 0 then (Msg.zero, 0, (checkR (mMsg l (p, 0)).1 : Int)) else ((mMsg l (p, 0)).1, (mMsg l (p, 0)).2.1, 0)

/-- two states agree: the same error, and without one the same place -/
def Eqs (a b : Int × Int) : Prop := a.2 = b.2 ∧ (a.2 = 0 → a.1 = b.1)
theorem num_eq (l : List UInt8) {a b : Int × Int} (h : Eqs a b) : (mNum l a).1 = (sNum l b).1 ∧ Eqs (mNum l a).2 (sNum l b).2 := by
  obtain ⟨h1, h2⟩ := h
  unfold mNum sNum
  by_cases he : a.2 = 0
  · have hp := h2 he
    rw [if_neg (by omega), if_neg (by omega), hp]
    generalize hr : numR l b.1 = r
    obtain ⟨n, nx, e⟩ := r
    dsimp only
    by_cases h0 : e = 0
    · rw [if_neg (by simp [h0])]
      subst h0
      exact ⟨rfl, rfl, fun _ => rfl⟩
    · rw [if_pos h0]
      obtain ⟨rfl, rfl, _, _⟩ := numR_bad hr h0
      exact ⟨rfl, rfl, fun h => absurd h h0⟩
  · rw [if_pos he, if_pos (by omega)]
    exact ⟨rfl, h1, h2⟩
theorem textR_bad {l : List UInt8} {p limit nx e : Int} {s : ByteArray} (h : textR l p limit = (s, nx, e)) (he : e ≠ 0) : s = ⟨#[]⟩ ∧ nx = 0 := by
  unfold textR at h
  split at h
  · simp only [Prod.mk.injEq] at h
    exact ⟨h.1.symm, h.2.1.symm⟩
  · split at h
    · simp only [Prod.mk.injEq] at h
      exact ⟨h.1.symm, h.2.1.symm⟩
    · simp only [Prod.mk.injEq] at h
      exact absurd h.2.2.symm he
theorem text_eq (l : List UInt8) (limit : Int) {a b : Int × Int} (h : Eqs a b) : (mText l limit a).1 = (sText l limit b).1 ∧ Eqs (mText l limit a).2 (sText l limit b).2 := by
  obtain ⟨h1, h2⟩ := h
  unfold mText sText
  by_cases he : a.2 = 0
  · have hp := h2 he
    rw [if_neg (by omega), if_neg (by omega), hp]
    generalize hr : textR l b.1 limit = r
    obtain ⟨n, nx, e⟩ := r
    dsimp only
    by_cases h0 : e = 0
    · rw [if_neg (by simp [h0])]
      subst h0
      exact ⟨rfl, rfl, fun _ => rfl⟩
    · rw [if_pos h0]
      obtain ⟨rfl, rfl⟩ := textR_bad hr h0
      exact ⟨rfl, rfl, fun h => absurd h h0⟩
  · rw [if_pos he, if_pos (by omega)]
    exact ⟨rfl, h1, h2⟩
theorem sNum_err {l : List UInt8} {b : Int × Int} (h : (sNum l b).2.2 ≠ 0) : (sNum l b).1 = 0 := by
  unfold sNum at h ⊢
  split
  · rfl
  · next h1 =>
    rw [if_neg h1] at h
    split
    · rfl
    · next h2 => rw [if_neg h2] at h; exact absurd rfl h
theorem bit_eq (l : List UInt8) {a b : Int × Int} (h : Eqs a b) : (mBit l a).1 = decide ((sBelow l 2 b).1 = 1) ∧ Eqs (mBit l a).2 (sBelow l 2 b).2 := by
  obtain ⟨h1, h2, h3⟩ := num_eq l h
  unfold mBit sBelow
  rw [h1]
  have herr := @sNum_err l b
  generalize sNum l b = r at h1 h2 h3 herr ⊢
  generalize (mNum l a).2 = q at h2 h3 ⊢
  obtain ⟨n, st⟩ := r
  obtain ⟨qa, qe⟩ := q
  obtain ⟨sa, se⟩ := st
  dsimp only at h2 h3 herr ⊢
  by_cases hc : se = 0 ∧ (n < 0 ∨ 2 ≤ n)
  · rw [if_pos hc, within_no (by omega), if_neg (by simp)]
    dsimp only
    exact ⟨by rw [decide_eq_false (by omega : ¬ n = 1)]; rfl, rfl, fun h => by cases h⟩
  · rw [if_neg hc]
    by_cases he : se = 0
    · rw [if_neg (by simp [he]), within_yes (by omega), if_pos rfl]
      exact ⟨rfl, h2, h3⟩
    · rw [if_pos he]
      have := herr he
      subst this
      rw [within_yes (by omega), if_pos rfl]
      exact ⟨rfl, h2, h3⟩
theorem count_eq (l : List UInt8) {a b : Int × Int} (h : Eqs a b) : Eqs (mCount l a).2 (sCount l 8 b).2 ∧ ((mCount l a).2.2 = 0 → (mCount l a).1 = (sCount l 8 b).1) := by
  obtain ⟨h1, h2⟩ := h
  unfold mCount sCount
  by_cases he : a.2 = 0
  · have hp := h2 he
    have hm : mNum l a = ((numR l b.1).1, ((numR l b.1).2.1, (numR l b.1).2.2)) := by unfold mNum; rw [if_neg (by omega), hp]
    rw [hm, if_neg (by omega : ¬ b.2 ≠ 0)]
    unfold countR
    generalize hr : numR l b.1 = r
    obtain ⟨n, nx, e⟩ := r
    by_cases h0 : e = 0
    · subst h0
      by_cases hn : n < 0
      · simp [hn, Eqs]
      · by_cases h8 : 8 < n
        · simp [hn, h8, Eqs]
        · simp [hn, h8, Eqs]
    · obtain ⟨rfl, rfl, _, _⟩ := numR_bad hr h0
      simp [h0, Eqs]
  · have hm : mNum l a = (0, a) := by unfold mNum; rw [if_pos he]
    rw [hm, if_pos (by omega : b.2 ≠ 0)]
    refine ⟨?_, fun h => ?_⟩
    · simpa [Eqs] using ⟨h1, h2⟩
    · simp at h
      exact absurd h he
theorem mText_err {l : List UInt8} {limit : Int} {a : Int × Int} (h : a.2 ≠ 0) : mText l limit a = (⟨#[]⟩, a) := by unfold mText; rw [if_pos h]
theorem mPropsF_err (l : List UInt8) : ∀ (n : Nat) (a : Int × Int) (acc : List PR), a.2 ≠ 0 → (mPropsF l n a acc).2 = a := by
  intro n
  induction n with
  | zero => intro a acc _; rfl
  | succ n ih =>
    intro a acc h
    unfold mPropsF
    rw [mText_err h]
    dsimp only
    rw [mText_err h]
    exact ih a _ h
theorem propsF_eq (l : List UInt8) : ∀ (n : Nat) (a b : Int × Int) (acc : List PR), Eqs a b → Eqs (mPropsF l n a acc).2 (sPropsF l n b acc).2 ∧ ((mPropsF l n a acc).2.2 = 0 → (mPropsF l n a acc).1 = (sPropsF l n b acc).1) := by
  intro n
  induction n with
  | zero => intro a b acc h; exact ⟨h, fun _ => rfl⟩
  | succ n ih =>
    intro a b acc h
    by_cases he : a.2 = 0
    · unfold mPropsF sPropsF
      rw [if_neg (by have := h.1; omega)]
      obtain ⟨e1, e2⟩ := text_eq l 16 h
      obtain ⟨e3, e4⟩ := text_eq l 160 e2
      rw [e1, e3]
      exact ih _ _ _ e4
    · have h1 := mPropsF_err l (n + 1) a acc he
      have h2 : sPropsF l (n + 1) b acc = (acc, b) := by
        unfold sPropsF
        rw [if_pos (by have := h.1; omega)]
      rw [h2, h1]
      exact ⟨h, fun h => absurd h he⟩
theorem props_eq (l : List UInt8) {a b : Int × Int} (h : Eqs a b) : Eqs (mProps l a).2 (sPropsF l (sCount l 8 b).1.toNat (sCount l 8 b).2 []).2 ∧ ((mProps l a).2.2 = 0 → (mProps l a).1 = (sPropsF l (sCount l 8 b).1.toNat (sCount l 8 b).2 []).1) := by
  obtain ⟨h1, h2⟩ := count_eq l h
  unfold mProps
  by_cases he : (mCount l a).2.2 = 0
  · rw [if_neg (by omega), h2 he]
    exact propsF_eq l _ _ _ _ h1
  · rw [if_pos he]
    have h3 : sPropsF l (sCount l 8 b).1.toNat (sCount l 8 b).2 [] = ([], (sCount l 8 b).2) := by
      cases (sCount l 8 b).1.toNat with
      | zero => rfl
      | succ n =>
        unfold sPropsF
        rw [if_pos (by have := h1.1; omega)]
    rw [h3]
    exact ⟨h1, fun h => absurd h he⟩
theorem msg_eq (l : List UInt8) (p : Int) : Eqs (mMsg l (p, 0)).2 (sMsg l (p, 0)).2 ∧ ((mMsg l (p, 0)).2.2 = 0 → (mMsg l (p, 0)).1 = (sMsg l (p, 0)).1) := by
  have h0 : Eqs (p, (0 : Int)) (p, 0) := ⟨rfl, fun _ => rfl⟩
  obtain ⟨a1, h1⟩ := text_eq l 64 h0
  obtain ⟨a2, h2⟩ := text_eq l 256 h1
  obtain ⟨a3, h3⟩ := num_eq l h2
  obtain ⟨a4, h4⟩ := bit_eq l h3
  obtain ⟨a5, h5⟩ := num_eq l h4
  obtain ⟨a6, h6⟩ := num_eq l h5
  obtain ⟨a7, h7⟩ := text_eq l 16 h6
  obtain ⟨a8, h8⟩ := num_eq l h7
  obtain ⟨h9, a9⟩ := props_eq l h8
  unfold mMsg sMsg
  dsimp only
  refine ⟨h9, fun h => ?_⟩
  rw [a1, a2, a3, a4, a5, a6, a7, a8, a9 h]
theorem take_eq (l : List UInt8) (p : Int) : takeM l p = takeR l p := by
  obtain ⟨⟨h1, h2⟩, h3⟩ := msg_eq l p
  unfold takeM takeR
  rw [h1]
  by_cases he : (sMsg l (p, 0)).2.2 = 0
  · rw [if_neg (by omega : ¬ (sMsg l (p, 0)).2.2 ≠ 0), h3 (by omega), h2 (by omega), if_neg (by omega : ¬ (sMsg l (p, 0)).2.2 ≠ 0)]
  · rw [if_pos he, if_pos he]

/-! ### The places fit an int -/
def Fit (x : Int) : Prop := -9223372036854775808 ≤ x ∧ x ≤ 9223372036854775807
theorem fit0 : Fit 0 := ⟨by decide, by decide⟩
theorem numR_fit {l : List UInt8} (hn : l.length ≤ 140737488355328) (p : Int) : Fit (numR l p).2.1 ∧ Fit (numR l p).1 := by
  generalize hr : numR l p = r
  obtain ⟨n, nx, e⟩ := r
  by_cases he : e = 0
  · subst he
    obtain ⟨k, j, _, rfl, _, _, h5, h6, h7, _⟩ := numR_ok hr
    exact ⟨⟨by dsimp only; omega, by dsimp only; omega⟩, h6, h7⟩
  · obtain ⟨rfl, rfl, _, _⟩ := numR_bad hr he
    exact ⟨fit0, fit0⟩
theorem textR_fit {l : List UInt8} (hn : l.length ≤ 140737488355328) (p limit : Int) : Fit (textR l p limit).2.1 ∧ (textR l p limit).1.size ≤ l.length := by
  unfold textR
  generalize hr : countR l p limit = r
  obtain ⟨n, nx, e⟩ := r
  dsimp only
  by_cases he : e = 0
  · subst he
    obtain ⟨k, j, m, _, rfl, rfl, _, _, _, h5, _, _⟩ := countR_ok hr
    rw [if_neg (by decide)]
    split
    · exact ⟨fit0, Nat.zero_le _⟩
    · refine ⟨⟨by dsimp only; omega, by dsimp only; omega⟩, ?_⟩
      rw [size_bs, List.length_take, List.length_drop]
      omega
  · rw [if_pos he]
    exact ⟨fit0, Nat.zero_le _⟩
theorem countR_fit {l : List UInt8} (hn : l.length ≤ 140737488355328) (p limit : Int) : Fit (countR l p limit).2.1 ∧ Fit (countR l p limit).1 := by
  unfold countR
  split
  · exact ⟨fit0, fit0⟩
  · split
    · exact ⟨fit0, fit0⟩
    · split
      · exact ⟨fit0, fit0⟩
      · exact numR_fit hn p
theorem mNum_fit {l : List UInt8} (hn : l.length ≤ 140737488355328) {st : Int × Int} (h : Fit st.1) : Fit (mNum l st).2.1 ∧ Fit (mNum l st).1 := by
  unfold mNum
  split
  · exact ⟨h, fit0⟩
  · exact numR_fit hn _
theorem mText_fit {l : List UInt8} (hn : l.length ≤ 140737488355328) (limit : Int) {st : Int × Int} (h : Fit st.1) : Fit (mText l limit st).2.1 ∧ (mText l limit st).1.size ≤ l.length := by
  unfold mText
  split
  · exact ⟨h, Nat.zero_le _⟩
  · exact textR_fit hn _ _

end Go.Proofs.YtlkkdompcbdbeaaDoor
