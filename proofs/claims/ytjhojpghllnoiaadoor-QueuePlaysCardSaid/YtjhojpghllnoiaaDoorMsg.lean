/-
  Messages and their properties as plain data: which are valid, the bytes they are written as, what reading yields. No function of the program is walked here.
-/
import Derived.Test.YtjhojpghllnoiaaDoorSpecFilter
import Derived.Test.YtjhojpghllnoiaaDoorBack3
import Derived.Test.YtjhojpghllnoiaaDoorRow
namespace Go.Proofs.YtjhojpghllnoiaaDoor
open Go.RowKit

/-! ### Texts in order -/
theorem bl_irrefl : ∀ x : List UInt8, Op.bytesLess x x = false := by
  intro x
  induction x with
  | nil => rfl
  | cons a x ih => simp [Op.bytesLess, ih]
theorem bl_trans : ∀ x y z : List UInt8, Op.bytesLess x y = true → Op.bytesLess y z = true → Op.bytesLess x z = true := by
  intro x
  induction x with
  | nil =>
    intro y z h1 h2
    cases z with
    | nil => cases y <;> simp [Op.bytesLess] at h2
    | cons c z => rfl
  | cons a x ih =>
    intro y z h1 h2
    cases y with
    | nil => simp [Op.bytesLess] at h1
    | cons b y =>
      cases z with
      | nil => simp [Op.bytesLess] at h2
      | cons c z =>
        simp only [Op.bytesLess, Bool.or_eq_true, Bool.and_eq_true, decide_eq_true_eq, beq_iff_eq] at h1 h2 ⊢
        rcases h1 with h1 | ⟨rfl, h1⟩
        · rcases h2 with h2 | ⟨rfl, h2⟩
          · exact .inl (UInt8.lt_trans h1 h2)
          · exact .inl h1
        · rcases h2 with h2 | ⟨rfl, h2⟩
          · exact .inl h2
          · exact .inr ⟨rfl, ih y z h1 h2⟩
theorem bl_total : ∀ x y : List UInt8, Op.bytesLess x y = false → Op.bytesLess y x = false → x = y := by
  intro x
  induction x with
  | nil =>
    intro y h1 h2
    cases y with
    | nil => rfl
    | cons b y => simp [Op.bytesLess] at h1
  | cons a x ih =>
    intro y h1 h2
    cases y with
    | nil => simp [Op.bytesLess] at h2
    | cons b y =>
      simp only [Op.bytesLess, Bool.or_eq_false_iff, Bool.and_eq_false_iff, decide_eq_false_iff_not, beq_eq_false_iff_ne, ne_eq] at h1 h2
      have hab : a = b := by
        have := h1.1; have := h2.1
        rw [UInt8.lt_iff_toNat_lt] at *
        exact UInt8.toNat_inj.1 (by omega)
      subst hab
      rw [ih y (by simpa using h1.2) (by simpa using h2.2)]
/-- is this text ahead of that one -/
def ltS (a b : ByteArray) : Bool := Op.bytesLess (dl a) (dl b)
theorem ltS_irrefl (a : ByteArray) : ltS a a = false := bl_irrefl _
theorem ltS_trans {a b c : ByteArray} (h1 : ltS a b = true) (h2 : ltS b c = true) : ltS a c = true := bl_trans _ _ _ h1 h2
theorem ltS_total {a b : ByteArray} (h1 : ltS a b = false) (h2 : ltS b a = false) : a = b := dl_inj (bl_total _ _ h1 h2)
theorem ltS_asymm {a b : ByteArray} (h : ltS a b = true) : ltS b a = false := by
  cases h' : ltS b a
  · rfl
  · have := ltS_trans h h'; rw [ltS_irrefl] at this; exact this.symm
theorem ltS_ne {a b : ByteArray} (h : ltS a b = true) : a ≠ b := fun e => by rw [e, ltS_irrefl] at h; cases h
theorem lt_data (a b : ByteArray) : Op.bytesLess a.toList b.toList = ltS a b := by rw [Lib.toList_data, Lib.toList_data]; rfl
theorem eq_data (a b : ByteArray) : (a.toList == b.toList) = decide (a = b) := str_dec a b
/-- 'not after' -/
theorem le_data (a b : ByteArray) : (Op.bytesLess a.toList b.toList || a.toList == b.toList) = !ltS b a := by
  rw [lt_data, eq_data]
  cases h1 : ltS a b
  · cases h2 : ltS b a
    · simp [ltS_total h1 h2]
    · have : a ≠ b := fun e => by rw [e, ltS_irrefl] at h2; cases h2
      simp [this]
  · simp [ltS_asymm h1]

/-! ### Properties -/
abbrev PR := ByteArray × ByteArray
/-- a property's cells -/
def gP (x : PR) : List Value := [.string x.1, .string x.2]
theorem gP_len (x : PR) : (gP x).length = 2 := rfl
theorem gP_one (x : PR) : ∀ u ∈ gP x, u.oneCell' = true := fun u hu => by
  simp only [gP, List.mem_cons, List.not_mem_nil, or_false] at hu
  rcases hu with rfl | rfl <;> rfl
abbrev PL (w : World) (B : Nat) (A : Option Addr) (xs : List PR) : Prop := GL gP 2 w B A xs
theorem PL.at_ {w : World} {B : Nat} {A : Option Addr} {xs : List PR} (h : PL w B A xs) {j : Nat} {x : PR} (hx : xs[j]? = some x) :
    ∃ b o, A = some ⟨b, o, none⟩ ∧ b < B ∧ w.cell? ⟨b, o + j * 2, none⟩ = some (.string x.1) ∧ w.cell? ⟨b, o + j * 2 + 1, none⟩ = some (.string x.2) := by
  obtain ⟨b, o, e, hb, hc⟩ := h (Nat.lt_of_le_of_lt (Nat.zero_le _) (List.getElem?_eq_some_iff.1 hx).1)
  exact ⟨b, o, e, hb, hc j x 0 _ hx rfl, hc j x 1 _ hx rfl⟩

def keyC (c : UInt8) : Bool := (decide (97 ≤ c.toNat) && decide (c.toNat ≤ 122)) || (decide (48 ≤ c.toNat) && decide (c.toNat ≤ 57)) || decide (c.toNat = 45)
def keyR (s : ByteArray) : Bool := decide (1 ≤ s.size) && decide (s.size ≤ 16) && (dl s).all keyC
theorem keyR_size {s : ByteArray} (h : s.size < 1 ∨ 16 < s.size) : keyR s = false := by
  unfold keyR
  rcases h with h | h
  · rw [decide_eq_false (by omega : ¬ 1 ≤ s.size)]; rfl
  · rw [decide_eq_false (by omega : ¬ s.size ≤ 16)]; simp
theorem keyR_len {s : ByteArray} (h : keyR s = true) : 1 ≤ s.size ∧ s.size ≤ 16 := by
  unfold keyR at h
  simp only [Bool.and_eq_true, decide_eq_true_eq] at h
  exact h.1
def KeyUpto (l : List UInt8) (i : Nat) : Prop := ∀ j x, j < i → l[j]? = some x → keyC x = true
theorem KeyUpto.succ {l : List UInt8} {i : Nat} {x : UInt8} (h : KeyUpto l i) (hx : l[i]? = some x) (hs : keyC x = true) : KeyUpto l (i + 1) := fun j y hj hy => by
  rcases Nat.lt_succ_iff_lt_or_eq.1 hj with h' | h'
  · exact h j y h' hy
  · subst h'
    rw [hx] at hy
    rw [← Option.some.inj hy]; exact hs
theorem keyR_done {s : ByteArray} (h : KeyUpto (dl s) s.size) (h1 : 1 ≤ s.size) (h2 : s.size ≤ 16) : keyR s = true := by
  unfold keyR
  rw [decide_eq_true h1, decide_eq_true h2, Bool.true_and, Bool.true_and, List.all_eq_true]
  intro x hx
  obtain ⟨j, hj⟩ := List.mem_iff_getElem?.1 hx
  exact h j x (by rw [size_dl]; exact (List.getElem?_eq_some_iff.1 hj).1) hj
theorem keyR_bad {s : ByteArray} {i : Nat} {x : UInt8} (hx : (dl s)[i]? = some x) (hs : keyC x = false) : keyR s = false := by
  unfold keyR
  have : ((dl s).all keyC) = false := by
    rw [List.all_eq_false]
    exact ⟨x, List.mem_of_getElem? hx, by simp [hs]⟩
  rw [this]; simp

/-- the first error of the properties behind this key -/
def propsF : Option ByteArray → List PR → Nat
  | _, [] => 0
  | p, x :: r => if keyR x.1 = false then 16 else if 160 < x.2.size then 5 else if (match p with | none => false | some q => !ltS q x.1) = true then 16 else propsF (some x.1) r
def propsR (l : List PR) : Nat := if 8 < l.length then 5 else propsF none l
def getR : List PR → ByteArray → ByteArray × Bool
  | [], _ => (⟨#[]⟩, false)
  | x :: r, key => if x.1 = key then (x.2, true) else getR r key
def setL (l : List PR) (key value : ByteArray) : List PR := l.filter (fun x => ltS x.1 key) ++ [(key, value)] ++ l.filter (fun x => ltS key x.1)
def setR (l : List PR) (key value : ByteArray) : List PR × Nat :=
  if propsR l ≠ 0 then ([], propsR l) else if keyR key = false then ([], 16) else if 160 < value.size ∨ (l.length = 8 ∧ (getR l key).2 = false) then ([], 5) else (setL l key value, 0)

/-! ### Messages -/
structure Msg where
  topic : ByteArray
  payload : ByteArray
  level : Int
  retain : Bool
  prio : Int
  exps : Int
  frm : ByteArray
  seq : Int
  props : List PR
/-- a message's cells, its properties' slice at this address -/
def msgC (m : Msg) (A : Option Addr) (c : Nat) : List Value := [.string m.topic, .string m.payload, .int .i64 m.level, .bool m.retain, .int .i64 m.prio, .int .i64 m.exps, .string m.frm, .int .i64 m.seq, .slice A m.props.length c]
def msgV (m : Msg) (A : Option Addr) (c : Nat) : Value := .agg #[.string m.topic, .string m.payload, .int .i64 m.level, .bool m.retain, .int .i64 m.prio, .int .i64 m.exps, .string m.frm, .int .i64 m.seq, .slice A m.props.length c]
/-- its numbers fit -/
def Msg.fits (m : Msg) : Prop := (-9223372036854775808 ≤ m.level ∧ m.level ≤ 9223372036854775807) ∧ (-9223372036854775808 ≤ m.prio ∧ m.prio ≤ 9223372036854775807) ∧ (-9223372036854775808 ≤ m.exps ∧ m.exps ≤ 9223372036854775807) ∧ (-9223372036854775808 ≤ m.seq ∧ m.seq ≤ 9223372036854775807)
def Msg.zero : Msg := ⟨⟨#[]⟩, ⟨#[]⟩, 0, false, 0, 0, ⟨#[]⟩, 0, []⟩
def validT (s : ByteArray) : Bool := S1.T.validL (S1.dl s)
def nameR (s : ByteArray) : Bool := S1.T.nameL s.data.toList
def checkR (m : Msg) : Nat :=
  if validT m.topic = false then 12 else if 256 < m.payload.size then 5 else if m.level < 0 ∨ 2 < m.level then 14 else if m.prio < 0 ∨ 9 < m.prio ∨ m.exps < 0 ∨ 1099511627776 < m.exps then 1
  else if m.frm ≠ ⟨#[]⟩ ∧ nameR m.frm = false then 11 else if m.seq < 0 ∨ 1099511627776 < m.seq then 1 else propsR m.props
def expiredR (m : Msg) (now : Int) : Bool := decide (m.exps ≠ 0) && decide (m.exps ≤ now)
instance : DecidableEq Msg := fun a b => by
  cases a; cases b
  simp only [Msg.mk.injEq]
  exact inferInstance
def sameM (a b : Msg) : Bool := decide (a = b)

/-! ### The bytes of a message -/
def encPs (l : List PR) : List UInt8 := (l.map fun x => encT x.1 ++ encT x.2).flatten
def encM (m : Msg) : List UInt8 :=
  encT m.topic ++ encT m.payload ++ enc m.level ++ enc (if m.retain then 1 else 0) ++ enc m.prio ++ enc m.exps ++ encT m.frm ++ enc m.seq ++ enc m.props.length ++ encPs m.props
theorem encPs_succ {l : List PR} {k : Nat} {x : PR} (h : l[k]? = some x) : encPs (l.take (k + 1)) = encPs (l.take k) ++ encT x.1 ++ encT x.2 := by
  unfold encPs
  rw [List.take_add_one, h]
  simp
theorem encPs_cons (x : PR) (l : List PR) : encPs (x :: l) = encT x.1 ++ (encT x.2 ++ encPs l) := by simp [encPs]
theorem encPs_len (l : List PR) (M : Nat) (h : ∀ x ∈ l, x.1.size ≤ M ∧ x.2.size ≤ M) : (encPs l).length ≤ l.length * (20 + 2 * M) := by
  induction l with
  | nil => simp [encPs]
  | cons x l ih =>
    have h1 := h x (by simp)
    have h2 := encT_len x.1
    have h3 := encT_len x.2
    have h4 := ih (fun y hy => h y (by simp [hy]))
    rw [encPs_cons, List.length_append, List.length_append, List.length_cons, Nat.succ_mul]
    omega

/-! ### Reading one field after the other, up to the first error: the position and the error -/
def sNum (l : List UInt8) (st : Int × Int) : Int × (Int × Int) := if st.2 ≠ 0 then (0, st) else if (numR l st.1).2.2 ≠ 0 then (0, (st.1, (numR l st.1).2.2)) else ((numR l st.1).1, ((numR l st.1).2.1, 0))
def sText (l : List UInt8) (limit : Int) (st : Int × Int) : ByteArray × (Int × Int) := if st.2 ≠ 0 then (⟨#[]⟩, st) else if (textR l st.1 limit).2.2 ≠ 0 then (⟨#[]⟩, (st.1, (textR l st.1 limit).2.2)) else ((textR l st.1 limit).1, ((textR l st.1 limit).2.1, 0))
def sCount (l : List UInt8) (limit : Int) (st : Int × Int) : Int × (Int × Int) := if st.2 ≠ 0 then (0, st) else if (countR l st.1 limit).2.2 ≠ 0 then (0, (st.1, (countR l st.1 limit).2.2)) else ((countR l st.1 limit).1, ((countR l st.1 limit).2.1, 0))
def sBelow (l : List UInt8) (most : Int) (st : Int × Int) : Int × (Int × Int) :=
  if (sNum l st).2.2 = 0 ∧ ((sNum l st).1 < 0 ∨ most ≤ (sNum l st).1) then (0, ((sNum l st).2.1, 2)) else if (sNum l st).2.2 ≠ 0 then (0, (sNum l st).2) else sNum l st
def sPropsF (l : List UInt8) : Nat → (Int × Int) → List PR → List PR × (Int × Int)
  | 0, st, acc => (acc, st)
  | n + 1, st, acc => if st.2 ≠ 0 then (acc, st) else sPropsF l n (sText l 160 (sText l 16 st).2).2 (acc ++ [((sText l 16 st).1, (sText l 160 (sText l 16 st).2).1)])
def sMsg (l : List UInt8) (st : Int × Int) : Msg × (Int × Int) :=
  let s1 := sText l 64 st
  let s2 := sText l 256 s1.2
  let s3 := sNum l s2.2
  let s4 := sBelow l 2 s3.2
  let s5 := sNum l s4.2
  let s6 := sNum l s5.2
  let s7 := sText l 16 s6.2
  let s8 := sNum l s7.2
  let s9 := sCount l 8 s8.2
  let s10 := sPropsF l s9.1.toNat s9.2 []
  (⟨s1.1, s2.1, s3.1, decide (s4.1 = 1), s5.1, s6.1, s7.1, s8.1, s10.1⟩, s10.2)
def takeR (l : List UInt8) (p : Int) : Msg × Int × Int :=
  if (sMsg l (p, 0)).2.2 ≠ 0 then (Msg.zero, 0, (sMsg l (p, 0)).2.2) else if checkR (sMsg l (p, 0)).1 ≠ 0 then (Msg.zero, 0, (checkR (sMsg l (p, 0)).1 : Int)) else ((sMsg l (p, 0)).1, (sMsg l (p, 0)).2.1, 0)

end Go.Proofs.YtjhojpghllnoiaaDoor
