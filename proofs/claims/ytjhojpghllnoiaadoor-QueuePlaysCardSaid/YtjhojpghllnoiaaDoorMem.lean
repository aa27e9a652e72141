/-
  How a list of texts lies in memory, and what stays of it; the levels of a text as the library's Split gives them. No function of the program is walked here.
-/
import Derived.Test.YtjhojpghllnoiaaDoorPure
import Derived.Test.YtjhojpghllnoiaaDoorProg
import Derived.WalkKit
import Derived.WalkSpells
import Derived.WalkLawsBesides
import Derived.Lib.Hide
import Derived.Lib.IndexBytes
import Derived.Lib.IndexLaws
import Derived.Lib.SplitLaws
import Derived.Maps.AppendAt
import Derived.Laws.AppendOwn
import Derived.Laws.OwnMore
import Derived.OwnWalk
namespace Go.Proofs.YtjhojpghllnoiaaDoor.S1
open Go.RowKit

def bs (l : List UInt8) : ByteArray := ⟨l.toArray⟩
def dl (s : ByteArray) : List UInt8 := s.data.toList
theorem bs_dl (s : ByteArray) : bs (dl s) = s := by cases s; simp [bs, dl]
theorem dl_bs (l : List UInt8) : dl (bs l) = l := by simp [bs, dl]
theorem dl_inj {a b : ByteArray} (h : dl a = dl b) : a = b := by rw [← bs_dl a, ← bs_dl b, h]
theorem map_bs_dl (a : List ByteArray) : (a.map dl).map bs = a := by
  rw [List.map_map]
  conv => rhs; rw [← List.map_id a]
  exact List.map_congr_left fun x _ => bs_dl x
theorem map_dl_bs (a : List (List UInt8)) : (a.map bs).map dl = a := by
  rw [List.map_map]
  conv => rhs; rw [← List.map_id a]
  exact List.map_congr_left fun x _ => dl_bs x
theorem size_dl (s : ByteArray) : s.size = (dl s).length := Lib.size_eq s

/-- the levels of a text -/
def lvB (s : ByteArray) : List ByteArray := (T.lv (dl s)).map bs
theorem lvB_length (s : ByteArray) : (lvB s).length = (T.lv (dl s)).length := by simp [lvB]
theorem lvB_dl (s : ByteArray) : (lvB s).map dl = T.lv (dl s) := map_dl_bs _
theorem lv_len_le (l : List UInt8) : ∀ x ∈ T.lv l, x.length ≤ l.length := by
  induction l with
  | nil => intro x hx; simp [T.lv] at hx; subst hx; simp
  | cons c r ih =>
    intro x hx
    rw [T.lv] at hx
    split at hx
    · rcases List.mem_cons.1 hx with rfl | hx
      · simp
      · have := ih x hx; simp; omega
    · cases hr : T.lv r with
      | nil => exact absurd hr (T.lv_ne r)
      | cons y t =>
        rw [hr] at hx ih
        rcases List.mem_cons.1 hx with rfl | hx
        · have := ih y (by simp); simp; omega
        · have := ih x (by simp [hx]); simp; omega
theorem lvB_size_le (s x : ByteArray) (h : x ∈ lvB s) : x.size ≤ s.size := by
  unfold lvB at h
  obtain ⟨y, hy, rfl⟩ := List.mem_map.1 h
  rw [size_dl, size_dl, dl_bs]
  exact lv_len_le _ y hy
theorem lvB_pos (s : ByteArray) : 0 < (lvB s).length := by
  rw [lvB_length]; exact List.length_pos_iff.2 (T.lv_ne _)
theorem lvB_getD (s : ByteArray) (i : Nat) (x : ByteArray) (h : (lvB s)[i]? = some x) : (T.lv (dl s)).getD i [] = dl x := by
  unfold lvB at h
  rw [List.getElem?_map] at h
  rw [List.getD_eq_getElem?_getD]
  cases e : (T.lv (dl s))[i]? with
  | none => rw [e] at h; cases h
  | some y => rw [e] at h; simp only [Option.map_some, Option.some.injEq] at h; rw [← h, dl_bs]; rfl

theorem split_at {l : List UInt8} {i : Nat} (hi : l[i]? = some 47) : l = l.take i ++ 47 :: l.drop (i + 1) := by
  obtain ⟨h, e⟩ := List.getElem?_eq_some_iff.1 hi
  conv => lhs; rw [← List.take_append_drop i l, List.drop_eq_getElem_cons h, e]

theorem splitK_lv : ∀ (k : Nat) (l : List UInt8), l.count 47 = k → Lib.splitK [47] 0 k l = T.lv l
  | 0, l, h => by
    rw [T.lv_plain l (List.count_eq_zero.1 h)]; rfl
  | k + 1, l, h => by
    have hm : (47 : UInt8) ∈ l := List.count_pos_iff.1 (by omega)
    have hi1 := Lib.index_one l 47
    obtain ⟨i, hi⟩ : ∃ i : Nat, Lib.indexByte l 47 = i := by
      have hge := Lib.indexByte_ge l 47
      by_cases hn : Lib.indexByte l 47 = -1
      · have := Lib.indexByte_none hn
        obtain ⟨j, hj⟩ := List.mem_iff_getElem?.1 hm
        exact absurd hj (this j)
      · exact ⟨(Lib.indexByte l 47).toNat, by omega⟩
    obtain ⟨h1, h2⟩ := Lib.indexByte_some hi
    have hs := split_at h1
    have hno : (47 : UInt8) ∉ l.take i := by
      intro hm
      obtain ⟨j, hj⟩ := List.mem_iff_getElem?.1 hm
      rw [List.getElem?_take] at hj
      split at hj
      · exact h2 j (by assumption) hj
      · cases hj
    have hc : (l.drop (i + 1)).count 47 = k := by
      rw [hs, List.count_append, List.count_cons_self, List.count_eq_zero.2 hno] at h
      omega
    have hne : ¬ ((Lib.index l [47] == -1) = true) := by rw [hi1, hi]; simp
    rw [Lib.splitK, if_neg hne, hi1, hi]
    have e1 : ((i : Int)).toNat = i := by omega
    rw [e1, Nat.add_zero]
    have e2 : ([47] : List UInt8).length = 1 := rfl
    rw [e2, splitK_lv k _ hc]
    conv => rhs; rw [hs]
    rw [T.lv_append _ _ hno]

theorem splitB_lv (s : ByteArray) : Lib.splitB ⟨#[47]⟩ 0 (Lib.countB s ⟨#[47]⟩) s = lvB s := by
  have h := Lib.splitB_data ⟨#[47]⟩ 0 (Lib.countB s ⟨#[47]⟩) s
  have hc : Lib.countB s ⟨#[47]⟩ = (dl s).count 47 := by
    show Lib.count (dl s) [47] = _
    exact Lib.count_one 47 (dl s)
  have h2 : Lib.splitK (⟨#[47]⟩ : ByteArray).data.toList 0 (Lib.countB s ⟨#[47]⟩) s.data.toList = T.lv (dl s) := splitK_lv _ _ hc.symm
  rw [h2] at h
  have h3 : ((Lib.splitB ⟨#[47]⟩ 0 (Lib.countB s ⟨#[47]⟩) s).map dl).map bs = (T.lv (dl s)).map bs := congrArg (List.map bs) h
  rw [map_bs_dl] at h3
  exact h3
theorem countB_lv (s : ByteArray) : Lib.countB s ⟨#[47]⟩ + 1 = (lvB s).length := by
  rw [lvB_length, T.lv_length]
  have : Lib.countB s ⟨#[47]⟩ = (dl s).count 47 := Lib.count_one 47 (dl s)
  rw [this]

/-! ### Texts in memory -/
/-- the slice with this address and this many elements reads as these texts, below block B -/
def SL (w : World) (B : Nat) (A : Option Addr) (xs : List ByteArray) : Prop :=
  0 < xs.length → ∃ b o, A = some ⟨b, o, none⟩ ∧ b < B ∧ ∀ j x, xs[j]? = some x → w.cell? ⟨b, o + j, none⟩ = some (.string x)
theorem SL.nil (w : World) (B : Nat) (A : Option Addr) : SL w B A [] := fun h => absurd h (by simp)
theorem SL.keep {w w' : World} {B : Nat} {A : Option Addr} {xs : List ByteArray} (h : SL w B A xs) (hk : ∀ p : Addr, p.block < B → w'.cell? p = w.cell? p) : SL w' B A xs := fun hn => by
  obtain ⟨b, o, e, hb, hc⟩ := h hn
  exact ⟨b, o, e, hb, fun j x hx => (hk ⟨b, o + j, none⟩ hb).trans (hc j x hx)⟩
theorem SL.below {w w' : World} {B : Nat} {A : Option Addr} {xs : List ByteArray} (h : SL w B A xs) (hb : Below B w w') : SL w' B A xs := h.keep fun _ hp => hb.cell hp
theorem SL.more {w : World} {B B' : Nat} {A : Option Addr} {xs : List ByteArray} (h : SL w B A xs) (hB : B ≤ B') : SL w B' A xs := fun hn => by
  obtain ⟨b, o, e, hb, hc⟩ := h hn
  exact ⟨b, o, e, by omega, hc⟩
/-- from world to world, each with all its blocks -/
theorem SL.step {w w' : World} {A : Option Addr} {xs : List ByteArray} (h : SL w w.heap.size A xs) (hb : Below w.heap.size w w') : SL w' w'.heap.size A xs := (h.below hb).more hb.size
/-- the slice from k on -/
theorem SL.drop {w : World} {B : Nat} {A : Option Addr} {xs : List ByteArray} (h : SL w B A xs) {k cap : Nat} (hk : k ≤ xs.length) (hc : xs.length ≤ cap) :
    SL w B (if cap = k then A else A.map (·.add k)) (xs.drop k) := fun hn => by
  rw [List.length_drop] at hn
  obtain ⟨b, o, e, hb, hcell⟩ := h (by omega)
  rw [if_neg (by omega), e]
  refine ⟨b, o + k, ?_, hb, fun j x hx => ?_⟩
  · simp only [Option.map_some, Addr.add]
    split
    · next h0 => subst h0; rfl
    · rfl
  · rw [List.getElem?_drop] at hx
    rw [Nat.add_assoc]
    exact hcell _ x hx
/-- a new block that holds the texts -/
theorem SL.new {w : World} {t : TypeId} {xs : List ByteArray} : SL (w.alloc (.cells (xs.map Value.string).toArray t)) (w.alloc (.cells (xs.map Value.string).toArray t)).heap.size (some ⟨w.heap.size, 0, none⟩) xs := fun _ =>
  ⟨w.heap.size, 0, rfl, by simp, fun j x hx => by
    rw [World.cell?_alloc_at _ _ _ _ (by rfl)]
    rw [Nat.zero_add, List.getElem?_toArray, List.getElem?_map, hx]; rfl⟩

/-- a slice of these texts is handed back, what was there is as it was -/
def RetStrs (xs : List ByteArray) (W : World) (e : Ending) (w' : World) : Prop :=
  ∃ A c, e = .returned (.slice A xs.length c) ∧ xs.length ≤ c ∧ SL w' w'.heap.size A xs ∧ Below W.heap.size W w'

theorem Below.step {a w w' : World} (h : Below a.heap.size a w) (h' : Below w.heap.size w w') : Below a.heap.size a w' := h.trans (h'.mono h.size)

/-- the library's variable MaxLen holds some number -/
def Okw (w : World) : Prop := ∃ m : Int, w.cell? ⟨0, 0, none⟩ = some (.int .i64 m)
theorem Okw.size {w : World} (h : Okw w) : 0 < w.heap.size := by
  obtain ⟨m, hm⟩ := h
  rcases Nat.lt_or_ge 0 w.heap.size with h | h
  · exact h
  · have : w.heap[0]? = none := Array.getElem?_eq_none h
    simp [World.cell?, this] at hm
theorem Okw.step {w w' : World} (h : Okw w) (hb : Below w.heap.size w w') : Okw w' := by
  have hs := h.size
  obtain ⟨m, hm⟩ := h
  exact ⟨m, (hb.cell (p := ⟨0, 0, none⟩) hs).trans hm⟩

/-! ### A list of texts that a call builds for itself -/
theorem infoS : (Tryd.prog.info? 9).map (fun i => (i.zero, i.size, i.bytes)) = some (some (.string ByteArray.empty), 1, 16) := by kernel_rfl
def Own (w : World) (B : Nat) (v : Value) (xs : List ByteArray) : Prop := w.ownsRow B 9 1 v xs.length (xs.map Value.string)
theorem Own.nil (w : World) (B : Nat) : Own w B (.slice none 0 0) [] := World.ownsRow_nil _ _ _ _
theorem Own.ret {w : World} {B : Nat} {v : Value} {xs : List ByteArray} (h : Own w B v xs) : ∃ A c, v = .slice A xs.length c ∧ xs.length ≤ c ∧ SL w w.heap.size A xs := by
  unfold Own at h
  rcases h.2 with ⟨rfl, hn⟩ | ⟨g, cap, cur, rfl, hb, hg, hnc, hcm, hcs, htake⟩
  · have : xs = [] := List.eq_nil_of_length_eq_zero hn
    subst this
    exact ⟨none, 0, rfl, Nat.le_refl _, SL.nil _ _ _⟩
  · refine ⟨_, cap, rfl, hnc, fun _ => ⟨g, 0, rfl, (Array.getElem?_eq_some_iff.1 hg).1, fun j x hx => ?_⟩⟩
    have hj : j < xs.length := (List.getElem?_eq_some_iff.1 hx).1
    rw [Nat.zero_add, h.cellAt j (by omega), List.getElem?_map, hx]; rfl

theorem wpList_app1 {ops : Array Oper} {rest : List Oper} {o : Oper} {a : Act} {Q : Exit → Act → World → Prop} (wr : World) (hgd : o.guard = none) (s x : Operand)
    (ho : o.op = .call { callee := .builtin .append, args := #[s, x], argTypes := #[91, 91] }) (B : Nat) (v : Value) (xs : List ByteArray) (y : ByteArray) (hs : a.eval s = v) (hown : Own wr B v xs)
    (hx : a.eval x = .slice (some ⟨wr.heap.size, 0, none⟩) 1 1) (w0 : World) (hb : Below B w0 wr) (hB : B ≤ wr.heap.size) (hn : xs.length ≤ 4294967296)
    (h : ∀ v' w', Own w' B v' (xs ++ [y]) → Below B w0 w' → B ≤ w'.heap.size → wpList Tryd.prog ops Q rest (a.put o.dst v') w') : wpList Tryd.prog ops Q (o :: rest) a (wr.alloc (.cells #[.string y] 9)) := by
  obtain ⟨i, hi, hz, hz1, hz2⟩ := info_parts infoS
  refine wpList_append_own _ hgd s x 91 ho B 9 i (.string ByteArray.empty) 1 16 Tryd.underlying91 hi hz hz1 hz2 rfl (by decide) v xs.length (xs.map Value.string) hs (World.ownsRow.alloc hown _) ⟨wr.heap.size, 0, none⟩ 1 1 [.string y] hx rfl (cell_one_new _ _ _) (fun u hu => by simp at hu; subst hu; rfl) (by unfold maxLen; omega) (by omega) (by simp; omega) ?_
  intro v' w' hown' hgrow _
  refine h v' w' ?_ ((hb.alloc hB _).grown hgrow (by simp; omega) (fun j hj => (World.ownsRow.lt hown j hj).1)) (by have := hgrow.size; simp at this; omega)
  unfold Own
  simpa using hown'

end Go.Proofs.YtjhojpghllnoiaaDoor.S1
