/-
  What Clone, BinarySearch, Insert and Delete of slices answer at lists of ints, in lists of the call's own. Conditions: the list reads as data; few elements; where it is searched, it ascends.
-/
import Derived.Test.YtmcocepjdhpecabGreatDoorIdB
import Derived.Test.YtmcocepjdhpecabGreatDoorShelf
import Derived.Shelf.Spec.SlicesInsert
import Derived.Shelf.Spec.SlicesInsertGrow
namespace Go.Proofs.YtmcocepjdhpecabGreatDoor.S2
open Go.RowKit

def insRen : Go.Shelf.Ren := ⟨fun | 21 => 53 | 27 => 75 | 28 => 76 | 35 => 87 | 39 => 94 | n => n, fun | 22 => 24 | 3 => 3 | 4 => 4 | 0 => 0 | n => n, fun | n => n⟩
theorem insLay : Go.Proofs.Lays2.n21 Tryz.prog insRen := {
  mixed := by kernel_rfl
  f21 := Tryz.func53.trans (congrArg some (by kernel_rfl))
  f27 := Tryz.func75.trans (congrArg some (by kernel_rfl))
  f28 := Tryz.func76.trans (congrArg some (by kernel_rfl))
  f35 := Tryz.func87.trans (congrArg some (by kernel_rfl))
  f39 := Tryz.func94.trans (congrArg some (by kernel_rfl))
  t0 := Tryz.underlying0
  a0 := Tryz.isAgg0
  z0 := Tryz.sizeOf0
  v0 := Tryz.zeroValue0
  t3 := Tryz.underlying3
  a3 := Tryz.isAgg3
  z3 := Tryz.sizeOf3
  v3 := Tryz.zeroValue3
  t4 := Tryz.underlying4
  a4 := Tryz.isAgg4
  z4 := Tryz.sizeOf4
  v4 := Tryz.zeroValue4
  t22 := Tryz.underlying24
  a22 := Tryz.isAgg24
  z22 := Tryz.sizeOf24
  v22 := Tryz.zeroValue24
  i3 := by kernel_rfl }

/-! ### lists that ascend -/
def posI (X : List Int) (n : Int) : Nat := X.countP (· < n)
theorem pos_le (X : List Int) (n : Int) : posI X n ≤ X.length := List.countP_le_length
theorem up_pair {X : List Int} : ∀ {a : Int}, upI a X = true → X.Pairwise (· ≤ ·) := by
  induction X with
  | nil => intro a _; exact List.Pairwise.nil
  | cons x xs ih =>
    intro a hu
    have hu' := hu
    simp only [upI, Bool.and_eq_true, decide_eq_true_eq] at hu'
    exact List.Pairwise.cons (fun y hy => Int.le_of_lt (up_mem hu'.2 y hy).1) (ih hu'.2)
theorem pos_zero {X : List Int} {x n : Int} (hu : upI x X = true) (h : ¬ x < n) : posI X n = 0 := by
  unfold posI
  rw [List.countP_eq_zero]
  intro y hy
  have := (up_mem hu y hy).1
  simp; omega
theorem pos_cons (x n : Int) (xs : List Int) : posI (x :: xs) n = posI xs n + if x < n then 1 else 0 := by
  unfold posI
  rw [List.countP_cons]
  by_cases h : x < n <;> simp [h]
theorem ins_pos {X : List Int} : ∀ {a n : Int}, upI a X = true → insI X n = X.take (posI X n) ++ [n] ++ X.drop (posI X n) := by
  induction X with
  | nil => intro a n _; simp [insI, posI]
  | cons x xs ih =>
    intro a n hu
    have hu' := hu
    simp only [upI, Bool.and_eq_true, decide_eq_true_eq] at hu'
    rw [pos_cons]
    unfold insI
    by_cases h : x < n
    · rw [if_pos h, if_pos h, ih hu'.2]; simp
    · rw [if_neg h, if_neg h, pos_zero hu'.2 h]; simp
theorem del_pos {X : List Int} : ∀ {a n : Int}, upI a X = true → n ∈ X → posI X n < X.length ∧ delI X n = X.take (posI X n) ++ X.drop (posI X n + 1) := by
  induction X with
  | nil => intro a n _ h; simp at h
  | cons x xs ih =>
    intro a n hu hm
    have hu' := hu
    simp only [upI, Bool.and_eq_true, decide_eq_true_eq] at hu'
    rw [pos_cons]
    by_cases h : x < n
    · have hxn : n ∈ xs := by
        rcases List.mem_cons.1 hm with e | e
        · omega
        · exact e
      obtain ⟨h1, h2⟩ := ih hu'.2 hxn
      rw [if_pos h]
      refine ⟨by simp only [List.length_cons]; omega, ?_⟩
      unfold delI at h2 ⊢
      rw [List.filter_cons, if_pos (by simp; omega), h2]
      simp
    · have e : x = n := by
        rcases List.mem_cons.1 hm with e | e
        · exact e.symm
        · have := (up_mem hu'.2 n e).1; omega
      subst e
      have hnx : x ∉ xs := fun hx => by have := (up_mem hu'.2 x hx).1; omega
      have := del_id hnx
      unfold delI at this
      rw [if_neg h, pos_zero hu'.2 h]
      unfold delI
      rw [List.filter_cons, if_neg (by simp), this]
      simp

/-! ### rows of cells written in place -/
theorem bk_setCells {T : TypeId} {g : Nat} : ∀ (vs : List Value) (o : Nat) (w : World) (cs : List Value), BK T w g cs → o + vs.length ≤ cs.length → BK T (w.setCells g o vs) g (cs.take o ++ vs ++ cs.drop (o + vs.length))
  | [], o, w, cs, h, _ => by simpa [World.setCells] using h
  | v :: r, o, w, cs, h, hl => by
    have hl' : o < cs.length := by simp only [List.length_cons] at hl; omega
    have h1 := bk_setCells r (o + 1) _ _ (h.set o v) (by simp only [List.length_cons, List.length_set] at hl ⊢; omega)
    rw [World.setCells]
    have e : cs.set o v = cs.take o ++ v :: cs.drop (o + 1) := by rw [List.set_eq_take_append_cons_drop, if_pos hl']
    have htl : (cs.take o).length = o := by rw [List.length_take]; omega
    rw [e] at h1
    have e1 : (cs.take o ++ v :: cs.drop (o + 1)).take (o + 1) = cs.take o ++ [v] := by
      rw [List.take_append, htl, List.take_of_length_le (by omega)]
      simp
    have e2 : (cs.take o ++ v :: cs.drop (o + 1)).drop (o + 1 + r.length) = cs.drop (o + (r.length + 1)) := by
      rw [List.drop_append, htl, List.drop_of_length_le (by omega), show o + 1 + r.length - o = r.length + 1 by omega, List.drop_succ_cons, List.drop_drop]
      simp only [List.nil_append]
      congr 1
      omega
    rw [e1, e2] at h1
    simpa using h1
theorem below_sets {B g : Nat} (hg : B ≤ g) {a : World} : ∀ (vs : List Value) (o : Nat) (w : World), Below B a w → Below B a (w.setCells g o vs)
  | [], _, _, h => h
  | v :: r, o, _, h => below_sets hg r (o + 1) _ (h.setCell (p := ⟨g, o, none⟩) hg v)
theorem bk_sets_other {T : TypeId} {b g : Nat} (hne : b ≠ g) : ∀ (vs : List Value) (o : Nat) (w : World) (cs : List Value), BK T w b cs → BK T (w.setCells g o vs) b cs
  | [], _, _, _, h => h
  | v :: r, o, _, cs, h => bk_sets_other hne r (o + 1) _ cs (h.other (p := ⟨g, o, none⟩) hne v)
theorem row_shift {α : Type} (C L y : List α) (n i cap : Nat) (hi : i < n) (hn : n + 1 ≤ cap) (hC : C.length = cap) (hL : L.length = n) (ht : C.take n = L) (hy : y.length = 1) :
    let C1 := C.take (i + 1) ++ L.drop i ++ C.drop (i + 1 + (L.drop i).length)
    C1.length = cap ∧ (C1.take i ++ y ++ C1.drop (i + y.length)).length = cap ∧ (C1.take i ++ y ++ C1.drop (i + y.length)).take (n + 1) = L.take i ++ y ++ L.drop i := by
  intro C1
  have e1 : (C.take (i + 1)).length = i + 1 := by rw [List.length_take]; omega
  have e2 : (L.drop i).length = n - i := by rw [List.length_drop]; omega
  have h1 : C1.length = cap := by
    show (C.take (i + 1) ++ L.drop i ++ C.drop (i + 1 + (L.drop i).length)).length = cap
    simp only [List.length_append, List.length_take, List.length_drop]; omega
  have h2 : C1.take i = L.take i := by
    show (C.take (i + 1) ++ L.drop i ++ C.drop (i + 1 + (L.drop i).length)).take i = _
    rw [List.append_assoc, List.take_append_of_le_length (by omega), List.take_take, Nat.min_eq_left (by omega), ← ht, List.take_take, Nat.min_eq_left (by omega)]
  have h3 : C1.drop (i + y.length) = L.drop i ++ C.drop (i + 1 + (L.drop i).length) := by
    show (C.take (i + 1) ++ L.drop i ++ C.drop (i + 1 + (L.drop i).length)).drop (i + y.length) = _
    have e3 : i + y.length = (C.take (i + 1)).length := by omega
    rw [List.append_assoc, e3, List.drop_left']
    rfl
  refine ⟨h1, ?_, ?_⟩
  · simp only [List.length_append, List.length_take, List.length_drop, h1]; omega
  · rw [h2, h3, ← List.append_assoc]
    have e4 : n + 1 = (L.take i ++ y ++ L.drop i).length := by
      rw [List.length_append, List.length_append, List.length_take, e2, hy]; omega
    rw [e4, List.take_left']
    rfl
theorem row_grow {α : Type} (R0 L y : List α) (n i G : Nat) (hi : i < n) (hn : n + 1 ≤ G) (hR : R0.length = G) (hL : L.length = n) (ht : R0.take i = L.take i) (hy : y.length = 1) :
    let R1 := R0.take i ++ y ++ R0.drop (i + y.length)
    R1.length = G ∧ (R1.take (i + 1) ++ L.drop i ++ R1.drop (i + 1 + (L.drop i).length)).length = G ∧ (R1.take (i + 1) ++ L.drop i ++ R1.drop (i + 1 + (L.drop i).length)).take (n + 1) = L.take i ++ y ++ L.drop i := by
  intro R1
  have e2 : (L.drop i).length = n - i := by rw [List.length_drop]; omega
  have e1 : (R0.take i).length = i := by rw [List.length_take]; omega
  have h1 : R1.length = G := by
    show (R0.take i ++ y ++ R0.drop (i + y.length)).length = G
    simp only [List.length_append, List.length_take, List.length_drop]; omega
  have h2 : R1.take (i + 1) = L.take i ++ y := by
    show (R0.take i ++ y ++ R0.drop (i + y.length)).take (i + 1) = _
    have e3 : i + 1 = (R0.take i ++ y).length := by rw [List.length_append, e1, hy]
    rw [e3, List.take_left', ht]
    rfl
  refine ⟨h1, ?_, ?_⟩
  · simp only [List.length_append, List.length_take, List.length_drop, h1]; omega
  · rw [h2]
    have e4 : n + 1 = (L.take i ++ y ++ L.drop i).length := by
      rw [List.length_append, List.length_append, List.length_take, e2, hy]; omega
    rw [e4, List.take_left']
    rfl

/-! ### contracts -/
/-- an own list's row -/
theorem own_row {w : World} {B : Nat} {v : Value} {X : List Int} (h : Own 3 iv w B v X) : (v = .slice none 0 0 ∧ X = []) ∨ ∃ g cap cur, v = .slice (some ⟨g, 0, none⟩) X.length cap ∧ B ≤ g ∧ BK 3 w g cur ∧ X.length ≤ cap ∧ cap ≤ maxLen ∧ cur.length = cap ∧ cur.take X.length = X.map iv := by
  unfold Own at h
  rcases h.2 with ⟨rfl, hn⟩ | ⟨g, cap, cur, rfl, hb, hg, hnc, hcm, hcs, htake⟩
  · exact .inl ⟨rfl, List.eq_nil_of_length_eq_zero hn⟩
  · exact .inr ⟨g, cap, cur.toList, rfl, hb, by unfold BK; simpa using hg, hnc, hcm, by simpa using hcs, by simpa using htake⟩
theorem row_own {w : World} {B g cap : Nat} {X : List Int} {cur : List Value} (hb : B ≤ g) (hg : BK 3 w g cur) (hnc : X.length ≤ cap) (hcm : cap ≤ maxLen) (hcs : cur.length = cap) (ht : cur.take X.length = X.map iv) : Own 3 iv w B (.slice (some ⟨g, 0, none⟩) X.length cap) X := by
  unfold Own
  exact ⟨by simp, .inr ⟨g, cap, cur.toArray, rfl, hb, hg, hnc, hcm, by simpa using hcs, by simpa using ht⟩⟩
theorem iv_cells {w : World} {g : Nat} {cur : List Value} {X : List Int} (hg : BK 3 w g cur) (ht : cur.take X.length = X.map iv) : ∀ j v, (X.map iv)[j]? = some v → w.cell? ⟨g, 0 + j, none⟩ = some v := fun j v hj => by
  rw [← ht, List.getElem?_take] at hj
  split at hj
  · rw [Nat.zero_add]; exact hg.cell j hj
  · cases hj
theorem getDI {X : List Int} {j : Nat} (hj : j < X.length) : X[j]? = some (X.getD j 0) := by
  rw [List.getD_eq_getElem?_getD, List.getElem?_eq_getElem hj]; rfl

theorem cloneI_any (A : Option Addr) (c : Nat) (X : List Int) (w : World) (hsl : IL w w.heap.size A X) (hX : X.length ≤ 1000000) :
    Calls Tryz.prog 54 #[.slice A X.length c] w (RetIs X w) := by
  cases A with
  | none =>
    have h0 : X = [] := by
      rcases Nat.eq_zero_or_pos X.length with h | h
      · exact List.eq_nil_of_length_eq_zero h
      · obtain ⟨b, o, e, _⟩ := hsl h; cases e
    subst h0
    refine (Tryz.slices_Clone_int_nil 0 c w).mono ?_
    rintro e w' ⟨rfl, rfl⟩
    exact ⟨_, rfl, Own.nil _ _, Below.refl _ _⟩
  | some a =>
    rcases Nat.eq_zero_or_pos X.length with h | h
    · have h0 := List.eq_nil_of_length_eq_zero h
      subst h0
      refine (Tryz.slices_Clone_int_zero a c w).mono ?_
      rintro e w' ⟨v', rfl, hown, _, hb⟩
      exact ⟨v', rfl, hown, hb⟩
    · obtain ⟨b, o, e, hb, hc⟩ := hsl h
      obtain rfl := Option.some.inj e
      refine (Tryz.slices_Clone_int b o X.length c X w (Nat.le_refl _) (by omega) (fun j hj => hc j _ (getDI hj))).mono ?_
      rintro e w' ⟨v', rfl, hown, _, hb⟩
      rw [List.take_length] at hown
      exact ⟨v', rfl, hown, hb⟩

theorem searchI_any (A : Option Addr) (c : Nat) (X : List Int) (x a : Int) (w : World) (hsl : IL w w.heap.size A X) (hX : X.length ≤ 1000000) (hu : upI a X = true) :
    Calls Tryz.prog 52 #[.slice A X.length c, .int .i64 x] w fun e w' => e = .returned (.tuple #[.int .i64 (posI X x : Nat), .bool (decide (x ∈ X))]) ∧ ∃ q, w' = w.drewN q := by
  rcases Nat.eq_zero_or_pos X.length with h | h
  · have h0 := List.eq_nil_of_length_eq_zero h
    subst h0
    refine (Tryz.slices_BinarySearch_int_empty A c x w).mono ?_
    rintro e w' ⟨rfl, rfl⟩
    exact ⟨rfl, 0, rfl⟩
  · obtain ⟨b, o, rfl, hb, hc⟩ := hsl h
    refine (Tryz.slices_BinarySearch_int b o X.length c X x w (Nat.le_refl _) (by omega) (fun j hj => hc j _ (getDI hj)) (by rw [List.take_length]; exact up_pair hu)).mono ?_
    rintro e w' ⟨rfl, q, rfl⟩
    rw [List.take_length]
    refine ⟨?_, q, rfl⟩
    rw [show X.contains x = decide (x ∈ X) by rw [Bool.eq_iff_iff]; simp]
    rfl

theorem grown_size (w : World) (n c : Nat) (hn : n ≤ 2000000) : grownCap w n c 3 ≤ maxLen := grownCap_le_maxLen w n c 3 (by unfold maxLen; omega)
theorem zeroI_len (k : Nat) : (Builtin.zeroCells (Value.int .i64 0).cells k).toList.length = k := by
  rw [Array.length_toList, size_zeroCells]
  exact Nat.mul_one _

theorem insertI_any (v : Value) (X : List Int) (i : Nat) (x : Int) (W : World) (B vb : Nat) (hown : Own 3 iv W B v X) (hvb : BK 3 W vb [iv x]) (hne : ∀ q n c, v = .slice (some ⟨q, 0, none⟩) n c → vb ≠ q) (hB : B ≤ W.heap.size) (hi : i ≤ X.length) (hX : X.length ≤ 1000000) :
    Calls Tryz.prog 53 #[v, .int .i64 i, .slice (some ⟨vb, 0, none⟩) 1 1] W fun e w' => ∃ v', e = .returned v' ∧ Own 3 iv w' B v' (X.take i ++ [x] ++ X.drop i) ∧ Below B W w' := by
  have hvs : ∀ j u, [iv x][j]? = some u → W.cell? ⟨vb, 0 + j, none⟩ = some u := fun j u hj => by rw [Nat.zero_add]; exact hvb.cell j hj
  have h1v : ∀ u ∈ [iv x], u.oneCell' = true := fun u hu => by simp at hu; subst hu; rfl
  have h1c : ∀ u ∈ X.map iv, u.oneCell' = true := fun u hu => by obtain ⟨y, _, rfl⟩ := List.mem_map.1 hu; rfl
  have hml : (X.map iv).length = X.length := List.length_map _
  have hrl : (X.take i ++ [x] ++ X.drop i).length = X.length + 1 := by simp; omega
  have hrm : (X.take i ++ [x] ++ X.drop i).map iv = (X.map iv).take i ++ [iv x] ++ (X.map iv).drop i := by simp [List.map_take, List.map_drop]
  have e3 : insRen.t 3 = 3 := rfl
  rcases own_row hown with ⟨rfl, rfl⟩ | ⟨g, cap, cur, rfl, hbg, hg, hnc, hcm, hcs, ht⟩
  · have hi0 : i = 0 := by simpa using hi
    subst hi0
    refine (Go.Proofs.Any2.slices_Insert_int_end_grow insLay none 0 0 vb 0 1 1 [] [iv x] W (by decide) (by decide) (by decide) (by decide) rfl rfl (fun _ => rfl) (fun a e => by cases e) hvs h1v).mono ?_
    rintro e w' ⟨rfl, rfl⟩
    rw [e3]
    refine ⟨_, rfl, ?_, ((Below.refl B W).drew).alloc hB _⟩
    have hge : 1 ≤ grownCap W (0 + 1) 0 3 := grownCap_ge W _ _ _
    have hgm := grown_size W (0 + 1) 0 (by decide)
    generalize grownCap W (0 + 1) 0 3 = G0 at hge hgm ⊢
    have hbk : BK 3 (W.drew.alloc (.cells (([] ++ [iv x] : List Value).toArray ++ Builtin.zeroCells (Value.int .i64 0).cells (G0 - (0 + 1))) 3)) W.heap.size ([iv x] ++ (Builtin.zeroCells (Value.int .i64 0).cells (G0 - (0 + 1))).toList) := by
      have := heap_alloc_new W.drew (.cells (([] ++ [iv x] : List Value).toArray ++ Builtin.zeroCells (Value.int .i64 0).cells (G0 - (0 + 1))) 3)
      unfold BK
      refine this.trans ?_
      simp
    exact row_own (X := [x]) hB hbk hge hgm (by rw [List.length_append, zeroI_len]; simp only [List.length_cons, List.length_nil]; omega) (by simp)
  · unfold maxLen at hcm
    have hcell := iv_cells hg ht
    by_cases he : i = X.length
    · subst he
      rw [List.take_length, List.drop_length, List.append_nil]
      by_cases hroom : X.length + 1 ≤ cap
      · refine (Go.Proofs.Any2.slices_Insert_int_end_room insLay g 0 X.length cap vb 0 1 1 [iv x] W (by decide) hroom hcm rfl (fun j hj => ?_) (fun j hj => hg.free _) hvs h1v).mono ?_
        · have hj0 : j = 0 := by omega
          subst hj0
          obtain ⟨u, hu⟩ : ∃ u, cur[X.length]? = some u := ⟨_, List.getElem?_eq_getElem (by omega)⟩
          rw [Nat.zero_add, Nat.add_zero, hg.cell _ hu]; rfl
        · rintro e w' ⟨rfl, rfl⟩
          refine ⟨_, rfl, ?_, below_sets hbg _ _ _ (Below.refl B W)⟩
          have hbk := bk_setCells [iv x] (0 + X.length) W cur hg (by simp; omega)
          rw [Nat.zero_add] at hbk ⊢
          have e2 : X.length + 1 = (X ++ [x]).length := by simp
          rw [e2]
          refine row_own hbg hbk (by simp; omega) (by unfold maxLen; omega) (by simp; omega) ?_
          rw [List.length_append, ht, ← hml, List.take_append_of_le_length (by simp)]
          rw [List.take_of_length_le (by simp)]
          simp
      · obtain rfl : cap = X.length := by omega
        refine (Go.Proofs.Any2.slices_Insert_int_end_grow insLay (some ⟨g, 0, none⟩) X.length X.length vb 0 1 1 (X.map iv) [iv x] W (by decide) (by omega) (by omega) (by omega) hml rfl (fun e => by cases e) (fun a e j u hj => by
          obtain rfl := Option.some.inj e
          rw [Addr.add_lit]; exact hcell j u hj) hvs h1v).mono ?_
        rintro e w' ⟨rfl, rfl⟩
        rw [e3]
        refine ⟨_, rfl, ?_, ((Below.refl B W).drew).alloc hB _⟩
        have hge : X.length + 1 ≤ grownCap W (X.length + 1) X.length 3 := grownCap_ge W _ _ _
        have hgm := grown_size W (X.length + 1) X.length (by omega)
        have e2 : X.length + 1 = (X ++ [x]).length := by simp
        have hbk : BK 3 (W.drew.alloc (.cells ((X.map iv ++ [iv x] : List Value).toArray ++ Builtin.zeroCells (Value.int .i64 0).cells (grownCap W (X.length + 1) X.length 3 - (X.length + 1))) 3)) W.heap.size (X.map iv ++ [iv x] ++ (Builtin.zeroCells (Value.int .i64 0).cells (grownCap W (X.length + 1) X.length 3 - (X.length + 1))).toList) := by
          have := heap_alloc_new W.drew (.cells ((X.map iv ++ [iv x] : List Value).toArray ++ Builtin.zeroCells (Value.int .i64 0).cells (grownCap W (X.length + 1) X.length 3 - (X.length + 1))) 3)
          unfold BK
          refine this.trans ?_
          simp
        have hfin := row_own (X := X ++ [x]) (B := B) hB hbk (by rw [← e2]; exact hge) hgm (by rw [List.length_append, List.length_append, zeroI_len, hml]; simp; omega) (by
          rw [List.take_append_of_le_length (by simp)]
          rw [List.take_of_length_le (by simp)]
          simp)
        rw [← e2] at hfin
        exact hfin
    · have hil : i < X.length := by omega
      have hml2 : ((X.map iv).drop i).length = X.length - i := by rw [List.length_drop, hml]
      by_cases hroom : X.length + 1 ≤ cap
      · have hshape : W.shape? g = some (3, cur.length) := by
          unfold World.shape?
          unfold BK at hg
          simp only [hg, List.size_toArray]
        have hshv : W.shape? vb = some (3, 1) := by
          unfold World.shape?
          unfold BK at hvb
          simp only [hvb]
          rfl
        refine (Go.Proofs.Any2.slices_Insert_int_shift insLay g 0 X.length cap i vb 0 1 1 (X.map iv) [iv x] W hil (by decide) hroom hcm (hne _ _ _ rfl) hml rfl hcell (fun j hj => ?_) (fun j hj => hg.free _) hvs h1c h1v 3 3 1 cur.length hshv hshape (by omega) (hvb.free 0) (hvb.free 1)).mono ?_
        · obtain ⟨u, hu⟩ : ∃ u, cur[j]? = some u := ⟨_, List.getElem?_eq_getElem (by omega)⟩
          rw [Nat.zero_add, hg.cell _ hu]; rfl
        · rintro e w' ⟨rfl, rfl⟩
          refine ⟨_, rfl, ?_, below_sets hbg _ _ _ (below_sets hbg _ _ _ (Below.refl B W).drew)⟩
          obtain ⟨s1, s2, s3⟩ := row_shift cur (X.map iv) [iv x] X.length i cap hil hroom hcs hml ht rfl
          rw [Nat.zero_add, Nat.zero_add]
          have hb1 := bk_setCells ((X.map iv).drop i) (i + 1) W.drew cur hg.drew (by rw [hml2]; omega)
          have hb2 := bk_setCells [iv x] i _ _ hb1 (by rw [s1]; simp; omega)
          rw [← hrl]
          exact row_own hbg hb2 (by rw [hrl]; omega) (by unfold maxLen; omega) s2 (by rw [hrl, hrm]; exact s3)
      · refine (Go.Proofs.Any2.slices_Insert_int_grow insLay g 0 X.length cap i vb 0 1 1 (X.map iv) [iv x] W hil (by decide) hnc (by omega) (by omega) hml rfl hcell hvs h1c h1v).mono ?_
        rintro e w' ⟨rfl, rfl⟩
        have hge : X.length + 1 ≤ grownCap W (X.length + 1) cap 3 := grownCap_ge W _ _ _
        have hgm := grown_size W (X.length + 1) cap (by omega)
        rw [e3]
        refine ⟨_, rfl, ?_, below_sets hB _ _ _ (below_sets hB _ _ _ (((Below.refl B W).alloc hB _).drew)).drew⟩
        generalize grownCap W (X.length + 1) cap 3 = G0 at hge hgm ⊢
        have hbk : BK 3 (W.alloc (.cells (((X.map iv).take i).toArray ++ Builtin.zeroCells (Value.int .i64 0).cells (X.length + 1 - i) ++ Builtin.zeroCells (Value.int .i64 0).cells (G0 - (X.length + 1))) 3)) W.heap.size ((X.map iv).take i ++ (Builtin.zeroCells (Value.int .i64 0).cells (X.length + 1 - i)).toList ++ (Builtin.zeroCells (Value.int .i64 0).cells (G0 - (X.length + 1))).toList) := by
          have := heap_alloc_new W (.cells (((X.map iv).take i).toArray ++ Builtin.zeroCells (Value.int .i64 0).cells (X.length + 1 - i) ++ Builtin.zeroCells (Value.int .i64 0).cells (G0 - (X.length + 1))) 3)
          unfold BK
          refine this.trans ?_
          simp
        have htl : ((X.map iv).take i).length = i := by rw [List.length_take, hml]; omega
        have hRl : ((X.map iv).take i ++ (Builtin.zeroCells (Value.int .i64 0).cells (X.length + 1 - i)).toList ++ (Builtin.zeroCells (Value.int .i64 0).cells (G0 - (X.length + 1))).toList).length = G0 := by
          rw [List.length_append, List.length_append, zeroI_len, zeroI_len, htl]; omega
        have hRt : ((X.map iv).take i ++ (Builtin.zeroCells (Value.int .i64 0).cells (X.length + 1 - i)).toList ++ (Builtin.zeroCells (Value.int .i64 0).cells (G0 - (X.length + 1))).toList).take i = (X.map iv).take i := by
          have aux : ∀ (T Z : List Value), T.length = i → (T ++ Z).take i = T := fun T Z h => by rw [← h, List.take_left']; rfl
          rw [List.append_assoc]
          exact aux _ _ htl
        obtain ⟨s1, s2, s3⟩ := row_grow _ (X.map iv) [iv x] X.length i G0 hil hge hRl hml hRt rfl
        have hb1 := bk_setCells [iv x] i _ _ hbk.drew (by rw [hRl]; simp; omega)
        have hb2 := bk_setCells ((X.map iv).drop i) (i + 1) _ _ hb1.drew (by rw [s1, hml2]; omega)
        have hfin := row_own (X := X.take i ++ [x] ++ X.drop i) hB hb2 (by rw [hrl]; omega) hgm s2 (by rw [hrl, hrm]; exact s3)
        rw [hrl] at hfin
        exact hfin

/-- an element less, in place -/
theorem deleteI_any (v : Value) (X : List Int) (i : Nat) (W : World) (B : Nat) (hown : Own 3 iv W B v X) (hi : i < X.length) :
    Calls Tryz.prog 82 #[v, .int .i64 i, .int .i64 ((i : Int) + 1)] W fun e w' => ∃ v', e = .returned v' ∧ Own 3 iv w' B v' (X.take i ++ X.drop (i + 1)) ∧ Below B W w' := by
  rcases own_row hown with ⟨rfl, rfl⟩ | ⟨g, cap, cur, rfl, hbg, hg, hnc, hcm, hcs, ht⟩
  · simp at hi
  · have hcell := iv_cells hg ht
    have hc := Tryz.slices_Delete_int_cells g 0 X.length cap i (i + 1) X W (Nat.le_refl _) hnc (by unfold maxLen at hcm; exact hcm) (by omega) (by omega) (fun j hj => hcell j _ (by rw [List.getElem?_map, getDI hj]; rfl)) (fun j _ => hg.free _)
    rw [show ((i + 1 : Nat) : Int) = (i : Int) + 1 by omega] at hc
    refine hc.mono ?_
    rintro e w' ⟨rfl, q, rfl⟩
    refine ⟨_, rfl, ?_, below_sets hbg _ _ _ ⟨rfl, rfl, rfl, Nat.le_refl _, fun _ _ => rfl⟩⟩
    have hl : (X.take i ++ X.drop (i + 1)).length = X.length - 1 := by simp; omega
    have e1 : X.length - (i + 1 - i) = (X.take i ++ X.drop (i + 1)).length := by rw [hl]; omega
    rw [e1, List.take_length, show i + 1 - i = 1 by omega]
    have hn : ((X.take i ++ X.drop (i + 1) ++ List.replicate 1 0).map (Value.int .i64)).length = X.length := by simp; omega
    have hbk := bk_setCells ((X.take i ++ X.drop (i + 1) ++ List.replicate 1 0).map (Value.int .i64)) 0 (W.drewN q) cur hg (by rw [hn]; omega)
    refine row_own hbg hbk (by rw [hl]; omega) hcm (by simp only [List.length_append, List.length_take, List.length_drop, hn]; omega) ?_
    rw [List.take_zero, List.nil_append, List.map_append, List.append_assoc, List.take_append_of_le_length (by simp), List.take_of_length_le (by simp)]
    rfl
end Go.Proofs.YtmcocepjdhpecabGreatDoor.S2
