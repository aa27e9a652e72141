/-
  What Clone, BinarySearch, Insert and Delete of slices answer at lists of ints, in lists of the call's own. Conditions: the list reads as data; few elements; where it is searched, it ascends.
  What the program's functions on pools answer. Conditions: the pool is valid; Check: any pool that reads as data.
  What the program's functions on pools answer. Conditions: the pool is valid; Check: any pool that reads as data.
-/
import Derived.Test.YtjpikgphfhjilaaGreatDoorIdD
import Derived.Test.YtjpikgphfhjilaaGreatDoorShelf
import Derived.Shelf.Spec.SlicesInsert
import Derived.Shelf.Spec.SlicesInsertGrow
namespace Go.Proofs.YtjpikgphfhjilaaGreatDoor.S2
open Go.RowKit

def insRen : Go.Shelf.Ren := ⟨fun | 21 => 46 | 27 => 66 | 28 => 67 | 35 => 78 | 39 => 85 | n => n, fun | 22 => 23 | 3 => 3 | 4 => 4 | 0 => 0 | n => n, fun | n => n⟩
theorem insLay : Go.Proofs.Lays2.n21 Tryz.prog insRen := {
  mixed := by kernel_rfl
  f21 := Tryz.func46.trans (congrArg some (by kernel_rfl))
  f27 := Tryz.func66.trans (congrArg some (by kernel_rfl))
  f28 := Tryz.func67.trans (congrArg some (by kernel_rfl))
  f35 := Tryz.func78.trans (congrArg some (by kernel_rfl))
  f39 := Tryz.func85.trans (congrArg some (by kernel_rfl))
  t0 := Tryz.underlying0
  a0 := Tryz.isAgg0
  z0 := Tryz.sizeOf0
  v0 := Tryz.zeroValue0
  t3 := Tryz.underlying3
  a3 := Tryz.isAgg3
  z3 := Tryz.sizeOf3
  v3 := Tryz.zeroValue3
  t4 := Tryz.underlying4
  a4 := Tryz.isAgg4
  z4 := Tryz.sizeOf4
  v4 := Tryz.zeroValue4
  t22 := Tryz.underlying23
  a22 := Tryz.isAgg23
  z22 := Tryz.sizeOf23
  v22 := Tryz.zeroValue23
  i3 := by kernel_rfl }

/-! ### lists that ascend -/
def posI (X : List Int) (n : Int) : Nat := X.countP (· < n)
theorem pos_le (X : List Int) (n : Int) : posI X n ≤ X.length := List.countP_le_length
theorem up_pair {X : List Int} : ∀ {a : Int}, upI a X = true → X.Pairwise (· ≤ ·) := by
  induction X with
  | nil => intro a _; exact List.Pairwise.nil
  | cons x xs ih =>
    intro a hu
    have hu' := hu
    simp only [upI, Bool.and_eq_true, decide_eq_true_eq] at hu'
    exact List.Pairwise.cons (fun y hy => Int.le_of_lt (up_mem hu'.2 y hy).1) (ih hu'.2)
theorem pos_zero {X : List Int} {x n : Int} (hu : upI x X = true) (h : ¬ x < n) : posI X n = 0 := by
  unfold posI
  rw [List.countP_eq_zero]
  intro y hy
  have := (up_mem hu y hy).1
  simp; omega
theorem pos_cons (x n : Int) (xs : List Int) : posI (x :: xs) n = posI xs n + if x < n then 1 else 0 := by
  unfold posI
  rw [List.countP_cons]
  by_cases h : x < n <;> simp [h]
theorem ins_pos {X : List Int} : ∀ {a n : Int}, upI a X = true → insI X n = X.take (posI X n) ++ [n] ++ X.drop (posI X n) := by
  induction X with
  | nil => intro a n _; simp [insI, posI]
  | cons x xs ih =>
    intro a n hu
    have hu' := hu
    simp only [upI, Bool.and_eq_true, decide_eq_true_eq] at hu'
    rw [pos_cons]
    unfold insI
    by_cases h : x < n
    · rw [if_pos h, if_pos h, ih hu'.2]; simp
    · rw [if_neg h, if_neg h, pos_zero hu'.2 h]; simp
theorem del_pos {X : List Int} : ∀ {a n : Int}, upI a X = true → n ∈ X → posI X n < X.length ∧ delI X n = X.take (posI X n) ++ X.drop (posI X n + 1) := by
  induction X with
  | nil => intro a n _ h; simp at h
  | cons x xs ih =>
    intro a n hu hm
    have hu' := hu
    simp only [upI, Bool.and_eq_true, decide_eq_true_eq] at hu'
    rw [pos_cons]
    by_cases h : x < n
    · have hxn : n ∈ xs := by
        rcases List.mem_cons.1 hm with e | e
        · omega
        · exact e
      obtain ⟨h1, h2⟩ := ih hu'.2 hxn
      rw [if_pos h]
      refine ⟨by simp only [List.length_cons]; omega, ?_⟩
      unfold delI at h2 ⊢
      rw [List.filter_cons, if_pos (by simp; omega), h2]
      simp
    · have e : x = n := by
        rcases List.mem_cons.1 hm with e | e
        · exact e.symm
        · have := (up_mem hu'.2 n e).1; omega
      subst e
      have hnx : x ∉ xs := fun hx => by have := (up_mem hu'.2 x hx).1; omega
      have := del_id hnx
      unfold delI at this
      rw [if_neg h, pos_zero hu'.2 h]
      unfold delI
      rw [List.filter_cons, if_neg (by simp), this]
      simp

/-! ### rows of cells written in place -/
theorem bk_setCells {T : TypeId} {g : Nat} : ∀ (vs : List Value) (o : Nat) (w : World) (cs : List Value), BK T w g cs → o + vs.length ≤ cs.length → BK T (w.setCells g o vs) g (cs.take o ++ vs ++ cs.drop (o + vs.length))
  | [], o, w, cs, h, _ => by simpa [World.setCells] using h
  | v :: r, o, w, cs, h, hl => by
    have hl' : o < cs.length := by simp only [List.length_cons] at hl; omega
    have h1 := bk_setCells r (o + 1) _ _ (h.set o v) (by simp only [List.length_cons, List.length_set] at hl ⊢; omega)
    rw [World.setCells]
    have e : cs.set o v = cs.take o ++ v :: cs.drop (o + 1) := by rw [List.set_eq_take_append_cons_drop, if_pos hl']
    have htl : (cs.take o).length = o := by rw [List.length_take]; omega
    rw [e] at h1
    have e1 : (cs.take o ++ v :: cs.drop (o + 1)).take (o + 1) = cs.take o ++ [v] := by
      rw [List.take_append, htl, List.take_of_length_le (by omega)]
      simp
    have e2 : (cs.take o ++ v :: cs.drop (o + 1)).drop (o + 1 + r.length) = cs.drop (o + (r.length + 1)) := by
      rw [List.drop_append, htl, List.drop_of_length_le (by omega), show o + 1 + r.length - o = r.length + 1 by omega, List.drop_succ_cons, List.drop_drop]
      simp only [List.nil_append]
      congr 1
      omega
    rw [e1, e2] at h1
    simpa using h1
theorem below_sets {B g : Nat} (hg : B ≤ g) {a : World} : ∀ (vs : List Value) (o : Nat) (w : World), Below B a w → Below B a (w.setCells g o vs)
  | [], _, _, h => h
  | v :: r, o, _, h => below_sets hg r (o + 1) _ (h.setCell (p := ⟨g, o, none⟩) hg v)
theorem bk_sets_other {T : TypeId} {b g : Nat} (hne : b ≠ g) : ∀ (vs : List Value) (o : Nat) (w : World) (cs : List Value), BK T w b cs → BK T (w.setCells g o vs) b cs
  | [], _, _, _, h => h
  | v :: r, o, _, cs, h => bk_sets_other hne r (o + 1) _ cs (h.other (p := ⟨g, o, none⟩) hne v)
theorem row_shift {α : Type} (C L y : List α) (n i cap : Nat) (hi : i < n) (hn : n + 1 ≤ cap) (hC : C.length = cap) (hL : L.length = n) (ht : C.take n = L) (hy : y.length = 1) :
    let C1 := C.take (i + 1) ++ L.drop i ++ C.drop (i + 1 + (L.drop i).length)
    C1.length = cap ∧ (C1.take i ++ y ++ C1.drop (i + y.length)).length = cap ∧ (C1.take i ++ y ++ C1.drop (i + y.length)).take (n + 1) = L.take i ++ y ++ L.drop i := by
  intro C1
  have e1 : (C.take (i + 1)).length = i + 1 := by rw [List.length_take]; omega
  have e2 : (L.drop i).length = n - i := by rw [List.length_drop]; omega
  have h1 : C1.length = cap := by
    show (C.take (i + 1) ++ L.drop i ++ C.drop (i + 1 + (L.drop i).length)).length = cap
    simp only [List.length_append, List.length_take, List.length_drop]; omega
  have h2 : C1.take i = L.take i := by
    show (C.take (i + 1) ++ L.drop i ++ C.drop (i + 1 + (L.drop i).length)).take i = _
    rw [List.append_assoc, List.take_append_of_le_length (by omega), List.take_take, Nat.min_eq_left (by omega), ← ht, List.take_take, Nat.min_eq_left (by omega)]
  have h3 : C1.drop (i + y.length) = L.drop i ++ C.drop (i + 1 + (L.drop i).length) := by
    show (C.take (i + 1) ++ L.drop i ++ C.drop (i + 1 + (L.drop i).length)).drop (i + y.length) = _
    have e3 : i + y.length = (C.take (i + 1)).length := by omega
    rw [List.append_assoc, e3, List.drop_left']
    rfl
  refine ⟨h1, ?_, ?_⟩
  · simp only [List.length_append, List.length_take, List.length_drop, h1]; omega
  · rw [h2, h3, ← List.append_assoc]
    have e4 : n + 1 = (L.take i ++ y ++ L.drop i).length := by
      rw [List.length_append, List.length_append, List.length_take, e2, hy]; omega
    rw [e4, List.take_left']
    rfl
theorem row_grow {α : Type} (R0 L y : List α) (n i G : Nat) (hi : i < n) (hn : n + 1 ≤ G) (hR : R0.length = G) (hL : L.length = n) (ht : R0.take i = L.take i) (hy : y.length = 1) :
    let R1 := R0.take i ++ y ++ R0.drop (i + y.length)
    R1.length = G ∧ (R1.take (i + 1) ++ L.drop i ++ R1.drop (i + 1 + (L.drop i).length)).length = G ∧ (R1.take (i + 1) ++ L.drop i ++ R1.drop (i + 1 + (L.drop i).length)).take (n + 1) = L.take i ++ y ++ L.drop i := by
  intro R1
  have e2 : (L.drop i).length = n - i := by rw [List.length_drop]; omega
  have e1 : (R0.take i).length = i := by rw [List.length_take]; omega
  have h1 : R1.length = G := by
    show (R0.take i ++ y ++ R0.drop (i + y.length)).length = G
    simp only [List.length_append, List.length_take, List.length_drop]; omega
  have h2 : R1.take (i + 1) = L.take i ++ y := by
    show (R0.take i ++ y ++ R0.drop (i + y.length)).take (i + 1) = _
    have e3 : i + 1 = (R0.take i ++ y).length := by rw [List.length_append, e1, hy]
    rw [e3, List.take_left', ht]
    rfl
  refine ⟨h1, ?_, ?_⟩
  · simp only [List.length_append, List.length_take, List.length_drop, h1]; omega
  · rw [h2]
    have e4 : n + 1 = (L.take i ++ y ++ L.drop i).length := by
      rw [List.length_append, List.length_append, List.length_take, e2, hy]; omega
    rw [e4, List.take_left']
    rfl

/-! ### contracts -/
/-- an own list's row -/
theorem own_row {w : World} {B : Nat} {v : Value} {X : List Int} (h : Own 3 iv w B v X) : (v = .slice none 0 0 ∧ X = []) ∨ ∃ g cap cur, v = .slice (some ⟨g, 0, none⟩) X.length cap ∧ B ≤ g ∧ BK 3 w g cur ∧ X.length ≤ cap ∧ cap ≤ maxLen ∧ cur.length = cap ∧ cur.take X.length = X.map iv := by
  unfold Own at h
  rcases h.2 with ⟨rfl, hn⟩ | ⟨g, cap, cur, rfl, hb, hg, hnc, hcm, hcs, htake⟩
  · exact .inl ⟨rfl, List.eq_nil_of_length_eq_zero hn⟩
  · exact .inr ⟨g, cap, cur.toList, rfl, hb, by unfold BK; simpa using hg, hnc, hcm, by simpa using hcs, by simpa using htake⟩
theorem row_own {w : World} {B g cap : Nat} {X : List Int} {cur : List Value} (hb : B ≤ g) (hg : BK 3 w g cur) (hnc : X.length ≤ cap) (hcm : cap ≤ maxLen) (hcs : cur.length = cap) (ht : cur.take X.length = X.map iv) : Own 3 iv w B (.slice (some ⟨g, 0, none⟩) X.length cap) X := by
  unfold Own
  exact ⟨by simp, .inr ⟨g, cap, cur.toArray, rfl, hb, hg, hnc, hcm, by simpa using hcs, by simpa using ht⟩⟩
theorem iv_cells {w : World} {g : Nat} {cur : List Value} {X : List Int} (hg : BK 3 w g cur) (ht : cur.take X.length = X.map iv) : ∀ j v, (X.map iv)[j]? = some v → w.cell? ⟨g, 0 + j, none⟩ = some v := fun j v hj => by
  rw [← ht, List.getElem?_take] at hj
  split at hj
  · rw [Nat.zero_add]; exact hg.cell j hj
  · cases hj
theorem getDI {X : List Int} {j : Nat} (hj : j < X.length) : X[j]? = some (X.getD j 0) := by
  rw [List.getD_eq_getElem?_getD, List.getElem?_eq_getElem hj]; rfl

theorem cloneI_any (A : Option Addr) (c : Nat) (X : List Int) (w : World) (hsl : IL w w.heap.size A X) (hX : X.length ≤ 1000000) :
    Calls Tryz.prog 47 #[.slice A X.length c] w (RetIs X w) := by
  cases A with
  | none =>
    have h0 : X = [] := by
      rcases Nat.eq_zero_or_pos X.length with h | h
      · exact List.eq_nil_of_length_eq_zero h
      · obtain ⟨b, o, e, _⟩ := hsl h; cases e
    subst h0
    refine (Tryz.slices_Clone_int_nil 0 c w).mono ?_
    rintro e w' ⟨rfl, rfl⟩
    exact ⟨_, rfl, Own.nil _ _, Below.refl _ _⟩
  | some a =>
    rcases Nat.eq_zero_or_pos X.length with h | h
    · have h0 := List.eq_nil_of_length_eq_zero h
      subst h0
      refine (Tryz.slices_Clone_int_zero a c w).mono ?_
      rintro e w' ⟨v', rfl, hown, _, hb⟩
      exact ⟨v', rfl, hown, hb⟩
    · obtain ⟨b, o, e, hb, hc⟩ := hsl h
      obtain rfl := Option.some.inj e
      refine (Tryz.slices_Clone_int b o X.length c X w (Nat.le_refl _) (by omega) (fun j hj => hc j _ (getDI hj))).mono ?_
      rintro e w' ⟨v', rfl, hown, _, hb⟩
      rw [List.take_length] at hown
      exact ⟨v', rfl, hown, hb⟩

theorem searchI_any (A : Option Addr) (c : Nat) (X : List Int) (x a : Int) (w : World) (hsl : IL w w.heap.size A X) (hX : X.length ≤ 1000000) (hu : upI a X = true) :
    Calls Tryz.prog 45 #[.slice A X.length c, .int .i64 x] w fun e w' => e = .returned (.tuple #[.int .i64 (posI X x : Nat), .bool (decide (x ∈ X))]) ∧ ∃ q, w' = w.drewN q := by
  rcases Nat.eq_zero_or_pos X.length with h | h
  · have h0 := List.eq_nil_of_length_eq_zero h
    subst h0
    refine (Tryz.slices_BinarySearch_int_empty A c x w).mono ?_
    rintro e w' ⟨rfl, rfl⟩
    exact ⟨rfl, 0, rfl⟩
  · obtain ⟨b, o, rfl, hb, hc⟩ := hsl h
    refine (Tryz.slices_BinarySearch_int b o X.length c X x w (Nat.le_refl _) (by omega) (fun j hj => hc j _ (getDI hj)) (by rw [List.take_length]; exact up_pair hu)).mono ?_
    rintro e w' ⟨rfl, q, rfl⟩
    rw [List.take_length]
    refine ⟨?_, q, rfl⟩
    rw [show X.contains x = decide (x ∈ X) by rw [Bool.eq_iff_iff]; simp]
    rfl

theorem grown_size (w : World) (n c : Nat) (hn : n ≤ 2000000) : grownCap w n c 3 ≤ maxLen := grownCap_le_maxLen w n c 3 (by unfold maxLen; omega)
theorem zeroI_len (k : Nat) : (Builtin.zeroCells (Value.int .i64 0).cells k).toList.length = k := by
  rw [Array.length_toList, size_zeroCells]
  exact Nat.mul_one _

theorem insertI_any (v : Value) (X : List Int) (i : Nat) (x : Int) (W : World) (B vb : Nat) (hown : Own 3 iv W B v X) (hvb : BK 3 W vb [iv x]) (hne : ∀ q n c, v = .slice (some ⟨q, 0, none⟩) n c → vb ≠ q) (hB : B ≤ W.heap.size) (hi : i ≤ X.length) (hX : X.length ≤ 1000000) :
    Calls Tryz.prog 46 #[v, .int .i64 i, .slice (some ⟨vb, 0, none⟩) 1 1] W fun e w' => ∃ v', e = .returned v' ∧ Own 3 iv w' B v' (X.take i ++ [x] ++ X.drop i) ∧ Below B W w' := by
  have hvs : ∀ j u, [iv x][j]? = some u → W.cell? ⟨vb, 0 + j, none⟩ = some u := fun j u hj => by rw [Nat.zero_add]; exact hvb.cell j hj
  have h1v : ∀ u ∈ [iv x], u.oneCell' = true := fun u hu => by simp at hu; subst hu; rfl
  have h1c : ∀ u ∈ X.map iv, u.oneCell' = true := fun u hu => by obtain ⟨y, _, rfl⟩ := List.mem_map.1 hu; rfl
  have hml : (X.map iv).length = X.length := List.length_map _
  have hrl : (X.take i ++ [x] ++ X.drop i).length = X.length + 1 := by simp; omega
  have hrm : (X.take i ++ [x] ++ X.drop i).map iv = (X.map iv).take i ++ [iv x] ++ (X.map iv).drop i := by simp [List.map_take, List.map_drop]
  have e3 : insRen.t 3 = 3 := rfl
  rcases own_row hown with ⟨rfl, rfl⟩ | ⟨g, cap, cur, rfl, hbg, hg, hnc, hcm, hcs, ht⟩
  · have hi0 : i = 0 := by simpa using hi
    subst hi0
    refine (Go.Proofs.Any2.slices_Insert_int_end_grow insLay none 0 0 vb 0 1 1 [] [iv x] W (by decide) (by decide) (by decide) (by decide) rfl rfl (fun _ => rfl) (fun a e => by cases e) hvs h1v).mono ?_
    rintro e w' ⟨rfl, rfl⟩
    rw [e3]
    refine ⟨_, rfl, ?_, ((Below.refl B W).drew).alloc hB _⟩
    have hge : 1 ≤ grownCap W (0 + 1) 0 3 := grownCap_ge W _ _ _
    have hgm := grown_size W (0 + 1) 0 (by decide)
    generalize grownCap W (0 + 1) 0 3 = G0 at hge hgm ⊢
    have hbk : BK 3 (W.drew.alloc (.cells (([] ++ [iv x] : List Value).toArray ++ Builtin.zeroCells (Value.int .i64 0).cells (G0 - (0 + 1))) 3)) W.heap.size ([iv x] ++ (Builtin.zeroCells (Value.int .i64 0).cells (G0 - (0 + 1))).toList) := by
      have := heap_alloc_new W.drew (.cells (([] ++ [iv x] : List Value).toArray ++ Builtin.zeroCells (Value.int .i64 0).cells (G0 - (0 + 1))) 3)
      unfold BK
      refine this.trans ?_
      simp
    exact row_own (X := [x]) hB hbk hge hgm (by rw [List.length_append, zeroI_len]; simp only [List.length_cons, List.length_nil]; omega) (by simp)
  · unfold maxLen at hcm
    have hcell := iv_cells hg ht
    by_cases he : i = X.length
    · subst he
      rw [List.take_length, List.drop_length, List.append_nil]
      by_cases hroom : X.length + 1 ≤ cap
      · refine (Go.Proofs.Any2.slices_Insert_int_end_room insLay g 0 X.length cap vb 0 1 1 [iv x] W (by decide) hroom hcm rfl (fun j hj => ?_) (fun j hj => hg.free _) hvs h1v).mono ?_
        · have hj0 : j = 0 := by omega
          subst hj0
          obtain ⟨u, hu⟩ : ∃ u, cur[X.length]? = some u := ⟨_, List.getElem?_eq_getElem (by omega)⟩
          rw [Nat.zero_add, Nat.add_zero, hg.cell _ hu]; rfl
        · rintro e w' ⟨rfl, rfl⟩
          refine ⟨_, rfl, ?_, below_sets hbg _ _ _ (Below.refl B W)⟩
          have hbk := bk_setCells [iv x] (0 + X.length) W cur hg (by simp; omega)
          rw [Nat.zero_add] at hbk ⊢
          have e2 : X.length + 1 = (X ++ [x]).length := by simp
          rw [e2]
          refine row_own hbg hbk (by simp; omega) (by unfold maxLen; omega) (by simp; omega) ?_
          rw [List.length_append, ht, ← hml, List.take_append_of_le_length (by simp)]
          rw [List.take_of_length_le (by simp)]
          simp
      · obtain rfl : cap = X.length := by omega
        refine (Go.Proofs.Any2.slices_Insert_int_end_grow insLay (some ⟨g, 0, none⟩) X.length X.length vb 0 1 1 (X.map iv) [iv x] W (by decide) (by omega) (by omega) (by omega) hml rfl (fun e => by cases e) (fun a e j u hj => by
          obtain rfl := Option.some.inj e
          rw [Addr.add_lit]; exact hcell j u hj) hvs h1v).mono ?_
        rintro e w' ⟨rfl, rfl⟩
        rw [e3]
        refine ⟨_, rfl, ?_, ((Below.refl B W).drew).alloc hB _⟩
        have hge : X.length + 1 ≤ grownCap W (X.length + 1) X.length 3 := grownCap_ge W _ _ _
        have hgm := grown_size W (X.length + 1) X.length (by omega)
        have e2 : X.length + 1 = (X ++ [x]).length := by simp
        have hbk : BK 3 (W.drew.alloc (.cells ((X.map iv ++ [iv x] : List Value).toArray ++ Builtin.zeroCells (Value.int .i64 0).cells (grownCap W (X.length + 1) X.length 3 - (X.length + 1))) 3)) W.heap.size (X.map iv ++ [iv x] ++ (Builtin.zeroCells (Value.int .i64 0).cells (grownCap W (X.length + 1) X.length 3 - (X.length + 1))).toList) := by
          have := heap_alloc_new W.drew (.cells ((X.map iv ++ [iv x] : List Value).toArray ++ Builtin.zeroCells (Value.int .i64 0).cells (grownCap W (X.length + 1) X.length 3 - (X.length + 1))) 3)
          unfold BK
          refine this.trans ?_
          simp
        have hfin := row_own (X := X ++ [x]) (B := B) hB hbk (by rw [← e2]; exact hge) hgm (by rw [List.length_append, List.length_append, zeroI_len, hml]; simp; omega) (by
          rw [List.take_append_of_le_length (by simp)]
          rw [List.take_of_length_le (by simp)]
          simp)
        rw [← e2] at hfin
        exact hfin
    · have hil : i < X.length := by omega
      have hml2 : ((X.map iv).drop i).length = X.length - i := by rw [List.length_drop, hml]
      by_cases hroom : X.length + 1 ≤ cap
      · have hshape : W.shape? g = some (3, cur.length) := by
          unfold World.shape?
          unfold BK at hg
          simp only [hg, List.size_toArray]
        have hshv : W.shape? vb = some (3, 1) := by
          unfold World.shape?
          unfold BK at hvb
          simp only [hvb]
          rfl
        refine (Go.Proofs.Any2.slices_Insert_int_shift insLay g 0 X.length cap i vb 0 1 1 (X.map iv) [iv x] W hil (by decide) hroom hcm (hne _ _ _ rfl) hml rfl hcell (fun j hj => ?_) (fun j hj => hg.free _) hvs h1c h1v 3 3 1 cur.length hshv hshape (by omega) (hvb.free 0) (hvb.free 1)).mono ?_
        · obtain ⟨u, hu⟩ : ∃ u, cur[j]? = some u := ⟨_, List.getElem?_eq_getElem (by omega)⟩
          rw [Nat.zero_add, hg.cell _ hu]; rfl
        · rintro e w' ⟨rfl, rfl⟩
          refine ⟨_, rfl, ?_, below_sets hbg _ _ _ (below_sets hbg _ _ _ (Below.refl B W).drew)⟩
          obtain ⟨s1, s2, s3⟩ := row_shift cur (X.map iv) [iv x] X.length i cap hil hroom hcs hml ht rfl
          rw [Nat.zero_add, Nat.zero_add]
          have hb1 := bk_setCells ((X.map iv).drop i) (i + 1) W.drew cur hg.drew (by rw [hml2]; omega)
          have hb2 := bk_setCells [iv x] i _ _ hb1 (by rw [s1]; simp; omega)
          rw [← hrl]
          exact row_own hbg hb2 (by rw [hrl]; omega) (by unfold maxLen; omega) s2 (by rw [hrl, hrm]; exact s3)
      · refine (Go.Proofs.Any2.slices_Insert_int_grow insLay g 0 X.length cap i vb 0 1 1 (X.map iv) [iv x] W hil (by decide) hnc (by omega) (by omega) hml rfl hcell hvs h1c h1v).mono ?_
        rintro e w' ⟨rfl, rfl⟩
        have hge : X.length + 1 ≤ grownCap W (X.length + 1) cap 3 := grownCap_ge W _ _ _
        have hgm := grown_size W (X.length + 1) cap (by omega)
        rw [e3]
        refine ⟨_, rfl, ?_, below_sets hB _ _ _ (below_sets hB _ _ _ (((Below.refl B W).alloc hB _).drew)).drew⟩
        generalize grownCap W (X.length + 1) cap 3 = G0 at hge hgm ⊢
        have hbk : BK 3 (W.alloc (.cells (((X.map iv).take i).toArray ++ Builtin.zeroCells (Value.int .i64 0).cells (X.length + 1 - i) ++ Builtin.zeroCells (Value.int .i64 0).cells (G0 - (X.length + 1))) 3)) W.heap.size ((X.map iv).take i ++ (Builtin.zeroCells (Value.int .i64 0).cells (X.length + 1 - i)).toList ++ (Builtin.zeroCells (Value.int .i64 0).cells (G0 - (X.length + 1))).toList) := by
          have := heap_alloc_new W (.cells (((X.map iv).take i).toArray ++ Builtin.zeroCells (Value.int .i64 0).cells (X.length + 1 - i) ++ Builtin.zeroCells (Value.int .i64 0).cells (G0 - (X.length + 1))) 3)
          unfold BK
          refine this.trans ?_
          simp
        have htl : ((X.map iv).take i).length = i := by rw [List.length_take, hml]; omega
        have hRl : ((X.map iv).take i ++ (Builtin.zeroCells (Value.int .i64 0).cells (X.length + 1 - i)).toList ++ (Builtin.zeroCells (Value.int .i64 0).cells (G0 - (X.length + 1))).toList).length = G0 := by
          rw [List.length_append, List.length_append, zeroI_len, zeroI_len, htl]; omega
        have hRt : ((X.map iv).take i ++ (Builtin.zeroCells (Value.int .i64 0).cells (X.length + 1 - i)).toList ++ (Builtin.zeroCells (Value.int .i64 0).cells (G0 - (X.length + 1))).toList).take i = (X.map iv).take i := by
          have aux : ∀ (T Z : List Value), T.length = i → (T ++ Z).take i = T := fun T Z h => by rw [← h, List.take_left']; rfl
          rw [List.append_assoc]
          exact aux _ _ htl
        obtain ⟨s1, s2, s3⟩ := row_grow _ (X.map iv) [iv x] X.length i G0 hil hge hRl hml hRt rfl
        have hb1 := bk_setCells [iv x] i _ _ hbk.drew (by rw [hRl]; simp; omega)
        have hb2 := bk_setCells ((X.map iv).drop i) (i + 1) _ _ hb1.drew (by rw [s1, hml2]; omega)
        have hfin := row_own (X := X.take i ++ [x] ++ X.drop i) hB hb2 (by rw [hrl]; omega) hgm s2 (by rw [hrl, hrm]; exact s3)
        rw [hrl] at hfin
        exact hfin

/-- an element less, in place -/
theorem deleteI_any (v : Value) (X : List Int) (i : Nat) (W : World) (B : Nat) (hown : Own 3 iv W B v X) (hi : i < X.length) :
    Calls Tryz.prog 73 #[v, .int .i64 i, .int .i64 ((i : Int) + 1)] W fun e w' => ∃ v', e = .returned v' ∧ Own 3 iv w' B v' (X.take i ++ X.drop (i + 1)) ∧ Below B W w' := by
  rcases own_row hown with ⟨rfl, rfl⟩ | ⟨g, cap, cur, rfl, hbg, hg, hnc, hcm, hcs, ht⟩
  · simp at hi
  · have hcell := iv_cells hg ht
    have hc := Tryz.slices_Delete_int_cells g 0 X.length cap i (i + 1) X W (Nat.le_refl _) hnc (by unfold maxLen at hcm; exact hcm) (by omega) (by omega) (fun j hj => hcell j _ (by rw [List.getElem?_map, getDI hj]; rfl)) (fun j _ => hg.free _)
    rw [show ((i + 1 : Nat) : Int) = (i : Int) + 1 by omega] at hc
    refine hc.mono ?_
    rintro e w' ⟨rfl, q, rfl⟩
    refine ⟨_, rfl, ?_, below_sets hbg _ _ _ ⟨rfl, rfl, rfl, Nat.le_refl _, fun _ _ => rfl⟩⟩
    have hl : (X.take i ++ X.drop (i + 1)).length = X.length - 1 := by simp; omega
    have e1 : X.length - (i + 1 - i) = (X.take i ++ X.drop (i + 1)).length := by rw [hl]; omega
    rw [e1, List.take_length, show i + 1 - i = 1 by omega]
    have hn : ((X.take i ++ X.drop (i + 1) ++ List.replicate 1 0).map (Value.int .i64)).length = X.length := by simp; omega
    have hbk := bk_setCells ((X.take i ++ X.drop (i + 1) ++ List.replicate 1 0).map (Value.int .i64)) 0 (W.drewN q) cur hg (by rw [hn]; omega)
    refine row_own hbg hbk (by rw [hl]; omega) hcm (by simp only [List.length_append, List.length_take, List.length_drop, hn]; omega) ?_
    rw [List.take_zero, List.nil_append, List.map_append, List.append_assoc, List.take_append_of_le_length (by simp), List.take_of_length_le (by simp)]
    rfl
end Go.Proofs.YtjpikgphfhjilaaGreatDoor.S2
namespace Go.Proofs.YtjpikgphfhjilaaGreatDoor.S2
open Go.RowKit

set_option maxRecDepth 20000 in
set_option maxHeartbeats 2000000 in
theorem iHas_any (A : Option Addr) (c : Nat) (X : List Int) (L n : Int) (w : World) (hsl : IL w w.heap.size A X) (_hc : X.length ≤ c) (hv : ckI X L = 0) (_h1 : -9223372036854775808 ≤ n) (_h2 : n ≤ 9223372036854775807) :
    Calls Tryz.prog 63 #[pv A c X L, .int .i64 n] w fun e w' => e = .returned (.bool (decide (n ∈ X))) ∧ Below w.heap.size w w' := by
  have HC := Lib.hid (searchI_any A c X n 0 _ (CL.step hsl (below_new w (.cells #[.slice A X.length c, .int .i64 L] 25))) (by have := (ck_ok.1 hv).1; omega) (ck_ok.1 hv).2.1)
  generalize decide (n ∈ X) = R at HC ⊢
  generalize posI X n = p at HC
  have hm : X.length ≤ 1000000 := by have := (ck_ok.1 hv).1; omega
  clear hsl hv _hc _h1 _h2
  go_enter Tryz.func63, Tryz.ntmps63
  go_wp2_with fail
  refine HC.out.mono ?_
  rintro e w' ⟨rfl, q, rfl⟩
  go_wp2
  go_ret
  exact ⟨rfl, stepB (below_new w _) (bDN _ _)⟩


/-! ### the next identifier -/
theorem tk_first {X : List Int} {L : Int} {j : Nat} (hX : X.length < 32) (h0 : 0 ≤ L) (h1 : L ≤ 65535) (ha : ∀ i, i < j → elI L (1 + i) ∈ X) (hb : elI L (1 + j) ∉ X) : tkI X L = elI L (1 + j) := by
  have hr := aft_range h0 h1
  obtain ⟨j', hj', e, ha', hb'⟩ := tkF_el X 32 (aft L) hr.1 hr.2
  rw [el_aft h0 h1] at e ha' hb'
  have hb'' : elI L (1 + j') ∉ X := by
    have h32 : j' ≤ X.length := inj_len (f := fun i => elI (elI L 1) i) j' X (fun a b h2 h3 h => el_inj (by omega) (by omega) h) ha'
    have := hb' (by omega)
    rwa [el_el] at this
  have hjj : j = j' := by
    rcases Nat.lt_trichotomy j j' with h | h | h
    · have := ha' j h
      rw [el_el] at this
      exact absurd this hb
    · exact h
    · exact absurd (ha j' h) hb''
  unfold tkI
  rw [el_aft h0 h1, e, el_el, hjj]
theorem el_next {L : Int} {k : Nat} {n : Int} (h : elI n 1 = elI L (1 + k)) : n % 65535 + 1 = elI L (1 + k) := by
  rw [← h]; unfold elI; omega
theorem el_all {X : List Int} {L : Int} {j : Nat} (hj : j ≤ 33) (ha : ∀ i, i < j → elI L (1 + i) ∈ X) : j ≤ X.length := inj_len (f := fun i => elI L (1 + i)) j X (fun a b h2 h3 h => by have := el_inj (n := L) (a := 1 + a) (b := 1 + b) (by omega) (by omega) h; omega) ha

set_option maxRecDepth 20000 in
set_option maxHeartbeats 4000000 in
theorem iNext_any (A : Option Addr) (c : Nat) (X : List Int) (L : Int) (w : World) (hsl : IL w w.heap.size A X) (hc : X.length ≤ c) (hv : ckI X L = 0) (h32 : X.length < 32) :
    Calls Tryz.prog 44 #[pv A c X L] w fun e w' => e = .returned (.int .i64 (tkI X L)) ∧ Below w.heap.size w w' := by
  obtain ⟨_, _, hL0, hL1⟩ := ck_ok.1 hv
  have HHas := Lib.hid (fun n w hs h1 h2 => iHas_any A c X L n w hs hc hv h1 h2)
  have HS := Lib.hid (CL.step hsl (below_new w (.cells #[.slice A X.length c, .int .i64 L] 25)))
  obtain ⟨R, hR⟩ : ∃ R, tkI X L = R := ⟨_, rfl⟩
  rw [hR]
  have HR := Lib.hid hR
  have HL := Lib.hid (And.intro hL0 hL1)
  have HB := Lib.hid (below_new w (.cells #[.slice A X.length c, .int .i64 L] 25))
  have HM : Hid (BK 25 (w.alloc (.cells #[.slice A X.length c, .int .i64 L] 25)) w.heap.size [.slice A X.length c, .int .i64 L]) := Lib.hid (BK.new _ _ _)
  clear hR hsl hv hL0 hL1 hc
  go_enter Tryz.func44, Tryz.ntmps44
  go_wp2_with fail
  obtain ⟨W0, hW0⟩ : ∃ W0, W0 = w.alloc (.cells #[.slice A X.length c, .int .i64 L] 25) := ⟨_, rfl⟩
  rw [← hW0] at HS HB HM ⊢
  clear hW0
  go_loopg [3, 10] (X.length + 1) (fun g u3 v wr => ∃ (k : Nat) (n : Int), k + g = X.length + 1 ∧ v = .int .i64 k ∧ u3 = .int .i64 n ∧ 0 ≤ n ∧ n ≤ 65535 ∧ elI n 1 = elI L (1 + k) ∧ (∀ i, i < k → elI L (1 + i) ∈ X) ∧ Below W0.heap.size W0 wr)
  case atStart => exact ⟨0, L, by omega, rfl, rfl, HL.out.1, HL.out.2, rfl, fun i hi => absurd hi (by omega), Below.refl _ _⟩
  case round =>
    obtain ⟨k, n, hkg, rfl, rfl, hn0, hn1, hel, hall, hb0⟩ := hrel
    cases gk with
    | zero =>
      have := el_all (by omega) hall
      omega
    | succ g =>
      have e3 : decide ((k : Int) < (X.length : Int) + 1) = true := decide_eq_true (by omega)
      have e3' : decide (k < X.length + 1) = true := decide_eq_true (by omega)
      have HN := Lib.hid (el_next hel)
      have HER := Lib.hid (el_range L (1 + k))
      have HM2 := Lib.hid (HM.out.step hb0)
      have d0 := HM2.out.cell 0 rfl
      have d1 := HM2.out.cell 1 rfl
      have HB2 := Lib.hid hb0
      have HH := Lib.hid (HHas.out (elI L (1 + k)) wr (HS.out.step hb0) (by have := HER.out; omega) (by have := HER.out; omega))
      have HG := Lib.hid hkg
      have HALL := Lib.hid hall
      have t1 : n.tmod 65535 = n % 65535 := Int.tmod_eq_emod_of_nonneg hn0
      have t2 : IntKind.i64.wrap (n % 65535 + 1) = n % 65535 + 1 := by rw [IntKind.wrap_i64]; omega
      have t3 : 0 ≤ n % 65535 := by omega
      have t4 : n % 65535 ≤ 65534 := by omega
      by_cases hm : elI L (1 + k) ∈ X
      · rw [decide_eq_true hm] at HH
        have HALL2 := Lib.hid (show ∀ i, i < k + 1 → elI L (1 + i) ∈ X from fun i hi => by
          by_cases hik : i < k
          · exact HALL.out i hik
          · have : i = k := by omega
            subst this; exact hm)
        have HEL2 := Lib.hid (show elI (elI L (1 + k)) 1 = elI L (1 + (k + 1)) by rw [el_el]; rfl)
        have HN2 := HN
        clear hm hkg hel hall hb0 HALL
        generalize elI L (1 + k) = m at HN HER HH HEL2
        go_wp2_with fail
        rw [HN.out]
        clear HN2
        refine HH.out.mono ?_
        rintro e w' ⟨rfl, hb⟩
        have HB3 := Lib.hid (stepB HB2.out hb)
        clear hb
        go_wp2
        go_roundg g
        case measure => omega
        case rel => exact ⟨k + 1, m, by have := HG.out; omega, nxt k (by have := HG.out; omega), rfl, by have := HER.out; omega, HER.out.2, HEL2.out, HALL2.out, HB3.out⟩
      · rw [decide_eq_false hm] at HH
        have HF := Lib.hid (show elI L (1 + k) = R by rw [← HR.out]; exact (tk_first h32 HL.out.1 HL.out.2 hall hm).symm)
        clear hm hkg hel hall hb0 HALL
        generalize elI L (1 + k) = m at HN HER HH HF
        go_wp2_with fail
        rw [HN.out]
        refine HH.out.mono ?_
        rintro e w' ⟨rfl, hb⟩
        have HB3 := Lib.hid (stepB HB.out (stepB HB2.out hb))
        clear hb
        go_wp2
        go_ret
        exact ⟨ret_i HF.out, HB3.out⟩
end Go.Proofs.YtjpikgphfhjilaaGreatDoor.S2
namespace Go.Proofs.YtjpikgphfhjilaaGreatDoor.S2
open Go.RowKit

theorem own_apart {w : World} {B : Nat} {v : Value} {X : List Int} (h : Own 3 iv w B v X) : ∀ q n c, v = .slice (some ⟨q, 0, none⟩) n c → w.heap.size ≠ q := fun q n c e => by
  rcases own_row h with ⟨rfl, _⟩ | ⟨g, cap, cur, rfl, _, hg, _⟩
  · simp at e
  · simp only [Value.slice.injEq, Option.some.injEq, Addr.mk.injEq, and_true] at e
    have := hg.lt
    omega

/-- an identifier, a pool in memory of its own and a code that a call answers -/
def RetTkN (r : Int × List Int × Int × Int) (W : World) (e : Ending) (w' : World) : Prop :=
  ∃ A c, e = .returned (.tuple #[.int .i64 r.1, pv A c r.2.1 r.2.2.1, .int .i64 r.2.2.2]) ∧ r.2.1.length ≤ c ∧ IL w' w'.heap.size A r.2.1 ∧ (r.2.1 = [] ∨ ∀ b o, A = some ⟨b, o, none⟩ → W.heap.size ≤ b) ∧ Below W.heap.size W w'
set_option maxRecDepth 20000 in
set_option maxHeartbeats 4000000 in
theorem iTakeN_any (A : Option Addr) (c : Nat) (X : List Int) (L : Int) (w : World) (hsl : IL w w.heap.size A X) (hc : X.length ≤ c) (hv : ckI X L = 0) :
    Calls Tryz.prog 18 #[pv A c X L] w (RetTkN (tkR X L) w) := by
  unfold tkR
  by_cases h32 : 32 ≤ X.length
  · rw [if_pos h32]
    have hd : decide ((32 : Int) ≤ (X.length : Int)) = true := decide_eq_true (by omega)
    clear hsl h32 hv
    obtain ⟨W0, hW0⟩ : ∃ W0, W0 = (w.alloc (.cells #[.slice A X.length c, .int .i64 L] 25)).alloc (.cells #[.slice none 0 0, .int .i64 0] 25) := ⟨_, rfl⟩
    have H0 := Lib.hid (two_laid (v1 := [.slice A X.length c, .int .i64 L]) (v2 := [.slice none 0 0, .int .i64 0]) hW0)
    go_enter Tryz.func18, Tryz.ntmps18
    go_wp2
    exact bodyPost_ret (v := .tuple #[.int .i64 0, pv none 0 [] 0, .int .i64 6]) (by simp [results, Tryz.results18, go_sem]) rfl ⟨none, 0, rfl, Nat.le_refl _, CL.nil _ _ _, .inl rfl, stepB ((Below.refl _ _).alloc (Nat.le_refl _) _) ((Below.refl _ _).alloc (Nat.le_refl _) _)⟩
  rw [if_neg h32]
  have hd : decide ((32 : Int) ≤ (X.length : Int)) = false := decide_eq_false (by omega)
  have hm : X.length ≤ 1000000 := by omega
  have hup := (ck_ok.1 hv).2.1
  have HS := Lib.hid hsl
  have HN := Lib.hid (fun w hs => iNext_any A c X L w hs hc hv (by omega))
  have HF := Lib.hid (fun w hs => searchI_any A c X (tkI X L) 0 w hs hm hup)
  have HC := Lib.hid (fun w hs => cloneI_any A c X w hs hm)
  have HP := Lib.hid (pos_le X (tkI X L))
  have HE := Lib.hid (ins_pos (n := tkI X L) hup)
  have HM := Lib.hid hm
  generalize decide (tkI X L ∈ X) = fnd at HF
  generalize posI X (tkI X L) = p at HF HP HE
  generalize tkI X L = R at HN HF HE ⊢
  clear hsl h32 hv hup hc hm
  go_enter Tryz.func18, Tryz.ntmps18
  go_upto_region 1 with fail
  obtain ⟨W0, hW0⟩ : ∃ W0, W0 = (w.alloc (.cells #[.slice A X.length c, .int .i64 L] 25)).alloc (.cells #[.slice none 0 0, .int .i64 0] 25) := ⟨_, rfl⟩
  rw [← hW0]
  have H0 := two_laid (v1 := [.slice A X.length c, .int .i64 L]) (v2 := [.slice none 0 0, .int .i64 0]) hW0
  clear hW0
  obtain ⟨t1, t2, _, hB0⟩ := H0
  have T1 := Lib.hid t1
  have T2 := Lib.hid t2
  have HB := Lib.hid hB0
  have d0 := t1.cell 0 rfl
  have d1 := t1.cell 1 rfl
  clear t1 t2 hB0
  go_wp2_with fail
  refine (HN.out _ (HS.out.step HB.out)).mono ?_
  rintro e w1 ⟨rfl, hb1⟩
  clear d0 d1
  have U1 := Lib.hid (T1.out.step hb1)
  have U2 := Lib.hid (T2.out.step hb1)
  have HB1 := Lib.hid (stepB HB.out hb1)
  have d0 := U1.out.cell 0 rfl
  clear hb1 T1 T2 HB HN
  go_wp2_with fail
  refine (HF.out _ (HS.out.step HB1.out)).mono ?_
  rintro e w2 ⟨rfl, q, hq⟩
  have hb2 : Below w1.heap.size w1 w2 := by rw [hq]; exact bDN _ _
  clear d0 hq
  have T1 := Lib.hid (U1.out.step hb2)
  have T2 := Lib.hid (U2.out.step hb2)
  have HB2 := Lib.hid (stepB HB1.out hb2)
  have d0 := T1.out.cell 0 rfl
  clear hb2 U1 U2 HB1 HF
  go_wp2_with fail
  refine (HC.out _ (HS.out.step HB2.out)).mono ?_
  rintro e w3 ⟨v3, rfl, hown3, hb3⟩
  clear d0
  have U2 := Lib.hid (T2.out.step hb3)
  have HB3 := Lib.hid (stepB HB2.out hb3)
  have HI := Lib.hid (insertI_any v3 X p R (w3.alloc (.cells #[.int .i64 R] 3)) w2.heap.size w3.heap.size (hown3.alloc _) (BK.new w3 3 [iv R]) (own_apart hown3) (by have := hb3.size; simp; omega) HP.out HM.out)
  rw [← HE.out] at HI
  have HA3 := Lib.hid (And.intro T2.out.lt hb3.size)
  clear hb3 hown3 T1 HC
  go_wp2_with fail
  refine HI.out.mono ?_
  rintro e w5 ⟨v5, rfl, hown5, hb5⟩
  obtain ⟨A5, c5, hv5, hc5, hsl5, hfr5⟩ := hown5.retB
  subst hv5
  have t2 := (U2.out.alloc (.cells #[.int .i64 R] 3)).keep HA3.out.1 hb5
  have d2 := t2.cell 0 rfl
  have d3 := t2.cell 1 rfl
  have f2 := t2.free 0
  have f3 := t2.free 1
  have hls := t2.lt
  have hz2 := HB2.out.size
  have HB5 := Lib.hid ((HB3.out.alloc HB3.out.size (.cells #[.int .i64 R] 3)).trans (hb5.mono hz2))
  have HSL := Lib.hid hsl5
  have HC5 := Lib.hid hc5
  have HFR := Lib.hid hfr5
  clear hb5 hown5 hsl5 hc5 t2 hfr5 HI
  have hA1 : w.heap.size + 1 < w2.heap.size := HA3.out.1
  go_wp2_with fail
  exact bodyPost_ret (v := .tuple #[.int .i64 R, pv A5 c5 (insI X R) R, .int .i64 0]) (by simp [results, Tryz.results18, go_sem, d2, d3]) rfl ⟨A5, c5, rfl, HC5.out, HSL.out _ (by simp) (fun p hp => by rw [set_other _ _ _ _ _ (by omega), set_other _ _ _ _ _ (by omega)]), .inr (fun b o e => by have := HFR.out b o e; omega), below_set2 HB5.out (b := w.heap.size + 1) (Nat.le_succ _) _ _⟩

theorem iTake_any (A : Option Addr) (c : Nat) (X : List Int) (L : Int) (w : World) (hsl : IL w w.heap.size A X) (hc : X.length ≤ c) (hv : ckI X L = 0) :
    Calls Tryz.prog 18 #[pv A c X L] w (RetTk A X (tkR X L) w) := (iTakeN_any A c X L w hsl hc hv).mono fun _ _ ⟨A', c', h1, h2, h3, h4, h5⟩ => ⟨A', c', h1, h2, h3, h4.elim .inl (fun h => .inr (.inr h)), h5⟩

set_option maxRecDepth 20000 in
set_option maxHeartbeats 4000000 in
theorem iFree_any (A : Option Addr) (c : Nat) (X : List Int) (L n : Int) (w : World) (hsl : IL w w.heap.size A X) (_hc : X.length ≤ c) (hv : ckI X L = 0) (_h1 : -9223372036854775808 ≤ n) (_h2 : n ≤ 9223372036854775807) :
    Calls Tryz.prog 58 #[pv A c X L, .int .i64 n] w (RetPB A X (delI X n) L (decide (n ∈ X)) w) := by
  have hm : X.length ≤ 1000000 := by have := (ck_ok.1 hv).1; omega
  have hup := (ck_ok.1 hv).2.1
  have HS := Lib.hid hsl
  have HF := Lib.hid (fun A c w hs => searchI_any A c X n 0 w hs hm hup)
  have HC := Lib.hid (fun w hs => cloneI_any A c X w hs hm)
  by_cases hmem : n ∈ X
  · obtain ⟨hp, he⟩ := del_pos hup hmem
    rw [decide_eq_true hmem] at HF ⊢
    have HP := Lib.hid hp
    have HE := Lib.hid he
    generalize posI X n = p at HF HP HE
    generalize delI X n = R at HE ⊢
    have hwp : IntKind.i64.wrap ((p : Int) + 1) = (p : Int) + 1 := by rw [IntKind.wrap_i64]; have := HP.out; omega
    have hp1 : (0 : Int) ≤ (p : Int) := by omega
    have hp2 : (p : Int) ≤ 1000000 := by have := HP.out; omega
    clear hsl hv hup hm _hc _h1 _h2 hmem hp he
    go_enter Tryz.func58, Tryz.ntmps58
    go_upto_region 1 with fail
    obtain ⟨W0, hW0⟩ : ∃ W0, W0 = (w.alloc (.cells #[.slice A X.length c, .int .i64 L] 25)).alloc (.cells #[.slice none 0 0, .int .i64 0] 25) := ⟨_, rfl⟩
    rw [← hW0]
    have H0 := two_laid (v1 := [.slice A X.length c, .int .i64 L]) (v2 := [.slice none 0 0, .int .i64 0]) hW0
    clear hW0
    obtain ⟨t1, t2, hs0, hB0⟩ := H0
    have T1 := Lib.hid t1
    have T2 := Lib.hid t2
    have HB := Lib.hid hB0
    have HZ := Lib.hid hs0
    have d0 := t1.cell 0 rfl
    clear t1 t2 hB0 hs0
    go_wp2_with fail
    refine (HC.out _ (HS.out.step HB.out)).mono ?_
    rintro e w1 ⟨v1, rfl, hown1, hb1⟩
    clear d0
    obtain ⟨A1, c1, hv1, hc1, hsl1, hfr1⟩ := hown1.retB
    subst hv1
    have HO := Lib.hid hown1
    have H1 := Lib.hid (hsl1 w1 (Nat.le_refl _) (fun _ _ => rfl))
    have U1 := Lib.hid (T1.out.step hb1)
    have U2 := Lib.hid (T2.out.step hb1)
    have HB1 := Lib.hid (stepB HB.out hb1)
    have HZ1 := Lib.hid hb1.size
    clear hb1 hown1 hsl1 hc1 hfr1 T1 T2 HB HC
    go_wp2_with fail
    refine (HF.out _ _ _ H1.out).mono ?_
    rintro e w2 ⟨rfl, q, hq⟩
    have hb2 : Below w1.heap.size w1 w2 := by rw [hq]; exact bDN _ _
    clear hq
    have T1 := Lib.hid (U1.out.step hb2)
    have T2 := Lib.hid (U2.out.step hb2)
    have HB2 := Lib.hid (stepB HB1.out hb2)
    have HO2 := Lib.hid (HO.out.step hb2)
    have HD := Lib.hid (deleteI_any (.slice A1 X.length c1) X p w2 W0.heap.size HO2.out HP.out)
    rw [← HE.out] at HD
    have HZ2 := Lib.hid hb2.size
    clear hb2 U1 U2 HB1 HF HO HO2
    go_wp2_with fail
    refine HD.out.mono ?_
    rintro e w3 ⟨v3, rfl, hown3, hb3⟩
    obtain ⟨A3, c3, hv3, hc3, hsl3, hfr3⟩ := hown3.retB
    subst hv3
    have t1 := T1.out.keep (by have := HZ.out; omega) hb3
    have t2 := T2.out.keep (by have := HZ.out; omega) hb3
    have d1 := t1.cell 1 rfl
    have d2 := t2.cell 0 rfl
    have d3 := t2.cell 1 rfl
    have f2 := t2.free 0
    have f3 := t2.free 1
    have hls := t2.lt
    have HB3 := Lib.hid (HB2.out.trans (hb3.mono (by have := HZ.out; omega)))
    have HSL := Lib.hid hsl3
    have HC3 := Lib.hid hc3
    have HFR := Lib.hid hfr3
    have hzz := HZ.out
    clear hb3 hown3 hsl3 hc3 t1 t2 hfr3 HD T1 T2
    go_wp2_with fail
    exact bodyPost_ret (v := .tuple #[pv A3 c3 R L, .bool true]) (by simp [results, Tryz.results58, go_sem, d2, d3]) rfl ⟨A3, c3, rfl, HC3.out, HSL.out _ (by simp) (fun p hp => by rw [set_other _ _ _ _ _ (by omega), set_other _ _ _ _ _ (by omega)]), .inr (.inr (fun b o e => by have := HFR.out b o e; omega)), below_set2 HB3.out (b := w.heap.size + 1) (Nat.le_succ _) _ _⟩
  · have he := del_id hmem
    rw [decide_eq_false hmem] at HF ⊢
    rw [he]
    generalize posI X n = p at HF
    clear hsl hv hup hm _hc _h1 _h2 hmem he
    go_enter Tryz.func58, Tryz.ntmps58
    go_upto_region 1 with fail
    obtain ⟨W0, hW0⟩ : ∃ W0, W0 = (w.alloc (.cells #[.slice A X.length c, .int .i64 L] 25)).alloc (.cells #[.slice none 0 0, .int .i64 0] 25) := ⟨_, rfl⟩
    rw [← hW0]
    have H0 := two_laid (v1 := [.slice A X.length c, .int .i64 L]) (v2 := [.slice none 0 0, .int .i64 0]) hW0
    clear hW0
    obtain ⟨t1, t2, hs0, hB0⟩ := H0
    have T1 := Lib.hid t1
    have T2 := Lib.hid t2
    have HB := Lib.hid hB0
    have HZ := Lib.hid hs0
    have d0 := t1.cell 0 rfl
    clear t1 t2 hB0 hs0
    go_wp2_with fail
    refine (HC.out _ (HS.out.step HB.out)).mono ?_
    rintro e w1 ⟨v1, rfl, hown1, hb1⟩
    clear d0
    obtain ⟨A1, c1, hv1, hc1, hsl1, hfr1⟩ := hown1.retB
    subst hv1
    have HO := Lib.hid hown1
    have H1 := Lib.hid (hsl1 w1 (Nat.le_refl _) (fun _ _ => rfl))
    have U1 := Lib.hid (T1.out.step hb1)
    have U2 := Lib.hid (T2.out.step hb1)
    have HB1 := Lib.hid (stepB HB.out hb1)
    have HZ1 := Lib.hid hb1.size
    clear hb1 hown1 hsl1 hc1 hfr1 T1 T2 HB HC
    go_wp2_with fail
    refine (HF.out _ _ _ H1.out).mono ?_
    rintro e w2 ⟨rfl, q, hq⟩
    have hb2 : Below w1.heap.size w1 w2 := by rw [hq]; exact bDN _ _
    clear hq
    have T1 := Lib.hid (U1.out.step hb2)
    have T2 := Lib.hid (U2.out.step hb2)
    have HB2 := Lib.hid (stepB HB1.out hb2)
    have hown3 := HO.out.step hb2
    obtain ⟨A3, c3, hv3, hc3, hsl3, hfr3⟩ := hown3.retB
    simp only [Value.slice.injEq, true_and] at hv3
    obtain ⟨rfl, rfl⟩ := hv3
    have d1 := T1.out.cell 1 rfl
    have d2 := T2.out.cell 0 rfl
    have d3 := T2.out.cell 1 rfl
    have f2 := T2.out.free 0
    have f3 := T2.out.free 1
    have hls := T2.out.lt
    have HB3 := HB2
    have HSL := Lib.hid hsl3
    have HC3 := Lib.hid hc3
    have HFR := Lib.hid hfr3
    have hzz := HZ.out
    clear hown3 hsl3 hc3 hfr3 T1 T2 hb2 U1 U2 HB1 HF HO
    go_wp2_with fail
    exact bodyPost_ret (v := .tuple #[pv A1 c1 X L, .bool false]) (by simp [results, Tryz.results58, go_sem, d2, d3]) rfl ⟨A1, c1, rfl, HC3.out, HSL.out _ (by simp) (fun p hp => by rw [set_other _ _ _ _ _ (by omega), set_other _ _ _ _ _ (by omega)]), .inr (.inr (fun b o e => by have := HFR.out b o e; omega)), below_set2 HB3.out (b := w.heap.size + 1) (Nat.le_succ _) _ _⟩
end Go.Proofs.YtjpikgphfhjilaaGreatDoor.S2
