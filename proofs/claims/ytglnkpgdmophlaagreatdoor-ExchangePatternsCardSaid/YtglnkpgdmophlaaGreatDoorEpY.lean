/-
  Words of texts at dots and their joins; patterns against keys when both are reversed; plain patterns; prefixes. No function of the program is named here but by its library. Conditions: none.
-/
import Derived.Test.YtglnkpgdmophlaaGreatDoorEpX
namespace Go.Proofs.YtglnkpgdmophlaaGreatDoor.W46
open Go.RowKit
namespace T
/-! ### Levels -/
def glue (c : UInt8) : List (List UInt8) → List (List UInt8)
  | [] => [[c]]
  | x :: r => (c :: x) :: r
def lv : List UInt8 → List (List UInt8)
  | [] => [[]]
  | c :: r => if c = 46 then [] :: lv r else glue c (lv r)

theorem lv_ne (l : List UInt8) : lv l ≠ [] := by
  cases l with
  | nil => simp [lv]
  | cons c r =>
    unfold lv
    split
    · simp
    · cases lv r <;> simp [glue]

theorem glue_append (c : UInt8) (a b : List (List UInt8)) (h : a ≠ []) : glue c (a ++ b) = glue c a ++ b := by
  cases a with
  | nil => exact absurd rfl h
  | cons x r => rfl

theorem glue_length (c : UInt8) (a : List (List UInt8)) (h : a ≠ []) : (glue c a).length = a.length := by
  cases a with
  | nil => exact absurd rfl h
  | cons x r => rfl

theorem lv_length (l : List UInt8) : (lv l).length = l.count 46 + 1 := by
  induction l with
  | nil => rfl
  | cons c r ih =>
    unfold lv
    split
    · next h => subst h; simp [ih]
    · next h => rw [glue_length _ _ (lv_ne r), ih, List.count_cons_of_ne h]

/-- A text that holds no slash has one level. -/
theorem lv_plain (l : List UInt8) (h : 46 ∉ l) : lv l = [l] := by
  induction l with
  | nil => rfl
  | cons c r ih =>
    have hc : ¬ c = 46 := fun e => h (by simp [e])
    have hr : 46 ∉ r := fun e => h (by simp [e])
    unfold lv
    rw [if_neg hc, ih hr]; rfl

theorem lv_append (a r : List UInt8) (h : 46 ∉ a) : lv (a ++ 46 :: r) = a :: lv r := by
  induction a with
  | nil => simp [lv]
  | cons c a ih =>
    have hc : ¬ c = 46 := fun e => h (by simp [e])
    have hr : 46 ∉ a := fun e => h (by simp [e])
    rw [List.cons_append, lv, if_neg hc, ih hr]; rfl

theorem lv_app (a r : List UInt8) : lv (a ++ 46 :: r) = lv a ++ lv r := by
  induction a with
  | nil => simp [lv]
  | cons c a ih =>
    rw [List.cons_append, lv, lv, ih]
    split
    · rfl
    · rw [glue_append _ _ _ (lv_ne a)]
theorem lv_snoc_slash (l : List UInt8) : lv (l ++ [46]) = lv l ++ [[]] := by
  induction l with
  | nil => rfl
  | cons c r ih =>
    rw [List.cons_append, lv, lv, ih]
    split
    · rfl
    · rw [glue_append _ _ _ (lv_ne r)]

theorem lv_snoc (l : List UInt8) (c : UInt8) (h : c ≠ 46) (out : List (List UInt8)) (x : List UInt8) (e : lv l = out ++ [x]) : lv (l ++ [c]) = out ++ [x ++ [c]] := by
  induction l generalizing out x with
  | nil =>
    cases out with
    | nil =>
      simp only [lv, List.nil_append, List.cons.injEq, and_true] at e
      subst e
      simp [lv, h, glue]
    | cons y r => simp [lv] at e
  | cons d r ih =>
    rw [List.cons_append, lv]
    rw [lv] at e
    split
    · next hd =>
      rw [if_pos hd] at e
      cases out with
      | nil =>
        have := lv_ne r
        simp at e
        exact absurd e.2 this
      | cons y o =>
        simp only [List.cons_append, List.cons.injEq] at e
        rw [ih o x e.2, ← e.1]; rfl
    · next hd =>
      rw [if_neg hd] at e
      cases hr : lv r with
      | nil => exact absurd hr (lv_ne r)
      | cons y t =>
        rw [hr] at e
        simp only [glue] at e
        cases out with
        | nil =>
          simp only [List.nil_append, List.cons.injEq] at e
          have := ih [] y (by rw [hr, e.2]; rfl)
          rw [this]
          simp only [List.nil_append, glue, ← e.1, List.cons_append]
        | cons z o =>
          simp only [List.cons_append, List.cons.injEq] at e
          have := ih (y :: o) x (by rw [hr, e.2]; rfl)
          rw [this]
          simp only [List.cons_append, glue, e.1]

/-- Levels hold no slash. -/
theorem lv_noslash (l : List UInt8) : ∀ x ∈ lv l, (46 : UInt8) ∉ x := by
  induction l with
  | nil => simp [lv]
  | cons c r ih =>
    unfold lv
    split
    · intro x hx
      rcases List.mem_cons.1 hx with rfl | hx
      · simp
      · exact ih x hx
    · next hc =>
      cases hr : lv r with
      | nil => exact absurd hr (lv_ne r)
      | cons y t =>
        rw [hr] at ih
        intro x hx
        rcases List.mem_cons.1 hx with rfl | hx
        · intro hm
          rcases List.mem_cons.1 hm with e | hm
          · exact hc e.symm
          · exact ih y (by simp) hm
        · exact ih x (by simp [hx])

/-- the levels, joined -/
def jn : List (List UInt8) → List UInt8
  | [] => []
  | [x] => x
  | x :: y :: r => x ++ 46 :: jn (y :: r)

theorem jn_cons (x : List UInt8) (r : List (List UInt8)) (h : r ≠ []) : jn (x :: r) = x ++ 46 :: jn r := by
  cases r with
  | nil => exact absurd rfl h
  | cons y t => rfl

theorem jn_glue (c : UInt8) (a : List (List UInt8)) (h : a ≠ []) : jn (glue c a) = c :: jn a := by
  cases a with
  | nil => exact absurd rfl h
  | cons x r =>
    cases r with
    | nil => rfl
    | cons y t => simp [glue, jn]

theorem jn_lv (l : List UInt8) : jn (lv l) = l := by
  induction l with
  | nil => rfl
  | cons c r ih =>
    unfold lv
    split
    · next h => subst h; rw [jn_cons _ _ (lv_ne r), ih]; rfl
    · rw [jn_glue _ _ (lv_ne r), ih]

theorem lv_jn (a : List (List UInt8)) (h : a ≠ []) (hs : ∀ x ∈ a, (46 : UInt8) ∉ x) : lv (jn a) = a := by
  induction a with
  | nil => exact absurd rfl h
  | cons x r ih =>
    cases r with
    | nil => exact lv_plain x (hs x (by simp))
    | cons y t =>
      rw [jn_cons _ _ (by simp), lv_append _ _ (hs x (by simp)), ih (by simp) (fun z hz => hs z (by simp [hz]))]

theorem join_jn (a : List (List UInt8)) : Lib.join a [46] = jn a := by
  cases a with
  | nil => rfl
  | cons x r =>
    rw [Lib.join_cons]
    induction r generalizing x with
    | nil => simp [Lib.joinTail, jn]
    | cons y t ih =>
      rw [jn_cons _ _ (by simp), ← ih y]
      simp [Lib.joinTail]

/-- what a join's letters are -/
theorem jn_mem {c : UInt8} (hc : c ≠ 46) : ∀ a : List (List UInt8), c ∈ jn a ↔ ∃ x ∈ a, c ∈ x
  | [] => by simp [jn]
  | [x] => by simp [jn]
  | x :: y :: r => by
    rw [jn_cons _ _ (by simp), List.mem_append, List.mem_cons, jn_mem hc (y :: r)]
    simp [hc]
theorem jn_len : ∀ a : List (List UInt8), a ≠ [] → (jn a).length + 1 = (a.map fun x => x.length + 1).sum
  | [], h => absurd rfl h
  | [x], _ => by simp [jn]
  | x :: y :: r, _ => by
    have := jn_len (y :: r) (by simp)
    rw [jn_cons _ _ (by simp), List.map_cons, List.sum_cons, ← this, List.length_append, List.length_cons]
    omega
theorem sum_rev (l : List Nat) : l.reverse.sum = l.sum := by
  induction l with
  | nil => rfl
  | cons x r ih => rw [List.reverse_cons, List.sum_append, ih]; simp; omega
theorem jn_rev_len (a : List (List UInt8)) (h : a ≠ []) : (jn a.reverse).length = (jn a).length := by
  have h1 := jn_len a h
  have h2 := jn_len a.reverse (by simpa using h)
  rw [List.map_reverse, sum_rev] at h2
  omega
end T
/-- the levels of a text -/
def lvB (s : ByteArray) : List ByteArray := (T.lv (dl s)).map bs
theorem lvB_length (s : ByteArray) : (lvB s).length = (T.lv (dl s)).length := by simp [lvB]
theorem lvB_dl (s : ByteArray) : (lvB s).map dl = T.lv (dl s) := map_dlbs _
theorem lv_len_le (l : List UInt8) : ∀ x ∈ T.lv l, x.length ≤ l.length := by
  induction l with
  | nil => intro x hx; simp [T.lv] at hx; subst hx; simp
  | cons c r ih =>
    intro x hx
    rw [T.lv] at hx
    split at hx
    · rcases List.mem_cons.1 hx with rfl | hx
      · simp
      · have := ih x hx; simp; omega
    · cases hr : T.lv r with
      | nil => exact absurd hr (T.lv_ne r)
      | cons y t =>
        rw [hr] at hx ih
        rcases List.mem_cons.1 hx with rfl | hx
        · have := ih y (by simp); simp; omega
        · have := ih x (by simp [hx]); simp; omega
theorem lvB_size_le (s x : ByteArray) (h : x ∈ lvB s) : x.size ≤ s.size := by
  unfold lvB at h
  obtain ⟨y, hy, rfl⟩ := List.mem_map.1 h
  rw [size_dl, size_dl, dl_bs]
  exact lv_len_le _ y hy
theorem lvB_pos (s : ByteArray) : 0 < (lvB s).length := by
  rw [lvB_length]; exact List.length_pos_iff.2 (T.lv_ne _)
theorem lvB_getD (s : ByteArray) (i : Nat) (x : ByteArray) (h : (lvB s)[i]? = some x) : (T.lv (dl s)).getD i [] = dl x := by
  unfold lvB at h
  rw [List.getElem?_map] at h
  rw [List.getD_eq_getElem?_getD]
  cases e : (T.lv (dl s))[i]? with
  | none => rw [e] at h; cases h
  | some y => rw [e] at h; simp only [Option.map_some, Option.some.injEq] at h; rw [← h, dl_bs]; rfl

theorem split_at {l : List UInt8} {i : Nat} (hi : l[i]? = some 46) : l = l.take i ++ 46 :: l.drop (i + 1) := by
  obtain ⟨h, e⟩ := List.getElem?_eq_some_iff.1 hi
  conv => lhs; rw [← List.take_append_drop i l, List.drop_eq_getElem_cons h, e]

theorem splitK_lv : ∀ (k : Nat) (l : List UInt8), l.count 46 = k → Lib.splitK [46] 0 k l = T.lv l
  | 0, l, h => by
    rw [T.lv_plain l (List.count_eq_zero.1 h)]; rfl
  | k + 1, l, h => by
    have hm : (46 : UInt8) ∈ l := List.count_pos_iff.1 (by omega)
    have hi1 := Lib.index_one l 46
    obtain ⟨i, hi⟩ : ∃ i : Nat, Lib.indexByte l 46 = i := by
      have hge := Lib.indexByte_ge l 46
      by_cases hn : Lib.indexByte l 46 = -1
      · have := Lib.indexByte_none hn
        obtain ⟨j, hj⟩ := List.mem_iff_getElem?.1 hm
        exact absurd hj (this j)
      · exact ⟨(Lib.indexByte l 46).toNat, by omega⟩
    obtain ⟨h1, h2⟩ := Lib.indexByte_some hi
    have hs := split_at h1
    have hno : (46 : UInt8) ∉ l.take i := by
      intro hm
      obtain ⟨j, hj⟩ := List.mem_iff_getElem?.1 hm
      rw [List.getElem?_take] at hj
      split at hj
      · exact h2 j (by assumption) hj
      · cases hj
    have hc : (l.drop (i + 1)).count 46 = k := by
      rw [hs, List.count_append, List.count_cons_self, List.count_eq_zero.2 hno] at h
      omega
    have hne : ¬ ((Lib.index l [46] == -1) = true) := by rw [hi1, hi]; simp
    rw [Lib.splitK, if_neg hne, hi1, hi]
    have e1 : ((i : Int)).toNat = i := by omega
    rw [e1, Nat.add_zero]
    have e2 : ([46] : List UInt8).length = 1 := rfl
    rw [e2, splitK_lv k _ hc]
    conv => rhs; rw [hs]
    rw [T.lv_append _ _ hno]

theorem splitB_lv (s : ByteArray) : Lib.splitB ⟨#[46]⟩ 0 (Lib.countB s ⟨#[46]⟩) s = lvB s := by
  have h := Lib.splitB_data ⟨#[46]⟩ 0 (Lib.countB s ⟨#[46]⟩) s
  have hc : Lib.countB s ⟨#[46]⟩ = (dl s).count 46 := by
    show Lib.count (dl s) [46] = _
    exact Lib.count_one 46 (dl s)
  have h2 : Lib.splitK (⟨#[46]⟩ : ByteArray).data.toList 0 (Lib.countB s ⟨#[46]⟩) s.data.toList = T.lv (dl s) := splitK_lv _ _ hc.symm
  rw [h2] at h
  have h3 : ((Lib.splitB ⟨#[46]⟩ 0 (Lib.countB s ⟨#[46]⟩) s).map dl).map bs = (T.lv (dl s)).map bs := congrArg (List.map bs) h
  rw [map_bsdl] at h3
  exact h3
theorem countB_lv (s : ByteArray) : Lib.countB s ⟨#[46]⟩ + 1 = (lvB s).length := by
  rw [lvB_length, T.lv_length]
  have : Lib.countB s ⟨#[46]⟩ = (dl s).count 46 := Lib.count_one 46 (dl s)
  rw [this]
end Go.Proofs.YtglnkpgdmophlaaGreatDoor.W46
namespace Go.Proofs.YtglnkpgdmophlaaGreatDoor
open Go.RowKit
theorem wdB_lv (s : ByteArray) : wdB s = W46.lvB s := W46.splitB_lv s
theorem wdB_ne (s : ByteArray) : wdB s ≠ [] := by
  rw [wdB_lv]
  intro h
  have := W46.lvB_pos s
  rw [h] at this
  simp at this
theorem wdB_dl (s : ByteArray) : (wdB s).map dl = W46.T.lv (dl s) := by rw [wdB_lv]; exact W46.lvB_dl s
theorem bs_injY {a b : List UInt8} (h : bs a = bs b) : a = b := by
  have := congrArg dl h
  rwa [dl_bs, dl_bs] at this
theorem dl_injY {a b : ByteArray} (h : dl a = dl b) : a = b := by rw [← bs_dl a, ← bs_dl b, h]
theorem wdB_inj {a b : ByteArray} (h : wdB a = wdB b) : a = b := by
  have e : ∀ s : ByteArray, bs (W46.T.jn ((wdB s).map dl)) = s := fun s => by rw [wdB_dl, W46.T.jn_lv, bs_dl]
  rw [← e a, ← e b, h]
/-- the words of a text in reverse order, joined -/
def tnB (s : ByteArray) : ByteArray := bs (W46.T.jn ((wdB s).reverse.map dl))
theorem wdB_tn (s : ByteArray) : wdB (tnB s) = (wdB s).reverse := by
  rw [wdB_lv (tnB s)]
  unfold W46.lvB tnB
  rw [dl_bs, W46.T.lv_jn _ (by
    intro h
    rw [List.map_eq_nil_iff, List.reverse_eq_nil_iff] at h
    exact wdB_ne s h) (fun x hx => by
    rw [List.map_reverse, List.mem_reverse, wdB_dl] at hx
    exact W46.T.lv_noslash _ x hx), map_bsdl]
theorem tn_len (s : ByteArray) : (dl (tnB s)).length = (dl s).length := by
  unfold tnB
  rw [dl_bs, List.map_reverse, W46.T.jn_rev_len _ (by
    intro h
    rw [List.map_eq_nil_iff] at h
    exact wdB_ne s h), wdB_dl, W46.T.jn_lv]
theorem tn_mem (s : ByteArray) : (0 : UInt8) ∈ dl (tnB s) ↔ (0 : UInt8) ∈ dl s := by
  have e : dl s = W46.T.jn ((wdB s).map dl) := by rw [wdB_dl, W46.T.jn_lv]
  rw [e]
  unfold tnB
  rw [dl_bs, W46.T.jn_mem (by decide), W46.T.jn_mem (by decide)]
  simp
theorem tx_tn (s : ByteArray) : txR (tnB s) = txR s := by
  have h1 : (tnB s).size = s.size := by rw [size_dl, size_dl, tn_len]
  have h2 : (dl (tnB s)).contains 0 = (dl s).contains 0 := by
    rw [Bool.eq_iff_iff, List.contains_iff_mem, List.contains_iff_mem]
    exact tn_mem s
  unfold txR
  rw [h1, h2]

/-! ### Patterns -/
theorem mt_append : ∀ (a b k : List ByteArray), mtW (a ++ b) k = true ↔ ∃ x y, k = x ++ y ∧ mtW a x = true ∧ mtW b y = true
  | [], b, k => by
    constructor
    · intro h; exact ⟨[], k, rfl, rfl, h⟩
    · rintro ⟨x, y, rfl, h1, h2⟩
      rw [mt_nil] at h1
      have : x = [] := List.isEmpty_iff.1 h1
      subst this
      exact h2
  | p :: a, b, k => by
    rw [List.cons_append]
    by_cases hp : p = hashB
    · subst hp
      rw [mt_hash]
      constructor
      · rintro ⟨t, ht, h⟩
        obtain ⟨x, y, e, h1, h2⟩ := (mt_append a b _).1 h
        refine ⟨k.take t ++ x, y, ?_, mt_hash.2 ⟨t, by rw [List.length_append, List.length_take]; omega, ?_⟩, h2⟩
        · rw [List.append_assoc, ← e, List.take_append_drop]
        · rw [List.drop_left' (by rw [List.length_take]; omega)]; exact h1
      · rintro ⟨x, y, rfl, h1, h2⟩
        obtain ⟨t, ht, h⟩ := mt_hash.1 h1
        refine ⟨t, by rw [List.length_append]; omega, (mt_append a b _).2 ⟨x.drop t, y, ?_, h, h2⟩⟩
        rw [List.drop_append_of_le_length ht]
    · rw [mt_word hp]
      constructor
      · rintro ⟨c, ks, rfl, h1, h⟩
        obtain ⟨x, y, rfl, h2, h3⟩ := (mt_append a b _).1 h
        exact ⟨c :: x, y, rfl, (mt_word hp).2 ⟨c, x, rfl, h1, h2⟩, h3⟩
      · rintro ⟨x, y, rfl, h1, h2⟩
        obtain ⟨c, ks, rfl, h3, h4⟩ := (mt_word hp).1 h1
        exact ⟨c, ks ++ y, rfl, h3, (mt_append a b _).2 ⟨ks, y, rfl, h4, h2⟩⟩
theorem mt_all (k : List ByteArray) : mtW [hashB] k = true := mt_hash.2 ⟨k.length, Nat.le_refl _, by rw [List.drop_length]; rfl⟩
theorem mt_single (p : ByteArray) (x : List ByteArray) (h : mtW [p] x = true) : mtW [p] x.reverse = true := by
  by_cases hp : p = hashB
  · subst hp; exact mt_all _
  · obtain ⟨c, ks, rfl, h1, h2⟩ := (mt_word hp).1 h
    rw [mt_nil] at h2
    have : ks = [] := List.isEmpty_iff.1 h2
    subst this
    exact h
theorem mt_rev : ∀ (p k : List ByteArray), mtW p k = true → mtW p.reverse k.reverse = true
  | [], k, h => by
    rw [mt_nil] at h
    have : k = [] := List.isEmpty_iff.1 h
    subst this
    rfl
  | p :: ps, k, h => by
    obtain ⟨x, y, rfl, h1, h2⟩ := (mt_append [p] ps k).1 h
    rw [List.reverse_cons, List.reverse_append]
    exact (mt_append _ _ _).2 ⟨y.reverse, x.reverse, rfl, mt_rev ps y h2, mt_single p x h1⟩
theorem mt_reverse (p k : List ByteArray) : mtW p.reverse k.reverse = mtW p k := by
  rw [Bool.eq_iff_iff]
  constructor
  · intro h
    have := mt_rev _ _ h
    rwa [List.reverse_reverse, List.reverse_reverse] at this
  · exact mt_rev p k
theorem mt_plain : ∀ (a k : List ByteArray), wordB ∉ a → hashB ∉ a → (mtW a k = true ↔ a = k)
  | [], k, _, _ => by
    rw [mt_nil]
    constructor
    · intro h; exact (List.isEmpty_iff.1 h).symm
    · rintro rfl; rfl
  | p :: a, k, hw, hh => by
    have hp : p ≠ hashB := fun e => hh (by simp [e])
    have hp2 : p ≠ wordB := fun e => hw (by simp [e])
    rw [mt_word hp]
    constructor
    · rintro ⟨c, ks, rfl, h1, h2⟩
      rcases h1 with h1 | h1
      · exact absurd h1 hp2
      · rw [h1, (mt_plain a ks (fun h => hw (List.mem_cons_of_mem _ h)) (fun h => hh (List.mem_cons_of_mem _ h))).1 h2]
    · rintro rfl
      exact ⟨p, a, rfl, Or.inr rfl, (mt_plain a a (fun h => hw (List.mem_cons_of_mem _ h)) (fun h => hh (List.mem_cons_of_mem _ h))).2 rfl⟩
/-- whether a text has no words * and # -/
def plR (s : ByteArray) : Bool := !((wdB s).any fun a => decide (a = wordB)) && !((wdB s).any fun a => decide (a = hashB))
theorem plR_not {s : ByteArray} (h : plR s = true) : wordB ∉ wdB s ∧ hashB ∉ wdB s := by
  unfold plR at h
  simp only [Bool.and_eq_true, Bool.not_eq_true', List.any_eq_false, decide_eq_true_eq] at h
  exact ⟨fun hm => h.1 _ hm rfl, fun hm => h.2 _ hm rfl⟩
theorem mtR_tn {p k : ByteArray} : mtR (tnB p) (tnB k) = mtR p k := by
  unfold mtR
  rw [tx_tn, tx_tn, wdB_tn, wdB_tn, mt_reverse]
theorem wd_hash : wdB ⟨#[35]⟩ = [hashB] := by kernel_rfl
theorem mtR_hash {k : ByteArray} (h : txR k = 0) : mtR ⟨#[35]⟩ k = true := by
  unfold mtR
  rw [wd_hash, mt_all, h]
  rfl
theorem mtR_plain {p k : ByteArray} (hp : txR p = 0) (hk : txR k = 0) (h : plR p = true) : mtR p k = decide (p = k) := by
  obtain ⟨h1, h2⟩ := plR_not h
  unfold mtR
  rw [hp, hk, Bool.eq_iff_iff]
  simp only [decide_true, Bool.true_and, decide_eq_true_eq]
  rw [mt_plain _ _ h1 h2]
  exact ⟨wdB_inj, fun e => by rw [e]⟩
theorem dl_app (a b : ByteArray) : dl (a ++ b) = dl a ++ dl b := by unfold dl; simp
theorem wdB_dot (a b : ByteArray) : wdB (a ++ ⟨#[46]⟩ ++ b) = wdB a ++ wdB b := by
  rw [wdB_lv, wdB_lv, wdB_lv]
  unfold W46.lvB
  rw [dl_app, dl_app]
  have e : dl ⟨#[46]⟩ = [46] := rfl
  rw [e, List.append_assoc, List.singleton_append, W46.T.lv_app, List.map_append]
theorem app_hash (k : ByteArray) : k ++ ⟨#[46, 35]⟩ = k ++ ⟨#[46]⟩ ++ ⟨#[35]⟩ := by
  apply dl_injY
  rw [dl_app, dl_app, dl_app, List.append_assoc]
  rfl
theorem mtR_self {k : ByteArray} (hk : txR k = 0) (hh : txR (k ++ ⟨#[46, 35]⟩) = 0) (h : plR k = true) : mtR (k ++ ⟨#[46, 35]⟩) k = true := by
  obtain ⟨h1, h2⟩ := plR_not h
  unfold mtR
  rw [hk, hh, app_hash, wdB_dot, wd_hash]
  have := (mt_append (wdB k) [hashB] (wdB k)).2 ⟨wdB k, [], by simp, (mt_plain _ _ h1 h2).2 rfl, mt_all _⟩
  rw [this]; rfl
theorem mtR_long {k m : ByteArray} (hl : txR (k ++ ⟨#[46]⟩ ++ m) = 0) (hh : txR (k ++ ⟨#[46, 35]⟩) = 0) (h : plR k = true) : mtR (k ++ ⟨#[46, 35]⟩) (k ++ ⟨#[46]⟩ ++ m) = true := by
  obtain ⟨h1, h2⟩ := plR_not h
  unfold mtR
  rw [hl, hh, app_hash, wdB_dot, wdB_dot, wd_hash]
  have := (mt_append (wdB k) [hashB] (wdB k ++ wdB m)).2 ⟨wdB k, wdB m, rfl, (mt_plain _ _ h1 h2).2 rfl, mt_all _⟩
  rw [this]; rfl
end Go.Proofs.YtglnkpgdmophlaaGreatDoor
