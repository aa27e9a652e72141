/-
  What the functions on levels answer: Has, Levels and Join of the specification, Levels of the program, Same. Conditions: the texts are short enough to be split (below 4294967281 bytes), MaxLen holds a number.
-/
import Derived.Test.YtjhojpghllnoiaaDoorMem
import Derived.Test.YtjhojpghllnoiaaDoorShelf
import Derived.Deep.QuietTactic
import Derived.BigQuiet
import Derived.Deep.LoopGhost
namespace Go.Proofs.YtjhojpghllnoiaaDoor.S1
open Go.RowKit

theorem getD_dl (s : ByteArray) (i : Nat) (h : i < s.size) : (dl s).getD i 0 = s[i]'h := by
  unfold dl
  rw [List.getD_eq_getElem?_getD, Lib.data_getElem? s i h]; rfl
theorem retb {a b : Bool} (h : a = b) : Ending.returned (.bool a) = .returned (.bool b) := by rw [h]

/-! ### Has -/
def hasB (l : List UInt8) (c : UInt8) : Bool := l.contains c
def NoUpto (l : List UInt8) (c : UInt8) (i : Nat) : Prop := ∀ j, j < i → l.getD j 0 ≠ c
theorem NoUpto.succ {l : List UInt8} {c : UInt8} {i : Nat} (h : NoUpto l c i) (hi : l.getD i 0 ≠ c) : NoUpto l c (i + 1) := fun j hj => by
  rcases Nat.lt_succ_iff_lt_or_eq.1 hj with h' | h'
  · exact h j h'
  · subst h'; exact hi
theorem noUpto_all {l : List UInt8} {c : UInt8} (h : NoUpto l c l.length) : hasB l c = false := by
  rw [hasB, List.contains_eq_mem, decide_eq_false_iff_not]
  intro hm
  obtain ⟨i, hi, e⟩ := T.mem_getD 0 hm
  exact h i hi e
theorem contains_at {l : List UInt8} {c : UInt8} {i : Nat} (hi : i < l.length) (h : l.getD i 0 = c) : hasB l c = true := by
  rw [hasB, List.contains_eq_mem, decide_eq_true_eq, ← h]
  exact T.getD_mem _ _ _ hi

set_option maxHeartbeats 400000 in
theorem has_any (s : ByteArray) (c : UInt8) (w : World) (hs63 : s.size ≤ 9223372036854775807) :
    Calls Tryd.prog 73 #[.string s, .int .u8 c.toNat] w fun e w' => e = .returned (.bool (hasB (dl s) c)) ∧ w = w' := by
  have HL := Lib.hid (size_dl s)
  go_enter Tryd.func73, Tryd.ntmps73
  go_wp2
  go_loop [5] (fun v => ∃ i : Nat, i ≤ s.size ∧ v = .int .i64 i ∧ NoUpto (dl s) c i) (fun v => s.size - (intOf v).toNat)
  case atStart => exact ⟨0, by omega, rfl, fun _ h => absurd h (Nat.not_lt_zero _)⟩
  case round =>
    obtain ⟨i, hi, rfl, hno⟩ := hrel
    have HN := Lib.hid hno
    clear hno
    by_cases hlt : i < s.size
    · obtain ⟨x, hx⟩ : ∃ x : UInt8, s[i]'hlt = x := ⟨_, rfl⟩
      have HX := Lib.hid (show (dl s).getD i 0 = x by rw [getD_dl s i hlt, hx])
      by_cases he : x = c
      · have HE := Lib.hid he
        have hb : ((x.toNat : Int) == (c.toNat : Int)) = true := by rw [he]; simp
        clear he
        go_wp2
        go_ret
        exact ⟨retb (contains_at (by have := HL.out; omega) (HX.out.trans HE.out)).symm, rfl⟩
      · have HE := Lib.hid he
        have hb : ((x.toNat : Int) == (c.toNat : Int)) = false := beq_eq_false_iff_ne.2 (fun e => he (UInt8.toNat_inj.1 (by omega)))
        clear he
        go_wp2
        exact ⟨⟨i + 1, by omega, by go_num, HN.out.succ (by rw [HX.out]; exact HE.out)⟩, by simp [intOf]; omega⟩
    · have HZ := Lib.hid (show i = s.size by omega)
      go_wp2
      go_ret
      exact ⟨retb (noUpto_all (by rw [← HL.out, ← HZ.out]; exact HN.out)).symm, rfl⟩

theorem has0_any (s : ByteArray) (w : World) (hs63 : s.size ≤ 9223372036854775807) :
    Calls Tryd.prog 73 #[.string s, .int .u8 0] w fun e w' => e = .returned (.bool (hasB (dl s) 0)) ∧ w = w' := has_any s 0 w hs63
theorem has43_any (s : ByteArray) (w : World) (hs63 : s.size ≤ 9223372036854775807) :
    Calls Tryd.prog 73 #[.string s, .int .u8 43] w fun e w' => e = .returned (.bool (hasB (dl s) 43)) ∧ w = w' := has_any s 43 w hs63
theorem has35_any (s : ByteArray) (w : World) (hs63 : s.size ≤ 9223372036854775807) :
    Calls Tryd.prog 73 #[.string s, .int .u8 35] w fun e w' => e = .returned (.bool (hasB (dl s) 35)) ∧ w = w' := has_any s 35 w hs63
theorem has47_any (s : ByteArray) (w : World) (hs63 : s.size ≤ 9223372036854775807) :
    Calls Tryd.prog 73 #[.string s, .int .u8 47] w fun e w' => e = .returned (.bool (hasB (dl s) 47)) ∧ w = w' := has_any s 47 w hs63

/-! ### Levels of the program -/
set_option maxHeartbeats 400000 in
theorem tLevels_any (s : ByteArray) (w : World) (hw : Okw w) (hs : s.size < 4294967281) :
    Calls Tryd.prog 75 #[.string s] w (RetStrs (lvB s) w) := by
  obtain ⟨m, hm⟩ := hw
  have c := Tryd.strings_Split s ⟨#[47]⟩ m w hs hm (by decide)
  rw [splitB_lv, countB_lv] at c
  have HC := Lib.hid c
  clear c hm
  go_enter Tryd.func75, Tryd.ntmps75
  go_wp2_with fail
  refine HC.out.mono ?_
  rintro e w' ⟨rfl, rfl⟩
  go_wp2_with fail
  go_ret
  exact ⟨_, _, rfl, Nat.le_refl _, SL.new, (Below.refl _ _).alloc (Nat.le_refl _) _⟩

/-! ### Levels of the specification -/
theorem getD_piece (s : ByteArray) (f i : Nat) (hf : f ≤ i) (hi : i < s.size) : dl (s.extract f (i + 1)) = dl (s.extract f i) ++ [s[i]'hi] := by
  unfold dl
  rw [Lib.extract_data, Lib.extract_data]
  have hl := Lib.size_eq s
  rw [show i + 1 - f = (i - f) + 1 by omega, List.take_add_one, List.getElem?_drop, show f + (i - f) = i by omega, Lib.data_getElem? s i hi]
  rfl
theorem dl_take (s : ByteArray) (i : Nat) (hi : i < s.size) : (dl s).take (i + 1) = (dl s).take i ++ [s[i]'hi] := by
  unfold dl
  rw [List.take_add_one, Lib.data_getElem? s i hi]; rfl

/-- what the loop holds after i bytes: the levels so far are these, and the last one begins at f -/
def LvRel (s : ByteArray) (i f : Nat) (xs : List ByteArray) : Prop := f ≤ i ∧ T.lv ((dl s).take i) = xs.map dl ++ [dl (s.extract f i)] ∧ xs.length ≤ i
theorem LvRel.start (s : ByteArray) : LvRel s 0 0 [] := ⟨Nat.le_refl _, by simp [T.lv, dl], Nat.le_refl _⟩
theorem LvRel.slash {s : ByteArray} {i f : Nat} {xs : List ByteArray} (h : LvRel s i f xs) (hi : i < s.size) (hx : s[i]'hi = 47) : LvRel s (i + 1) (i + 1) (xs ++ [s.extract f i]) := by
  refine ⟨Nat.le_refl _, ?_, by simp; exact h.2.2⟩
  rw [dl_take s i hi, hx, T.lv_snoc_slash, h.2.1]
  simp [dl]
theorem LvRel.other {s : ByteArray} {i f : Nat} {xs : List ByteArray} (h : LvRel s i f xs) (hi : i < s.size) (hx : s[i]'hi ≠ 47) : LvRel s (i + 1) f xs := by
  refine ⟨by have := h.1; omega, ?_, by have := h.2.2; omega⟩
  rw [dl_take s i hi, T.lv_snoc _ _ hx _ _ h.2.1, getD_piece s f i h.1 hi]
theorem LvRel.done {s : ByteArray} {f : Nat} {xs : List ByteArray} (h : LvRel s s.size f xs) : xs ++ [s.extract f s.size] = lvB s := by
  have h1 := h.2.1
  rw [size_dl s, List.take_length, ← size_dl s] at h1
  unfold lvB
  rw [h1, List.map_append, map_bs_dl]
  simp [bs_dl]

set_option maxHeartbeats 1000000 in
theorem rLevels_any (s : ByteArray) (w : World) (hs : s.size < 4294967281) :
    Calls Tryd.prog 79 #[.string s] w (RetStrs (lvB s) w) := by
  go_enter Tryd.func79, Tryd.ntmps79
  go_wp2
  go_loopw [3, 4, 5] (fun v f i wr => ∃ (k g : Nat) (xs : List ByteArray), k ≤ s.size ∧ g ≤ k ∧ i = .int .i64 k ∧ f = .int .i64 g ∧ LvRel s k g xs ∧ Own wr w.heap.size v xs ∧ Below w.heap.size w wr ∧ w.heap.size ≤ wr.heap.size)
    (fun _ _ i _ => s.size - (intOf i).toNat)
  case atStart => exact ⟨0, 0, [], by omega, by omega, rfl, rfl, LvRel.start s, Own.nil _ _, Below.refl _ _, Nat.le_refl _⟩
  case round =>
    obtain ⟨k, g, xs, hk, hg, rfl, rfl, hrel, hown, hb, hsz⟩ := hrel
    have HR := Lib.hid hrel
    have hxk := hrel.2.2
    clear hrel
    by_cases hlt : k < s.size
    · obtain ⟨x, hx⟩ : ∃ x : UInt8, s[k]'hlt = x := ⟨_, rfl⟩
      have HX := Lib.hid hx
      by_cases he : x = 47
      · have HE := Lib.hid he
        have hq : ((x.toNat : Int) == 47) = true := by rw [he]; rfl
        clear he
        go_wp2_with (at_builtin; go_must (refine wpList_app1 _ rfl _ _ rfl w.heap.size u3 xs (s.extract g k) rfl hown rfl w hb hsz (by omega) ?_); intro v' w1 hown' hb' hsz')
        exact ⟨⟨k + 1, k + 1, xs ++ [s.extract g k], by omega, by omega, by go_num, by go_num, HR.out.slash hlt (HX.out.trans HE.out), hown', hb', hsz'⟩, by simp [intOf]; omega⟩
      · have HE := Lib.hid he
        have hq : ((x.toNat : Int) == 47) = false := beq_eq_false_iff_ne.2 (fun e => he (UInt8.toNat_inj.1 (by show x.toNat = 47; omega)))
        clear he
        go_wp2
        exact ⟨⟨k + 1, g, xs, by omega, by omega, by go_num, rfl, HR.out.other hlt (by rw [HX.out]; exact HE.out), hown, hb, hsz⟩, by simp [intOf]; omega⟩
    · have hz : k = s.size := by omega
      subst hz
      go_wp2_with (at_builtin; go_must (refine wpList_app1 _ rfl _ _ rfl w.heap.size u3 xs (s.extract g s.size) rfl hown rfl w hb hsz (by omega) ?_); intro v' w1 hown' hb' hsz')
      go_ret
      have hd := HR.out.done
      obtain ⟨A, c, hv, hc, hsl⟩ := hown'.ret
      rw [hd] at hv hc hsl
      exact ⟨A, c, congrArg Ending.returned hv, hc, hsl, hb'⟩

/-! ### Same -/
def sameB (xs ys : List ByteArray) : Bool := decide (xs = ys)
def SameUpto (xs ys : List ByteArray) (i : Nat) : Prop := ∀ j, j < i → xs[j]? = ys[j]?
theorem SameUpto.succ {xs ys : List ByteArray} {i : Nat} (h : SameUpto xs ys i) (hi : xs[i]? = ys[i]?) : SameUpto xs ys (i + 1) := fun j hj => by
  rcases Nat.lt_succ_iff_lt_or_eq.1 hj with h' | h'
  · exact h j h'
  · subst h'; exact hi
theorem SameUpto.all {xs ys : List ByteArray} (h : SameUpto xs ys xs.length) (hl : xs.length = ys.length) : sameB xs ys = true := by
  refine decide_eq_true (List.ext_getElem? fun j => ?_)
  by_cases hj : j < xs.length
  · exact h j hj
  · rw [List.getElem?_eq_none (by omega), List.getElem?_eq_none (by omega)]
theorem sameB_len {xs ys : List ByteArray} (h : xs.length ≠ ys.length) : sameB xs ys = false := decide_eq_false (fun e => h (by rw [e]))
theorem sameB_at {xs ys : List ByteArray} {i : Nat} (h : xs[i]? ≠ ys[i]?) : sameB xs ys = false := decide_eq_false (fun e => h (by rw [e]))

theorem str_eq {x y : ByteArray} : (x.toList == y.toList) = true ↔ x = y := by
  constructor
  · intro h
    have h' := eq_of_beq h
    rw [Lib.toList_data, Lib.toList_data] at h'
    exact dl_inj h'
  · intro h
    rw [h]
    exact beq_self_eq_true _
theorem same_hit {xs ys : List ByteArray} {i : Nat} {x y : ByteArray} (h : (!x.toList == y.toList) = true) (hx : xs[i]? = some x) (hy : ys[i]? = some y) : sameB xs ys = false := by
  refine sameB_at (i := i) ?_
  rw [hx, hy]
  intro e
  obtain rfl := Option.some.inj e
  simp at h
theorem same_miss {xs ys : List ByteArray} {i : Nat} {x y : ByteArray} (h : (!x.toList == y.toList) = false) (hx : xs[i]? = some x) (hy : ys[i]? = some y) : xs[i]? = ys[i]? := by
  have e : x = y := str_eq.1 (by simpa using h)
  rw [hx, hy, e]

end Go.Proofs.YtjhojpghllnoiaaDoor.S1
