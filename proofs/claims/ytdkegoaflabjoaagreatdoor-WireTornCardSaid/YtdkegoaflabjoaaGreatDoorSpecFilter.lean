/-
What the functions on levels answer: Has, Levels and Join of the specification, Levels of the program, Same. Conditions: the texts are short enough to be split (below 4294967281 bytes), MaxLen holds a number.
What sized, Filter and Valid of the specification answer. Conditions: the length of the text fits an int.
-/
import Derived.Test.YtdkegoaflabjoaaGreatDoorMem
import Derived.Test.YtdkegoaflabjoaaGreatDoorShelf
import Derived.BigQuiet
import Derived.Deep.LoopGhost
import Derived.Deep.QuietTactic
set_option maxHeartbeats 1000000
namespace Go.Proofs.YtdkegoaflabjoaaGreatDoor.S1
open Go.RowKit

theorem getD_dl (s : ByteArray) (i : Nat) (h : i < s.size) : (dl s).getD i 0 = s[i]'h := by
 unfold dl
 rw [List.getD_eq_getElem?_getD, Lib.data_getElem? s i h]; rfl
theorem retb {a b : Bool} (h : a = b) : Ending.returned (.bool a) = .returned (.bool b) := by rw [h]

def hasB (l : List UInt8) (c : UInt8) : Bool := l.contains c
def NoUpto (l : List UInt8) (c : UInt8) (i : Nat) : Prop := ∀ j, j < i → l.getD j 0 ≠ c
theorem NoUpto.succ {l : List UInt8} {c : UInt8} {i : Nat} (h : NoUpto l c i) (hi : l.getD i 0 ≠ c) : NoUpto l c (i + 1) := fun j hj => by
 rcases Nat.lt_succ_iff_lt_or_eq.1 hj with h' | h'
 · exact h j h'
 · subst h'; exact hi
theorem noUpto_all {l : List UInt8} {c : UInt8} (h : NoUpto l c l.length) : hasB l c = false := by
 rw [hasB, List.contains_eq_mem, decide_eq_false_iff_not]
 intro hm
 obtain ⟨i, hi, e⟩ := T.mem_getD 0 hm
 exact h i hi e
theorem contains_at {l : List UInt8} {c : UInt8} {i : Nat} (hi : i < l.length) (h : l.getD i 0 = c) : hasB l c = true := by
 rw [hasB, List.contains_eq_mem, decide_eq_true_eq, ← h]
 exact T.getD_mem _ _ _ hi

theorem has_any (s : ByteArray) (c : UInt8) (w : World) (hs63 : s.size ≤ 9223372036854775807) :
 Calls Tryz.prog 114 #[.string s, .int .u8 c.toNat] w fun e w' => e = .returned (.bool (hasB (dl s) c)) ∧ w = w' := by
 have HL := Lib.hid (size_dl s)
 go_enter Tryz.func114, Tryz.ntmps114
 go_wp2
 go_loop [5] (fun v => ∃ i : Nat, i ≤ s.size ∧ v = .int .i64 i ∧ NoUpto (dl s) c i) (fun v => s.size - (intOf v).toNat)
 case atStart => exact ⟨0, by omega, rfl, fun _ h => absurd h (Nat.not_lt_zero _)⟩
 case round =>
  obtain ⟨i, hi, rfl, hno⟩ := hrel
  have HN := Lib.hid hno
  clear hno
  by_cases hlt : i < s.size
  · obtain ⟨x, hx⟩ : ∃ x : UInt8, s[i]'hlt = x := ⟨_, rfl⟩
    have HX := Lib.hid (show (dl s).getD i 0 = x by rw [getD_dl s i hlt, hx])
    by_cases he : x = c
    · have HE := Lib.hid he
      have hb : ((x.toNat : Int) == (c.toNat : Int)) = true := by rw [he]; simp
      clear he
      go_wp2
      go_ret
      exact ⟨retb (contains_at (by have := HL.out; omega) (HX.out.trans HE.out)).symm, rfl⟩
    · have HE := Lib.hid he
      have hb : ((x.toNat : Int) == (c.toNat : Int)) = false := beq_eq_false_iff_ne.2 (fun e => he (UInt8.toNat_inj.1 (by omega)))
      clear he
      go_wp2
      exact ⟨⟨i + 1, by omega, by go_num, HN.out.succ (by rw [HX.out]; exact HE.out)⟩, by simp [intOf]; omega⟩
  · have HZ := Lib.hid (show i = s.size by omega)
    go_wp2
    go_ret
    exact ⟨retb (noUpto_all (by rw [← HL.out, ← HZ.out]; exact HN.out)).symm, rfl⟩

theorem has0_any (s : ByteArray) (w : World) (hs63 : s.size ≤ 9223372036854775807) :
 Calls Tryz.prog 114 #[.string s, .int .u8 0] w fun e w' => e = .returned (.bool (hasB (dl s) 0)) ∧ w = w' := has_any s 0 w hs63
theorem has43_any (s : ByteArray) (w : World) (hs63 : s.size ≤ 9223372036854775807) :
 Calls Tryz.prog 114 #[.string s, .int .u8 43] w fun e w' => e = .returned (.bool (hasB (dl s) 43)) ∧ w = w' := has_any s 43 w hs63
theorem has35_any (s : ByteArray) (w : World) (hs63 : s.size ≤ 9223372036854775807) :
 Calls Tryz.prog 114 #[.string s, .int .u8 35] w fun e w' => e = .returned (.bool (hasB (dl s) 35)) ∧ w = w' := has_any s 35 w hs63
theorem tLevels_any (s : ByteArray) (w : World) (hw : Okw w) (hs : s.size < 4294967281) :
 Calls Tryz.prog 121 #[.string s] w (RetStrs (lvB s) w) := by
 obtain ⟨m, hm⟩ := hw
 have c := Tryz.strings_Split s ⟨#[47]⟩ m w hs hm (by decide)
 rw [splitB_lv, countB_lv] at c
 have HC := Lib.hid c
 clear c hm
 go_enter Tryz.func121, Tryz.ntmps121
 go_wp2_with fail
 refine HC.out.mono ?_
 rintro e w' ⟨rfl, rfl⟩
 go_wp2_with fail
 go_ret
 exact ⟨_, _, rfl, Nat.le_refl _, SL.new, (Below.refl _ _).alloc (Nat.le_refl _) _⟩

theorem getD_piece (s : ByteArray) (f i : Nat) (hf : f ≤ i) (hi : i < s.size) : dl (s.extract f (i + 1)) = dl (s.extract f i) ++ [s[i]'hi] := by
 unfold dl
 rw [Lib.extract_data, Lib.extract_data]
 have hl := Lib.size_eq s
 rw [show i + 1 - f = (i - f) + 1 by omega, List.take_add_one, List.getElem?_drop, show f + (i - f) = i by omega, Lib.data_getElem? s i hi]
 rfl
theorem dl_take (s : ByteArray) (i : Nat) (hi : i < s.size) : (dl s).take (i + 1) = (dl s).take i ++ [s[i]'hi] := by
 unfold dl
 rw [List.take_add_one, Lib.data_getElem? s i hi]; rfl

/-- what the loop holds after i bytes: the levels so far are these, and the last one begins at f -/
def LvRel (s : ByteArray) (i f : Nat) (xs : List ByteArray) : Prop := f ≤ i ∧ T.lv ((dl s).take i) = xs.map dl ++ [dl (s.extract f i)] ∧ xs.length ≤ i
theorem LvRel.start (s : ByteArray) : LvRel s 0 0 [] := ⟨Nat.le_refl _, by simp [T.lv, dl], Nat.le_refl _⟩
theorem LvRel.slash {s : ByteArray} {i f : Nat} {xs : List ByteArray} (h : LvRel s i f xs) (hi : i < s.size) (hx : s[i]'hi = 47) : LvRel s (i + 1) (i + 1) (xs ++ [s.extract f i]) := by
 refine ⟨Nat.le_refl _, ?_, by simp; exact h.2.2⟩
 rw [dl_take s i hi, hx, T.lv_snoc_slash, h.2.1]
 simp [dl]
theorem LvRel.other {s : ByteArray} {i f : Nat} {xs : List ByteArray} (h : LvRel s i f xs) (hi : i < s.size) (hx : s[i]'hi ≠ 47) : LvRel s (i + 1) f xs := by
 refine ⟨by have := h.1; omega, ?_, by have := h.2.2; omega⟩
 rw [dl_take s i hi, T.lv_snoc _ _ hx _ _ h.2.1, getD_piece s f i h.1 hi]
theorem LvRel.done {s : ByteArray} {f : Nat} {xs : List ByteArray} (h : LvRel s s.size f xs) : xs ++ [s.extract f s.size] = lvB s := by
 have h1 := h.2.1
 rw [size_dl s, List.take_length, ← size_dl s] at h1
 unfold lvB
 rw [h1, List.map_append, map_bs_dl]
 simp [bs_dl]

theorem rLevels_any (s : ByteArray) (w : World) (hs : s.size < 4294967281) :
 Calls Tryz.prog 116 #[.string s] w (RetStrs (lvB s) w) := by
 go_enter Tryz.func116, Tryz.ntmps116
 go_wp2
 go_loopw [3, 4, 5] (fun v f i wr => ∃ (k g : Nat) (xs : List ByteArray), k ≤ s.size ∧ g ≤ k ∧ i = .int .i64 k ∧ f = .int .i64 g ∧ LvRel s k g xs ∧ Own wr w.heap.size v xs ∧ Below w.heap.size w wr ∧ w.heap.size ≤ wr.heap.size)
  (fun _ _ i _ => s.size - (intOf i).toNat)
 case atStart => exact ⟨0, 0, [], by omega, by omega, rfl, rfl, LvRel.start s, Own.nil _ _, Below.refl _ _, Nat.le_refl _⟩
 case round =>
  obtain ⟨k, g, xs, hk, hg, rfl, rfl, hrel, hown, hb, hsz⟩ := hrel
  have HR := Lib.hid hrel
  have hxk := hrel.2.2
  clear hrel
  by_cases hlt : k < s.size
  · obtain ⟨x, hx⟩ : ∃ x : UInt8, s[k]'hlt = x := ⟨_, rfl⟩
    have HX := Lib.hid hx
    by_cases he : x = 47
    · have HE := Lib.hid he
      have hq : ((x.toNat : Int) == 47) = true := by rw [he]; rfl
      clear he
      go_wp2_with (at_builtin; go_must (refine wpList_app1 _ rfl _ _ rfl w.heap.size u3 xs (s.extract g k) rfl hown rfl w hb hsz (by omega) ?_); intro v' w1 hown' hb' hsz')
      exact ⟨⟨k + 1, k + 1, xs ++ [s.extract g k], by omega, by omega, by go_num, by go_num, HR.out.slash hlt (HX.out.trans HE.out), hown', hb', hsz'⟩, by simp [intOf]; omega⟩
    · have HE := Lib.hid he
      have hq : ((x.toNat : Int) == 47) = false := beq_eq_false_iff_ne.2 (fun e => he (UInt8.toNat_inj.1 (by show x.toNat = 47; omega)))
      clear he
      go_wp2
      exact ⟨⟨k + 1, g, xs, by omega, by omega, by go_num, rfl, HR.out.other hlt (by rw [HX.out]; exact HE.out), hown, hb, hsz⟩, by simp [intOf]; omega⟩
  · have hz : k = s.size := by omega
    subst hz
    go_wp2_with (at_builtin; go_must (refine wpList_app1 _ rfl _ _ rfl w.heap.size u3 xs (s.extract g s.size) rfl hown rfl w hb hsz (by omega) ?_); intro v' w1 hown' hb' hsz')
    go_ret
    have hd := HR.out.done
    obtain ⟨A, c, hv, hc, hsl⟩ := hown'.ret
    rw [hd] at hv hc hsl
    exact ⟨A, c, congrArg Ending.returned hv, hc, hsl, hb'⟩

def sameB (xs ys : List ByteArray) : Bool := decide (xs = ys)
def SameUpto (xs ys : List ByteArray) (i : Nat) : Prop := ∀ j, j < i → xs[j]? = ys[j]?
theorem SameUpto.succ {xs ys : List ByteArray} {i : Nat} (h : SameUpto xs ys i) (hi : xs[i]? = ys[i]?) : SameUpto xs ys (i + 1) := fun j hj => by
 rcases Nat.lt_succ_iff_lt_or_eq.1 hj with h' | h'
 · exact h j h'
 · subst h'; exact hi
theorem SameUpto.all {xs ys : List ByteArray} (h : SameUpto xs ys xs.length) (hl : xs.length = ys.length) : sameB xs ys = true := by
 refine decide_eq_true (List.ext_getElem? fun j => ?_)
 by_cases hj : j < xs.length
 · exact h j hj
 · rw [List.getElem?_eq_none (by omega), List.getElem?_eq_none (by omega)]
theorem sameB_len {xs ys : List ByteArray} (h : xs.length ≠ ys.length) : sameB xs ys = false := decide_eq_false (fun e => h (by rw [e]))
theorem sameB_at {xs ys : List ByteArray} {i : Nat} (h : xs[i]? ≠ ys[i]?) : sameB xs ys = false := decide_eq_false (fun e => h (by rw [e]))

theorem str_eq {x y : ByteArray} : (x.toList == y.toList) = true ↔ x = y := by
 constructor
 · intro h
   have h' := eq_of_beq h
   rw [Lib.toList_data, Lib.toList_data] at h'
   exact dl_inj h'
 · intro h
   rw [h]
   exact beq_self_eq_true _
theorem same_hit {xs ys : List ByteArray} {i : Nat} {x y : ByteArray} (h : (!x.toList == y.toList) = true) (hx : xs[i]? = some x) (hy : ys[i]? = some y) : sameB xs ys = false := by
 refine sameB_at (i := i) ?_
 rw [hx, hy]
 intro e
 obtain rfl := Option.some.inj e
 simp at h
theorem same_miss {xs ys : List ByteArray} {i : Nat} {x y : ByteArray} (h : (!x.toList == y.toList) = false) (hx : xs[i]? = some x) (hy : ys[i]? = some y) : xs[i]? = ys[i]? := by
 have e : x = y := str_eq.1 (by simpa using h)
 rw [hx, hy, e]

theorem same_any (A A' : Option Addr) (c c' : Nat) (xs ys : List ByteArray) (w : World) (B : Nat) (h : SL w B A xs) (h' : SL w B A' ys) (hx63 : xs.length ≤ 9223372036854775807) (_hy63 : ys.length ≤ 9223372036854775807) :
 Calls Tryz.prog 21 #[.slice A xs.length c, .slice A' ys.length c'] w fun e w' => e = .returned (.bool (sameB xs ys)) ∧ ∃ n, w.drewN n = w' := by
 by_cases hl : xs.length = ys.length
 · have hb : ((xs.length : Int) != (ys.length : Int)) = false := by simp [hl]
   have HLN := Lib.hid hl
   have hyl : ¬ ((ys.length : Int) < (xs.length : Int)) := by omega
   have hyl2 : ¬ ((xs.length : Int) < (ys.length : Int)) := by omega
   clear hl
   have HS := Lib.hid h
   have HS' := Lib.hid h'
   clear h h'
   go_enter Tryz.func21, Tryz.ntmps21
   go_wp2
   go_loopw [5] (fun v wr => ∃ (i n : Nat), i ≤ xs.length ∧ v = .int .i64 i ∧ SameUpto xs ys i ∧ wr = w.drewN n) (fun v _ => xs.length - (intOf v).toNat)
   case atStart => exact ⟨0, 0, by omega, rfl, fun _ h => absurd h (Nat.not_lt_zero _), rfl⟩
   case round =>
    obtain ⟨i, n, hi, rfl, hno, rfl⟩ := hrel
    have HN := Lib.hid hno
    clear hno
    by_cases hlt : i < xs.length
    · have hlt' : i < ys.length := by have := HLN.out; omega
      obtain ⟨b, o, rfl, hbB, hc⟩ := HS.out (by omega)
      obtain ⟨b', o', rfl, hbB', hc'⟩ := HS'.out (by omega)
      obtain ⟨x, hx⟩ : ∃ x, xs[i]? = some x := ⟨_, List.getElem?_eq_getElem hlt⟩
      obtain ⟨y, hy⟩ : ∃ y, ys[i]? = some y := ⟨_, List.getElem?_eq_getElem hlt'⟩
      have k1 := hc i x hx
      have k2 := hc' i y hy
      have HX := Lib.hid hx
      have HY := Lib.hid hy
      clear hc hc' hx hy HS HS'
      go_wp2
      go_quiet (fail)
      go_wp2
      · go_ret
        exact ⟨retb (same_hit (by assumption) HX.out HY.out).symm, _, (World.drewN_drewN _ _ _).symm⟩
      · exact ⟨⟨i + 1, _, by omega, by go_num, HN.out.succ (same_miss (by assumption) HX.out HY.out), rfl⟩, by simp [intOf]; omega⟩
    · have HZ := Lib.hid (show i = xs.length by omega)
      go_wp2
      go_ret
      exact ⟨retb (SameUpto.all (by rw [← HZ.out]; exact HN.out) HLN.out).symm, _, rfl⟩
 · have hb : ((xs.length : Int) != (ys.length : Int)) = true := by simp; omega
   have HLN := Lib.hid (sameB_len hl)
   clear hl h h'
   go_enter Tryz.func21, Tryz.ntmps21
   go_wp2
   go_ret
   exact ⟨retb HLN.out.symm, 0, rfl⟩

end Go.Proofs.YtdkegoaflabjoaaGreatDoor.S1
namespace Go.Proofs.YtdkegoaflabjoaaGreatDoor.S1
open Go.RowKit

theorem sized_parts {s : ByteArray} (h1 : 1 ≤ s.size) (h64 : s.size ≤ 64) : T.sizedL (dl s) = (!hasB (dl s) 0 && decide (((lvB s).length : Int) ≤ 8)) := by
 have hl := size_dl s
 unfold T.sizedL hasB
 rw [lvB_length, decide_eq_true (show 1 ≤ (dl s).length by omega), decide_eq_true (show (dl s).length ≤ 64 by omega)]
 simp only [Bool.true_and]
 congr 1
 rw [Bool.eq_iff_iff]
 simp
 omega
theorem sized_short {s : ByteArray} (h1 : ¬ 1 ≤ s.size) : T.sizedL (dl s) = false := by
 have hl := size_dl s
 unfold T.sizedL
 rw [decide_eq_false (show ¬ 1 ≤ (dl s).length by omega)]; simp
theorem sized_long {s : ByteArray} (h1 : ¬ s.size ≤ 64) : T.sizedL (dl s) = false := by
 have hl := size_dl s
 unfold T.sizedL
 rw [decide_eq_false (show ¬ (dl s).length ≤ 64 by omega)]; simp

theorem sized_any (s : ByteArray) (w : World) :
 Calls Tryz.prog 113 #[.string s] w fun e w' => e = .returned (.bool (T.sizedL (dl s))) ∧ Below w.heap.size w w' := by
 by_cases h1 : 1 ≤ s.size
 · by_cases h64 : s.size ≤ 64
   · have d1 : decide ((1 : Int) ≤ (s.size : Int)) = true := decide_eq_true (by omega)
     have d2 : decide ((s.size : Int) ≤ 64) = true := decide_eq_true (by omega)
     have HS := Lib.hid (sized_parts h1 h64)
     cases h0 : hasB (dl s) 0
     · go_enter Tryz.func113, Tryz.ntmps113
       go_wp2_with first
        | (go_at_call 114; (with_reducible refine (has0_any _ _ (by omega)).mono ?_); rintro e w' ⟨rfl, rfl⟩)
        | (go_at_call 116; refine (rLevels_any _ _ (by omega)).mono ?_; rintro e w' ⟨A, c, rfl, hc, hsl, hb⟩)
       go_ret
       exact ⟨retb (by rw [HS.out, h0]; rfl), hb⟩
     · go_enter Tryz.func113, Tryz.ntmps113
       go_wp2_with (go_at_call 114; (with_reducible refine (has0_any _ _ (by omega)).mono ?_); rintro e w' ⟨rfl, rfl⟩)
       go_ret
       exact ⟨retb (by rw [HS.out, h0]; rfl), Below.refl _ _⟩
   · have d1 : decide ((1 : Int) ≤ (s.size : Int)) = true := decide_eq_true (by omega)
     have d2 : decide ((s.size : Int) ≤ 64) = false := decide_eq_false (by omega)
     have HS := Lib.hid (sized_long h64)
     go_enter Tryz.func113, Tryz.ntmps113
     go_wp2
     go_ret
     exact ⟨retb HS.out.symm, Below.refl _ _⟩
 · have d1 : decide ((1 : Int) ≤ (s.size : Int)) = false := decide_eq_false (by omega)
   have HS := Lib.hid (sized_short h1)
   go_enter Tryz.func113, Tryz.ntmps113
   go_wp2
   go_ret
   exact ⟨retb HS.out.symm, Below.refl _ _⟩

def OkUpto (a : List (List UInt8)) (i : Nat) : Prop := ∀ j, j < i → T.okAt a j = true
theorem OkUpto.succ {a : List (List UInt8)} {i : Nat} (h : OkUpto a i) (hi : T.okAt a i = true) : OkUpto a (i + 1) := fun j hj => by
 rcases Nat.lt_succ_iff_lt_or_eq.1 hj with h' | h'
 · exact h j h'
 · subst h'; exact hi
theorem ok_spec {s x : ByteArray} {i : Nat} (hz : T.sizedL (dl s) = true) (hx : (lvB s)[i]? = some x) :
 T.okAt (T.lv (dl s)) i = (!(hasB (dl x) 43 && !decide (x = bs [43])) && !(hasB (dl x) 35 && (!decide (x = bs [35]) || !decide (i + 1 = (lvB s).length)))) := by
 have hi : i < (lvB s).length := (List.getElem?_eq_some_iff.1 hx).1
 have h0 : (0 : UInt8) ∉ dl s := by
  unfold T.sizedL at hz
  simp only [Bool.and_eq_true, Bool.not_eq_true', List.contains_eq_mem, decide_eq_false_iff_not] at hz
  exact hz.1.2
 have he : ∀ l, decide (x = bs l) = decide (dl x = l) := fun l => by
  rw [Bool.eq_iff_iff]
  simp only [decide_eq_true_eq]
  exact ⟨fun h => by rw [h, dl_bs], fun h => by rw [← h, bs_dl]⟩
 rw [lvB_length] at hi
 rw [T.okAt_spec h0 i hi, lvB_getD s i x hx, he, he, lvB_length]
 rfl
theorem sized_le {s : ByteArray} (h : T.sizedL (dl s) = true) : s.size ≤ 64 := by
 rcases Nat.lt_or_ge 64 s.size with h1 | h1
 · rw [sized_long (by omega)] at h; cases h
 · exact h1
theorem not_sized_filter {s : ByteArray} (h : T.sizedL (dl s) = false) : T.filterL (dl s) = false := by
 cases hf : T.filterL (dl s) with
 | false => rfl
 | true => rw [T.filterL_sized hf] at h; cases h
theorem filter_done {s : ByteArray} (hz : T.sizedL (dl s) = true) (h : OkUpto (T.lv (dl s)) (lvB s).length) : T.filterL (dl s) = true := by
 unfold T.sizedL at hz
 simp only [Bool.and_eq_true, decide_eq_true_eq] at hz
 exact T.filterL_true hz.1.1.1 hz.1.1.2 hz.2 (fun i hi => h i (by rw [lvB_length]; exact hi))
theorem filter_bad {s : ByteArray} {i : Nat} (hi : i < (lvB s).length) (h : T.okAt (T.lv (dl s)) i = false) : T.filterL (dl s) = false := T.filterL_at (by rw [← lvB_length]; exact hi) h

theorem rFilter_any (s : ByteArray) (w : World) :
 Calls Tryz.prog 98 #[.string s] w fun e w' => e = .returned (.bool (T.filterL (dl s))) ∧ Below w.heap.size w w' := by
 cases hz : T.sizedL (dl s)
 · have HF := Lib.hid (not_sized_filter hz)
   go_enter Tryz.func98, Tryz.ntmps98
   go_wp2_with (go_at_call 113; refine (sized_any _ _).mono ?_; rintro e w' ⟨rfl, hb⟩)
   go_ret
   exact ⟨retb HF.out.symm, hb⟩
 · have hle := sized_le hz
   have hlv := countB_lv s
   have hcb : (lvB s).length ≤ 65 := by
    have := Lib.countB_le ⟨#[47]⟩ (by decide) s.size s (Nat.le_refl _)
    omega
   clear hlv
   go_enter Tryz.func98, Tryz.ntmps98
   go_wp2_with first
    | (go_at_call 113; refine (sized_any _ _).mono ?_; rintro e w1 ⟨rfl, hb1⟩)
    | (go_at_call 116; refine (rLevels_any _ _ (by omega)).mono ?_; rintro e w2 ⟨A, c, rfl, hc, hsl, hb2⟩)
   have HZ := Lib.hid hz
   clear hz
   have HB := Lib.hid (Below.step hb1 hb2)
   have HS := Lib.hid hsl
   clear hb1 hb2 hsl
   go_loop [4] (fun v => ∃ i : Nat, i ≤ (lvB s).length ∧ v = .int .i64 i ∧ OkUpto (T.lv (dl s)) i) (fun v => (lvB s).length - (intOf v).toNat)
   case atStart => exact ⟨0, by omega, rfl, fun _ h => absurd h (Nat.not_lt_zero _)⟩
   case round =>
    obtain ⟨i, hi, rfl, hno⟩ := hrel
    have HN := Lib.hid hno
    clear hno
    by_cases hlt : i < (lvB s).length
    · obtain ⟨b, o, rfl, hbB, hcl⟩ := HS.out (by omega)
      obtain ⟨x, hx⟩ : ∃ x, (lvB s)[i]? = some x := ⟨_, List.getElem?_eq_getElem hlt⟩
      have k1 := hcl i x hx
      have HO := Lib.hid (ok_spec HZ.out hx)
      have hx64 : x.size ≤ 9223372036854775807 := by
       have := lvB_size_le s x (List.mem_of_getElem? hx)
       omega
      have HI := Lib.hid hlt
      clear hcl hx HS
      by_cases e43 : x = bs [43]
      · subst e43
        have q1 : (bs [43]).toList = [43] := by rw [Lib.toList_data]; exact dl_bs _
        have q2 : hasB (dl (bs [43])) 43 = true := by rw [dl_bs]; rfl
        have q3 : hasB (dl (bs [43])) 35 = false := by rw [dl_bs]; rfl
        have HK : Hid (T.okAt (T.lv (dl s)) i = true) := Lib.hid (by rw [HO.out, q2, q3]; simp)
        go_wp2_with first
         | (go_at_call 114; (with_reducible refine (has43_any _ _ (by omega)).mono ?_); rintro e w' ⟨rfl, rfl⟩)
         | (go_at_call 114; (with_reducible refine (has35_any _ _ (by omega)).mono ?_); rintro e w' ⟨rfl, rfl⟩)
        exact ⟨⟨i + 1, by omega, by go_num, HN.out.succ HK.out⟩, by simp [intOf]; omega⟩
      by_cases e35 : x = bs [35]
      · subst e35
        have q1 : (bs [35]).toList = [35] := by rw [Lib.toList_data]; exact dl_bs _
        have q2 : hasB (dl (bs [35])) 43 = false := by rw [dl_bs]; rfl
        have q3 : hasB (dl (bs [35])) 35 = true := by rw [dl_bs]; rfl
        have HK : Hid (T.okAt (T.lv (dl s)) i = decide (i + 1 = (lvB s).length)) := Lib.hid (by rw [HO.out, q2, q3]; simp)
        by_cases hla : i + 1 = (lvB s).length
        · have HK2 : Hid (T.okAt (T.lv (dl s)) i = true) := Lib.hid (by rw [HK.out]; simp [hla])
          have q4 : ((i : Int) != ((lvB s).length : Int) - 1) = false := by simp; omega
          clear hla
          go_wp2_with first
           | (go_at_call 114; (with_reducible refine (has43_any _ _ (by omega)).mono ?_); rintro e w' ⟨rfl, rfl⟩)
           | (go_at_call 114; (with_reducible refine (has35_any _ _ (by omega)).mono ?_); rintro e w' ⟨rfl, rfl⟩)
          exact ⟨⟨i + 1, by omega, by go_num, HN.out.succ HK2.out⟩, by simp [intOf]; omega⟩
        · have HK2 : Hid (T.okAt (T.lv (dl s)) i = false) := Lib.hid (by rw [HK.out]; simp [hla])
          have q4 : ((i : Int) != ((lvB s).length : Int) - 1) = true := by simp; omega
          clear hla
          go_wp2_with first
           | (go_at_call 114; (with_reducible refine (has43_any _ _ (by omega)).mono ?_); rintro e w' ⟨rfl, rfl⟩)
           | (go_at_call 114; (with_reducible refine (has35_any _ _ (by omega)).mono ?_); rintro e w' ⟨rfl, rfl⟩)
          go_ret
          exact ⟨retb (filter_bad HI.out HK2.out).symm, HB.out⟩
      · have n43 : ¬ x.toList = [43] := fun h => e43 (by rw [← bs_dl x]; unfold dl; rw [← Lib.toList_data, h])
        have n35 : ¬ x.toList = [35] := fun h => e35 (by rw [← bs_dl x]; unfold dl; rw [← Lib.toList_data, h])
        have HK : Hid (T.okAt (T.lv (dl s)) i = (!hasB (dl x) 43 && !hasB (dl x) 35)) := Lib.hid (by rw [HO.out]; simp [e43, e35])
        have m43 : (!x.toList == [43]) = true := by simp [n43]
        have m35 : (!x.toList == [35]) = true := by simp [n35]
        clear e43 e35
        cases h43 : hasB (dl x) 43
        · cases h35 : hasB (dl x) 35
          · go_wp2_with first
             | (go_at_call 114; (with_reducible refine (has43_any _ _ (by omega)).mono ?_); rintro e w' ⟨rfl, rfl⟩)
             | (go_at_call 114; (with_reducible refine (has35_any _ _ (by omega)).mono ?_); rintro e w' ⟨rfl, rfl⟩)
            exact ⟨⟨i + 1, by omega, by go_num, HN.out.succ (by rw [HK.out, h43, h35]; rfl)⟩, by simp [intOf]; omega⟩
          · go_wp2_with first
             | (go_at_call 114; (with_reducible refine (has43_any _ _ (by omega)).mono ?_); rintro e w' ⟨rfl, rfl⟩)
             | (go_at_call 114; (with_reducible refine (has35_any _ _ (by omega)).mono ?_); rintro e w' ⟨rfl, rfl⟩)
            go_ret
            exact ⟨retb (filter_bad HI.out (by rw [HK.out, h43, h35]; rfl)).symm, HB.out⟩
        · go_wp2_with (go_at_call 114; (with_reducible refine (has43_any _ _ (by omega)).mono ?_); rintro e w' ⟨rfl, rfl⟩)
          go_ret
          exact ⟨retb (filter_bad HI.out (by rw [HK.out, h43]; rfl)).symm, HB.out⟩
    · have HE := Lib.hid (show i = (lvB s).length by omega)
      go_wp2
      go_ret
      exact ⟨retb (filter_done HZ.out (by rw [← HE.out]; exact HN.out)).symm, HB.out⟩

theorem valid_parts (s : ByteArray) : T.validL (dl s) = (T.sizedL (dl s) && !hasB (dl s) 43 && !hasB (dl s) 35) := by
 rw [T.validL_eq, T.wildFree_eq, Bool.and_assoc]; rfl

theorem rValid_any (s : ByteArray) (w : World) (hs63 : s.size ≤ 9223372036854775807) :
 Calls Tryz.prog 95 #[.string s] w fun e w' => e = .returned (.bool (T.validL (dl s))) ∧ Below w.heap.size w w' := by
 have HV := Lib.hid (valid_parts s)
 cases hz : T.sizedL (dl s)
 · go_enter Tryz.func95, Tryz.ntmps95
   go_wp2_with (go_at_call 113; refine (sized_any _ _).mono ?_; rintro e w' ⟨rfl, hb⟩)
   go_ret
   exact ⟨retb (by rw [HV.out, hz]; rfl), hb⟩
 · cases h43 : hasB (dl s) 43
   · go_enter Tryz.func95, Tryz.ntmps95
     go_wp2_with first
      | (go_at_call 113; refine (sized_any _ _).mono ?_; rintro e w1 ⟨rfl, hb⟩)
      | (go_at_call 114; (with_reducible refine (has43_any _ _ (by omega)).mono ?_); rintro e w' ⟨rfl, rfl⟩)
      | (go_at_call 114; (with_reducible refine (has35_any _ _ (by omega)).mono ?_); rintro e w' ⟨rfl, rfl⟩)
     go_ret
     exact ⟨retb (by rw [HV.out, hz, h43]; rfl), hb⟩
   · go_enter Tryz.func95, Tryz.ntmps95
     go_wp2_with first
      | (go_at_call 113; refine (sized_any _ _).mono ?_; rintro e w1 ⟨rfl, hb⟩)
      | (go_at_call 114; (with_reducible refine (has43_any _ _ (by omega)).mono ?_); rintro e w' ⟨rfl, rfl⟩)
     go_ret
     exact ⟨retb (by rw [HV.out, hz, h43]; rfl), hb⟩

end Go.Proofs.YtdkegoaflabjoaaGreatDoor.S1
