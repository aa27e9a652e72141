/-
A range over a text, rune by rune: a rune that is not ASCII consists of bytes that are not ASCII; IndexRune, IndexAny and ContainsAny at the two wildcards. Conditions: the text has at most 2^47 bytes.
The library's IndexRune at the two wildcards and a rune of two bytes: not found. Conditions: as in the theorem.
The library's IndexRune at the two wildcards and a rune of three or four bytes: not found. Conditions: as in the theorem.
The library's ContainsAny at the two wildcards: true exactly if the text holds one of them. Condition: the text is shorter than 4294967281 bytes.
-/
import Derived.Test.YtdkegoaflabjoaaGreatDoorSpecFilter
import Derived.Lib.OthersKept
set_option maxHeartbeats 4000000
set_option maxRecDepth 1000000
namespace Go.Proofs.YtdkegoaflabjoaaGreatDoor.S1
open Go.RowKit

theorem decode_block (s : ByteArray) (pos : Nat) (h : pos < s.size) (ha : 128 ≤ (s[pos]'h).toNat) :
 pos + (Utf8.decode s pos).2 ≤ s.size ∧ ∀ k, k < (Utf8.decode s pos).2 → 128 ≤ (s.get! (pos + k)).toNat := by
 have hn : ¬ (s.get! (pos + 0)).toNat < 128 := by rw [get_at s pos h]; omega
 have one : pos + 1 ≤ s.size ∧ ∀ k, k < 1 → 128 ≤ (s.get! (pos + k)).toNat := ⟨h, fun k hk => by
  have : k = 0 := by omega
  subst this; omega⟩
 simp only [Utf8.decode, hn, if_false]
 split
 · next h1 =>
   simp only [Bool.and_eq_true, decide_eq_true_eq, beq_iff_eq] at h1
   split
   · refine ⟨by show pos + 2 ≤ s.size; omega, fun k hk => ?_⟩
     have hk' : k < 2 := hk
     rcases (show k = 0 ∨ k = 1 by omega) with rfl | rfl <;> omega
   · exact one
 split
 · next h1 =>
   simp only [Bool.and_eq_true, decide_eq_true_eq, beq_iff_eq] at h1
   split
   · refine ⟨by show pos + 3 ≤ s.size; omega, fun k hk => ?_⟩
     have hk' : k < 3 := hk
     rcases (show k = 0 ∨ k = 1 ∨ k = 2 by omega) with rfl | rfl | rfl <;> omega
   · exact one
 split
 · next h1 =>
   simp only [Bool.and_eq_true, decide_eq_true_eq, beq_iff_eq] at h1
   split
   · refine ⟨by show pos + 4 ≤ s.size; omega, fun k hk => ?_⟩
     have hk' : k < 4 := hk
     rcases (show k = 0 ∨ k = 1 ∨ k = 2 ∨ k = 3 by omega) with rfl | rfl | rfl | rfl <;> omega
   · exact one
 · exact one

theorem get_dl (s : ByteArray) (j : Nat) (h : j < s.size) : s.get! j = (dl s).getD j 0 := by
 rw [getD_dl s j h]
 have := get_at s j h
 simpa using this

/-- no byte before place i is one of these -/
def Free (l : List UInt8) (p : UInt8 → Bool) (i : Nat) : Prop := ∀ j, j < i → p (l.getD j 0) = true
theorem Free.zero (l : List UInt8) (p : UInt8 → Bool) : Free l p 0 := fun _ h => absurd h (Nat.not_lt_zero _)
theorem Free.succ {l : List UInt8} {p : UInt8 → Bool} {i : Nat} (h : Free l p i) (hi : p (l.getD i 0) = true) : Free l p (i + 1) := fun j hj => by
 rcases Nat.lt_succ_iff_lt_or_eq.1 hj with h' | h'
 · exact h j h'
 · subst h'; exact hi
/-- past a rune that is not ASCII, where no byte from 128 on is forbidden -/
theorem Free.rune {s : ByteArray} {p : UInt8 → Bool} {i d : Nat} (h : Free (dl s) p i) (hi : i < s.size) (ha : 128 ≤ (s[i]'hi).toNat) (hd : (Utf8.decode s i).2 = d) (hp : ∀ c : UInt8, 128 ≤ c.toNat → p c = true) :
 Free (dl s) p (i + d) ∧ i + d ≤ s.size := by
 obtain ⟨h1, h2⟩ := decode_block s i hi ha
 rw [hd] at h1 h2
 refine ⟨fun j hj => ?_, h1⟩
 rcases Nat.lt_or_ge j i with h' | h'
 · exact h j h'
 · have := h2 (j - i) (by omega)
   rw [show i + (j - i) = j by omega, get_dl s j (by omega)] at this
   exact hp _ this
theorem Free.all {l : List UInt8} {p : UInt8 → Bool} (h : Free l p l.length) : l.all p = true := by
 rw [List.all_eq_true]
 intro c hc
 obtain ⟨i, hi, e⟩ := T.mem_getD 0 hc
 rw [← e]; exact h i hi
theorem free_bad {l : List UInt8} {p : UInt8 → Bool} {i : Nat} (hi : i < l.length) (h : p (l.getD i 0) = false) : l.all p = false := by
 rw [List.all_eq_false]
 exact ⟨_, T.getD_mem l i 0 hi, by rw [h]; decide⟩

/-- the bytes that string(r) has -/
theorem encode_size (r : Nat) (h : 128 ≤ r) : 2 ≤ (Utf8.encode r).size := by
 unfold Utf8.encode
 have h1 : ∀ c : Nat, 128 ≤ c → 2 ≤ (if c < 0x80 then (⟨#[UInt8.ofNat c]⟩ : ByteArray)
  else if c < 0x800 then ⟨#[UInt8.ofNat (0xC0 + c / 64), UInt8.ofNat (0x80 + c % 64)]⟩
  else if c < 0x10000 then ⟨#[UInt8.ofNat (0xE0 + c / 4096), UInt8.ofNat (0x80 + c / 64 % 64), UInt8.ofNat (0x80 + c % 64)]⟩
  else ⟨#[UInt8.ofNat (0xF0 + c / 262144), UInt8.ofNat (0x80 + c / 4096 % 64), UInt8.ofNat (0x80 + c / 64 % 64), UInt8.ofNat (0x80 + c % 64)]⟩).size := by
  intro c hc
  rw [if_neg (by omega)]
  split
  · exact Nat.le_refl 2
  split
  · exact Nat.le_succ 2
  · show 2 ≤ 4; omega
 split
 · exact h1 _ (by omega)
 · exact h1 _ (by decide)
theorem encode_le (r : Nat) : (Utf8.encode r).size ≤ 4 := by
 unfold Utf8.encode
 have h1 : ∀ c : Nat, (if c < 0x80 then (⟨#[UInt8.ofNat c]⟩ : ByteArray)
  else if c < 0x800 then ⟨#[UInt8.ofNat (0xC0 + c / 64), UInt8.ofNat (0x80 + c % 64)]⟩
  else if c < 0x10000 then ⟨#[UInt8.ofNat (0xE0 + c / 4096), UInt8.ofNat (0x80 + c / 64 % 64), UInt8.ofNat (0x80 + c % 64)]⟩
  else ⟨#[UInt8.ofNat (0xF0 + c / 262144), UInt8.ofNat (0x80 + c / 4096 % 64), UInt8.ofNat (0x80 + c / 64 % 64), UInt8.ofNat (0x80 + c % 64)]⟩).size ≤ 4 := by
  intro c
  split
  · show 1 ≤ 4; omega
  split
  · show 2 ≤ 4; omega
  split
  · show 3 ≤ 4; omega
  · show 4 ≤ 4; omega
 exact h1 _
/-- of two bytes, the second is not ASCII -/
theorem encode_two (r : Nat) (h : 128 ≤ r) (h2 : (Utf8.encode r).size = 2) : ∃ a b : UInt8, Utf8.encode r = ⟨#[a, b]⟩ ∧ 128 ≤ b.toNat := by
 unfold Utf8.encode at h2 ⊢
 have h1 : ∀ c : Nat, 128 ≤ c → (if c < 0x80 then (⟨#[UInt8.ofNat c]⟩ : ByteArray)
  else if c < 0x800 then ⟨#[UInt8.ofNat (0xC0 + c / 64), UInt8.ofNat (0x80 + c % 64)]⟩
  else if c < 0x10000 then ⟨#[UInt8.ofNat (0xE0 + c / 4096), UInt8.ofNat (0x80 + c / 64 % 64), UInt8.ofNat (0x80 + c % 64)]⟩
  else ⟨#[UInt8.ofNat (0xF0 + c / 262144), UInt8.ofNat (0x80 + c / 4096 % 64), UInt8.ofNat (0x80 + c / 64 % 64), UInt8.ofNat (0x80 + c % 64)]⟩).size = 2 →
  ∃ a b : UInt8, (if c < 0x80 then (⟨#[UInt8.ofNat c]⟩ : ByteArray)
  else if c < 0x800 then ⟨#[UInt8.ofNat (0xC0 + c / 64), UInt8.ofNat (0x80 + c % 64)]⟩
  else if c < 0x10000 then ⟨#[UInt8.ofNat (0xE0 + c / 4096), UInt8.ofNat (0x80 + c / 64 % 64), UInt8.ofNat (0x80 + c % 64)]⟩
  else ⟨#[UInt8.ofNat (0xF0 + c / 262144), UInt8.ofNat (0x80 + c / 4096 % 64), UInt8.ofNat (0x80 + c / 64 % 64), UInt8.ofNat (0x80 + c % 64)]⟩) = ⟨#[a, b]⟩ ∧ 128 ≤ b.toNat := by
  intro c hc
  rw [if_neg (by omega)]
  split
  · intro _
    exact ⟨_, _, rfl, by simp; omega⟩
  split
  · intro e; exact absurd e (by show ¬ (3 = 2); decide)
  · intro e; exact absurd e (by show ¬ (4 = 2); decide)
 split
 · next hv => rw [if_pos hv] at h2; exact h1 _ (by omega) h2
 · next hv => rw [if_neg hv] at h2; exact h1 _ (by decide) h2

end Go.Proofs.YtdkegoaflabjoaaGreatDoor.S1
namespace Go.Proofs.YtdkegoaflabjoaaGreatDoor.S1
open Go.RowKit

theorem idx_none (s : ByteArray) (c : Int) (w : World) (h : Lib.indexByte s.data.toList c.toNat.toUInt8 = -1) :
 Calls Tryz.prog 136 #[.string s, .int .u8 c] w fun e w' => e = .returned (.int .i64 (-1)) ∧ w' = w :=
 (Tryz.strings_IndexByte s c w).mono fun e w' ⟨he, hw⟩ => ⟨by rw [he, h], hw⟩

theorem idxRune_two (r : Nat) (h128 : 128 ≤ r) (hmax : r ≤ 2147483647) (he : r ≠ 65533) (hv : Lib.validRune (r : Int) = true) (a b : UInt8) (hab : Utf8.encode r = ⟨#[a, b]⟩) (hb : 128 ≤ b.toNat) (w : World) :
 Calls Tryz.prog 130 #[.string ⟨#[43, 35]⟩, .int .i32 r] w fun e w' => e = .returned (.int .i64 (-1)) ∧ Below w.heap.size w w' := by
 have d1 : decide ((r : Int) < 128) = false := decide_eq_false (by omega)
 have d0 : decide ((0 : Int) ≤ (r : Int)) = true := decide_eq_true (by omega)
 have q : ((r : Int) == 65533) = false := beq_eq_false_iff_ne.2 (by omega)
 have hb35 : ((((⟨#[43, 35]⟩ : ByteArray)[1]'(by decide)).toNat : Int) != (((⟨#[a, b]⟩ : ByteArray)[1]'(by show 1 < 2; decide)).toNat : Int)) = true := by
  show ((35 : Int) != (b.toNat : Int)) = true
  rw [bne_iff_ne]; omega
 clear he
 go_enter Tryz.func130, Tryz.ntmps130
 go_wp2_with (go_at_call 137; refine (Tryz.utf8_ValidRune _ _).mono ?_; rintro e w' ⟨rfl, rfl⟩)
 go_step3
 go_wp2
 refine wp_loop_rounds 1 ?_
 rw [rounds_succ]
 go_wp2
 go_step3
 go_wp2
 go_quiet (fail)
 obtain ⟨w2, hw2⟩ : ∃ w2, w2 = w'.drewN nq := ⟨_, rfl⟩
 have HB : Below w'.heap.size w' w2 := by subst hw2; exact ⟨rfl, rfl, rfl, Nat.le_refl _, fun _ _ => rfl⟩
 rw [← hw2]
 clear hw2
 go_wp2
 go_quiet ((go_at_call 136; exact Calls.quiet_of_same (idx_none _ _ _ (by rfl))))
 go_wp2
 rw [Exit.noGoto_ret]
 go_wp2
 rw [Exit.noGoto_ret]
 go_ret
 exact ⟨rfl, by first | exact HB | exact ⟨HB.os, HB.tape, HB.output, HB.size, HB.block⟩⟩

end Go.Proofs.YtdkegoaflabjoaaGreatDoor.S1
namespace Go.Proofs.YtdkegoaflabjoaaGreatDoor.S1
open Go.RowKit

theorem idxRune_more (r : Nat) (h128 : 128 ≤ r) (hmax : r ≤ 2147483647) (he : r ≠ 65533) (hv : Lib.validRune (r : Int) = true) (en : ByteArray) (hab : Utf8.encode r = en) (h3 : 3 ≤ (en.size : Int)) (h4 : (en.size : Int) ≤ 4) (w : World) :
 Calls Tryz.prog 130 #[.string ⟨#[43, 35]⟩, .int .i32 r] w fun e w' => e = .returned (.int .i64 (-1)) ∧ Below w.heap.size w w' := by
 have d1 : decide ((r : Int) < 128) = false := decide_eq_false (by omega)
 have d0 : decide ((0 : Int) ≤ (r : Int)) = true := decide_eq_true (by omega)
 have q : ((r : Int) == 65533) = false := beq_eq_false_iff_ne.2 (by omega)
 clear he
 go_enter Tryz.func130, Tryz.ntmps130
 go_wp2_with (go_at_call 137; refine (Tryz.utf8_ValidRune _ _).mono ?_; rintro e w' ⟨rfl, rfl⟩)
 go_step3
 go_wp2
 refine wp_loop_rounds 1 ?_
 rw [rounds_succ]
 go_wp2
 repeat rw [Exit.noGoto_ret]
 go_ret
 exact ⟨rfl, Below.refl _ _⟩

end Go.Proofs.YtdkegoaflabjoaaGreatDoor.S1
namespace Go.Proofs.YtdkegoaflabjoaaGreatDoor.S1
open Go.RowKit
open Go.Lib (run_next_any_at run_next_ascii_at run_next_end_at iterAt_heap below_iterAt)

/-- A rune that is not ASCII does not stand in the text of the two wildcards. -/
theorem idxRune_hi (r : Nat) (h128 : 128 ≤ r) (hmax : r ≤ 2147483647) (w : World) :
 Calls Tryz.prog 130 #[.string ⟨#[43, 35]⟩, .int .i32 r] w fun e w' => e = .returned (.int .i64 (-1)) ∧ Below w.heap.size w w' := by
 have d1 : decide ((r : Int) < 128) = false := decide_eq_false (by omega)
 have d0 : decide ((0 : Int) ≤ (r : Int)) = true := decide_eq_true (by omega)
 by_cases he : r = 65533
 · have q : ((r : Int) == 65533) = true := by rw [he]; rfl
   clear he
   have hn0 := fun ty => run_next_ascii (P := Tryz.prog) w ⟨#[43, 35]⟩ 0 ty (by decide) (by decide)
   have hn1 := fun ty => run_next_ascii (P := Tryz.prog) w ⟨#[43, 35]⟩ 1 ty (by decide) (by decide)
   have hn2 := fun ty => run_next_end (P := Tryz.prog) w ⟨#[43, 35]⟩ 2 ty (by decide)
   go_enter Tryz.func130, Tryz.ntmps130
   go_wp2
   go_loopg [5, 6] 2 (fun g _ _ wr => ∃ i : Nat, i + g = 2 ∧ wr = w.iter ⟨#[43, 35]⟩ i)
   case atStart => exact ⟨0, rfl, rfl⟩
   case round =>
    obtain ⟨i, hig, rfl⟩ := hrel
    cases gk with
    | zero =>
      obtain rfl : i = 2 := by omega
      clear hig
      go_wp2
      go_ret
      exact ⟨rfl, (Below.refl _ _).alloc (Nat.le_refl _) _⟩
    | succ g =>
      rcases (show i = 0 ∨ i = 1 by omega) with rfl | rfl
      · have hg1 := Lib.hid (show 1 + g = 2 by omega)
        clear hig
        go_wp2
        go_roundg g
        case measure => omega
        case rel => exact ⟨1, hg1.out, rfl⟩
      · have hg1 := Lib.hid (show 2 + g = 2 by omega)
        clear hig
        go_wp2
        go_roundg g
        case measure => omega
        case rel => exact ⟨2, hg1.out, rfl⟩
 · have q : ((r : Int) == 65533) = false := beq_eq_false_iff_ne.2 (by omega)
   cases hv : Lib.validRune (r : Int)
   · go_enter Tryz.func130, Tryz.ntmps130
     go_wp2_with (go_at_call 137; refine (Tryz.utf8_ValidRune _ _).mono ?_; rintro e w' ⟨rfl, rfl⟩)
     go_ret
     exact ⟨rfl, Below.refl _ _⟩
   · by_cases h2 : (Utf8.encode r).size = 2
     · obtain ⟨a, b, hab, hb⟩ := encode_two r h128 h2
       exact idxRune_two r h128 hmax he hv a b hab hb w
     · exact idxRune_more r h128 hmax he hv _ rfl (by have := encode_size r h128; omega) (by have := encode_le r; omega) w

/-- ContainsAny's answer -/
def anyW (l : List UInt8) : Bool := !T.wildFree l
def notW (c : UInt8) : Bool := decide (c ≠ 43) && decide (c ≠ 35)
theorem notW_high (c : UInt8) (h : 128 ≤ c.toNat) : notW c = true := by
 unfold notW
 simp only [Bool.and_eq_true, decide_eq_true_eq]
 exact ⟨fun e => by rw [e] at h; exact absurd h (by decide), fun e => by rw [e] at h; exact absurd h (by decide)⟩
theorem wildFree_all (l : List UInt8) : T.wildFree l = l.all notW := rfl

theorem idxRune_no (x : UInt8) (h : x.toNat < 128) (hn : notW x = true) (w : World) :
 Calls Tryz.prog 130 #[.string ⟨#[43, 35]⟩, .int .i32 x.toNat] w fun e w' => e = .returned (.int .i64 (-1)) ∧ w = w' := by
 refine (Tryz.strings_IndexRune_ascii ⟨#[43, 35]⟩ x.toNat w (by omega) (by omega)).mono fun e w' ⟨he, hw⟩ => ⟨?_, hw.symm⟩
 rw [he]
 have hx : ((x.toNat : Int)).toNat.toUInt8 = x := by simp
 rw [hx]
 unfold notW at hn
 simp only [Bool.and_eq_true, decide_eq_true_eq] at hn
 have : Lib.indexByte (⟨#[43, 35]⟩ : ByteArray).data.toList x = -1 := by
  show Lib.indexByte [43, 35] x = -1
  have h1 : ((43 : UInt8) == x) = false := beq_eq_false_iff_ne.2 (Ne.symm hn.1)
  have h2 : ((35 : UInt8) == x) = false := beq_eq_false_iff_ne.2 (Ne.symm hn.2)
  simp [Lib.indexByte, h1, h2]
 rw [this]
theorem idxRune_yes (x : UInt8) (h : x.toNat < 128) (hn : notW x = false) (w : World) :
 Calls Tryz.prog 130 #[.string ⟨#[43, 35]⟩, .int .i32 x.toNat] w fun e w' => ∃ n : Nat, e = .returned (.int .i64 n) ∧ w = w' := by
 refine (Tryz.strings_IndexRune_ascii ⟨#[43, 35]⟩ x.toNat w (by omega) (by omega)).mono fun e w' ⟨he, hw⟩ => ?_
 have hx : ((x.toNat : Int)).toNat.toUInt8 = x := by simp
 rw [hx] at he
 unfold notW at hn
 have hc : x = 43 ∨ x = 35 := by
  by_cases h1 : x = 43
  · exact .inl h1
  · by_cases h2 : x = 35
    · exact .inr h2
    · simp [h1, h2] at hn
 rcases hc with rfl | rfl
 · exact ⟨0, he, hw.symm⟩
 · exact ⟨1, he, hw.symm⟩

def AnyPost (s : ByteArray) (W : World) (e : Ending) (w' : World) : Prop := ∃ n : Int, e = .returned (.int .i64 n) ∧ decide (0 ≤ n) = anyW (dl s) ∧ Below W.heap.size W w'
theorem any_none {s : ByteArray} (h : Free (dl s) notW s.size) : decide ((0 : Int) ≤ -1) = anyW (dl s) := by
 unfold anyW
 rw [wildFree_all, Free.all (by rw [← size_dl]; exact h)]; rfl
theorem any_some {s : ByteArray} {i : Nat} {n : Nat} (hi : i < s.size) (h : notW ((dl s).getD i 0) = false) : decide (0 ≤ (n : Int)) = anyW (dl s) := by
 unfold anyW
 rw [wildFree_all, free_bad (by rw [← size_dl]; exact hi) h, decide_eq_true (by omega)]; rfl

theorem idxAny_short (s : ByteArray) (w : World) (h8 : s.size ≤ 8) :
 Calls Tryz.prog 125 #[.string s, .string ⟨#[43, 35]⟩] w (AnyPost s w) := by
 have h8z : decide ((8 : Int) < (s.size : Int)) = false := decide_eq_false (by omega)
 go_enter Tryz.func125, Tryz.ntmps125
 go_wp2_with (go_at_call 131; refine (Tryz.strings_shouldUseASCIISet _ _).mono ?_; rintro e w' ⟨rfl, hw⟩; rw [hw, h8z])
 go_loopg [9, 10] s.size (fun g _ _ wr => ∃ i : Nat, s.size ≤ i + g ∧ i ≤ s.size ∧ wr.heap[w.heap.size]? = some (.stringIter s i) ∧ Free (dl s) notW i ∧ Below w.heap.size w wr)
 case atStart => exact ⟨0, by omega, by omega, World.iter_heap _ _ _, Free.zero _ _, (Below.refl _ _).alloc (Nat.le_refl _) _⟩
 case round =>
  obtain ⟨i, hig, his, hk, hno, hb⟩ := hrel
  have HN := Lib.hid hno
  have HB := Lib.hid hb
  have HK := Lib.hid hk
  clear hno hb
  by_cases hi : i < s.size
  · obtain ⟨x, hx⟩ : ∃ x : UInt8, s[i]'hi = x := ⟨_, rfl⟩
    have HX := Lib.hid (show (dl s).getD i 0 = x by rw [getD_dl s i hi, hx])
    by_cases ha : x.toNat < 128
    · have hnx := fun ty => run_next_ascii_at (P := Tryz.prog) wr w.heap.size s i ty hk hi (by rw [hx]; exact ha)
      rw [hx] at hnx
      have HW1 := Lib.hid (iterAt_heap wr w.heap.size s i (i + 1) hk)
      have HW2 := Lib.hid (below_iterAt HB.out (Nat.le_refl _) s (i + 1))
      obtain ⟨wy, hwy⟩ : ∃ wy, wr.iterAt w.heap.size s (i + 1) = wy := ⟨_, rfl⟩
      rw [hwy] at hnx HW1 HW2
      clear hwy hx hk
      cases hn : notW x
      · go_wp2_with (go_at_call 130; refine (idxRune_yes _ (by omega) hn _).mono ?_; rintro e w' ⟨n, rfl, rfl⟩)
        go_ret
        exact ⟨i, rfl, any_some hi (by rw [HX.out]; exact hn), HW2.out⟩
      · go_wp2_with (go_at_call 130; refine (idxRune_no _ (by omega) hn _).mono ?_; rintro e w' ⟨rfl, rfl⟩)
        cases gk with
        | zero => omega
        | succ g =>
          go_roundg g
          case measure => omega
          case rel => exact ⟨i + 1, by omega, by omega, HW1.out, HN.out.succ (by rw [HX.out]; exact hn), HW2.out⟩
    · have ha' : 128 ≤ (s[i]'hi).toNat := by rw [hx]; omega
      have hh := (decode_high s i hi ha').1
      have hm := decode_le s i
      have hnx := fun ty => run_next_any_at (P := Tryz.prog) wr w.heap.size s i ty hk hi
      obtain ⟨c, hc⟩ : ∃ c : Nat, (Utf8.decode s i).1 = c := ⟨_, rfl⟩
      obtain ⟨d, hd⟩ : ∃ d : Nat, (Utf8.decode s i).2 = d := ⟨_, rfl⟩
      have hd1 : 1 ≤ d := by rw [← hd]; exact (decode_high s i hi ha').2
      have hfr := HN.out.rune hi ha' hd notW_high
      rw [hc] at hnx hh hm
      rw [hd] at hnx
      have HW1 := Lib.hid (iterAt_heap wr w.heap.size s i (i + d) hk)
      have HW2 := Lib.hid (below_iterAt HB.out (Nat.le_refl _) s (i + d))
      obtain ⟨wy, hwy⟩ : ∃ wy, wr.iterAt w.heap.size s (i + d) = wy := ⟨_, rfl⟩
      rw [hwy] at hnx HW1 HW2
      have hid := hfr.2
      have HF := Lib.hid hfr.1
      clear hwy hx hk ha' hc hd hfr
      go_wp2_with (go_at_call 130; refine (idxRune_hi _ (by omega) (by omega) _).mono ?_; rintro e w' ⟨rfl, hb'⟩)
      have hlt : w.heap.size < wy.heap.size := (Array.getElem?_eq_some_iff.1 HW1.out).1
      cases gk with
      | zero => omega
      | succ g =>
        go_roundg g
        case measure => omega
        case rel => exact ⟨i + d, by omega, by omega, (hb'.block _ hlt).trans HW1.out, HF.out, Below.step HW2.out hb'⟩
  · obtain rfl : i = s.size := by omega
    have hnx := fun ty => run_next_end_at (P := Tryz.prog) wr w.heap.size s s.size ty hk (by omega)
    clear hig his hk
    go_wp2
    go_ret
    exact ⟨-1, rfl, any_none HN.out, HB.out⟩

end Go.Proofs.YtdkegoaflabjoaaGreatDoor.S1
