/-
  The library's ContainsAny at the two wildcards: true exactly if the text holds one of them. Condition: the text is shorter than 4294967281 bytes.
-/
import Derived.Test.YtjhojpghllnoiaaDoorAnyA
import Derived.Test.YtjhojpghllnoiaaDoorAnyB
namespace Go.Proofs.YtjhojpghllnoiaaDoor.S1
open Go.RowKit
open Go.Lib (run_next_any_at run_next_ascii_at run_next_end_at iterAt_heap below_iterAt)

set_option maxHeartbeats 2000000 in
set_option maxRecDepth 1000000 in
/-- A rune that is not ASCII does not stand in the text of the two wildcards. -/
theorem idxRune_hi (r : Nat) (h128 : 128 ≤ r) (hmax : r ≤ 2147483647) (w : World) :
    Calls Tryd.prog 81 #[.string ⟨#[43, 35]⟩, .int .i32 r] w fun e w' => e = .returned (.int .i64 (-1)) ∧ Below w.heap.size w w' := by
  have d1 : decide ((r : Int) < 128) = false := decide_eq_false (by omega)
  have d0 : decide ((0 : Int) ≤ (r : Int)) = true := decide_eq_true (by omega)
  by_cases he : r = 65533
  · have q : ((r : Int) == 65533) = true := by rw [he]; rfl
    clear he
    have hn0 := fun ty => run_next_ascii (P := Tryd.prog) w ⟨#[43, 35]⟩ 0 ty (by decide) (by decide)
    have hn1 := fun ty => run_next_ascii (P := Tryd.prog) w ⟨#[43, 35]⟩ 1 ty (by decide) (by decide)
    have hn2 := fun ty => run_next_end (P := Tryd.prog) w ⟨#[43, 35]⟩ 2 ty (by decide)
    go_enter Tryd.func81, Tryd.ntmps81
    go_wp2
    go_loopg [5, 6] 2 (fun g _ _ wr => ∃ i : Nat, i + g = 2 ∧ wr = w.iter ⟨#[43, 35]⟩ i)
    case atStart => exact ⟨0, rfl, rfl⟩
    case round =>
      obtain ⟨i, hig, rfl⟩ := hrel
      cases gk with
      | zero =>
        obtain rfl : i = 2 := by omega
        clear hig
        go_wp2
        go_ret
        exact ⟨rfl, (Below.refl _ _).alloc (Nat.le_refl _) _⟩
      | succ g =>
        rcases (show i = 0 ∨ i = 1 by omega) with rfl | rfl
        · have hg1 := Lib.hid (show 1 + g = 2 by omega)
          clear hig
          go_wp2
          go_roundg g
          case measure => omega
          case rel => exact ⟨1, hg1.out, rfl⟩
        · have hg1 := Lib.hid (show 2 + g = 2 by omega)
          clear hig
          go_wp2
          go_roundg g
          case measure => omega
          case rel => exact ⟨2, hg1.out, rfl⟩
  · have q : ((r : Int) == 65533) = false := beq_eq_false_iff_ne.2 (by omega)
    cases hv : Lib.validRune (r : Int)
    · go_enter Tryd.func81, Tryd.ntmps81
      go_wp2_with (go_at_call 88; refine (Tryd.utf8_ValidRune _ _).mono ?_; rintro e w' ⟨rfl, rfl⟩)
      go_ret
      exact ⟨rfl, Below.refl _ _⟩
    · by_cases h2 : (Utf8.encode r).size = 2
      · obtain ⟨a, b, hab, hb⟩ := encode_two r h128 h2
        exact idxRune_two r h128 hmax he hv a b hab hb w
      · exact idxRune_more r h128 hmax he hv _ rfl (by have := encode_size r h128; omega) (by have := encode_le r; omega) w

/-- ContainsAny's answer -/
def anyW (l : List UInt8) : Bool := !T.wildFree l
def notW (c : UInt8) : Bool := decide (c ≠ 43) && decide (c ≠ 35)
theorem notW_high (c : UInt8) (h : 128 ≤ c.toNat) : notW c = true := by
  unfold notW
  simp only [Bool.and_eq_true, decide_eq_true_eq]
  exact ⟨fun e => by rw [e] at h; exact absurd h (by decide), fun e => by rw [e] at h; exact absurd h (by decide)⟩
theorem wildFree_all (l : List UInt8) : T.wildFree l = l.all notW := rfl

theorem idxRune_no (x : UInt8) (h : x.toNat < 128) (hn : notW x = true) (w : World) :
    Calls Tryd.prog 81 #[.string ⟨#[43, 35]⟩, .int .i32 x.toNat] w fun e w' => e = .returned (.int .i64 (-1)) ∧ w = w' := by
  refine (Tryd.strings_IndexRune_ascii ⟨#[43, 35]⟩ x.toNat w (by omega) (by omega)).mono fun e w' ⟨he, hw⟩ => ⟨?_, hw.symm⟩
  rw [he]
  have hx : ((x.toNat : Int)).toNat.toUInt8 = x := by simp
  rw [hx]
  unfold notW at hn
  simp only [Bool.and_eq_true, decide_eq_true_eq] at hn
  have : Lib.indexByte (⟨#[43, 35]⟩ : ByteArray).data.toList x = -1 := by
    show Lib.indexByte [43, 35] x = -1
    have h1 : ((43 : UInt8) == x) = false := beq_eq_false_iff_ne.2 (Ne.symm hn.1)
    have h2 : ((35 : UInt8) == x) = false := beq_eq_false_iff_ne.2 (Ne.symm hn.2)
    simp [Lib.indexByte, h1, h2]
  rw [this]
theorem idxRune_yes (x : UInt8) (h : x.toNat < 128) (hn : notW x = false) (w : World) :
    Calls Tryd.prog 81 #[.string ⟨#[43, 35]⟩, .int .i32 x.toNat] w fun e w' => ∃ n : Nat, e = .returned (.int .i64 n) ∧ w = w' := by
  refine (Tryd.strings_IndexRune_ascii ⟨#[43, 35]⟩ x.toNat w (by omega) (by omega)).mono fun e w' ⟨he, hw⟩ => ?_
  have hx : ((x.toNat : Int)).toNat.toUInt8 = x := by simp
  rw [hx] at he
  unfold notW at hn
  have hc : x = 43 ∨ x = 35 := by
    by_cases h1 : x = 43
    · exact .inl h1
    · by_cases h2 : x = 35
      · exact .inr h2
      · simp [h1, h2] at hn
  rcases hc with rfl | rfl
  · exact ⟨0, he, hw.symm⟩
  · exact ⟨1, he, hw.symm⟩

def AnyPost (s : ByteArray) (W : World) (e : Ending) (w' : World) : Prop := ∃ n : Int, e = .returned (.int .i64 n) ∧ decide (0 ≤ n) = anyW (dl s) ∧ Below W.heap.size W w'
theorem any_none {s : ByteArray} (h : Free (dl s) notW s.size) : decide ((0 : Int) ≤ -1) = anyW (dl s) := by
  unfold anyW
  rw [wildFree_all, Free.all (by rw [← size_dl]; exact h)]; rfl
theorem any_some {s : ByteArray} {i : Nat} {n : Nat} (hi : i < s.size) (h : notW ((dl s).getD i 0) = false) : decide (0 ≤ (n : Int)) = anyW (dl s) := by
  unfold anyW
  rw [wildFree_all, free_bad (by rw [← size_dl]; exact hi) h, decide_eq_true (by omega)]; rfl

set_option maxHeartbeats 4000000 in
set_option maxRecDepth 1000000 in
theorem idxAny_short (s : ByteArray) (w : World) (h8 : s.size ≤ 8) :
    Calls Tryd.prog 76 #[.string s, .string ⟨#[43, 35]⟩] w (AnyPost s w) := by
  have h8z : decide ((8 : Int) < (s.size : Int)) = false := decide_eq_false (by omega)
  go_enter Tryd.func76, Tryd.ntmps76
  go_wp2_with (go_at_call 82; refine (Tryd.strings_shouldUseASCIISet _ _).mono ?_; rintro e w' ⟨rfl, hw⟩; rw [hw, h8z])
  go_loopg [9, 10] s.size (fun g _ _ wr => ∃ i : Nat, s.size ≤ i + g ∧ i ≤ s.size ∧ wr.heap[w.heap.size]? = some (.stringIter s i) ∧ Free (dl s) notW i ∧ Below w.heap.size w wr)
  case atStart => exact ⟨0, by omega, by omega, World.iter_heap _ _ _, Free.zero _ _, (Below.refl _ _).alloc (Nat.le_refl _) _⟩
  case round =>
    obtain ⟨i, hig, his, hk, hno, hb⟩ := hrel
    have HN := Lib.hid hno
    have HB := Lib.hid hb
    have HK := Lib.hid hk
    clear hno hb
    by_cases hi : i < s.size
    · obtain ⟨x, hx⟩ : ∃ x : UInt8, s[i]'hi = x := ⟨_, rfl⟩
      have HX := Lib.hid (show (dl s).getD i 0 = x by rw [getD_dl s i hi, hx])
      by_cases ha : x.toNat < 128
      · have hnx := fun ty => run_next_ascii_at (P := Tryd.prog) wr w.heap.size s i ty hk hi (by rw [hx]; exact ha)
        rw [hx] at hnx
        have HW1 := Lib.hid (iterAt_heap wr w.heap.size s i (i + 1) hk)
        have HW2 := Lib.hid (below_iterAt HB.out (Nat.le_refl _) s (i + 1))
        obtain ⟨wy, hwy⟩ : ∃ wy, wr.iterAt w.heap.size s (i + 1) = wy := ⟨_, rfl⟩
        rw [hwy] at hnx HW1 HW2
        clear hwy hx hk
        cases hn : notW x
        · go_wp2_with (go_at_call 81; refine (idxRune_yes _ (by omega) hn _).mono ?_; rintro e w' ⟨n, rfl, rfl⟩)
          go_ret
          exact ⟨i, rfl, any_some hi (by rw [HX.out]; exact hn), HW2.out⟩
        · go_wp2_with (go_at_call 81; refine (idxRune_no _ (by omega) hn _).mono ?_; rintro e w' ⟨rfl, rfl⟩)
          cases gk with
          | zero => omega
          | succ g =>
            go_roundg g
            case measure => omega
            case rel => exact ⟨i + 1, by omega, by omega, HW1.out, HN.out.succ (by rw [HX.out]; exact hn), HW2.out⟩
      · have ha' : 128 ≤ (s[i]'hi).toNat := by rw [hx]; omega
        have hh := (decode_high s i hi ha').1
        have hm := decode_le s i
        have hnx := fun ty => run_next_any_at (P := Tryd.prog) wr w.heap.size s i ty hk hi
        obtain ⟨c, hc⟩ : ∃ c : Nat, (Utf8.decode s i).1 = c := ⟨_, rfl⟩
        obtain ⟨d, hd⟩ : ∃ d : Nat, (Utf8.decode s i).2 = d := ⟨_, rfl⟩
        have hd1 : 1 ≤ d := by rw [← hd]; exact (decode_high s i hi ha').2
        have hfr := HN.out.rune hi ha' hd notW_high
        rw [hc] at hnx hh hm
        rw [hd] at hnx
        have HW1 := Lib.hid (iterAt_heap wr w.heap.size s i (i + d) hk)
        have HW2 := Lib.hid (below_iterAt HB.out (Nat.le_refl _) s (i + d))
        obtain ⟨wy, hwy⟩ : ∃ wy, wr.iterAt w.heap.size s (i + d) = wy := ⟨_, rfl⟩
        rw [hwy] at hnx HW1 HW2
        have hid := hfr.2
        have HF := Lib.hid hfr.1
        clear hwy hx hk ha' hc hd hfr
        go_wp2_with (go_at_call 81; refine (idxRune_hi _ (by omega) (by omega) _).mono ?_; rintro e w' ⟨rfl, hb'⟩)
        have hlt : w.heap.size < wy.heap.size := (Array.getElem?_eq_some_iff.1 HW1.out).1
        cases gk with
        | zero => omega
        | succ g =>
          go_roundg g
          case measure => omega
          case rel => exact ⟨i + d, by omega, by omega, (hb'.block _ hlt).trans HW1.out, HF.out, Below.step HW2.out hb'⟩
    · obtain rfl : i = s.size := by omega
      have hnx := fun ty => run_next_end_at (P := Tryd.prog) wr w.heap.size s s.size ty hk (by omega)
      clear hig his hk
      go_wp2
      go_ret
      exact ⟨-1, rfl, any_none HN.out, HB.out⟩

end Go.Proofs.YtjhojpghllnoiaaDoor.S1
