/-
  What PutTexts of pack and the writing functions of the specification answer. Conditions: lists and texts are short enough.
-/
import Derived.Test.YtbmeimpfehjnfaaPut
namespace Go.Proofs.Ytbmeimpfehjnfaa
open Go.RowKit

def encT (s : ByteArray) : List UInt8 := enc s.size ++ dl s
def encTs (l : List ByteArray) : List UInt8 := (l.map encT).flatten
def encL (l : List ByteArray) : List UInt8 := enc l.length ++ encTs l
theorem encTs_succ {l : List ByteArray} {k : Nat} {x : ByteArray} (h : l[k]? = some x) : encTs (l.take (k + 1)) = encTs (l.take k) ++ encT x := by
  unfold encTs
  rw [List.take_add_one, h]
  simp
theorem encT_len (s : ByteArray) : (encT s).length ≤ 10 + s.size := by
  unfold encT
  rw [List.length_append, ← size_dl]
  have := (enc_len s.size).2
  omega
theorem encTs_len (l : List ByteArray) (M : Nat) (h : ∀ x ∈ l, x.size ≤ M) : (encTs l).length ≤ l.length * (10 + M) := by
  induction l with
  | nil => simp [encTs]
  | cons x r ih =>
    have e : encTs (x :: r) = encT x ++ encTs r := by simp [encTs]
    have h1 := encT_len x
    have h2 := h x (by simp)
    have h3 := ih (fun y hy => h y (by simp [hy]))
    rw [e, List.length_append, List.length_cons, Nat.succ_mul]
    omega

/-- a list of texts in memory -/
abbrev SL (w : World) (B : Nat) (A : Option Addr) (xs : List ByteArray) : Prop := CL Value.string w B A xs

theorem byte_spec (k : Nat) : Value.int .u8 ((k : Int) % 128 + 128) = bv (UInt8.ofNat (k % 128 + 128)) := by
  unfold bv
  rw [toNat_ofNat8 (by omega)]
  congr 1

/-! ### The specification's -/
/-- the bytes that came in, in the world with the empty slice -/
theorem copied {w : World} {B' : Nat} {A : Option Addr} {xs : List UInt8} (hsl : CL bv w B' A xs) (hB' : B' ≤ w.heap.size) (o : Obj) : CL bv (w.alloc o) B' A xs := hsl.below ((Below.refl B' w).alloc hB' _)

set_option maxHeartbeats 1000000 in
theorem rPutNum_any (A : Option Addr) (c : Nat) (xs : List UInt8) (n : Int) (h1 : -9223372036854775808 ≤ n) (h2 : n ≤ 9223372036854775807) (w : World) (hsl : CL bv w w.heap.size A xs) (hn : xs.length ≤ 100000000000) :
    Calls Try.prog 43 #[.slice A xs.length c, .int .i64 n] w (RetB (xs ++ enc n) w) := by
  have HE := Lib.hid (code_any n h1 h2)
  have HS := Lib.hid (PutRel.start h1 h2 xs)
  have hcl := cd_lt h1 h2
  have htl : (xs ++ enc n).length ≤ 100000000000010 := by have := (enc_len n).2; rw [List.length_append]; omega
  generalize cdN n = cd at HE HS hcl
  generalize xs ++ enc n = total at HS htl ⊢
  have HSL := Lib.hid (copied hsl (Nat.le_refl _) (.cells #[] 5))
  clear h1 h2 hsl
  go_enter Try.func43, Try.ntmps43
  go_wp2_with first | (at_builtin; go_must (refine wpList_appB _ rfl _ _ rfl w.heap.size _ [] xs A c rfl (Own.made w 0 #[] w.heap.size (Nat.le_refl _) (by decide) rfl) rfl w.heap.size HSL.out w ((Below.refl _ _).alloc (Nat.le_refl _) _) (by simp) (by simp; omega) ?_); intro v1 w1 hown1 hb1 hB1) | (go_at_call 56; refine (HE.out _).mono ?_; rintro e w' ⟨rfl, rfl⟩)
  rw [List.nil_append] at hown1
  clear HSL
  go_loopw [5, 6] (fun u i wr => ∃ (k : Nat) (ys : List UInt8), i = .int .u64 k ∧ k < 18446744073709551616 ∧ PutRel total ys k ∧ Own 5 bv wr w.heap.size u ys ∧ Below w.heap.size w wr ∧ w.heap.size ≤ wr.heap.size) (fun _ i _ => (intOf i).toNat)
  case atStart => exact ⟨cd, xs, rfl, hcl, HS.out, hown1, hb1, hB1⟩
  case round =>
    obtain ⟨k, ys, rfl, hkl, hrel, hown, hb, hsz⟩ := hrel
    have HR := Lib.hid hrel
    have hyl := hrel.len
    clear hrel hown1 hb1 hB1
    by_cases hk : 128 ≤ k
    · have hd : decide ((128 : Int) ≤ (k : Int)) = true := decide_eq_true (by omega)
      go_wp2_with (at_builtin; go_must (refine wpList_appB1 wr rfl _ _ rfl w.heap.size u5 ys _ _ (byte_spec k) rfl hown rfl w hb hsz (by omega) ?_); intro v' w1 hown' hb' hsz')
      exact ⟨⟨k / 128, _, by go_num, by omega, HR.out.next hk, hown', hb', hsz'⟩, by simp [intOf]; omega⟩
    · have hd : decide ((128 : Int) ≤ (k : Int)) = false := decide_eq_false (by omega)
      go_wp2_with (at_builtin; go_must (refine wpList_appB1 wr rfl _ _ rfl w.heap.size u5 ys _ _ (byte_last k (by omega)) rfl hown rfl w hb hsz (by omega) ?_); intro v' w1 hown' hb' hsz')
      go_ret
      have hd := HR.out.done (by omega)
      rw [hd] at hown'
      exact ⟨_, rfl, hown', hb'⟩

set_option maxHeartbeats 1000000 in
theorem rPutText_any (A : Option Addr) (c : Nat) (xs : List UInt8) (s : ByteArray) (w : World) (hsl : CL bv w w.heap.size A xs) (hn : xs.length ≤ 100000000000) (hs : s.size ≤ 100000000000) :
    Calls Try.prog 44 #[.slice A xs.length c, .string s] w (RetB (xs ++ encT s) w) := by
  have HN := Lib.hid (rPutNum_any A c xs s.size (by omega) (by omega) w hsl hn)
  have htl : (enc s.size).length ≤ 10 := (enc_len s.size).2
  unfold encT
  generalize enc s.size = en at HN htl ⊢
  clear hsl
  go_enter Try.func44, Try.ntmps44
  go_wp2_with fail
  refine HN.out.mono ?_
  rintro e w' ⟨v1, rfl, hown1, hb1⟩
  have hB1 := hb1.size
  clear HN
  go_wp2_with (at_builtin; go_must (refine wpList_appBs w' rfl _ _ rfl w.heap.size v1 (xs ++ en) s rfl hown1 rfl w hb1 hB1 (by simp; omega) ?_); intro v2 w2 hown2 hb2 hB2)
  go_ret
  rw [List.append_assoc] at hown2
  exact ⟨_, rfl, hown2, hb2⟩

end Go.Proofs.Ytbmeimpfehjnfaa
