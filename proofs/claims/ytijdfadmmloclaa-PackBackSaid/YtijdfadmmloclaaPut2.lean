/-
  What PutTexts of pack and the writing functions of the specification answer. Conditions: lists and texts are short enough.
-/
import Derived.Test.YtijdfadmmloclaaPut
namespace Go.Proofs.Ytijdfadmmloclaa
open Go.RowKit

def encT (s : ByteArray) : List UInt8 := enc s.size ++ dl s
def encTs (l : List ByteArray) : List UInt8 := (l.map encT).flatten
def encL (l : List ByteArray) : List UInt8 := enc l.length ++ encTs l
theorem encTs_succ {l : List ByteArray} {k : Nat} {x : ByteArray} (h : l[k]? = some x) : encTs (l.take (k + 1)) = encTs (l.take k) ++ encT x := by
  unfold encTs
  rw [List.take_add_one, h]
  simp
theorem encT_len (s : ByteArray) : (encT s).length ≤ 10 + s.size := by
  unfold encT
  rw [List.length_append, ← size_dl]
  have := (enc_len s.size).2
  omega
theorem encTs_len (l : List ByteArray) (M : Nat) (h : ∀ x ∈ l, x.size ≤ M) : (encTs l).length ≤ l.length * (10 + M) := by
  induction l with
  | nil => simp [encTs]
  | cons x r ih =>
    have e : encTs (x :: r) = encT x ++ encTs r := by simp [encTs]
    have h1 := encT_len x
    have h2 := h x (by simp)
    have h3 := ih (fun y hy => h y (by simp [hy]))
    rw [e, List.length_append, List.length_cons, Nat.succ_mul]
    omega

/-- a list of texts in memory -/
abbrev SL (w : World) (B : Nat) (A : Option Addr) (xs : List ByteArray) : Prop := CL Value.string w B A xs

set_option maxHeartbeats 2000000 in
theorem putTexts_any (A : Option Addr) (c : Nat) (xs : List UInt8) (A' : Option Addr) (c' : Nat) (l : List ByteArray) (w : World) (hsl : CL bv w w.heap.size A xs) (hsl' : SL w w.heap.size A' l) (hn : xs.length ≤ 1000000) (hl : l.length ≤ 10000) (hM : ∀ x ∈ l, x.size ≤ 1000000) :
    Calls Try.prog 24 #[.slice A xs.length c, .slice A' l.length c'] w (RetB (xs ++ encL l) w) := by
  have HS := Lib.hid (numSize_any l.length (by omega) (by omega))
  have HN := Lib.hid (fun v w B hown hB => addNum_any v xs l.length (by omega) (by omega) w B hown hB (by omega))
  have HLen : Hid (∀ k, k ≤ l.length → (encTs (l.take k)).length ≤ 10000 * 1000010) := Lib.hid (fun k hk => Nat.le_trans (encTs_len _ 1000000 (fun x hx => hM x (List.mem_of_mem_take hx))) (by
    rw [List.length_take]
    exact Nat.mul_le_mul (by omega) (Nat.le_refl _)))
  have HLS := Lib.hid hsl'
  have HM := Lib.hid hM
  have htl : (enc l.length).length ≤ 10 := (enc_len l.length).2
  have e0 : xs ++ encL l = xs ++ enc l.length ++ encTs l := by unfold encL; rw [List.append_assoc]
  rw [e0]
  generalize enc l.length = en at HN htl ⊢
  clear hsl' hM e0
  go_enter Try.func24, Try.ntmps24
  go_wp2_with fail
  refine (HS.out _).mono ?_
  rintro e w' ⟨⟨sz, hsz1, hsz, rfl⟩, rfl⟩
  clear HS
  go_wp2_with fail
  go_loop [5, 7, 16] (fun u s i => ∃ (k z : Nat), k ≤ l.length ∧ i = .int .i64 k ∧ u = .int .i64 z ∧ z ≤ 10 + k * 1000010) (fun _ _ i => l.length - (intOf i).toNat)
  case atStart => exact ⟨0, sz, by omega, rfl, rfl, by omega⟩
  case round =>
    obtain ⟨k, z, hk, rfl, rfl, hz⟩ := hrel
    by_cases hlt : k < l.length
    · obtain ⟨b, o, rfl, hbB, hcl⟩ := HLS.out (by omega)
      obtain ⟨x, hx⟩ : ∃ x, l[k]? = some x := ⟨_, List.getElem?_eq_getElem hlt⟩
      have k1 := hcl k x hx
      have hxs : x.size ≤ 1000000 := HM.out x (List.mem_of_getElem? hx)
      have HT := Lib.hid (textSize_any x (by omega))
      clear hcl hx
      go_wp2_with (go_at_call 55; refine (HT.out _).mono ?_; rintro e w' ⟨⟨q, hq, rfl⟩, rfl⟩)
      exact ⟨⟨k + 1, z + q, by omega, by go_num, by go_num, by omega⟩, by simp [intOf]; omega⟩
    · obtain rfl : k = l.length := by omega
      have HE := Lib.hid (extend_any A c xs z w hsl (by omega))
      clear hsl
      go_wp2_with fail
      refine HE.out.mono ?_
      rintro e w1 ⟨v1, rfl, hown1, hb1⟩
      clear HE
      go_wp2_with fail
      refine (HN.out v1 w1 w.heap.size hown1 hb1.size).mono ?_
      rintro e w2 ⟨v2, rfl, hown2, hb2, hB2⟩
      have hb2' := hb1.trans hb2
      clear HN hown1 hb1 hb2
      go_wp2_with fail
      go_loopw [8, 10, 33] (fun u s i wr => ∃ (j : Nat), j ≤ l.length ∧ i = .int .i64 j ∧ Own 5 bv wr w.heap.size u (xs ++ en ++ encTs (l.take j)) ∧ Below w.heap.size w wr ∧ w.heap.size ≤ wr.heap.size) (fun _ _ i _ => l.length - (intOf i).toNat)
      case atStart => exact ⟨0, by omega, rfl, by simpa [encTs] using hown2, hb2', hB2⟩
      case round =>
        obtain ⟨j, hj, rfl, hown, hb, hB⟩ := hrel
        have hlen := HLen.out j hj
        have HO := Lib.hid hown
        clear hown
        by_cases hlt : j < l.length
        · obtain ⟨b, o, rfl, hbB, hcl⟩ := (HLS.out.below hb) (by omega)
          obtain ⟨x, hx⟩ : ∃ x, l[j]? = some x := ⟨_, List.getElem?_eq_getElem hlt⟩
          have k1 := hcl j x hx
          have hxs : x.size ≤ 1000000 := HM.out x (List.mem_of_getElem? hx)
          have HX := Lib.hid (encTs_succ hx)
          clear hcl hx
          go_wp2_with fail
          refine (addText_any _ _ x _ w.heap.size HO.out hB (by simp only [List.length_append]; omega) (by omega)).mono ?_
          rintro e w3 ⟨v3, rfl, hown3, hb3, hB3⟩
          have hb3' := hb.trans hb3
          have HO3 := Lib.hid hown3
          clear hown3 hb3 HO
          go_wp2_with fail
          exact ⟨⟨j + 1, by omega, by go_num, by rw [HX.out, ← List.append_assoc]; exact HO3.out, hb3', hB3⟩, by simp [intOf]; omega⟩
        · obtain rfl : j = l.length := by omega
          go_wp2_with fail
          go_ret
          have := HO.out
          rw [List.take_length] at this
          exact ⟨_, rfl, this, hb⟩

theorem byte_spec (k : Nat) : Value.int .u8 ((k : Int) % 128 + 128) = bv (UInt8.ofNat (k % 128 + 128)) := by
  unfold bv
  rw [toNat_ofNat8 (by omega)]
  congr 1

/-! ### The specification's -/
/-- the bytes that came in, in the world with the empty slice -/
theorem copied {w : World} {B' : Nat} {A : Option Addr} {xs : List UInt8} (hsl : CL bv w B' A xs) (hB' : B' ≤ w.heap.size) (o : Obj) : CL bv (w.alloc o) B' A xs := hsl.below ((Below.refl B' w).alloc hB' _)

set_option maxHeartbeats 1000000 in
theorem rPutNum_any (A : Option Addr) (c : Nat) (xs : List UInt8) (n : Int) (h1 : -9223372036854775808 ≤ n) (h2 : n ≤ 9223372036854775807) (w : World) (hsl : CL bv w w.heap.size A xs) (hn : xs.length ≤ 100000000000) :
    Calls Try.prog 18 #[.slice A xs.length c, .int .i64 n] w (RetB (xs ++ enc n) w) := by
  have HE := Lib.hid (code_any n h1 h2)
  have HS := Lib.hid (PutRel.start h1 h2 xs)
  have hcl := cd_lt h1 h2
  have htl : (xs ++ enc n).length ≤ 100000000000010 := by have := (enc_len n).2; rw [List.length_append]; omega
  generalize cdN n = cd at HE HS hcl
  generalize xs ++ enc n = total at HS htl ⊢
  have HSL := Lib.hid (copied hsl (Nat.le_refl _) (.cells #[] 5))
  clear h1 h2 hsl
  go_enter Try.func18, Try.ntmps18
  go_wp2_with first | (at_builtin; go_must (refine wpList_appB _ rfl _ _ rfl w.heap.size _ [] xs A c rfl (Own.made w 0 #[] w.heap.size (Nat.le_refl _) (by decide) rfl) rfl w.heap.size HSL.out w ((Below.refl _ _).alloc (Nat.le_refl _) _) (by simp) (by simp; omega) ?_); intro v1 w1 hown1 hb1 hB1) | (go_at_call 51; refine (HE.out _).mono ?_; rintro e w' ⟨rfl, rfl⟩)
  rw [List.nil_append] at hown1
  clear HSL
  go_loopw [5, 6] (fun u i wr => ∃ (k : Nat) (ys : List UInt8), i = .int .u64 k ∧ k < 18446744073709551616 ∧ PutRel total ys k ∧ Own 5 bv wr w.heap.size u ys ∧ Below w.heap.size w wr ∧ w.heap.size ≤ wr.heap.size) (fun _ i _ => (intOf i).toNat)
  case atStart => exact ⟨cd, xs, rfl, hcl, HS.out, hown1, hb1, hB1⟩
  case round =>
    obtain ⟨k, ys, rfl, hkl, hrel, hown, hb, hsz⟩ := hrel
    have HR := Lib.hid hrel
    have hyl := hrel.len
    clear hrel hown1 hb1 hB1
    by_cases hk : 128 ≤ k
    · have hd : decide ((128 : Int) ≤ (k : Int)) = true := decide_eq_true (by omega)
      go_wp2_with (at_builtin; go_must (refine wpList_appB1 wr rfl _ _ rfl w.heap.size u5 ys _ _ (byte_spec k) rfl hown rfl w hb hsz (by omega) ?_); intro v' w1 hown' hb' hsz')
      exact ⟨⟨k / 128, _, by go_num, by omega, HR.out.next hk, hown', hb', hsz'⟩, by simp [intOf]; omega⟩
    · have hd : decide ((128 : Int) ≤ (k : Int)) = false := decide_eq_false (by omega)
      go_wp2_with (at_builtin; go_must (refine wpList_appB1 wr rfl _ _ rfl w.heap.size u5 ys _ _ (byte_last k (by omega)) rfl hown rfl w hb hsz (by omega) ?_); intro v' w1 hown' hb' hsz')
      go_ret
      have hd := HR.out.done (by omega)
      rw [hd] at hown'
      exact ⟨_, rfl, hown', hb'⟩

set_option maxHeartbeats 1000000 in
theorem rPutText_any (A : Option Addr) (c : Nat) (xs : List UInt8) (s : ByteArray) (w : World) (hsl : CL bv w w.heap.size A xs) (hn : xs.length ≤ 100000000000) (hs : s.size ≤ 100000000000) :
    Calls Try.prog 23 #[.slice A xs.length c, .string s] w (RetB (xs ++ encT s) w) := by
  have HN := Lib.hid (rPutNum_any A c xs s.size (by omega) (by omega) w hsl hn)
  have htl : (enc s.size).length ≤ 10 := (enc_len s.size).2
  unfold encT
  generalize enc s.size = en at HN htl ⊢
  clear hsl
  go_enter Try.func23, Try.ntmps23
  go_wp2_with fail
  refine HN.out.mono ?_
  rintro e w' ⟨v1, rfl, hown1, hb1⟩
  have hB1 := hb1.size
  clear HN
  go_wp2_with (at_builtin; go_must (refine wpList_appBs w' rfl _ _ rfl w.heap.size v1 (xs ++ en) s rfl hown1 rfl w hb1 hB1 (by simp; omega) ?_); intro v2 w2 hown2 hb2 hB2)
  go_ret
  rw [List.append_assoc] at hown2
  exact ⟨_, rfl, hown2, hb2⟩

set_option maxHeartbeats 1000000 in
theorem rPutTexts_any (A : Option Addr) (c : Nat) (xs : List UInt8) (A' : Option Addr) (c' : Nat) (l : List ByteArray) (w : World) (hsl : CL bv w w.heap.size A xs) (hsl' : SL w w.heap.size A' l) (hn : xs.length ≤ 1000000) (hl : l.length ≤ 10000) (hM : ∀ x ∈ l, x.size ≤ 1000000) :
    Calls Try.prog 25 #[.slice A xs.length c, .slice A' l.length c'] w (RetB (xs ++ encL l) w) := by
  have HN := Lib.hid (rPutNum_any A c xs l.length (by omega) (by omega) w hsl (by omega))
  have HLen : Hid (∀ k, k ≤ l.length → (encTs (l.take k)).length ≤ 10000 * 1000010) := Lib.hid (fun k hk => Nat.le_trans (encTs_len _ 1000000 (fun x hx => hM x (List.mem_of_mem_take hx))) (by
    rw [List.length_take]
    exact Nat.mul_le_mul (by omega) (Nat.le_refl _)))
  have HLS := Lib.hid hsl'
  have HM := Lib.hid hM
  have htl : (enc l.length).length ≤ 10 := (enc_len l.length).2
  have e0 : xs ++ encL l = xs ++ enc l.length ++ encTs l := by unfold encL; rw [List.append_assoc]
  rw [e0]
  generalize enc l.length = en at HN htl ⊢
  clear hsl' hM e0 hsl
  go_enter Try.func25, Try.ntmps25
  go_wp2_with fail
  refine HN.out.mono ?_
  rintro e w2 ⟨v2, rfl, hown2, hb2⟩
  clear HN
  go_wp2_with fail
  go_loopw [5, 6] (fun u i wr => ∃ (j : Nat), j ≤ l.length ∧ i = .int .i64 j ∧ Own 5 bv wr w.heap.size u (xs ++ en ++ encTs (l.take j)) ∧ Below w.heap.size w wr) (fun _ i _ => l.length - (intOf i).toNat)
  case atStart => exact ⟨0, by omega, rfl, by simpa [encTs] using hown2, hb2⟩
  case round =>
    obtain ⟨j, hj, rfl, hown, hb⟩ := hrel
    have hlen := HLen.out j hj
    have HO := Lib.hid hown
    clear hown
    by_cases hlt : j < l.length
    · obtain ⟨b, o, rfl, hbB, hcl⟩ := (HLS.out.below hb) (by omega)
      obtain ⟨x, hx⟩ : ∃ x, l[j]? = some x := ⟨_, List.getElem?_eq_getElem hlt⟩
      have k1 := hcl j x hx
      have hxs : x.size ≤ 1000000 := HM.out x (List.mem_of_getElem? hx)
      have HX : Hid (xs ++ en ++ encTs (l.take (j + 1)) = (xs ++ en ++ encTs (l.take j)) ++ encT x) := Lib.hid (by rw [encTs_succ hx, ← List.append_assoc])
      obtain ⟨A1, c1, rfl, hc1, hsl1⟩ := HO.out.ret
      have hlen2 : (xs ++ en ++ encTs (l.take j)).length ≤ 10010000000 := by simp only [List.length_append]; omega
      have HT := Lib.hid (fun hs => rPutText_any A1 c1 _ x wr hsl1 (by omega) hs)
      clear hcl hx HO hsl1 hc1
      generalize xs ++ en ++ encTs (l.take j) = ys at HX HT hlen2 ⊢
      go_wp2_with fail
      refine (HT.out (by omega)).mono ?_
      rintro e w3 ⟨v3, rfl, hown3, hb3⟩
      have hb3' : Below w.heap.size w w3 := stepB hb hb3
      have HO3 := Lib.hid (hown3.weak hb.size)
      clear hown3 hb3 HT
      go_wp2_with fail
      exact ⟨⟨j + 1, by omega, by go_num, by rw [HX.out]; exact HO3.out, hb3'⟩, by simp [intOf]; omega⟩
    · obtain rfl : j = l.length := by omega
      go_wp2_with fail
      go_ret
      have := HO.out
      rw [List.take_length] at this
      exact ⟨_, rfl, this, hb⟩

end Go.Proofs.Ytijdfadmmloclaa
