/-
  What the writing functions of pack answer: the bytes that came in, then the encoding. Conditions: the numbers fit their kinds; so many bytes fit a slice.
-/
import Derived.Test.YtbmeimpfehjnfaaNum
import Derived.Laws.Bits64b
namespace Go.Proofs.Ytbmeimpfehjnfaa
open Go.RowKit

/-- a slice of these bytes, of the call's own, is handed back; what was there is as it was -/
def RetB (xs : List UInt8) (W : World) (e : Ending) (w' : World) : Prop := ∃ v, e = .returned v ∧ Own 5 bv w' W.heap.size v xs ∧ Below W.heap.size W w'

/-- a loop that writes a code: what is written and what is left make the whole -/
def PutRel (total : List UInt8) (ys : List UInt8) (c : Nat) : Prop := ∃ f, f ≤ 9 ∧ c < 128 ^ (f + 1) ∧ ys ++ encF f c = total
theorem PutRel.start {n : Int} (h1 : -9223372036854775808 ≤ n) (h2 : n ≤ 9223372036854775807) (xs : List UInt8) : PutRel (xs ++ enc n) xs (cdN n) :=
  ⟨9, by omega, Nat.lt_of_lt_of_le (cd_lt h1 h2) (by decide), rfl⟩
theorem PutRel.next {total ys : List UInt8} {c : Nat} (h : PutRel total ys c) (hc : 128 ≤ c) : PutRel total (ys ++ [UInt8.ofNat (c % 128 + 128)]) (c / 128) := by
  obtain ⟨f, hf, hl, ht⟩ := h
  cases f with
  | zero => simp at hl; omega
  | succ f =>
    refine ⟨f, by omega, div_lt128 hl, ?_⟩
    rw [encF_big _ _ (by omega)] at ht
    rw [← ht]
    simp
theorem PutRel.done {total ys : List UInt8} {c : Nat} (h : PutRel total ys c) (hc : c < 128) : ys ++ [UInt8.ofNat c] = total := by
  obtain ⟨f, hf, hl, ht⟩ := h
  rw [encF_small _ _ hc] at ht
  exact ht
theorem PutRel.len {total ys : List UInt8} {c : Nat} (h : PutRel total ys c) : ys.length + 1 ≤ total.length := by
  obtain ⟨f, hf, hl, ht⟩ := h
  rw [← ht, List.length_append]
  have := (encF_len f c).1
  omega

section
variable {ops : Array Oper} {rest : List Oper} {o : Oper} {a : Act} {Q : Exit → Act → World → Prop}
theorem wpList_appB1 (wr : World) (hgd : o.guard = none) (s x : Operand) (ho : o.op = .call { callee := .builtin .append, args := #[s, x], argTypes := #[22, 22] })
    (B : Nat) (v : Value) (xs : List UInt8) (y : UInt8) (u : Value) (hu : u = bv y) (hs : a.eval s = v) (hown : Own 5 bv wr B v xs) (hx : a.eval x = .slice (some ⟨wr.heap.size, 0, none⟩) 1 1) (w0 : World) (hb : Below B w0 wr) (hB : B ≤ wr.heap.size)
    (hn : xs.length ≤ 100000000000100) (h : ∀ v' w', Own 5 bv w' B v' (xs ++ [y]) → Below B w0 w' → B ≤ w'.heap.size → wpList Try.prog ops Q rest (a.put o.dst v') w') : wpList Try.prog ops Q (o :: rest) a (wr.alloc (.cells #[u] 5)) :=
  wpList_app _ hgd s x 22 22 ho (.int .u8 0) 1 Try.underlying22 infoU8 rfl (by decide) B v xs [y] hs (hown.alloc _) _ hx 1 (src_one Try.underlying22 wr y u hu rfl) w0 (hb.alloc hB _) (by simp; omega) (by simp; omega) h
theorem wpList_appB (wr : World) (hgd : o.guard = none) (s x : Operand) (ho : o.op = .call { callee := .builtin .append, args := #[s, x], argTypes := #[22, 22] })
    (B : Nat) (v : Value) (xs ys : List UInt8) (A : Option Addr) (c : Nat) (hs : a.eval s = v) (hown : Own 5 bv wr B v xs) (hx : a.eval x = .slice A ys.length c) (B' : Nat) (hsl : CL bv wr B' A ys) (w0 : World) (hb : Below B w0 wr) (hB : B ≤ wr.heap.size)
    (hn : xs.length + ys.length ≤ 140737488355328) (h : ∀ v' w', Own 5 bv w' B v' (xs ++ ys) → Below B w0 w' → B ≤ w'.heap.size → wpList Try.prog ops Q rest (a.put o.dst v') w') : wpList Try.prog ops Q (o :: rest) a wr :=
  wpList_app wr hgd s x 22 22 ho (.int .u8 0) 1 Try.underlying22 infoU8 rfl (by decide) B v xs ys hs hown _ hx ys.length (hsl.src Try.underlying22 bv_one c) w0 hb hB (by omega) h
theorem wpList_appBs (wr : World) (hgd : o.guard = none) (s x : Operand) (ho : o.op = .call { callee := .builtin .append, args := #[s, x], argTypes := #[22, 9] })
    (B : Nat) (v : Value) (xs : List UInt8) (y : ByteArray) (hs : a.eval s = v) (hown : Own 5 bv wr B v xs) (hx : a.eval x = .string y) (w0 : World) (hb : Below B w0 wr) (hB : B ≤ wr.heap.size)
    (hn : xs.length + y.size ≤ 140737488355328) (h : ∀ v' w', Own 5 bv w' B v' (xs ++ dl y) → Below B w0 w' → B ≤ w'.heap.size → wpList Try.prog ops Q rest (a.put o.dst v') w') : wpList Try.prog ops Q (o :: rest) a wr :=
  wpList_app wr hgd s x 22 9 ho (.int .u8 0) 1 Try.underlying22 infoU8 rfl (by decide) B v xs (dl y) hs hown _ hx y.size (src_str Try.underlying9 wr y) w0 hb hB (by rw [← size_dl]; omega) h
end
theorem byte_more (k : Nat) (hk : k < 18446744073709551616) : Value.int .u8 (bits .or .u64 (bits .and .u64 (k : Int) 127) 128 % 256) = bv (UInt8.ofNat (k % 128 + 128)) := by
  have e1 : bits .and .u64 (k : Int) 127 = ((k % 128 : Nat) : Int) := by
    have := u64_and_nat k 127 hk (by decide)
    rw [show (127 : Nat) = 2 ^ 7 - 1 by decide, Nat.and_two_pow_sub_one_eq_mod] at this
    exact this
  have e2 : bits .or .u64 ((k % 128 : Nat) : Int) 128 = ((k % 128 + 128 : Nat) : Int) := by
    have := u64_or_nat (k % 128) 128 (by omega) (by decide)
    have h2 := Nat.two_pow_add_eq_or_of_lt (i := 7) (b := k % 128) (by omega) 1
    rw [Nat.or_comm] at h2
    have h3 : (k % 128 ||| 128) = 128 + k % 128 := h2.symm
    rw [h3, Nat.add_comm] at this
    exact this
  unfold bv
  rw [e1, e2, toNat_ofNat8 (by omega)]
  congr 1
  omega
theorem byte_last (k : Nat) (hk : k < 128) : Value.int .u8 (k : Int) = bv (UInt8.ofNat k) := by
  unfold bv
  rw [toNat_ofNat8 (by omega)]

set_option maxHeartbeats 1000000 in
theorem addNum_any (v : Value) (xs : List UInt8) (n : Int) (h1 : -9223372036854775808 ≤ n) (h2 : n ≤ 9223372036854775807) (w : World) (B : Nat) (hown : Own 5 bv w B v xs) (hB : B ≤ w.heap.size) (hn : xs.length ≤ 100000000000000) :
    Calls Try.prog 62 #[v, .int .i64 n] w fun e w' => ∃ v', e = .returned v' ∧ Own 5 bv w' B v' (xs ++ enc n) ∧ Below B w w' ∧ B ≤ w'.heap.size := by
  have HE := Lib.hid (encoded_any n h1 h2)
  have HS := Lib.hid (PutRel.start h1 h2 xs)
  have hcl := cd_lt h1 h2
  have htl : (xs ++ enc n).length ≤ 100000000000010 := by have := (enc_len n).2; rw [List.length_append]; omega
  generalize cdN n = c at HE HS hcl
  generalize xs ++ enc n = total at HS htl ⊢
  clear h1 h2
  go_enter Try.func62, Try.ntmps62
  go_wp2_with (go_at_call 69; refine (HE.out _).mono ?_; rintro e w' ⟨rfl, rfl⟩)
  go_loopw [0, 5] (fun u i wr => ∃ (k : Nat) (ys : List UInt8), i = .int .u64 k ∧ k < 18446744073709551616 ∧ PutRel total ys k ∧ Own 5 bv wr B u ys ∧ Below B w wr ∧ B ≤ wr.heap.size) (fun _ i _ => (intOf i).toNat)
  case atStart => exact ⟨c, xs, rfl, hcl, HS.out, hown, Below.refl _ _, hB⟩
  case round =>
    obtain ⟨k, ys, rfl, hkl, hrel, hown, hb, hsz⟩ := hrel
    have HR := Lib.hid hrel
    have hyl := hrel.len
    clear hrel
    by_cases hk : 128 ≤ k
    · have hd : decide ((128 : Int) ≤ (k : Int)) = true := decide_eq_true (by omega)
      go_wp2_with (at_builtin; go_must (refine wpList_appB1 wr rfl _ _ rfl B u0 ys _ _ (byte_more k hkl) rfl hown rfl w hb hsz (by omega) ?_); intro v' w1 hown' hb' hsz')
      exact ⟨⟨k / 128, _, by go_num, by omega, HR.out.next hk, hown', hb', hsz'⟩, by simp [intOf]; omega⟩
    · have hd : decide ((128 : Int) ≤ (k : Int)) = false := decide_eq_false (by omega)
      go_wp2_with (at_builtin; go_must (refine wpList_appB1 wr rfl _ _ rfl B u0 ys _ _ (byte_last k (by omega)) rfl hown rfl w hb hsz (by omega) ?_); intro v' w1 hown' hb' hsz')
      go_ret
      have hd := HR.out.done (by omega)
      rw [hd] at hown'
      exact ⟨_, rfl, hown', hb', hsz'⟩

set_option maxHeartbeats 1000000 in
theorem addText_any (v : Value) (xs : List UInt8) (s : ByteArray) (w : World) (B : Nat) (hown : Own 5 bv w B v xs) (hB : B ≤ w.heap.size) (hn : xs.length ≤ 100000000000) (hs : s.size ≤ 100000000000) :
    Calls Try.prog 65 #[v, .string s] w fun e w' => ∃ v', e = .returned v' ∧ Own 5 bv w' B v' (xs ++ (enc s.size ++ dl s)) ∧ Below B w w' ∧ B ≤ w'.heap.size := by
  have HN := Lib.hid (addNum_any v xs s.size (by omega) (by omega) w B hown hB (by omega))
  have htl : (enc s.size).length ≤ 10 := (enc_len s.size).2
  generalize enc s.size = en at HN htl ⊢
  go_enter Try.func65, Try.ntmps65
  go_wp2_with fail
  refine HN.out.mono ?_
  rintro e w' ⟨v1, rfl, hown1, hb1, hB1⟩
  clear HN
  go_wp2_with (at_builtin; go_must (refine wpList_appBs w' rfl _ _ rfl B v1 (xs ++ en) s rfl hown1 rfl w hb1 hB1 (by simp; omega) ?_); intro v2 w2 hown2 hb2 hB2)
  go_ret
  rw [List.append_assoc] at hown2
  exact ⟨_, rfl, hown2, hb2, hB2⟩

set_option maxHeartbeats 1000000 in
theorem putNum_any (A : Option Addr) (c : Nat) (xs : List UInt8) (n : Int) (h1 : -9223372036854775808 ≤ n) (h2 : n ≤ 9223372036854775807) (w : World) (hsl : CL bv w w.heap.size A xs) (hn : xs.length ≤ 100000000000) :
    Calls Try.prog 54 #[.slice A xs.length c, .int .i64 n] w (RetB (xs ++ enc n) w) := by
  have HS := Lib.hid (numSize_any n h1 h2)
  have HN := Lib.hid (fun v w B hown hB => addNum_any v xs n h1 h2 w B hown hB (by omega))
  go_enter Try.func54, Try.ntmps54
  go_wp2_with fail
  refine (HS.out _).mono ?_
  rintro e w' ⟨⟨k, hk1, hk, rfl⟩, rfl⟩
  have HE := Lib.hid (extend_any A c xs k w hsl (by omega))
  go_wp2_with fail
  refine HE.out.mono ?_
  rintro e w1 ⟨v1, rfl, hown1, hb1⟩
  clear HE
  go_wp2_with fail
  refine (HN.out v1 w1 w.heap.size hown1 hb1.size).mono ?_
  rintro e w2 ⟨v2, rfl, hown2, hb2, hB2⟩
  go_wp2_with fail
  go_ret
  exact ⟨_, rfl, hown2, hb1.trans hb2⟩

set_option maxHeartbeats 1000000 in
theorem putText_any (A : Option Addr) (c : Nat) (xs : List UInt8) (s : ByteArray) (w : World) (hsl : CL bv w w.heap.size A xs) (hn : xs.length ≤ 100000000000) (hs : s.size ≤ 100000000000) :
    Calls Try.prog 55 #[.slice A xs.length c, .string s] w (RetB (xs ++ (enc s.size ++ dl s)) w) := by
  have HS := Lib.hid (textSize_any s (by omega))
  have HN := Lib.hid (fun v w B hown hB => addText_any v xs s w B hown hB hn hs)
  go_enter Try.func55, Try.ntmps55
  go_wp2_with fail
  refine (HS.out _).mono ?_
  rintro e w' ⟨⟨k, hk, rfl⟩, rfl⟩
  have HE := Lib.hid (extend_any A c xs k w hsl (by omega))
  go_wp2_with fail
  refine HE.out.mono ?_
  rintro e w1 ⟨v1, rfl, hown1, hb1⟩
  clear HE
  go_wp2_with fail
  refine (HN.out v1 w1 w.heap.size hown1 hb1.size).mono ?_
  rintro e w2 ⟨v2, rfl, hown2, hb2, hB2⟩
  go_wp2_with fail
  go_ret
  exact ⟨_, rfl, hown2, hb1.trans hb2⟩

end Go.Proofs.Ytbmeimpfehjnfaa
