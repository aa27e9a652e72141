/-
  What Size and Wrap answer, of frame and of its specification. Conditions: so many bytes fit a slice.
-/
import Derived.Test.YtbmeimpfehjnfaaFrame
namespace Go.Proofs.Ytbmeimpfehjnfaa
open Go.RowKit

def sizeR (n : Int) : Int := if n < 0 ∨ 65536 < n then 0 else ((enc n).length : Int) + 4 + n
def sum4 (h : Nat) : List UInt8 := [UInt8.ofNat (h / 16777216), UInt8.ofNat (h / 65536), UInt8.ofNat (h / 256), UInt8.ofNat h]
def wrapR (l : List UInt8) : List UInt8 := if 65536 < l.length then [] else enc l.length ++ sum4 (sumR l) ++ l
theorem sizeR_in {n : Nat} (h : n ≤ 65536) : sizeR (n : Int) = (((enc n).length + 4 + n : Nat) : Int) := by
  unfold sizeR
  rw [if_neg (by omega)]
  omega

set_option maxHeartbeats 400000 in
theorem size_any (n : Int) (_h1 : -9223372036854775808 ≤ n) (_h2 : n ≤ 9223372036854775807) (w : World) :
    Calls Try.prog 46 #[.int .i64 n] w fun e w' => e = .returned (.int .i64 (sizeR n)) ∧ Below w.heap.size w w' := by
  unfold sizeR
  by_cases h0 : n < 0
  · rw [if_pos (Or.inl h0)]
    go_enter Try.func46, Try.ntmps46
    go_wp2
    go_ret
    exact ⟨rfl, Below.refl _ _⟩
  · by_cases h6 : 65536 < n
    · rw [if_pos (Or.inr h6)]
      go_enter Try.func46, Try.ntmps46
      go_wp2
      go_ret
      exact ⟨rfl, Below.refl _ _⟩
    · rw [if_neg (by omega)]
      have HP := Lib.hid (putNum_any none 0 [] n (by omega) (by omega) w (CL.nil _ _ _) (by simp))
      have hl := (enc_len n).2
      rw [List.nil_append] at HP
      generalize enc n = E at HP hl
      go_enter Try.func46, Try.ntmps46
      go_wp2_with fail
      refine HP.out.mono ?_
      rintro e w1 ⟨v1, rfl, hown1, hb1⟩
      obtain ⟨A1, c1, rfl, _, _⟩ := hown1.ret
      clear hown1 HP
      go_wp2_with fail
      go_ret
      exact ⟨rfl, hb1⟩
theorem wpList_appB4 {ops : Array Oper} {rest : List Oper} {o : Oper} {a : Act} {Q : Exit → Act → World → Prop} (wr : World) (hgd : o.guard = none) (s x : Operand) (ho : o.op = .call { callee := .builtin .append, args := #[s, x], argTypes := #[22, 22] })
    (B : Nat) (v : Value) (xs ys : List UInt8) (us : Array Value) (hu : us = (ys.map bv).toArray) (hy : ys.length = 4) (hs : a.eval s = v) (hown : Own 5 bv wr B v xs) (hx : a.eval x = .slice (some ⟨wr.heap.size, 0, none⟩) 4 4) (w0 : World) (hb : Below B w0 wr) (hB : B ≤ wr.heap.size)
    (hn : xs.length ≤ 100000000000100) (h : ∀ v' w', Own 5 bv w' B v' (xs ++ ys) → Below B w0 w' → B ≤ w'.heap.size → wpList Try.prog ops Q rest (a.put o.dst v') w') : wpList Try.prog ops Q (o :: rest) a (wr.alloc (.cells us 5)) := by
  subst hu
  exact wpList_appB _ hgd s x ho B v xs ys (some ⟨wr.heap.size, 0, none⟩) 4 hs (hown.alloc _) (by rw [hy]; exact hx) _ (CL.new (f := bv) (xs := ys)) w0 (hb.alloc hB _) (by simp; omega) (by omega) h

theorem wpList_makeB {ops : Array Oper} {rest : List Oper} {o : Oper} {a : Act} {Q : Exit → Act → World → Prop} (wr : World) (hgd : o.guard = none) (l c : Operand) (ho : o.op = .makeSlice 22 l c) (B n : Nat) (hl : a.eval l = .int .i64 0) (hc : a.eval c = .int .i64 (n : Int)) (hn : n ≤ 140737488355328)
    (w0 : World) (hb : Below B w0 wr) (hB : B ≤ wr.heap.size)
    (h : ∀ w', Own 5 bv w' B (.slice (some ⟨wr.heap.size, 0, none⟩) 0 n) [] → Below B w0 w' → B ≤ w'.heap.size → wpList Try.prog ops Q rest (a.put o.dst (.slice (some ⟨wr.heap.size, 0, none⟩) 0 n)) w') : wpList Try.prog ops Q (o :: rest) a wr := by
  obtain ⟨ifo, hi, hz0, hz1, hzb⟩ := info_parts infoU8
  refine wpList_make_own wr hgd l c 22 ho B 5 ifo (.int .u8 0) 1 Try.underlying22 hi hz0 hz1 .i64 .i64 n n hl hc rfl (by rw [hzb]; omega) (by unfold maxLen; omega) hB ?_
  intro w' hown hg
  exact h w' hown (hb.grown hg hB (fun j hj => by cases hj)) (Nat.le_trans hB hg.size)

theorem bv_ofNat (n : Nat) : bv (UInt8.ofNat n) = .int .u8 ((n % 256 : Nat) : Int) := by
  unfold bv
  rw [UInt8.toNat_ofNat']
theorem sum4_form {q : Nat} (hq : q < 4294967296) {S : List UInt8} (hS : S = sum4 q) :
    #[Value.int .u8 ((q : Int) / 16777216), .int .u8 ((q : Int) / 65536 % 256), .int .u8 ((q : Int) / 256 % 256), .int .u8 ((q : Int) % 256)] = (S.map bv).toArray := by
  subst hS
  unfold sum4
  simp only [List.map_cons, List.map_nil, bv_ofNat]
  have e : ((q / 16777216 % 256 : Nat) : Int) = (q : Int) / 16777216 := by omega
  rw [e]
  rfl

theorem i64_and255 (n : Int) : bits .and .i64 n 255 = n % 256 := by
  have h255 : (BitVec.ofInt 64 255).toNat = 2 ^ 8 - 1 := by decide
  have key : (BitVec.ofInt 64 n &&& BitVec.ofInt 64 255).toNat = (n % ((2 ^ 64 : Nat) : Int)).toNat % 2 ^ 8 := by
    rw [BitVec.toNat_and, BitVec.toNat_ofInt, h255, Nat.and_two_pow_sub_one_eq_mod]
  show IntKind.i64.wrap ((BitVec.ofInt 64 n &&& BitVec.ofInt 64 255).toNat : Nat) = n % 256
  rw [key, IntKind.wrap_i64]
  omega
theorem sum4_form2 {q : Nat} (hq : q < 4294967296) {S : List UInt8} (hS : S = sum4 q) :
    #[Value.int .u8 ((q : Int) / 16777216), .int .u8 (bits .and .i64 ((q : Int) / 65536) 255 % 256), .int .u8 (bits .and .i64 ((q : Int) / 256) 255 % 256), .int .u8 (bits .and .i64 (q : Int) 255 % 256)] = (S.map bv).toArray := by
  rw [← sum4_form hq hS, i64_and255, i64_and255, i64_and255, Int.emod_emod_of_dvd _ (Int.dvd_refl 256), Int.emod_emod_of_dvd _ (Int.dvd_refl 256), Int.emod_emod_of_dvd _ (Int.dvd_refl 256)]

set_option maxHeartbeats 1000000 in
theorem wrap_any (A : Option Addr) (c : Nat) (l : List UInt8) (w : World) (hsl : CL bv w w.heap.size A l) (hn : l.length ≤ 140737488355328) :
    Calls Try.prog 41 #[.slice A l.length c] w (RetB (wrapR l) w) := by
  unfold wrapR
  by_cases h6 : 65536 < l.length
  · rw [if_pos h6]
    clear hsl
    go_enter Try.func41, Try.ntmps41
    go_wp2
    go_ret
    exact ⟨_, rfl, Own.nil _ _, Below.refl _ _⟩
  · rw [if_neg h6]
    have HU := Lib.hid (sum_any A c l w _ hsl hn)
    have HZ := Lib.hid (size_any l.length (by omega) (by omega) w)
    have hz := sizeR_in (n := l.length) (by omega)
    have hel := (enc_len l.length).2
    have HP := Lib.hid (fun w => putNum_any none 0 [] l.length (by omega) (by omega) w (CL.nil _ _ _) (by simp))
    simp only [List.nil_append, List.length_nil] at HP
    have hq := sumR_lt l
    obtain ⟨z, hz2⟩ : ∃ z, (enc l.length).length + 4 + l.length = z := ⟨_, rfl⟩
    rw [hz2] at hz
    rw [hz] at HZ
    generalize enc l.length = E at HP hel hz2 ⊢
    generalize sumR l = q at HU hq ⊢
    have hzz : z ≤ 65550 := by omega
    have hs4 : (sum4 q).length = 4 := rfl
    obtain ⟨S, hS⟩ : ∃ S, S = sum4 q := ⟨_, rfl⟩
    rw [← hS] at hs4 ⊢
    have HSS := Lib.hid hS
    generalize hT : E ++ S ++ l = T
    have HT := Lib.hid hT
    have HS := Lib.hid hsl
    clear hz hz2 hsl hS hT
    go_enter Try.func41, Try.ntmps41
    go_wp2_with fail
    refine HU.out.mono ?_
    rintro e w0 ⟨rfl, rfl⟩
    go_wp2_with fail
    refine HZ.out.mono ?_
    rintro e w1 ⟨rfl, hb1⟩
    have hB1 := hb1.size
    clear HU HZ
    go_wp2_with (at_make; go_must (refine wpList_makeB w1 rfl _ _ rfl w.heap.size z rfl rfl (by omega) w hb1 hB1 ?_); intro w2 hown2 hb2 hB2)
    obtain ⟨v2, hv2⟩ : ∃ v2 : Value, .slice (some ⟨w1.heap.size, 0, none⟩) 0 z = v2 := ⟨_, rfl⟩
    rw [hv2] at hown2 ⊢
    refine (HP.out w2).mono ?_
    rintro e w3 ⟨v3, rfl, hown3, hb3⟩
    obtain ⟨A3, c3, rfl, _, hsl3⟩ := hown3.ret
    have hown2' := hown2.step hb3
    have hb3' := stepB hb2 hb3
    have hB3 : w.heap.size ≤ w3.heap.size := hb3'.size
    clear hown3 hown2 HP hv2 hb1 hb2 hb3
    go_wp2_with first | (at_builtin; refine wpList_appB w3 rfl (.tmp 14) (.tmp 17) rfl w.heap.size v2 [] E A3 c3 rfl hown2' rfl w3.heap.size hsl3 w hb3' hB3 (by simp; omega) ?_; intro v4 w4 hown4 hb4 hB4; rw [List.nil_append] at hown4) | (at_builtin; refine wpList_appB4 w4 rfl (.tmp 19) (.tmp 31) rfl w.heap.size v4 E S _ (sum4_form hq HSS.out) hs4 rfl hown4 rfl w hb4 hB4 (by omega) ?_; intro v5 w5 hown5 hb5 hB5) | (at_builtin; go_must (refine wpList_appB w5 rfl (.tmp 33) (.tmp 34) rfl w.heap.size v5 (E ++ S) l A c rfl hown5 rfl w.heap.size (HS.out.below hb5) w hb5 hB5 (by simp; omega) ?_); intro v6 w6 hown6 hb6 hB6)
    go_ret
    have hown6' : Own 5 bv w6 w.heap.size v6 T := by rw [← HT.out]; exact hown6
    exact ⟨_, rfl, hown6', hb6⟩

set_option maxHeartbeats 1000000 in
theorem rWrap_any (A : Option Addr) (c : Nat) (l : List UInt8) (w : World) (hsl : CL bv w w.heap.size A l) (hn : l.length ≤ 140737488355328) :
    Calls Try.prog 45 #[.slice A l.length c] w (RetB (wrapR l) w) := by
  unfold wrapR
  by_cases h6 : 65536 < l.length
  · rw [if_pos h6]
    clear hsl
    go_enter Try.func45, Try.ntmps45
    go_wp2
    go_ret
    exact ⟨_, rfl, Own.nil _ _, Below.refl _ _⟩
  · rw [if_neg h6]
    have HU := Lib.hid (rSum_any A c l w _ hsl hn)
    have hel := (enc_len l.length).2
    have HP := Lib.hid (rPutNum_any none 0 [] l.length (by omega) (by omega) w (CL.nil _ _ _) (by simp))
    simp only [List.nil_append, List.length_nil] at HP
    have hq := sumR_lt l
    generalize enc l.length = E at HP hel ⊢
    generalize sumR l = q at HU hq ⊢
    have hs4 : (sum4 q).length = 4 := rfl
    obtain ⟨S, hS⟩ : ∃ S, S = sum4 q := ⟨_, rfl⟩
    rw [← hS] at hs4 ⊢
    have HSS := Lib.hid hS
    generalize hT : E ++ S ++ l = T
    have HT := Lib.hid hT
    have HS := Lib.hid hsl
    clear hsl hS hT
    go_enter Try.func45, Try.ntmps45
    go_wp2_with fail
    refine HU.out.mono ?_
    rintro e w0 ⟨rfl, rfl⟩
    go_wp2_with fail
    refine HP.out.mono ?_
    rintro e w4 ⟨v4, rfl, hown4, hb4⟩
    have hB4 := hb4.size
    clear HU HP
    go_wp2_with first | (at_builtin; refine wpList_appB4 w4 rfl (.tmp 13) (.tmp 28) rfl w.heap.size v4 E S _ (sum4_form2 hq HSS.out) hs4 rfl hown4 rfl w hb4 hB4 (by omega) ?_; intro v5 w5 hown5 hb5 hB5) | (at_builtin; go_must (refine wpList_appB w5 rfl (.tmp 30) (.tmp 31) rfl w.heap.size v5 (E ++ S) l A c rfl hown5 rfl w.heap.size (HS.out.below hb5) w hb5 hB5 (by simp; omega) ?_); intro v6 w6 hown6 hb6 hB6)
    go_ret
    have hown6' : Own 5 bv w6 w.heap.size v6 T := by rw [← HT.out]; exact hown6
    exact ⟨_, rfl, hown6', hb6⟩

end Go.Proofs.Ytbmeimpfehjnfaa
