/-
  Are two records one; the examples that every statement of brokerlaw31 holds besides: awake answers true.
-/
import Derived.Test.YtbmeimpfehjnfabRcD
import Derived.Test.YtbmeimpfehjnfabRcC
import Derived.Laws.StructEq
namespace Go.Proofs.Ytbmeimpfehjnfab
open Go.RowKit
open S2 (BK Put)

instance : DecidableEq Rc := fun a b =>
  if h : a.off = b.off ∧ a.kind = b.kind ∧ a.key = b.key ∧ a.val = b.val then
    isTrue (by obtain ⟨a1, a2, a3, a4⟩ := a; obtain ⟨b1, b2, b3, b4⟩ := b; obtain ⟨h1, h2, h3, h4⟩ := h; dsimp only at h1 h2 h3 h4; rw [h1, h2, h3, h4])
  else isFalse (fun e => h (by rw [e]; exact ⟨rfl, rfl, rfl, rfl⟩))
/-- are two records one -/
theorem eqRc (x y : Rc) (w : World) : Sem.run Try.prog (binOp .eql 23 (rcV x) (rcV y)) w = .ok (.bool (decide (x = y))) w := by
  obtain ⟨a, b, c, d⟩ := x
  obtain ⟨a', b', c', d'⟩ := y
  have u3 := Try.underlying9
  have a3 := Try.isAgg9
  have z3 := Try.sizeOf9
  have u4 := Try.underlying3
  have a4 := Try.isAgg3
  have z4 := Try.sizeOf3
  have hS : Try.prog.underlying 23 = some (.struct (Try.prog.fieldsOf 23)) := by kernel_rfl
  have hp : Try.prog.stoodInHeld 23 = false := by kernel_rfl
  have h1 := str_dec c c'
  have h2 := str_dec d d'
  have hd : decide ((⟨a, b, c, d⟩ : Rc) = ⟨a', b', c', d'⟩) = (decide (a = a') && decide (b = b') && decide (c = c') && decide (d = d')) := by
    rw [Bool.eq_iff_iff]
    simp only [Bool.and_eq_true, decide_eq_true_eq, Rc.mk.injEq]
    constructor
    · rintro ⟨h1, h2, h3, h4⟩; exact ⟨⟨⟨h1, h2⟩, h3⟩, h4⟩
    · rintro ⟨⟨⟨h1, h2⟩, h3⟩, h4⟩; exact ⟨h1, h2, h3, h4⟩
  rw [hd]
  unfold rcV
  rw [run_eql_struct, show (10000 : Nat) = 9999 + 1 from rfl, run_equalIn_agg w 9999 23 _ _ hS hp]
  simp only [Program.fieldsOf, Try.underlying23]
  by_cases ha : a = a'
  · by_cases hb : b = b'
    · by_cases hc : c = c'
      · by_cases hd' : d = d'
        · subst ha hb hc hd'
          go_simp
        · go_simp
      · go_simp
    · go_simp
  · go_simp
theorem eqRc_self (o k : Int) (s v : ByteArray) (w : World) : Sem.run Try.prog (binOp .eql 23 (.agg #[.int .i64 o, .int .i64 k, .string s, .string v]) (.agg #[.int .i64 o, .int .i64 k, .string s, .string v])) w = .ok (.bool true) w := by
  have := eqRc ⟨o, k, s, v⟩ ⟨o, k, s, v⟩ w
  rwa [decide_eq_true rfl] at this
theorem guardRc (op : BinOp) (x y : Operand) (xs ys : Array Value) (w : World) : Sem.run Try.prog (eqGuard op 23 x y (.agg xs) (.agg ys)) w = .ok () w := run_eqGuard_agg w op _ x y xs ys (by kernel_rfl)
theorem same_self31 {A A' : Option Addr} {c c' : Nat} {T : List UInt8} {w : World} {B B' : Nat} (h : CL bv w B A T) (h' : CL bv w B' A' T) :
    Calls Try.prog 15 #[.slice A T.length c, .slice A' T.length c'] w fun e w' => e = .returned (.bool true) ∧ w = w' := by
  have cs := sameB_any A A' c c' T T w B B' h h'
  rw [decide_eq_true rfl] at cs
  exact cs

abbrev a31 : Rc := ⟨0, 1, ⟨#[97]⟩, ⟨#[118]⟩⟩
def l31 : List UInt8 := [12, 89, 186, 198, 186, 0, 2, 2, 97, 2, 118]
theorem a31_ck : rcCk a31 = 0 := by decide +kernel
theorem a31_enc : rcEnc a31 = l31 := by decide +kernel
theorem a31_dec : rcDec l31 0 = (a31, 11, 0) := by
  have := rcDec_frame a31_ck [] []
  rw [a31_enc] at this
  exact this
theorem a31_encode (w : World) : Calls Try.prog 13 #[rcV a31] w fun e w' => ∃ b o c, e = .returned (.tuple #[.slice (some ⟨b, o, none⟩) 11 c, .int .i64 0]) ∧ 11 ≤ c ∧ CL bv w' w'.heap.size (some ⟨b, o, none⟩) l31 ∧ w'.cell? ⟨b, o, none⟩ = some (.int .u8 12) ∧ Below w.heap.size w w' :=
  (rcEncode_any a31 w (by decide)).mono fun _ _ h => by
    obtain ⟨v, h1, hown, hb⟩ := h
    rw [a31_enc] at hown
    rw [a31_ck] at h1
    obtain ⟨A, c, rfl, hc, hsl⟩ := hown.ret
    obtain ⟨b, o, rfl, hb2, hcell⟩ := hsl (by decide)
    exact ⟨b, o, c, h1, hc, hsl, hcell 0 12 rfl, hb⟩
theorem a31_decode (A : Option Addr) (c : Nat) (w : World) (h : CL bv w w.heap.size A l31) (hc : 11 ≤ c) : Calls Try.prog 17 #[.slice A 11 c, .int .i64 0] w fun e w' => e = .returned (.tuple #[rcV a31, .int .i64 11, .int .i64 0]) ∧ Below w.heap.size w w' :=
  (rcDecode_any A c l31 0 (by decide) (by decide) w h hc (by decide)).mono fun _ _ h => by
    obtain ⟨h1, hb⟩ := h
    rw [a31_dec] at h1
    exact ⟨h1, hb⟩
theorem a31_check (w : World) : Calls Try.prog 10 #[rcV a31] w fun e w' => e = .returned (.int .i64 0) ∧ Below w.heap.size w w' :=
  (rcCheck_any a31 w (by decide)).mono fun _ _ h => by
    rw [a31_ck] at h
    exact h
theorem a31_size (w : World) : Calls Try.prog 16 #[rcV a31] w fun e w' => e = .returned (.int .i64 11) ∧ Below w.heap.size w w' :=
  (rcSize_any a31 w (by decide)).mono fun _ _ h => by
    rw [a31_enc] at h
    exact h
theorem conv31 {w : World} {B : Nat} {A : Option Addr} (h : CL bv w B A (l31.drop 5)) (c : Nat) : (convert 28 9 (.slice A 6 c)).run Try.prog w = .ok (.string ⟨#[0, 2, 2, 97, 2, 118]⟩) w := conv_str h c

set_option maxHeartbeats 4000000 in
theorem awake31_any (w : World) : Calls Try.prog 12 #[] w fun e w' => e = .returned (.bool true) ∧ Below w.heap.size w w' := by
  go_enter Try.func12, Try.ntmps12
  go_upto_region 2 with (refine S2.wpList_store_all (by rfl) 23 (.tmp 1) (.tmp 7) rfl rfl (w.heap.size) (by first | rfl | go_simp) (rcC a31) (by first | rfl | go_simp) 23 (rcC rcZ) (BK.new _ _ _) rcSize rfl (rcC_one _) ?_; intro w1 hM hP; have E1 : Hid (BK 23 w1 w.heap.size (rcC a31)) := Lib.hid hM; have B1 : Hid (Below w.heap.size w w1) := Lib.hid (hP.below (S2.below_new _ _) (Nat.le_refl _)); clear hM hP)
  have k0 := E1.out.cell 0 rfl
  have k1 := E1.out.cell 1 rfl
  have k2 := E1.out.cell 2 rfl
  have k3 := E1.out.cell 3 rfl
  go_wp2_with fail
  refine (a31_encode w1).mono ?_
  rintro e w2 ⟨b, o, c, rfl, hc, hsl, hcell, hb⟩
  have E2 := Lib.hid (E1.out.step hb)
  have B2 := Lib.hid (stepB B1.out hb)
  have S2' := Lib.hid hsl
  have C2 := Lib.hid hcell
  have hlt : b < w2.heap.size := by obtain ⟨b', o', e', hb', _⟩ := hsl (by decide); cases e'; exact hb'
  have L2 := Lib.hid hlt
  clear hb hsl hcell hlt k0 k1 k2 k3 E1 B1
  go_wp2_with fail
  refine (a31_decode _ c w2 S2'.out hc).mono ?_
  rintro e w3 ⟨rfl, hb⟩
  have E3 := Lib.hid (E2.out.step hb)
  have B3 := Lib.hid (stepB B2.out hb)
  have S3 := Lib.hid (S2'.out.step hb)
  have C3 := Lib.hid ((hb.cell (p := ⟨b, o, none⟩) L2.out).trans C2.out)
  have L3 := Lib.hid (Nat.lt_of_lt_of_le L2.out hb.size)
  clear hb E2 B2 S2' C2 L2
  go_upto_region 4 with (refine S2.wpList_store_all (by rfl) 23 (.tmp 4) (.tmp 16) rfl rfl (w3.heap.size) (by first | rfl | go_simp) (rcC a31) (by first | rfl | go_simp) 23 (rcC rcZ) (BK.new _ _ _) rcSize rfl (rcC_one _) ?_; intro w4 hM hP; have M4 : Hid (BK 23 w4 w3.heap.size (rcC a31)) := Lib.hid hM; have E4 : Hid (BK 23 w4 w.heap.size (rcC a31)) := Lib.hid (hP.other (E3.out.step (S2.below_new _ _)) (Nat.ne_of_lt E3.out.lt)); have X4 : Hid (Below w3.heap.size w3 w4) := Lib.hid (hP.below (S2.below_new _ _) (Nat.le_refl _)); clear hM hP)
  have B4 := Lib.hid (stepB B3.out X4.out)
  have S4 := Lib.hid (S3.out.step X4.out)
  have C4 := Lib.hid ((X4.out.cell (p := ⟨b, o, none⟩) L3.out).trans C3.out)
  have L4 := Lib.hid (Nat.lt_of_lt_of_le L3.out X4.out.size)
  clear E3 B3 S3 C3 L3 X4
  have k0 := E4.out.cell 0 rfl
  have k1 := E4.out.cell 1 rfl
  have k2 := E4.out.cell 2 rfl
  have k3 := E4.out.cell 3 rfl
  go_wp2_with fail
  refine (a31_check w4).mono ?_
  rintro e w5 ⟨rfl, hb⟩
  have E5 := Lib.hid (E4.out.step hb)
  have M5 := Lib.hid (M4.out.step hb)
  have B5 := Lib.hid (stepB B4.out hb)
  have S5 := Lib.hid (S4.out.step hb)
  have kc := (hb.cell (p := ⟨b, o, none⟩) L4.out).trans C4.out
  clear hb E4 M4 B4 S4 C4 L4 k0 k1 k2 k3
  obtain ⟨A5, hs5, hcl5⟩ := slice_l (some ⟨b, o, none⟩) c l31 5 (by decide) hc
  have hs5' : ∀ w, (Instr.slice 28 (.slice (some ⟨b, o, none⟩) 11 c) (some (.int .i64 5)) none none).run Try.prog w = .ok (.slice A5 6 (c - 5)) w := hs5
  have hcv := conv31 (hcl5 w5 _ S5.out) (c - 5)
  have heq := eqRc_self 0 1 ⟨#[97]⟩ ⟨#[118]⟩
  have hgd := guardRc
  have k0 := E5.out.cell 0 rfl
  have k1 := E5.out.cell 1 rfl
  have k2 := E5.out.cell 2 rfl
  have k3 := E5.out.cell 3 rfl
  have m0 := M5.out.cell 0 rfl
  have m1 := M5.out.cell 1 rfl
  have m2 := M5.out.cell 2 rfl
  have m3 := M5.out.cell 3 rfl
  clear hs5 hcl5 S5
  go_wp2_with fail
  refine (a31_size w5).mono ?_
  rintro e w6 ⟨rfl, hb⟩
  have hbf := stepB B5.out hb
  clear hb k0 k1 k2 k3 m0 m1 m2 m3 kc hcv hs5'
  go_wp2_with fail
  go_ret
  exact ⟨rfl, hbf⟩
end Go.Proofs.Ytbmeimpfehjnfab
