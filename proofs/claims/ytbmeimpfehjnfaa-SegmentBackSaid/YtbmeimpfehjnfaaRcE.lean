/-
  Are two records one; the examples that every statement of brokerlaw31 holds besides: awake answers true.
-/
import Derived.Test.YtbmeimpfehjnfaaRcD
import Derived.Test.YtbmeimpfehjnfaaRcC
import Derived.Laws.StructEq
namespace Go.Proofs.Ytbmeimpfehjnfaa
open Go.RowKit
open S2 (BK Put)

instance : DecidableEq Rc := fun a b =>
  if h : a.off = b.off ∧ a.kind = b.kind ∧ a.key = b.key ∧ a.val = b.val then
    isTrue (by obtain ⟨a1, a2, a3, a4⟩ := a; obtain ⟨b1, b2, b3, b4⟩ := b; obtain ⟨h1, h2, h3, h4⟩ := h; dsimp only at h1 h2 h3 h4; rw [h1, h2, h3, h4])
  else isFalse (fun e => h (by rw [e]; exact ⟨rfl, rfl, rfl, rfl⟩))
/-- are two records one -/
theorem eqRc (x y : Rc) (w : World) : Sem.run Try.prog (binOp .eql 32 (rcV x) (rcV y)) w = .ok (.bool (decide (x = y))) w := by
  obtain ⟨a, b, c, d⟩ := x
  obtain ⟨a', b', c', d'⟩ := y
  have u3 := Try.underlying9
  have a3 := Try.isAgg9
  have z3 := Try.sizeOf9
  have u4 := Try.underlying3
  have a4 := Try.isAgg3
  have z4 := Try.sizeOf3
  have hS : Try.prog.underlying 32 = some (.struct (Try.prog.fieldsOf 32)) := by kernel_rfl
  have hp : Try.prog.stoodInHeld 32 = false := by kernel_rfl
  have h1 := str_dec c c'
  have h2 := str_dec d d'
  have hd : decide ((⟨a, b, c, d⟩ : Rc) = ⟨a', b', c', d'⟩) = (decide (a = a') && decide (b = b') && decide (c = c') && decide (d = d')) := by
    rw [Bool.eq_iff_iff]
    simp only [Bool.and_eq_true, decide_eq_true_eq, Rc.mk.injEq]
    constructor
    · rintro ⟨h1, h2, h3, h4⟩; exact ⟨⟨⟨h1, h2⟩, h3⟩, h4⟩
    · rintro ⟨⟨⟨h1, h2⟩, h3⟩, h4⟩; exact ⟨h1, h2, h3, h4⟩
  rw [hd]
  unfold rcV
  rw [run_eql_struct, show (10000 : Nat) = 9999 + 1 from rfl, run_equalIn_agg w 9999 32 _ _ hS hp]
  simp only [Program.fieldsOf, Try.underlying32]
  by_cases ha : a = a'
  · by_cases hb : b = b'
    · by_cases hc : c = c'
      · by_cases hd' : d = d'
        · subst ha hb hc hd'
          go_simp
        · go_simp
      · go_simp
    · go_simp
  · go_simp
theorem eqRc_self (o k : Int) (s v : ByteArray) (w : World) : Sem.run Try.prog (binOp .eql 32 (.agg #[.int .i64 o, .int .i64 k, .string s, .string v]) (.agg #[.int .i64 o, .int .i64 k, .string s, .string v])) w = .ok (.bool true) w := by
  have := eqRc ⟨o, k, s, v⟩ ⟨o, k, s, v⟩ w
  rwa [decide_eq_true rfl] at this
theorem guardRc (op : BinOp) (x y : Operand) (xs ys : Array Value) (w : World) : Sem.run Try.prog (eqGuard op 32 x y (.agg xs) (.agg ys)) w = .ok () w := run_eqGuard_agg w op _ x y xs ys (by kernel_rfl)
abbrev a31 : Rc := ⟨0, 1, ⟨#[97]⟩, ⟨#[118]⟩⟩
def l31 : List UInt8 := [12, 89, 186, 198, 186, 0, 2, 2, 97, 2, 118]
theorem a31_ck : rcCk a31 = 0 := by decide +kernel
theorem a31_enc : rcEnc a31 = l31 := by decide +kernel
theorem a31_dec : rcDec l31 0 = (a31, 11, 0) := by
  have := rcDec_frame a31_ck [] []
  rw [a31_enc] at this
  exact this
theorem a31_encode (w : World) : Calls Try.prog 30 #[rcV a31] w fun e w' => ∃ b o c, e = .returned (.tuple #[.slice (some ⟨b, o, none⟩) 11 c, .int .i64 0]) ∧ 11 ≤ c ∧ CL bv w' w'.heap.size (some ⟨b, o, none⟩) l31 ∧ w'.cell? ⟨b, o, none⟩ = some (.int .u8 12) ∧ Below w.heap.size w w' :=
  (rcEncode_any a31 w (by decide)).mono fun _ _ h => by
    obtain ⟨v, h1, hown, hb⟩ := h
    rw [a31_enc] at hown
    rw [a31_ck] at h1
    obtain ⟨A, c, rfl, hc, hsl⟩ := hown.ret
    obtain ⟨b, o, rfl, hb2, hcell⟩ := hsl (by decide)
    exact ⟨b, o, c, h1, hc, hsl, hcell 0 12 rfl, hb⟩
theorem a31_decode (A : Option Addr) (c : Nat) (w : World) (h : CL bv w w.heap.size A l31) (hc : 11 ≤ c) : Calls Try.prog 35 #[.slice A 11 c, .int .i64 0] w fun e w' => e = .returned (.tuple #[rcV a31, .int .i64 11, .int .i64 0]) ∧ Below w.heap.size w w' :=
  (rcDecode_any A c l31 0 (by decide) (by decide) w h hc (by decide)).mono fun _ _ h => by
    obtain ⟨h1, hb⟩ := h
    rw [a31_dec] at h1
    exact ⟨h1, hb⟩
theorem a31_check (w : World) : Calls Try.prog 40 #[rcV a31] w fun e w' => e = .returned (.int .i64 0) ∧ Below w.heap.size w w' :=
  (rcCheck_any a31 w (by decide)).mono fun _ _ h => by
    rw [a31_ck] at h
    exact h
theorem a31_size (w : World) : Calls Try.prog 33 #[rcV a31] w fun e w' => e = .returned (.int .i64 11) ∧ Below w.heap.size w w' :=
  (rcSize_any a31 w (by decide)).mono fun _ _ h => by
    rw [a31_enc] at h
    exact h
theorem conv31 {w : World} {B : Nat} {A : Option Addr} (h : CL bv w B A (l31.drop 5)) (c : Nat) : (convert 22 9 (.slice A 6 c)).run Try.prog w = .ok (.string ⟨#[0, 2, 2, 97, 2, 118]⟩) w := conv_str h c

end Go.Proofs.Ytbmeimpfehjnfaa
