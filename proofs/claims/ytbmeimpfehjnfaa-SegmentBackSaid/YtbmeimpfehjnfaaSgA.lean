/-
  Segments in memory: what New, Same, scan and Check of segment answer, and New and Check of the specification. Conditions: the bytes read as data; the numbers fit an int.
-/
import Derived.Test.YtbmeimpfehjnfaaSgP
import Derived.Test.YtbmeimpfehjnfaaRcE
import Derived.Test.YtbmeimpfehjnfaaLdv
import Derived.Deep.RegionHeld3
namespace Go.Proofs.Ytbmeimpfehjnfaa
open Go.RowKit
open S2 (BK Put get_ops exec_load)

abbrev sgC (b n : Int) (A : Option Addr) (k c : Nat) : List Value := [.int .i64 b, .int .i64 n, .slice A k c]
def sgV (b n : Int) (A : Option Addr) (k c : Nat) : Value := .agg (sgC b n A k c).toArray
theorem sgSize : (Try.prog.info? 24).map (·.size) = some 3 := by kernel_rfl
theorem rcInfo : (Try.prog.info? 32).map (fun i => (i.zero, i.size, i.bytes)) = some (some (.agg #[.int .i64 0, .int .i64 0, .string ByteArray.empty, .string ByteArray.empty]), 4, 48) := by kernel_rfl
theorem rcC_len (r : Rc) : (rcC r).length = 4 := rfl
theorem ones3 {b n : Int} {A : Option Addr} {k c : Nat} : ∀ u ∈ sgC b n A k c, u.oneCell' = true := S2.all_one rfl
/-- a list of records that a call builds -/
abbrev OwnR (w : World) (B : Nat) (v : Value) (xs : List Rc) : Prop := OwnG 32 rcC 4 w B v xs
/-- one element behind a list of the own, in the world that holds it -/
theorem wpList_app1 {P : Program} {α : Type} {g : α → List Value} {k : Nat} {e : TypeId} {ops : Array Oper} {rest : List Oper} {o : Oper} {a : Act} {Q : Exit → Act → World → Prop} (hg : ∀ x, (g x).length = k) (h1 : ∀ x, ∀ u ∈ g x, u.oneCell' = true) (hk0 : 0 < k) (wr : World) (hgd : o.guard = none) (s x : Operand) (t : TypeId)
    (ho : o.op = .call { callee := .builtin .append, args := #[s, x], argTypes := #[t, t] }) (z : Value) (bytes : Nat) (ht : P.underlying t = some (.slice e))
    (hi : (P.info? e).map (fun i => (i.zero, i.size, i.bytes)) = some (some z, k, bytes)) (hzs : z.cells.size = k) (hby : 0 < bytes) (B : Nat) (v : Value) (xs : List α) (y : α) (hs : a.eval s = v) (hown : OwnG e g k wr B v xs)
    (hx : a.eval x = .slice (some ⟨wr.heap.size, 0, none⟩) 1 1) (w0 : World) (hb : Below B w0 wr) (hB : B ≤ wr.heap.size) (hn : (xs.length + 1) * bytes ≤ 140737488355328)
    (h : ∀ v' w', OwnG e g k w' B v' (xs ++ [y]) → Below B w0 w' → B ≤ w'.heap.size → wpList P ops Q rest (a.put o.dst v') w') : wpList P ops Q (o :: rest) a (wr.alloc (.cells (g y).toArray e)) := by
  have hst := S2.below_new wr (.cells (g y).toArray e)
  exact wpList_appG hk0 _ hgd s x t t ho z bytes ht hi hzs hby B v xs [y] hs (hown.step hst) _ hx (srcG_one hg h1 ht wr y) w0 (hb.alloc hB _) (by simp; omega) (by simpa using hn) h
/-- what scan answers -/
def RetSc (r : List Rc × Nat × Int) (W : World) (e : Ending) (w' : World) : Prop :=
  ∃ v, e = .returned (.tuple #[v, .int .i64 (r.2.1 : Int), .int .i64 r.2.2]) ∧ OwnR w' W.heap.size v r.1 ∧ Below W.heap.size W w'
theorem ConsR.fit {base : Int} {xs : List Rc} (h : ConsR base xs) (h1 : -9223372036854775808 ≤ base) (h2 : base ≤ 9223372036854775807) (hn : xs.length ≤ 100000) : wrap64 (base + (xs.length : Int)) = base + (xs.length : Int) := by
  cases xs with
  | nil => simp only [List.length_nil]; exact wrap64_id _ (by omega) (by omega)
  | cons r xs =>
    have h3 := rcCk_ok h.2.1
    have h4 := h.1
    exact wrap64_id _ (by omega) (by omega)

set_option maxHeartbeats 2000000 in
theorem sNew_any (b : Int) (w : World) : Calls Try.prog 14 #[.int .i64 b] w fun e w' => e = .returned (sgV b b none 0 0) ∧ Below w.heap.size w w' := by
  go_enter Try.func14, Try.ntmps14
  go_wp2_with (refine S2.wpList_store_all (by rfl) 24 (.tmp 2) (.tmp 5) rfl rfl (w.heap.size) (by first | rfl | go_simp) (sgC b b none 0 0) (by first | rfl | go_simp) 24 (sgC 0 0 none 0 0) (BK.new w _ _) sgSize rfl (ones3) ?_; intro w1 hM hP; have M1 := Lib.hid hM; have B1 := Lib.hid (hP.below (S2.below_new w _) (Nat.le_refl _)); clear hM hP)
  exact bodyPost_ret (v := sgV b b none 0 0) (S2.res_cell rfl _ _ w.heap.size 24 (sgC b b none 0 0) _ rfl M1.out Try.underlying24 rfl sgSize) rfl ⟨rfl, B1.out⟩

set_option maxHeartbeats 2000000 in
theorem rSgNew_any (b : Int) (w : World) : Calls Try.prog 15 #[.int .i64 b] w fun e w' => e = .returned (sgV b b none 0 0) ∧ Below w.heap.size w w' := by
  go_enter Try.func15, Try.ntmps15
  go_wp2_with (refine S2.wpList_store_all (by rfl) 24 (.tmp 2) (.tmp 5) rfl rfl (w.heap.size) (by first | rfl | go_simp) (sgC b b none 0 0) (by first | rfl | go_simp) 24 (sgC 0 0 none 0 0) (BK.new w _ _) sgSize rfl (ones3) ?_; intro w1 hM hP; have M1 := Lib.hid hM; have B1 := Lib.hid (hP.below (S2.below_new w _) (Nat.le_refl _)); clear hM hP)
  exact bodyPost_ret (v := sgV b b none 0 0) (S2.res_cell rfl _ _ w.heap.size 24 (sgC b b none 0 0) _ rfl M1.out Try.underlying24 rfl sgSize) rfl ⟨rfl, B1.out⟩

set_option maxHeartbeats 4000000 in
theorem sgSame_any (b n : Int) (A A' : Option Addr) (c c' : Nat) (l : List UInt8) (w : World) (h : CL bv w w.heap.size A l) (h' : CL bv w w.heap.size A' l) :
    Calls Try.prog 13 #[sgV b n A l.length c, sgV b n A' l.length c'] w fun e w' => e = .returned (.bool true) ∧ Below w.heap.size w w' := by
  have H1 := Lib.hid h
  have H2 := Lib.hid h'
  clear h h'
  unfold sgV
  go_enter Try.func13, Try.ntmps13
  go_upto_region 1 with fail
  refine name_world (C := fun w1 => Code.wp _ _ _ _ w1) ((w.alloc (.cells (sgC b n A l.length c).toArray 24)).alloc (.cells (sgC b n A' l.length c').toArray 24)) ?_
  intro w1 hw1
  obtain ⟨e1, e2, _, hb1⟩ := S2.two_laid hw1
  have k0 := e1.cell 0 rfl
  have k1 := e1.cell 1 rfl
  have k2 := e1.cell 2 rfl
  have m0 := e2.cell 0 rfl
  have m1 := e2.cell 1 rfl
  have m2 := e2.cell 2 rfl
  have v1 := conv_str (H1.out.step hb1) c
  have v2 := conv_str (H2.out.step hb1) c'
  have HB := Lib.hid hb1
  clear hw1 e1 e2 hb1 H1 H2
  go_wp2_with fail
  go_ret
  exact ⟨rfl, HB.out⟩

set_option maxRecDepth 20000 in
set_option maxHeartbeats 8000000 in
theorem scan_any (A : Option Addr) (c : Nat) (l : List UInt8) (base : Int) (w : World) (hsl : CL bv w w.heap.size A l) (hc : l.length ≤ c) (hn : l.length ≤ 65536) (hb1 : -9223372036854775808 ≤ base) (hb2 : base ≤ 9223372036854775807) :
    Calls Try.prog 28 #[.slice A l.length c, .int .i64 base] w (RetSc (scR l base) w) := by
  have HD := Lib.hid (fun (p : Nat) w (hp : p ≤ l.length) h => rcDecode_any A c l p (by omega) (by omega) w h hc (by omega))
  have HS := Lib.hid hsl
  unfold RetRD at HD
  obtain ⟨RES, hRES⟩ : ∃ r, scR l base = r := ⟨_, rfl⟩
  rw [hRES]
  have HRES := Lib.hid hRES
  have HF := Lib.hid (fun xs (h : ConsR base xs) hx => h.fit hb1 hb2 hx)
  clear hsl hRES hc
  go_enter Try.func28, Try.ntmps28
  go_wp2_with fail
  go_loopg [7, 8] l.length (fun g v7 v8 wr => ∃ (p : Nat) (xs : List Rc), l.length ≤ p + g ∧ v8 = .int .i64 p ∧ ScI l base xs p ∧ OwnR wr w.heap.size v7 xs ∧ Below w.heap.size w wr)
  case atStart => exact ⟨0, [], by omega, rfl, ScI.start l base, OwnG.nil _ _, Below.refl _ _⟩
  case round =>
    obtain ⟨p, xs, hg, rfl, hI, hown, hb⟩ := hrel
    have hbd := hI.bound
    have HI := Lib.hid hI
    have O0 := Lib.hid hown
    have B0 := Lib.hid hb
    clear hI hown hb
    by_cases hp : p < l.length
    · have hp' : (p : Int) < (l.length : Int) := by omega
      obtain ⟨r, nx, er, hd⟩ : ∃ r nx er, rcDec l p = (r, nx, er) := ⟨_, _, _, rfl⟩
      have HDp := HD.out p wr (by omega) (HS.out.step B0.out)
      rw [hd] at HDp
      dsimp only at HDp
      have HX := Lib.hid HDp
      have HDD := Lib.hid hd
      clear HDp hd
      go_wp2_with fail
      refine HX.out.mono ?_
      rintro e w2 ⟨rfl, hb⟩
      have O2 := Lib.hid (O0.out.step hb)
      have B2 := Lib.hid (stepB B0.out hb)
      clear hb O0 B0 HX
      go_upto_region 5 with (refine S2.wpList_store_all (by rfl) 32 (.tmp 9) (.tmp 20) rfl rfl (w2.heap.size) (by first | rfl | go_simp) (rcC r) (by first | rfl | go_simp) 32 (rcC rcZ) (BK.new _ _ _) rcSize rfl (S2.all_one rfl) ?_; intro w3 hM hP; have hb3 : Below w2.heap.size w2 w3 := hP.below (S2.below_new _ _) (Nat.le_refl _); have E3 : Hid (BK 32 w3 w2.heap.size (rcC r)) := Lib.hid hM; have O3 := Lib.hid (O2.out.step hb3); have B3 := Lib.hid (stepB B2.out hb3); clear hb3; clear hM hP)
      clear O2 B2
      obtain ⟨A7, c7, rfl, _, _⟩ := O3.out.ret rcC_len
      by_cases he : er ≠ 0
      · obtain rfl : RES = (xs, p, er) := by rw [← HRES.out]; exact HI.out.stop_err hp HDD.out he
        have q : (er != 0) = true := by simp [he]
        clear he
        go_wp2_with fail
        go_ret3
        exact ⟨_, rfl, O3.out, B3.out⟩
      obtain rfl : er = 0 := by omega
      have hwr := HF.out xs HI.out.2.2.2.2.1 (by omega)
      have k0 := E3.out.cell 0 rfl
      by_cases ho : r.off = base + (xs.length : Int)
      · have q : (r.off != base + (xs.length : Int)) = false := by simp [ho]
        obtain ⟨q1, rfl, hq2, hq3, hqe, hqc, hI'⟩ := HI.out.next HDD.out ho
        have HI' := Lib.hid hI'
        have k1 := E3.out.cell 1 rfl
        have k2 := E3.out.cell 2 rfl
        have k3 := E3.out.cell 3 rfl
        clear hI' ho hqe hqc
        go_wp2_with (at_builtin; refine wpList_app1 rcC_len rcC_one (by decide) w3 rfl (.tmp 37) (.tmp 39) 37 rfl _ 48 Try.underlying37 rcInfo rfl (by decide) w.heap.size _ xs r rfl O3.out rfl w B3.out B3.out.size (by omega) ?_; intro v9 w4 own4 hb4 hs4)
        go_roundg (l.length - q1)
        case measure => omega
        case rel => exact ⟨q1, xs ++ [r], by omega, rfl, HI'.out, own4, hb4⟩
      · obtain rfl : RES = (xs, p, 22) := by rw [← HRES.out]; exact HI.out.stop_ord hp HDD.out ho
        have q : (r.off != base + (xs.length : Int)) = true := by simp [ho]
        clear ho
        go_wp2_with fail
        go_ret3
        exact ⟨_, rfl, O3.out, B3.out⟩
    · obtain rfl : RES = (xs, p, 0) := by rw [← HRES.out]; exact HI.out.stop_end hp
      have hp' : ¬ ((p : Int) < (l.length : Int)) := by omega
      go_wp2_with fail
      go_ret3
      exact ⟨_, rfl, O0.out, B0.out⟩

set_option maxRecDepth 20000 in
set_option maxHeartbeats 8000000 in
theorem sCheck_any (b n : Int) (A : Option Addr) (c : Nat) (l : List UInt8) (w : World) (hsl : CL bv w w.heap.size A l) (hc : l.length ≤ c) (hn : l.length ≤ 140737488355328) :
    Calls Try.prog 11 #[sgV b n A l.length c] w fun e w' => e = .returned (.int .i64 (sgCk b n l)) ∧ Below w.heap.size w w' := by
  unfold sgCk sgV
  by_cases h1 : b < 0
  · rw [if_pos (.inl h1)]
    go_enter Try.func11, Try.ntmps11
    go_upto_region 1 with fail
    refine name_world (C := fun w1 => Code.wp _ _ _ _ w1) (w.alloc (.cells (sgC b n A l.length c).toArray 24)) ?_
    intro w1 hw1
    have hb1 : Below w.heap.size w w1 := by rw [hw1]; exact S2.below_new w _
    have E1 : Hid (BK 24 w1 w.heap.size (sgC b n A l.length c)) := Lib.hid (by rw [hw1]; exact BK.new w _ _)
    have B1 := Lib.hid hb1
    have k0 := E1.out.cell 0 rfl
    have k1 := E1.out.cell 1 rfl
    have k2 := E1.out.cell 2 rfl
    clear hw1 hb1
    go_wp2_with fail
    go_ret
    exact ⟨rfl, B1.out⟩
  by_cases h2 : 1099511627776 < b
  · rw [if_pos (.inr h2)]
    go_enter Try.func11, Try.ntmps11
    go_upto_region 1 with fail
    refine name_world (C := fun w1 => Code.wp _ _ _ _ w1) (w.alloc (.cells (sgC b n A l.length c).toArray 24)) ?_
    intro w1 hw1
    have hb1 : Below w.heap.size w w1 := by rw [hw1]; exact S2.below_new w _
    have E1 : Hid (BK 24 w1 w.heap.size (sgC b n A l.length c)) := Lib.hid (by rw [hw1]; exact BK.new w _ _)
    have B1 := Lib.hid hb1
    have k0 := E1.out.cell 0 rfl
    have k1 := E1.out.cell 1 rfl
    have k2 := E1.out.cell 2 rfl
    clear hw1 hb1
    go_wp2_with fail
    go_ret
    exact ⟨rfl, B1.out⟩
  rw [if_neg (by omega)]
  by_cases h3 : 65536 < l.length
  · rw [if_pos h3]
    have h3' : (65536 : Int) < (l.length : Int) := by omega
    go_enter Try.func11, Try.ntmps11
    go_upto_region 1 with fail
    refine name_world (C := fun w1 => Code.wp _ _ _ _ w1) (w.alloc (.cells (sgC b n A l.length c).toArray 24)) ?_
    intro w1 hw1
    have hb1 : Below w.heap.size w w1 := by rw [hw1]; exact S2.below_new w _
    have E1 : Hid (BK 24 w1 w.heap.size (sgC b n A l.length c)) := Lib.hid (by rw [hw1]; exact BK.new w _ _)
    have B1 := Lib.hid hb1
    have k0 := E1.out.cell 0 rfl
    have k1 := E1.out.cell 1 rfl
    have k2 := E1.out.cell 2 rfl
    clear hw1 hb1
    go_wp2_with fail
    go_ret
    exact ⟨rfl, B1.out⟩
  rw [if_neg h3]
  have h3' : ¬ ((65536 : Int) < (l.length : Int)) := by omega
  have HX := Lib.hid (fun w h => scan_any A c l b w h hc (by omega) (by omega) (by omega))
  unfold RetSc at HX
  have hfin := (scR_fin l b).1
  have hbd := hfin.bound
  have hfit := hfin.2.2.2.2.1.fit (by omega) (by omega) (by omega)
  generalize scR l b = q at *
  obtain ⟨xs, p, e0⟩ := q
  dsimp only at *
  obtain ⟨CK, hck⟩ : ∃ z, (if e0 ≠ 0 then e0 else if n ≠ b + (xs.length : Int) then 1 else 0) = z := ⟨_, rfl⟩
  rw [hck]
  have HCK := Lib.hid hck
  have HSL := Lib.hid hsl
  clear hsl hfin hc hn hck
  go_enter Try.func11, Try.ntmps11
  go_upto_region 1 with fail
  refine name_world (C := fun w1 => Code.wp _ _ _ _ w1) (w.alloc (.cells (sgC b n A l.length c).toArray 24)) ?_
  intro w1 hw1
  have hb1 : Below w.heap.size w w1 := by rw [hw1]; exact S2.below_new w _
  have E1 : Hid (BK 24 w1 w.heap.size (sgC b n A l.length c)) := Lib.hid (by rw [hw1]; exact BK.new w _ _)
  have B1 := Lib.hid hb1
  have k0 := E1.out.cell 0 rfl
  have k1 := E1.out.cell 1 rfl
  have k2 := E1.out.cell 2 rfl
  clear hw1 hb1
  go_wp2_with fail
  refine (HX.out w1 (HSL.out.step B1.out)).mono ?_
  rintro e w2 ⟨v, rfl, own, hb⟩
  obtain ⟨A7, c7, rfl, _, _⟩ := own.ret rcC_len
  have B2 := Lib.hid (stepB B1.out hb)
  have E2 := Lib.hid (E1.out.step hb)
  clear own hb k0 k1 k2 E1 B1
  have k0 := E2.out.cell 0 rfl
  have k1 := E2.out.cell 1 rfl
  by_cases he : e0 ≠ 0
  · have q : (e0 != 0) = true := by simp [he]
    obtain rfl : CK = e0 := by rw [← HCK.out]; exact if_pos he
    go_wp2_with fail
    go_ret
    exact ⟨rfl, B2.out⟩
  obtain rfl : e0 = 0 := by omega
  by_cases hx : n ≠ b + (xs.length : Int)
  · obtain rfl : CK = 1 := by rw [← HCK.out, if_neg he]; exact if_pos hx
    have q : (n != b + (xs.length : Int)) = true := by simp [hx]
    go_wp2_with fail
    go_ret
    exact ⟨rfl, B2.out⟩
  obtain rfl : CK = 0 := by rw [← HCK.out, if_neg he]; exact if_neg hx
  have q : (n != b + (xs.length : Int)) = false := by simpa using hx
  go_wp2_with fail
  go_ret
  exact ⟨rfl, B2.out⟩

set_option maxRecDepth 20000 in
set_option maxHeartbeats 8000000 in
theorem rSgCheck_any (b n : Int) (A : Option Addr) (c : Nat) (l : List UInt8) (w : World) (hsl : CL bv w w.heap.size A l) (hc : l.length ≤ c) (hn : l.length ≤ 140737488355328) :
    Calls Try.prog 12 #[sgV b n A l.length c] w fun e w' => e = .returned (.int .i64 (sgCk b n l)) ∧ Below w.heap.size w w' := by
  unfold sgCk sgV
  by_cases h1 : b < 0
  · rw [if_pos (.inl h1)]
    go_enter Try.func12, Try.ntmps12
    go_upto_region 1 with fail
    refine name_world (C := fun w1 => Code.wp _ _ _ _ w1) (w.alloc (.cells (sgC b n A l.length c).toArray 24)) ?_
    intro w1 hw1
    have hb1 : Below w.heap.size w w1 := by rw [hw1]; exact S2.below_new w _
    have E1 : Hid (BK 24 w1 w.heap.size (sgC b n A l.length c)) := Lib.hid (by rw [hw1]; exact BK.new w _ _)
    have B1 := Lib.hid hb1
    have k0 := E1.out.cell 0 rfl
    have k1 := E1.out.cell 1 rfl
    have k2 := E1.out.cell 2 rfl
    clear hw1 hb1
    go_wp2_with fail
    go_ret
    exact ⟨rfl, B1.out⟩
  by_cases h2 : 1099511627776 < b
  · rw [if_pos (.inr h2)]
    go_enter Try.func12, Try.ntmps12
    go_upto_region 1 with fail
    refine name_world (C := fun w1 => Code.wp _ _ _ _ w1) (w.alloc (.cells (sgC b n A l.length c).toArray 24)) ?_
    intro w1 hw1
    have hb1 : Below w.heap.size w w1 := by rw [hw1]; exact S2.below_new w _
    have E1 : Hid (BK 24 w1 w.heap.size (sgC b n A l.length c)) := Lib.hid (by rw [hw1]; exact BK.new w _ _)
    have B1 := Lib.hid hb1
    have k0 := E1.out.cell 0 rfl
    have k1 := E1.out.cell 1 rfl
    have k2 := E1.out.cell 2 rfl
    clear hw1 hb1
    go_wp2_with fail
    go_ret
    exact ⟨rfl, B1.out⟩
  rw [if_neg (by omega)]
  by_cases h3 : 65536 < l.length
  · rw [if_pos h3]
    have h3' : (65536 : Int) < (l.length : Int) := by omega
    go_enter Try.func12, Try.ntmps12
    go_upto_region 1 with fail
    refine name_world (C := fun w1 => Code.wp _ _ _ _ w1) (w.alloc (.cells (sgC b n A l.length c).toArray 24)) ?_
    intro w1 hw1
    have hb1 : Below w.heap.size w w1 := by rw [hw1]; exact S2.below_new w _
    have E1 : Hid (BK 24 w1 w.heap.size (sgC b n A l.length c)) := Lib.hid (by rw [hw1]; exact BK.new w _ _)
    have B1 := Lib.hid hb1
    have k0 := E1.out.cell 0 rfl
    have k1 := E1.out.cell 1 rfl
    have k2 := E1.out.cell 2 rfl
    clear hw1 hb1
    go_wp2_with fail
    go_ret
    exact ⟨rfl, B1.out⟩
  rw [if_neg h3]
  have h3' : ¬ ((65536 : Int) < (l.length : Int)) := by omega
  have HD := Lib.hid (fun (p : Nat) w (hp : p ≤ l.length) h => rrDecode_any A c l p (by omega) (by omega) w h hc hn)
  unfold RetRD at HD
  obtain ⟨RES, hRES⟩ : ∃ r, scR l b = r := ⟨_, rfl⟩
  rw [hRES]
  obtain ⟨CK, hck⟩ : ∃ z, (if RES.2.2 ≠ 0 then RES.2.2 else if n ≠ b + (RES.1.length : Int) then 1 else 0) = z := ⟨_, rfl⟩
  rw [hck]
  have HCK := Lib.hid hck
  have HRES := Lib.hid hRES
  have HS := Lib.hid hsl
  clear hsl hRES hc hn hck
  go_enter Try.func12, Try.ntmps12
  go_upto_region 1 with fail
  refine name_world (C := fun w1 => Code.wp _ _ _ _ w1) (w.alloc (.cells (sgC b n A l.length c).toArray 24)) ?_
  intro w1 hw1
  have hb1 : Below w.heap.size w w1 := by rw [hw1]; exact S2.below_new w _
  have E1 : Hid (BK 24 w1 w.heap.size (sgC b n A l.length c)) := Lib.hid (by rw [hw1]; exact BK.new w _ _)
  have B1 := Lib.hid hb1
  have k0 := E1.out.cell 0 rfl
  have k1 := E1.out.cell 1 rfl
  have k2 := E1.out.cell 2 rfl
  clear hw1 hb1
  clear k1
  go_wp2_with fail
  go_loopg [3, 4] l.length (fun g v3 v4 wr => ∃ (p : Nat) (xs : List Rc), l.length ≤ p + g ∧ v3 = .int .i64 p ∧ v4 = .int .i64 (xs.length : Int) ∧ ScI l b xs p ∧ BK 24 wr w.heap.size (sgC b n A l.length c) ∧ Below w.heap.size w wr)
  case atStart => exact ⟨0, [], by omega, rfl, rfl, ScI.start l b, E1.out, B1.out⟩
  case round =>
    clear k0 k2 E1 B1
    obtain ⟨p, xs, hg, rfl, rfl, hI, hE, hb⟩ := hrel
    have hbd := hI.bound
    have HI := Lib.hid hI
    have E0 := Lib.hid hE
    have B0 := Lib.hid hb
    have k0 := hE.cell 0 rfl
    have k1 := hE.cell 1 rfl
    have k2 := hE.cell 2 rfl
    have hwr := hI.2.2.2.2.1.fit (by omega) (by omega) (by omega)
    clear hI hE hb
    by_cases hp : p < l.length
    · have hp' : (p : Int) < (l.length : Int) := by omega
      obtain ⟨r, nx, er, hd⟩ : ∃ r nx er, rcDec l p = (r, nx, er) := ⟨_, _, _, rfl⟩
      have HDp := HD.out p wr (by omega) (HS.out.step B0.out)
      rw [hd] at HDp
      dsimp only at HDp
      have HX := Lib.hid HDp
      have HDD := Lib.hid hd
      clear HDp hd
      go_wp2_with fail
      refine HX.out.mono ?_
      rintro e w2 ⟨rfl, hb⟩
      have E2 := Lib.hid (E0.out.step hb)
      have B2 := Lib.hid (stepB B0.out hb)
      clear hb E0 B0 HX k0 k1 k2
      go_upto_region 9 with (refine S2.wpList_store_all (by rfl) 32 (.tmp 5) (.tmp 30) rfl rfl (w2.heap.size) (by first | rfl | go_simp) (rcC r) (by first | rfl | go_simp) 32 (rcC rcZ) (BK.new _ _ _) rcSize rfl (S2.all_one rfl) ?_; intro w3 hM hP; have hb3 : Below w2.heap.size w2 w3 := hP.below (S2.below_new _ _) (Nat.le_refl _); have M3 : Hid (BK 32 w3 w2.heap.size (rcC r)) := Lib.hid hM; have E3 := Lib.hid (E2.out.step hb3); have B3 := Lib.hid (stepB B2.out hb3); clear hb3; clear hM hP)
      clear E2 B2
      have k0 := E3.out.cell 0 rfl
      have k2 := E3.out.cell 2 rfl
      have m0 := M3.out.cell 0 rfl
      by_cases he : er ≠ 0
      · obtain rfl : RES = (xs, p, er) := by rw [← HRES.out]; exact HI.out.stop_err hp HDD.out he
        have q : (er != 0) = true := by simp [he]
        obtain rfl : CK = er := by rw [← HCK.out]; exact if_pos he
        clear he
        go_wp2_with fail
        go_ret
        exact ⟨rfl, B3.out⟩
      obtain rfl : er = 0 := by omega
      by_cases ho : r.off = b + (xs.length : Int)
      · have q : (r.off != b + (xs.length : Int)) = false := by simp [ho]
        obtain ⟨q1, rfl, hq2, hq3, hqe, hqc, hI'⟩ := HI.out.next HDD.out ho
        have HI' := Lib.hid hI'
        have hw1 : wrap64 ((xs.length : Int) + 1) = (xs.length : Int) + 1 := wrap64_id _ (by omega) (by omega)
        clear hI' ho hqe hqc
        go_wp2_with fail
        go_roundg (l.length - q1)
        case measure => omega
        case rel => exact ⟨q1, xs ++ [r], by omega, rfl, by rw [List.length_append, List.length_singleton]; go_num, HI'.out, E3.out, B3.out⟩
      · obtain rfl : RES = (xs, p, 22) := by rw [← HRES.out]; exact HI.out.stop_ord hp HDD.out ho
        have q : (r.off != b + (xs.length : Int)) = true := by simp [ho]
        obtain rfl : CK = 22 := by rw [← HCK.out]; exact if_pos (show (22 : Int) ≠ 0 by decide)
        clear ho
        go_wp2_with fail
        go_ret
        exact ⟨rfl, B3.out⟩
    · obtain rfl : RES = (xs, p, 0) := by rw [← HRES.out]; exact HI.out.stop_end hp
      have hp' : ¬ ((p : Int) < (l.length : Int)) := by omega
      by_cases hx : n ≠ b + (xs.length : Int)
      · obtain rfl : CK = 1 := by rw [← HCK.out]; exact (if_neg (fun h => h rfl)).trans (if_pos hx)
        have q : (n != b + (xs.length : Int)) = true := by simp [hx]
        go_wp2_with fail
        go_ret
        exact ⟨rfl, B0.out⟩
      obtain rfl : CK = 0 := by rw [← HCK.out]; exact (if_neg (fun h => h rfl)).trans (if_neg hx)
      have q : (n != b + (xs.length : Int)) = false := by simpa using hx
      go_wp2_with fail
      go_ret
      exact ⟨rfl, B0.out⟩
end Go.Proofs.Ytbmeimpfehjnfaa
