/-
  Records and Recover of segment and of the specification; Size and Same of the specification of records. Conditions: the bytes read as data; at most 65536 bytes; the numbers fit an int.
-/
import Derived.Test.YtbmeimpfehjnfaaSgB
import Derived.Deep.RegionLaw
namespace Go.Proofs.Ytbmeimpfehjnfaa
open Go.RowKit
open S2 (BK Put get_ops exec_load)

set_option maxRecDepth 20000 in
set_option maxHeartbeats 4000000 in
theorem sRecords_any (b n : Int) (A : Option Addr) (c : Nat) (l : List UInt8) (w : World) (hsl : CL bv w w.heap.size A l) (hc : l.length ≤ c) (hn : l.length ≤ 65536) (hb1 : -9223372036854775808 ≤ b) (hb2 : b ≤ 9223372036854775807) :
    Calls Try.prog 19 #[sgV b n A l.length c] w fun e w' => ∃ v, e = .returned v ∧ OwnR w' w.heap.size v (scR l b).1 ∧ Below w.heap.size w w' := by
  have HX := Lib.hid (fun w h => scan_any A c l b w h hc hn hb1 hb2)
  unfold RetSc at HX
  generalize scR l b = q at *
  obtain ⟨xs, p, e0⟩ := q
  dsimp only at *
  have HSL := Lib.hid hsl
  clear hsl hc hn
  unfold sgV
  go_enter Try.func19, Try.ntmps19
  go_upto_region 1 with fail
  refine name_world (C := fun w1 => Code.wp _ _ _ _ w1) (w.alloc (.cells (sgC b n A l.length c).toArray 24)) ?_
  intro w1 hw1
  have hb1 : Below w.heap.size w w1 := by rw [hw1]; exact S2.below_new w _
  have E1 : Hid (BK 24 w1 w.heap.size (sgC b n A l.length c)) := Lib.hid (by rw [hw1]; exact BK.new w _ _)
  have B1 := Lib.hid hb1
  have k0 := E1.out.cell 0 rfl
  have k1 := E1.out.cell 1 rfl
  have k2 := E1.out.cell 2 rfl
  clear hw1 hb1
  go_wp2_with fail
  refine (HX.out w1 (HSL.out.step B1.out)).mono ?_
  rintro e w2 ⟨v, rfl, own, hb⟩
  have O2 := Lib.hid (own.weak B1.out.size)
  have B2 := Lib.hid (stepB B1.out hb)
  clear own hb k0 k1 k2 E1 B1
  go_wp2_with fail
  go_ret
  exact ⟨_, rfl, O2.out, B2.out⟩

set_option maxRecDepth 20000 in
set_option maxHeartbeats 8000000 in
theorem rSgRecords_any (b n : Int) (A : Option Addr) (c : Nat) (l : List UInt8) (rs : List Rc) (w : World) (hsl : CL bv w w.heap.size A l) (hc : l.length ≤ c) (hn : l.length ≤ 65536) (hv : scR l b = (rs, l.length, 0)) :
    Calls Try.prog 20 #[sgV b n A l.length c] w fun e w' => ∃ v, e = .returned v ∧ OwnR w' w.heap.size v rs ∧ Below w.heap.size w w' := by
  have HD := Lib.hid (fun (p : Nat) w (hp : p ≤ l.length) h => rrDecode_any A c l p (by omega) (by omega) w h hc (by omega))
  unfold RetRD at HD
  have HV := Lib.hid hv
  have HS := Lib.hid hsl
  clear hsl hc hv
  unfold sgV
  go_enter Try.func20, Try.ntmps20
  go_upto_region 1 with fail
  refine name_world (C := fun w1 => Code.wp _ _ _ _ w1) (w.alloc (.cells (sgC b n A l.length c).toArray 24)) ?_
  intro w1 hw1
  have hb1 : Below w.heap.size w w1 := by rw [hw1]; exact S2.below_new w _
  have E1 : Hid (BK 24 w1 w.heap.size (sgC b n A l.length c)) := Lib.hid (by rw [hw1]; exact BK.new w _ _)
  have B1 := Lib.hid hb1
  have k0 := E1.out.cell 0 rfl
  have k1 := E1.out.cell 1 rfl
  have k2 := E1.out.cell 2 rfl
  clear hw1 hb1
  clear k0 k1
  go_wp2_with fail
  go_loopg [3, 4] l.length (fun g v3 v4 wr => ∃ (p : Nat) (xs : List Rc), l.length ≤ p + g ∧ v4 = .int .i64 p ∧ ScI l b xs p ∧ BK 24 wr w.heap.size (sgC b n A l.length c) ∧ OwnR wr w1.heap.size v3 xs ∧ Below w1.heap.size w1 wr ∧ w1.heap.size ≤ wr.heap.size)
  case atStart => exact ⟨0, [], by omega, rfl, ScI.start l b, E1.out, OwnG.nil _ _, Below.refl _ _, Nat.le_refl _⟩
  case round =>
    clear k2
    obtain ⟨p, xs, hg, rfl, hI, hE, hown, hb, hs⟩ := hrel
    have hbd := hI.bound
    have HI := Lib.hid hI
    have E0 := Lib.hid hE
    have O0 := Lib.hid hown
    have B0 := Lib.hid hb
    have Z0 := Lib.hid hs
    have k2 := hE.cell 2 rfl
    clear hI hE hown hb hs
    by_cases hp : p < l.length
    · have hp' : (p : Int) < (l.length : Int) := by omega
      obtain ⟨r, nx, er, hd⟩ : ∃ r nx er, rcDec l p = (r, nx, er) := ⟨_, _, _, rfl⟩
      have HDp := HD.out p wr (by omega) (HS.out.step (stepB B1.out B0.out))
      rw [hd] at HDp
      dsimp only at HDp
      have HX := Lib.hid HDp
      have he : er = 0 := by
        by_cases he : er = 0
        · exact he
        · have := HI.out.stop_err hp hd he
          rw [HV.out] at this
          simp only [Prod.mk.injEq] at this
          exact absurd this.2.2.symm he
      subst he
      have ho : r.off = b + (xs.length : Int) := by
        by_cases ho : r.off = b + (xs.length : Int)
        · exact ho
        · have := HI.out.stop_ord hp hd ho
          rw [HV.out] at this
          simp at this
      obtain ⟨q1, hnx, hq2, hq3, hqe, hqc, hI'⟩ := HI.out.next hd ho
      subst hnx
      have HI' := Lib.hid hI'
      clear HDp hd ho hqe hqc hI'
      go_wp2_with fail
      refine HX.out.mono ?_
      rintro e w2 ⟨rfl, hb⟩
      have E2 := Lib.hid (E0.out.step hb)
      have O2 := Lib.hid (O0.out.step hb)
      have B2 := Lib.hid (B0.out.trans (hb.mono Z0.out))
      have Z2 := Lib.hid (Nat.le_trans Z0.out hb.size)
      clear hb E0 O0 B0 Z0 HX k2
      go_upto_region 7 with (refine S2.wpList_store_all (by rfl) 32 (.tmp 5) (.tmp 18) rfl rfl (w2.heap.size) (by first | rfl | go_simp) (rcC r) (by first | rfl | go_simp) 32 (rcC rcZ) (BK.new _ _ _) rcSize rfl (S2.all_one rfl) ?_; intro w3 hM hP; have hb3 : Below w2.heap.size w2 w3 := hP.below (S2.below_new _ _) (Nat.le_refl _); have M3 : Hid (BK 32 w3 w2.heap.size (rcC r)) := Lib.hid hM; have E3 := Lib.hid (E2.out.step hb3); have O3 := Lib.hid (O2.out.step hb3); have B3 := Lib.hid (B2.out.trans (hb3.mono Z2.out)); have Z3 := Lib.hid (Nat.le_trans Z2.out hb3.size); clear hb3; clear hM hP)
      clear E2 O2 B2 Z2
      have m0 := M3.out.cell 0 rfl
      have m1 := M3.out.cell 1 rfl
      have m2 := M3.out.cell 2 rfl
      have m3 := M3.out.cell 3 rfl
      go_wp2_with (at_builtin; refine wpList_app1 rcC_len rcC_one (by decide) w3 rfl (.tmp 24) (.tmp 26) 37 rfl _ 48 Try.underlying37 rcInfo rfl (by decide) w1.heap.size _ xs r rfl O3.out rfl w1 B3.out Z3.out (by omega) ?_; intro v9 w4 own4 hb4 hs4; have E4 := Lib.hid (E1.out.step hb4))
      go_roundg (l.length - q1)
      case measure => omega
      case rel => exact ⟨q1, xs ++ [r], by omega, rfl, HI'.out, E4.out, own4, hb4, hs4⟩
    · have hp' : ¬ ((p : Int) < (l.length : Int)) := by omega
      have hx : xs = rs := by
        have := HI.out.stop_end hp
        rw [HV.out] at this
        simp only [Prod.mk.injEq] at this
        exact this.1.symm
      subst hx
      go_wp2_with fail
      go_ret
      exact ⟨_, rfl, O0.out.weak B1.out.size, stepB B1.out B0.out⟩

set_option maxHeartbeats 4000000 in
theorem rrSize_any (r : Rc) (w : World) (hz : r.key.size ≤ 5000 ∧ r.val.size ≤ 5000) :
    Calls Try.prog 27 #[rcV r] w fun e w' => e = .returned (.int .i64 ((rcEnc r).length : Int)) ∧ Below w.heap.size w w' := by
  have HE := Lib.hid (fun w => rrEncode_any r w hz)
  unfold RetRE at HE
  generalize rcEnc r = T at *
  generalize rcCk r = x at *
  clear hz
  unfold rcV
  go_enter Try.func27, Try.ntmps27
  go_upto_region 1 with fail
  refine name_world (C := fun w1 => Code.wp _ _ _ _ w1) (w.alloc (.cells (rcC r).toArray 32)) ?_
  intro w1 hw1
  have B1 := Lib.hid (show Below w.heap.size w w1 by rw [hw1]; exact S2.below_new w _)
  have E1 : Hid (BK 32 w1 w.heap.size (rcC r)) := Lib.hid (by rw [hw1]; exact BK.new w _ _)
  have k0 := E1.out.cell 0 rfl
  have k1 := E1.out.cell 1 rfl
  have k2 := E1.out.cell 2 rfl
  have k3 := E1.out.cell 3 rfl
  clear hw1
  go_wp2_with fail
  refine (HE.out w1).mono ?_
  rintro e w2 ⟨v2, rfl, own2, hb⟩
  obtain ⟨A2, c2, rfl, _, sl2⟩ := own2.ret
  have B2 := Lib.hid (stepB B1.out hb)
  clear hb own2 sl2 k0 k1 k2 k3
  go_wp2_with fail
  go_ret
  exact ⟨rfl, B2.out⟩
theorem neqRc_self (o k : Int) (s v : ByteArray) (w : World) : Sem.run Try.prog (binOp .neq 32 (.agg #[.int .i64 o, .int .i64 k, .string s, .string v]) (.agg #[.int .i64 o, .int .i64 k, .string s, .string v])) w = .ok (.bool false) w := by
  have h := eqRc_self o k s v w
  rw [run_eql_struct] at h
  rw [run_neq_struct]
  generalize Sem.run Try.prog (Op.equalIn 10000 32 _ _) w = r at h ⊢
  cases r with
  | ok v w' =>
    simp only [Result.andThen, Result.ok.injEq, Value.bool.injEq] at h ⊢
    obtain ⟨rfl, rfl⟩ := h
    exact ⟨rfl, rfl⟩
  | halt x w' => simp [Result.andThen] at h
abbrev RcL (w : World) (B : Nat) (A : Option Addr) (xs : List Rc) : Prop := GL rcC 4 w B A xs
theorem GL.at4 {w : World} {B : Nat} {A : Option Addr} {xs : List Rc} (h : RcL w B A xs) {j : Nat} {x : Rc} (hx : xs[j]? = some x) :
    ∃ b o, A = some ⟨b, o, none⟩ ∧ b < B ∧ ∀ i v, (rcC x)[i]? = some v → w.cell? ⟨b, o + j * 4 + i, none⟩ = some v := by
  obtain ⟨b, o, e, hb, hc⟩ := h (Nat.lt_of_le_of_lt (Nat.zero_le _) (List.getElem?_eq_some_iff.1 hx).1)
  exact ⟨b, o, e, hb, fun i v hv => hc j x i v hx hv⟩

set_option maxRecDepth 20000 in
set_option maxHeartbeats 8000000 in
theorem sameRs_any (A A' : Option Addr) (c c' : Nat) (xs : List Rc) (w : World) (hx : RcL w w.heap.size A xs) (hy : RcL w w.heap.size A' xs) (hn : xs.length ≤ 1000000) :
    Calls Try.prog 18 #[.slice A xs.length c, .slice A' xs.length c'] w fun e w' => e = .returned (.bool true) ∧ Below w.heap.size w w' := by
  have HX := Lib.hid hx
  have HY := Lib.hid hy
  clear hx hy
  go_enter Try.func18, Try.ntmps18
  go_wp2_with fail
  go_loopg [5] xs.length (fun g v wr => ∃ k : Nat, k + g = xs.length ∧ v = .int .i64 k ∧ Below w.heap.size w wr)
  case atStart => exact ⟨0, by omega, rfl, Below.refl _ _⟩
  case round =>
    obtain ⟨k, hkg, rfl, hb⟩ := hrel
    have B_wr := Lib.hid hb
    clear hb
    cases gk with
    | zero =>
      obtain rfl : k = xs.length := by omega
      have e3 : ¬ ((xs.length : Int) < (xs.length : Int)) := by omega
      go_wp2_with fail
      go_ret
      exact ⟨rfl, B_wr.out⟩
    | succ g =>
      have hlt : k < xs.length := by omega
      have e3 : (k : Int) < (xs.length : Int) := by omega
      obtain ⟨x, hx⟩ : ∃ x, xs[k]? = some x := ⟨_, List.getElem?_eq_getElem hlt⟩
      obtain ⟨b, o, hA, hbB, hc⟩ := GL.at4 (HX.out.step B_wr.out) hx
      subst hA
      obtain ⟨b2, o2, hA2, hbB2, hc2⟩ := GL.at4 (HY.out.step B_wr.out) hx
      subst hA2
      have j1 : (0 : Int) ≤ (k : Int) := by omega
      have X_wr : Hid (∀ i v, (rcC x)[i]? = some v → wr.cell? ⟨b, o + k * 4 + i, none⟩ = some v) := Lib.hid hc
      have Y_wr : Hid (∀ i v, (rcC x)[i]? = some v → wr.cell? ⟨b2, o2 + k * 4 + i, none⟩ = some v) := Lib.hid hc2
      have hnq := neqRc_self x.off x.kind x.key x.val
      have hgd := guardRc
      have HKG := Lib.hid hkg
      clear hc hc2 hx hbB hbB2 hkg
      go_upto_region 6 with fail
      have kx0 : wr.cell? ⟨b, o + k * 4, none⟩ = some (.int .i64 x.off) := X_wr.out 0 _ rfl
      have kx1 : wr.cell? ⟨b, o + k * 4 + 1, none⟩ = some (.int .i64 x.kind) := X_wr.out 1 _ rfl
      have kx2 : wr.cell? ⟨b, o + k * 4 + 2, none⟩ = some (.string x.key) := X_wr.out 2 _ rfl
      have kx3 : wr.cell? ⟨b, o + k * 4 + 3, none⟩ = some (.string x.val) := X_wr.out 3 _ rfl
      have ky0 : wr.cell? ⟨b2, o2 + k * 4, none⟩ = some (.int .i64 x.off) := Y_wr.out 0 _ rfl
      have ky1 : wr.cell? ⟨b2, o2 + k * 4 + 1, none⟩ = some (.int .i64 x.kind) := Y_wr.out 1 _ rfl
      have ky2 : wr.cell? ⟨b2, o2 + k * 4 + 2, none⟩ = some (.string x.key) := Y_wr.out 2 _ rfl
      have ky3 : wr.cell? ⟨b2, o2 + k * 4 + 3, none⟩ = some (.string x.val) := Y_wr.out 3 _ rfl
      clear X_wr Y_wr
      go_wp2_with fail
      go_region
      go_wp2_with fail
      go_roundg g
      case measure => omega
      case rel => exact ⟨k + 1, by have := HKG.out; omega, by go_num, B_wr.out.drew⟩
end Go.Proofs.Ytbmeimpfehjnfaa
