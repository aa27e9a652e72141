/-
  What Decode of the specification of records answers. Conditions: the place fits an int; so many bytes fit a slice.
-/
import Derived.Test.YtbmeimpfehjnfaaRcC
import Derived.Test.YtbmeimpfehjnfaaRcR
namespace Go.Proofs.Ytbmeimpfehjnfaa
open Go.RowKit
open S2 (BK Put get_ops exec_load)

def RetRD (r : Rc × Int × Int) (W : World) (e : Ending) (w' : World) : Prop := e = .returned (.tuple #[rcV r.1, .int .i64 r.2.1, .int .i64 r.2.2]) ∧ Below W.heap.size W w'
theorem rcSize : (Try.prog.info? 32).map (·.size) = some 4 := by kernel_rfl
theorem rcC_one (r : Rc) : ∀ u ∈ rcC r, u.oneCell' = true := S2.all_one rfl
theorem res_ctt {P : Program} {fn : Func} {p q s : Tmp} {ty : TypeId} (h : fn.results = #[.cell p ty, .tmp q, .tmp s]) (tmps : Array Value) (w : World) (g : Nat) (t : TypeId) (vs : List Value) (d : TypeDesc) (v u : Value)
    (hp : tmps.getD p undef = .pointer (some ⟨g, 0, none⟩)) (hq : tmps.getD q undef = v) (hs : tmps.getD s undef = u) (hg : BK t w g vs)
    (hu : P.underlying ty = some d) (hd : (match d with | .struct _ | .array _ _ => true | _ => false) = true) (hi : (P.info? ty).map (·.size) = some vs.length) :
    (results fn tmps).run P w = .ok (.tuple #[.agg vs.toArray, v, u]) w := by
  have hp' : tmps[p]?.getD undef = .pointer (some ⟨g, 0, none⟩) := by simpa using hp
  have hq' : tmps[q]?.getD undef = v := by simpa using hq
  have hs' : tmps[s]?.getD undef = u := by simpa using hs
  simp [results, h, hp', hq', hs', asAddr, S2.run_load_all hg hu hd hi]
theorem sText_size {l : List UInt8} (hn : l.length ≤ 140737488355328) (limit : Int) (st : Int × Int) : (sText l limit st).1.size ≤ l.length := by
  unfold sText
  split
  · exact Nat.zero_le _
  split
  · exact Nat.zero_le _
  exact (textR_fit hn _ _).2
theorem rcRd_s {T : List UInt8} {n k pos er : Int} {s1 s2 s3 : Int × Int} {ky vl : ByteArray} (h1 : sNum T (0, 0) = (n, s1)) (h2 : sNum T s1 = (k, s2)) (h3 : sText T 64 s2 = (ky, s3)) (h4 : sText T 4096 s3 = (vl, (pos, er))) :
    rcRd T = if er ≠ 0 then (rcZ, er) else if pos < T.length then (rcZ, 2) else if rcCk ⟨n, k, ky, vl⟩ ≠ 0 then (rcZ, rcCk ⟨n, k, ky, vl⟩) else (⟨n, k, ky, vl⟩, 0) := by
  unfold rcRd
  by_cases c0 : (numR T 0).2.2 ≠ 0
  · simp only [sNum, ne_eq, not_true, if_false, c0, not_false_eq_true, if_true, Prod.mk.injEq] at h1
    obtain ⟨rfl, rfl⟩ := h1
    simp only [sNum, ne_eq, c0, not_false_eq_true, if_true, Prod.mk.injEq] at h2
    obtain ⟨rfl, rfl⟩ := h2
    simp only [sText, ne_eq, c0, not_false_eq_true, if_true, Prod.mk.injEq] at h3
    obtain ⟨rfl, rfl⟩ := h3
    simp only [sText, ne_eq, c0, not_false_eq_true, if_true, Prod.mk.injEq] at h4
    obtain ⟨rfl, rfl, rfl⟩ := h4
    rw [if_pos c0, if_pos c0]
  rw [if_neg c0]
  simp only [sNum, ne_eq, not_true, if_false, c0, Prod.mk.injEq] at h1
  obtain ⟨rfl, rfl⟩ := h1
  by_cases c1 : (numR T (numR T 0).2.1).2.2 ≠ 0
  · simp only [sNum, ne_eq, not_true, if_false, c1, not_false_eq_true, if_true, Prod.mk.injEq] at h2
    obtain ⟨rfl, rfl⟩ := h2
    simp only [sText, ne_eq, c1, not_false_eq_true, if_true, Prod.mk.injEq] at h3
    obtain ⟨rfl, rfl⟩ := h3
    simp only [sText, ne_eq, c1, not_false_eq_true, if_true, Prod.mk.injEq] at h4
    obtain ⟨rfl, rfl, rfl⟩ := h4
    rw [if_pos c1, if_pos c1]
  rw [if_neg c1]
  simp only [sNum, ne_eq, not_true, if_false, c1, Prod.mk.injEq] at h2
  obtain ⟨rfl, rfl⟩ := h2
  by_cases c2 : (textR T (numR T (numR T 0).2.1).2.1 64).2.2 ≠ 0
  · simp only [sText, ne_eq, not_true, if_false, c2, not_false_eq_true, if_true, Prod.mk.injEq] at h3
    obtain ⟨rfl, rfl⟩ := h3
    simp only [sText, ne_eq, c2, not_false_eq_true, if_true, Prod.mk.injEq] at h4
    obtain ⟨rfl, rfl, rfl⟩ := h4
    rw [if_pos c2, if_pos c2]
  rw [if_neg c2]
  simp only [sText, ne_eq, not_true, if_false, c2, Prod.mk.injEq] at h3
  obtain ⟨rfl, rfl⟩ := h3
  by_cases c3 : (textR T (textR T (numR T (numR T 0).2.1).2.1 64).2.1 4096).2.2 ≠ 0
  · simp only [sText, ne_eq, not_true, if_false, c3, not_false_eq_true, if_true, Prod.mk.injEq] at h4
    obtain ⟨rfl, rfl, rfl⟩ := h4
    rw [if_pos c3, if_pos c3]
  rw [if_neg c3]
  simp only [sText, ne_eq, not_true, if_false, c3, Prod.mk.injEq] at h4
  obtain ⟨rfl, rfl, rfl⟩ := h4
  rw [if_neg (show ¬ ((0 : Int) ≠ 0) from fun h => h rfl)]

set_option maxRecDepth 20000 in
set_option maxHeartbeats 8000000 in
theorem rrDecode_any (A : Option Addr) (c : Nat) (l : List UInt8) (p : Int) (hp1 : -9223372036854775808 ≤ p) (hp2 : p ≤ 9223372036854775807) (w : World) (hsl : CL bv w w.heap.size A l) (hc : l.length ≤ c) (hn : l.length ≤ 140737488355328) :
    Calls Try.prog 29 #[.slice A l.length c, .int .i64 p] w (RetRD (rcDec l p) w) := by
  have HN := Lib.hid (fun w1 h => rNext_any A c l p hp1 hp2 w1 h hc hn)
  have HS := Lib.hid hsl
  obtain ⟨RES, hRES⟩ : ∃ r, rcDec l p = r := ⟨_, rfl⟩
  rw [hRES]
  unfold rcDec at hRES
  unfold RetN at HN
  have hok : ∀ T nx, nextR l p = (T, nx, 0) → T.length ≤ 65536 := fun T nx h => by obtain ⟨_, _, _, _, _, _, h5, _⟩ := nextR_ok h; exact h5
  generalize nextR l p = q at *
  obtain ⟨T, nx, er⟩ := q
  dsimp only at *
  have HRES := Lib.hid hRES
  clear hsl hp1 hp2 hc hn hRES
  go_enter Try.func29, Try.ntmps29
  go_upto_region 1 with fail
  refine name_world (C := fun w1 => Code.wp _ _ _ _ w1) (w.alloc (.cells (rcC rcZ).toArray 32)) ?_
  intro w1 hw1
  have B1 := Lib.hid (show Below w.heap.size w w1 by rw [hw1]; exact S2.below_new w _)
  have E1 : Hid (BK 32 w1 w.heap.size (rcC rcZ)) := Lib.hid (by rw [hw1]; exact BK.new w _ _)
  clear hw1
  go_wp2_with fail
  refine (HN.out w1 (HS.out.step B1.out)).mono ?_
  rintro e w2 ⟨v2, rfl, own2, hb⟩
  obtain ⟨A2, c2, rfl, hc2, sl2⟩ := own2.ret
  have B2 := Lib.hid (stepB B1.out hb)
  have E2 := Lib.hid (E1.out.step hb)
  have L2 := Lib.hid sl2
  have C2 := Lib.hid hc2
  have hg2 : w.heap.size + 1 ≤ w2.heap.size := by have := E2.out.lt; omega
  have G2 := Lib.hid hg2
  clear hb own2 sl2 hc2 hg2 HN HS
  by_cases he : er ≠ 0
  · obtain rfl : RES = (rcZ, 0, er) := by rw [← HRES.out]; exact if_pos he
    have q : (er != 0) = true := by simp [he]
    clear he hok
    go_wp2_with (refine S2.wpList_store_all (by rfl) 32 (.tmp 4) (.tmp 21) rfl rfl (w.heap.size) (by first | rfl | go_simp) (rcC rcZ) (by first | rfl | go_simp) 32 (rcC rcZ) E2.out rcSize rfl (rcC_one _) ?_; intro w3 hM hP; have E3 : Hid (BK 32 w3 w.heap.size (rcC rcZ)) := Lib.hid hM; have B3 := Lib.hid (hP.below B2.out (Nat.le_refl _)); clear hM hP)
    exact bodyPost_ret (v := .tuple #[rcV rcZ, .int .i64 0, .int .i64 er]) (res_ctt rfl _ _ w.heap.size 32 (rcC rcZ) _ _ _ rfl rfl rfl E3.out Try.underlying32 rfl rcSize) rfl ⟨rfl, B3.out⟩
  obtain rfl : er = 0 := by omega
  have hT := hok T nx rfl
  clear hok
  obtain ⟨R, hR⟩ : ∃ R, R = w2.heap.size := ⟨_, rfl⟩
  have HR := Lib.hid hR
  have HT := Lib.hid hT
  clear hR hT
  go_upto_region 5 with fail
  refine name_world (C := fun w1 => Code.wp _ _ _ _ w1) (w2.alloc (.cells #[.slice A2 T.length c2, .int .i64 0, .int .i64 0] 63)) ?_
  intro w3 hw3
  have hb3 : Below w2.heap.size w2 w3 := by rw [hw3]; exact S2.below_new w2 _
  have B3 := Lib.hid (stepB B2.out hb3)
  have E3 := Lib.hid (E2.out.step hb3)
  have hz3 : w3.heap.size = R + 1 := by rw [hw3, HR.out]; simp
  have D3 : Hid (RD 63 w3 R A2 c2 T (0, 0)) := Lib.hid ⟨by rw [hw3, HR.out]; exact heap_alloc_new w2 _, fit0⟩
  have S3 : Hid (CL bv w3 R A2 T) := Lib.hid (by rw [HR.out]; exact L2.out.below hb3)
  have GR : Hid (w.heap.size + 1 ≤ R) := Lib.hid (by rw [HR.out]; exact G2.out)
  have Z3 := Lib.hid hz3
  simp only [← HR.out]
  clear hw3 hb3 hz3 B2 E2 L2 G2 B1 E1 HR
  go_upto_region 6 with fail
  refine name_world (C := fun w1 => Code.wp _ _ _ _ w1) (w3.alloc (.cells (rcC rcZ).toArray 32)) ?_
  intro w4 hw4
  have hbn : Below w3.heap.size w3 w4 := by rw [hw4]; exact S2.below_new w3 _
  have E4 : Hid (BK 32 w4 w.heap.size (rcC rcZ)) := Lib.hid (E3.out.step hbn)
  have M4 : Hid (BK 32 w4 (R + 1) (rcC rcZ)) := Lib.hid (by rw [hw4, ← Z3.out]; exact BK.new w3 _ _)
  have D4 : Hid (RD 63 w4 R A2 c2 T (0, 0)) := Lib.hid (D3.out.to (hbn.block _ D3.out.lt))
  have B4 : Hid (Below w.heap.size w w4) := Lib.hid (stepB B3.out hbn)
  have S4 : Hid (CL bv w4 R A2 T) := Lib.hid (S3.out.below (hbn.mono (by rw [Z3.out]; omega)))
  clear hbn hw4
  simp only [Z3.out]
  clear Z3 B3 E3 D3 S3
  have hn2 : T.length ≤ 140737488355328 := by have := HT.out; omega
  have z3 := sText_size hn2 64
  have z4 := sText_size hn2 4096
  have HC1 := Lib.hid (fun w h hs => sNum_any R A2 c2 T (0, 0) w h hs C2.out hn2)
  generalize h1 : sNum T (0, 0) = a1 at *
  obtain ⟨n, s1⟩ := a1
  have HC2 := Lib.hid (fun w h hs => sNum_any R A2 c2 T s1 w h hs C2.out hn2)
  generalize h2 : sNum T s1 = a2 at *
  obtain ⟨k, s2⟩ := a2
  have HC3 := Lib.hid (fun w h hs => sText_any R A2 c2 T 64 s2 w h hs C2.out hn2)
  have z3 := z3 s2
  generalize h3 : sText T 64 s2 = a3 at *
  obtain ⟨ky, s3⟩ := a3
  have HC4 := Lib.hid (fun w h hs => sText_any R A2 c2 T 4096 s3 w h hs C2.out hn2)
  have z4 := z4 s3
  generalize h4 : sText T 4096 s3 = a4 at *
  obtain ⟨vl, pos, ef⟩ := a4
  dsimp only at *
  obtain ⟨ck, hce⟩ : ∃ x, rcCk ⟨n, k, ky, vl⟩ = x := ⟨_, rfl⟩
  have HP := Lib.hid (rcRd_s h1 h2 h3 h4)
  have HCK := Lib.hid (fun w => rrCheck_any ⟨n, k, ky, vl⟩ w (by dsimp only; omega))
  rw [hce] at HP HCK
  have HR2 := Lib.hid (HRES.out.symm.trans (if_neg he))
  clear HRES he hce h1 h2 h3 h4 z3 z4 hn2
  go_wp2_with fail
  refine (HC1.out w4 D4.out S4.out).mono ?_
  rintro e w5 ⟨rfl, hd, hk⟩
  have E5 := Lib.hid (E4.out.keep (show w.heap.size < R by have := GR.out; omega) hk.1)
  have M5 : Hid (BK 32 w5 (R + 1) [.int .i64 0, .int .i64 0, .string ⟨#[]⟩, .string ⟨#[]⟩]) := Lib.hid ((hk.2 (R + 1) M4.out.lt (by omega)).trans M4.out)
  have D5 := Lib.hid hd
  have S5 := Lib.hid (S4.out.below hk.1)
  have B5 := Lib.hid (B4.out.trans (hk.1.mono (show w.heap.size ≤ R by have := GR.out; omega)))
  have p0 := M5.out.cell 0 rfl
  have z0 := M5.out.free 0
  clear hd hk E4 M4 D4 S4 B4 HC1
  go_upto_region 7 with fail
  refine name_world (C := fun w1 => Code.wp _ _ _ _ w1) (w5.setCell ⟨R + 1, 0, none⟩ (.int .i64 n)) ?_
  intro w6 hw
  have E6 : Hid (BK 32 w6 w.heap.size (rcC rcZ)) := Lib.hid (by rw [hw]; exact E5.out.other (by have := GR.out; show w.heap.size ≠ R + 1; omega) _)
  have M6 : Hid (BK 32 w6 (R + 1) [.int .i64 n, .int .i64 0, .string ⟨#[]⟩, .string ⟨#[]⟩]) := Lib.hid (by rw [hw]; exact M5.out.set 0 _)
  have D6 : Hid (RD 63 w6 R A2 c2 T s1) := Lib.hid (by rw [hw]; exact D5.out.to (heap_setCell_other _ _ _ _ (by show R ≠ R + 1; omega)))
  have S6 : Hid (CL bv w6 R A2 T) := Lib.hid (by rw [hw]; exact S5.out.below (Below.setCell (p := ⟨R + 1, 0, none⟩) (Below.refl R _) (by show R ≤ R + 1; omega) _))
  have B6 : Hid (Below w.heap.size w w6) := Lib.hid (by rw [hw]; exact Below.setCell (p := ⟨R + 1, 0, none⟩) B5.out (by have := GR.out; show w.heap.size ≤ R + 1; omega) _)
  clear hw p0 z0 E5 M5 D5 S5 B5
  go_wp2_with fail
  refine (HC2.out w6 D6.out S6.out).mono ?_
  rintro e w7 ⟨rfl, hd, hk⟩
  have E7 := Lib.hid (E6.out.keep (show w.heap.size < R by have := GR.out; omega) hk.1)
  have M7 : Hid (BK 32 w7 (R + 1) [.int .i64 n, .int .i64 0, .string ⟨#[]⟩, .string ⟨#[]⟩]) := Lib.hid ((hk.2 (R + 1) M6.out.lt (by omega)).trans M6.out)
  have D7 := Lib.hid hd
  have S7 := Lib.hid (S6.out.below hk.1)
  have B7 := Lib.hid (B6.out.trans (hk.1.mono (show w.heap.size ≤ R by have := GR.out; omega)))
  have p0 := M7.out.cell 1 rfl
  have z0 := M7.out.free 1
  clear hd hk E6 M6 D6 S6 B6 HC2
  go_upto_region 8 with fail
  refine name_world (C := fun w1 => Code.wp _ _ _ _ w1) (w7.setCell ⟨R + 1, 1, none⟩ (.int .i64 k)) ?_
  intro w8 hw
  have E8 : Hid (BK 32 w8 w.heap.size (rcC rcZ)) := Lib.hid (by rw [hw]; exact E7.out.other (by have := GR.out; show w.heap.size ≠ R + 1; omega) _)
  have M8 : Hid (BK 32 w8 (R + 1) [.int .i64 n, .int .i64 k, .string ⟨#[]⟩, .string ⟨#[]⟩]) := Lib.hid (by rw [hw]; exact M7.out.set 1 _)
  have D8 : Hid (RD 63 w8 R A2 c2 T s2) := Lib.hid (by rw [hw]; exact D7.out.to (heap_setCell_other _ _ _ _ (by show R ≠ R + 1; omega)))
  have S8 : Hid (CL bv w8 R A2 T) := Lib.hid (by rw [hw]; exact S7.out.below (Below.setCell (p := ⟨R + 1, 1, none⟩) (Below.refl R _) (by show R ≤ R + 1; omega) _))
  have B8 : Hid (Below w.heap.size w w8) := Lib.hid (by rw [hw]; exact Below.setCell (p := ⟨R + 1, 1, none⟩) B7.out (by have := GR.out; show w.heap.size ≤ R + 1; omega) _)
  clear hw p0 z0 E7 M7 D7 S7 B7
  go_wp2_with fail
  refine (HC3.out w8 D8.out S8.out).mono ?_
  rintro e w9 ⟨rfl, hd, hk⟩
  have E9 := Lib.hid (E8.out.keep (show w.heap.size < R by have := GR.out; omega) hk.1)
  have M9 : Hid (BK 32 w9 (R + 1) [.int .i64 n, .int .i64 k, .string ⟨#[]⟩, .string ⟨#[]⟩]) := Lib.hid ((hk.2 (R + 1) M8.out.lt (by omega)).trans M8.out)
  have D9 := Lib.hid hd
  have S9 := Lib.hid (S8.out.below hk.1)
  have B9 := Lib.hid (B8.out.trans (hk.1.mono (show w.heap.size ≤ R by have := GR.out; omega)))
  have p0 := M9.out.cell 2 rfl
  have z0 := M9.out.free 2
  clear hd hk E8 M8 D8 S8 B8 HC3
  go_upto_region 9 with fail
  refine name_world (C := fun w1 => Code.wp _ _ _ _ w1) (w9.setCell ⟨R + 1, 2, none⟩ (.string ky)) ?_
  intro w10 hw
  have E10 : Hid (BK 32 w10 w.heap.size (rcC rcZ)) := Lib.hid (by rw [hw]; exact E9.out.other (by have := GR.out; show w.heap.size ≠ R + 1; omega) _)
  have M10 : Hid (BK 32 w10 (R + 1) [.int .i64 n, .int .i64 k, .string ky, .string ⟨#[]⟩]) := Lib.hid (by rw [hw]; exact M9.out.set 2 _)
  have D10 : Hid (RD 63 w10 R A2 c2 T s3) := Lib.hid (by rw [hw]; exact D9.out.to (heap_setCell_other _ _ _ _ (by show R ≠ R + 1; omega)))
  have S10 : Hid (CL bv w10 R A2 T) := Lib.hid (by rw [hw]; exact S9.out.below (Below.setCell (p := ⟨R + 1, 2, none⟩) (Below.refl R _) (by show R ≤ R + 1; omega) _))
  have B10 : Hid (Below w.heap.size w w10) := Lib.hid (by rw [hw]; exact Below.setCell (p := ⟨R + 1, 2, none⟩) B9.out (by have := GR.out; show w.heap.size ≤ R + 1; omega) _)
  clear hw p0 z0 E9 M9 D9 S9 B9
  go_wp2_with fail
  refine (HC4.out w10 D10.out S10.out).mono ?_
  rintro e w11 ⟨rfl, hd, hk⟩
  have E11 := Lib.hid (E10.out.keep (show w.heap.size < R by have := GR.out; omega) hk.1)
  have M11 : Hid (BK 32 w11 (R + 1) [.int .i64 n, .int .i64 k, .string ky, .string ⟨#[]⟩]) := Lib.hid ((hk.2 (R + 1) M10.out.lt (by omega)).trans M10.out)
  have D11 := Lib.hid hd
  have S11 := Lib.hid (S10.out.below hk.1)
  have B11 := Lib.hid (B10.out.trans (hk.1.mono (show w.heap.size ≤ R by have := GR.out; omega)))
  have p0 := M11.out.cell 3 rfl
  have z0 := M11.out.free 3
  clear hd hk E10 M10 D10 S10 B10 HC4
  go_upto_region 10 with fail
  refine name_world (C := fun w1 => Code.wp _ _ _ _ w1) (w11.setCell ⟨R + 1, 3, none⟩ (.string vl)) ?_
  intro w12 hw
  have E12 : Hid (BK 32 w12 w.heap.size (rcC rcZ)) := Lib.hid (by rw [hw]; exact E11.out.other (by have := GR.out; show w.heap.size ≠ R + 1; omega) _)
  have M12 : Hid (BK 32 w12 (R + 1) [.int .i64 n, .int .i64 k, .string ky, .string vl]) := Lib.hid (by rw [hw]; exact M11.out.set 3 _)
  have D12 : Hid (RD 63 w12 R A2 c2 T (pos, ef)) := Lib.hid (by rw [hw]; exact D11.out.to (heap_setCell_other _ _ _ _ (by show R ≠ R + 1; omega)))
  have S12 : Hid (CL bv w12 R A2 T) := Lib.hid (by rw [hw]; exact S11.out.below (Below.setCell (p := ⟨R + 1, 3, none⟩) (Below.refl R _) (by show R ≤ R + 1; omega) _))
  have B12 : Hid (Below w.heap.size w w12) := Lib.hid (by rw [hw]; exact Below.setCell (p := ⟨R + 1, 3, none⟩) B11.out (by have := GR.out; show w.heap.size ≤ R + 1; omega) _)
  clear hw p0 z0 E11 M11 D11 S11 B11
  have k1 := D12.out.k1
  have k2 := D12.out.k2
  dsimp only at k1 k2
  by_cases hef : ef ≠ 0
  · obtain rfl : RES = (rcZ, 0, ef) := by rw [HR2.out, HP.out, if_pos hef]; exact if_pos hef
    have q1 : (ef == 0) = false := by simp [hef]
    have q2 : (ef != 0) = true := by simp [hef]
    clear k1
    have E_w12 : Hid (BK 32 w12 w.heap.size (rcC rcZ)) := E12
    have D_w12 : Hid (BK 63 w12 R [.slice A2 T.length c2, .int .i64 pos, .int .i64 ef]) := Lib.hid D12.out.1
    have B_w12 : Hid (Below w.heap.size w w12) := B12
    have k2 : World.cell? w12 ⟨R, 2, none⟩ = some (.int .i64 ef) := D_w12.out.cell 2 rfl
    go_upto_region 15 with fail
    clear k2
    obtain ⟨u1, hu1⟩ : ∃ u1, u1 = World.drew w12 := ⟨_, rfl⟩
    have hbD : Below w12.heap.size w12 u1 := by rw [hu1]; exact (Below.refl _ _).drew
    have E_u1 : Hid (BK 32 u1 w.heap.size (rcC rcZ)) := Lib.hid (E_w12.out.step hbD)
    have D_u1 : Hid (BK 63 u1 R [.slice A2 T.length c2, .int .i64 pos, .int .i64 ef]) := Lib.hid (D_w12.out.step hbD)
    have B_u1 : Hid (Below w.heap.size w u1) := Lib.hid ((stepB B_w12.out hbD))
    clear E_w12 D_w12 B_w12
    have hbd : (fun w' => BK 32 w' w.heap.size (rcC rcZ) ∧ BK 63 w' R [.slice A2 T.length c2, .int .i64 pos, .int .i64 ef] ∧ Below w.heap.size w w') (World.drew w12) := by rw [← hu1]; exact ⟨E_u1.out, D_u1.out, B_u1.out⟩
    have hSD : (fun w' => BK 32 w' w.heap.size (rcC rcZ) ∧ BK 63 w' R [.slice A2 T.length c2, .int .i64 pos, .int .i64 ef] ∧ Below w.heap.size w w') u1 := ⟨E_u1.out, D_u1.out, B_u1.out⟩
    have HWD := Lib.hid hu1
    clear hu1 hbD
    refine wp_region_held_drew (S := fun w' => BK 32 w' w.heap.size (rcC rcZ) ∧ BK 63 w' R [.slice A2 T.length c2, .int .i64 pos, .int .i64 ef] ∧ Below w.heap.size w w') (by kernel_rfl) hbd (fun hHeld => ?_)
    rw [← HWD.out]
    clear hHeld
    have hHeld := hSD
    clear hSD hbd HWD
    refine wpAnyH_take (i := 0) (v := (.agg (rcC rcZ).toArray)) (get_ops _ _ _ rfl) (by kernel_rfl) (by kernel_rfl) (by kernel_rfl) (fun _ _ _ h => h) (Or.inl ⟨by rfl, fun wS hSw => by (try dsimp only at hSw); go_simp; exact ⟨rfl, rfl, rfl, rfl⟩⟩) hHeld ?_
    try simp only [Act.put, List.setIfInBounds_toArray, List.set_cons_zero, List.set_cons_succ]
    refine wpAnyH_take (i := 1) (v := (.pointer (some ⟨R, 0, none⟩))) (get_ops _ _ _ rfl) (by kernel_rfl) (by kernel_rfl) (by kernel_rfl) (fun _ _ _ h => h) (Or.inl ⟨by rfl, fun wS hSw => by (try dsimp only at hSw); go_simp⟩) hHeld ?_
    try simp only [Act.put, List.setIfInBounds_toArray, List.set_cons_zero, List.set_cons_succ]
    refine wpAnyH_take (i := 2) (v := (.pointer (some ⟨R, 0, none⟩))) (get_ops _ _ _ rfl) (by kernel_rfl) (by kernel_rfl) (by kernel_rfl) (fun _ _ _ h => h) (Or.inl ⟨by rfl, fun wS hSw => by (try dsimp only at hSw); go_simp⟩) hHeld ?_
    try simp only [Act.put, List.setIfInBounds_toArray, List.set_cons_zero, List.set_cons_succ]
    refine wpAnyH_take (i := 3) (v := (.pointer (some ⟨R, 2, none⟩))) (get_ops _ _ _ rfl) (by kernel_rfl) (by kernel_rfl) (by kernel_rfl) (fun _ _ _ h => h) (Or.inl ⟨by rfl, fun wS hSw => by (try dsimp only at hSw); go_simp⟩) hHeld ?_
    try simp only [Act.put, List.setIfInBounds_toArray, List.set_cons_zero, List.set_cons_succ]
    refine wpAnyH_take (i := 4) (v := (.int .i64 ef)) (get_ops _ _ _ rfl) (by kernel_rfl) (by kernel_rfl) (by kernel_rfl) (fun _ _ _ h => h) (Or.inl ⟨by rfl, fun wS hSw => by (try dsimp only at hSw); have cS := hSw.2.1.cell 2 rfl; clear hSw; go_simp⟩) hHeld ?_
    try simp only [Act.put, List.setIfInBounds_toArray, List.set_cons_zero, List.set_cons_succ]
    refine wpAnyH_ready (rs := [5]) (by kernel_rfl) (by simp) ?_
    refine (AllReadyH.cons (get_ops _ _ _ rfl) (fun K hK => ?_) AllReadyH.nil)
    refine S2.wp_store_all 32 _ _ rfl rfl w.heap.size (by go_simp) (rcC rcZ) (by first | rfl | go_simp) 32 _ E_u1.out rcSize rfl (rcC_one _) ?_
    intro u2 hM hP
    have E_u2 : Hid (BK 32 u2 w.heap.size (rcC rcZ)) := Lib.hid (hM)
    have D_u2 : Hid (BK 63 u2 R [.slice A2 T.length c2, .int .i64 pos, .int .i64 ef]) := Lib.hid (hP.other D_u1.out (by have := GR.out; omega))
    have B_u2 : Hid (Below w.heap.size w u2) := Lib.hid (hP.below B_u1.out (Nat.le_refl _))
    clear E_u1 D_u1 B_u1
    clear hM hP hHeld
    refine hK.out _ _ ⟨E_u2.out, D_u2.out, B_u2.out⟩ (fun hHeld => ?_)
    clear hK K
    try simp only [Act.put, List.setIfInBounds_toArray, List.set_cons_zero, List.set_cons_succ]
    refine wpAnyH_take (i := 6) (v := (.int .i64 0)) (get_ops _ _ _ rfl) (by kernel_rfl) (by kernel_rfl) (by kernel_rfl) (fun _ _ _ h => h) (Or.inl ⟨by rfl, fun wS hSw => by (try dsimp only at hSw); go_simp⟩) hHeld ?_
    try simp only [Act.put, List.setIfInBounds_toArray, List.set_cons_zero, List.set_cons_succ]
    refine wpAnyH_take (i := 7) (v := (.int .i64 ef)) (get_ops _ _ _ rfl) (by kernel_rfl) (by kernel_rfl) (by kernel_rfl) (fun _ _ _ h => h) (Or.inl ⟨by rfl, fun wS hSw => by (try dsimp only at hSw); go_simp⟩) hHeld ?_
    try simp only [Act.put, List.setIfInBounds_toArray, List.set_cons_zero, List.set_cons_succ]
    refine wpAnyH_done (by kernel_rfl) ?_ _
    go_wp2_with fail
    exact bodyPost_ret (v := .tuple #[rcV rcZ, .int .i64 0, .int .i64 ef]) (res_ctt rfl _ _ w.heap.size 32 (rcC rcZ) _ _ _ rfl rfl rfl E_u2.out Try.underlying32 rfl rcSize) rfl ⟨rfl, B_u2.out⟩
  obtain rfl : ef = 0 := by omega
  by_cases hpl : pos < (T.length : Int)
  · obtain rfl : RES = (rcZ, 0, 2) := by rw [HR2.out, HP.out, if_neg hef, if_pos hpl]; exact if_pos (by decide)
    have f2 := D12.out.free 2
    go_upto_region 12 with fail
    refine name_world (C := fun w1 => Code.wp _ _ _ _ w1) (w12.setCell ⟨R, 2, none⟩ (.int .i64 2)) ?_
    intro x0 hx0
    have Dx : Hid (RD 63 x0 R A2 c2 T (pos, 2)) := Lib.hid (by rw [hx0]; exact D12.out.set2 2)
    have Ex : Hid (BK 32 x0 w.heap.size (rcC rcZ)) := Lib.hid (by rw [hx0]; exact E12.out.other (by have := GR.out; show w.heap.size ≠ R; omega) _)
    have Bx : Hid (Below w.heap.size w x0) := Lib.hid (by rw [hx0]; exact Below.setCell (p := ⟨R, 2, none⟩) B12.out (by have := GR.out; show w.heap.size ≤ R; omega) _)
    clear k1 k2 f2 hx0
    have E_x0 : Hid (BK 32 x0 w.heap.size (rcC rcZ)) := Ex
    have D_x0 : Hid (BK 63 x0 R [.slice A2 T.length c2, .int .i64 pos, .int .i64 2]) := Lib.hid Dx.out.1
    have B_x0 : Hid (Below w.heap.size w x0) := Bx
    have k2 : World.cell? x0 ⟨R, 2, none⟩ = some (.int .i64 2) := D_x0.out.cell 2 rfl
    go_upto_region 15 with fail
    clear k2
    obtain ⟨u1, hu1⟩ : ∃ u1, u1 = World.drew x0 := ⟨_, rfl⟩
    have hbD : Below x0.heap.size x0 u1 := by rw [hu1]; exact (Below.refl _ _).drew
    have E_u1 : Hid (BK 32 u1 w.heap.size (rcC rcZ)) := Lib.hid (E_x0.out.step hbD)
    have D_u1 : Hid (BK 63 u1 R [.slice A2 T.length c2, .int .i64 pos, .int .i64 2]) := Lib.hid (D_x0.out.step hbD)
    have B_u1 : Hid (Below w.heap.size w u1) := Lib.hid ((stepB B_x0.out hbD))
    clear E_x0 D_x0 B_x0
    have hbd : (fun w' => BK 32 w' w.heap.size (rcC rcZ) ∧ BK 63 w' R [.slice A2 T.length c2, .int .i64 pos, .int .i64 2] ∧ Below w.heap.size w w') (World.drew x0) := by rw [← hu1]; exact ⟨E_u1.out, D_u1.out, B_u1.out⟩
    have hSD : (fun w' => BK 32 w' w.heap.size (rcC rcZ) ∧ BK 63 w' R [.slice A2 T.length c2, .int .i64 pos, .int .i64 2] ∧ Below w.heap.size w w') u1 := ⟨E_u1.out, D_u1.out, B_u1.out⟩
    have HWD := Lib.hid hu1
    clear hu1 hbD
    refine wp_region_held_drew (S := fun w' => BK 32 w' w.heap.size (rcC rcZ) ∧ BK 63 w' R [.slice A2 T.length c2, .int .i64 pos, .int .i64 2] ∧ Below w.heap.size w w') (by kernel_rfl) hbd (fun hHeld => ?_)
    rw [← HWD.out]
    clear hHeld
    have hHeld := hSD
    clear hSD hbd HWD
    refine wpAnyH_take (i := 0) (v := (.agg (rcC rcZ).toArray)) (get_ops _ _ _ rfl) (by kernel_rfl) (by kernel_rfl) (by kernel_rfl) (fun _ _ _ h => h) (Or.inl ⟨by rfl, fun wS hSw => by (try dsimp only at hSw); go_simp; exact ⟨rfl, rfl, rfl, rfl⟩⟩) hHeld ?_
    try simp only [Act.put, List.setIfInBounds_toArray, List.set_cons_zero, List.set_cons_succ]
    refine wpAnyH_take (i := 1) (v := (.pointer (some ⟨R, 0, none⟩))) (get_ops _ _ _ rfl) (by kernel_rfl) (by kernel_rfl) (by kernel_rfl) (fun _ _ _ h => h) (Or.inl ⟨by rfl, fun wS hSw => by (try dsimp only at hSw); go_simp⟩) hHeld ?_
    try simp only [Act.put, List.setIfInBounds_toArray, List.set_cons_zero, List.set_cons_succ]
    refine wpAnyH_take (i := 2) (v := (.pointer (some ⟨R, 0, none⟩))) (get_ops _ _ _ rfl) (by kernel_rfl) (by kernel_rfl) (by kernel_rfl) (fun _ _ _ h => h) (Or.inl ⟨by rfl, fun wS hSw => by (try dsimp only at hSw); go_simp⟩) hHeld ?_
    try simp only [Act.put, List.setIfInBounds_toArray, List.set_cons_zero, List.set_cons_succ]
    refine wpAnyH_take (i := 3) (v := (.pointer (some ⟨R, 2, none⟩))) (get_ops _ _ _ rfl) (by kernel_rfl) (by kernel_rfl) (by kernel_rfl) (fun _ _ _ h => h) (Or.inl ⟨by rfl, fun wS hSw => by (try dsimp only at hSw); go_simp⟩) hHeld ?_
    try simp only [Act.put, List.setIfInBounds_toArray, List.set_cons_zero, List.set_cons_succ]
    refine wpAnyH_take (i := 4) (v := (.int .i64 2)) (get_ops _ _ _ rfl) (by kernel_rfl) (by kernel_rfl) (by kernel_rfl) (fun _ _ _ h => h) (Or.inl ⟨by rfl, fun wS hSw => by (try dsimp only at hSw); have cS := hSw.2.1.cell 2 rfl; clear hSw; go_simp⟩) hHeld ?_
    try simp only [Act.put, List.setIfInBounds_toArray, List.set_cons_zero, List.set_cons_succ]
    refine wpAnyH_ready (rs := [5]) (by kernel_rfl) (by simp) ?_
    refine (AllReadyH.cons (get_ops _ _ _ rfl) (fun K hK => ?_) AllReadyH.nil)
    refine S2.wp_store_all 32 _ _ rfl rfl w.heap.size (by go_simp) (rcC rcZ) (by first | rfl | go_simp) 32 _ E_u1.out rcSize rfl (rcC_one _) ?_
    intro u2 hM hP
    have E_u2 : Hid (BK 32 u2 w.heap.size (rcC rcZ)) := Lib.hid (hM)
    have D_u2 : Hid (BK 63 u2 R [.slice A2 T.length c2, .int .i64 pos, .int .i64 2]) := Lib.hid (hP.other D_u1.out (by have := GR.out; omega))
    have B_u2 : Hid (Below w.heap.size w u2) := Lib.hid (hP.below B_u1.out (Nat.le_refl _))
    clear E_u1 D_u1 B_u1
    clear hM hP hHeld
    refine hK.out _ _ ⟨E_u2.out, D_u2.out, B_u2.out⟩ (fun hHeld => ?_)
    clear hK K
    try simp only [Act.put, List.setIfInBounds_toArray, List.set_cons_zero, List.set_cons_succ]
    refine wpAnyH_take (i := 6) (v := (.int .i64 0)) (get_ops _ _ _ rfl) (by kernel_rfl) (by kernel_rfl) (by kernel_rfl) (fun _ _ _ h => h) (Or.inl ⟨by rfl, fun wS hSw => by (try dsimp only at hSw); go_simp⟩) hHeld ?_
    try simp only [Act.put, List.setIfInBounds_toArray, List.set_cons_zero, List.set_cons_succ]
    refine wpAnyH_take (i := 7) (v := (.int .i64 2)) (get_ops _ _ _ rfl) (by kernel_rfl) (by kernel_rfl) (by kernel_rfl) (fun _ _ _ h => h) (Or.inl ⟨by rfl, fun wS hSw => by (try dsimp only at hSw); go_simp⟩) hHeld ?_
    try simp only [Act.put, List.setIfInBounds_toArray, List.set_cons_zero, List.set_cons_succ]
    refine wpAnyH_done (by kernel_rfl) ?_ _
    go_wp2_with fail
    exact bodyPost_ret (v := .tuple #[rcV rcZ, .int .i64 0, .int .i64 2]) (res_ctt rfl _ _ w.heap.size 32 (rcC rcZ) _ _ _ rfl rfl rfl E_u2.out Try.underlying32 rfl rcSize) rfl ⟨rfl, B_u2.out⟩
  have m0 := M12.out.cell 0 rfl
  have m1 := M12.out.cell 1 rfl
  have m2 := M12.out.cell 2 rfl
  have m3 := M12.out.cell 3 rfl
  go_upto_region 13 with fail
  clear k1 k2
  go_wp2_with fail
  refine (HCK.out w12).mono ?_
  rintro e y0 ⟨rfl, hb⟩
  have Ey := Lib.hid (E12.out.step hb)
  have My := Lib.hid (M12.out.step hb)
  have Dy : Hid (RD 63 y0 R A2 c2 T (pos, 0)) := Lib.hid (D12.out.to (hb.block _ D12.out.lt))
  have By := Lib.hid (stepB B12.out hb)
  clear hb m0 m1 m2 m3 HCK
  have k2 := Dy.out.k2
  have f2 := Dy.out.free 2
  go_upto_region 14 with fail
  refine name_world (C := fun w1 => Code.wp _ _ _ _ w1) (y0.setCell ⟨R, 2, none⟩ (.int .i64 ck)) ?_
  intro x0 hx0
  have Dx : Hid (RD 63 x0 R A2 c2 T (pos, ck)) := Lib.hid (by rw [hx0]; exact Dy.out.set2 ck)
  have Ex : Hid (BK 32 x0 w.heap.size (rcC rcZ)) := Lib.hid (by rw [hx0]; exact Ey.out.other (by have := GR.out; show w.heap.size ≠ R; omega) _)
  have Mx : Hid (BK 32 x0 (R + 1) (rcC ⟨n, k, ky, vl⟩)) := Lib.hid (by rw [hx0]; exact My.out.other (by show R + 1 ≠ R; omega) _)
  have Bx : Hid (Below w.heap.size w x0) := Lib.hid (by rw [hx0]; exact Below.setCell (p := ⟨R, 2, none⟩) By.out (by have := GR.out; show w.heap.size ≤ R; omega) _)
  clear k2 f2 hx0
  by_cases hck : ck ≠ 0
  · obtain rfl : RES = (rcZ, 0, ck) := by rw [HR2.out, HP.out, if_neg hef, if_neg (Int.not_lt.2 hpl), if_pos hck]; exact if_pos hck
    have q2 : (ck != 0) = true := by simp [hck]
    have E_x0 : Hid (BK 32 x0 w.heap.size (rcC rcZ)) := Ex
    have D_x0 : Hid (BK 63 x0 R [.slice A2 T.length c2, .int .i64 pos, .int .i64 ck]) := Lib.hid Dx.out.1
    have B_x0 : Hid (Below w.heap.size w x0) := Bx
    have k2 : World.cell? x0 ⟨R, 2, none⟩ = some (.int .i64 ck) := D_x0.out.cell 2 rfl
    go_upto_region 15 with fail
    clear k2
    obtain ⟨u1, hu1⟩ : ∃ u1, u1 = World.drew x0 := ⟨_, rfl⟩
    have hbD : Below x0.heap.size x0 u1 := by rw [hu1]; exact (Below.refl _ _).drew
    have E_u1 : Hid (BK 32 u1 w.heap.size (rcC rcZ)) := Lib.hid (E_x0.out.step hbD)
    have D_u1 : Hid (BK 63 u1 R [.slice A2 T.length c2, .int .i64 pos, .int .i64 ck]) := Lib.hid (D_x0.out.step hbD)
    have B_u1 : Hid (Below w.heap.size w u1) := Lib.hid ((stepB B_x0.out hbD))
    clear E_x0 D_x0 B_x0
    have hbd : (fun w' => BK 32 w' w.heap.size (rcC rcZ) ∧ BK 63 w' R [.slice A2 T.length c2, .int .i64 pos, .int .i64 ck] ∧ Below w.heap.size w w') (World.drew x0) := by rw [← hu1]; exact ⟨E_u1.out, D_u1.out, B_u1.out⟩
    have hSD : (fun w' => BK 32 w' w.heap.size (rcC rcZ) ∧ BK 63 w' R [.slice A2 T.length c2, .int .i64 pos, .int .i64 ck] ∧ Below w.heap.size w w') u1 := ⟨E_u1.out, D_u1.out, B_u1.out⟩
    have HWD := Lib.hid hu1
    clear hu1 hbD
    refine wp_region_held_drew (S := fun w' => BK 32 w' w.heap.size (rcC rcZ) ∧ BK 63 w' R [.slice A2 T.length c2, .int .i64 pos, .int .i64 ck] ∧ Below w.heap.size w w') (by kernel_rfl) hbd (fun hHeld => ?_)
    rw [← HWD.out]
    clear hHeld
    have hHeld := hSD
    clear hSD hbd HWD
    refine wpAnyH_take (i := 0) (v := (.agg (rcC rcZ).toArray)) (get_ops _ _ _ rfl) (by kernel_rfl) (by kernel_rfl) (by kernel_rfl) (fun _ _ _ h => h) (Or.inl ⟨by rfl, fun wS hSw => by (try dsimp only at hSw); go_simp; exact ⟨rfl, rfl, rfl, rfl⟩⟩) hHeld ?_
    try simp only [Act.put, List.setIfInBounds_toArray, List.set_cons_zero, List.set_cons_succ]
    refine wpAnyH_take (i := 1) (v := (.pointer (some ⟨R, 0, none⟩))) (get_ops _ _ _ rfl) (by kernel_rfl) (by kernel_rfl) (by kernel_rfl) (fun _ _ _ h => h) (Or.inl ⟨by rfl, fun wS hSw => by (try dsimp only at hSw); go_simp⟩) hHeld ?_
    try simp only [Act.put, List.setIfInBounds_toArray, List.set_cons_zero, List.set_cons_succ]
    refine wpAnyH_take (i := 2) (v := (.pointer (some ⟨R, 0, none⟩))) (get_ops _ _ _ rfl) (by kernel_rfl) (by kernel_rfl) (by kernel_rfl) (fun _ _ _ h => h) (Or.inl ⟨by rfl, fun wS hSw => by (try dsimp only at hSw); go_simp⟩) hHeld ?_
    try simp only [Act.put, List.setIfInBounds_toArray, List.set_cons_zero, List.set_cons_succ]
    refine wpAnyH_take (i := 3) (v := (.pointer (some ⟨R, 2, none⟩))) (get_ops _ _ _ rfl) (by kernel_rfl) (by kernel_rfl) (by kernel_rfl) (fun _ _ _ h => h) (Or.inl ⟨by rfl, fun wS hSw => by (try dsimp only at hSw); go_simp⟩) hHeld ?_
    try simp only [Act.put, List.setIfInBounds_toArray, List.set_cons_zero, List.set_cons_succ]
    refine wpAnyH_take (i := 4) (v := (.int .i64 ck)) (get_ops _ _ _ rfl) (by kernel_rfl) (by kernel_rfl) (by kernel_rfl) (fun _ _ _ h => h) (Or.inl ⟨by rfl, fun wS hSw => by (try dsimp only at hSw); have cS := hSw.2.1.cell 2 rfl; clear hSw; go_simp⟩) hHeld ?_
    try simp only [Act.put, List.setIfInBounds_toArray, List.set_cons_zero, List.set_cons_succ]
    refine wpAnyH_ready (rs := [5]) (by kernel_rfl) (by simp) ?_
    refine (AllReadyH.cons (get_ops _ _ _ rfl) (fun K hK => ?_) AllReadyH.nil)
    refine S2.wp_store_all 32 _ _ rfl rfl w.heap.size (by go_simp) (rcC rcZ) (by first | rfl | go_simp) 32 _ E_u1.out rcSize rfl (rcC_one _) ?_
    intro u2 hM hP
    have E_u2 : Hid (BK 32 u2 w.heap.size (rcC rcZ)) := Lib.hid (hM)
    have D_u2 : Hid (BK 63 u2 R [.slice A2 T.length c2, .int .i64 pos, .int .i64 ck]) := Lib.hid (hP.other D_u1.out (by have := GR.out; omega))
    have B_u2 : Hid (Below w.heap.size w u2) := Lib.hid (hP.below B_u1.out (Nat.le_refl _))
    clear E_u1 D_u1 B_u1
    clear hM hP hHeld
    refine hK.out _ _ ⟨E_u2.out, D_u2.out, B_u2.out⟩ (fun hHeld => ?_)
    clear hK K
    try simp only [Act.put, List.setIfInBounds_toArray, List.set_cons_zero, List.set_cons_succ]
    refine wpAnyH_take (i := 6) (v := (.int .i64 0)) (get_ops _ _ _ rfl) (by kernel_rfl) (by kernel_rfl) (by kernel_rfl) (fun _ _ _ h => h) (Or.inl ⟨by rfl, fun wS hSw => by (try dsimp only at hSw); go_simp⟩) hHeld ?_
    try simp only [Act.put, List.setIfInBounds_toArray, List.set_cons_zero, List.set_cons_succ]
    refine wpAnyH_take (i := 7) (v := (.int .i64 ck)) (get_ops _ _ _ rfl) (by kernel_rfl) (by kernel_rfl) (by kernel_rfl) (fun _ _ _ h => h) (Or.inl ⟨by rfl, fun wS hSw => by (try dsimp only at hSw); go_simp⟩) hHeld ?_
    try simp only [Act.put, List.setIfInBounds_toArray, List.set_cons_zero, List.set_cons_succ]
    refine wpAnyH_done (by kernel_rfl) ?_ _
    go_wp2_with fail
    exact bodyPost_ret (v := .tuple #[rcV rcZ, .int .i64 0, .int .i64 ck]) (res_ctt rfl _ _ w.heap.size 32 (rcC rcZ) _ _ _ rfl rfl rfl E_u2.out Try.underlying32 rfl rcSize) rfl ⟨rfl, B_u2.out⟩
  obtain rfl : ck = 0 := by omega
  obtain rfl : RES = (⟨n, k, ky, vl⟩, nx, 0) := by rw [HR2.out, HP.out, if_neg hef, if_neg (Int.not_lt.2 hpl), if_neg hck]; exact if_neg (fun h => h rfl)
  have k2 := Dx.out.k2
  have m0 := Mx.out.cell 0 rfl
  have m1 := Mx.out.cell 1 rfl
  have m2 := Mx.out.cell 2 rfl
  have m3 := Mx.out.cell 3 rfl
  go_upto_region 16 with fail
  go_wp2_with (refine S2.wpList_store_all (by rfl) 32 (.tmp 4) (.tmp 76) rfl rfl (w.heap.size) (by first | rfl | go_simp) (rcC ⟨n, k, ky, vl⟩) (by first | rfl | go_simp) 32 (rcC rcZ) Ex.out rcSize rfl (rcC_one _) ?_; intro w99 hM hP; have E9 : Hid (BK 32 w99 w.heap.size (rcC ⟨n, k, ky, vl⟩)) := Lib.hid hM; have B9 := Lib.hid (hP.below Bx.out (Nat.le_refl _)); clear hM hP)
  exact bodyPost_ret (v := .tuple #[rcV ⟨n, k, ky, vl⟩, .int .i64 nx, .int .i64 0]) (res_ctt rfl _ _ w.heap.size 32 (rcC ⟨n, k, ky, vl⟩) _ _ _ rfl rfl rfl E9.out Try.underlying32 rfl rcSize) rfl ⟨rfl, B9.out⟩
end Go.Proofs.Ytbmeimpfehjnfaa
