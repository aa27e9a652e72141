/-
wire's Decode: the packet, or the error with which its reader panicked. Conditions: the bytes read as data; at most a million of them.
-/
import Derived.Test.YtdkegoaflabjoaaGreatDoorRz
import Derived.Test.YtdkegoaflabjoaaGreatDoorRd0
set_option maxHeartbeats 8000000
set_option maxRecDepth 20000
namespace Go.Proofs.YtdkegoaflabjoaaGreatDoor
open Go.RowKit

section
variable {P : Program}
theorem wpList_store_blkE {ops : Array Oper} {rest : List Oper} {o : Oper} {a : Act} {w : World} {Q : Exit → Act → World → Prop} (hgd : Region.wanted o (yielded ops a.tmps) = true) (ty : TypeId) (x y : Operand) (ho : o.op = .store ty x y) (hd : o.dst = none) (g off n : Nat) (hx : a.eval x = .pointer (some ⟨g, off, none⟩))
 (v : Value) (hy : a.eval y = v) (T : TypeId) (vs cs : List Value) (hM : MT T w g vs) (hv : v.cells = cs.toArray) (hn : cs.length = n) (hi : (P.info? ty).map (·.size) = some n) (hf : off + n ≤ vs.length) (h1 : ∀ u ∈ cs, u.oneCell' = true)
 (h : ∀ w', MT T w' g (putC vs off cs) → (∀ k, k ≠ g → w'.heap[k]? = w.heap[k]?) → (∀ B w0, B ≤ g → Below B w0 w → Below B w0 w') → w'.heap.size = w.heap.size → wpList P ops Q rest a w') : wpList P ops Q (o :: rest) a w :=
 wpList_store hgd ty x y ho hd _ hx v hy _ (run_store_part w g off n T ty vs cs v hv hn hi hM hf h1) (h _ (hM.put off cs) (fun k hk => setRow_other w g k _ hk) (fun _ _ hB hb => below_put hb hB _) (by simp))
theorem results_cells2 {fn : Func} {p q : Tmp} {ty ty2 : TypeId} (h : fn.results = #[.cell p ty, .cell q ty2]) (tmps : Array Value) (w : World) (a b : Addr) (u v : Value) (hp : tmps.getD p undef = .pointer (some a)) (hq : tmps.getD q undef = .pointer (some b))
 (hu : (loadVar ty a).run P w = .ok u w) (hv : (loadVar ty2 b).run P w = .ok v w) : (results fn tmps).run P w = .ok (.tuple #[u, v]) w := by
 have hp' : tmps[p]?.getD undef = .pointer (some a) := by simpa using hp
 have hq' : tmps[q]?.getD undef = .pointer (some b) := by simpa using hq
 simp [results, h, hp', hq', asAddr, hu, hv]
end
/-- the packet and the error -/
def RetD (r : Pkt × Int) (w : World) (e : Ending) (w' : World) : Prop :=
 ∃ a, e = .returned (.tuple #[.agg (pkC r.1 a).toArray, .int .i64 r.2]) ∧ PInN w' w.heap.size w'.heap.size r.1 a ∧ Below w.heap.size w w'
theorem load_errno {w : World} {g : Nat} {n : Int} (h : MT 26 w g [.int .i64 n]) : (loadVar 26 ⟨g, 0, none⟩).run Tryz.prog w = .ok (.int .i64 n) w := by
 have k := h.cell 0
 simp only [List.getElem?_cons_zero] at k
 simp [go_sem, k]
theorem load_pkt {w : World} {g : Nat} {p : Pkt} {a : PA} (h : MT 38 w g (pkC p a)) : (loadVar 38 ⟨g, 0, none⟩).run Tryz.prog w = .ok (.agg (pkC p a).toArray) w :=
 run_loadVar_row w g 38 38 (pkC p a).toArray (0, 0) _ h Tryz.underlying38 rfl info33
theorem dec_res {tmps : Array Value} {w w' : World} {p : Pkt} {a : PA} {n : Int} (h2 : tmps.getD 2 undef = .pointer (some ⟨w.heap.size, 0, none⟩)) (h3 : tmps.getD 3 undef = .pointer (some ⟨w.heap.size + 1, 0, none⟩))
 (hP : MT 38 w' w.heap.size (pkC p a)) (hC : MT 26 w' (w.heap.size + 1) [.int .i64 n]) (hI : PInN w' w.heap.size w'.heap.size p a) (hB : Below w.heap.size w w') :
 ∃ v, (results Tryz.f8 tmps).run Tryz.prog w' = .ok v w' ∧ RetD (p, n) w (.returned v) w' :=
 ⟨_, results_cells2 rfl tmps w' ⟨w.heap.size, 0, none⟩ ⟨w.heap.size + 1, 0, none⟩ _ _ h2 h3 (load_pkt hP) (load_errno hC), a, rfl, hI, hB⟩
theorem put_pk {w : World} {g : Nat} {p q : Pkt} {a b : PA} (h : MT 38 w g (putC (pkC p a) 0 (pkC q b))) : MT 38 w g (pkC q b) := by
 rw [putC_all (pkC p a) (pkC q b) rfl] at h
 exact h
theorem errno_put {w : World} {g : Nat} {c0 v : Value} (h : MT 26 w g (putC [c0] 0 [v])) : MT 26 w g [v] := h

theorem decode_long (A : Option Addr) (c : Nat) (l : List UInt8) (w : World) (hw : S1.Okw w) (hsl : CL bv w w.heap.size A l) (hc : l.length ≤ c) (hn : l.length ≤ 1000000) (h0 : 4096 < l.length) :
 Calls Tryz.prog 8 #[.slice A l.length c] w (RetD (Pkt.zero, 5) w) := by
 have hmf := @hmfT Tryz.prog
 have HO := Lib.hid hw
 have HSL := Lib.hid hsl
 have HCC := Lib.hid hc
 have HN := Lib.hid hn
 have q0 : decide ((4096 : Int) < (l.length : Int)) = true := decide_eq_true (by omega)
 clear h0
 clear hw hsl hc hn
 go_enter_defers Tryz.func8, Tryz.ntmps8
 go_upto_region 1 with fail
 refine name_world (C := fun w1 => Code.wp _ _ _ _ w1) ((w.alloc (.cells (pkC Pkt.zero PA.zero).toArray 38)).alloc (.cells [Value.int .i64 0].toArray 26)) ?_
 rintro w0 hw0
 obtain ⟨hb0, hp0, hc0⟩ := two hw0
 have HB0 := Lib.hid hb0
 have HP0 := Lib.hid hp0
 have HC0 := Lib.hid hc0
 have hz0 : w.heap.size + 2 ≤ w0.heap.size := by rw [hw0]; simp
 clear hb0 hp0 hc0 hw0
 go_wp2_with (first | (refine wpList_store_blkE (by rfl) 38 (.tmp 2) (.tmp 10) rfl rfl w.heap.size 0 34 rfl (.agg (pkC Pkt.zero PA.zero).toArray) rfl 38 _ (pkC Pkt.zero PA.zero) HP0.out rfl rfl info33 (by rw [pkC_len]; decide) (one_cells rfl) ?_; rintro v1 hM he hbel hsz; have H8P := Lib.hid hM; have H8E := Lib.hid he; have H8B := Lib.hid hbel; have H8Z := Lib.hid hsz; clear hM he hbel hsz) | (refine wpList_store_blkE (by rfl) 26 (.tmp 3) (.const (.int .i64 5)) rfl rfl (w.heap.size + 1) 0 1 rfl (.int .i64 5) rfl 26 _ [.int .i64 5] ((H8E.out (w.heap.size + 1) (by omega)).trans HC0.out) rfl rfl (by kernel_rfl) (by simp) (one_cells rfl) ?_; rintro v2 hM he hbel hsz; have H9C := Lib.hid (errno_put hM); have H9E := Lib.hid he; have H9B := Lib.hid hbel; have H9Z := Lib.hid hsz; clear hM he hbel hsz) | fail)
 have H9P : Hid (MT 38 v2 w.heap.size (pkC Pkt.zero PA.zero)) := Lib.hid ((H9E.out w.heap.size (by omega)).trans (put_pk H8P.out))
 have HBF : Hid (Below w.heap.size w v2) := Lib.hid (H9B.out _ _ (by omega) (H8B.out _ _ (Nat.le_refl _) HB0.out))
 refine leaves_cons (f := 16) (args := #[.pointer (some ⟨w.heap.size, 0, none⟩), .pointer (some ⟨w.heap.size + 1, 0, none⟩)]) (by simp) (by simp [go_sem]) ?_
 refine (dec_idle w.heap.size (w.heap.size + 1) _).mono ?_
 rintro e u' w'' ⟨rfl, rfl, rfl⟩
 exact dec_res rfl rfl H9P.out H9C.out (PInN.zero _ _ _) HBF.out

theorem decode_s1 (A : Option Addr) (c : Nat) (l : List UInt8) (w : World) (hw : S1.Okw w) (hsl : CL bv w w.heap.size A l) (hc : l.length ≤ c) (hn : l.length ≤ 1000000) (h0 : ¬ 4096 < l.length) (p : Pkt) (q z : Int) (hr : pkX l (0, 0) = (p, (q, z))) (hz : z ≠ 0) :
 Calls Tryz.prog 8 #[.slice A l.length c] w (RetD (Pkt.zero, z) w) := by
 have hmf := @hmfT Tryz.prog
 have HO := Lib.hid hw
 have HSL := Lib.hid hsl
 have HCC := Lib.hid hc
 have HN := Lib.hid hn
 have q0 : decide ((4096 : Int) < (l.length : Int)) = false := decide_eq_false (by omega)
 have HSM : Hid (Sm l.length p) := Lib.hid (by have := pkX_sm l (0, 0); rw [hr] at this; exact this)
 have HRR := Lib.hid hr
 have HZZ := Lib.hid hz
 clear hz
 clear h0 hr
 clear hw hsl hc hn
 go_enter_defers Tryz.func8, Tryz.ntmps8
 go_upto_region 1 with fail
 refine name_world (C := fun w1 => Code.wp _ _ _ _ w1) ((w.alloc (.cells (pkC Pkt.zero PA.zero).toArray 38)).alloc (.cells [Value.int .i64 0].toArray 26)) ?_
 rintro w0 hw0
 obtain ⟨hb0, hp0, hc0⟩ := two hw0
 have HB0 := Lib.hid hb0
 have HP0 := Lib.hid hp0
 have HC0 := Lib.hid hc0
 have hz0 : w.heap.size + 2 ≤ w0.heap.size := by rw [hw0]; simp
 clear hb0 hp0 hc0 hw0
 go_upto_region 5 with fail
 refine name_world (C := fun w1 => Code.wp _ _ _ _ w1) (w0.alloc (.cells #[.slice A l.length c, .int .i64 0] 55)) ?_
 rintro w1 hw1
 have HR1 : Hid (RP w1 w0.heap.size A c l 0) := Lib.hid ⟨by rw [hw1]; exact heap_alloc_new _ _, ⟨by decide, by decide⟩⟩
 have HB1 : Hid (Below w0.heap.size w0 w1) := Lib.hid (by rw [hw1]; exact belA _ _)
 have hz1 : w0.heap.size < w1.heap.size := HR1.out.lt
 clear hw1
 have HP1 := Lib.hid (MT.step HP0.out HB1.out)
 have HC1 := Lib.hid (MT.step HC0.out HB1.out)
 have HBw1 := Lib.hid (stepB HB0.out HB1.out)
 have HX := Lib.hid (xPk_any w0.heap.size A c l (0, 0) rfl w1 HR1.out ((HSL.out.below HBw1.out).more (by omega)) HCC.out (by have := HN.out; omega))
 clear HP0 HC0 HB0 HR1 HB1
 rw [HRR.out] at HX
 dsimp only at HX
 go_wp2_with fail
 refine HX.out.mono ?_
 intro e w2 h
 rcases h with ⟨h, _, _, _⟩ | ⟨_, rfl, hk⟩
 · exact absurd h HZZ.out
 have HP2 := Lib.hid ((hk.2 w.heap.size (by omega) (by omega)).trans HP1.out)
 have HC2 := Lib.hid ((hk.2 (w.heap.size + 1) (by omega) (by omega)).trans HC1.out)
 have HB2 : Hid (Below w.heap.size w w2) := Lib.hid (HBw1.out.trans (hk.1.mono (by omega)))
 clear hk HX HP1 HC1 HBw1
 unfold pan
 go_wp2_with fail
 refine leaves_cons (f := 16) (args := #[.pointer (some ⟨w.heap.size, 0, none⟩), .pointer (some ⟨w.heap.size + 1, 0, none⟩)]) (by simp) (by simp [go_sem]) ?_
 refine (dec_pan w.heap.size (w.heap.size + 1) z [] _ (pkC Pkt.zero PA.zero) rfl (.int .i64 0) HP2.out HC2.out (by omega)).mono ?_
 rintro e u' w3 ⟨rfl, rfl, hP, hC, hb⟩
 exact dec_res rfl rfl hP hC (PInN.zero _ _ _) (hb _ _ (Nat.le_refl _) (by omega) HB2.out)

theorem decode_s2 (A : Option Addr) (c : Nat) (l : List UInt8) (w : World) (hw : S1.Okw w) (hsl : CL bv w w.heap.size A l) (hc : l.length ≤ c) (hn : l.length ≤ 1000000) (h0 : ¬ 4096 < l.length) (p : Pkt) (q z : Int) (hr : pkX l (0, 0) = (p, (q, z))) (hz : z = 0) (h2 : q < l.length) :
 Calls Tryz.prog 8 #[.slice A l.length c] w (RetD (Pkt.zero, 2) w) := by
 have hmf := @hmfT Tryz.prog
 have HO := Lib.hid hw
 have HSL := Lib.hid hsl
 have HCC := Lib.hid hc
 have HN := Lib.hid hn
 have q0 : decide ((4096 : Int) < (l.length : Int)) = false := decide_eq_false (by omega)
 have HSM : Hid (Sm l.length p) := Lib.hid (by have := pkX_sm l (0, 0); rw [hr] at this; exact this)
 have HRR := Lib.hid hr
 subst hz
 have q2 : decide (q < (l.length : Int)) = true := decide_eq_true h2
 clear h2
 clear h0 hr
 clear hw hsl hc hn
 go_enter_defers Tryz.func8, Tryz.ntmps8
 go_upto_region 1 with fail
 refine name_world (C := fun w1 => Code.wp _ _ _ _ w1) ((w.alloc (.cells (pkC Pkt.zero PA.zero).toArray 38)).alloc (.cells [Value.int .i64 0].toArray 26)) ?_
 rintro w0 hw0
 obtain ⟨hb0, hp0, hc0⟩ := two hw0
 have HB0 := Lib.hid hb0
 have HP0 := Lib.hid hp0
 have HC0 := Lib.hid hc0
 have hz0 : w.heap.size + 2 ≤ w0.heap.size := by rw [hw0]; simp
 clear hb0 hp0 hc0 hw0
 go_upto_region 5 with fail
 refine name_world (C := fun w1 => Code.wp _ _ _ _ w1) (w0.alloc (.cells #[.slice A l.length c, .int .i64 0] 55)) ?_
 rintro w1 hw1
 have HR1 : Hid (RP w1 w0.heap.size A c l 0) := Lib.hid ⟨by rw [hw1]; exact heap_alloc_new _ _, ⟨by decide, by decide⟩⟩
 have HB1 : Hid (Below w0.heap.size w0 w1) := Lib.hid (by rw [hw1]; exact belA _ _)
 have hz1 : w0.heap.size < w1.heap.size := HR1.out.lt
 clear hw1
 have HP1 := Lib.hid (MT.step HP0.out HB1.out)
 have HC1 := Lib.hid (MT.step HC0.out HB1.out)
 have HBw1 := Lib.hid (stepB HB0.out HB1.out)
 have HX := Lib.hid (xPk_any w0.heap.size A c l (0, 0) rfl w1 HR1.out ((HSL.out.below HBw1.out).more (by omega)) HCC.out (by have := HN.out; omega))
 clear HP0 HC0 HB0 HR1 HB1
 rw [HRR.out] at HX
 dsimp only at HX
 go_wp2_with fail
 refine HX.out.mono ?_
 intro e w2 h
 rcases h with ⟨_, ⟨a, rfl, hpi⟩, hr, hk⟩ | ⟨h, _, _⟩
 rotate_left
 · exact absurd rfl h
 have HPI := Lib.hid hpi
 have HR2 := Lib.hid hr
 have HP2 := Lib.hid ((hk.2 w.heap.size (by omega) (by omega)).trans HP1.out)
 have HC2 := Lib.hid ((hk.2 (w.heap.size + 1) (by omega) (by omega)).trans HC1.out)
 have HB2 : Hid (Below w.heap.size w w2) := Lib.hid (HBw1.out.trans (hk.1.mono (by omega)))
 have hz2 : w1.heap.size ≤ w2.heap.size := hk.size
 clear hpi hr hk HX HP1 HC1 HBw1
 go_upto_region 6 with (refine wpList_store_blkE (by rfl) 38 (.tmp 2) (.tmp 13) rfl rfl w.heap.size 0 34 rfl (.agg (pkC p a).toArray) rfl 38 (pkC Pkt.zero PA.zero) (pkC p a) HP2.out rfl rfl info33 (by rw [pkC_len]; decide) (one_cells rfl) ?_; rintro w3 hM he hbel hsz; have HP3 : Hid (MT 38 w3 w.heap.size (pkC p a)) := Lib.hid (put_pk hM); have HR3 : Hid (RP w3 w0.heap.size A c l q) := Lib.hid (HR2.out.to (he _ (by omega))); have HC3 := Lib.hid ((he (w.heap.size + 1) (by omega)).trans HC2.out); have HB3 := Lib.hid (hbel _ _ (Nat.le_refl _) HB2.out); have HPI3 : Hid (PInN w3 w1.heap.size w3.heap.size p a) := Lib.hid ((HPI.out.keep (fun k h1 h2 => he k (by omega))).more (Nat.le_of_eq hsz.symm)); have hz3 : w2.heap.size ≤ w3.heap.size := Nat.le_of_eq hsz.symm; clear hM he hbel hsz)
 clear HP2 HR2 HC2 HB2 HPI
 have k1 := HR3.out.k1
 go_wp2_with (first | (refine wpList_store_blkE (by rfl) 38 (.tmp 2) (.tmp 19) rfl rfl w.heap.size 0 34 rfl (.agg (pkC Pkt.zero PA.zero).toArray) rfl 38 _ (pkC Pkt.zero PA.zero) HP3.out rfl rfl info33 (by rw [pkC_len]; decide) (one_cells rfl) ?_; rintro v1 hM he hbel hsz; have H8P := Lib.hid hM; have H8E := Lib.hid he; have H8B := Lib.hid hbel; have H8Z := Lib.hid hsz; clear hM he hbel hsz) | (refine wpList_store_blkE (by rfl) 26 (.tmp 3) (.const (.int .i64 2)) rfl rfl (w.heap.size + 1) 0 1 rfl (.int .i64 2) rfl 26 _ [.int .i64 2] ((H8E.out (w.heap.size + 1) (by omega)).trans HC3.out) rfl rfl (by kernel_rfl) (by simp) (one_cells rfl) ?_; rintro v2 hM he hbel hsz; have H9C := Lib.hid (errno_put hM); have H9E := Lib.hid he; have H9B := Lib.hid hbel; have H9Z := Lib.hid hsz; clear hM he hbel hsz) | fail)
 have H9P : Hid (MT 38 v2 w.heap.size (pkC Pkt.zero PA.zero)) := Lib.hid ((H9E.out w.heap.size (by omega)).trans (put_pk H8P.out))
 have HBF : Hid (Below w.heap.size w v2) := Lib.hid (H9B.out _ _ (by omega) (H8B.out _ _ (Nat.le_refl _) HB3.out))
 refine leaves_cons (f := 16) (args := #[.pointer (some ⟨w.heap.size, 0, none⟩), .pointer (some ⟨w.heap.size + 1, 0, none⟩)]) (by simp) (by simp [go_sem]) ?_
 refine (dec_idle w.heap.size (w.heap.size + 1) _).mono ?_
 rintro e u' w'' ⟨rfl, rfl, rfl⟩
 exact dec_res rfl rfl H9P.out H9C.out (PInN.zero _ _ _) HBF.out

theorem decode_s3 (A : Option Addr) (c : Nat) (l : List UInt8) (w : World) (hw : S1.Okw w) (hsl : CL bv w w.heap.size A l) (hc : l.length ≤ c) (hn : l.length ≤ 1000000) (h0 : ¬ 4096 < l.length) (p : Pkt) (q z : Int) (hr : pkX l (0, 0) = (p, (q, z))) (hz : z = 0) (h2 : ¬ q < l.length) (y : Nat) (hy : checkP p = y) (h3 : y ≠ 0) :
 Calls Tryz.prog 8 #[.slice A l.length c] w (RetD (Pkt.zero, (y : Int)) w) := by
 have hmf := @hmfT Tryz.prog
 have HO := Lib.hid hw
 have HSL := Lib.hid hsl
 have HCC := Lib.hid hc
 have HN := Lib.hid hn
 have q0 : decide ((4096 : Int) < (l.length : Int)) = false := decide_eq_false (by omega)
 have HSM : Hid (Sm l.length p) := Lib.hid (by have := pkX_sm l (0, 0); rw [hr] at this; exact this)
 have HRR := Lib.hid hr
 subst hz
 have q2 : decide (q < (l.length : Int)) = false := decide_eq_false h2
 clear h2
 have HY := Lib.hid hy
 have q3 : ((y : Int) != 0) = true := by simp [h3]
 clear hy h3
 clear h0 hr
 clear hw hsl hc hn
 go_enter_defers Tryz.func8, Tryz.ntmps8
 go_upto_region 1 with fail
 refine name_world (C := fun w1 => Code.wp _ _ _ _ w1) ((w.alloc (.cells (pkC Pkt.zero PA.zero).toArray 38)).alloc (.cells [Value.int .i64 0].toArray 26)) ?_
 rintro w0 hw0
 obtain ⟨hb0, hp0, hc0⟩ := two hw0
 have HB0 := Lib.hid hb0
 have HP0 := Lib.hid hp0
 have HC0 := Lib.hid hc0
 have hz0 : w.heap.size + 2 ≤ w0.heap.size := by rw [hw0]; simp
 clear hb0 hp0 hc0 hw0
 go_upto_region 5 with fail
 refine name_world (C := fun w1 => Code.wp _ _ _ _ w1) (w0.alloc (.cells #[.slice A l.length c, .int .i64 0] 55)) ?_
 rintro w1 hw1
 have HR1 : Hid (RP w1 w0.heap.size A c l 0) := Lib.hid ⟨by rw [hw1]; exact heap_alloc_new _ _, ⟨by decide, by decide⟩⟩
 have HB1 : Hid (Below w0.heap.size w0 w1) := Lib.hid (by rw [hw1]; exact belA _ _)
 have hz1 : w0.heap.size < w1.heap.size := HR1.out.lt
 clear hw1
 have HP1 := Lib.hid (MT.step HP0.out HB1.out)
 have HC1 := Lib.hid (MT.step HC0.out HB1.out)
 have HBw1 := Lib.hid (stepB HB0.out HB1.out)
 have HX := Lib.hid (xPk_any w0.heap.size A c l (0, 0) rfl w1 HR1.out ((HSL.out.below HBw1.out).more (by omega)) HCC.out (by have := HN.out; omega))
 clear HP0 HC0 HB0 HR1 HB1
 rw [HRR.out] at HX
 dsimp only at HX
 go_wp2_with fail
 refine HX.out.mono ?_
 intro e w2 h
 rcases h with ⟨_, ⟨a, rfl, hpi⟩, hr, hk⟩ | ⟨h, _, _⟩
 rotate_left
 · exact absurd rfl h
 have HPI := Lib.hid hpi
 have HR2 := Lib.hid hr
 have HP2 := Lib.hid ((hk.2 w.heap.size (by omega) (by omega)).trans HP1.out)
 have HC2 := Lib.hid ((hk.2 (w.heap.size + 1) (by omega) (by omega)).trans HC1.out)
 have HB2 : Hid (Below w.heap.size w w2) := Lib.hid (HBw1.out.trans (hk.1.mono (by omega)))
 have hz2 : w1.heap.size ≤ w2.heap.size := hk.size
 clear hpi hr hk HX HP1 HC1 HBw1
 go_upto_region 6 with (refine wpList_store_blkE (by rfl) 38 (.tmp 2) (.tmp 13) rfl rfl w.heap.size 0 34 rfl (.agg (pkC p a).toArray) rfl 38 (pkC Pkt.zero PA.zero) (pkC p a) HP2.out rfl rfl info33 (by rw [pkC_len]; decide) (one_cells rfl) ?_; rintro w3 hM he hbel hsz; have HP3 : Hid (MT 38 w3 w.heap.size (pkC p a)) := Lib.hid (put_pk hM); have HR3 : Hid (RP w3 w0.heap.size A c l q) := Lib.hid (HR2.out.to (he _ (by omega))); have HC3 := Lib.hid ((he (w.heap.size + 1) (by omega)).trans HC2.out); have HB3 := Lib.hid (hbel _ _ (Nat.le_refl _) HB2.out); have HPI3 : Hid (PInN w3 w1.heap.size w3.heap.size p a) := Lib.hid ((HPI.out.keep (fun k h1 h2 => he k (by omega))).more (Nat.le_of_eq hsz.symm)); have hz3 : w2.heap.size ≤ w3.heap.size := Nat.le_of_eq hsz.symm; clear hM he hbel hsz)
 clear HP2 HR2 HC2 HB2 HPI
 have k1 := HR3.out.k1
 have HCK := Lib.hid (check6_any p a w3 (HO.out.step HB3.out) ⟨HPI3.out.1.1, HPI3.out.1.2.1, HPI3.out.1.2.2.1, HPI3.out.1.2.2.2.1, HPI3.out.1.2.2.2.2⟩ HSM.out.sz (HSM.out.tx (by have := HN.out; omega)))
 go_wp2_with (refine wpList_load_all (by rfl) 38 _ rfl w.heap.size rfl 38 (pkC p a).toArray (0, 0) _ HP3.out Tryz.underlying38 rfl info33 ?_)
 refine HCK.out.mono ?_
 rintro e w4 ⟨rfl, hb⟩
 have HP4 := Lib.hid (MT.step HP3.out hb)
 have HC4 := Lib.hid (MT.step HC3.out hb)
 have HB4 := Lib.hid (stepB HB3.out hb)
 have HPI4 : Hid (PInN w4 w1.heap.size w4.heap.size p a) := Lib.hid ((HPI3.out.keep (fun k _ h2 => hb.block k h2)).more hb.size)
 have hz4 : w3.heap.size ≤ w4.heap.size := hb.size
 clear hb HCK HP3 HC3 HB3 HPI3 HR3 k1
 rw [HY.out]
 go_wp2_with (first | (refine wpList_store_blkE (by rfl) 38 (.tmp 2) (.tmp 24) rfl rfl w.heap.size 0 34 rfl (.agg (pkC Pkt.zero PA.zero).toArray) rfl 38 _ (pkC Pkt.zero PA.zero) HP4.out rfl rfl info33 (by rw [pkC_len]; decide) (one_cells rfl) ?_; rintro v1 hM he hbel hsz; have H8P := Lib.hid hM; have H8E := Lib.hid he; have H8B := Lib.hid hbel; have H8Z := Lib.hid hsz; clear hM he hbel hsz) | (refine wpList_store_blkE (by rfl) 26 (.tmp 3) (.tmp 25) rfl rfl (w.heap.size + 1) 0 1 rfl (.int .i64 y) rfl 26 _ [.int .i64 y] ((H8E.out (w.heap.size + 1) (by omega)).trans HC4.out) rfl rfl (by kernel_rfl) (by simp) (one_cells rfl) ?_; rintro v2 hM he hbel hsz; have H9C := Lib.hid (errno_put hM); have H9E := Lib.hid he; have H9B := Lib.hid hbel; have H9Z := Lib.hid hsz; clear hM he hbel hsz) | fail)
 have H9P : Hid (MT 38 v2 w.heap.size (pkC Pkt.zero PA.zero)) := Lib.hid ((H9E.out w.heap.size (by omega)).trans (put_pk H8P.out))
 have HBF : Hid (Below w.heap.size w v2) := Lib.hid (H9B.out _ _ (by omega) (H8B.out _ _ (Nat.le_refl _) HB4.out))
 refine leaves_cons (f := 16) (args := #[.pointer (some ⟨w.heap.size, 0, none⟩), .pointer (some ⟨w.heap.size + 1, 0, none⟩)]) (by simp) (by simp [go_sem]) ?_
 refine (dec_idle w.heap.size (w.heap.size + 1) _).mono ?_
 rintro e u' w'' ⟨rfl, rfl, rfl⟩
 exact dec_res rfl rfl H9P.out H9C.out (PInN.zero _ _ _) HBF.out

theorem decode_s4 (A : Option Addr) (c : Nat) (l : List UInt8) (w : World) (hw : S1.Okw w) (hsl : CL bv w w.heap.size A l) (hc : l.length ≤ c) (hn : l.length ≤ 1000000) (h0 : ¬ 4096 < l.length) (p : Pkt) (q z : Int) (hr : pkX l (0, 0) = (p, (q, z))) (hz : z = 0) (h2 : ¬ q < l.length) (hy : checkP p = 0) :
 Calls Tryz.prog 8 #[.slice A l.length c] w (RetD (p, 0) w) := by
 have hmf := @hmfT Tryz.prog
 have HO := Lib.hid hw
 have HSL := Lib.hid hsl
 have HCC := Lib.hid hc
 have HN := Lib.hid hn
 have q0 : decide ((4096 : Int) < (l.length : Int)) = false := decide_eq_false (by omega)
 have HSM : Hid (Sm l.length p) := Lib.hid (by have := pkX_sm l (0, 0); rw [hr] at this; exact this)
 have HRR := Lib.hid hr
 subst hz
 have q2 : decide (q < (l.length : Int)) = false := decide_eq_false h2
 clear h2
 have HY := Lib.hid hy
 clear hy
 clear h0 hr
 clear hw hsl hc hn
 go_enter_defers Tryz.func8, Tryz.ntmps8
 go_upto_region 1 with fail
 refine name_world (C := fun w1 => Code.wp _ _ _ _ w1) ((w.alloc (.cells (pkC Pkt.zero PA.zero).toArray 38)).alloc (.cells [Value.int .i64 0].toArray 26)) ?_
 rintro w0 hw0
 obtain ⟨hb0, hp0, hc0⟩ := two hw0
 have HB0 := Lib.hid hb0
 have HP0 := Lib.hid hp0
 have HC0 := Lib.hid hc0
 have hz0 : w.heap.size + 2 ≤ w0.heap.size := by rw [hw0]; simp
 clear hb0 hp0 hc0 hw0
 go_upto_region 5 with fail
 refine name_world (C := fun w1 => Code.wp _ _ _ _ w1) (w0.alloc (.cells #[.slice A l.length c, .int .i64 0] 55)) ?_
 rintro w1 hw1
 have HR1 : Hid (RP w1 w0.heap.size A c l 0) := Lib.hid ⟨by rw [hw1]; exact heap_alloc_new _ _, ⟨by decide, by decide⟩⟩
 have HB1 : Hid (Below w0.heap.size w0 w1) := Lib.hid (by rw [hw1]; exact belA _ _)
 have hz1 : w0.heap.size < w1.heap.size := HR1.out.lt
 clear hw1
 have HP1 := Lib.hid (MT.step HP0.out HB1.out)
 have HC1 := Lib.hid (MT.step HC0.out HB1.out)
 have HBw1 := Lib.hid (stepB HB0.out HB1.out)
 have HX := Lib.hid (xPk_any w0.heap.size A c l (0, 0) rfl w1 HR1.out ((HSL.out.below HBw1.out).more (by omega)) HCC.out (by have := HN.out; omega))
 clear HP0 HC0 HB0 HR1 HB1
 rw [HRR.out] at HX
 dsimp only at HX
 go_wp2_with fail
 refine HX.out.mono ?_
 intro e w2 h
 rcases h with ⟨_, ⟨a, rfl, hpi⟩, hr, hk⟩ | ⟨h, _, _⟩
 rotate_left
 · exact absurd rfl h
 have HPI := Lib.hid hpi
 have HR2 := Lib.hid hr
 have HP2 := Lib.hid ((hk.2 w.heap.size (by omega) (by omega)).trans HP1.out)
 have HC2 := Lib.hid ((hk.2 (w.heap.size + 1) (by omega) (by omega)).trans HC1.out)
 have HB2 : Hid (Below w.heap.size w w2) := Lib.hid (HBw1.out.trans (hk.1.mono (by omega)))
 have hz2 : w1.heap.size ≤ w2.heap.size := hk.size
 clear hpi hr hk HX HP1 HC1 HBw1
 go_upto_region 6 with (refine wpList_store_blkE (by rfl) 38 (.tmp 2) (.tmp 13) rfl rfl w.heap.size 0 34 rfl (.agg (pkC p a).toArray) rfl 38 (pkC Pkt.zero PA.zero) (pkC p a) HP2.out rfl rfl info33 (by rw [pkC_len]; decide) (one_cells rfl) ?_; rintro w3 hM he hbel hsz; have HP3 : Hid (MT 38 w3 w.heap.size (pkC p a)) := Lib.hid (put_pk hM); have HR3 : Hid (RP w3 w0.heap.size A c l q) := Lib.hid (HR2.out.to (he _ (by omega))); have HC3 := Lib.hid ((he (w.heap.size + 1) (by omega)).trans HC2.out); have HB3 := Lib.hid (hbel _ _ (Nat.le_refl _) HB2.out); have HPI3 : Hid (PInN w3 w1.heap.size w3.heap.size p a) := Lib.hid ((HPI.out.keep (fun k h1 h2 => he k (by omega))).more (Nat.le_of_eq hsz.symm)); have hz3 : w2.heap.size ≤ w3.heap.size := Nat.le_of_eq hsz.symm; clear hM he hbel hsz)
 clear HP2 HR2 HC2 HB2 HPI
 have k1 := HR3.out.k1
 have HCK := Lib.hid (check6_any p a w3 (HO.out.step HB3.out) ⟨HPI3.out.1.1, HPI3.out.1.2.1, HPI3.out.1.2.2.1, HPI3.out.1.2.2.2.1, HPI3.out.1.2.2.2.2⟩ HSM.out.sz (HSM.out.tx (by have := HN.out; omega)))
 go_wp2_with (refine wpList_load_all (by rfl) 38 _ rfl w.heap.size rfl 38 (pkC p a).toArray (0, 0) _ HP3.out Tryz.underlying38 rfl info33 ?_)
 refine HCK.out.mono ?_
 rintro e w4 ⟨rfl, hb⟩
 have HP4 := Lib.hid (MT.step HP3.out hb)
 have HC4 := Lib.hid (MT.step HC3.out hb)
 have HB4 := Lib.hid (stepB HB3.out hb)
 have HPI4 : Hid (PInN w4 w1.heap.size w4.heap.size p a) := Lib.hid ((HPI3.out.keep (fun k _ h2 => hb.block k h2)).more hb.size)
 have hz4 : w3.heap.size ≤ w4.heap.size := hb.size
 clear hb HCK HP3 HC3 HB3 HPI3 HR3 k1
 rw [HY.out]
 go_wp2_with (first | (refine wpList_store_blkE (by rfl) 38 (.tmp 2) (.tmp 26) rfl rfl w.heap.size 0 34 rfl (.agg (pkC p a).toArray) rfl 38 _ (pkC p a) HP4.out rfl rfl info33 (by rw [pkC_len]; decide) (one_cells rfl) ?_; rintro v1 hM he hbel hsz; have H8P := Lib.hid hM; have H8E := Lib.hid he; have H8B := Lib.hid hbel; have H8Z := Lib.hid hsz; clear hM he hbel hsz) | (refine wpList_store_blkE (by rfl) 26 (.tmp 3) (.const (.int .i64 0)) rfl rfl (w.heap.size + 1) 0 1 rfl (.int .i64 0) rfl 26 _ [.int .i64 0] ((H8E.out (w.heap.size + 1) (by omega)).trans HC4.out) rfl rfl (by kernel_rfl) (by simp) (one_cells rfl) ?_; rintro v2 hM he hbel hsz; have H9C := Lib.hid (errno_put hM); have H9E := Lib.hid he; have H9B := Lib.hid hbel; have H9Z := Lib.hid hsz; clear hM he hbel hsz) | (refine wpList_load_all (by rfl) 38 _ rfl w.heap.size rfl 38 (pkC p a).toArray (0, 0) _ HP4.out Tryz.underlying38 rfl info33 ?_))
 have H9P : Hid (MT 38 v2 w.heap.size (pkC p a)) := Lib.hid ((H9E.out w.heap.size (by omega)).trans (put_pk H8P.out))
 have HBF : Hid (Below w.heap.size w v2) := Lib.hid (H9B.out _ _ (by omega) (H8B.out _ _ (Nat.le_refl _) HB4.out))
 refine leaves_cons (f := 16) (args := #[.pointer (some ⟨w.heap.size, 0, none⟩), .pointer (some ⟨w.heap.size + 1, 0, none⟩)]) (by simp) (by simp [go_sem]) ?_
 refine (dec_idle w.heap.size (w.heap.size + 1) _).mono ?_
 rintro e u' w'' ⟨rfl, rfl, rfl⟩
 exact dec_res rfl rfl H9P.out H9C.out (((HPI4.out.keep (fun k h1 h2 => (H9E.out k (by omega)).trans (H8E.out k (by omega)))).more (by rw [H9Z.out, H8Z.out]; exact Nat.le_refl _)).low (by omega)) HBF.out

theorem decode_any (A : Option Addr) (c : Nat) (l : List UInt8) (w : World) (hw : S1.Okw w) (hsl : CL bv w w.heap.size A l) (hc : l.length ≤ c) (hn : l.length ≤ 1000000) : Calls Tryz.prog 8 #[.slice A l.length c] w (RetD (decodeR l) w) := by
 rw [decodeR_pk]
 by_cases h0 : 4096 < l.length
 · rw [if_pos h0]
   exact decode_long A c l w hw hsl hc hn h0
 rw [if_neg h0]
 generalize hr : pkX l (0, 0) = r
 obtain ⟨p, q, z⟩ := r
 dsimp only
 by_cases hz : z ≠ 0
 · rw [if_pos hz]
   exact decode_s1 A c l w hw hsl hc hn h0 p q z hr hz
 rw [if_neg hz]
 by_cases h2 : q < l.length
 · rw [if_pos h2]
   exact decode_s2 A c l w hw hsl hc hn h0 p q z hr (by simpa using hz) h2
 rw [if_neg h2]
 by_cases h3 : checkP p = 0
 · rw [if_neg (by simpa using h3)]
   exact decode_s4 A c l w hw hsl hc hn h0 p q z hr (by simpa using hz) h2 h3
 · rw [if_pos h3]
   exact decode_s3 A c l w hw hsl hc hn h0 p q z hr (by simpa using hz) h2 _ rfl h3

end Go.Proofs.YtdkegoaflabjoaaGreatDoor
