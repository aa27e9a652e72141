/-
  What slices.Clone and join answer at bytes; Append of segment and of the specification. Conditions: the bytes read as data; texts of at most 5000 bytes; so many bytes fit a slice.
-/
import Derived.Test.YtbmeimpfehjnfaaSgA
namespace Go.Proofs.Ytbmeimpfehjnfaa
open Go.RowKit
open S2 (BK Put get_ops exec_load)

theorem oper_appB {o : Oper} {a : Act} {K : Act → World → Prop} {Q : Exit → Act → World → Prop} (wr : World) (s x : Operand) (ho : o.op = .call { callee := .builtin .append, args := #[s, x], argTypes := #[22, 22] })
    (B : Nat) (v : Value) (xs ys : List UInt8) (A : Option Addr) (c : Nat) (hs : a.eval s = v) (hown : Own 5 bv wr B v xs) (hx : a.eval x = .slice A ys.length c) (B' : Nat) (hsl : CL bv wr B' A ys) (w0 : World) (hb : Below B w0 wr) (hB : B ≤ wr.heap.size)
    (hn : xs.length + ys.length ≤ 140737488355328) (h : ∀ v' w', Own 5 bv w' B v' (xs ++ ys) → Below B w0 w' → B ≤ w'.heap.size → K (a.put o.dst v') w') : Oper.wp Try.prog o a wr K Q := by
  obtain ⟨i, hi, hz, hz1, hz2⟩ := info_parts infoU8
  obtain ⟨v', w', hr, h2, h3⟩ := run_append_own_src (P := Try.prog) wr B 22 22 o.type 5 i (.int .u8 0) 1 1 Try.underlying22 hi hz hz1 hz2 rfl (by decide) v xs.length (xs.map bv) hown _ ys.length (ys.map bv) (hsl.src Try.underlying22 bv_one c) (by unfold maxLen; omega) (by omega) hB
  unfold Oper.wp execOp
  simp only [ho, resolve, invoke, builtin, Sem.run_bind, Sem.run_pure, Result.andThen_ok, List.map_toArray, List.map_cons, List.map_nil, hs, hx, hr]
  refine h v' w' ?_ (hb.grown h3 hB (fun j hj => (World.ownsRow.lt hown j hj).1)) (by have := h3.size; omega)
  unfold Own
  simpa using h2

/-- a list of the own stays where another block is stored over -/
theorem Own.put {α : Type} {f : α → Value} {e : TypeId} {w w' : World} {B g : Nat} {v : Value} {xs : List α} (h : Own e f w B v xs) (hp : Put g w w') (hg : g < B) : Own e f w' B v xs := by
  unfold Own at h ⊢
  refine ⟨h.1, ?_⟩
  rcases h.2 with h' | ⟨q, cap, cur, rfl, hB, hq, hnc, hcm, hcs, htake⟩
  · exact .inl h'
  · have h2 := hp.other (M := q) (T := e) (vs := cur.toList) (by unfold BK; simpa using hq) (by omega)
    exact .inr ⟨q, cap, cur, rfl, hB, by unfold BK at h2; simpa using h2, hnc, hcm, hcs, htake⟩
theorem slice_from (g n k : Nat) (hk : k ≤ n) : ∃ A2, (∀ w, (Instr.slice 22 (.slice (some ⟨g, 0, none⟩) n n) (some (.int .i64 (k : Int))) none none).run Try.prog w = .ok (.slice A2 (n - k) (n - k)) w) ∧ (k < n → A2 = some ⟨g, k, none⟩) := by
  refine ⟨if n = k then (some ⟨g, 0, none⟩ : Option Addr) else (some ⟨g, 0, none⟩ : Option Addr).map (·.add (k * 1)), fun w => ?_, fun h => ?_⟩
  · rw [run_slice_l (P := Try.prog) w 22 _ n n undB .i64 k (by omega) (by omega), sizeB]
    simp [Result.andThen, sliced]
  · rw [if_neg (by omega)]
    simp only [Option.map_some, Addr.add, Nat.mul_one, Nat.zero_add]
    split
    · next h0 => subst h0; rfl
    · rfl
theorem splice_two {cur p1 p2 : List Value} (h : cur.length = p1.length + p2.length) : splice (splice cur 0 p1) p1.length p2 = splice cur 0 (p1 ++ p2) := by
  have e1 : splice cur 0 p1 = p1 ++ cur.drop p1.length := by unfold splice; simp
  have e2 : splice cur 0 (p1 ++ p2) = p1 ++ p2 := by
    unfold splice
    rw [List.take_zero, List.nil_append, List.drop_of_length_le (by rw [List.length_append]; omega), List.append_nil]
  rw [e2, e1]
  unfold splice
  rw [List.take_left, List.drop_of_length_le (by rw [List.length_append, List.length_drop]; omega), List.append_nil]
theorem src_cells {w w' : World} {A : Option Addr} {T : List UInt8} (h : CL bv w w.heap.size A T) (hb : Below w.heap.size w w') (h0 : 0 < (T.map bv).length) : ∃ ad, A = some ad ∧ ∀ j v, (T.map bv)[j]? = some v → w'.cell? (ad.add j) = some v := by
  rw [List.length_map] at h0
  obtain ⟨b, o, rfl, hbb, hc⟩ := h h0
  refine ⟨_, rfl, fun j v hj => ?_⟩
  rw [List.getElem?_map] at hj
  cases hx : T[j]? with
  | none => rw [hx] at hj; cases hj
  | some x =>
    rw [hx] at hj
    obtain rfl := Option.some.inj hj
    have h2 : w'.cell? ⟨b, o + j, none⟩ = some (bv x) := (hb.cell hbb).trans (hc j x hx)
    unfold Addr.add
    split
    · next h0 => subst h0; exact h2
    · exact h2

set_option maxHeartbeats 2000000 in
theorem cloneB_any (A : Option Addr) (c : Nat) (l : List UInt8) (w : World) (hsl : CL bv w w.heap.size A l) (hn : l.length ≤ 140737488355328) :
    Calls Try.prog 34 #[.slice A l.length c] w fun e w' => ∃ v, e = .returned v ∧ Own 5 bv w' w.heap.size v l ∧ Below w.heap.size w w' := by
  have q22 : ∀ (w : World) (a : Option Addr) (n c n' c' : Nat), (binOp .eql 22 (.slice a n c) (.slice none n' c')).run Try.prog w = .ok (.bool a.isNone) w := fun w a n c n' c' => Lib.run_eql_slice_nil w _ _ a n c n' c' Try.underlying22
  cases A with
  | none =>
    have : l = [] := by
      cases l with
      | nil => rfl
      | cons x xs => obtain ⟨b, o, e, _⟩ := hsl (by simp); cases e
    subst this
    clear hsl
    go_enter Try.func34, Try.ntmps34
    go_wp2_with fail
    go_ret
    exact ⟨_, rfl, Own.nil _ _, Below.refl _ _⟩
  | some ad =>
    have HS := Lib.hid hsl
    clear hsl
    go_enter Try.func34, Try.ntmps34
    go_wp2_with (at_builtin; refine wpList_appB _ rfl (.tmp 5) (.tmp 6) rfl w.heap.size _ [] l (some ad) c rfl (Own.made w 0 #[] w.heap.size (Nat.le_refl _) (by decide) rfl) rfl w.heap.size (copied HS.out (Nat.le_refl _) _) w ((Below.refl _ _).alloc (Nat.le_refl _) _) (by simp) (by simp; omega) ?_; intro v1 wa own1 hb1 hB1; rw [List.nil_append] at own1)
    go_ret
    exact ⟨_, rfl, own1, hb1⟩

set_option maxHeartbeats 4000000 in
theorem join_any (A : Option Addr) (c : Nat) (l : List UInt8) (A2 : Option Addr) (c2 : Nat) (T : List UInt8) (w : World) (hs1 : CL bv w w.heap.size A l) (hs2 : CL bv w w.heap.size A2 T) (hn : l.length + T.length ≤ 140737488355328) :
    Calls Try.prog 31 #[.slice A l.length c, .slice A2 T.length c2] w fun e w' => ∃ v, e = .returned v ∧ Own 5 bv w' w.heap.size v (l ++ T) ∧ Below w.heap.size w w' := by
  obtain ⟨N, hN⟩ : ∃ N, l.length + T.length = N := ⟨_, rfl⟩
  obtain ⟨cur, hcur, hmk⟩ := made_full w N (by omega)
  have hNi : (l.length : Int) + (T.length : Int) = (N : Int) := by omega
  have hwN : wrap64 ((l.length : Int) + (T.length : Int)) = (N : Int) := by rw [wrap64_id _ (by omega) (by omega)]; exact hNi
  obtain ⟨A3, hsl3, hA3⟩ := slice_from w.heap.size N l.length (by omega)
  have hk3 : N - l.length = T.length := by omega
  rw [hk3] at hsl3
  have HS1 := Lib.hid hs1
  have HS2 := Lib.hid hs2
  have HG : Hid ((w.alloc (.cells cur.toArray 5)).heap[w.heap.size]? = some (.cells cur.toArray 5)) := Lib.hid (heap_alloc_new w _)
  have HBA := Lib.hid (S2.below_new w (.cells cur.toArray 5))
  have HAA := Lib.hid hA3
  have HCU := Lib.hid hcur
  have HNN := Lib.hid hN
  clear hs1 hs2 hA3 hcur hk3 hN
  go_enter Try.func31, Try.ntmps31
  go_upto_region 3 with (with_reducible refine wpList_copy_splice rfl (.tmp 12) (.tmp 13) 22 22 rfl 5 Try.underlying22 sizeU8 (some ⟨w.heap.size, 0, none⟩) A N N l.length c rfl rfl w.heap.size 0 cur 5 HG.out (l.map bv) (by have := HNN.out; rw [List.length_map]; exact (Nat.min_eq_left (by omega)).symm) (copy_from HS1.out (.cells cur.toArray 5) w.heap.size) (by have := HNN.out; have := HCU.out; rw [List.length_map]; omega) (bvs_one l) w.heap.size w HBA.out (Nat.le_refl _) ?_; intro wa hga hba; have HGA := Lib.hid hga.out; have HBA2 := Lib.hid hba; clear hga hba)
  go_wp2_with (with_reducible refine wpList_copy_splice rfl (.tmp 18) (.tmp 19) 22 22 rfl 5 Try.underlying22 sizeU8 A3 A2 T.length T.length T.length c2 rfl rfl w.heap.size l.length (splice cur 0 (l.map bv)) 5 HGA.out (T.map bv) (by rw [List.length_map]; exact (Nat.min_self _).symm) (fun h0 => ⟨HAA.out (by have := HNN.out; rw [List.length_map] at h0; omega), src_cells HS2.out HBA2.out h0⟩) (by have h2 := length_splice cur 0 (l.map bv) (by have := HNN.out; have := HCU.out; rw [List.length_map]; omega); have := HNN.out; have := HCU.out; rw [List.length_map, h2]; omega) (bvs_one T) w.heap.size w HBA2.out (Nat.le_refl _) ?_; intro wb hgb hbb)
  go_ret
  have hgc := hgb.out
  have he := splice_two (cur := cur) (p1 := l.map bv) (p2 := T.map bv) (by have := HNN.out; have := HCU.out; simp only [List.length_map]; omega)
  rw [List.length_map, ← List.map_append] at he
  rw [he] at hgc
  have hown := own_copied (B := w.heap.size) (cap := N) (xs := l ++ T) hgc (Nat.le_refl _) HCU.out (by have := HNN.out; rw [List.length_append]; omega) (by omega)
  have hll : (l ++ T).length = N := by rw [List.length_append]; exact HNN.out
  rw [hll] at hown
  exact ⟨_, rfl, hown, hbb⟩
/-- bytes whose memory lies from a block on -/
def CN (lo : Nat) (w : World) (A : Option Addr) (T : List UInt8) : Prop := CL bv w w.heap.size A T ∧ ∀ b o, A = some ⟨b, o, none⟩ → lo ≤ b
theorem CN.nil (lo : Nat) (w : World) : CN lo w none [] := ⟨CL.nil _ _ _, fun b o e => by cases e⟩
theorem CN.step {lo : Nat} {w w' : World} {A : Option Addr} {T : List UInt8} (h : CN lo w A T) (hb : Below w.heap.size w w') : CN lo w' A T := ⟨h.1.step hb, h.2⟩
theorem CN.weak {lo lo' : Nat} {w : World} {A : Option Addr} {T : List UInt8} (h : CN lo w A T) (hl : lo' ≤ lo) : CN lo' w A T := ⟨h.1, fun b o e => Nat.le_trans hl (h.2 b o e)⟩
theorem CN.put {lo g : Nat} {w w' : World} {A : Option Addr} {T : List UInt8} (h : CN lo w A T) (hp : Put g w w') (hg : g < lo) : CN lo w' A T := by
  refine ⟨fun hn => ?_, h.2⟩
  obtain ⟨b, o, e, hb, hc⟩ := h.1 hn
  have := h.2 b o e
  exact ⟨b, o, e, by rw [hp.size]; exact hb, fun j x hx => (hp.cell (p := ⟨b, o + j, none⟩) (show b ≠ g by omega)).trans (hc j x hx)⟩
theorem Own.cn {w : World} {B lo : Nat} {A : Option Addr} {n c : Nat} {T : List UInt8} (h : Own 5 bv w B (.slice A n c) T) (hl : lo ≤ B) : CN lo w A T := by
  obtain ⟨A', c', e, _, h1, h2⟩ := h.retB
  cases e
  exact ⟨h1 w (Nat.le_refl _) (fun _ _ => rfl), fun b o e => Nat.le_trans hl (h2 b o e)⟩
/-- what Append answers -/
def RetSA (q : (Int × Int × List UInt8) × Int × Int) (W : World) (e : Ending) (w' : World) : Prop :=
  ∃ A c, e = .returned (.tuple #[sgV q.1.1 q.1.2.1 A q.1.2.2.length c, .int .i64 q.2.1, .int .i64 q.2.2]) ∧ q.1.2.2.length ≤ c ∧ CN W.heap.size w' A q.1.2.2 ∧ Below W.heap.size W w'

set_option maxRecDepth 20000 in
set_option maxHeartbeats 8000000 in
theorem sAppend_any (b n : Int) (A : Option Addr) (c : Nat) (l : List UInt8) (k : Int) (key val : ByteArray) (w : World) (hsl : CL bv w w.heap.size A l) (hn : l.length ≤ 65536) (hz : key.size ≤ 5000 ∧ val.size ≤ 5000) :
    Calls Try.prog 16 #[sgV b n A l.length c, .int .i64 k, .string key, .string val] w (RetSA (sgApp b n l k key val) w) := by
  have HE := Lib.hid (fun w => rcEncode_any ⟨n, k, key, val⟩ w (by dsimp only; omega))
  unfold RetRE at HE
  unfold sgApp
  have hok := @rcCk_ok ⟨n, k, key, val⟩
  have hle := @rcEnc_len ⟨n, k, key, val⟩
  generalize rcEnc ⟨n, k, key, val⟩ = T at *
  generalize rcCk ⟨n, k, key, val⟩ = ck at *
  dsimp only at hok
  have HS := Lib.hid hsl
  clear hsl hz
  by_cases hck : ck ≠ 0
  · rw [if_pos hck]
    have hq : (ck != 0) = true := by simp [hck]
    unfold sgV
    go_enter Try.func16, Try.ntmps16
    go_upto_region 1 with fail
    refine name_world (C := fun w1 => Code.wp _ _ _ _ w1) ((w.alloc (.cells (sgC b n A l.length c).toArray 24)).alloc (.cells (sgC 0 0 none 0 0).toArray 24)) ?_
    intro w1 hw1
    obtain ⟨e1, e2, hz1, hb1⟩ := S2.two_laid hw1
    have E_w1 := Lib.hid e1
    have R_w1 := Lib.hid e2
    have B_w1 := Lib.hid hb1
    have P_w1 : Hid (CL bv w1 w1.heap.size A l) := Lib.hid (HS.out.step hb1)
    have Z1 := Lib.hid hz1
    clear hw1 e1 e2 hb1 hz1 HS
    have k1 := E_w1.out.cell 1 rfl
    go_upto_region 2 with first
      | (refine S2.wpList_store_all (by rfl) 32 (.tmp 11) (.tmp 19) rfl rfl (w1.heap.size) rfl (rcC ⟨n, k, key, val⟩) rfl 32 (rcC rcZ) (BK.new w1 _ _) rcSize rfl (S2.all_one rfl) ?_; intro y1 hM hP; have hb : Below w1.heap.size w1 y1 := hP.below (S2.below_new w1 _) (Nat.le_refl _); have E_y1 : Hid (BK 24 y1 w.heap.size (sgC b n A l.length c)) := Lib.hid (E_w1.out.step hb); have R_y1 : Hid (BK 24 y1 (w.heap.size + 1) (sgC 0 0 none 0 0)) := Lib.hid (R_w1.out.step hb); have B_y1 : Hid (Below w.heap.size w y1) := Lib.hid ((stepB B_w1.out hb)); have P_y1 : Hid (CL bv y1 y1.heap.size A l) := Lib.hid (P_w1.out.step hb); have M_y1 : Hid (BK 32 y1 (w1.heap.size) (rcC ⟨n, k, key, val⟩)) := Lib.hid hM; clear hM hP hb E_w1 R_w1 B_w1 P_w1)
    clear k1
    have m0 := M_y1.out.cell 0 rfl
    have m1 := M_y1.out.cell 1 rfl
    have m2 := M_y1.out.cell 2 rfl
    have m3 := M_y1.out.cell 3 rfl
    go_wp2_with fail
    refine (HE.out y1).mono ?_
    rintro e y2 ⟨v3, rfl, own3, hb⟩
    clear m0 m1 m2 m3
    have E_y2 : Hid (BK 24 y2 w.heap.size (sgC b n A l.length c)) := Lib.hid (E_y1.out.step hb)
    have R_y2 : Hid (BK 24 y2 (w.heap.size + 1) (sgC 0 0 none 0 0)) := Lib.hid (R_y1.out.step hb)
    have B_y2 : Hid (Below w.heap.size w y2) := Lib.hid ((stepB B_y1.out hb))
    have P_y2 : Hid (CL bv y2 y2.heap.size A l) := Lib.hid (P_y1.out.step hb)
    have M_y2 : Hid (BK 32 y2 (w1.heap.size) (rcC ⟨n, k, key, val⟩)) := Lib.hid (M_y1.out.step hb)
    clear E_y1 R_y1 B_y1 P_y1 M_y1
    obtain ⟨A3, c3, rfl, hc3, sl3⟩ := own3.ret
    have L_y2 : Hid (CL bv y2 y2.heap.size A3 T) := Lib.hid (sl3)
    clear own3 sl3 HE
    clear hb
    go_wp2_with first
      | (refine S2.wpList_store_all (by rfl) 24 (.tmp 8) (.tmp 27) rfl rfl ((w.heap.size + 1)) rfl (sgC 0 0 none 0 0) rfl 24 (sgC 0 0 none 0 0) R_y2.out sgSize rfl (S2.all_one rfl) ?_; intro y3 hM hP; have R_y3 : Hid (BK 24 y3 ((w.heap.size + 1)) (sgC 0 0 none 0 0)) := Lib.hid hM; have E_y3 : Hid (BK 24 y3 w.heap.size (sgC b n A l.length c)) := Lib.hid (hP.other E_y2.out (by omega)); have B_y3 : Hid (Below w.heap.size w y3) := Lib.hid (hP.below B_y2.out (Nat.le_succ _)); have M_y3 : Hid (BK 32 y3 (w1.heap.size) (rcC ⟨n, k, key, val⟩)) := Lib.hid (hP.other M_y2.out (by have := Z1.out; omega)); clear hM hP E_y2 R_y2 B_y2 P_y2 M_y2 L_y2)
    exact bodyPost_ret (v := .tuple #[sgV 0 0 none 0 0, .int .i64 0, .int .i64 ck]) (res_ctt rfl _ _ (w.heap.size + 1) 24 (sgC 0 0 none 0 0) _ _ _ rfl rfl rfl R_y3.out Try.underlying24 rfl sgSize) rfl ⟨none, 0, rfl, Nat.le_refl _, CN.nil _ _, B_y3.out⟩
  rw [if_neg hck]
  obtain rfl : ck = 0 := by omega
  have hok := hok rfl
  have hle := hle rfl
  have hsum : wrap64 ((l.length : Int) + (T.length : Int)) = (l.length : Int) + (T.length : Int) := wrap64_id _ (by omega) (by omega)
  by_cases hbig : 65536 < l.length + T.length
  · rw [if_pos hbig]
    have hq : (65536 : Int) < (l.length : Int) + (T.length : Int) := by omega
    unfold sgV
    go_enter Try.func16, Try.ntmps16
    go_upto_region 1 with fail
    refine name_world (C := fun w1 => Code.wp _ _ _ _ w1) ((w.alloc (.cells (sgC b n A l.length c).toArray 24)).alloc (.cells (sgC 0 0 none 0 0).toArray 24)) ?_
    intro w1 hw1
    obtain ⟨e1, e2, hz1, hb1⟩ := S2.two_laid hw1
    have E_w1 := Lib.hid e1
    have R_w1 := Lib.hid e2
    have B_w1 := Lib.hid hb1
    have P_w1 : Hid (CL bv w1 w1.heap.size A l) := Lib.hid (HS.out.step hb1)
    have Z1 := Lib.hid hz1
    clear hw1 e1 e2 hb1 hz1 HS
    have k1 := E_w1.out.cell 1 rfl
    go_upto_region 2 with first
      | (refine S2.wpList_store_all (by rfl) 32 (.tmp 11) (.tmp 19) rfl rfl (w1.heap.size) rfl (rcC ⟨n, k, key, val⟩) rfl 32 (rcC rcZ) (BK.new w1 _ _) rcSize rfl (S2.all_one rfl) ?_; intro y1 hM hP; have hb : Below w1.heap.size w1 y1 := hP.below (S2.below_new w1 _) (Nat.le_refl _); have E_y1 : Hid (BK 24 y1 w.heap.size (sgC b n A l.length c)) := Lib.hid (E_w1.out.step hb); have R_y1 : Hid (BK 24 y1 (w.heap.size + 1) (sgC 0 0 none 0 0)) := Lib.hid (R_w1.out.step hb); have B_y1 : Hid (Below w.heap.size w y1) := Lib.hid ((stepB B_w1.out hb)); have P_y1 : Hid (CL bv y1 y1.heap.size A l) := Lib.hid (P_w1.out.step hb); have M_y1 : Hid (BK 32 y1 (w1.heap.size) (rcC ⟨n, k, key, val⟩)) := Lib.hid hM; clear hM hP hb E_w1 R_w1 B_w1 P_w1)
    clear k1
    have m0 := M_y1.out.cell 0 rfl
    have m1 := M_y1.out.cell 1 rfl
    have m2 := M_y1.out.cell 2 rfl
    have m3 := M_y1.out.cell 3 rfl
    go_wp2_with fail
    refine (HE.out y1).mono ?_
    rintro e y2 ⟨v3, rfl, own3, hb⟩
    clear m0 m1 m2 m3
    have E_y2 : Hid (BK 24 y2 w.heap.size (sgC b n A l.length c)) := Lib.hid (E_y1.out.step hb)
    have R_y2 : Hid (BK 24 y2 (w.heap.size + 1) (sgC 0 0 none 0 0)) := Lib.hid (R_y1.out.step hb)
    have B_y2 : Hid (Below w.heap.size w y2) := Lib.hid ((stepB B_y1.out hb))
    have P_y2 : Hid (CL bv y2 y2.heap.size A l) := Lib.hid (P_y1.out.step hb)
    have M_y2 : Hid (BK 32 y2 (w1.heap.size) (rcC ⟨n, k, key, val⟩)) := Lib.hid (M_y1.out.step hb)
    clear E_y1 R_y1 B_y1 P_y1 M_y1
    obtain ⟨A3, c3, rfl, hc3, sl3⟩ := own3.ret
    have L_y2 : Hid (CL bv y2 y2.heap.size A3 T) := Lib.hid (sl3)
    clear own3 sl3 HE
    clear hb
    have k2 := E_y2.out.cell 2 rfl
    go_wp2_with first
      | (refine S2.wpList_store_all (by rfl) 24 (.tmp 8) (.tmp 36) rfl rfl ((w.heap.size + 1)) rfl (sgC 0 0 none 0 0) rfl 24 (sgC 0 0 none 0 0) R_y2.out sgSize rfl (S2.all_one rfl) ?_; intro y3 hM hP; have R_y3 : Hid (BK 24 y3 ((w.heap.size + 1)) (sgC 0 0 none 0 0)) := Lib.hid hM; have E_y3 : Hid (BK 24 y3 w.heap.size (sgC b n A l.length c)) := Lib.hid (hP.other E_y2.out (by omega)); have B_y3 : Hid (Below w.heap.size w y3) := Lib.hid (hP.below B_y2.out (Nat.le_succ _)); have M_y3 : Hid (BK 32 y3 (w1.heap.size) (rcC ⟨n, k, key, val⟩)) := Lib.hid (hP.other M_y2.out (by have := Z1.out; omega)); clear hM hP E_y2 R_y2 B_y2 P_y2 M_y2 L_y2)
    exact bodyPost_ret (v := .tuple #[sgV 0 0 none 0 0, .int .i64 0, .int .i64 6]) (res_ctt rfl _ _ (w.heap.size + 1) 24 (sgC 0 0 none 0 0) _ _ _ rfl rfl rfl R_y3.out Try.underlying24 rfl sgSize) rfl ⟨none, 0, rfl, Nat.le_refl _, CN.nil _ _, B_y3.out⟩
  rw [if_neg hbig]
  have hq : ¬ ((65536 : Int) < (l.length : Int) + (T.length : Int)) := by omega
  have hw1 : wrap64 (n + 1) = n + 1 := wrap64_id _ (by omega) (by omega)
  have hwi : IntKind.i64.wrap (n + 1) = n + 1 := wrap_i64_id _ (by omega) (by omega)
  unfold sgV
  go_enter Try.func16, Try.ntmps16
  go_upto_region 1 with fail
  refine name_world (C := fun w1 => Code.wp _ _ _ _ w1) ((w.alloc (.cells (sgC b n A l.length c).toArray 24)).alloc (.cells (sgC 0 0 none 0 0).toArray 24)) ?_
  intro w1 hw1
  obtain ⟨e1, e2, hz1, hb1⟩ := S2.two_laid hw1
  have E_w1 := Lib.hid e1
  have R_w1 := Lib.hid e2
  have B_w1 := Lib.hid hb1
  have P_w1 : Hid (CL bv w1 w1.heap.size A l) := Lib.hid (HS.out.step hb1)
  have Z1 := Lib.hid hz1
  clear hw1 e1 e2 hb1 hz1 HS
  have k1 := E_w1.out.cell 1 rfl
  go_upto_region 2 with first
    | (refine S2.wpList_store_all (by rfl) 32 (.tmp 11) (.tmp 19) rfl rfl (w1.heap.size) rfl (rcC ⟨n, k, key, val⟩) rfl 32 (rcC rcZ) (BK.new w1 _ _) rcSize rfl (S2.all_one rfl) ?_; intro y1 hM hP; have hb : Below w1.heap.size w1 y1 := hP.below (S2.below_new w1 _) (Nat.le_refl _); have E_y1 : Hid (BK 24 y1 w.heap.size (sgC b n A l.length c)) := Lib.hid (E_w1.out.step hb); have R_y1 : Hid (BK 24 y1 (w.heap.size + 1) (sgC 0 0 none 0 0)) := Lib.hid (R_w1.out.step hb); have B_y1 : Hid (Below w.heap.size w y1) := Lib.hid ((stepB B_w1.out hb)); have P_y1 : Hid (CL bv y1 y1.heap.size A l) := Lib.hid (P_w1.out.step hb); have M_y1 : Hid (BK 32 y1 (w1.heap.size) (rcC ⟨n, k, key, val⟩)) := Lib.hid hM; clear hM hP hb E_w1 R_w1 B_w1 P_w1)
  clear k1
  have m0 := M_y1.out.cell 0 rfl
  have m1 := M_y1.out.cell 1 rfl
  have m2 := M_y1.out.cell 2 rfl
  have m3 := M_y1.out.cell 3 rfl
  go_wp2_with fail
  refine (HE.out y1).mono ?_
  rintro e y2 ⟨v3, rfl, own3, hb⟩
  clear m0 m1 m2 m3
  have E_y2 : Hid (BK 24 y2 w.heap.size (sgC b n A l.length c)) := Lib.hid (E_y1.out.step hb)
  have R_y2 : Hid (BK 24 y2 (w.heap.size + 1) (sgC 0 0 none 0 0)) := Lib.hid (R_y1.out.step hb)
  have B_y2 : Hid (Below w.heap.size w y2) := Lib.hid ((stepB B_y1.out hb))
  have P_y2 : Hid (CL bv y2 y2.heap.size A l) := Lib.hid (P_y1.out.step hb)
  have M_y2 : Hid (BK 32 y2 (w1.heap.size) (rcC ⟨n, k, key, val⟩)) := Lib.hid (M_y1.out.step hb)
  clear E_y1 R_y1 B_y1 P_y1 M_y1
  obtain ⟨A3, c3, rfl, hc3, sl3⟩ := own3.ret
  have L_y2 : Hid (CL bv y2 y2.heap.size A3 T) := Lib.hid (sl3)
  clear own3 sl3 HE
  clear hb
  have k2 := E_y2.out.cell 2 rfl
  go_upto_region 7 with fail
  clear k2
  have GE : Hid (w.heap.size + 1 < y2.heap.size) := Lib.hid R_y2.out.lt
  have G_y2 := GE
  obtain ⟨y3, hy3⟩ : ∃ y3, y3 = World.drew y2 := ⟨_, rfl⟩
  have hbD : Below y2.heap.size y2 y3 := by rw [hy3]; exact (Below.refl _ _).drew
  have E_y3 : Hid (BK 24 y3 w.heap.size (sgC b n A l.length c)) := Lib.hid (E_y2.out.step hbD)
  have R_y3 : Hid (BK 24 y3 (w.heap.size + 1) (sgC 0 0 none 0 0)) := Lib.hid (R_y2.out.step hbD)
  have B_y3 : Hid (Below w.heap.size w y3) := Lib.hid ((stepB B_y2.out hbD))
  have P_y3 : Hid (CL bv y3 y3.heap.size A l) := Lib.hid (P_y2.out.step hbD)
  have M_y3 : Hid (BK 32 y3 (w1.heap.size) (rcC ⟨n, k, key, val⟩)) := Lib.hid (M_y2.out.step hbD)
  have L_y3 : Hid (CL bv y3 y3.heap.size A3 T) := Lib.hid (L_y2.out.step hbD)
  have G_y3 : Hid (w.heap.size + 1 < y3.heap.size) := Lib.hid (Nat.lt_of_lt_of_le G_y2.out hbD.size)
  clear E_y2 R_y2 B_y2 P_y2 M_y2 L_y2 G_y2
  have hbd : (fun w' => BK 24 w' w.heap.size (sgC b n A l.length c) ∧ BK 32 w' (w1.heap.size) (rcC ⟨n, k, key, val⟩)) (World.drew y2) := by rw [← hy3]; exact ⟨E_y3.out, M_y3.out⟩
  have hSD : (fun w' => BK 24 w' w.heap.size (sgC b n A l.length c) ∧ BK 32 w' (w1.heap.size) (rcC ⟨n, k, key, val⟩)) y3 := ⟨E_y3.out, M_y3.out⟩
  have HWD := Lib.hid hy3
  clear hy3 hbD
  refine wp_region_held_drew (S := fun w' => BK 24 w' w.heap.size (sgC b n A l.length c) ∧ BK 32 w' (w1.heap.size) (rcC ⟨n, k, key, val⟩)) (by kernel_rfl) hbd (fun hHeld => ?_)
  rw [← HWD.out]
  clear hHeld
  have hHeld := hSD
  clear hSD hbd HWD
  refine wpAnyH_take (i := 0) (v := (.pointer (some ⟨w.heap.size, 0, none⟩))) (get_ops _ _ _ rfl) (by kernel_rfl) (by kernel_rfl) (by kernel_rfl) (fun _ _ _ h => h) (Or.inl ⟨by rfl, fun wS hSw => by (try dsimp only at hSw); go_simp⟩) hHeld ?_
  try simp only [Act.put, List.setIfInBounds_toArray, List.set_cons_zero, List.set_cons_succ]
  refine wpAnyH_take (i := 1) (v := (.int .i64 b)) (get_ops _ _ _ rfl) (by kernel_rfl) (by kernel_rfl) (by kernel_rfl) (fun _ _ _ h => h) (Or.inl ⟨by rfl, fun wS hSw => by (try dsimp only at hSw); have cS := hSw.1.cell 0 rfl; clear hSw; go_simp⟩) hHeld ?_
  try simp only [Act.put, List.setIfInBounds_toArray, List.set_cons_zero, List.set_cons_succ]
  refine wpAnyH_take (i := 2) (v := (.pointer (some ⟨w1.heap.size, 0, none⟩))) (get_ops _ _ _ rfl) (by kernel_rfl) (by kernel_rfl) (by kernel_rfl) (fun _ _ _ h => h) (Or.inl ⟨by rfl, fun wS hSw => by (try dsimp only at hSw); go_simp⟩) hHeld ?_
  try simp only [Act.put, List.setIfInBounds_toArray, List.set_cons_zero, List.set_cons_succ]
  refine wpAnyH_take (i := 3) (v := (.int .i64 n)) (get_ops _ _ _ rfl) (by kernel_rfl) (by kernel_rfl) (by kernel_rfl) (fun _ _ _ h => h) (Or.inl ⟨by rfl, fun wS hSw => by (try dsimp only at hSw); have cS := hSw.2.cell 0 rfl; clear hSw; go_simp⟩) hHeld ?_
  try simp only [Act.put, List.setIfInBounds_toArray, List.set_cons_zero, List.set_cons_succ]
  refine wpAnyH_take (i := 4) (v := .int .i64 (n + 1)) (get_ops _ _ _ rfl) (by kernel_rfl) (by kernel_rfl) (by kernel_rfl) (fun _ _ _ h => h) (Or.inl ⟨by rfl, fun wS hSw => by (try dsimp only at hSw); first | (go_simp; done) | (go_simp; rw [hwi]) | (go_simp; exact hwi)⟩) hHeld ?_
  try simp only [Act.put, List.setIfInBounds_toArray, List.set_cons_zero, List.set_cons_succ]
  refine wpAnyH_take (i := 5) (v := (.pointer (some ⟨w.heap.size, 2, none⟩))) (get_ops _ _ _ rfl) (by kernel_rfl) (by kernel_rfl) (by kernel_rfl) (fun _ _ _ h => h) (Or.inl ⟨by rfl, fun wS hSw => by (try dsimp only at hSw); go_simp⟩) hHeld ?_
  try simp only [Act.put, List.setIfInBounds_toArray, List.set_cons_zero, List.set_cons_succ]
  refine wpAnyH_take (i := 6) (v := (.slice A l.length c)) (get_ops _ _ _ rfl) (by kernel_rfl) (by kernel_rfl) (by kernel_rfl) (fun _ _ _ h => h) (Or.inl ⟨by rfl, fun wS hSw => by (try dsimp only at hSw); have cS := hSw.1.cell 2 rfl; clear hSw; go_simp⟩) hHeld ?_
  try simp only [Act.put, List.setIfInBounds_toArray, List.set_cons_zero, List.set_cons_succ]
  refine wpAnyH_take (i := 7) (v := (.slice A3 T.length c3)) (get_ops _ _ _ rfl) (by kernel_rfl) (by kernel_rfl) (by kernel_rfl) (fun _ _ _ h => h) (Or.inl ⟨by rfl, fun wS hSw => by (try dsimp only at hSw); go_simp⟩) hHeld ?_
  try simp only [Act.put, List.setIfInBounds_toArray, List.set_cons_zero, List.set_cons_succ]
  refine wpAnyH_take (i := 10) (v := (.pointer (some ⟨w1.heap.size, 0, none⟩))) (get_ops _ _ _ rfl) (by kernel_rfl) (by kernel_rfl) (by kernel_rfl) (fun _ _ _ h => h) (Or.inl ⟨by rfl, fun wS hSw => by (try dsimp only at hSw); go_simp⟩) hHeld ?_
  try simp only [Act.put, List.setIfInBounds_toArray, List.set_cons_zero, List.set_cons_succ]
  refine wpAnyH_take (i := 11) (v := (.int .i64 n)) (get_ops _ _ _ rfl) (by kernel_rfl) (by kernel_rfl) (by kernel_rfl) (fun _ _ _ h => h) (Or.inl ⟨by rfl, fun wS hSw => by (try dsimp only at hSw); have cS := hSw.2.cell 0 rfl; clear hSw; go_simp⟩) hHeld ?_
  try simp only [Act.put, List.setIfInBounds_toArray, List.set_cons_zero, List.set_cons_succ]
  refine wpAnyH_ready (rs := [8]) (by kernel_rfl) (by simp) ?_
  refine (AllReadyH.cons (get_ops _ _ _ rfl) (fun K hK => ?_) AllReadyH.nil)
  have ZQ : Hid (w.heap.size + 1 < y3.heap.size) := G_y3
  go_simp
  refine (join_any _ _ _ _ _ _ y3 P_y3.out L_y3.out (by omega)).mono ?_
  rintro e y4 ⟨v9, rfl, own9, hb⟩
  have E_y4 : Hid (BK 24 y4 w.heap.size (sgC b n A l.length c)) := Lib.hid (E_y3.out.step hb)
  have R_y4 : Hid (BK 24 y4 (w.heap.size + 1) (sgC 0 0 none 0 0)) := Lib.hid (R_y3.out.step hb)
  have B_y4 : Hid (Below w.heap.size w y4) := Lib.hid ((stepB B_y3.out hb))
  have P_y4 : Hid (CL bv y4 y4.heap.size A l) := Lib.hid (P_y3.out.step hb)
  have M_y4 : Hid (BK 32 y4 (w1.heap.size) (rcC ⟨n, k, key, val⟩)) := Lib.hid (M_y3.out.step hb)
  have L_y4 : Hid (CL bv y4 y4.heap.size A3 T) := Lib.hid (L_y3.out.step hb)
  have G_y4 : Hid (w.heap.size + 1 < y4.heap.size) := Lib.hid (Nat.lt_of_lt_of_le G_y3.out hb.size)
  clear E_y3 R_y3 B_y3 P_y3 M_y3 L_y3 G_y3
  obtain ⟨A9, c9, rfl, hc9, _⟩ := own9.ret
  have O_y4 := Lib.hid own9
  have ZO : Hid (w.heap.size + 1 < y3.heap.size) := Lib.hid ZQ.out
  clear own9
  clear hHeld hb
  go_wp2_with fail
  refine hK.out _ _ ⟨E_y4.out, M_y4.out⟩ (fun hHeld => ?_)
  clear hK K
  try simp only [Act.put, List.setIfInBounds_toArray, List.set_cons_zero, List.set_cons_succ]
  refine wpAnyH_take (i := 9) (v := (.agg #[.int .i64 b, .int .i64 (n + 1), .slice A9 (l ++ T).length c9])) (get_ops _ _ _ rfl) (by kernel_rfl) (by kernel_rfl) (by kernel_rfl) (fun _ _ _ h => h) (Or.inl ⟨by rfl, fun wS hSw => by (try dsimp only at hSw); go_simp⟩) hHeld ?_
  try simp only [Act.put, List.setIfInBounds_toArray, List.set_cons_zero, List.set_cons_succ]
  refine wpAnyH_ready (rs := [12]) (by kernel_rfl) (by simp) ?_
  refine (AllReadyH.cons (get_ops _ _ _ rfl) (fun K hK => ?_) AllReadyH.nil)
  refine S2.wp_store_all 24 _ _ rfl rfl (w.heap.size + 1) (by go_simp) (sgC b (n + 1) A9 (l ++ T).length c9) (by first | rfl | go_simp) 24 (sgC 0 0 none 0 0) R_y4.out sgSize rfl (S2.all_one rfl) ?_
  intro y5 hM hP
  have R_y5 : Hid (BK 24 y5 (w.heap.size + 1) (sgC b (n + 1) A9 (l ++ T).length c9)) := Lib.hid (hM)
  have E_y5 : Hid (BK 24 y5 w.heap.size (sgC b n A l.length c)) := Lib.hid (hP.other E_y4.out (by omega))
  have B_y5 : Hid (Below w.heap.size w y5) := Lib.hid (hP.below B_y4.out (Nat.le_succ _))
  have M_y5 : Hid (BK 32 y5 (w1.heap.size) (rcC ⟨n, k, key, val⟩)) := Lib.hid (hP.other M_y4.out (by have := Z1.out; omega))
  have G_y5 : Hid (w.heap.size + 1 < y5.heap.size) := Lib.hid (by have := G_y4.out; rw [hP.size]; exact this)
  have O_y5 : Hid (Own 5 bv y5 y3.heap.size (.slice A9 (l ++ T).length c9) (l ++ T)) := Lib.hid (Own.put O_y4.out hP ZO.out)
  clear E_y4 R_y4 B_y4 P_y4 M_y4 L_y4 G_y4 O_y4
  clear hM hP hHeld
  refine hK.out _ _ ⟨E_y5.out, M_y5.out⟩ (fun hHeld => ?_)
  clear hK K
  try simp only [Act.put, List.setIfInBounds_toArray, List.set_cons_zero, List.set_cons_succ]
  refine wpAnyH_take (i := 13) (v := (.int .i64 n)) (get_ops _ _ _ rfl) (by kernel_rfl) (by kernel_rfl) (by kernel_rfl) (fun _ _ _ h => h) (Or.inl ⟨by rfl, fun wS hSw => by (try dsimp only at hSw); go_simp⟩) hHeld ?_
  try simp only [Act.put, List.setIfInBounds_toArray, List.set_cons_zero, List.set_cons_succ]
  refine wpAnyH_take (i := 14) (v := (.int .i64 0)) (get_ops _ _ _ rfl) (by kernel_rfl) (by kernel_rfl) (by kernel_rfl) (fun _ _ _ h => h) (Or.inl ⟨by rfl, fun wS hSw => by (try dsimp only at hSw); go_simp⟩) hHeld ?_
  try simp only [Act.put, List.setIfInBounds_toArray, List.set_cons_zero, List.set_cons_succ]
  refine wpAnyH_done (by kernel_rfl) ?_ _
  go_wp2_with fail
  exact bodyPost_ret (v := .tuple #[sgV b (n + 1) A9 (l ++ T).length c9, .int .i64 n, .int .i64 0]) (res_ctt rfl _ _ (w.heap.size + 1) 24 (sgC b (n + 1) A9 (l ++ T).length c9) _ _ _ rfl rfl rfl R_y5.out Try.underlying24 rfl sgSize) rfl ⟨A9, c9, rfl, hc9, Own.cn O_y5.out (by have := ZQ.out; omega), B_y5.out⟩

set_option maxRecDepth 20000 in
set_option maxHeartbeats 8000000 in
theorem rSgAppend_any (b n : Int) (A : Option Addr) (c : Nat) (l : List UInt8) (k : Int) (key val : ByteArray) (w : World) (hsl : CL bv w w.heap.size A l) (hn : l.length ≤ 65536) (hz : key.size ≤ 5000 ∧ val.size ≤ 5000) :
    Calls Try.prog 17 #[sgV b n A l.length c, .int .i64 k, .string key, .string val] w (RetSA (sgApp b n l k key val) w) := by
  have HE := Lib.hid (fun w => rrEncode_any ⟨n, k, key, val⟩ w (by dsimp only; omega))
  unfold RetRE at HE
  unfold sgApp
  have hok := @rcCk_ok ⟨n, k, key, val⟩
  have hle := @rcEnc_len ⟨n, k, key, val⟩
  generalize rcEnc ⟨n, k, key, val⟩ = T at *
  generalize rcCk ⟨n, k, key, val⟩ = ck at *
  dsimp only at hok
  have HS := Lib.hid hsl
  clear hsl hz
  by_cases hck : ck ≠ 0
  · rw [if_pos hck]
    have hq : (ck != 0) = true := by simp [hck]
    unfold sgV
    go_enter Try.func17, Try.ntmps17
    go_upto_region 1 with fail
    refine name_world (C := fun w1 => Code.wp _ _ _ _ w1) ((w.alloc (.cells (sgC b n A l.length c).toArray 24)).alloc (.cells (sgC 0 0 none 0 0).toArray 24)) ?_
    intro w1 hw1
    obtain ⟨e1, e2, hz1, hb1⟩ := S2.two_laid hw1
    have E_w1 := Lib.hid e1
    have R_w1 := Lib.hid e2
    have B_w1 := Lib.hid hb1
    have P_w1 : Hid (CL bv w1 w1.heap.size A l) := Lib.hid (HS.out.step hb1)
    have Z1 := Lib.hid hz1
    clear hw1 e1 e2 hb1 hz1 HS
    have k1 := E_w1.out.cell 1 rfl
    go_wp2_with fail
    refine (HE.out w1).mono ?_
    rintro e y1 ⟨v3, rfl, own3, hb⟩
    clear k1
    have E_y1 : Hid (BK 24 y1 w.heap.size (sgC b n A l.length c)) := Lib.hid (E_w1.out.step hb)
    have R_y1 : Hid (BK 24 y1 (w.heap.size + 1) (sgC 0 0 none 0 0)) := Lib.hid (R_w1.out.step hb)
    have B_y1 : Hid (Below w.heap.size w y1) := Lib.hid ((stepB B_w1.out hb))
    have P_y1 : Hid (CL bv y1 y1.heap.size A l) := Lib.hid (P_w1.out.step hb)
    clear E_w1 R_w1 B_w1 P_w1
    obtain ⟨A3, c3, rfl, hc3, sl3⟩ := own3.ret
    have L_y1 : Hid (CL bv y1 y1.heap.size A3 T) := Lib.hid (sl3)
    clear own3 sl3 HE
    clear hb
    go_wp2_with first
      | (refine S2.wpList_store_all (by rfl) 24 (.tmp 8) (.tmp 25) rfl rfl ((w.heap.size + 1)) rfl (sgC 0 0 none 0 0) rfl 24 (sgC 0 0 none 0 0) R_y1.out sgSize rfl (S2.all_one rfl) ?_; intro y2 hM hP; have R_y2 : Hid (BK 24 y2 ((w.heap.size + 1)) (sgC 0 0 none 0 0)) := Lib.hid hM; have E_y2 : Hid (BK 24 y2 w.heap.size (sgC b n A l.length c)) := Lib.hid (hP.other E_y1.out (by omega)); have B_y2 : Hid (Below w.heap.size w y2) := Lib.hid (hP.below B_y1.out (Nat.le_succ _)); clear hM hP E_y1 R_y1 B_y1 P_y1 L_y1)
    exact bodyPost_ret (v := .tuple #[sgV 0 0 none 0 0, .int .i64 0, .int .i64 ck]) (res_ctt rfl _ _ (w.heap.size + 1) 24 (sgC 0 0 none 0 0) _ _ _ rfl rfl rfl R_y2.out Try.underlying24 rfl sgSize) rfl ⟨none, 0, rfl, Nat.le_refl _, CN.nil _ _, B_y2.out⟩
  rw [if_neg hck]
  obtain rfl : ck = 0 := by omega
  have hok := hok rfl
  have hle := hle rfl
  have hsum : wrap64 ((l.length : Int) + (T.length : Int)) = (l.length : Int) + (T.length : Int) := wrap64_id _ (by omega) (by omega)
  by_cases hbig : 65536 < l.length + T.length
  · rw [if_pos hbig]
    have hq : (65536 : Int) < (l.length : Int) + (T.length : Int) := by omega
    unfold sgV
    go_enter Try.func17, Try.ntmps17
    go_upto_region 1 with fail
    refine name_world (C := fun w1 => Code.wp _ _ _ _ w1) ((w.alloc (.cells (sgC b n A l.length c).toArray 24)).alloc (.cells (sgC 0 0 none 0 0).toArray 24)) ?_
    intro w1 hw1
    obtain ⟨e1, e2, hz1, hb1⟩ := S2.two_laid hw1
    have E_w1 := Lib.hid e1
    have R_w1 := Lib.hid e2
    have B_w1 := Lib.hid hb1
    have P_w1 : Hid (CL bv w1 w1.heap.size A l) := Lib.hid (HS.out.step hb1)
    have Z1 := Lib.hid hz1
    clear hw1 e1 e2 hb1 hz1 HS
    have k1 := E_w1.out.cell 1 rfl
    go_wp2_with fail
    refine (HE.out w1).mono ?_
    rintro e y1 ⟨v3, rfl, own3, hb⟩
    clear k1
    have E_y1 : Hid (BK 24 y1 w.heap.size (sgC b n A l.length c)) := Lib.hid (E_w1.out.step hb)
    have R_y1 : Hid (BK 24 y1 (w.heap.size + 1) (sgC 0 0 none 0 0)) := Lib.hid (R_w1.out.step hb)
    have B_y1 : Hid (Below w.heap.size w y1) := Lib.hid ((stepB B_w1.out hb))
    have P_y1 : Hid (CL bv y1 y1.heap.size A l) := Lib.hid (P_w1.out.step hb)
    clear E_w1 R_w1 B_w1 P_w1
    obtain ⟨A3, c3, rfl, hc3, sl3⟩ := own3.ret
    have L_y1 : Hid (CL bv y1 y1.heap.size A3 T) := Lib.hid (sl3)
    clear own3 sl3 HE
    clear hb
    have k2 := E_y1.out.cell 2 rfl
    go_wp2_with first
      | (refine S2.wpList_store_all (by rfl) 24 (.tmp 8) (.tmp 34) rfl rfl ((w.heap.size + 1)) rfl (sgC 0 0 none 0 0) rfl 24 (sgC 0 0 none 0 0) R_y1.out sgSize rfl (S2.all_one rfl) ?_; intro y2 hM hP; have R_y2 : Hid (BK 24 y2 ((w.heap.size + 1)) (sgC 0 0 none 0 0)) := Lib.hid hM; have E_y2 : Hid (BK 24 y2 w.heap.size (sgC b n A l.length c)) := Lib.hid (hP.other E_y1.out (by omega)); have B_y2 : Hid (Below w.heap.size w y2) := Lib.hid (hP.below B_y1.out (Nat.le_succ _)); clear hM hP E_y1 R_y1 B_y1 P_y1 L_y1)
    exact bodyPost_ret (v := .tuple #[sgV 0 0 none 0 0, .int .i64 0, .int .i64 6]) (res_ctt rfl _ _ (w.heap.size + 1) 24 (sgC 0 0 none 0 0) _ _ _ rfl rfl rfl R_y2.out Try.underlying24 rfl sgSize) rfl ⟨none, 0, rfl, Nat.le_refl _, CN.nil _ _, B_y2.out⟩
  rw [if_neg hbig]
  have hq : ¬ ((65536 : Int) < (l.length : Int) + (T.length : Int)) := by omega
  have hw1 : wrap64 (n + 1) = n + 1 := wrap64_id _ (by omega) (by omega)
  have hwi : IntKind.i64.wrap (n + 1) = n + 1 := wrap_i64_id _ (by omega) (by omega)
  unfold sgV
  go_enter Try.func17, Try.ntmps17
  go_upto_region 1 with fail
  refine name_world (C := fun w1 => Code.wp _ _ _ _ w1) ((w.alloc (.cells (sgC b n A l.length c).toArray 24)).alloc (.cells (sgC 0 0 none 0 0).toArray 24)) ?_
  intro w1 hw1
  obtain ⟨e1, e2, hz1, hb1⟩ := S2.two_laid hw1
  have E_w1 := Lib.hid e1
  have R_w1 := Lib.hid e2
  have B_w1 := Lib.hid hb1
  have P_w1 : Hid (CL bv w1 w1.heap.size A l) := Lib.hid (HS.out.step hb1)
  have Z1 := Lib.hid hz1
  clear hw1 e1 e2 hb1 hz1 HS
  have k1 := E_w1.out.cell 1 rfl
  go_wp2_with fail
  refine (HE.out w1).mono ?_
  rintro e y1 ⟨v3, rfl, own3, hb⟩
  clear k1
  have E_y1 : Hid (BK 24 y1 w.heap.size (sgC b n A l.length c)) := Lib.hid (E_w1.out.step hb)
  have R_y1 : Hid (BK 24 y1 (w.heap.size + 1) (sgC 0 0 none 0 0)) := Lib.hid (R_w1.out.step hb)
  have B_y1 : Hid (Below w.heap.size w y1) := Lib.hid ((stepB B_w1.out hb))
  have P_y1 : Hid (CL bv y1 y1.heap.size A l) := Lib.hid (P_w1.out.step hb)
  clear E_w1 R_w1 B_w1 P_w1
  obtain ⟨A3, c3, rfl, hc3, sl3⟩ := own3.ret
  have L_y1 : Hid (CL bv y1 y1.heap.size A3 T) := Lib.hid (sl3)
  clear own3 sl3 HE
  clear hb
  have k2 := E_y1.out.cell 2 rfl
  go_upto_region 6 with fail
  clear k2
  have GE : Hid (w.heap.size + 1 < y1.heap.size) := Lib.hid R_y1.out.lt
  have G_y1 := GE
  obtain ⟨y2, hy2⟩ : ∃ y2, y2 = World.drew y1 := ⟨_, rfl⟩
  have hbD : Below y1.heap.size y1 y2 := by rw [hy2]; exact (Below.refl _ _).drew
  have E_y2 : Hid (BK 24 y2 w.heap.size (sgC b n A l.length c)) := Lib.hid (E_y1.out.step hbD)
  have R_y2 : Hid (BK 24 y2 (w.heap.size + 1) (sgC 0 0 none 0 0)) := Lib.hid (R_y1.out.step hbD)
  have B_y2 : Hid (Below w.heap.size w y2) := Lib.hid ((stepB B_y1.out hbD))
  have P_y2 : Hid (CL bv y2 y2.heap.size A l) := Lib.hid (P_y1.out.step hbD)
  have L_y2 : Hid (CL bv y2 y2.heap.size A3 T) := Lib.hid (L_y1.out.step hbD)
  have G_y2 : Hid (w.heap.size + 1 < y2.heap.size) := Lib.hid (Nat.lt_of_lt_of_le G_y1.out hbD.size)
  clear E_y1 R_y1 B_y1 P_y1 L_y1 G_y1
  have hbd : (fun w' => BK 24 w' w.heap.size (sgC b n A l.length c)) (World.drew y1) := by rw [← hy2]; exact E_y2.out
  have hSD : (fun w' => BK 24 w' w.heap.size (sgC b n A l.length c)) y2 := E_y2.out
  have HWD := Lib.hid hy2
  clear hy2 hbD
  refine wp_region_held_drew (S := fun w' => BK 24 w' w.heap.size (sgC b n A l.length c)) (by kernel_rfl) hbd (fun hHeld => ?_)
  rw [← HWD.out]
  clear hHeld
  have hHeld := hSD
  clear hSD hbd HWD
  refine wpAnyH_take (i := 0) (v := (.pointer (some ⟨w.heap.size, 0, none⟩))) (get_ops _ _ _ rfl) (by kernel_rfl) (by kernel_rfl) (by kernel_rfl) (fun _ _ _ h => h) (Or.inl ⟨by rfl, fun wS hSw => by (try dsimp only at hSw); go_simp⟩) hHeld ?_
  try simp only [Act.put, List.setIfInBounds_toArray, List.set_cons_zero, List.set_cons_succ]
  refine wpAnyH_take (i := 1) (v := (.int .i64 b)) (get_ops _ _ _ rfl) (by kernel_rfl) (by kernel_rfl) (by kernel_rfl) (fun _ _ _ h => h) (Or.inl ⟨by rfl, fun wS hSw => by (try dsimp only at hSw); have cS := hSw.cell 0 rfl; clear hSw; go_simp⟩) hHeld ?_
  try simp only [Act.put, List.setIfInBounds_toArray, List.set_cons_zero, List.set_cons_succ]
  refine wpAnyH_take (i := 2) (v := (.pointer (some ⟨w.heap.size, 1, none⟩))) (get_ops _ _ _ rfl) (by kernel_rfl) (by kernel_rfl) (by kernel_rfl) (fun _ _ _ h => h) (Or.inl ⟨by rfl, fun wS hSw => by (try dsimp only at hSw); go_simp⟩) hHeld ?_
  try simp only [Act.put, List.setIfInBounds_toArray, List.set_cons_zero, List.set_cons_succ]
  refine wpAnyH_take (i := 3) (v := (.int .i64 n)) (get_ops _ _ _ rfl) (by kernel_rfl) (by kernel_rfl) (by kernel_rfl) (fun _ _ _ h => h) (Or.inl ⟨by rfl, fun wS hSw => by (try dsimp only at hSw); have cS := hSw.cell 1 rfl; clear hSw; go_simp⟩) hHeld ?_
  try simp only [Act.put, List.setIfInBounds_toArray, List.set_cons_zero, List.set_cons_succ]
  refine wpAnyH_take (i := 4) (v := .int .i64 (n + 1)) (get_ops _ _ _ rfl) (by kernel_rfl) (by kernel_rfl) (by kernel_rfl) (fun _ _ _ h => h) (Or.inl ⟨by rfl, fun wS hSw => by (try dsimp only at hSw); first | (go_simp; done) | (go_simp; rw [hwi]) | (go_simp; exact hwi)⟩) hHeld ?_
  try simp only [Act.put, List.setIfInBounds_toArray, List.set_cons_zero, List.set_cons_succ]
  refine wpAnyH_take (i := 6) (v := (.pointer (some ⟨w.heap.size, 2, none⟩))) (get_ops _ _ _ rfl) (by kernel_rfl) (by kernel_rfl) (by kernel_rfl) (fun _ _ _ h => h) (Or.inl ⟨by rfl, fun wS hSw => by (try dsimp only at hSw); go_simp⟩) hHeld ?_
  try simp only [Act.put, List.setIfInBounds_toArray, List.set_cons_zero, List.set_cons_succ]
  refine wpAnyH_take (i := 7) (v := (.slice A l.length c)) (get_ops _ _ _ rfl) (by kernel_rfl) (by kernel_rfl) (by kernel_rfl) (fun _ _ _ h => h) (Or.inl ⟨by rfl, fun wS hSw => by (try dsimp only at hSw); have cS := hSw.cell 2 rfl; clear hSw; go_simp⟩) hHeld ?_
  try simp only [Act.put, List.setIfInBounds_toArray, List.set_cons_zero, List.set_cons_succ]
  refine wpAnyH_take (i := 9) (v := (.slice A3 T.length c3)) (get_ops _ _ _ rfl) (by kernel_rfl) (by kernel_rfl) (by kernel_rfl) (fun _ _ _ h => h) (Or.inl ⟨by rfl, fun wS hSw => by (try dsimp only at hSw); go_simp⟩) hHeld ?_
  try simp only [Act.put, List.setIfInBounds_toArray, List.set_cons_zero, List.set_cons_succ]
  refine wpAnyH_take (i := 12) (v := (.pointer (some ⟨w.heap.size, 1, none⟩))) (get_ops _ _ _ rfl) (by kernel_rfl) (by kernel_rfl) (by kernel_rfl) (fun _ _ _ h => h) (Or.inl ⟨by rfl, fun wS hSw => by (try dsimp only at hSw); go_simp⟩) hHeld ?_
  try simp only [Act.put, List.setIfInBounds_toArray, List.set_cons_zero, List.set_cons_succ]
  refine wpAnyH_take (i := 13) (v := (.int .i64 n)) (get_ops _ _ _ rfl) (by kernel_rfl) (by kernel_rfl) (by kernel_rfl) (fun _ _ _ h => h) (Or.inl ⟨by rfl, fun wS hSw => by (try dsimp only at hSw); have cS := hSw.cell 1 rfl; clear hSw; go_simp⟩) hHeld ?_
  try simp only [Act.put, List.setIfInBounds_toArray, List.set_cons_zero, List.set_cons_succ]
  refine wpAnyH_ready (rs := [5]) (by kernel_rfl) (by simp) ?_
  refine (AllReadyH.cons (get_ops _ _ _ rfl) (fun K hK => ?_) AllReadyH.nil)
  go_simp
  obtain ⟨v7, hv7⟩ : ∃ v : Value, v = .slice (some ⟨y2.heap.size, 0, none⟩) 0 0 := ⟨_, rfl⟩
  rw [← hv7]
  refine name_world (C := fun w9 => K _ w9) (y2.alloc (.cells #[] 5)) ?_
  intro y3 hy3
  have hb : Below y2.heap.size y2 y3 := by rw [hy3]; exact S2.below_new _ _
  have hN : Own 5 bv y3 y2.heap.size v7 [] := by rw [hy3, hv7]; exact Own.made _ 0 #[] _ (Nat.le_refl _) (by decide) rfl
  have Q_y3 : Hid (Below y2.heap.size y2 y3) := Lib.hid hb
  have ZQ : Hid (w.heap.size + 1 < y2.heap.size) := G_y2
  have PB : Hid (CL bv y2 y2.heap.size A l) := P_y2
  have LB : Hid (CL bv y2 y2.heap.size A3 T) := L_y2
  have EB : Hid (BK 24 y2 w.heap.size (sgC b n A l.length c)) := E_y2
  have RB : Hid (BK 24 y2 (w.heap.size + 1) (sgC 0 0 none 0 0)) := R_y2
  have BB : Hid (Below w.heap.size w y2) := B_y2
  have E_y3 : Hid (BK 24 y3 w.heap.size (sgC b n A l.length c)) := Lib.hid (E_y2.out.step hb)
  have R_y3 : Hid (BK 24 y3 (w.heap.size + 1) (sgC 0 0 none 0 0)) := Lib.hid (R_y2.out.step hb)
  have B_y3 : Hid (Below w.heap.size w y3) := Lib.hid ((stepB B_y2.out hb))
  have P_y3 : Hid (CL bv y3 y3.heap.size A l) := Lib.hid (P_y2.out.step hb)
  have L_y3 : Hid (CL bv y3 y3.heap.size A3 T) := Lib.hid (L_y2.out.step hb)
  have G_y3 : Hid (w.heap.size + 1 < y3.heap.size) := Lib.hid (Nat.lt_of_lt_of_le G_y2.out hb.size)
  clear E_y2 R_y2 B_y2 P_y2 L_y2 G_y2
  have O_y3 := Lib.hid hN
  clear hHeld hb hN hy3 hv7
  refine hK.out _ _ E_y3.out (fun hHeld => ?_)
  clear hK K
  try simp only [Act.put, List.setIfInBounds_toArray, List.set_cons_zero, List.set_cons_succ]
  refine wpAnyH_ready (rs := [8]) (by kernel_rfl) (by simp) ?_
  refine (AllReadyH.cons (get_ops _ _ _ rfl) (fun K hK => ?_) AllReadyH.nil)
  rw [if_pos (by rfl)]
  refine oper_appB _ (.tmp 40) (.tmp 42) rfl y2.heap.size v7 [] l A c (by go_simp) O_y3.out (by go_simp) y2.heap.size (PB.out.below Q_y3.out) y2 Q_y3.out Q_y3.out.size (by simp; omega) ?_
  intro v8 y4 hown hbb hBB
  try rw [List.nil_append] at hown
  have E_y4 : Hid (BK 24 y4 w.heap.size (sgC b n A l.length c)) := Lib.hid (EB.out.keep (Nat.lt_trans (Nat.lt_succ_self _) ZQ.out) hbb)
  have R_y4 : Hid (BK 24 y4 (w.heap.size + 1) (sgC 0 0 none 0 0)) := Lib.hid (RB.out.keep ZQ.out hbb)
  have B_y4 : Hid (Below w.heap.size w y4) := Lib.hid (stepB BB.out hbb)
  have Q_y4 : Hid (Below y2.heap.size y2 y4) := Lib.hid (hbb)
  clear E_y3 R_y3 B_y3 P_y3 L_y3 G_y3 O_y3 Q_y3
  have O_y4 := Lib.hid hown
  clear hHeld hown hbb hBB
  refine hK.out _ _ E_y4.out (fun hHeld => ?_)
  clear hK K
  try simp only [Act.put, List.setIfInBounds_toArray, List.set_cons_zero, List.set_cons_succ]
  refine wpAnyH_ready (rs := [10]) (by kernel_rfl) (by simp) ?_
  refine (AllReadyH.cons (get_ops _ _ _ rfl) (fun K hK => ?_) AllReadyH.nil)
  rw [if_pos (by rfl)]
  refine oper_appB _ (.tmp 43) (.tmp 44) rfl y2.heap.size v8 l T A3 c3 (by go_simp) O_y4.out (by go_simp) y2.heap.size (LB.out.below Q_y4.out) y2 Q_y4.out Q_y4.out.size (by omega) ?_
  intro v9 y5 hown hbb hBB
  try rw [List.nil_append] at hown
  obtain ⟨A9, c9, rfl, hc9, _⟩ := hown.ret
  have E_y5 : Hid (BK 24 y5 w.heap.size (sgC b n A l.length c)) := Lib.hid (EB.out.keep (Nat.lt_trans (Nat.lt_succ_self _) ZQ.out) hbb)
  have R_y5 : Hid (BK 24 y5 (w.heap.size + 1) (sgC 0 0 none 0 0)) := Lib.hid (RB.out.keep ZQ.out hbb)
  have B_y5 : Hid (Below w.heap.size w y5) := Lib.hid (stepB BB.out hbb)
  have Q_y5 : Hid (Below y2.heap.size y2 y5) := Lib.hid (hbb)
  clear E_y4 R_y4 B_y4 Q_y4 O_y4
  have O_y5 := Lib.hid hown
  clear hHeld hown hbb hBB
  refine hK.out _ _ E_y5.out (fun hHeld => ?_)
  clear hK K
  try simp only [Act.put, List.setIfInBounds_toArray, List.set_cons_zero, List.set_cons_succ]
  refine wpAnyH_take (i := 11) (v := (.agg #[.int .i64 b, .int .i64 (n + 1), .slice A9 (l ++ T).length c9])) (get_ops _ _ _ rfl) (by kernel_rfl) (by kernel_rfl) (by kernel_rfl) (fun _ _ _ h => h) (Or.inl ⟨by rfl, fun wS hSw => by (try dsimp only at hSw); go_simp⟩) hHeld ?_
  try simp only [Act.put, List.setIfInBounds_toArray, List.set_cons_zero, List.set_cons_succ]
  refine wpAnyH_ready (rs := [14]) (by kernel_rfl) (by simp) ?_
  refine (AllReadyH.cons (get_ops _ _ _ rfl) (fun K hK => ?_) AllReadyH.nil)
  refine S2.wp_store_all 24 _ _ rfl rfl (w.heap.size + 1) (by go_simp) (sgC b (n + 1) A9 (l ++ T).length c9) (by first | rfl | go_simp) 24 (sgC 0 0 none 0 0) R_y5.out sgSize rfl (S2.all_one rfl) ?_
  intro y6 hM hP
  have R_y6 : Hid (BK 24 y6 (w.heap.size + 1) (sgC b (n + 1) A9 (l ++ T).length c9)) := Lib.hid (hM)
  have E_y6 : Hid (BK 24 y6 w.heap.size (sgC b n A l.length c)) := Lib.hid (hP.other E_y5.out (by omega))
  have B_y6 : Hid (Below w.heap.size w y6) := Lib.hid (hP.below B_y5.out (Nat.le_succ _))
  have O_y6 : Hid (Own 5 bv y6 y2.heap.size (.slice A9 (l ++ T).length c9) (l ++ T)) := Lib.hid (Own.put O_y5.out hP ZQ.out)
  clear E_y5 R_y5 B_y5 Q_y5 O_y5
  clear hM hP hHeld
  refine hK.out _ _ E_y6.out (fun hHeld => ?_)
  clear hK K
  try simp only [Act.put, List.setIfInBounds_toArray, List.set_cons_zero, List.set_cons_succ]
  refine wpAnyH_take (i := 15) (v := (.int .i64 n)) (get_ops _ _ _ rfl) (by kernel_rfl) (by kernel_rfl) (by kernel_rfl) (fun _ _ _ h => h) (Or.inl ⟨by rfl, fun wS hSw => by (try dsimp only at hSw); go_simp⟩) hHeld ?_
  try simp only [Act.put, List.setIfInBounds_toArray, List.set_cons_zero, List.set_cons_succ]
  refine wpAnyH_take (i := 16) (v := (.int .i64 0)) (get_ops _ _ _ rfl) (by kernel_rfl) (by kernel_rfl) (by kernel_rfl) (fun _ _ _ h => h) (Or.inl ⟨by rfl, fun wS hSw => by (try dsimp only at hSw); go_simp⟩) hHeld ?_
  try simp only [Act.put, List.setIfInBounds_toArray, List.set_cons_zero, List.set_cons_succ]
  refine wpAnyH_done (by kernel_rfl) ?_ _
  go_wp2_with fail
  exact bodyPost_ret (v := .tuple #[sgV b (n + 1) A9 (l ++ T).length c9, .int .i64 n, .int .i64 0]) (res_ctt rfl _ _ (w.heap.size + 1) 24 (sgC b (n + 1) A9 (l ++ T).length c9) _ _ _ rfl rfl rfl R_y6.out Try.underlying24 rfl sgSize) rfl ⟨A9, c9, rfl, hc9, Own.cn O_y6.out (by have := ZQ.out; omega), B_y6.out⟩
end Go.Proofs.Ytbmeimpfehjnfaa
