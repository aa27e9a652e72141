/-
  What Encode and Size of record answer, of the program and of the specification. Conditions: texts of at most 5000 bytes.
-/
import Derived.Test.YtbmeimpfehjnfaaRcA
import Derived.Test.YtbmeimpfehjnfaaBlk
import Derived.Test.YtbmeimpfehjnfaaNext
namespace Go.Proofs.Ytbmeimpfehjnfaa
open Go.RowKit
open S2 (BK)

theorem name_world {C : World → Prop} (W : World) (h : ∀ w1, w1 = W → C w1) : C W := h W rfl
def RetRE (xs : List UInt8) (c : Int) (W : World) (e : Ending) (w' : World) : Prop :=
  ∃ v, e = .returned (.tuple #[v, .int .i64 c]) ∧ Own 5 bv w' W.heap.size v xs ∧ Below W.heap.size W w'
theorem rcEnc_ok {r : Rc} (h : rcCk r = 0) : rcEnc r = wrapR (enc r.off ++ enc r.kind ++ encT r.key ++ encT r.val) := by unfold rcEnc rcPay; rw [if_neg (by omega)]
theorem rcEnc_bad {r : Rc} (h : rcCk r ≠ 0) : rcEnc r = [] := by unfold rcEnc; rw [if_pos h]
theorem rcV_load {w : World} {g : Nat} {r : Rc} (h : BK 32 w g (rcC r)) : (loadVar 32 ⟨g, 0, none⟩).run Try.prog w = .ok (rcV r) w := S2.run_load_all h Try.underlying32 rfl (by kernel_rfl)

set_option maxHeartbeats 4000000 in
theorem rcPayload_any (r : Rc) (w : World) (h : rcCk r = 0) :
    Calls Try.prog 42 #[rcV r] w fun e w' => ∃ v, e = .returned v ∧ Own 5 bv w' w.heap.size v (rcPay r) ∧ Below w.heap.size w w' := by
  have h0 := rcCk_ok h
  have l1 := (enc_len r.off).2
  have l2 := (enc_len r.kind).2
  have l3 := encT_len r.key
  have l4 := encT_len r.val
  unfold rcPay
  have HP1 := Lib.hid (fun w => putNum_any none 0 [] r.off (by omega) (by omega) w (CL.nil _ _ _) (by simp))
  simp only [List.nil_append, List.length_nil] at HP1
  have HP2 := Lib.hid (fun A c w hsl => putNum_any A c (enc r.off) r.kind (by omega) (by omega) w hsl (by omega))
  have HP3 := Lib.hid (fun A c w hsl => putText_any A c (enc r.off ++ enc r.kind) r.key w hsl (by simp only [List.length_append]; omega) (by omega))
  have HP4 := Lib.hid (fun A c w hsl => putText_any A c (enc r.off ++ enc r.kind ++ encT r.key) r.val w hsl (by simp only [List.length_append]; omega) (by omega))
  have e3 : enc r.off ++ enc r.kind ++ (enc r.key.size ++ dl r.key) = enc r.off ++ enc r.kind ++ encT r.key := rfl
  have e4 : enc r.off ++ enc r.kind ++ encT r.key ++ (enc r.val.size ++ dl r.val) = enc r.off ++ enc r.kind ++ encT r.key ++ encT r.val := rfl
  simp only [e3] at HP3
  simp only [e4] at HP4
  clear e3 e4 h0 l1 l2 l3 l4 h
  generalize enc r.off ++ enc r.kind ++ encT r.key ++ encT r.val = T4 at *
  generalize enc r.off ++ enc r.kind ++ encT r.key = T3 at *
  generalize enc r.off ++ enc r.kind = T2 at *
  generalize enc r.off = T1 at *
  unfold rcV
  go_enter Try.func42, Try.ntmps42
  go_upto_region 1 with fail
  refine name_world (C := fun w1 => Code.wp _ _ _ _ w1) (w.alloc (.cells (rcC r).toArray 32)) ?_
  intro w1 hw1
  have B1 := Lib.hid (show Below w.heap.size w w1 by rw [hw1]; exact S2.below_new w _)
  have E1 : Hid (BK 32 w1 w.heap.size (rcC r)) := Lib.hid (by rw [hw1]; exact BK.new w _ _)
  have d0 := E1.out.cell 0 rfl
  clear hw1
  go_wp2_with fail
  refine (HP1.out w1).mono ?_
  rintro e w3 ⟨v3, rfl, own3, hb⟩
  obtain ⟨A3, c3, rfl, _, sl3⟩ := own3.ret
  have B3 := Lib.hid (stepB B1.out hb)
  have E3 := Lib.hid (E1.out.step hb)
  have d1 := E3.out.cell 1 rfl
  clear hb d0 own3
  go_wp2_with fail
  refine (HP2.out _ _ w3 sl3).mono ?_
  rintro e w4 ⟨v4, rfl, own4, hb⟩
  obtain ⟨A4, c4, rfl, _, sl4⟩ := own4.ret
  have B4 := Lib.hid (stepB B3.out hb)
  have E4 := Lib.hid (E3.out.step hb)
  have d2 := E4.out.cell 2 rfl
  clear hb d1 own4 sl3
  go_wp2_with fail
  refine (HP3.out _ _ w4 sl4).mono ?_
  rintro e w5 ⟨v5, rfl, own5, hb⟩
  obtain ⟨A5, c5, rfl, _, sl5⟩ := own5.ret
  have B5 := Lib.hid (stepB B4.out hb)
  have E5 := Lib.hid (E4.out.step hb)
  have d3 := E5.out.cell 3 rfl
  clear hb d2 own5 sl4
  go_wp2_with fail
  refine (HP4.out _ _ w5 sl5).mono ?_
  rintro e w6 ⟨v6, rfl, own6, hb⟩
  have O6 := Lib.hid (own6.weak B5.out.size)
  have B6 := Lib.hid (stepB B5.out hb)
  clear hb d3 own6 sl5
  go_wp2_with fail
  go_ret
  exact ⟨_, rfl, O6.out, B6.out⟩

set_option maxHeartbeats 4000000 in
theorem rcEncode_any (r : Rc) (w : World) (hz : r.key.size ≤ 9223372036854775807 ∧ r.val.size ≤ 9223372036854775807) :
    Calls Try.prog 30 #[rcV r] w (RetRE (rcEnc r) (rcCk r) w) := by
  have HC := Lib.hid (fun w => rcCheck_any r w hz)
  by_cases h : rcCk r = 0
  · have hle := rcEnc_len h
    have hpl := rcPay_len h
    have HPL := Lib.hid (fun w => rcPayload_any r w h)
    have he : rcEnc r = wrapR (rcPay r) := by unfold rcEnc; rw [if_neg (by omega)]
    have HW := Lib.hid (fun A c w hsl => wrap_any A c (rcPay r) w hsl (by omega))
    rw [← he] at HW
    rw [h] at HC ⊢
    have HL := Lib.hid hle
    clear he h hz hle
    generalize rcEnc r = T at *
    generalize rcPay r = T0 at *
    unfold rcV
    go_enter Try.func30, Try.ntmps30
    go_upto_region 1 with fail
    refine name_world (C := fun w1 => Code.wp _ _ _ _ w1) (w.alloc (.cells (rcC r).toArray 32)) ?_
    intro w1 hw1
    have B1 := Lib.hid (show Below w.heap.size w w1 by rw [hw1]; exact S2.below_new w _)
    have E1 : Hid (BK 32 w1 w.heap.size (rcC r)) := Lib.hid (by rw [hw1]; exact BK.new w _ _)
    have k0 := E1.out.cell 0 rfl
    have k1 := E1.out.cell 1 rfl
    have k2 := E1.out.cell 2 rfl
    have k3 := E1.out.cell 3 rfl
    clear hw1
    go_wp2_with fail
    refine (HC.out w1).mono ?_
    rintro e w2 ⟨rfl, hb⟩
    have B2 := Lib.hid (stepB B1.out hb)
    have E2 := Lib.hid (E1.out.step hb)
    have d0 := E2.out.cell 0 rfl
    have d1 := E2.out.cell 1 rfl
    have d2 := E2.out.cell 2 rfl
    have d3 := E2.out.cell 3 rfl
    clear hb k0 k1 k2 k3
    go_wp2_with fail
    refine (HPL.out w2).mono ?_
    rintro e w3 ⟨v3, rfl, own3, hb⟩
    obtain ⟨A3, c3, rfl, _, sl3⟩ := own3.ret
    have B3 := Lib.hid (stepB B2.out hb)
    clear hb own3 d0 d1 d2 d3
    go_wp2_with fail
    refine (HW.out _ _ w3 sl3).mono ?_
    rintro e w4 ⟨v4, rfl, own4, hb⟩
    obtain ⟨A4, c4, rfl, _, sl4⟩ := own4.ret
    have B4 := Lib.hid (stepB B3.out hb)
    obtain ⟨cur, hcur, hmk⟩ := made_full w4 T.length (by have := HL.out; omega)
    have HSL := Lib.hid sl4
    have HG : Hid ((w4.alloc (.cells cur.toArray 5)).heap[w4.heap.size]? = some (.cells cur.toArray 5)) := Lib.hid (heap_alloc_new w4 _)
    have HB2 := Lib.hid B4.out.size
    have HBA := Lib.hid (B4.out.alloc B4.out.size (.cells cur.toArray 5))
    clear hb own4 sl4 sl3 HW HPL HC E1 E2 B1 B2 B3 hpl
    go_wp2_with (with_reducible refine wpList_copy_splice rfl (.tmp 18) (.tmp 19) 22 22 rfl 5 Try.underlying22 sizeU8 (some ⟨w4.heap.size, 0, none⟩) A4 T.length T.length T.length c4 rfl rfl w4.heap.size 0 cur 5 HG.out (T.map bv) (by rw [List.length_map]; exact (Nat.min_self _).symm) (copy_from HSL.out (.cells cur.toArray 5) w4.heap.size) (by rw [List.length_map]; omega) (bvs_one T) w.heap.size w HBA.out HB2.out ?_; intro w' hg' hb')
    go_ret2
    have hown := own_copied (xs := T) hg'.out HB2.out hcur (by omega) (by have := HL.out; omega)
    exact ⟨_, rfl, hown, hb'⟩
  · rw [rcEnc_bad h]
    generalize rcCk r = x at *
    unfold rcV
    go_enter Try.func30, Try.ntmps30
    go_upto_region 1 with fail
    refine name_world (C := fun w1 => Code.wp _ _ _ _ w1) (w.alloc (.cells (rcC r).toArray 32)) ?_
    intro w1 hw1
    have B1 := Lib.hid (show Below w.heap.size w w1 by rw [hw1]; exact S2.below_new w _)
    have E1 : Hid (BK 32 w1 w.heap.size (rcC r)) := Lib.hid (by rw [hw1]; exact BK.new w _ _)
    have k0 := E1.out.cell 0 rfl
    have k1 := E1.out.cell 1 rfl
    have k2 := E1.out.cell 2 rfl
    have k3 := E1.out.cell 3 rfl
    clear hw1
    go_wp2_with fail
    refine (HC.out w1).mono ?_
    rintro e w2 ⟨rfl, hb⟩
    have B2 := Lib.hid (stepB B1.out hb)
    clear hb k0 k1 k2 k3
    go_wp2_with fail
    go_ret2
    exact ⟨_, rfl, Own.nil _ _, B2.out⟩

set_option maxHeartbeats 4000000 in
theorem rcSize_any (r : Rc) (w : World) (hz : r.key.size ≤ 9223372036854775807 ∧ r.val.size ≤ 9223372036854775807) :
    Calls Try.prog 33 #[rcV r] w fun e w' => e = .returned (.int .i64 ((rcEnc r).length : Int)) ∧ Below w.heap.size w w' := by
  have HC := Lib.hid (fun w => rcCheck_any r w hz)
  by_cases h : rcCk r = 0
  · have hpl := rcPay_len h
    have HPL := Lib.hid (fun w => rcPayload_any r w h)
    have he : sizeR ((rcPay r).length : Int) = ((rcEnc r).length : Int) := by
      have e1 : rcEnc r = wrapR (rcPay r) := by unfold rcEnc; rw [if_neg (by omega)]
      rw [e1, wrap_len (by omega), sizeR_in (by omega)]
    have HW := Lib.hid (fun w => size_any ((rcPay r).length : Int) (by omega) (by omega) w)
    rw [he] at HW
    rw [h] at HC
    have HL := Lib.hid hpl
    clear he h hz hpl
    generalize (rcEnc r).length = T at *
    generalize rcPay r = T0 at *
    unfold rcV
    go_enter Try.func33, Try.ntmps33
    go_upto_region 1 with fail
    refine name_world (C := fun w1 => Code.wp _ _ _ _ w1) (w.alloc (.cells (rcC r).toArray 32)) ?_
    intro w1 hw1
    have B1 := Lib.hid (show Below w.heap.size w w1 by rw [hw1]; exact S2.below_new w _)
    have E1 : Hid (BK 32 w1 w.heap.size (rcC r)) := Lib.hid (by rw [hw1]; exact BK.new w _ _)
    have k0 := E1.out.cell 0 rfl
    have k1 := E1.out.cell 1 rfl
    have k2 := E1.out.cell 2 rfl
    have k3 := E1.out.cell 3 rfl
    clear hw1
    go_wp2_with fail
    refine (HC.out w1).mono ?_
    rintro e w2 ⟨rfl, hb⟩
    have B2 := Lib.hid (stepB B1.out hb)
    have E2 := Lib.hid (E1.out.step hb)
    have d0 := E2.out.cell 0 rfl
    have d1 := E2.out.cell 1 rfl
    have d2 := E2.out.cell 2 rfl
    have d3 := E2.out.cell 3 rfl
    clear hb k0 k1 k2 k3
    go_wp2_with fail
    refine (HPL.out w2).mono ?_
    rintro e w3 ⟨v3, rfl, own3, hb⟩
    obtain ⟨A3, c3, rfl, _, sl3⟩ := own3.ret
    have B3 := Lib.hid (stepB B2.out hb)
    clear hb own3 d0 d1 d2 d3 sl3
    go_wp2_with fail
    refine (HW.out w3).mono ?_
    rintro e w4 ⟨rfl, hb⟩
    go_wp2_with fail
    go_ret
    exact ⟨rfl, stepB B3.out hb⟩
  · have he : (rcEnc r).length = 0 := by rw [rcEnc_bad h]; rfl
    rw [he]
    have h2 : (rcCk r != 0) = true := by simp [h]
    generalize rcCk r = x at *
    unfold rcV
    go_enter Try.func33, Try.ntmps33
    go_upto_region 1 with fail
    refine name_world (C := fun w1 => Code.wp _ _ _ _ w1) (w.alloc (.cells (rcC r).toArray 32)) ?_
    intro w1 hw1
    have B1 := Lib.hid (show Below w.heap.size w w1 by rw [hw1]; exact S2.below_new w _)
    have E1 : Hid (BK 32 w1 w.heap.size (rcC r)) := Lib.hid (by rw [hw1]; exact BK.new w _ _)
    have k0 := E1.out.cell 0 rfl
    have k1 := E1.out.cell 1 rfl
    have k2 := E1.out.cell 2 rfl
    have k3 := E1.out.cell 3 rfl
    clear hw1
    go_wp2_with fail
    refine (HC.out w1).mono ?_
    rintro e w2 ⟨rfl, hb⟩
    have B2 := Lib.hid (stepB B1.out hb)
    clear hb k0 k1 k2 k3
    go_wp2_with fail
    go_ret
    exact ⟨rfl, B2.out⟩
end Go.Proofs.Ytbmeimpfehjnfaa
