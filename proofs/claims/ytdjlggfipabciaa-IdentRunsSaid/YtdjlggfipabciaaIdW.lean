/-
  The example that each statement of brokerlaw13 looks at. Conditions: none.
-/
import Derived.Test.YtdjlggfipabciaaIdI
import Derived.Test.YtdjlggfipabciaaBlk
namespace Go.Proofs.Ytdjlggfipabciaa
open Go.RowKit

theorem il_new (w : World) (X : List Int) (t : TypeId) : IL (w.alloc (.cells (X.map iv).toArray t)) (w.alloc (.cells (X.map iv).toArray t)).heap.size (some ⟨w.heap.size, 0, none⟩) X := CL.new
theorem one2 (A : Option Addr) (n c : Nat) (L : Int) : ∀ u ∈ [Value.slice A n c, Value.int .i64 L], u.oneCell' = true := fun u hu => by
  rcases List.mem_cons.1 hu with rfl | hu
  · rfl
  · obtain rfl := List.mem_singleton.1 hu
    rfl

set_option maxRecDepth 20000 in
set_option maxHeartbeats 4000000 in
theorem awake13_any (w : World) : Calls Try.prog 9 #[] w fun e w' => e = .returned (.bool true) ∧ Below w.heap.size w w' := by
  have H1 := Lib.hid (fun w => iTake_any (some ⟨w.heap.size, 0, none⟩) 3 [1, 2, 4] 65535 (w.alloc (.cells #[.int .i64 1, .int .i64 2, .int .i64 4] 3)) (il_new w [1, 2, 4] 3) (by decide) (by decide))
  have e1 : tkR [1, 2, 4] 65535 = (3, [1, 2, 3, 4], 3, 0) := by decide
  rw [e1] at H1
  have H2 := Lib.hid (fun A c w hs (hc : 4 ≤ c) => iFree_any A c [1, 2, 3, 4] 3 2 w hs hc (by decide) (by decide) (by decide))
  have e2 : delI [1, 2, 3, 4] 2 = [1, 3, 4] := by decide
  have e3 : decide ((2 : Int) ∈ [(1 : Int), 2, 3, 4]) = true := by decide
  rw [e2, e3] at H2
  have H3 := Lib.hid (fun A c w hs => rInts_any A (some ⟨w.heap.size, 0, none⟩) c 4 [1, 2, 3, 4] [1, 2, 3, 4] (w.alloc (.cells #[.int .i64 1, .int .i64 2, .int .i64 3, .int .i64 4] 3)) (CL.step hs (below_new w _)) (il_new w [1, 2, 3, 4] 3) (by decide) (by decide))
  have e4 : decide ([(1 : Int), 2, 3, 4] = [1, 2, 3, 4]) = true := by decide
  rw [e4] at H3
  have H4 := Lib.hid (fun A c w hs => rInts_any A (some ⟨w.heap.size, 0, none⟩) c 3 [1, 3, 4] [1, 3, 4] (w.alloc (.cells #[.int .i64 1, .int .i64 3, .int .i64 4] 3)) (CL.step hs (below_new w _)) (il_new w [1, 3, 4] 3) (by decide) (by decide))
  have e5 : decide ([(1 : Int), 3, 4] = [1, 3, 4]) = true := by decide
  rw [e5] at H4
  have H5 := Lib.hid (fun A c w hs (hc : 3 ≤ c) => iHas_any A c [1, 3, 4] 3 4 w hs hc (by decide) (by decide) (by decide))
  have e6 : decide ((4 : Int) ∈ [(1 : Int), 3, 4]) = true := by decide
  rw [e6] at H5
  have H6 := Lib.hid (fun A c w hs => iLeft_any A c [1, 3, 4] 3 w hs (by decide))
  have H7 := Lib.hid (fun w => iCheck_any (some ⟨w.heap.size, 0, none⟩) 2 [2, 1] 0 (w.alloc (.cells #[.int .i64 2, .int .i64 1] 3)) (il_new w [2, 1] 3) (by decide) (by decide) (by decide))
  have e7 : ckI [2, 1] 0 = 15 := by decide
  rw [e7] at H7
  clear e1 e2 e3 e4 e5 e6 e7
  go_enter Try.func9, Try.ntmps9
  go_wp2_with fail
  refine (H1.out _).mono ?_
  rintro e w1 ⟨A1, c1, rfl, hc1, hs1, _, hb1⟩
  have HB1 := Lib.hid (stepB (below_new w _) hb1)
  have HS1 := Lib.hid hs1
  clear hb1 hs1 H1
  go_wp2_with (refine wpList_store_all (by rfl) 24 (.tmp 2) (.tmp 11) rfl rfl w1.heap.size rfl [.slice A1 4 c1, .int .i64 3] rfl 24 [.slice none 0 0, .int .i64 0] (BK.new w1 _ _) infoP2 rfl (one2 _ _ _ _) ?_; intro w2 hM hP; have HP2 := Lib.hid hM; have HB2 := Lib.hid (hP.below (stepB HB1.out (below_new w1 _)) HB1.out.size); have HS2 : Hid (IL w2 w2.heap.size A1 [1, 2, 3, 4]) := Lib.hid (CL.step HS1.out (hP.below (below_new w1 _) (Nat.le_refl _))); have d0 := hM.cell 0 rfl; have d1 := hM.cell 1 rfl; clear hM hP)
  refine (H2.out A1 c1 w2 HS2.out hc1).mono ?_
  rintro e w3 ⟨A2, c2, rfl, hc2, hs3, _, hb3⟩
  have HP3 := Lib.hid (HP2.out.step hb3)
  have HB3 := Lib.hid (stepB HB2.out hb3)
  have HS3 := Lib.hid (CL.step HS2.out hb3)
  have HT3 := Lib.hid hs3
  clear hb3 hs3 d0 d1 H2 HP2 HB2 HS2 HB1 HS1
  have c0 := HP3.out.cell 0 rfl
  have c1' := HP3.out.cell 1 rfl
  go_wp2_with (refine wpList_store_all (by rfl) 24 (.tmp 4) (.tmp 16) rfl rfl w3.heap.size rfl [.slice A2 3 c2, .int .i64 3] rfl 24 [.slice none 0 0, .int .i64 0] (BK.new w3 _ _) infoP2 rfl (one2 _ _ _ _) ?_; intro w4 hM hP; have HP4 := Lib.hid (hP.other (BK.alloc HP3.out _) (Nat.ne_of_lt HP3.out.lt)); have HQ4 := Lib.hid hM; have HB4 := Lib.hid (hP.below (stepB HB3.out (below_new w3 _)) HB3.out.size); have HS4 : Hid (IL w4 w4.heap.size A1 [1, 2, 3, 4]) := Lib.hid (CL.step HS3.out (hP.below (below_new w3 _) (Nat.le_refl _))); have HT4 : Hid (IL w4 w4.heap.size A2 [1, 3, 4]) := Lib.hid (CL.step HT3.out (hP.below (below_new w3 _) (Nat.le_refl _))); have p0 := HP4.out.cell 0 rfl; have p1 := HP4.out.cell 1 rfl; have q0 := HQ4.out.cell 0 rfl; have q1 := HQ4.out.cell 1 rfl; clear hM hP c0)
  refine (H3.out A1 c1 w4 HS4.out).mono ?_
  rintro e w5 ⟨rfl, hb⟩
  have hb5 := stepB (below_new w4 _) hb
  have HP5 := Lib.hid (HP4.out.step hb5)
  have HQ5 := Lib.hid (HQ4.out.step hb5)
  have HB5 := Lib.hid (stepB HB4.out hb5)
  have HT5 := Lib.hid (CL.step HT4.out hb5)
  clear hb hb5 p0 p1 q0 q1 HP4 HQ4 HB4 HT4 HS4 H3 HP3 HB3 HS3 HT3
  have p0 := HP5.out.cell 0 rfl
  have p1 := HP5.out.cell 1 rfl
  have q0 := HQ5.out.cell 0 rfl
  have q1 := HQ5.out.cell 1 rfl
  go_wp2_with fail
  refine (H4.out A2 c2 w5 HT5.out).mono ?_
  rintro e w6 ⟨rfl, hb⟩
  have hb6 := stepB (below_new w5 _) hb
  have HQ6 := Lib.hid (HQ5.out.step hb6)
  have HB6 := Lib.hid (stepB HB5.out hb6)
  have HT6 := Lib.hid (CL.step HT5.out hb6)
  clear hb hb6 p0 p1 q0 q1 HP5 HQ5 HB5 HT5 H4
  have q0 := HQ6.out.cell 0 rfl
  have q1 := HQ6.out.cell 1 rfl
  go_wp2_with fail
  refine (H5.out A2 c2 w6 HT6.out hc2).mono ?_
  rintro e w7 ⟨rfl, hb⟩
  have HQ7 := Lib.hid (HQ6.out.step hb)
  have HB7 := Lib.hid (stepB HB6.out hb)
  have HT7 := Lib.hid (CL.step HT6.out hb)
  clear hb q0 q1 HQ6 HB6 HT6 H5
  have q0 := HQ7.out.cell 0 rfl
  have q1 := HQ7.out.cell 1 rfl
  go_wp2_with fail
  refine (H6.out A2 c2 w7 HT7.out).mono ?_
  rintro e w8 ⟨rfl, hb⟩
  have HB8 := Lib.hid (stepB HB7.out hb)
  clear hb q0 q1 HQ7 HB7 HT7 H6
  go_wp2_with fail
  refine (H7.out w8).mono ?_
  rintro e w9 ⟨rfl, hb⟩
  have HB9 := Lib.hid (stepB HB8.out (stepB (below_new w8 _) hb))
  clear hb HB8 H7
  go_wp2_with fail
  go_ret
  exact ⟨rfl, HB9.out⟩
end Go.Proofs.Ytdjlggfipabciaa
