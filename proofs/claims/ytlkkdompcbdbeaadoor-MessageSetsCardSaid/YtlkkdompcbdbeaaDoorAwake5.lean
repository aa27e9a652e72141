/-
  The example that every statement of brokerlaw05 holds besides: awake answers true. Conditions: the tables of package unicode/utf8 are there.
-/
import Derived.Test.YtlkkdompcbdbeaaDoorTake
import Derived.Test.YtlkkdompcbdbeaaDoorSetR2
import Derived.Test.YtlkkdompcbdbeaaDoorCheck
import Derived.Lib.SlBytesConst
import Derived.Test.YtlkkdompcbdbeaaDoorSame
import Derived.Test.YtlkkdompcbdbeaaDoorPutR
import Derived.Test.YtlkkdompcbdbeaaDoorPut3
import Derived.Test.YtlkkdompcbdbeaaDoorOnly3
namespace Go.Proofs.YtlkkdompcbdbeaaDoor
open Go.RowKit

def mS : Msg := ⟨⟨#[116]⟩, ⟨#[112]⟩, 1, true, 2, 3, ⟨#[120]⟩, 4, []⟩
def pS : List PR := [(⟨#[97]⟩, ⟨#[49]⟩), (⟨#[98]⟩, ⟨#[50]⟩), (⟨#[99]⟩, ⟨#[51]⟩)]
def p0S : List PR := [(⟨#[97]⟩, ⟨#[49]⟩), (⟨#[99]⟩, ⟨#[51]⟩)]
def b12 : List UInt8 := [2, 116, 2, 112, 2, 2, 4, 6, 2, 120, 8, 0]
theorem aw_set : setR p0S ⟨#[98]⟩ ⟨#[50]⟩ = (pS, 0) := by decide +kernel
theorem aw_get : getR pS ⟨#[98]⟩ = (⟨#[50]⟩, true) := by decide +kernel
theorem aw_props : propsR pS = 0 := by decide +kernel
theorem aw_check : checkR mS = 0 := by decide +kernel
theorem aw_take : takeM b12 0 = (mS, 12, 0) := by kernel_rfl
theorem aw_enc : encM mS = b12 := by decide +kernel
theorem aw_same : sameM mS mS = true := by simp [sameM]
theorem aw_exp : expiredR mS 3 = true := by decide +kernel

set_option maxRecDepth 50000 in
set_option maxHeartbeats 4000000 in
theorem sample_any (w : World) : Calls Tryd.prog 33 #[] w fun e w' => e = .returned (msgV mS none 0) ∧ Below w.heap.size w w' := by
  obtain ⟨w1, hw1⟩ : ∃ w1, w1 = w.alloc (.cells zM.toArray 36) := ⟨_, rfl⟩
  have hb1 : Below w.heap.size w w1 := by rw [hw1]; exact (Below.refl _ _).alloc (Nat.le_refl _) _
  have HM1 : Hid (MB w1 w.heap.size zM) := Lib.hid (by rw [hw1]; exact heap_alloc_new w _)
  have HB1 := Lib.hid hb1
  have HW1 := Lib.hid hw1
  clear hb1 hw1
  go_enter Tryd.func33, Tryd.ntmps33
  go_wp2
  refine bodyPost_ret (v := msgV mS none 0) (by simp [results, Tryd.results33, go_sem, msgV, mS]) rfl ⟨rfl, (Below.refl _ _).alloc (Nat.le_refl _) _⟩
theorem aw_Set (w : World) : Calls Tryd.prog 18 #[.slice (some ⟨w.heap.size, 0, none⟩) 2 2, .string ⟨#[98]⟩, .string ⟨#[50]⟩] (w.alloc (.cells #[.string ⟨#[97]⟩, .string ⟨#[49]⟩, .string ⟨#[99]⟩, .string ⟨#[51]⟩] 34)) fun e w' =>
    ∃ A c, e = .returned (.tuple #[.slice A 3 c, .int .i64 0]) ∧ PL w' w'.heap.size A pS ∧ Below w.heap.size w w' :=
  (set_any (some ⟨w.heap.size, 0, none⟩) 2 p0S ⟨#[98]⟩ ⟨#[50]⟩ _ (GL.new gP_len (xs := p0S))).mono fun e w' h => by
    rw [aw_set] at h
    obtain ⟨v, rfl, hown, hb⟩ := h
    obtain ⟨A, c, rfl, _, hsl⟩ := hown.ret gP_len
    exact ⟨A, c, rfl, hsl, stepB ((Below.refl _ _).alloc (Nat.le_refl _) _) hb⟩
theorem aw_Get (A : Option Addr) (c : Nat) (w : World) (h : PL w w.heap.size A pS) : Calls Tryd.prog 16 #[.slice A 3 c, .string ⟨#[98]⟩] w fun e w' => e = .returned (.tuple #[.string ⟨#[50]⟩, .bool true]) ∧ Below w.heap.size w w' :=
  (get_any A c pS ⟨#[98]⟩ w h (by decide)).mono fun e w' h => by rw [aw_get] at h; exact h
theorem cl_mark (w : World) (t : TypeId) (fr : Nat × Nat) (xs : List UInt8) : CL bv (w.alloc (.cells (xs.map bv).toArray t fr)) (w.alloc (.cells (xs.map bv).toArray t fr)).heap.size (some ⟨w.heap.size, 0, none⟩) xs := fun _ =>
  ⟨w.heap.size, 0, rfl, by simp, fun j x hx => by
    rw [World.cell?_alloc_mark, Nat.zero_add, List.getElem?_toArray, List.getElem?_map, hx]; rfl⟩
theorem MB.step {w w' : World} {M : Nat} {vs : List Value} (h : MB w M vs) (hb : Below w.heap.size w w') : MB w' M vs := (hb.block _ (Array.getElem?_eq_some_iff.1 h).1).trans h
theorem aw_Take (w : World) (hw : S1.Okw w) : Calls Tryd.prog 31 #[.slice (some ⟨w.heap.size, 0, none⟩) 12 12, .int .i64 0] (w.alloc (.cells #[.int .u8 2, .int .u8 116, .int .u8 2, .int .u8 112, .int .u8 2, .int .u8 2, .int .u8 4, .int .u8 6, .int .u8 2, .int .u8 120, .int .u8 8, .int .u8 0] 5 (12, 13))) fun e w' =>
    ∃ A c, e = .returned (.tuple #[msgV mS A c, .int .i64 12, .int .i64 0]) ∧ Below w.heap.size w w' :=
  (takeP_any (some ⟨w.heap.size, 0, none⟩) 12 b12 0 ⟨by decide, by decide⟩ _ (hw.step ((Below.refl _ _).alloc (Nat.le_refl _) _)) (cl_mark w 5 (12, 13) b12) (by decide) (by decide)).mono fun e w' h => by
    rw [aw_take] at h
    obtain ⟨A, c, rfl, _, hb⟩ := h
    exact ⟨A, c, rfl, stepB ((Below.refl _ _).alloc (Nat.le_refl _) _) hb⟩
theorem aw_Props (A : Option Addr) (c : Nat) (w : World) (h : PL w w.heap.size A pS) : Calls Tryd.prog 14 #[.slice A 3 c] w fun e w' => e = .returned (.int .i64 0) ∧ Below w.heap.size w w' :=
  (props_any A c pS w h).mono fun e w' h => by rw [aw_props] at h; exact h
theorem aw_Check (w : World) (hw : S1.Okw w) : Calls Tryd.prog 22 #[msgV mS none 0] w fun e w' => e = .returned (.int .i64 0) ∧ Below w.heap.size w w' :=
  (check_any mS none 0 w hw (GL.nil _ _ _)).mono fun e w' h => by rw [aw_check] at h; exact h
theorem aw_Exp (w : World) : Calls Tryd.prog 24 #[msgV mS none 0, .int .i64 3] w fun e w' => e = .returned (.bool true) ∧ Below w.heap.size w w' :=
  (expired_any mS none 0 3 w).mono fun e w' h => by rw [aw_exp] at h; exact h
theorem aw_Same (A : Option Addr) (c : Nat) (w : World) : Calls Tryd.prog 26 #[msgV mS A c, msgV mS none 0] w fun e w' => e = .returned (.bool true) ∧ Below w.heap.size w w' :=
  (same_any mS mS A none c 0 w (GL.nil _ _ _) (GL.nil _ _ _) (by decide)).mono fun e w' h => by rw [aw_same] at h; exact h
theorem aw_Put (w : World) : Calls Tryd.prog 29 #[.slice none 0 0, msgV mS none 0] w fun e w' =>
    ∃ A c, e = .returned (.slice A 12 c) ∧ (convert 41 9 (.slice A 12 c)).run Tryd.prog w' = .ok (.string ⟨#[2, 116, 2, 112, 2, 2, 4, 6, 2, 120, 8, 0]⟩) w' ∧ Below w.heap.size w w' :=
  (put_any none 0 [] mS none 0 w (CL.nil _ _ _) (GL.nil _ _ _) (by unfold Msg.fits mS; decide) (by decide) (by decide)).mono fun _ _ h => by
    rw [aw_enc] at h
    obtain ⟨v, rfl, hown, hb⟩ := h
    obtain ⟨A, c, rfl, hc, hsl⟩ := hown.ret
    exact ⟨A, c, rfl, conv_str hsl c, hb⟩
set_option maxRecDepth 50000 in
set_option maxHeartbeats 8000000 in
theorem awake5_any (w : World) (hw : S1.Okw w) : Calls Tryd.prog 13 #[] w fun e w' => e = .returned (.bool true) ∧ Below w.heap.size w w' := by
  have HW := Lib.hid hw
  clear hw
  go_enter Tryd.func13, Tryd.ntmps13
  go_wp2_with fail
  refine (aw_Set w).mono ?_
  rintro e w1 ⟨A1, c1, rfl, hpl, hb⟩
  have HP1 := Lib.hid hpl
  have HB1 := Lib.hid hb
  clear hpl hb
  go_wp2_with fail
  refine (aw_Get A1 c1 w1 HP1.out).mono ?_
  rintro e w2 ⟨rfl, hb⟩
  have HP2 := Lib.hid (HP1.out.step hb)
  have HB2 := Lib.hid (stepB HB1.out hb)
  clear hb HP1 HB1
  have q41 := Lib.run_convert_bytes_const (P := Tryd.prog) w2 41 5 #[.int .u8 2, .int .u8 116, .int .u8 2, .int .u8 112, .int .u8 2, .int .u8 2, .int .u8 4, .int .u8 6, .int .u8 2, .int .u8 120, .int .u8 8, .int .u8 0] 12 12 Tryd.underlying41 Tryd.underlying5
  go_wp2_with fail
  clear q41
  refine (aw_Take w2 (HW.out.step HB2.out)).mono ?_
  rintro e w4 ⟨A4, c4, rfl, hb⟩
  have HP4 := Lib.hid (HP2.out.step hb)
  have HB4 := Lib.hid (stepB HB2.out hb)
  clear hb HP2 HB2
  unfold msgV mS
  go_upto_region 4 with fail
  obtain ⟨w5, hw5⟩ : ∃ w5, w5 = w4.alloc (.cells #[.string ⟨#[116]⟩, .string ⟨#[112]⟩, .int .i64 1, .bool true, .int .i64 2, .int .i64 3, .string ⟨#[120]⟩, .int .i64 4, .slice A4 0 c4] 36) := ⟨_, rfl⟩
  rw [← hw5]
  have hsz : w4.heap.size < w5.heap.size := by rw [hw5]; simp
  have hb5 : Below w4.heap.size w4 w5 := by rw [hw5]; exact (Below.refl _ _).alloc (Nat.le_refl _) _
  have HP5 := Lib.hid (HP4.out.step hb5)
  have HB5 := Lib.hid (stepB HB4.out hb5)
  have HQ5 : Hid (MB w5 w4.heap.size [.string ⟨#[116]⟩, .string ⟨#[112]⟩, .int .i64 1, .bool true, .int .i64 2, .int .i64 3, .string ⟨#[120]⟩, .int .i64 4, .slice A4 0 c4]) := Lib.hid (by rw [hw5]; exact heap_alloc_new w4 _)
  clear hw5 hb5 HP4 HB4
  obtain ⟨wD, hwD⟩ : ∃ wD, wD = World.drew w5 := ⟨_, rfl⟩
  have hbd : (fun w' => MB w' w4.heap.size [.string ⟨#[116]⟩, .string ⟨#[112]⟩, .int .i64 1, .bool true, .int .i64 2, .int .i64 3, .string ⟨#[120]⟩, .int .i64 4, .slice A4 0 c4] ∧ PL w' w'.heap.size A1 pS ∧ Below w.heap.size w w') (World.drew w5) := ⟨HQ5.out, HP5.out, HB5.out.drew⟩
  have hSD := hbd
  rw [← hwD] at hSD
  have HWD := Lib.hid hwD
  have HQD := Lib.hid hSD.1
  have HPD := Lib.hid hSD.2.1
  have HBD := Lib.hid hSD.2.2
  clear hwD HQ5 HP5 HB5
  refine wp_region_held_drew (S := fun w' => MB w' w4.heap.size [.string ⟨#[116]⟩, .string ⟨#[112]⟩, .int .i64 1, .bool true, .int .i64 2, .int .i64 3, .string ⟨#[120]⟩, .int .i64 4, .slice A4 0 c4] ∧ PL w' w'.heap.size A1 pS ∧ Below w.heap.size w w') (by kernel_rfl) hbd (fun hHeld => ?_)
  rw [← HWD.out]
  clear hHeld
  have hHeld := hSD
  clear hSD hbd HWD
  refine wpAnyH_take (i := 0) (v := .int .i64 0) (get_ops _ _ _ rfl) (by kernel_rfl) (by kernel_rfl) (by kernel_rfl) (fun _ _ _ h => h) (Or.inl ⟨by rfl, fun w hSw => by (try dsimp only at hSw); go_simp⟩) hHeld ?_
  try simp only [Act.put, List.setIfInBounds_toArray, List.set_cons_zero, List.set_cons_succ]
  refine wpAnyH_take (i := 1) (v := .bool true) (get_ops _ _ _ rfl) (by kernel_rfl) (by kernel_rfl) (by kernel_rfl) (fun _ _ _ h => h) (Or.inl ⟨by rfl, fun w hSw => by (try dsimp only at hSw); go_simp⟩) hHeld ?_
  try simp only [Act.put, List.setIfInBounds_toArray, List.set_cons_zero, List.set_cons_succ]
  refine wpAnyH_take (i := 2) (v := .bool true) (get_ops _ _ _ rfl) (by kernel_rfl) (by kernel_rfl) (by kernel_rfl) (fun _ _ _ h => h) (Or.inl ⟨by rfl, fun w hSw => by (try dsimp only at hSw); go_simp⟩) hHeld ?_
  try simp only [Act.put, List.setIfInBounds_toArray, List.set_cons_zero, List.set_cons_succ]
  refine wpAnyH_take (i := 3) (v := .slice A1 3 c1) (get_ops _ _ _ rfl) (by kernel_rfl) (by kernel_rfl) (by kernel_rfl) (fun _ _ _ h => h) (Or.inl ⟨by rfl, fun w hSw => by (try dsimp only at hSw); go_simp⟩) hHeld ?_
  try simp only [Act.put, List.setIfInBounds_toArray, List.set_cons_zero, List.set_cons_succ]
  refine wpAnyH_take (i := 4) (v := .int .i64 3) (get_ops _ _ _ rfl) (by kernel_rfl) (by kernel_rfl) (by kernel_rfl) (fun _ _ _ h => h) (Or.inl ⟨by rfl, fun w hSw => by (try dsimp only at hSw); go_simp⟩) hHeld ?_
  try simp only [Act.put, List.setIfInBounds_toArray, List.set_cons_zero, List.set_cons_succ]
  refine wpAnyH_take (i := 5) (v := .bool true) (get_ops _ _ _ rfl) (by kernel_rfl) (by kernel_rfl) (by kernel_rfl) (fun _ _ _ h => h) (Or.inl ⟨by rfl, fun w hSw => by (try dsimp only at hSw); go_simp⟩) hHeld ?_
  try simp only [Act.put, List.setIfInBounds_toArray, List.set_cons_zero, List.set_cons_succ]
  refine wpAnyH_take (i := 6) (v := .bool true) (get_ops _ _ _ rfl) (by kernel_rfl) (by kernel_rfl) (by kernel_rfl) (fun _ _ _ h => h) (Or.inl ⟨by rfl, fun w hSw => by (try dsimp only at hSw); go_simp⟩) hHeld ?_
  try simp only [Act.put, List.setIfInBounds_toArray, List.set_cons_zero, List.set_cons_succ]
  refine wpAnyH_take (i := 7) (v := .bool true) (get_ops _ _ _ rfl) (by kernel_rfl) (by kernel_rfl) (by kernel_rfl) (fun _ _ _ h => h) (Or.inl ⟨by rfl, fun w hSw => by (try dsimp only at hSw); go_simp⟩) hHeld ?_
  try simp only [Act.put, List.setIfInBounds_toArray, List.set_cons_zero, List.set_cons_succ]
  refine wpAnyH_take (i := 8) (v := .string ⟨#[50]⟩) (get_ops _ _ _ rfl) (by kernel_rfl) (by kernel_rfl) (by kernel_rfl) (fun _ _ _ h => h) (Or.inl ⟨by rfl, fun w hSw => by (try dsimp only at hSw); go_simp⟩) hHeld ?_
  try simp only [Act.put, List.setIfInBounds_toArray, List.set_cons_zero, List.set_cons_succ]
  refine wpAnyH_take (i := 9) (v := .bool true) (get_ops _ _ _ rfl) (by kernel_rfl) (by kernel_rfl) (by kernel_rfl) (fun _ _ _ h => h) (Or.inl ⟨by rfl, fun w hSw => by (try dsimp only at hSw); go_simp⟩) hHeld ?_
  try simp only [Act.put, List.setIfInBounds_toArray, List.set_cons_zero, List.set_cons_succ]
  refine wpAnyH_take (i := 10) (v := .bool true) (get_ops _ _ _ rfl) (by kernel_rfl) (by kernel_rfl) (by kernel_rfl) (fun _ _ _ h => h) (Or.inl ⟨by rfl, fun w hSw => by (try dsimp only at hSw); go_simp⟩) hHeld ?_
  try simp only [Act.put, List.setIfInBounds_toArray, List.set_cons_zero, List.set_cons_succ]
  refine wpAnyH_take (i := 11) (v := .bool true) (get_ops _ _ _ rfl) (by kernel_rfl) (by kernel_rfl) (by kernel_rfl) (fun _ _ _ h => h) (Or.inl ⟨by rfl, fun w hSw => by (try dsimp only at hSw); go_simp⟩) hHeld ?_
  try simp only [Act.put, List.setIfInBounds_toArray, List.set_cons_zero, List.set_cons_succ]
  refine wpAnyH_take (i := 12) (v := .bool true) (get_ops _ _ _ rfl) (by kernel_rfl) (by kernel_rfl) (by kernel_rfl) (fun _ _ _ h => h) (Or.inl ⟨by rfl, fun w hSw => by (try dsimp only at hSw); go_simp⟩) hHeld ?_
  try simp only [Act.put, List.setIfInBounds_toArray, List.set_cons_zero, List.set_cons_succ]
  refine wpAnyH_take (i := 13) (v := .bool true) (get_ops _ _ _ rfl) (by kernel_rfl) (by kernel_rfl) (by kernel_rfl) (fun _ _ _ h => h) (Or.inl ⟨by rfl, fun w hSw => by (try dsimp only at hSw); go_simp⟩) hHeld ?_
  try simp only [Act.put, List.setIfInBounds_toArray, List.set_cons_zero, List.set_cons_succ]
  refine wpAnyH_take (i := 14) (v := .bool true) (get_ops _ _ _ rfl) (by kernel_rfl) (by kernel_rfl) (by kernel_rfl) (fun _ _ _ h => h) (Or.inl ⟨by rfl, fun w hSw => by (try dsimp only at hSw); go_simp⟩) hHeld ?_
  try simp only [Act.put, List.setIfInBounds_toArray, List.set_cons_zero, List.set_cons_succ]
  refine wpAnyH_take (i := 15) (v := .slice A1 3 c1) (get_ops _ _ _ rfl) (by kernel_rfl) (by kernel_rfl) (by kernel_rfl) (fun _ _ _ h => h) (Or.inl ⟨by rfl, fun w hSw => by (try dsimp only at hSw); go_simp⟩) hHeld ?_
  try simp only [Act.put, List.setIfInBounds_toArray, List.set_cons_zero, List.set_cons_succ]
  refine wpAnyH_ready (rs := [16]) (by kernel_rfl) (by simp) ?_
  refine AllReadyH.cons (get_ops _ _ _ rfl) (fun K hK => ?_) AllReadyH.nil
  go_simp
  go_at_call 14
  refine (aw_Props A1 c1 wD HPD.out).mono ?_
  rintro e w6 ⟨rfl, hb⟩
  have HQw6 := Lib.hid (HQD.out.step hb)
  have HPw6 := Lib.hid (HPD.out.step hb)
  have HBw6 := Lib.hid (stepB HBD.out hb)
  clear hb HQD HPD HBD hHeld
  go_wp2_with fail
  refine hK.out _ _ ⟨HQw6.out, HPw6.out, HBw6.out⟩ (fun hHeld => ?_)
  clear hK K
  try simp only [Act.put, List.setIfInBounds_toArray, List.set_cons_zero, List.set_cons_succ]
  refine wpAnyH_take (i := 17) (v := .bool true) (get_ops _ _ _ rfl) (by kernel_rfl) (by kernel_rfl) (by kernel_rfl) (fun _ _ _ h => h) (Or.inl ⟨by rfl, fun w hSw => by (try dsimp only at hSw); go_simp⟩) hHeld ?_
  try simp only [Act.put, List.setIfInBounds_toArray, List.set_cons_zero, List.set_cons_succ]
  refine wpAnyH_take (i := 18) (v := .bool true) (get_ops _ _ _ rfl) (by kernel_rfl) (by kernel_rfl) (by kernel_rfl) (fun _ _ _ h => h) (Or.inl ⟨by rfl, fun w hSw => by (try dsimp only at hSw); go_simp⟩) hHeld ?_
  try simp only [Act.put, List.setIfInBounds_toArray, List.set_cons_zero, List.set_cons_succ]
  refine wpAnyH_take (i := 19) (v := .bool true) (get_ops _ _ _ rfl) (by kernel_rfl) (by kernel_rfl) (by kernel_rfl) (fun _ _ _ h => h) (Or.inl ⟨by rfl, fun w hSw => by (try dsimp only at hSw); go_simp⟩) hHeld ?_
  try simp only [Act.put, List.setIfInBounds_toArray, List.set_cons_zero, List.set_cons_succ]
  refine wpAnyH_ready (rs := [20]) (by kernel_rfl) (by simp) ?_
  refine AllReadyH.cons (get_ops _ _ _ rfl) (fun K hK => ?_) AllReadyH.nil
  go_simp
  go_at_call 33
  refine (sample_any w6).mono ?_
  rintro e w7 ⟨rfl, hb⟩
  have HQw7 := Lib.hid (HQw6.out.step hb)
  have HPw7 := Lib.hid (HPw6.out.step hb)
  have HBw7 := Lib.hid (stepB HBw6.out hb)
  clear hb HQw6 HPw6 HBw6 hHeld
  go_wp2_with fail
  refine hK.out _ _ ⟨HQw7.out, HPw7.out, HBw7.out⟩ (fun hHeld => ?_)
  clear hK K
  try simp only [Act.put, List.setIfInBounds_toArray, List.set_cons_zero, List.set_cons_succ]
  refine wpAnyH_ready (rs := [21]) (by kernel_rfl) (by simp) ?_
  refine AllReadyH.cons (get_ops _ _ _ rfl) (fun K hK => ?_) AllReadyH.nil
  go_simp
  unfold msgV mS
  go_at_call 22
  refine (aw_Check w7 (HW.out.step HBw7.out)).mono ?_
  rintro e w8 ⟨rfl, hb⟩
  have HQw8 := Lib.hid (HQw7.out.step hb)
  have HPw8 := Lib.hid (HPw7.out.step hb)
  have HBw8 := Lib.hid (stepB HBw7.out hb)
  clear hb HQw7 HPw7 HBw7 hHeld
  go_wp2_with fail
  refine hK.out _ _ ⟨HQw8.out, HPw8.out, HBw8.out⟩ (fun hHeld => ?_)
  clear hK K
  try simp only [Act.put, List.setIfInBounds_toArray, List.set_cons_zero, List.set_cons_succ]
  refine wpAnyH_take (i := 22) (v := .bool true) (get_ops _ _ _ rfl) (by kernel_rfl) (by kernel_rfl) (by kernel_rfl) (fun _ _ _ h => h) (Or.inl ⟨by rfl, fun w hSw => by (try dsimp only at hSw); go_simp⟩) hHeld ?_
  try simp only [Act.put, List.setIfInBounds_toArray, List.set_cons_zero, List.set_cons_succ]
  refine wpAnyH_take (i := 23) (v := .bool true) (get_ops _ _ _ rfl) (by kernel_rfl) (by kernel_rfl) (by kernel_rfl) (fun _ _ _ h => h) (Or.inl ⟨by rfl, fun w hSw => by (try dsimp only at hSw); go_simp⟩) hHeld ?_
  try simp only [Act.put, List.setIfInBounds_toArray, List.set_cons_zero, List.set_cons_succ]
  refine wpAnyH_take (i := 24) (v := .bool true) (get_ops _ _ _ rfl) (by kernel_rfl) (by kernel_rfl) (by kernel_rfl) (fun _ _ _ h => h) (Or.inl ⟨by rfl, fun w hSw => by (try dsimp only at hSw); go_simp⟩) hHeld ?_
  try simp only [Act.put, List.setIfInBounds_toArray, List.set_cons_zero, List.set_cons_succ]
  refine wpAnyH_ready (rs := [25]) (by kernel_rfl) (by simp) ?_
  refine AllReadyH.cons (get_ops _ _ _ rfl) (fun K hK => ?_) AllReadyH.nil
  go_simp
  go_at_call 33
  refine (sample_any w8).mono ?_
  rintro e w9 ⟨rfl, hb⟩
  have HQw9 := Lib.hid (HQw8.out.step hb)
  have HPw9 := Lib.hid (HPw8.out.step hb)
  have HBw9 := Lib.hid (stepB HBw8.out hb)
  clear hb HQw8 HPw8 HBw8 hHeld
  go_wp2_with fail
  refine hK.out _ _ ⟨HQw9.out, HPw9.out, HBw9.out⟩ (fun hHeld => ?_)
  clear hK K
  try simp only [Act.put, List.setIfInBounds_toArray, List.set_cons_zero, List.set_cons_succ]
  refine wpAnyH_ready (rs := [26]) (by kernel_rfl) (by simp) ?_
  refine AllReadyH.cons (get_ops _ _ _ rfl) (fun K hK => ?_) AllReadyH.nil
  go_simp
  go_at_call 24
  refine (aw_Exp w9).mono ?_
  rintro e wa ⟨rfl, hb⟩
  have HQwa := Lib.hid (HQw9.out.step hb)
  have HPwa := Lib.hid (HPw9.out.step hb)
  have HBwa := Lib.hid (stepB HBw9.out hb)
  clear hb HQw9 HPw9 HBw9 hHeld
  go_wp2_with fail
  refine hK.out _ _ ⟨HQwa.out, HPwa.out, HBwa.out⟩ (fun hHeld => ?_)
  clear hK K
  try simp only [Act.put, List.setIfInBounds_toArray, List.set_cons_zero, List.set_cons_succ]
  refine wpAnyH_take (i := 27) (v := .bool true) (get_ops _ _ _ rfl) (by kernel_rfl) (by kernel_rfl) (by kernel_rfl) (fun _ _ _ h => h) (Or.inl ⟨by rfl, fun w hSw => by (try dsimp only at hSw); go_simp⟩) hHeld ?_
  try simp only [Act.put, List.setIfInBounds_toArray, List.set_cons_zero, List.set_cons_succ]
  refine wpAnyH_take (i := 28) (v := .bool true) (get_ops _ _ _ rfl) (by kernel_rfl) (by kernel_rfl) (by kernel_rfl) (fun _ _ _ h => h) (Or.inl ⟨by rfl, fun w hSw => by (try dsimp only at hSw); go_simp⟩) hHeld ?_
  try simp only [Act.put, List.setIfInBounds_toArray, List.set_cons_zero, List.set_cons_succ]
  refine wpAnyH_take (i := 29) (v := .agg #[.string ⟨#[116]⟩, .string ⟨#[112]⟩, .int .i64 1, .bool true, .int .i64 2, .int .i64 3, .string ⟨#[120]⟩, .int .i64 4, .slice A4 0 c4]) (get_ops _ _ _ rfl) (by kernel_rfl) (by kernel_rfl) (by kernel_rfl) (fun _ _ _ h => h) (Or.inl ⟨by rfl, fun w hSw => by (try dsimp only at hSw); obtain ⟨c0, c1, c2, c3, c4, c5, c6, c7, c8⟩ := mb9 hSw.1; clear hSw; go_simp⟩) hHeld ?_
  try simp only [Act.put, List.setIfInBounds_toArray, List.set_cons_zero, List.set_cons_succ]
  refine wpAnyH_ready (rs := [30]) (by kernel_rfl) (by simp) ?_
  refine AllReadyH.cons (get_ops _ _ _ rfl) (fun K hK => ?_) AllReadyH.nil
  go_simp
  go_at_call 33
  refine (sample_any wa).mono ?_
  rintro e wb ⟨rfl, hb⟩
  have HQwb := Lib.hid (HQwa.out.step hb)
  have HPwb := Lib.hid (HPwa.out.step hb)
  have HBwb := Lib.hid (stepB HBwa.out hb)
  clear hb HQwa HPwa HBwa hHeld
  go_wp2_with fail
  refine hK.out _ _ ⟨HQwb.out, HPwb.out, HBwb.out⟩ (fun hHeld => ?_)
  clear hK K
  try simp only [Act.put, List.setIfInBounds_toArray, List.set_cons_zero, List.set_cons_succ]
  refine wpAnyH_ready (rs := [31]) (by kernel_rfl) (by simp) ?_
  refine AllReadyH.cons (get_ops _ _ _ rfl) (fun K hK => ?_) AllReadyH.nil
  go_simp
  go_at_call 26
  refine (aw_Same A4 c4 wb).mono ?_
  rintro e wc ⟨rfl, hb⟩
  have HQwc := Lib.hid (HQwb.out.step hb)
  have HPwc := Lib.hid (HPwb.out.step hb)
  have HBwc := Lib.hid (stepB HBwb.out hb)
  clear hb HQwb HPwb HBwb hHeld
  go_wp2_with fail
  refine hK.out _ _ ⟨HQwc.out, HPwc.out, HBwc.out⟩ (fun hHeld => ?_)
  clear hK K
  try simp only [Act.put, List.setIfInBounds_toArray, List.set_cons_zero, List.set_cons_succ]
  refine wpAnyH_take (i := 32) (v := .bool true) (get_ops _ _ _ rfl) (by kernel_rfl) (by kernel_rfl) (by kernel_rfl) (fun _ _ _ h => h) (Or.inl ⟨by rfl, fun w hSw => by (try dsimp only at hSw); go_simp⟩) hHeld ?_
  try simp only [Act.put, List.setIfInBounds_toArray, List.set_cons_zero, List.set_cons_succ]
  refine wpAnyH_take (i := 33) (v := .bool true) (get_ops _ _ _ rfl) (by kernel_rfl) (by kernel_rfl) (by kernel_rfl) (fun _ _ _ h => h) (Or.inl ⟨by rfl, fun w hSw => by (try dsimp only at hSw); go_simp⟩) hHeld ?_
  try simp only [Act.put, List.setIfInBounds_toArray, List.set_cons_zero, List.set_cons_succ]
  refine wpAnyH_take (i := 34) (v := .int .i64 12) (get_ops _ _ _ rfl) (by kernel_rfl) (by kernel_rfl) (by kernel_rfl) (fun _ _ _ h => h) (Or.inl ⟨by rfl, fun w hSw => by (try dsimp only at hSw); go_simp⟩) hHeld ?_
  try simp only [Act.put, List.setIfInBounds_toArray, List.set_cons_zero, List.set_cons_succ]
  refine wpAnyH_take (i := 35) (v := .bool true) (get_ops _ _ _ rfl) (by kernel_rfl) (by kernel_rfl) (by kernel_rfl) (fun _ _ _ h => h) (Or.inl ⟨by rfl, fun w hSw => by (try dsimp only at hSw); go_simp⟩) hHeld ?_
  try simp only [Act.put, List.setIfInBounds_toArray, List.set_cons_zero, List.set_cons_succ]
  refine wpAnyH_take (i := 36) (v := .bool true) (get_ops _ _ _ rfl) (by kernel_rfl) (by kernel_rfl) (by kernel_rfl) (fun _ _ _ h => h) (Or.inl ⟨by rfl, fun w hSw => by (try dsimp only at hSw); go_simp⟩) hHeld ?_
  try simp only [Act.put, List.setIfInBounds_toArray, List.set_cons_zero, List.set_cons_succ]
  refine wpAnyH_take (i := 37) (v := .bool true) (get_ops _ _ _ rfl) (by kernel_rfl) (by kernel_rfl) (by kernel_rfl) (fun _ _ _ h => h) (Or.inl ⟨by rfl, fun w hSw => by (try dsimp only at hSw); go_simp⟩) hHeld ?_
  try simp only [Act.put, List.setIfInBounds_toArray, List.set_cons_zero, List.set_cons_succ]
  refine wpAnyH_take (i := 38) (v := .int .i64 0) (get_ops _ _ _ rfl) (by kernel_rfl) (by kernel_rfl) (by kernel_rfl) (fun _ _ _ h => h) (Or.inl ⟨by rfl, fun w hSw => by (try dsimp only at hSw); go_simp⟩) hHeld ?_
  try simp only [Act.put, List.setIfInBounds_toArray, List.set_cons_zero, List.set_cons_succ]
  refine wpAnyH_take (i := 39) (v := .bool true) (get_ops _ _ _ rfl) (by kernel_rfl) (by kernel_rfl) (by kernel_rfl) (fun _ _ _ h => h) (Or.inl ⟨by rfl, fun w hSw => by (try dsimp only at hSw); go_simp⟩) hHeld ?_
  try simp only [Act.put, List.setIfInBounds_toArray, List.set_cons_zero, List.set_cons_succ]
  refine wpAnyH_take (i := 40) (v := .bool true) (get_ops _ _ _ rfl) (by kernel_rfl) (by kernel_rfl) (by kernel_rfl) (fun _ _ _ h => h) (Or.inl ⟨by rfl, fun w hSw => by (try dsimp only at hSw); go_simp⟩) hHeld ?_
  try simp only [Act.put, List.setIfInBounds_toArray, List.set_cons_zero, List.set_cons_succ]
  refine wpAnyH_take (i := 41) (v := .bool true) (get_ops _ _ _ rfl) (by kernel_rfl) (by kernel_rfl) (by kernel_rfl) (fun _ _ _ h => h) (Or.inl ⟨by rfl, fun w hSw => by (try dsimp only at hSw); go_simp⟩) hHeld ?_
  try simp only [Act.put, List.setIfInBounds_toArray, List.set_cons_zero, List.set_cons_succ]
  refine wpAnyH_ready (rs := [42]) (by kernel_rfl) (by simp) ?_
  refine AllReadyH.cons (get_ops _ _ _ rfl) (fun K hK => ?_) AllReadyH.nil
  go_simp
  go_at_call 33
  refine (sample_any wc).mono ?_
  rintro e wd ⟨rfl, hb⟩
  have HQwd := Lib.hid (HQwc.out.step hb)
  have HPwd := Lib.hid (HPwc.out.step hb)
  have HBwd := Lib.hid (stepB HBwc.out hb)
  clear hb HQwc HPwc HBwc hHeld
  go_wp2_with fail
  refine hK.out _ _ ⟨HQwd.out, HPwd.out, HBwd.out⟩ (fun hHeld => ?_)
  clear hK K
  try simp only [Act.put, List.setIfInBounds_toArray, List.set_cons_zero, List.set_cons_succ]
  refine wpAnyH_ready (rs := [43]) (by kernel_rfl) (by simp) ?_
  refine AllReadyH.cons (get_ops _ _ _ rfl) (fun K hK => ?_) AllReadyH.nil
  go_simp
  unfold msgV mS
  go_at_call 29
  refine (aw_Put wd).mono ?_
  rintro e we ⟨A5, c5, rfl, hcv, hb⟩
  have HQwe := Lib.hid (HQwd.out.step hb)
  have HPwe := Lib.hid (HPwd.out.step hb)
  have HBwe := Lib.hid (stepB HBwd.out hb)
  clear hb HQwd HPwd HBwd hHeld
  go_wp2_with fail
  refine hK.out _ _ ⟨HQwe.out, HPwe.out, HBwe.out⟩ (fun hHeld => ?_)
  clear hK K
  try simp only [Act.put, List.setIfInBounds_toArray, List.set_cons_zero, List.set_cons_succ]
  refine wpAnyH_ready (rs := [44]) (by kernel_rfl) (by simp) ?_
  refine AllReadyH.cons (get_ops _ _ _ rfl) (fun K hK => ?_) AllReadyH.nil
  go_simp
  refine hK.out _ _ hHeld (fun hHeld => ?_)
  clear hK K hcv
  try simp only [Act.put, List.setIfInBounds_toArray, List.set_cons_zero, List.set_cons_succ]
  refine wpAnyH_take (i := 45) (v := .bool true) (get_ops _ _ _ rfl) (by kernel_rfl) (by kernel_rfl) (by kernel_rfl) (fun _ _ _ h => h) (Or.inl ⟨by rfl, fun w hSw => by (try dsimp only at hSw); go_simp⟩) hHeld ?_
  try simp only [Act.put, List.setIfInBounds_toArray, List.set_cons_zero, List.set_cons_succ]
  refine wpAnyH_take (i := 46) (v := .bool true) (get_ops _ _ _ rfl) (by kernel_rfl) (by kernel_rfl) (by kernel_rfl) (fun _ _ _ h => h) (Or.inl ⟨by rfl, fun w hSw => by (try dsimp only at hSw); go_simp⟩) hHeld ?_
  try simp only [Act.put, List.setIfInBounds_toArray, List.set_cons_zero, List.set_cons_succ]
  refine wpAnyH_take (i := 47) (v := .bool true) (get_ops _ _ _ rfl) (by kernel_rfl) (by kernel_rfl) (by kernel_rfl) (fun _ _ _ h => h) (Or.inl ⟨by rfl, fun w hSw => by (try dsimp only at hSw); go_simp⟩) hHeld ?_
  try simp only [Act.put, List.setIfInBounds_toArray, List.set_cons_zero]
  refine wpAnyH_done (by kernel_rfl) ?_ _
  go_wp2
  go_ret
  exact ⟨rfl, HBwe.out⟩
end Go.Proofs.YtlkkdompcbdbeaaDoor
