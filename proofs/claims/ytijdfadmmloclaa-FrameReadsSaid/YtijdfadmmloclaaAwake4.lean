/-
  The examples that every statement of brokerlaw04 holds besides: awake answers true; FrameWraps. Conditions: the list reads as data.
-/
import Derived.Test.YtijdfadmmloclaaNext
namespace Go.Proofs.Ytijdfadmmloclaa
open Go.RowKit

theorem below_new4 (w : World) (o : Obj) : Below w.heap.size w (w.alloc o) := (Below.refl _ _).alloc (Nat.le_refl _) _
theorem a4_next_val : nextR [9, 2, 228, 12, 41, 44, 97] 1 = ([97], 7, 0) := by decide +kernel
theorem a4_wrap_val : wrapR [97] = [2, 228, 12, 41, 44, 97] := by decide +kernel
theorem a4_sum_val : sumR [] = 2166136261 := by decide +kernel
theorem a4_size_val : sizeR 64 = 70 := by decide +kernel

theorem a4_next (w : World) : Calls Try.prog 43 #[.slice (some ⟨w.heap.size, 0, none⟩) 7 7, .int .i64 1] (w.alloc (.cells #[.int .u8 9, .int .u8 2, .int .u8 228, .int .u8 12, .int .u8 41, .int .u8 44, .int .u8 97] 5)) fun e w' =>
    ∃ A c, e = .returned (.tuple #[.slice A 1 c, .int .i64 7, .int .i64 0]) ∧ CL bv w' w'.heap.size A [97] ∧ Below w.heap.size w w' :=
  (next_any (some ⟨w.heap.size, 0, none⟩) 7 [9, 2, 228, 12, 41, 44, 97] 1 (by decide) (by decide) _ (CL.new (f := bv) (xs := [9, 2, 228, 12, 41, 44, 97])) (by decide) (by decide)).mono fun _ _ h => by
    obtain ⟨v, h1, hown, hb⟩ := h
    rw [a4_next_val] at h1 hown
    obtain ⟨A, c, rfl, _, hsl⟩ := hown.ret
    exact ⟨A, c, h1, hsl, stepB (below_new4 w _) hb⟩
theorem a4_sum (w : World) : Calls Try.prog 37 #[.slice none 0 0] w fun e w' => e = .returned (.int .i64 2166136261) ∧ w = w' :=
  (sum_any none 0 [] w 0 (CL.nil _ _ _) (by decide)).mono fun _ _ h => by
    rw [a4_sum_val] at h
    exact h
theorem a4_wrap (w : World) : Calls Try.prog 39 #[.slice (some ⟨w.heap.size, 0, none⟩) 1 1] (w.alloc (.cells #[.int .u8 97] 5)) fun e w' =>
    ∃ A c, e = .returned (.slice A 6 c) ∧ (convert 22 9 (.slice A 6 c)).run Try.prog w' = .ok (.string ⟨#[2, 228, 12, 41, 44, 97]⟩) w' ∧ Below w.heap.size w w' :=
  (wrap_any (some ⟨w.heap.size, 0, none⟩) 1 [97] _ (CL.new (f := bv) (xs := [97])) (by decide)).mono fun _ _ h => by
    obtain ⟨v, h1, hown, hb⟩ := h
    rw [a4_wrap_val] at hown
    obtain ⟨A, c, rfl, _, hsl⟩ := hown.ret
    exact ⟨A, c, h1, conv_str hsl c, stepB (below_new4 w _) hb⟩
theorem a4_size (w : World) : Calls Try.prog 41 #[.int .i64 64] w fun e w' => e = .returned (.int .i64 70) ∧ Below w.heap.size w w' :=
  (size_any 64 (by decide) (by decide) w).mono fun _ _ h => by
    rw [a4_size_val] at h
    exact h
theorem conv97 {w : World} {B : Nat} {A : Option Addr} (h : CL bv w B A [97]) (c : Nat) : (convert 22 9 (.slice A 1 c)).run Try.prog w = .ok (.string ⟨#[97]⟩) w := conv_str h c

set_option maxHeartbeats 1000000 in
theorem awake4_any (w : World) : Calls Try.prog 36 #[] w fun e w' => e = .returned (.bool true) ∧ Below w.heap.size w w' := by
  go_enter Try.func36, Try.ntmps36
  go_wp2_with fail
  refine (a4_next _).mono ?_
  rintro e w1 ⟨A1, c1, rfl, hsl1, hb1⟩
  have HS1 := Lib.hid hsl1
  clear hsl1
  go_wp2_with fail
  refine (a4_sum _).mono ?_
  rintro e w2 ⟨rfl, rfl⟩
  go_wp2_with fail
  refine (a4_wrap _).mono ?_
  rintro e w3 ⟨A3, c3, rfl, hcv3, hb3⟩
  have hcv1 := conv97 (HS1.out.step hb3) c1
  have hb3' := stepB hb1 hb3
  clear HS1 hb3
  go_wp2_with fail
  refine (a4_size _).mono ?_
  rintro e w4 ⟨rfl, hb4⟩
  go_wp2_with fail
  go_ret
  exact ⟨rfl, stepB hb3' hb4⟩

theorem same_self4 {A A' : Option Addr} {c c' : Nat} {T : List UInt8} {w : World} {B B' : Nat} (h : CL bv w B A T) (h' : CL bv w B' A' T) :
    Calls Try.prog 16 #[.slice A T.length c, .slice A' T.length c'] w fun e w' => e = .returned (.bool true) ∧ w = w' := by
  have cs := sameB_any A A' c c' T T w B B' h h'
  rw [decide_eq_true rfl] at cs
  exact cs

set_option maxHeartbeats 2000000 in
theorem frameWraps_walk (A : Option Addr) (c : Nat) (l : List UInt8) (n : Int) (w : World) (hsl : CL bv w w.heap.size A l) (_hc : l.length ≤ c) (hn : l.length ≤ 140737488355328) (h1 : -9223372036854775808 ≤ n) (h2 : n ≤ 9223372036854775807) :
    Calls Try.prog 12 #[.slice A l.length c, .int .i64 n] w fun e w' => e = .returned (.bool true) ∧ Below w.heap.size w w' := by
  by_cases h600 : 600 < l.length
  · clear hsl
    go_enter Try.func12, Try.ntmps12
    go_wp2_with fail
    refine (awake4_any _).mono ?_
    rintro e w1 ⟨rfl, hb1⟩
    go_wp2_with fail
    go_ret
    exact ⟨rfl, hb1⟩
  · have HW := Lib.hid (fun w h => wrap_any A c l w h hn)
    have HR := Lib.hid (fun w h => rWrap_any A c l w h hn)
    have HZ := Lib.hid (fun w => size_any n h1 h2 w)
    have HQ := Lib.hid (fun w => rSize_any n h1 h2 w)
    have hwl : (wrapR l).length = (enc l.length).length + 4 + l.length := by
      unfold wrapR
      rw [if_neg (by omega), List.length_append, List.length_append]
      rfl
    have HZL : Hid (∀ w, Calls Try.prog 41 #[.int .i64 (l.length : Int)] w fun e w' => e = .returned (.int .i64 ((wrapR l).length : Int)) ∧ Below w.heap.size w w') := Lib.hid (fun w => by
      have := size_any l.length (by omega) (by omega) w
      rw [sizeR_in (by omega), ← hwl] at this
      exact this)
    clear hwl h1 h2
    generalize wrapR l = T at HW HR HZL
    generalize sizeR n = z at HZ HQ
    have HS := Lib.hid hsl
    clear hsl
    go_enter Try.func12, Try.ntmps12
    go_wp2_with fail
    refine (HW.out w HS.out).mono ?_
    rintro e w1 ⟨v1, rfl, hown1, hb1⟩
    obtain ⟨A1, c1, rfl, _, hsl1⟩ := hown1.ret
    have HS1 := Lib.hid (HS.out.step hb1)
    clear hown1 HW HS
    go_wp2_with fail
    refine (HR.out w1 HS1.out).mono ?_
    rintro e w2 ⟨v2, rfl, hown2, hb2⟩
    obtain ⟨A2, c2, rfl, _, hsl2⟩ := hown2.ret
    have CS := Lib.hid (same_self4 (c := c1) (c' := c2) (hsl1.step hb2) hsl2)
    have hb2' := stepB hb1 hb2
    clear hown2 HR HS1 hsl1 hsl2 hb1 hb2
    go_wp2_with fail
    refine CS.out.mono ?_
    rintro e w3 ⟨rfl, rfl⟩
    go_wp2_with fail
    refine (HZL.out _).mono ?_
    rintro e w4 ⟨rfl, hb4⟩
    have hb4' := stepB hb2' hb4
    clear hb4 hb2' CS
    go_wp2_with fail
    refine (HZ.out _).mono ?_
    rintro e w5 ⟨rfl, hb5⟩
    have hb5' := stepB hb4' hb5
    clear hb5 hb4'
    go_wp2_with fail
    refine (HQ.out _).mono ?_
    rintro e w6 ⟨rfl, hb6⟩
    have hb6' := stepB hb5' hb6
    clear hb6 hb5'
    go_wp2_with fail
    refine (awake4_any _).mono ?_
    rintro e w7 ⟨rfl, hb7⟩
    go_wp2_with fail
    go_ret
    exact ⟨rfl, stepB hb6' hb7⟩

end Go.Proofs.Ytijdfadmmloclaa
