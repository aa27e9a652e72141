/-
  The example that every statement of brokerlaw06 holds besides: awake answers true. Conditions: the tables of package unicode/utf8 are there.
-/
import Derived.Test.YtjlmlaekogahpaaGreatDoorCheckP
import Derived.Test.YtjlmlaekogahpaaGreatDoorAnsR
import Derived.Test.YtjlmlaekogahpaaGreatDoorPkt2
namespace Go.Proofs.YtjlmlaekogahpaaGreatDoor
open Go.RowKit

theorem pin_zero (w : World) {p : Pkt} (h1 : p.msg.props = []) (h2 : p.wmsg.props = []) (h3 : p.subs = []) (h4 : p.filters = []) (h5 : p.codes = []) : PIn w p PA.zero :=
  ⟨by rw [h1]; exact GL.nil _ _ _, by rw [h2]; exact GL.nil _ _ _, by rw [h3]; exact GL.nil _ _ _, by rw [h4]; exact CL.nil _ _ _, by rw [h5]; exact CL.nil _ _ _⟩
theorem psz_zero {p : Pkt} (h1 : p.msg.props = []) (h2 : p.wmsg.props = []) (h3 : p.subs = []) (h4 : p.filters = []) (h5 : p.codes = []) : PSz p :=
  ⟨by rw [h1]; decide, by rw [h2]; decide, by rw [h3]; decide, by rw [h4]; decide, by rw [h5]; decide⟩
theorem ptx_zero {p : Pkt} (h3 : p.subs = []) (h4 : p.filters = []) : PTx p := ⟨by rw [h3]; simp, by rw [h4]; simp⟩
theorem check_plain (k n : Int) (w : World) (hw : S1.Okw w) : Calls Tryz.prog 12 #[pkV (plainP k n) PA.zero] w fun e w' => e = .returned (.int .i64 (checkP (plainP k n))) ∧ Below w.heap.size w w' :=
  check6_any (plainP k n) PA.zero w hw (pin_zero w rfl rfl rfl rfl rfl) (psz_zero rfl rfl rfl rfl rfl) (ptx_zero rfl rfl)
theorem check_pubP (l n : Int) (w : World) (hw : S1.Okw w) : Calls Tryz.prog 12 #[pkV (pubP l n) PA.zero] w fun e w' => e = .returned (.int .i64 (checkP (pubP l n))) ∧ Below w.heap.size w w' :=
  check6_any (pubP l n) PA.zero w hw (pin_zero w rfl rfl rfl rfl rfl) (psz_zero rfl rfl rfl rfl rfl) (ptx_zero rfl rfl)
theorem ping_bad : checkP (plainP 12 1) = 28 := checkP_field (by decide) fun e => by
  have := congrArg Pkt.id e
  simp [usedP, plainP] at this
theorem pub_used (l n : Int) : pubP l n = usedP (pubP l n) := by simp [pubP, usedP, Pkt.zero]
theorem pub_check (l n : Int) (hl : l = 1) : checkP (pubP l n) = idR n := by
  subst hl
  unfold checkP
  rw [if_neg (by show ¬ ((3 : Int) < 1 ∨ (14 : Int) < 3); omega), if_neg (by rw [Decidable.not_not]; exact pub_used 1 n)]
  unfold bodyR
  rw [if_neg (by show ¬ ((3 : Int) = 1); omega), if_neg (by show ¬ ((3 : Int) = 2); omega), if_pos (by rfl)]
  unfold pubR
  have h : checkR (pubP 1 n).msg = 0 := by
    show checkR { Msg.zero with topic := ⟨#[97]⟩, level := 1 } = 0
    decide +kernel
  rw [if_neg (by simp [h]), if_pos (by show (0 : Int) < 1; omega)]
  rfl
set_option maxRecDepth 20000 in
set_option maxHeartbeats 4000000 in
theorem publish_any (l n : Int) (w : World) : Calls Tryz.prog 31 #[.int .i64 l, .int .i64 n] w fun e w' => e = .returned (pkV (pubP l n) PA.zero) ∧ Below w.heap.size w w' := by
  unfold pkV
  go_enter Tryz.func31, Tryz.ntmps31
  go_wp2_with (refine wpList_store_blk (by rfl) 31 (.tmp 4) (.tmp 8) rfl rfl (w.heap.size) 0 34 rfl (.agg (pkC (pubP l n) PA.zero).toArray) rfl 31 (pkC Pkt.zero PA.zero) (pkC (pubP l n) PA.zero) (zero_new w) rfl rfl info33 (by rw [pkC_len]; decide) (all_one rfl) ?_; rintro w9 hM _ hbel; have HMw9 : Hid (MT 31 w9 (w.heap.size) (pkC (pubP l n) PA.zero)) := Lib.hid (by rw [putC_whole (pkC Pkt.zero PA.zero) (pkC (pubP l n) PA.zero) rfl] at hM; exact hM); have HBw9 := Lib.hid (hbel w.heap.size w (Nat.le_refl _) ((Below.refl _ _).alloc (Nat.le_refl _) _)); clear hM hbel)
  exact bodyPost_ret (v := .agg (pkC (pubP l n) PA.zero).toArray) (results_cell_row rfl _ _ w.heap.size 31 _ (0, 0) _ rfl HMw9.out Tryz.underlying31 rfl info33) rfl ⟨rfl, HBw9.out⟩

set_option maxRecDepth 50000 in
set_option maxHeartbeats 16000000 in
theorem awake6_any (w : World) (hw : S1.Okw w) : Calls Tryz.prog 11 #[] w fun e w' => e = .returned (.bool true) ∧ Below w.heap.size w w' := by
  have HO := Lib.hid hw
  have P1 := Lib.hid (fun w => publish_any 2 7 w)
  have P2 := Lib.hid (fun w => publish_any 1 0 w)
  have P3 := Lib.hid (fun w => publish_any 1 1 w)
  have A1 : Hid (∀ w, Calls Tryz.prog 30 #[pkV (pubP 2 7) PA.zero] w fun e w' => e = .returned (.tuple #[pkV (plainP 5 7) PA.zero, .bool true]) ∧ Below w.heap.size w w') := Lib.hid (fun w => answer_any (pubP 2 7) PA.zero w)
  have K1 : Hid (∀ w, S1.Okw w → Calls Tryz.prog 12 #[pkV (plainP 12 1) PA.zero] w fun e w' => e = .returned (.int .i64 28) ∧ Below w.heap.size w w') := Lib.hid (fun w h => by have := check_plain 12 1 w h; rw [ping_bad] at this; exact this)
  have K2 : Hid (∀ w, S1.Okw w → Calls Tryz.prog 12 #[pkV (pubP 1 0) PA.zero] w fun e w' => e = .returned (.int .i64 15) ∧ Below w.heap.size w w') := Lib.hid (fun w h => by have := check_pubP 1 0 w h; rw [pub_check 1 0 rfl] at this; exact this)
  have K3 : Hid (∀ w, S1.Okw w → Calls Tryz.prog 12 #[pkV (pubP 1 1) PA.zero] w fun e w' => e = .returned (.int .i64 0) ∧ Below w.heap.size w w') := Lib.hid (fun w h => by have := check_pubP 1 1 w h; rw [pub_check 1 1 rfl] at this; exact this)
  have S5 : Hid (∀ w, Calls Tryz.prog 32 #[pkV (plainP 5 7) PA.zero, pkV (plainP 5 7) PA.zero] w fun e w' => e = .returned (.bool true) ∧ Below w.heap.size w w') := Lib.hid (fun w => by
    have := sameP_any (plainP 5 7) (plainP 5 7) PA.zero PA.zero w (pin_zero w rfl rfl rfl rfl rfl) (pin_zero w rfl rfl rfl rfl rfl) (psz_zero rfl rfl rfl rfl rfl) (psz_zero rfl rfl rfl rfl rfl)
    rw [show sameP (plainP 5 7) (plainP 5 7) = true from decide_eq_true rfl] at this; exact this)
  have C6 : Hid (∀ w, Calls Tryz.prog 33 #[.int .i64 12] w fun e w' => e = .returned (.bool true) ∧ w = w') := Lib.hid (fun w => client_any 12 w)
  have C7 : Hid (∀ w, Calls Tryz.prog 34 #[.int .i64 13] w fun e w' => e = .returned (.bool true) ∧ w = w') := Lib.hid (fun w => broker_any 13 w)
  clear hw
  unfold pkV at *
  go_enter Tryz.func11, Tryz.ntmps11
  go_wp2_with fail
  refine (P1.out w).mono ?_
  rintro e w1 ⟨rfl, hb⟩
  have HBw1 : Hid (Below w.heap.size w w1) := Lib.hid (hb)
  clear hb
  go_wp2_with fail
  refine (A1.out w1).mono ?_
  rintro e w2 ⟨rfl, hb⟩
  have HBw2 : Hid (Below w.heap.size w w2) := Lib.hid (stepB HBw1.out hb)
  clear hb
  go_wp2_with (refine wpList_store_blk (by rfl) 31 (.tmp 1) (.tmp 6) rfl rfl (w2.heap.size) 0 34 rfl (.agg (pkC (plainP 5 7) PA.zero).toArray) rfl 31 (pkC Pkt.zero PA.zero) (pkC (plainP 5 7) PA.zero) (zero_new w2) rfl rfl info33 (by rw [pkC_len]; decide) (all_one rfl) ?_; rintro w3 hM _ hbel; have HMw3 : Hid (MT 31 w3 (w2.heap.size) (pkC (plainP 5 7) PA.zero)) := Lib.hid (by rw [putC_whole (pkC Pkt.zero PA.zero) (pkC (plainP 5 7) PA.zero) rfl] at hM; exact hM); have HBw3 := Lib.hid (hbel w.heap.size w HBw2.out.size (HBw2.out.alloc HBw2.out.size _)); clear hM hbel)
  refine (K1.out w3 (HO.out.step HBw3.out)).mono ?_
  rintro e w4 ⟨rfl, hb⟩
  have HBw4 : Hid (Below w.heap.size w w4) := Lib.hid (stepB HBw3.out hb)
  have HMw4 := Lib.hid (MT.step HMw3.out hb)
  clear hb
  go_wp2_with fail
  refine (P2.out w4).mono ?_
  rintro e w5 ⟨rfl, hb⟩
  have HBw5 : Hid (Below w.heap.size w w5) := Lib.hid (stepB HBw4.out hb)
  have HMw5 := Lib.hid (MT.step HMw4.out hb)
  clear hb
  go_wp2_with fail
  refine (K2.out w5 (HO.out.step HBw5.out)).mono ?_
  rintro e w6 ⟨rfl, hb⟩
  have HBw6 : Hid (Below w.heap.size w w6) := Lib.hid (stepB HBw5.out hb)
  have HMw6 := Lib.hid (MT.step HMw5.out hb)
  clear hb
  go_wp2_with fail
  refine (P3.out w6).mono ?_
  rintro e w7 ⟨rfl, hb⟩
  have HBw7 : Hid (Below w.heap.size w w7) := Lib.hid (stepB HBw6.out hb)
  have HMw7 := Lib.hid (MT.step HMw6.out hb)
  clear hb
  go_wp2_with fail
  refine (K3.out w7 (HO.out.step HBw7.out)).mono ?_
  rintro e w8 ⟨rfl, hb⟩
  have HBw8 : Hid (Below w.heap.size w w8) := Lib.hid (stepB HBw7.out hb)
  have HMw8 := Lib.hid (MT.step HMw7.out hb)
  clear hb
  go_wp2_with (refine wpList_load_all (by rfl) 31 (.tmp 1) rfl w2.heap.size rfl 31 _ (0, 0) _ HMw8.out Tryz.underlying31 rfl info33 ?_)
  refine (S5.out w8).mono ?_
  rintro e w9 ⟨rfl, hb⟩
  have HBw9 : Hid (Below w.heap.size w w9) := Lib.hid (stepB HBw8.out hb)
  have HMw9 := Lib.hid (MT.step HMw8.out hb)
  clear hb
  go_wp2_with fail
  refine (C6.out w9).mono ?_
  rintro e w' ⟨rfl, rfl⟩
  go_wp2_with fail
  refine (C7.out w9).mono ?_
  rintro e w' ⟨rfl, rfl⟩
  go_wp2_with fail
  go_ret
  exact ⟨rfl, HBw9.out⟩

end Go.Proofs.YtjlmlaekogahpaaGreatDoor
