/-
  LimitsBound walked, where the instant lies at or before the bucket's. Conditions: the numbers fit an int; the list reads as data.
-/
import Derived.Test.YtmcocepjdhpecaaLiX
namespace Go.Proofs.Ytmcocepjdhpecaa
open Go.RowKit

set_option maxRecDepth 20000 in
set_option maxHeartbeats 4000000 in
theorem limitsBound_goodB (r b v t : Int) (now : Int) (A : Option Addr) (c : Nat) (X : List (Nat × Int)) (w : World) (hsl : OL w w.heap.size A X) (hX : X.length ≤ 9223372036854775807) (hd : ∀ x ∈ X, x.1 ≤ 65535) (hl : ¬ t < now) (hv : vbL r b v t now = true) (hr : ¬ 1000000 < r) (hn : ¬ 549755813888 < now) :
    Calls Try.prog 8 #[bk r b v t, .int .i64 now, .slice A X.length c] w fun e w' => e = .returned (.bool true) ∧ Below w.heap.size w w' := by
  have HA := Lib.hid (fun w => awake21_any w)
  obtain ⟨w0, hw0⟩ : ∃ w0, w0 = w.alloc (.cells #[.int .i64 r, .int .i64 b, .int .i64 v, .int .i64 t] 23) := ⟨_, rfl⟩
  have M0 : BK 23 w0 w.heap.size [.int .i64 r, .int .i64 b, .int .i64 v, .int .i64 t] := by rw [hw0]; exact BK.new w _ _
  have hb0 : Below w.heap.size w w0 := by rw [hw0]; exact below_new w _
  have B_w0 := Lib.hid hb0
  have Mt_w0 := Lib.hid M0
  have HW0 := Lib.hid hw0
  have CV := Lib.hid (fun w => valid21_any r b v t now w)
  rw [hv] at CV
  have q1 : decide (1000000 < r) = false := decide_eq_false hr
  have q2 : decide (549755813888 < now) = false := decide_eq_false hn
  obtain ⟨hok, h0, h1⟩ := vbL_iff.1 hv
  have HSL := Lib.hid hsl
  have HD := Lib.hid hd
  have hbig : okL r 1099511627776 v t := by unfold okL at hok ⊢; omega
  have CT := Lib.hid (fun w => rTokens_any r 1099511627776 v t now hbig h0 h1 w)
  obtain ⟨added, hadd⟩ : ∃ added, (if t < now then tokL r 1099511627776 v t now else v) = added := ⟨_, rfl⟩
  have hinv : BndI r b v t now 0 added 0 := by
    have htr := tok_range (now := now) hbig
    refine ⟨hok, by omega, h0, by omega, by omega, ?_, ?_⟩
    · rw [← hadd]
      split
      · next h =>
        rw [tok_min hok (by omega), tok_min hbig (by omega)]
        have := hok.2.2.2.1
        omega
      · next h => rw [tok_before (by omega)]; omega
    · rw [← hadd]
      have := hok.2.2.2.2.2.1
      have := hok.2.2.2.1
      split <;> omega
  have HI := Lib.hid hinv
  have HAD := Lib.hid hadd
  have Zt : Hid (w.heap.size ≤ w.heap.size) := Lib.hid (Nat.le_refl _)
  clear hv hr hn hok h0 h1 hsl hd hbig hadd hinv
  have q3 : decide (t < now) = false := decide_eq_false hl
  have had := HAD.out
  rw [if_neg hl] at had
  subst had
  clear hl HAD CT
  clear hw0 M0 hb0
  go_enter Try.func8, Try.ntmps8
  go_upto_region 1 with fail
  rw [← HW0.out]
  clear HW0
  have dt0 := Mt_w0.out.cell 0 rfl
  have dt1 := Mt_w0.out.cell 1 rfl
  have dt2 := Mt_w0.out.cell 2 rfl
  have dt3 := Mt_w0.out.cell 3 rfl
  go_wp2_with fail
  refine (CV.out w0).mono ?_
  rintro e w1 ⟨rfl, hb⟩
  have B_w1 : Hid (Below w.heap.size w w1) := Lib.hid (stepB B_w0.out hb)
  have Mt_w1 : Hid (BK 23 w1 (w.heap.size) [.int .i64 r, .int .i64 b, .int .i64 v, .int .i64 t]) := Lib.hid (Mt_w0.out.step hb)
  clear dt0 dt1 dt2 dt3
  clear B_w0 Mt_w0
  clear hb
  have dt0 := Mt_w1.out.cell 0 rfl
  have dt1 := Mt_w1.out.cell 1 rfl
  have dt2 := Mt_w1.out.cell 2 rfl
  have dt3 := Mt_w1.out.cell 3 rfl
  go_wp2_with fail
  go_quiet (fail)
  obtain ⟨wq, hwq⟩ : ∃ wq, wq = w1.drewN nq := ⟨_, rfl⟩
  rw [← hwq]
  have hb : Below w1.heap.size w1 wq := by rw [hwq]; exact bDN _ _
  have B_wq : Hid (Below w.heap.size w wq) := Lib.hid (stepB B_w1.out hb)
  have Mt_wq : Hid (BK 23 wq (w.heap.size) [.int .i64 r, .int .i64 b, .int .i64 v, .int .i64 t]) := Lib.hid (Mt_w1.out.step hb)
  clear dt0 dt1 dt2 dt3
  clear B_w1 Mt_w1
  clear hb hwq
  have dt0 := Mt_wq.out.cell 0 rfl
  have dt1 := Mt_wq.out.cell 1 rfl
  have dt2 := Mt_wq.out.cell 2 rfl
  have dt3 := Mt_wq.out.cell 3 rfl
  go_wp2_with fail
  clear dt0 dt1 dt2 dt3
  go_loopg [1, 7, 8, 9] X.length (fun g u1 u7 u8 u9 wr => ∃ (k : Nat) (v2 t2 now2 taken ad2 : Int), k + g = X.length ∧ u9 = .int .i64 k ∧ u1 = .int .i64 now2 ∧ u7 = .int .i64 taken ∧ u8 = .int .i64 ad2 ∧ (k ≤ 60 ∧ BndI r b v2 t2 now2 taken ad2 k) ∧ BK 23 wr w.heap.size [.int .i64 r, .int .i64 b, .int .i64 v2, .int .i64 t2] ∧ Below w.heap.size w wr)
  case atStart => exact ⟨0, v, t, now, 0, _, by omega, rfl, rfl, rfl, rfl, ⟨by omega, HI.out⟩, Mt_wq.out, B_wq.out⟩
  case round =>
    clear Mt_wq B_wq HI
    obtain ⟨k, v2, t2, now2, taken, ad2, hkg, rfl, rfl, rfl, rfl, ⟨hk60, hi⟩, hM, hB⟩ := hrel
    have Mt_wr := Lib.hid hM
    have B_wr := Lib.hid hB
    have So := HSL.out.step hB
    have HG := Lib.hid hkg
    have HI2 := Lib.hid hi
    clear hM hB
    cases gk with
    | zero =>
      obtain rfl : k = X.length := by omega
      have e3 : decide ((X.length : Int) < (X.length : Int)) = false := decide_eq_false (by omega)
      clear hkg So hi hk60
      go_wp2_with fail
      refine (HA.out wr).mono ?_
      rintro e w1 ⟨rfl, hb⟩
      have B_w1 : Hid (Below w.heap.size w w1) := Lib.hid (stepB B_wr.out hb)
      have Mt_w1 : Hid (BK 23 w1 (w.heap.size) [.int .i64 r, .int .i64 b, .int .i64 v2, .int .i64 t2]) := Lib.hid (Mt_wr.out.step hb)
      clear B_wr Mt_wr
      clear hb
      go_wp2_with fail
      go_ret
      exact ⟨rfl, B_w1.out⟩
    | succ g =>
      have hlt : k < X.length := by omega
      have e3 : decide ((k : Int) < (X.length : Int)) = true := decide_eq_true (by omega)
      by_cases h60 : k < 60
      · have q60 : decide ((k : Int) < 60) = true := decide_eq_true (by omega)
        have q60n : decide (k < 60) = true := decide_eq_true (by omega)
        obtain ⟨x, hx⟩ : ∃ x, X[k]? = some x := ⟨_, List.getElem?_eq_getElem hlt⟩
        obtain ⟨b0, o, hA, hbB, kd0, kn0⟩ := OL.at_ HSL.out hx
        subst hA
        have kd := (B_wr.out.cell (p := ⟨b0, o + k * 2, none⟩) hbB).trans kd0
        have kn := (B_wr.out.cell (p := ⟨b0, o + k * 2 + 1, none⟩) hbB).trans kn0
        clear kd0 kn0
        have hk59 : k ≤ 59 := by omega
        have j1 : (0 : Int) ≤ (k : Int) := by omega
        have j2 : (k : Int) < (X.length : Int) := by omega
        have hxr := HD.out x (List.mem_of_getElem? hx)
        obtain ⟨d, n⟩ := x
        dsimp only at kd kn hxr
        obtain ⟨hok2, hst⟩ := hi.step d hxr h60 n
        have w1 : wrap64 (d : Int) = (d : Int) := wrap64_id _ (by omega) (by omega)
        have m0 := hi.n0
        have m1 := hi.n1
        have w2 : wrap64 (now2 + (d : Int)) = now2 + (d : Int) := wrap64_id _ (by omega) (by omega)
        have C3 := Lib.hid (fun w => lTake_any r b v2 t2 (now2 + (d : Int)) n hi.ok (by omega) (by omega) w)
        obtain ⟨ok, hokk⟩ : ∃ ok, (takeL r b v2 t2 (now2 + (d : Int)) n).2 = ok := ⟨_, rfl⟩
        obtain ⟨s1, s2, s3, s4, s5, s6⟩ := hst ok hokk
        rw [hokk] at C3
        have hal := addL_le (t := t2) hi.ok.1 hi.r1 (by omega : now2 ≤ now2 + (d : Int)) (by omega)
        have haz := (tok_step hi.ok (by omega : now2 ≤ now2 + (d : Int))).2
        have a1 := hi.a1
        have t0 := hi.t0
        have l0 := hi.le
        have l1 := (tok_range (now := now2) hi.ok).1
        have l2 := hi.ok.2.2.2.2.1
        have l3 := hi.ok.2.2.2.1
        have l4 := hi.ok.2.2.2.2.2.2.1
        have l5 := hi.ok.2.2.2.2.2.2.2
        have l6 := hi.ok.1
        have l7 := hi.r1
        generalize (takeL r b v2 t2 (now2 + (d : Int)) n).1 = lv at C3 s1 s4 s5 hok2
        generalize hlst : lastL t2 (now2 + (d : Int)) = l at C3 s1 s6 hok2
        have HS1 := Lib.hid s1
        have HK := Lib.hid h60
        clear hx hkg So hlt h60 hi hk60 hst hokk hlst hok2 s1
        have hbB0 : Hid (b0 < w.heap.size) := Lib.hid hbB
        have hbne : Hid (∀ g, w.heap.size ≤ g → b0 ≠ g) := Lib.hid (fun g hg => by omega)
        clear hbB
        by_cases c1 : t2 < now2 + (d : Int)
        · have q3 : decide (t2 < now2 + (d : Int)) = true := decide_eq_true c1
          by_cases c2 : now2 < t2
          · have q4 : decide (now2 < t2) = true := decide_eq_true c2
            have ea : addL r t2 now2 (now2 + (d : Int)) = r * (now2 + (d : Int) - t2) := by unfold addL; rw [if_pos c1, if_pos c2]
            rw [ea] at HS1 s3 hal haz
            have w3 : wrap64 (now2 + (d : Int) - t2) = now2 + (d : Int) - t2 := wrap64_id _ (by omega) (by omega)
            have w4 : wrap64 (r * (now2 + (d : Int) - t2)) = r * (now2 + (d : Int) - t2) := wrap64_id _ (by omega) (by omega)
            have w5 : wrap64 (ad2 + r * (now2 + (d : Int) - t2)) = ad2 + r * (now2 + (d : Int) - t2) := wrap64_id _ (by omega) (by omega)
            clear ea
            have Sn_wr : Hid (b0 < wr.heap.size ∧ wr.cell? ⟨b0, o + k * 2 + 1, none⟩ = some (.int .i64 n)) := Lib.hid ⟨by have := B_wr.out.size; have := hbB0.out; omega, kn⟩
            have dt0 := Mt_wr.out.cell 0 rfl
            have dt1 := Mt_wr.out.cell 1 rfl
            have dt2 := Mt_wr.out.cell 2 rfl
            have dt3 := Mt_wr.out.cell 3 rfl
            go_upto_region 15 with fail
            clear dt0 dt1 dt2 dt3 kd kn
            obtain ⟨dw1, hdw1⟩ : ∃ dw1, dw1 = World.drew wr := ⟨_, rfl⟩
            have hbD : Below wr.heap.size wr dw1 := by rw [hdw1]; exact (Below.refl _ _).drew
            have B_dw1 : Hid (Below w.heap.size w dw1) := Lib.hid (stepB B_wr.out hbD)
            have Mt_dw1 : Hid (BK 23 dw1 (w.heap.size) [.int .i64 r, .int .i64 b, .int .i64 v2, .int .i64 t2]) := Lib.hid (Mt_wr.out.step hbD)
            have Sn_dw1 : Hid (b0 < dw1.heap.size ∧ dw1.cell? ⟨b0, o + k * 2 + 1, none⟩ = some (.int .i64 n)) := Lib.hid (⟨Nat.lt_of_lt_of_le Sn_wr.out.1 hbD.size, (hbD.cell (p := ⟨b0, o + k * 2 + 1, none⟩) Sn_wr.out.1).trans Sn_wr.out.2⟩)
            clear B_wr Mt_wr Sn_wr
            have hbd : (fun w' => BK 23 w' (w.heap.size) [.int .i64 r, .int .i64 b, .int .i64 v2, .int .i64 t2] ∧ b0 < w'.heap.size ∧ w'.cell? ⟨b0, o + k * 2 + 1, none⟩ = some (.int .i64 n)) (World.drew wr) := by rw [← hdw1]; exact ⟨Mt_dw1.out, Sn_dw1.out⟩
            have hSD : (fun w' => BK 23 w' (w.heap.size) [.int .i64 r, .int .i64 b, .int .i64 v2, .int .i64 t2] ∧ b0 < w'.heap.size ∧ w'.cell? ⟨b0, o + k * 2 + 1, none⟩ = some (.int .i64 n)) dw1 := ⟨Mt_dw1.out, Sn_dw1.out⟩
            have HWD := Lib.hid hdw1
            clear hdw1 hbD
            refine wp_region_held_drew (S := fun w' => BK 23 w' (w.heap.size) [.int .i64 r, .int .i64 b, .int .i64 v2, .int .i64 t2] ∧ b0 < w'.heap.size ∧ w'.cell? ⟨b0, o + k * 2 + 1, none⟩ = some (.int .i64 n)) (by kernel_rfl) hbd (fun hHeld => ?_)
            rw [← HWD.out]
            clear hHeld
            have hHeld := hSD
            clear hSD hbd HWD
            refine wpAnyH_take (i := 0) (v := .agg [.int .i64 r, .int .i64 b, .int .i64 v2, .int .i64 t2].toArray) (get_ops _ _ _ rfl) (by kernel_rfl) (by kernel_rfl) (by kernel_rfl) (fun _ _ _ h => h) (Or.inl ⟨by rfl, fun wS hSw => by (try dsimp only at hSw); exact exec_load 23 _ rfl ⟨(w.heap.size), 0, none⟩ (by go_simp) _ (run_load_all hSw.1 Try.underlying23 rfl infoB4)⟩) hHeld ?_
            try simp only [Act.put, List.setIfInBounds_toArray, List.set_cons_zero, List.set_cons_succ]
            refine wpAnyH_take (i := 1) (v := .int .i64 ((now2 + (d : Int)))) (get_ops _ _ _ rfl) (by kernel_rfl) (by kernel_rfl) (by kernel_rfl) (fun _ _ _ h => h) (Or.inl ⟨by rfl, fun wS hSw => by (try dsimp only at hSw); go_simp⟩) hHeld ?_
            try simp only [Act.put, List.setIfInBounds_toArray, List.set_cons_zero, List.set_cons_succ]
            refine wpAnyH_take (i := 2) (v := .slice (some ⟨b0, o, none⟩) X.length c) (get_ops _ _ _ rfl) (by kernel_rfl) (by kernel_rfl) (by kernel_rfl) (fun _ _ _ h => h) (Or.inl ⟨by rfl, fun wS hSw => by (try dsimp only at hSw); go_simp⟩) hHeld ?_
            try simp only [Act.put, List.setIfInBounds_toArray, List.set_cons_zero, List.set_cons_succ]
            refine wpAnyH_take (i := 3) (v := .int .i64 ((k : Int))) (get_ops _ _ _ rfl) (by kernel_rfl) (by kernel_rfl) (by kernel_rfl) (fun _ _ _ h => h) (Or.inl ⟨by rfl, fun wS hSw => by (try dsimp only at hSw); go_simp⟩) hHeld ?_
            try simp only [Act.put, List.setIfInBounds_toArray, List.set_cons_zero, List.set_cons_succ]
            refine wpAnyH_take (i := 4) (v := .pointer (some ⟨b0, o + k * 2, none⟩)) (get_ops _ _ _ rfl) (by kernel_rfl) (by kernel_rfl) (by kernel_rfl) (fun _ _ _ h => h) (Or.inl ⟨by rfl, fun wS hSw => by (try dsimp only at hSw); go_simp⟩) hHeld ?_
            try simp only [Act.put, List.setIfInBounds_toArray, List.set_cons_zero, List.set_cons_succ]
            refine wpAnyH_take (i := 5) (v := .pointer (some ⟨b0, o + k * 2 + 1, none⟩)) (get_ops _ _ _ rfl) (by kernel_rfl) (by kernel_rfl) (by kernel_rfl) (fun _ _ _ h => h) (Or.inl ⟨by rfl, fun wS hSw => by (try dsimp only at hSw); go_simp⟩) hHeld ?_
            try simp only [Act.put, List.setIfInBounds_toArray, List.set_cons_zero, List.set_cons_succ]
            refine wpAnyH_take (i := 6) (v := .int .i64 n) (get_ops _ _ _ rfl) (by kernel_rfl) (by kernel_rfl) (by kernel_rfl) (fun _ _ _ h => h) (Or.inl ⟨by rfl, fun wS hSw => by (try dsimp only at hSw); have cS : wS.cell? ⟨b0, o + k * 2 + 1, none⟩ = some (.int .i64 n) := hSw.2.2; clear hSw; go_simp⟩) hHeld ?_
            try simp only [Act.put, List.setIfInBounds_toArray, List.set_cons_zero, List.set_cons_succ]
            refine wpAnyH_ready (rs := [7, 11]) (by kernel_rfl) (by simp) ?_
            refine (AllReadyH.cons (get_ops _ _ _ rfl) (fun K hK => ?_) (AllReadyH.cons (get_ops _ _ _ rfl) (fun K hK => ?_) AllReadyH.nil))
            · go_simp
              go_at_call 13
              refine (C3.out dw1).mono ?_
              rintro e w2 ⟨rfl, hb⟩
              have B_w2 : Hid (Below w.heap.size w w2) := Lib.hid (stepB B_dw1.out hb)
              have Mt_w2 : Hid (BK 23 w2 (w.heap.size) [.int .i64 r, .int .i64 b, .int .i64 v2, .int .i64 t2]) := Lib.hid (Mt_dw1.out.step hb)
              have Sn_w2 : Hid (b0 < w2.heap.size ∧ w2.cell? ⟨b0, o + k * 2 + 1, none⟩ = some (.int .i64 n)) := Lib.hid (⟨Nat.lt_of_lt_of_le Sn_dw1.out.1 hb.size, (hb.cell (p := ⟨b0, o + k * 2 + 1, none⟩) Sn_dw1.out.1).trans Sn_dw1.out.2⟩)
              clear B_dw1 Mt_dw1 Sn_dw1
              clear hHeld hb
              go_wp2_with fail
              refine hK.out _ _ ⟨Mt_w2.out, Sn_w2.out⟩ (fun hHeld => ?_)
              clear hK K
              try simp only [Act.put, List.setIfInBounds_toArray, List.set_cons_zero, List.set_cons_succ]
              refine wpAnyH_take (i := 8) (v := .tuple #[.agg [.int .i64 r, .int .i64 b, .int .i64 lv, .int .i64 l].toArray, .bool ok]) (get_ops _ _ _ rfl) (by kernel_rfl) (by kernel_rfl) (by kernel_rfl) (fun _ _ _ h => h) (Or.inl ⟨by rfl, fun wS hSw => by (try dsimp only at hSw); go_simp⟩) hHeld ?_
              try simp only [Act.put, List.setIfInBounds_toArray, List.set_cons_zero, List.set_cons_succ]
              refine wpAnyH_take (i := 9) (v := .agg [.int .i64 r, .int .i64 b, .int .i64 lv, .int .i64 l].toArray) (get_ops _ _ _ rfl) (by kernel_rfl) (by kernel_rfl) (by kernel_rfl) (fun _ _ _ h => h) (Or.inl ⟨by rfl, fun wS hSw => by (try dsimp only at hSw); go_simp⟩) hHeld ?_
              try simp only [Act.put, List.setIfInBounds_toArray, List.set_cons_zero, List.set_cons_succ]
              refine wpAnyH_take (i := 10) (v := .bool ok) (get_ops _ _ _ rfl) (by kernel_rfl) (by kernel_rfl) (by kernel_rfl) (fun _ _ _ h => h) (Or.inl ⟨by rfl, fun wS hSw => by (try dsimp only at hSw); go_simp⟩) hHeld ?_
              try simp only [Act.put, List.setIfInBounds_toArray, List.set_cons_zero, List.set_cons_succ]
              refine wpAnyH_ready (rs := [11]) (by kernel_rfl) (by simp) ?_
              refine (AllReadyH.cons (get_ops _ _ _ rfl) (fun K hK => ?_) AllReadyH.nil)
              go_simp
              obtain ⟨w3, hw3⟩ : ∃ w3, w3 = w2.alloc (.cells [.int .i64 0, .int .i64 0, .int .i64 0, .int .i64 0].toArray 23) := ⟨_, rfl⟩
              have hb : Below w2.heap.size w2 w3 := by rw [hw3]; exact below_new _ _
              have hN : BK 23 w3 (w2.heap.size) [.int .i64 0, .int .i64 0, .int .i64 0, .int .i64 0] := by rw [hw3]; exact BK.new _ _ _
              have Lt_c : Hid (w.heap.size < w2.heap.size) := Lib.hid Mt_w2.out.lt
              have Zc : Hid (w.heap.size ≤ w2.heap.size) := Lib.hid B_w2.out.size
              have B_w3 : Hid (Below w.heap.size w w3) := Lib.hid (stepB B_w2.out hb)
              have Mt_w3 : Hid (BK 23 w3 (w.heap.size) [.int .i64 r, .int .i64 b, .int .i64 v2, .int .i64 t2]) := Lib.hid (Mt_w2.out.step hb)
              have Sn_w3 : Hid (b0 < w3.heap.size ∧ w3.cell? ⟨b0, o + k * 2 + 1, none⟩ = some (.int .i64 n)) := Lib.hid (⟨Nat.lt_of_lt_of_le Sn_w2.out.1 hb.size, (hb.cell (p := ⟨b0, o + k * 2 + 1, none⟩) Sn_w2.out.1).trans Sn_w2.out.2⟩)
              clear B_w2 Mt_w2 Sn_w2
              have Mc_w3 := Lib.hid hN
              try rw [← hw3]
              clear hHeld hb hN hw3
              refine hK.out _ _ ⟨Mt_w3.out, Sn_w3.out⟩ (fun hHeld => ?_)
              clear hK K
              try simp only [Act.put, List.setIfInBounds_toArray, List.set_cons_zero, List.set_cons_succ]
              refine wpAnyH_ready (rs := [12]) (by kernel_rfl) (by simp) ?_
              refine (AllReadyH.cons (get_ops _ _ _ rfl) (fun K hK => ?_) AllReadyH.nil)
              refine wp_store_all 23 _ _ rfl rfl (w2.heap.size) (by go_simp) [.int .i64 r, .int .i64 b, .int .i64 lv, .int .i64 l] (by go_simp) 23 [.int .i64 0, .int .i64 0, .int .i64 0, .int .i64 0] Mc_w3.out infoB4 rfl (all_one rfl) ?_
              intro w4 hM hP
              have Mc_w4 : Hid (BK 23 w4 (w2.heap.size) [.int .i64 r, .int .i64 b, .int .i64 lv, .int .i64 l]) := Lib.hid hM
              have B_w4 : Hid (Below w.heap.size w w4) := Lib.hid (hP.below B_w3.out Zc.out)
              have Mt_w4 : Hid (BK 23 w4 (w.heap.size) [.int .i64 r, .int .i64 b, .int .i64 v2, .int .i64 t2]) := Lib.hid (hP.other Mt_w3.out (Nat.ne_of_lt Lt_c.out))
              have Sn_w4 : Hid (b0 < w4.heap.size ∧ w4.cell? ⟨b0, o + k * 2 + 1, none⟩ = some (.int .i64 n)) := Lib.hid (⟨by rw [hP.size]; exact Sn_w3.out.1, (hP.cell (p := ⟨b0, o + k * 2 + 1, none⟩) (hbne.out _ Zc.out)).trans Sn_w3.out.2⟩)
              clear B_w3 Mt_w3 Mc_w3 Sn_w3 hM hP hHeld
              refine hK.out _ _ ⟨Mt_w4.out, Sn_w4.out⟩ (fun hHeld => ?_)
              clear hK K
              try simp only [Act.put, List.setIfInBounds_toArray, List.set_cons_zero, List.set_cons_succ]
              refine wpAnyH_take (i := 13) (v := .bool ok) (get_ops _ _ _ rfl) (by kernel_rfl) (by kernel_rfl) (by kernel_rfl) (fun _ _ _ h => h) (Or.inl ⟨by rfl, fun wS hSw => by (try dsimp only at hSw); go_simp⟩) hHeld ?_
              try simp only [Act.put, List.setIfInBounds_toArray, List.set_cons_zero, List.set_cons_succ]
              refine wpAnyH_done (by kernel_rfl) ?_ _
              have dt0 := Mt_w4.out.cell 0 rfl
              have dt1 := Mt_w4.out.cell 1 rfl
              have dt2 := Mt_w4.out.cell 2 rfl
              have dt3 := Mt_w4.out.cell 3 rfl
              have dc0 := Mc_w4.out.cell 0 rfl
              have dc1 := Mc_w4.out.cell 1 rfl
              have dc2 := Mc_w4.out.cell 2 rfl
              have dc3 := Mc_w4.out.cell 3 rfl
              have cn := Sn_w4.out.2
              cases ok with
              | false =>
                have f1 := HS1.out
                rw [if_neg (by simp)] at f1
                have f3 := s3
                rw [if_neg (by simp)] at f3
                have g3 : decide (ad2 + r * (now2 + (d : Int) - t2) < taken) = false := decide_eq_false (by omega)
                have g4 : decide (lv < 0) = false := decide_eq_false (by omega)
                have g5 : decide (b < lv) = false := decide_eq_false (by omega)
                have g6 : decide (l < now2 + (d : Int)) = false := decide_eq_false (by omega)
                have HF1 := Lib.hid f1
                clear f1 f3 s2 s3 s4 s5 s6
                go_wp2_with first | (refine wpList_store_all (by rfl) 23 (.tmp 3) (.tmp 130) rfl rfl (w.heap.size) rfl [.int .i64 r, .int .i64 b, .int .i64 lv, .int .i64 l] rfl 23 [.int .i64 r, .int .i64 b, .int .i64 v2, .int .i64 t2] Mt_w4.out infoB4 rfl (all_one rfl) ?_; intro w5 hM hP; have Mt_w5 : Hid (BK 23 w5 (w.heap.size) [.int .i64 r, .int .i64 b, .int .i64 lv, .int .i64 l]) := Lib.hid hM; have B_w5 : Hid (Below w.heap.size w w5) := Lib.hid (hP.below B_w4.out Zt.out); have Mc_w5 : Hid (BK 23 w5 (w2.heap.size) [.int .i64 r, .int .i64 b, .int .i64 lv, .int .i64 l]) := Lib.hid (hP.other Mc_w4.out (Nat.ne_of_gt Lt_c.out)); have Sn_w5 : Hid (b0 < w5.heap.size ∧ w5.cell? ⟨b0, o + k * 2 + 1, none⟩ = some (.int .i64 n)) := Lib.hid (⟨by rw [hP.size]; exact Sn_w4.out.1, (hP.cell (p := ⟨b0, o + k * 2 + 1, none⟩) (hbne.out _ Zt.out)).trans Sn_w4.out.2⟩); clear B_w4 Mt_w4 Mc_w4 Sn_w4 hM hP dt0 dt1 dt2 dt3 dc0 dc1 dc2 dc3 cn)
                go_roundg g
                case measure => omega
                case rel => exact ⟨k + 1, lv, l, now2 + (d : Int), _, _, by have := HG.out; omega, by first | rfl | exact nxt k (by have := HK.out; omega), rfl, rfl, rfl, ⟨by have := HK.out; omega, HF1.out⟩, Mt_w5.out, B_w5.out⟩
              | true =>
                have f1 := HS1.out
                rw [if_pos (by simp)] at f1
                have f3 := s3
                rw [if_pos (by simp)] at f3
                have f2 := s2 rfl
                have g1 : wrap64 (taken + n) = taken + n := wrap64_id _ (by omega) (by omega)
                have g2 : decide (n < 0) = false := decide_eq_false (by omega)
                have g3 : decide (ad2 + r * (now2 + (d : Int) - t2) < taken + n) = false := decide_eq_false (by omega)
                have g4 : decide (lv < 0) = false := decide_eq_false (by omega)
                have g5 : decide (b < lv) = false := decide_eq_false (by omega)
                have g6 : decide (l < now2 + (d : Int)) = false := decide_eq_false (by omega)
                have HF1 := Lib.hid f1
                clear f1 f3 s2 s3 s4 s5 s6 f2
                go_wp2_with first | (refine wpList_store_all (by rfl) 23 (.tmp 3) (.tmp 130) rfl rfl (w.heap.size) rfl [.int .i64 r, .int .i64 b, .int .i64 lv, .int .i64 l] rfl 23 [.int .i64 r, .int .i64 b, .int .i64 v2, .int .i64 t2] Mt_w4.out infoB4 rfl (all_one rfl) ?_; intro w5 hM hP; have Mt_w5 : Hid (BK 23 w5 (w.heap.size) [.int .i64 r, .int .i64 b, .int .i64 lv, .int .i64 l]) := Lib.hid hM; have B_w5 : Hid (Below w.heap.size w w5) := Lib.hid (hP.below B_w4.out Zt.out); have Mc_w5 : Hid (BK 23 w5 (w2.heap.size) [.int .i64 r, .int .i64 b, .int .i64 lv, .int .i64 l]) := Lib.hid (hP.other Mc_w4.out (Nat.ne_of_gt Lt_c.out)); have Sn_w5 : Hid (b0 < w5.heap.size ∧ w5.cell? ⟨b0, o + k * 2 + 1, none⟩ = some (.int .i64 n)) := Lib.hid (⟨by rw [hP.size]; exact Sn_w4.out.1, (hP.cell (p := ⟨b0, o + k * 2 + 1, none⟩) (hbne.out _ Zt.out)).trans Sn_w4.out.2⟩); clear B_w4 Mt_w4 Mc_w4 Sn_w4 hM hP dt0 dt1 dt2 dt3 dc0 dc1 dc2 dc3 cn)
                go_roundg g
                case measure => omega
                case rel => exact ⟨k + 1, lv, l, now2 + (d : Int), _, _, by have := HG.out; omega, by first | rfl | exact nxt k (by have := HK.out; omega), rfl, rfl, rfl, ⟨by have := HK.out; omega, HF1.out⟩, Mt_w5.out, B_w5.out⟩
            · go_simp
              obtain ⟨w2, hw2⟩ : ∃ w2, w2 = dw1.alloc (.cells [.int .i64 0, .int .i64 0, .int .i64 0, .int .i64 0].toArray 23) := ⟨_, rfl⟩
              have hb : Below dw1.heap.size dw1 w2 := by rw [hw2]; exact below_new _ _
              have hN : BK 23 w2 (dw1.heap.size) [.int .i64 0, .int .i64 0, .int .i64 0, .int .i64 0] := by rw [hw2]; exact BK.new _ _ _
              have Lt_c : Hid (w.heap.size < dw1.heap.size) := Lib.hid Mt_dw1.out.lt
              have Zc : Hid (w.heap.size ≤ dw1.heap.size) := Lib.hid B_dw1.out.size
              have B_w2 : Hid (Below w.heap.size w w2) := Lib.hid (stepB B_dw1.out hb)
              have Mt_w2 : Hid (BK 23 w2 (w.heap.size) [.int .i64 r, .int .i64 b, .int .i64 v2, .int .i64 t2]) := Lib.hid (Mt_dw1.out.step hb)
              have Sn_w2 : Hid (b0 < w2.heap.size ∧ w2.cell? ⟨b0, o + k * 2 + 1, none⟩ = some (.int .i64 n)) := Lib.hid (⟨Nat.lt_of_lt_of_le Sn_dw1.out.1 hb.size, (hb.cell (p := ⟨b0, o + k * 2 + 1, none⟩) Sn_dw1.out.1).trans Sn_dw1.out.2⟩)
              clear B_dw1 Mt_dw1 Sn_dw1
              have Mc_w2 := Lib.hid hN
              try rw [← hw2]
              clear hHeld hb hN hw2
              refine hK.out _ _ ⟨Mt_w2.out, Sn_w2.out⟩ (fun hHeld => ?_)
              clear hK K
              try simp only [Act.put, List.setIfInBounds_toArray, List.set_cons_zero, List.set_cons_succ]
              refine wpAnyH_ready (rs := [7]) (by kernel_rfl) (by simp) ?_
              refine (AllReadyH.cons (get_ops _ _ _ rfl) (fun K hK => ?_) AllReadyH.nil)
              go_simp
              go_at_call 13
              refine (C3.out w2).mono ?_
              rintro e w3 ⟨rfl, hb⟩
              have B_w3 : Hid (Below w.heap.size w w3) := Lib.hid (stepB B_w2.out hb)
              have Mt_w3 : Hid (BK 23 w3 (w.heap.size) [.int .i64 r, .int .i64 b, .int .i64 v2, .int .i64 t2]) := Lib.hid (Mt_w2.out.step hb)
              have Mc_w3 : Hid (BK 23 w3 (dw1.heap.size) [.int .i64 0, .int .i64 0, .int .i64 0, .int .i64 0]) := Lib.hid (Mc_w2.out.step hb)
              have Sn_w3 : Hid (b0 < w3.heap.size ∧ w3.cell? ⟨b0, o + k * 2 + 1, none⟩ = some (.int .i64 n)) := Lib.hid (⟨Nat.lt_of_lt_of_le Sn_w2.out.1 hb.size, (hb.cell (p := ⟨b0, o + k * 2 + 1, none⟩) Sn_w2.out.1).trans Sn_w2.out.2⟩)
              clear B_w2 Mt_w2 Mc_w2 Sn_w2
              clear hHeld hb
              go_wp2_with fail
              refine hK.out _ _ ⟨Mt_w3.out, Sn_w3.out⟩ (fun hHeld => ?_)
              clear hK K
              try simp only [Act.put, List.setIfInBounds_toArray, List.set_cons_zero, List.set_cons_succ]
              refine wpAnyH_take (i := 8) (v := .tuple #[.agg [.int .i64 r, .int .i64 b, .int .i64 lv, .int .i64 l].toArray, .bool ok]) (get_ops _ _ _ rfl) (by kernel_rfl) (by kernel_rfl) (by kernel_rfl) (fun _ _ _ h => h) (Or.inl ⟨by rfl, fun wS hSw => by (try dsimp only at hSw); go_simp⟩) hHeld ?_
              try simp only [Act.put, List.setIfInBounds_toArray, List.set_cons_zero, List.set_cons_succ]
              refine wpAnyH_take (i := 9) (v := .agg [.int .i64 r, .int .i64 b, .int .i64 lv, .int .i64 l].toArray) (get_ops _ _ _ rfl) (by kernel_rfl) (by kernel_rfl) (by kernel_rfl) (fun _ _ _ h => h) (Or.inl ⟨by rfl, fun wS hSw => by (try dsimp only at hSw); go_simp⟩) hHeld ?_
              try simp only [Act.put, List.setIfInBounds_toArray, List.set_cons_zero, List.set_cons_succ]
              refine wpAnyH_take (i := 10) (v := .bool ok) (get_ops _ _ _ rfl) (by kernel_rfl) (by kernel_rfl) (by kernel_rfl) (fun _ _ _ h => h) (Or.inl ⟨by rfl, fun wS hSw => by (try dsimp only at hSw); go_simp⟩) hHeld ?_
              try simp only [Act.put, List.setIfInBounds_toArray, List.set_cons_zero, List.set_cons_succ]
              refine wpAnyH_ready (rs := [12]) (by kernel_rfl) (by simp) ?_
              refine (AllReadyH.cons (get_ops _ _ _ rfl) (fun K hK => ?_) AllReadyH.nil)
              refine wp_store_all 23 _ _ rfl rfl (dw1.heap.size) (by go_simp) [.int .i64 r, .int .i64 b, .int .i64 lv, .int .i64 l] (by go_simp) 23 [.int .i64 0, .int .i64 0, .int .i64 0, .int .i64 0] Mc_w3.out infoB4 rfl (all_one rfl) ?_
              intro w4 hM hP
              have Mc_w4 : Hid (BK 23 w4 (dw1.heap.size) [.int .i64 r, .int .i64 b, .int .i64 lv, .int .i64 l]) := Lib.hid hM
              have B_w4 : Hid (Below w.heap.size w w4) := Lib.hid (hP.below B_w3.out Zc.out)
              have Mt_w4 : Hid (BK 23 w4 (w.heap.size) [.int .i64 r, .int .i64 b, .int .i64 v2, .int .i64 t2]) := Lib.hid (hP.other Mt_w3.out (Nat.ne_of_lt Lt_c.out))
              have Sn_w4 : Hid (b0 < w4.heap.size ∧ w4.cell? ⟨b0, o + k * 2 + 1, none⟩ = some (.int .i64 n)) := Lib.hid (⟨by rw [hP.size]; exact Sn_w3.out.1, (hP.cell (p := ⟨b0, o + k * 2 + 1, none⟩) (hbne.out _ Zc.out)).trans Sn_w3.out.2⟩)
              clear B_w3 Mt_w3 Mc_w3 Sn_w3 hM hP hHeld
              refine hK.out _ _ ⟨Mt_w4.out, Sn_w4.out⟩ (fun hHeld => ?_)
              clear hK K
              try simp only [Act.put, List.setIfInBounds_toArray, List.set_cons_zero, List.set_cons_succ]
              refine wpAnyH_take (i := 13) (v := .bool ok) (get_ops _ _ _ rfl) (by kernel_rfl) (by kernel_rfl) (by kernel_rfl) (fun _ _ _ h => h) (Or.inl ⟨by rfl, fun wS hSw => by (try dsimp only at hSw); go_simp⟩) hHeld ?_
              try simp only [Act.put, List.setIfInBounds_toArray, List.set_cons_zero, List.set_cons_succ]
              refine wpAnyH_done (by kernel_rfl) ?_ _
              have dt0 := Mt_w4.out.cell 0 rfl
              have dt1 := Mt_w4.out.cell 1 rfl
              have dt2 := Mt_w4.out.cell 2 rfl
              have dt3 := Mt_w4.out.cell 3 rfl
              have dc0 := Mc_w4.out.cell 0 rfl
              have dc1 := Mc_w4.out.cell 1 rfl
              have dc2 := Mc_w4.out.cell 2 rfl
              have dc3 := Mc_w4.out.cell 3 rfl
              have cn := Sn_w4.out.2
              cases ok with
              | false =>
                have f1 := HS1.out
                rw [if_neg (by simp)] at f1
                have f3 := s3
                rw [if_neg (by simp)] at f3
                have g3 : decide (ad2 + r * (now2 + (d : Int) - t2) < taken) = false := decide_eq_false (by omega)
                have g4 : decide (lv < 0) = false := decide_eq_false (by omega)
                have g5 : decide (b < lv) = false := decide_eq_false (by omega)
                have g6 : decide (l < now2 + (d : Int)) = false := decide_eq_false (by omega)
                have HF1 := Lib.hid f1
                clear f1 f3 s2 s3 s4 s5 s6
                go_wp2_with first | (refine wpList_store_all (by rfl) 23 (.tmp 3) (.tmp 130) rfl rfl (w.heap.size) rfl [.int .i64 r, .int .i64 b, .int .i64 lv, .int .i64 l] rfl 23 [.int .i64 r, .int .i64 b, .int .i64 v2, .int .i64 t2] Mt_w4.out infoB4 rfl (all_one rfl) ?_; intro w5 hM hP; have Mt_w5 : Hid (BK 23 w5 (w.heap.size) [.int .i64 r, .int .i64 b, .int .i64 lv, .int .i64 l]) := Lib.hid hM; have B_w5 : Hid (Below w.heap.size w w5) := Lib.hid (hP.below B_w4.out Zt.out); have Mc_w5 : Hid (BK 23 w5 (dw1.heap.size) [.int .i64 r, .int .i64 b, .int .i64 lv, .int .i64 l]) := Lib.hid (hP.other Mc_w4.out (Nat.ne_of_gt Lt_c.out)); have Sn_w5 : Hid (b0 < w5.heap.size ∧ w5.cell? ⟨b0, o + k * 2 + 1, none⟩ = some (.int .i64 n)) := Lib.hid (⟨by rw [hP.size]; exact Sn_w4.out.1, (hP.cell (p := ⟨b0, o + k * 2 + 1, none⟩) (hbne.out _ Zt.out)).trans Sn_w4.out.2⟩); clear B_w4 Mt_w4 Mc_w4 Sn_w4 hM hP dt0 dt1 dt2 dt3 dc0 dc1 dc2 dc3 cn)
                go_roundg g
                case measure => omega
                case rel => exact ⟨k + 1, lv, l, now2 + (d : Int), _, _, by have := HG.out; omega, by first | rfl | exact nxt k (by have := HK.out; omega), rfl, rfl, rfl, ⟨by have := HK.out; omega, HF1.out⟩, Mt_w5.out, B_w5.out⟩
              | true =>
                have f1 := HS1.out
                rw [if_pos (by simp)] at f1
                have f3 := s3
                rw [if_pos (by simp)] at f3
                have f2 := s2 rfl
                have g1 : wrap64 (taken + n) = taken + n := wrap64_id _ (by omega) (by omega)
                have g2 : decide (n < 0) = false := decide_eq_false (by omega)
                have g3 : decide (ad2 + r * (now2 + (d : Int) - t2) < taken + n) = false := decide_eq_false (by omega)
                have g4 : decide (lv < 0) = false := decide_eq_false (by omega)
                have g5 : decide (b < lv) = false := decide_eq_false (by omega)
                have g6 : decide (l < now2 + (d : Int)) = false := decide_eq_false (by omega)
                have HF1 := Lib.hid f1
                clear f1 f3 s2 s3 s4 s5 s6 f2
                go_wp2_with first | (refine wpList_store_all (by rfl) 23 (.tmp 3) (.tmp 130) rfl rfl (w.heap.size) rfl [.int .i64 r, .int .i64 b, .int .i64 lv, .int .i64 l] rfl 23 [.int .i64 r, .int .i64 b, .int .i64 v2, .int .i64 t2] Mt_w4.out infoB4 rfl (all_one rfl) ?_; intro w5 hM hP; have Mt_w5 : Hid (BK 23 w5 (w.heap.size) [.int .i64 r, .int .i64 b, .int .i64 lv, .int .i64 l]) := Lib.hid hM; have B_w5 : Hid (Below w.heap.size w w5) := Lib.hid (hP.below B_w4.out Zt.out); have Mc_w5 : Hid (BK 23 w5 (dw1.heap.size) [.int .i64 r, .int .i64 b, .int .i64 lv, .int .i64 l]) := Lib.hid (hP.other Mc_w4.out (Nat.ne_of_gt Lt_c.out)); have Sn_w5 : Hid (b0 < w5.heap.size ∧ w5.cell? ⟨b0, o + k * 2 + 1, none⟩ = some (.int .i64 n)) := Lib.hid (⟨by rw [hP.size]; exact Sn_w4.out.1, (hP.cell (p := ⟨b0, o + k * 2 + 1, none⟩) (hbne.out _ Zt.out)).trans Sn_w4.out.2⟩); clear B_w4 Mt_w4 Mc_w4 Sn_w4 hM hP dt0 dt1 dt2 dt3 dc0 dc1 dc2 dc3 cn)
                go_roundg g
                case measure => omega
                case rel => exact ⟨k + 1, lv, l, now2 + (d : Int), _, _, by have := HG.out; omega, by first | rfl | exact nxt k (by have := HK.out; omega), rfl, rfl, rfl, ⟨by have := HK.out; omega, HF1.out⟩, Mt_w5.out, B_w5.out⟩
          · have q4 : decide (now2 < t2) = false := decide_eq_false c2
            have ea : addL r t2 now2 (now2 + (d : Int)) = r * (now2 + (d : Int) - now2) := by unfold addL; rw [if_pos c1, if_neg c2]
            rw [ea] at HS1 s3 hal haz
            have w3 : wrap64 (now2 + (d : Int) - now2) = now2 + (d : Int) - now2 := wrap64_id _ (by omega) (by omega)
            have w4 : wrap64 (r * (now2 + (d : Int) - now2)) = r * (now2 + (d : Int) - now2) := wrap64_id _ (by omega) (by omega)
            have w5 : wrap64 (ad2 + r * (now2 + (d : Int) - now2)) = ad2 + r * (now2 + (d : Int) - now2) := wrap64_id _ (by omega) (by omega)
            clear ea
            have Sn_wr : Hid (b0 < wr.heap.size ∧ wr.cell? ⟨b0, o + k * 2 + 1, none⟩ = some (.int .i64 n)) := Lib.hid ⟨by have := B_wr.out.size; have := hbB0.out; omega, kn⟩
            have dt0 := Mt_wr.out.cell 0 rfl
            have dt1 := Mt_wr.out.cell 1 rfl
            have dt2 := Mt_wr.out.cell 2 rfl
            have dt3 := Mt_wr.out.cell 3 rfl
            go_upto_region 15 with fail
            clear dt0 dt1 dt2 dt3 kd kn
            obtain ⟨dw1, hdw1⟩ : ∃ dw1, dw1 = World.drew wr := ⟨_, rfl⟩
            have hbD : Below wr.heap.size wr dw1 := by rw [hdw1]; exact (Below.refl _ _).drew
            have B_dw1 : Hid (Below w.heap.size w dw1) := Lib.hid (stepB B_wr.out hbD)
            have Mt_dw1 : Hid (BK 23 dw1 (w.heap.size) [.int .i64 r, .int .i64 b, .int .i64 v2, .int .i64 t2]) := Lib.hid (Mt_wr.out.step hbD)
            have Sn_dw1 : Hid (b0 < dw1.heap.size ∧ dw1.cell? ⟨b0, o + k * 2 + 1, none⟩ = some (.int .i64 n)) := Lib.hid (⟨Nat.lt_of_lt_of_le Sn_wr.out.1 hbD.size, (hbD.cell (p := ⟨b0, o + k * 2 + 1, none⟩) Sn_wr.out.1).trans Sn_wr.out.2⟩)
            clear B_wr Mt_wr Sn_wr
            have hbd : (fun w' => BK 23 w' (w.heap.size) [.int .i64 r, .int .i64 b, .int .i64 v2, .int .i64 t2] ∧ b0 < w'.heap.size ∧ w'.cell? ⟨b0, o + k * 2 + 1, none⟩ = some (.int .i64 n)) (World.drew wr) := by rw [← hdw1]; exact ⟨Mt_dw1.out, Sn_dw1.out⟩
            have hSD : (fun w' => BK 23 w' (w.heap.size) [.int .i64 r, .int .i64 b, .int .i64 v2, .int .i64 t2] ∧ b0 < w'.heap.size ∧ w'.cell? ⟨b0, o + k * 2 + 1, none⟩ = some (.int .i64 n)) dw1 := ⟨Mt_dw1.out, Sn_dw1.out⟩
            have HWD := Lib.hid hdw1
            clear hdw1 hbD
            refine wp_region_held_drew (S := fun w' => BK 23 w' (w.heap.size) [.int .i64 r, .int .i64 b, .int .i64 v2, .int .i64 t2] ∧ b0 < w'.heap.size ∧ w'.cell? ⟨b0, o + k * 2 + 1, none⟩ = some (.int .i64 n)) (by kernel_rfl) hbd (fun hHeld => ?_)
            rw [← HWD.out]
            clear hHeld
            have hHeld := hSD
            clear hSD hbd HWD
            refine wpAnyH_take (i := 0) (v := .agg [.int .i64 r, .int .i64 b, .int .i64 v2, .int .i64 t2].toArray) (get_ops _ _ _ rfl) (by kernel_rfl) (by kernel_rfl) (by kernel_rfl) (fun _ _ _ h => h) (Or.inl ⟨by rfl, fun wS hSw => by (try dsimp only at hSw); exact exec_load 23 _ rfl ⟨(w.heap.size), 0, none⟩ (by go_simp) _ (run_load_all hSw.1 Try.underlying23 rfl infoB4)⟩) hHeld ?_
            try simp only [Act.put, List.setIfInBounds_toArray, List.set_cons_zero, List.set_cons_succ]
            refine wpAnyH_take (i := 1) (v := .int .i64 ((now2 + (d : Int)))) (get_ops _ _ _ rfl) (by kernel_rfl) (by kernel_rfl) (by kernel_rfl) (fun _ _ _ h => h) (Or.inl ⟨by rfl, fun wS hSw => by (try dsimp only at hSw); go_simp⟩) hHeld ?_
            try simp only [Act.put, List.setIfInBounds_toArray, List.set_cons_zero, List.set_cons_succ]
            refine wpAnyH_take (i := 2) (v := .slice (some ⟨b0, o, none⟩) X.length c) (get_ops _ _ _ rfl) (by kernel_rfl) (by kernel_rfl) (by kernel_rfl) (fun _ _ _ h => h) (Or.inl ⟨by rfl, fun wS hSw => by (try dsimp only at hSw); go_simp⟩) hHeld ?_
            try simp only [Act.put, List.setIfInBounds_toArray, List.set_cons_zero, List.set_cons_succ]
            refine wpAnyH_take (i := 3) (v := .int .i64 ((k : Int))) (get_ops _ _ _ rfl) (by kernel_rfl) (by kernel_rfl) (by kernel_rfl) (fun _ _ _ h => h) (Or.inl ⟨by rfl, fun wS hSw => by (try dsimp only at hSw); go_simp⟩) hHeld ?_
            try simp only [Act.put, List.setIfInBounds_toArray, List.set_cons_zero, List.set_cons_succ]
            refine wpAnyH_take (i := 4) (v := .pointer (some ⟨b0, o + k * 2, none⟩)) (get_ops _ _ _ rfl) (by kernel_rfl) (by kernel_rfl) (by kernel_rfl) (fun _ _ _ h => h) (Or.inl ⟨by rfl, fun wS hSw => by (try dsimp only at hSw); go_simp⟩) hHeld ?_
            try simp only [Act.put, List.setIfInBounds_toArray, List.set_cons_zero, List.set_cons_succ]
            refine wpAnyH_take (i := 5) (v := .pointer (some ⟨b0, o + k * 2 + 1, none⟩)) (get_ops _ _ _ rfl) (by kernel_rfl) (by kernel_rfl) (by kernel_rfl) (fun _ _ _ h => h) (Or.inl ⟨by rfl, fun wS hSw => by (try dsimp only at hSw); go_simp⟩) hHeld ?_
            try simp only [Act.put, List.setIfInBounds_toArray, List.set_cons_zero, List.set_cons_succ]
            refine wpAnyH_take (i := 6) (v := .int .i64 n) (get_ops _ _ _ rfl) (by kernel_rfl) (by kernel_rfl) (by kernel_rfl) (fun _ _ _ h => h) (Or.inl ⟨by rfl, fun wS hSw => by (try dsimp only at hSw); have cS : wS.cell? ⟨b0, o + k * 2 + 1, none⟩ = some (.int .i64 n) := hSw.2.2; clear hSw; go_simp⟩) hHeld ?_
            try simp only [Act.put, List.setIfInBounds_toArray, List.set_cons_zero, List.set_cons_succ]
            refine wpAnyH_ready (rs := [7, 11]) (by kernel_rfl) (by simp) ?_
            refine (AllReadyH.cons (get_ops _ _ _ rfl) (fun K hK => ?_) (AllReadyH.cons (get_ops _ _ _ rfl) (fun K hK => ?_) AllReadyH.nil))
            · go_simp
              go_at_call 13
              refine (C3.out dw1).mono ?_
              rintro e w2 ⟨rfl, hb⟩
              have B_w2 : Hid (Below w.heap.size w w2) := Lib.hid (stepB B_dw1.out hb)
              have Mt_w2 : Hid (BK 23 w2 (w.heap.size) [.int .i64 r, .int .i64 b, .int .i64 v2, .int .i64 t2]) := Lib.hid (Mt_dw1.out.step hb)
              have Sn_w2 : Hid (b0 < w2.heap.size ∧ w2.cell? ⟨b0, o + k * 2 + 1, none⟩ = some (.int .i64 n)) := Lib.hid (⟨Nat.lt_of_lt_of_le Sn_dw1.out.1 hb.size, (hb.cell (p := ⟨b0, o + k * 2 + 1, none⟩) Sn_dw1.out.1).trans Sn_dw1.out.2⟩)
              clear B_dw1 Mt_dw1 Sn_dw1
              clear hHeld hb
              go_wp2_with fail
              refine hK.out _ _ ⟨Mt_w2.out, Sn_w2.out⟩ (fun hHeld => ?_)
              clear hK K
              try simp only [Act.put, List.setIfInBounds_toArray, List.set_cons_zero, List.set_cons_succ]
              refine wpAnyH_take (i := 8) (v := .tuple #[.agg [.int .i64 r, .int .i64 b, .int .i64 lv, .int .i64 l].toArray, .bool ok]) (get_ops _ _ _ rfl) (by kernel_rfl) (by kernel_rfl) (by kernel_rfl) (fun _ _ _ h => h) (Or.inl ⟨by rfl, fun wS hSw => by (try dsimp only at hSw); go_simp⟩) hHeld ?_
              try simp only [Act.put, List.setIfInBounds_toArray, List.set_cons_zero, List.set_cons_succ]
              refine wpAnyH_take (i := 9) (v := .agg [.int .i64 r, .int .i64 b, .int .i64 lv, .int .i64 l].toArray) (get_ops _ _ _ rfl) (by kernel_rfl) (by kernel_rfl) (by kernel_rfl) (fun _ _ _ h => h) (Or.inl ⟨by rfl, fun wS hSw => by (try dsimp only at hSw); go_simp⟩) hHeld ?_
              try simp only [Act.put, List.setIfInBounds_toArray, List.set_cons_zero, List.set_cons_succ]
              refine wpAnyH_take (i := 10) (v := .bool ok) (get_ops _ _ _ rfl) (by kernel_rfl) (by kernel_rfl) (by kernel_rfl) (fun _ _ _ h => h) (Or.inl ⟨by rfl, fun wS hSw => by (try dsimp only at hSw); go_simp⟩) hHeld ?_
              try simp only [Act.put, List.setIfInBounds_toArray, List.set_cons_zero, List.set_cons_succ]
              refine wpAnyH_ready (rs := [11]) (by kernel_rfl) (by simp) ?_
              refine (AllReadyH.cons (get_ops _ _ _ rfl) (fun K hK => ?_) AllReadyH.nil)
              go_simp
              obtain ⟨w3, hw3⟩ : ∃ w3, w3 = w2.alloc (.cells [.int .i64 0, .int .i64 0, .int .i64 0, .int .i64 0].toArray 23) := ⟨_, rfl⟩
              have hb : Below w2.heap.size w2 w3 := by rw [hw3]; exact below_new _ _
              have hN : BK 23 w3 (w2.heap.size) [.int .i64 0, .int .i64 0, .int .i64 0, .int .i64 0] := by rw [hw3]; exact BK.new _ _ _
              have Lt_c : Hid (w.heap.size < w2.heap.size) := Lib.hid Mt_w2.out.lt
              have Zc : Hid (w.heap.size ≤ w2.heap.size) := Lib.hid B_w2.out.size
              have B_w3 : Hid (Below w.heap.size w w3) := Lib.hid (stepB B_w2.out hb)
              have Mt_w3 : Hid (BK 23 w3 (w.heap.size) [.int .i64 r, .int .i64 b, .int .i64 v2, .int .i64 t2]) := Lib.hid (Mt_w2.out.step hb)
              have Sn_w3 : Hid (b0 < w3.heap.size ∧ w3.cell? ⟨b0, o + k * 2 + 1, none⟩ = some (.int .i64 n)) := Lib.hid (⟨Nat.lt_of_lt_of_le Sn_w2.out.1 hb.size, (hb.cell (p := ⟨b0, o + k * 2 + 1, none⟩) Sn_w2.out.1).trans Sn_w2.out.2⟩)
              clear B_w2 Mt_w2 Sn_w2
              have Mc_w3 := Lib.hid hN
              try rw [← hw3]
              clear hHeld hb hN hw3
              refine hK.out _ _ ⟨Mt_w3.out, Sn_w3.out⟩ (fun hHeld => ?_)
              clear hK K
              try simp only [Act.put, List.setIfInBounds_toArray, List.set_cons_zero, List.set_cons_succ]
              refine wpAnyH_ready (rs := [12]) (by kernel_rfl) (by simp) ?_
              refine (AllReadyH.cons (get_ops _ _ _ rfl) (fun K hK => ?_) AllReadyH.nil)
              refine wp_store_all 23 _ _ rfl rfl (w2.heap.size) (by go_simp) [.int .i64 r, .int .i64 b, .int .i64 lv, .int .i64 l] (by go_simp) 23 [.int .i64 0, .int .i64 0, .int .i64 0, .int .i64 0] Mc_w3.out infoB4 rfl (all_one rfl) ?_
              intro w4 hM hP
              have Mc_w4 : Hid (BK 23 w4 (w2.heap.size) [.int .i64 r, .int .i64 b, .int .i64 lv, .int .i64 l]) := Lib.hid hM
              have B_w4 : Hid (Below w.heap.size w w4) := Lib.hid (hP.below B_w3.out Zc.out)
              have Mt_w4 : Hid (BK 23 w4 (w.heap.size) [.int .i64 r, .int .i64 b, .int .i64 v2, .int .i64 t2]) := Lib.hid (hP.other Mt_w3.out (Nat.ne_of_lt Lt_c.out))
              have Sn_w4 : Hid (b0 < w4.heap.size ∧ w4.cell? ⟨b0, o + k * 2 + 1, none⟩ = some (.int .i64 n)) := Lib.hid (⟨by rw [hP.size]; exact Sn_w3.out.1, (hP.cell (p := ⟨b0, o + k * 2 + 1, none⟩) (hbne.out _ Zc.out)).trans Sn_w3.out.2⟩)
              clear B_w3 Mt_w3 Mc_w3 Sn_w3 hM hP hHeld
              refine hK.out _ _ ⟨Mt_w4.out, Sn_w4.out⟩ (fun hHeld => ?_)
              clear hK K
              try simp only [Act.put, List.setIfInBounds_toArray, List.set_cons_zero, List.set_cons_succ]
              refine wpAnyH_take (i := 13) (v := .bool ok) (get_ops _ _ _ rfl) (by kernel_rfl) (by kernel_rfl) (by kernel_rfl) (fun _ _ _ h => h) (Or.inl ⟨by rfl, fun wS hSw => by (try dsimp only at hSw); go_simp⟩) hHeld ?_
              try simp only [Act.put, List.setIfInBounds_toArray, List.set_cons_zero, List.set_cons_succ]
              refine wpAnyH_done (by kernel_rfl) ?_ _
              have dt0 := Mt_w4.out.cell 0 rfl
              have dt1 := Mt_w4.out.cell 1 rfl
              have dt2 := Mt_w4.out.cell 2 rfl
              have dt3 := Mt_w4.out.cell 3 rfl
              have dc0 := Mc_w4.out.cell 0 rfl
              have dc1 := Mc_w4.out.cell 1 rfl
              have dc2 := Mc_w4.out.cell 2 rfl
              have dc3 := Mc_w4.out.cell 3 rfl
              have cn := Sn_w4.out.2
              cases ok with
              | false =>
                have f1 := HS1.out
                rw [if_neg (by simp)] at f1
                have f3 := s3
                rw [if_neg (by simp)] at f3
                have g3 : decide (ad2 + r * (now2 + (d : Int) - now2) < taken) = false := decide_eq_false (by omega)
                have g4 : decide (lv < 0) = false := decide_eq_false (by omega)
                have g5 : decide (b < lv) = false := decide_eq_false (by omega)
                have g6 : decide (l < now2 + (d : Int)) = false := decide_eq_false (by omega)
                have HF1 := Lib.hid f1
                clear f1 f3 s2 s3 s4 s5 s6
                go_wp2_with first | (refine wpList_store_all (by rfl) 23 (.tmp 3) (.tmp 130) rfl rfl (w.heap.size) rfl [.int .i64 r, .int .i64 b, .int .i64 lv, .int .i64 l] rfl 23 [.int .i64 r, .int .i64 b, .int .i64 v2, .int .i64 t2] Mt_w4.out infoB4 rfl (all_one rfl) ?_; intro w5 hM hP; have Mt_w5 : Hid (BK 23 w5 (w.heap.size) [.int .i64 r, .int .i64 b, .int .i64 lv, .int .i64 l]) := Lib.hid hM; have B_w5 : Hid (Below w.heap.size w w5) := Lib.hid (hP.below B_w4.out Zt.out); have Mc_w5 : Hid (BK 23 w5 (w2.heap.size) [.int .i64 r, .int .i64 b, .int .i64 lv, .int .i64 l]) := Lib.hid (hP.other Mc_w4.out (Nat.ne_of_gt Lt_c.out)); have Sn_w5 : Hid (b0 < w5.heap.size ∧ w5.cell? ⟨b0, o + k * 2 + 1, none⟩ = some (.int .i64 n)) := Lib.hid (⟨by rw [hP.size]; exact Sn_w4.out.1, (hP.cell (p := ⟨b0, o + k * 2 + 1, none⟩) (hbne.out _ Zt.out)).trans Sn_w4.out.2⟩); clear B_w4 Mt_w4 Mc_w4 Sn_w4 hM hP dt0 dt1 dt2 dt3 dc0 dc1 dc2 dc3 cn)
                go_roundg g
                case measure => omega
                case rel => exact ⟨k + 1, lv, l, now2 + (d : Int), _, _, by have := HG.out; omega, by first | rfl | exact nxt k (by have := HK.out; omega), rfl, rfl, rfl, ⟨by have := HK.out; omega, HF1.out⟩, Mt_w5.out, B_w5.out⟩
              | true =>
                have f1 := HS1.out
                rw [if_pos (by simp)] at f1
                have f3 := s3
                rw [if_pos (by simp)] at f3
                have f2 := s2 rfl
                have g1 : wrap64 (taken + n) = taken + n := wrap64_id _ (by omega) (by omega)
                have g2 : decide (n < 0) = false := decide_eq_false (by omega)
                have g3 : decide (ad2 + r * (now2 + (d : Int) - now2) < taken + n) = false := decide_eq_false (by omega)
                have g4 : decide (lv < 0) = false := decide_eq_false (by omega)
                have g5 : decide (b < lv) = false := decide_eq_false (by omega)
                have g6 : decide (l < now2 + (d : Int)) = false := decide_eq_false (by omega)
                have HF1 := Lib.hid f1
                clear f1 f3 s2 s3 s4 s5 s6 f2
                go_wp2_with first | (refine wpList_store_all (by rfl) 23 (.tmp 3) (.tmp 130) rfl rfl (w.heap.size) rfl [.int .i64 r, .int .i64 b, .int .i64 lv, .int .i64 l] rfl 23 [.int .i64 r, .int .i64 b, .int .i64 v2, .int .i64 t2] Mt_w4.out infoB4 rfl (all_one rfl) ?_; intro w5 hM hP; have Mt_w5 : Hid (BK 23 w5 (w.heap.size) [.int .i64 r, .int .i64 b, .int .i64 lv, .int .i64 l]) := Lib.hid hM; have B_w5 : Hid (Below w.heap.size w w5) := Lib.hid (hP.below B_w4.out Zt.out); have Mc_w5 : Hid (BK 23 w5 (w2.heap.size) [.int .i64 r, .int .i64 b, .int .i64 lv, .int .i64 l]) := Lib.hid (hP.other Mc_w4.out (Nat.ne_of_gt Lt_c.out)); have Sn_w5 : Hid (b0 < w5.heap.size ∧ w5.cell? ⟨b0, o + k * 2 + 1, none⟩ = some (.int .i64 n)) := Lib.hid (⟨by rw [hP.size]; exact Sn_w4.out.1, (hP.cell (p := ⟨b0, o + k * 2 + 1, none⟩) (hbne.out _ Zt.out)).trans Sn_w4.out.2⟩); clear B_w4 Mt_w4 Mc_w4 Sn_w4 hM hP dt0 dt1 dt2 dt3 dc0 dc1 dc2 dc3 cn)
                go_roundg g
                case measure => omega
                case rel => exact ⟨k + 1, lv, l, now2 + (d : Int), _, _, by have := HG.out; omega, by first | rfl | exact nxt k (by have := HK.out; omega), rfl, rfl, rfl, ⟨by have := HK.out; omega, HF1.out⟩, Mt_w5.out, B_w5.out⟩
            · go_simp
              obtain ⟨w2, hw2⟩ : ∃ w2, w2 = dw1.alloc (.cells [.int .i64 0, .int .i64 0, .int .i64 0, .int .i64 0].toArray 23) := ⟨_, rfl⟩
              have hb : Below dw1.heap.size dw1 w2 := by rw [hw2]; exact below_new _ _
              have hN : BK 23 w2 (dw1.heap.size) [.int .i64 0, .int .i64 0, .int .i64 0, .int .i64 0] := by rw [hw2]; exact BK.new _ _ _
              have Lt_c : Hid (w.heap.size < dw1.heap.size) := Lib.hid Mt_dw1.out.lt
              have Zc : Hid (w.heap.size ≤ dw1.heap.size) := Lib.hid B_dw1.out.size
              have B_w2 : Hid (Below w.heap.size w w2) := Lib.hid (stepB B_dw1.out hb)
              have Mt_w2 : Hid (BK 23 w2 (w.heap.size) [.int .i64 r, .int .i64 b, .int .i64 v2, .int .i64 t2]) := Lib.hid (Mt_dw1.out.step hb)
              have Sn_w2 : Hid (b0 < w2.heap.size ∧ w2.cell? ⟨b0, o + k * 2 + 1, none⟩ = some (.int .i64 n)) := Lib.hid (⟨Nat.lt_of_lt_of_le Sn_dw1.out.1 hb.size, (hb.cell (p := ⟨b0, o + k * 2 + 1, none⟩) Sn_dw1.out.1).trans Sn_dw1.out.2⟩)
              clear B_dw1 Mt_dw1 Sn_dw1
              have Mc_w2 := Lib.hid hN
              try rw [← hw2]
              clear hHeld hb hN hw2
              refine hK.out _ _ ⟨Mt_w2.out, Sn_w2.out⟩ (fun hHeld => ?_)
              clear hK K
              try simp only [Act.put, List.setIfInBounds_toArray, List.set_cons_zero, List.set_cons_succ]
              refine wpAnyH_ready (rs := [7]) (by kernel_rfl) (by simp) ?_
              refine (AllReadyH.cons (get_ops _ _ _ rfl) (fun K hK => ?_) AllReadyH.nil)
              go_simp
              go_at_call 13
              refine (C3.out w2).mono ?_
              rintro e w3 ⟨rfl, hb⟩
              have B_w3 : Hid (Below w.heap.size w w3) := Lib.hid (stepB B_w2.out hb)
              have Mt_w3 : Hid (BK 23 w3 (w.heap.size) [.int .i64 r, .int .i64 b, .int .i64 v2, .int .i64 t2]) := Lib.hid (Mt_w2.out.step hb)
              have Mc_w3 : Hid (BK 23 w3 (dw1.heap.size) [.int .i64 0, .int .i64 0, .int .i64 0, .int .i64 0]) := Lib.hid (Mc_w2.out.step hb)
              have Sn_w3 : Hid (b0 < w3.heap.size ∧ w3.cell? ⟨b0, o + k * 2 + 1, none⟩ = some (.int .i64 n)) := Lib.hid (⟨Nat.lt_of_lt_of_le Sn_w2.out.1 hb.size, (hb.cell (p := ⟨b0, o + k * 2 + 1, none⟩) Sn_w2.out.1).trans Sn_w2.out.2⟩)
              clear B_w2 Mt_w2 Mc_w2 Sn_w2
              clear hHeld hb
              go_wp2_with fail
              refine hK.out _ _ ⟨Mt_w3.out, Sn_w3.out⟩ (fun hHeld => ?_)
              clear hK K
              try simp only [Act.put, List.setIfInBounds_toArray, List.set_cons_zero, List.set_cons_succ]
              refine wpAnyH_take (i := 8) (v := .tuple #[.agg [.int .i64 r, .int .i64 b, .int .i64 lv, .int .i64 l].toArray, .bool ok]) (get_ops _ _ _ rfl) (by kernel_rfl) (by kernel_rfl) (by kernel_rfl) (fun _ _ _ h => h) (Or.inl ⟨by rfl, fun wS hSw => by (try dsimp only at hSw); go_simp⟩) hHeld ?_
              try simp only [Act.put, List.setIfInBounds_toArray, List.set_cons_zero, List.set_cons_succ]
              refine wpAnyH_take (i := 9) (v := .agg [.int .i64 r, .int .i64 b, .int .i64 lv, .int .i64 l].toArray) (get_ops _ _ _ rfl) (by kernel_rfl) (by kernel_rfl) (by kernel_rfl) (fun _ _ _ h => h) (Or.inl ⟨by rfl, fun wS hSw => by (try dsimp only at hSw); go_simp⟩) hHeld ?_
              try simp only [Act.put, List.setIfInBounds_toArray, List.set_cons_zero, List.set_cons_succ]
              refine wpAnyH_take (i := 10) (v := .bool ok) (get_ops _ _ _ rfl) (by kernel_rfl) (by kernel_rfl) (by kernel_rfl) (fun _ _ _ h => h) (Or.inl ⟨by rfl, fun wS hSw => by (try dsimp only at hSw); go_simp⟩) hHeld ?_
              try simp only [Act.put, List.setIfInBounds_toArray, List.set_cons_zero, List.set_cons_succ]
              refine wpAnyH_ready (rs := [12]) (by kernel_rfl) (by simp) ?_
              refine (AllReadyH.cons (get_ops _ _ _ rfl) (fun K hK => ?_) AllReadyH.nil)
              refine wp_store_all 23 _ _ rfl rfl (dw1.heap.size) (by go_simp) [.int .i64 r, .int .i64 b, .int .i64 lv, .int .i64 l] (by go_simp) 23 [.int .i64 0, .int .i64 0, .int .i64 0, .int .i64 0] Mc_w3.out infoB4 rfl (all_one rfl) ?_
              intro w4 hM hP
              have Mc_w4 : Hid (BK 23 w4 (dw1.heap.size) [.int .i64 r, .int .i64 b, .int .i64 lv, .int .i64 l]) := Lib.hid hM
              have B_w4 : Hid (Below w.heap.size w w4) := Lib.hid (hP.below B_w3.out Zc.out)
              have Mt_w4 : Hid (BK 23 w4 (w.heap.size) [.int .i64 r, .int .i64 b, .int .i64 v2, .int .i64 t2]) := Lib.hid (hP.other Mt_w3.out (Nat.ne_of_lt Lt_c.out))
              have Sn_w4 : Hid (b0 < w4.heap.size ∧ w4.cell? ⟨b0, o + k * 2 + 1, none⟩ = some (.int .i64 n)) := Lib.hid (⟨by rw [hP.size]; exact Sn_w3.out.1, (hP.cell (p := ⟨b0, o + k * 2 + 1, none⟩) (hbne.out _ Zc.out)).trans Sn_w3.out.2⟩)
              clear B_w3 Mt_w3 Mc_w3 Sn_w3 hM hP hHeld
              refine hK.out _ _ ⟨Mt_w4.out, Sn_w4.out⟩ (fun hHeld => ?_)
              clear hK K
              try simp only [Act.put, List.setIfInBounds_toArray, List.set_cons_zero, List.set_cons_succ]
              refine wpAnyH_take (i := 13) (v := .bool ok) (get_ops _ _ _ rfl) (by kernel_rfl) (by kernel_rfl) (by kernel_rfl) (fun _ _ _ h => h) (Or.inl ⟨by rfl, fun wS hSw => by (try dsimp only at hSw); go_simp⟩) hHeld ?_
              try simp only [Act.put, List.setIfInBounds_toArray, List.set_cons_zero, List.set_cons_succ]
              refine wpAnyH_done (by kernel_rfl) ?_ _
              have dt0 := Mt_w4.out.cell 0 rfl
              have dt1 := Mt_w4.out.cell 1 rfl
              have dt2 := Mt_w4.out.cell 2 rfl
              have dt3 := Mt_w4.out.cell 3 rfl
              have dc0 := Mc_w4.out.cell 0 rfl
              have dc1 := Mc_w4.out.cell 1 rfl
              have dc2 := Mc_w4.out.cell 2 rfl
              have dc3 := Mc_w4.out.cell 3 rfl
              have cn := Sn_w4.out.2
              cases ok with
              | false =>
                have f1 := HS1.out
                rw [if_neg (by simp)] at f1
                have f3 := s3
                rw [if_neg (by simp)] at f3
                have g3 : decide (ad2 + r * (now2 + (d : Int) - now2) < taken) = false := decide_eq_false (by omega)
                have g4 : decide (lv < 0) = false := decide_eq_false (by omega)
                have g5 : decide (b < lv) = false := decide_eq_false (by omega)
                have g6 : decide (l < now2 + (d : Int)) = false := decide_eq_false (by omega)
                have HF1 := Lib.hid f1
                clear f1 f3 s2 s3 s4 s5 s6
                go_wp2_with first | (refine wpList_store_all (by rfl) 23 (.tmp 3) (.tmp 130) rfl rfl (w.heap.size) rfl [.int .i64 r, .int .i64 b, .int .i64 lv, .int .i64 l] rfl 23 [.int .i64 r, .int .i64 b, .int .i64 v2, .int .i64 t2] Mt_w4.out infoB4 rfl (all_one rfl) ?_; intro w5 hM hP; have Mt_w5 : Hid (BK 23 w5 (w.heap.size) [.int .i64 r, .int .i64 b, .int .i64 lv, .int .i64 l]) := Lib.hid hM; have B_w5 : Hid (Below w.heap.size w w5) := Lib.hid (hP.below B_w4.out Zt.out); have Mc_w5 : Hid (BK 23 w5 (dw1.heap.size) [.int .i64 r, .int .i64 b, .int .i64 lv, .int .i64 l]) := Lib.hid (hP.other Mc_w4.out (Nat.ne_of_gt Lt_c.out)); have Sn_w5 : Hid (b0 < w5.heap.size ∧ w5.cell? ⟨b0, o + k * 2 + 1, none⟩ = some (.int .i64 n)) := Lib.hid (⟨by rw [hP.size]; exact Sn_w4.out.1, (hP.cell (p := ⟨b0, o + k * 2 + 1, none⟩) (hbne.out _ Zt.out)).trans Sn_w4.out.2⟩); clear B_w4 Mt_w4 Mc_w4 Sn_w4 hM hP dt0 dt1 dt2 dt3 dc0 dc1 dc2 dc3 cn)
                go_roundg g
                case measure => omega
                case rel => exact ⟨k + 1, lv, l, now2 + (d : Int), _, _, by have := HG.out; omega, by first | rfl | exact nxt k (by have := HK.out; omega), rfl, rfl, rfl, ⟨by have := HK.out; omega, HF1.out⟩, Mt_w5.out, B_w5.out⟩
              | true =>
                have f1 := HS1.out
                rw [if_pos (by simp)] at f1
                have f3 := s3
                rw [if_pos (by simp)] at f3
                have f2 := s2 rfl
                have g1 : wrap64 (taken + n) = taken + n := wrap64_id _ (by omega) (by omega)
                have g2 : decide (n < 0) = false := decide_eq_false (by omega)
                have g3 : decide (ad2 + r * (now2 + (d : Int) - now2) < taken + n) = false := decide_eq_false (by omega)
                have g4 : decide (lv < 0) = false := decide_eq_false (by omega)
                have g5 : decide (b < lv) = false := decide_eq_false (by omega)
                have g6 : decide (l < now2 + (d : Int)) = false := decide_eq_false (by omega)
                have HF1 := Lib.hid f1
                clear f1 f3 s2 s3 s4 s5 s6 f2
                go_wp2_with first | (refine wpList_store_all (by rfl) 23 (.tmp 3) (.tmp 130) rfl rfl (w.heap.size) rfl [.int .i64 r, .int .i64 b, .int .i64 lv, .int .i64 l] rfl 23 [.int .i64 r, .int .i64 b, .int .i64 v2, .int .i64 t2] Mt_w4.out infoB4 rfl (all_one rfl) ?_; intro w5 hM hP; have Mt_w5 : Hid (BK 23 w5 (w.heap.size) [.int .i64 r, .int .i64 b, .int .i64 lv, .int .i64 l]) := Lib.hid hM; have B_w5 : Hid (Below w.heap.size w w5) := Lib.hid (hP.below B_w4.out Zt.out); have Mc_w5 : Hid (BK 23 w5 (dw1.heap.size) [.int .i64 r, .int .i64 b, .int .i64 lv, .int .i64 l]) := Lib.hid (hP.other Mc_w4.out (Nat.ne_of_gt Lt_c.out)); have Sn_w5 : Hid (b0 < w5.heap.size ∧ w5.cell? ⟨b0, o + k * 2 + 1, none⟩ = some (.int .i64 n)) := Lib.hid (⟨by rw [hP.size]; exact Sn_w4.out.1, (hP.cell (p := ⟨b0, o + k * 2 + 1, none⟩) (hbne.out _ Zt.out)).trans Sn_w4.out.2⟩); clear B_w4 Mt_w4 Mc_w4 Sn_w4 hM hP dt0 dt1 dt2 dt3 dc0 dc1 dc2 dc3 cn)
                go_roundg g
                case measure => omega
                case rel => exact ⟨k + 1, lv, l, now2 + (d : Int), _, _, by have := HG.out; omega, by first | rfl | exact nxt k (by have := HK.out; omega), rfl, rfl, rfl, ⟨by have := HK.out; omega, HF1.out⟩, Mt_w5.out, B_w5.out⟩
        · have q3 : decide (t2 < now2 + (d : Int)) = false := decide_eq_false c1
          have ea : addL r t2 now2 (now2 + (d : Int)) = 0 := by unfold addL; rw [if_neg c1]
          rw [ea, Int.add_zero] at HS1 s3
          clear ea
          have Sn_wr : Hid (b0 < wr.heap.size ∧ wr.cell? ⟨b0, o + k * 2 + 1, none⟩ = some (.int .i64 n)) := Lib.hid ⟨by have := B_wr.out.size; have := hbB0.out; omega, kn⟩
          have dt0 := Mt_wr.out.cell 0 rfl
          have dt1 := Mt_wr.out.cell 1 rfl
          have dt2 := Mt_wr.out.cell 2 rfl
          have dt3 := Mt_wr.out.cell 3 rfl
          go_upto_region 15 with fail
          clear dt0 dt1 dt2 dt3 kd kn
          obtain ⟨dw1, hdw1⟩ : ∃ dw1, dw1 = World.drew wr := ⟨_, rfl⟩
          have hbD : Below wr.heap.size wr dw1 := by rw [hdw1]; exact (Below.refl _ _).drew
          have B_dw1 : Hid (Below w.heap.size w dw1) := Lib.hid (stepB B_wr.out hbD)
          have Mt_dw1 : Hid (BK 23 dw1 (w.heap.size) [.int .i64 r, .int .i64 b, .int .i64 v2, .int .i64 t2]) := Lib.hid (Mt_wr.out.step hbD)
          have Sn_dw1 : Hid (b0 < dw1.heap.size ∧ dw1.cell? ⟨b0, o + k * 2 + 1, none⟩ = some (.int .i64 n)) := Lib.hid (⟨Nat.lt_of_lt_of_le Sn_wr.out.1 hbD.size, (hbD.cell (p := ⟨b0, o + k * 2 + 1, none⟩) Sn_wr.out.1).trans Sn_wr.out.2⟩)
          clear B_wr Mt_wr Sn_wr
          have hbd : (fun w' => BK 23 w' (w.heap.size) [.int .i64 r, .int .i64 b, .int .i64 v2, .int .i64 t2] ∧ b0 < w'.heap.size ∧ w'.cell? ⟨b0, o + k * 2 + 1, none⟩ = some (.int .i64 n)) (World.drew wr) := by rw [← hdw1]; exact ⟨Mt_dw1.out, Sn_dw1.out⟩
          have hSD : (fun w' => BK 23 w' (w.heap.size) [.int .i64 r, .int .i64 b, .int .i64 v2, .int .i64 t2] ∧ b0 < w'.heap.size ∧ w'.cell? ⟨b0, o + k * 2 + 1, none⟩ = some (.int .i64 n)) dw1 := ⟨Mt_dw1.out, Sn_dw1.out⟩
          have HWD := Lib.hid hdw1
          clear hdw1 hbD
          refine wp_region_held_drew (S := fun w' => BK 23 w' (w.heap.size) [.int .i64 r, .int .i64 b, .int .i64 v2, .int .i64 t2] ∧ b0 < w'.heap.size ∧ w'.cell? ⟨b0, o + k * 2 + 1, none⟩ = some (.int .i64 n)) (by kernel_rfl) hbd (fun hHeld => ?_)
          rw [← HWD.out]
          clear hHeld
          have hHeld := hSD
          clear hSD hbd HWD
          refine wpAnyH_take (i := 0) (v := .agg [.int .i64 r, .int .i64 b, .int .i64 v2, .int .i64 t2].toArray) (get_ops _ _ _ rfl) (by kernel_rfl) (by kernel_rfl) (by kernel_rfl) (fun _ _ _ h => h) (Or.inl ⟨by rfl, fun wS hSw => by (try dsimp only at hSw); exact exec_load 23 _ rfl ⟨(w.heap.size), 0, none⟩ (by go_simp) _ (run_load_all hSw.1 Try.underlying23 rfl infoB4)⟩) hHeld ?_
          try simp only [Act.put, List.setIfInBounds_toArray, List.set_cons_zero, List.set_cons_succ]
          refine wpAnyH_take (i := 1) (v := .int .i64 ((now2 + (d : Int)))) (get_ops _ _ _ rfl) (by kernel_rfl) (by kernel_rfl) (by kernel_rfl) (fun _ _ _ h => h) (Or.inl ⟨by rfl, fun wS hSw => by (try dsimp only at hSw); go_simp⟩) hHeld ?_
          try simp only [Act.put, List.setIfInBounds_toArray, List.set_cons_zero, List.set_cons_succ]
          refine wpAnyH_take (i := 2) (v := .slice (some ⟨b0, o, none⟩) X.length c) (get_ops _ _ _ rfl) (by kernel_rfl) (by kernel_rfl) (by kernel_rfl) (fun _ _ _ h => h) (Or.inl ⟨by rfl, fun wS hSw => by (try dsimp only at hSw); go_simp⟩) hHeld ?_
          try simp only [Act.put, List.setIfInBounds_toArray, List.set_cons_zero, List.set_cons_succ]
          refine wpAnyH_take (i := 3) (v := .int .i64 ((k : Int))) (get_ops _ _ _ rfl) (by kernel_rfl) (by kernel_rfl) (by kernel_rfl) (fun _ _ _ h => h) (Or.inl ⟨by rfl, fun wS hSw => by (try dsimp only at hSw); go_simp⟩) hHeld ?_
          try simp only [Act.put, List.setIfInBounds_toArray, List.set_cons_zero, List.set_cons_succ]
          refine wpAnyH_take (i := 4) (v := .pointer (some ⟨b0, o + k * 2, none⟩)) (get_ops _ _ _ rfl) (by kernel_rfl) (by kernel_rfl) (by kernel_rfl) (fun _ _ _ h => h) (Or.inl ⟨by rfl, fun wS hSw => by (try dsimp only at hSw); go_simp⟩) hHeld ?_
          try simp only [Act.put, List.setIfInBounds_toArray, List.set_cons_zero, List.set_cons_succ]
          refine wpAnyH_take (i := 5) (v := .pointer (some ⟨b0, o + k * 2 + 1, none⟩)) (get_ops _ _ _ rfl) (by kernel_rfl) (by kernel_rfl) (by kernel_rfl) (fun _ _ _ h => h) (Or.inl ⟨by rfl, fun wS hSw => by (try dsimp only at hSw); go_simp⟩) hHeld ?_
          try simp only [Act.put, List.setIfInBounds_toArray, List.set_cons_zero, List.set_cons_succ]
          refine wpAnyH_take (i := 6) (v := .int .i64 n) (get_ops _ _ _ rfl) (by kernel_rfl) (by kernel_rfl) (by kernel_rfl) (fun _ _ _ h => h) (Or.inl ⟨by rfl, fun wS hSw => by (try dsimp only at hSw); have cS : wS.cell? ⟨b0, o + k * 2 + 1, none⟩ = some (.int .i64 n) := hSw.2.2; clear hSw; go_simp⟩) hHeld ?_
          try simp only [Act.put, List.setIfInBounds_toArray, List.set_cons_zero, List.set_cons_succ]
          refine wpAnyH_ready (rs := [7, 11]) (by kernel_rfl) (by simp) ?_
          refine (AllReadyH.cons (get_ops _ _ _ rfl) (fun K hK => ?_) (AllReadyH.cons (get_ops _ _ _ rfl) (fun K hK => ?_) AllReadyH.nil))
          · go_simp
            go_at_call 13
            refine (C3.out dw1).mono ?_
            rintro e w2 ⟨rfl, hb⟩
            have B_w2 : Hid (Below w.heap.size w w2) := Lib.hid (stepB B_dw1.out hb)
            have Mt_w2 : Hid (BK 23 w2 (w.heap.size) [.int .i64 r, .int .i64 b, .int .i64 v2, .int .i64 t2]) := Lib.hid (Mt_dw1.out.step hb)
            have Sn_w2 : Hid (b0 < w2.heap.size ∧ w2.cell? ⟨b0, o + k * 2 + 1, none⟩ = some (.int .i64 n)) := Lib.hid (⟨Nat.lt_of_lt_of_le Sn_dw1.out.1 hb.size, (hb.cell (p := ⟨b0, o + k * 2 + 1, none⟩) Sn_dw1.out.1).trans Sn_dw1.out.2⟩)
            clear B_dw1 Mt_dw1 Sn_dw1
            clear hHeld hb
            go_wp2_with fail
            refine hK.out _ _ ⟨Mt_w2.out, Sn_w2.out⟩ (fun hHeld => ?_)
            clear hK K
            try simp only [Act.put, List.setIfInBounds_toArray, List.set_cons_zero, List.set_cons_succ]
            refine wpAnyH_take (i := 8) (v := .tuple #[.agg [.int .i64 r, .int .i64 b, .int .i64 lv, .int .i64 l].toArray, .bool ok]) (get_ops _ _ _ rfl) (by kernel_rfl) (by kernel_rfl) (by kernel_rfl) (fun _ _ _ h => h) (Or.inl ⟨by rfl, fun wS hSw => by (try dsimp only at hSw); go_simp⟩) hHeld ?_
            try simp only [Act.put, List.setIfInBounds_toArray, List.set_cons_zero, List.set_cons_succ]
            refine wpAnyH_take (i := 9) (v := .agg [.int .i64 r, .int .i64 b, .int .i64 lv, .int .i64 l].toArray) (get_ops _ _ _ rfl) (by kernel_rfl) (by kernel_rfl) (by kernel_rfl) (fun _ _ _ h => h) (Or.inl ⟨by rfl, fun wS hSw => by (try dsimp only at hSw); go_simp⟩) hHeld ?_
            try simp only [Act.put, List.setIfInBounds_toArray, List.set_cons_zero, List.set_cons_succ]
            refine wpAnyH_take (i := 10) (v := .bool ok) (get_ops _ _ _ rfl) (by kernel_rfl) (by kernel_rfl) (by kernel_rfl) (fun _ _ _ h => h) (Or.inl ⟨by rfl, fun wS hSw => by (try dsimp only at hSw); go_simp⟩) hHeld ?_
            try simp only [Act.put, List.setIfInBounds_toArray, List.set_cons_zero, List.set_cons_succ]
            refine wpAnyH_ready (rs := [11]) (by kernel_rfl) (by simp) ?_
            refine (AllReadyH.cons (get_ops _ _ _ rfl) (fun K hK => ?_) AllReadyH.nil)
            go_simp
            obtain ⟨w3, hw3⟩ : ∃ w3, w3 = w2.alloc (.cells [.int .i64 0, .int .i64 0, .int .i64 0, .int .i64 0].toArray 23) := ⟨_, rfl⟩
            have hb : Below w2.heap.size w2 w3 := by rw [hw3]; exact below_new _ _
            have hN : BK 23 w3 (w2.heap.size) [.int .i64 0, .int .i64 0, .int .i64 0, .int .i64 0] := by rw [hw3]; exact BK.new _ _ _
            have Lt_c : Hid (w.heap.size < w2.heap.size) := Lib.hid Mt_w2.out.lt
            have Zc : Hid (w.heap.size ≤ w2.heap.size) := Lib.hid B_w2.out.size
            have B_w3 : Hid (Below w.heap.size w w3) := Lib.hid (stepB B_w2.out hb)
            have Mt_w3 : Hid (BK 23 w3 (w.heap.size) [.int .i64 r, .int .i64 b, .int .i64 v2, .int .i64 t2]) := Lib.hid (Mt_w2.out.step hb)
            have Sn_w3 : Hid (b0 < w3.heap.size ∧ w3.cell? ⟨b0, o + k * 2 + 1, none⟩ = some (.int .i64 n)) := Lib.hid (⟨Nat.lt_of_lt_of_le Sn_w2.out.1 hb.size, (hb.cell (p := ⟨b0, o + k * 2 + 1, none⟩) Sn_w2.out.1).trans Sn_w2.out.2⟩)
            clear B_w2 Mt_w2 Sn_w2
            have Mc_w3 := Lib.hid hN
            try rw [← hw3]
            clear hHeld hb hN hw3
            refine hK.out _ _ ⟨Mt_w3.out, Sn_w3.out⟩ (fun hHeld => ?_)
            clear hK K
            try simp only [Act.put, List.setIfInBounds_toArray, List.set_cons_zero, List.set_cons_succ]
            refine wpAnyH_ready (rs := [12]) (by kernel_rfl) (by simp) ?_
            refine (AllReadyH.cons (get_ops _ _ _ rfl) (fun K hK => ?_) AllReadyH.nil)
            refine wp_store_all 23 _ _ rfl rfl (w2.heap.size) (by go_simp) [.int .i64 r, .int .i64 b, .int .i64 lv, .int .i64 l] (by go_simp) 23 [.int .i64 0, .int .i64 0, .int .i64 0, .int .i64 0] Mc_w3.out infoB4 rfl (all_one rfl) ?_
            intro w4 hM hP
            have Mc_w4 : Hid (BK 23 w4 (w2.heap.size) [.int .i64 r, .int .i64 b, .int .i64 lv, .int .i64 l]) := Lib.hid hM
            have B_w4 : Hid (Below w.heap.size w w4) := Lib.hid (hP.below B_w3.out Zc.out)
            have Mt_w4 : Hid (BK 23 w4 (w.heap.size) [.int .i64 r, .int .i64 b, .int .i64 v2, .int .i64 t2]) := Lib.hid (hP.other Mt_w3.out (Nat.ne_of_lt Lt_c.out))
            have Sn_w4 : Hid (b0 < w4.heap.size ∧ w4.cell? ⟨b0, o + k * 2 + 1, none⟩ = some (.int .i64 n)) := Lib.hid (⟨by rw [hP.size]; exact Sn_w3.out.1, (hP.cell (p := ⟨b0, o + k * 2 + 1, none⟩) (hbne.out _ Zc.out)).trans Sn_w3.out.2⟩)
            clear B_w3 Mt_w3 Mc_w3 Sn_w3 hM hP hHeld
            refine hK.out _ _ ⟨Mt_w4.out, Sn_w4.out⟩ (fun hHeld => ?_)
            clear hK K
            try simp only [Act.put, List.setIfInBounds_toArray, List.set_cons_zero, List.set_cons_succ]
            refine wpAnyH_take (i := 13) (v := .bool ok) (get_ops _ _ _ rfl) (by kernel_rfl) (by kernel_rfl) (by kernel_rfl) (fun _ _ _ h => h) (Or.inl ⟨by rfl, fun wS hSw => by (try dsimp only at hSw); go_simp⟩) hHeld ?_
            try simp only [Act.put, List.setIfInBounds_toArray, List.set_cons_zero, List.set_cons_succ]
            refine wpAnyH_done (by kernel_rfl) ?_ _
            have dt0 := Mt_w4.out.cell 0 rfl
            have dt1 := Mt_w4.out.cell 1 rfl
            have dt2 := Mt_w4.out.cell 2 rfl
            have dt3 := Mt_w4.out.cell 3 rfl
            have dc0 := Mc_w4.out.cell 0 rfl
            have dc1 := Mc_w4.out.cell 1 rfl
            have dc2 := Mc_w4.out.cell 2 rfl
            have dc3 := Mc_w4.out.cell 3 rfl
            have cn := Sn_w4.out.2
            cases ok with
            | false =>
              have f1 := HS1.out
              rw [if_neg (by simp)] at f1
              have f3 := s3
              rw [if_neg (by simp)] at f3
              have g3 : decide (ad2 < taken) = false := decide_eq_false (by omega)
              have g4 : decide (lv < 0) = false := decide_eq_false (by omega)
              have g5 : decide (b < lv) = false := decide_eq_false (by omega)
              have g6 : decide (l < now2 + (d : Int)) = false := decide_eq_false (by omega)
              have HF1 := Lib.hid f1
              clear f1 f3 s2 s3 s4 s5 s6
              go_wp2_with first | (refine wpList_store_all (by rfl) 23 (.tmp 3) (.tmp 130) rfl rfl (w.heap.size) rfl [.int .i64 r, .int .i64 b, .int .i64 lv, .int .i64 l] rfl 23 [.int .i64 r, .int .i64 b, .int .i64 v2, .int .i64 t2] Mt_w4.out infoB4 rfl (all_one rfl) ?_; intro w5 hM hP; have Mt_w5 : Hid (BK 23 w5 (w.heap.size) [.int .i64 r, .int .i64 b, .int .i64 lv, .int .i64 l]) := Lib.hid hM; have B_w5 : Hid (Below w.heap.size w w5) := Lib.hid (hP.below B_w4.out Zt.out); have Mc_w5 : Hid (BK 23 w5 (w2.heap.size) [.int .i64 r, .int .i64 b, .int .i64 lv, .int .i64 l]) := Lib.hid (hP.other Mc_w4.out (Nat.ne_of_gt Lt_c.out)); have Sn_w5 : Hid (b0 < w5.heap.size ∧ w5.cell? ⟨b0, o + k * 2 + 1, none⟩ = some (.int .i64 n)) := Lib.hid (⟨by rw [hP.size]; exact Sn_w4.out.1, (hP.cell (p := ⟨b0, o + k * 2 + 1, none⟩) (hbne.out _ Zt.out)).trans Sn_w4.out.2⟩); clear B_w4 Mt_w4 Mc_w4 Sn_w4 hM hP dt0 dt1 dt2 dt3 dc0 dc1 dc2 dc3 cn)
              go_roundg g
              case measure => omega
              case rel => exact ⟨k + 1, lv, l, now2 + (d : Int), _, _, by have := HG.out; omega, by first | rfl | exact nxt k (by have := HK.out; omega), rfl, rfl, rfl, ⟨by have := HK.out; omega, HF1.out⟩, Mt_w5.out, B_w5.out⟩
            | true =>
              have f1 := HS1.out
              rw [if_pos (by simp)] at f1
              have f3 := s3
              rw [if_pos (by simp)] at f3
              have f2 := s2 rfl
              have g1 : wrap64 (taken + n) = taken + n := wrap64_id _ (by omega) (by omega)
              have g2 : decide (n < 0) = false := decide_eq_false (by omega)
              have g3 : decide (ad2 < taken + n) = false := decide_eq_false (by omega)
              have g4 : decide (lv < 0) = false := decide_eq_false (by omega)
              have g5 : decide (b < lv) = false := decide_eq_false (by omega)
              have g6 : decide (l < now2 + (d : Int)) = false := decide_eq_false (by omega)
              have HF1 := Lib.hid f1
              clear f1 f3 s2 s3 s4 s5 s6 f2
              go_wp2_with first | (refine wpList_store_all (by rfl) 23 (.tmp 3) (.tmp 130) rfl rfl (w.heap.size) rfl [.int .i64 r, .int .i64 b, .int .i64 lv, .int .i64 l] rfl 23 [.int .i64 r, .int .i64 b, .int .i64 v2, .int .i64 t2] Mt_w4.out infoB4 rfl (all_one rfl) ?_; intro w5 hM hP; have Mt_w5 : Hid (BK 23 w5 (w.heap.size) [.int .i64 r, .int .i64 b, .int .i64 lv, .int .i64 l]) := Lib.hid hM; have B_w5 : Hid (Below w.heap.size w w5) := Lib.hid (hP.below B_w4.out Zt.out); have Mc_w5 : Hid (BK 23 w5 (w2.heap.size) [.int .i64 r, .int .i64 b, .int .i64 lv, .int .i64 l]) := Lib.hid (hP.other Mc_w4.out (Nat.ne_of_gt Lt_c.out)); have Sn_w5 : Hid (b0 < w5.heap.size ∧ w5.cell? ⟨b0, o + k * 2 + 1, none⟩ = some (.int .i64 n)) := Lib.hid (⟨by rw [hP.size]; exact Sn_w4.out.1, (hP.cell (p := ⟨b0, o + k * 2 + 1, none⟩) (hbne.out _ Zt.out)).trans Sn_w4.out.2⟩); clear B_w4 Mt_w4 Mc_w4 Sn_w4 hM hP dt0 dt1 dt2 dt3 dc0 dc1 dc2 dc3 cn)
              go_roundg g
              case measure => omega
              case rel => exact ⟨k + 1, lv, l, now2 + (d : Int), _, _, by have := HG.out; omega, by first | rfl | exact nxt k (by have := HK.out; omega), rfl, rfl, rfl, ⟨by have := HK.out; omega, HF1.out⟩, Mt_w5.out, B_w5.out⟩
          · go_simp
            obtain ⟨w2, hw2⟩ : ∃ w2, w2 = dw1.alloc (.cells [.int .i64 0, .int .i64 0, .int .i64 0, .int .i64 0].toArray 23) := ⟨_, rfl⟩
            have hb : Below dw1.heap.size dw1 w2 := by rw [hw2]; exact below_new _ _
            have hN : BK 23 w2 (dw1.heap.size) [.int .i64 0, .int .i64 0, .int .i64 0, .int .i64 0] := by rw [hw2]; exact BK.new _ _ _
            have Lt_c : Hid (w.heap.size < dw1.heap.size) := Lib.hid Mt_dw1.out.lt
            have Zc : Hid (w.heap.size ≤ dw1.heap.size) := Lib.hid B_dw1.out.size
            have B_w2 : Hid (Below w.heap.size w w2) := Lib.hid (stepB B_dw1.out hb)
            have Mt_w2 : Hid (BK 23 w2 (w.heap.size) [.int .i64 r, .int .i64 b, .int .i64 v2, .int .i64 t2]) := Lib.hid (Mt_dw1.out.step hb)
            have Sn_w2 : Hid (b0 < w2.heap.size ∧ w2.cell? ⟨b0, o + k * 2 + 1, none⟩ = some (.int .i64 n)) := Lib.hid (⟨Nat.lt_of_lt_of_le Sn_dw1.out.1 hb.size, (hb.cell (p := ⟨b0, o + k * 2 + 1, none⟩) Sn_dw1.out.1).trans Sn_dw1.out.2⟩)
            clear B_dw1 Mt_dw1 Sn_dw1
            have Mc_w2 := Lib.hid hN
            try rw [← hw2]
            clear hHeld hb hN hw2
            refine hK.out _ _ ⟨Mt_w2.out, Sn_w2.out⟩ (fun hHeld => ?_)
            clear hK K
            try simp only [Act.put, List.setIfInBounds_toArray, List.set_cons_zero, List.set_cons_succ]
            refine wpAnyH_ready (rs := [7]) (by kernel_rfl) (by simp) ?_
            refine (AllReadyH.cons (get_ops _ _ _ rfl) (fun K hK => ?_) AllReadyH.nil)
            go_simp
            go_at_call 13
            refine (C3.out w2).mono ?_
            rintro e w3 ⟨rfl, hb⟩
            have B_w3 : Hid (Below w.heap.size w w3) := Lib.hid (stepB B_w2.out hb)
            have Mt_w3 : Hid (BK 23 w3 (w.heap.size) [.int .i64 r, .int .i64 b, .int .i64 v2, .int .i64 t2]) := Lib.hid (Mt_w2.out.step hb)
            have Mc_w3 : Hid (BK 23 w3 (dw1.heap.size) [.int .i64 0, .int .i64 0, .int .i64 0, .int .i64 0]) := Lib.hid (Mc_w2.out.step hb)
            have Sn_w3 : Hid (b0 < w3.heap.size ∧ w3.cell? ⟨b0, o + k * 2 + 1, none⟩ = some (.int .i64 n)) := Lib.hid (⟨Nat.lt_of_lt_of_le Sn_w2.out.1 hb.size, (hb.cell (p := ⟨b0, o + k * 2 + 1, none⟩) Sn_w2.out.1).trans Sn_w2.out.2⟩)
            clear B_w2 Mt_w2 Mc_w2 Sn_w2
            clear hHeld hb
            go_wp2_with fail
            refine hK.out _ _ ⟨Mt_w3.out, Sn_w3.out⟩ (fun hHeld => ?_)
            clear hK K
            try simp only [Act.put, List.setIfInBounds_toArray, List.set_cons_zero, List.set_cons_succ]
            refine wpAnyH_take (i := 8) (v := .tuple #[.agg [.int .i64 r, .int .i64 b, .int .i64 lv, .int .i64 l].toArray, .bool ok]) (get_ops _ _ _ rfl) (by kernel_rfl) (by kernel_rfl) (by kernel_rfl) (fun _ _ _ h => h) (Or.inl ⟨by rfl, fun wS hSw => by (try dsimp only at hSw); go_simp⟩) hHeld ?_
            try simp only [Act.put, List.setIfInBounds_toArray, List.set_cons_zero, List.set_cons_succ]
            refine wpAnyH_take (i := 9) (v := .agg [.int .i64 r, .int .i64 b, .int .i64 lv, .int .i64 l].toArray) (get_ops _ _ _ rfl) (by kernel_rfl) (by kernel_rfl) (by kernel_rfl) (fun _ _ _ h => h) (Or.inl ⟨by rfl, fun wS hSw => by (try dsimp only at hSw); go_simp⟩) hHeld ?_
            try simp only [Act.put, List.setIfInBounds_toArray, List.set_cons_zero, List.set_cons_succ]
            refine wpAnyH_take (i := 10) (v := .bool ok) (get_ops _ _ _ rfl) (by kernel_rfl) (by kernel_rfl) (by kernel_rfl) (fun _ _ _ h => h) (Or.inl ⟨by rfl, fun wS hSw => by (try dsimp only at hSw); go_simp⟩) hHeld ?_
            try simp only [Act.put, List.setIfInBounds_toArray, List.set_cons_zero, List.set_cons_succ]
            refine wpAnyH_ready (rs := [12]) (by kernel_rfl) (by simp) ?_
            refine (AllReadyH.cons (get_ops _ _ _ rfl) (fun K hK => ?_) AllReadyH.nil)
            refine wp_store_all 23 _ _ rfl rfl (dw1.heap.size) (by go_simp) [.int .i64 r, .int .i64 b, .int .i64 lv, .int .i64 l] (by go_simp) 23 [.int .i64 0, .int .i64 0, .int .i64 0, .int .i64 0] Mc_w3.out infoB4 rfl (all_one rfl) ?_
            intro w4 hM hP
            have Mc_w4 : Hid (BK 23 w4 (dw1.heap.size) [.int .i64 r, .int .i64 b, .int .i64 lv, .int .i64 l]) := Lib.hid hM
            have B_w4 : Hid (Below w.heap.size w w4) := Lib.hid (hP.below B_w3.out Zc.out)
            have Mt_w4 : Hid (BK 23 w4 (w.heap.size) [.int .i64 r, .int .i64 b, .int .i64 v2, .int .i64 t2]) := Lib.hid (hP.other Mt_w3.out (Nat.ne_of_lt Lt_c.out))
            have Sn_w4 : Hid (b0 < w4.heap.size ∧ w4.cell? ⟨b0, o + k * 2 + 1, none⟩ = some (.int .i64 n)) := Lib.hid (⟨by rw [hP.size]; exact Sn_w3.out.1, (hP.cell (p := ⟨b0, o + k * 2 + 1, none⟩) (hbne.out _ Zc.out)).trans Sn_w3.out.2⟩)
            clear B_w3 Mt_w3 Mc_w3 Sn_w3 hM hP hHeld
            refine hK.out _ _ ⟨Mt_w4.out, Sn_w4.out⟩ (fun hHeld => ?_)
            clear hK K
            try simp only [Act.put, List.setIfInBounds_toArray, List.set_cons_zero, List.set_cons_succ]
            refine wpAnyH_take (i := 13) (v := .bool ok) (get_ops _ _ _ rfl) (by kernel_rfl) (by kernel_rfl) (by kernel_rfl) (fun _ _ _ h => h) (Or.inl ⟨by rfl, fun wS hSw => by (try dsimp only at hSw); go_simp⟩) hHeld ?_
            try simp only [Act.put, List.setIfInBounds_toArray, List.set_cons_zero, List.set_cons_succ]
            refine wpAnyH_done (by kernel_rfl) ?_ _
            have dt0 := Mt_w4.out.cell 0 rfl
            have dt1 := Mt_w4.out.cell 1 rfl
            have dt2 := Mt_w4.out.cell 2 rfl
            have dt3 := Mt_w4.out.cell 3 rfl
            have dc0 := Mc_w4.out.cell 0 rfl
            have dc1 := Mc_w4.out.cell 1 rfl
            have dc2 := Mc_w4.out.cell 2 rfl
            have dc3 := Mc_w4.out.cell 3 rfl
            have cn := Sn_w4.out.2
            cases ok with
            | false =>
              have f1 := HS1.out
              rw [if_neg (by simp)] at f1
              have f3 := s3
              rw [if_neg (by simp)] at f3
              have g3 : decide (ad2 < taken) = false := decide_eq_false (by omega)
              have g4 : decide (lv < 0) = false := decide_eq_false (by omega)
              have g5 : decide (b < lv) = false := decide_eq_false (by omega)
              have g6 : decide (l < now2 + (d : Int)) = false := decide_eq_false (by omega)
              have HF1 := Lib.hid f1
              clear f1 f3 s2 s3 s4 s5 s6
              go_wp2_with first | (refine wpList_store_all (by rfl) 23 (.tmp 3) (.tmp 130) rfl rfl (w.heap.size) rfl [.int .i64 r, .int .i64 b, .int .i64 lv, .int .i64 l] rfl 23 [.int .i64 r, .int .i64 b, .int .i64 v2, .int .i64 t2] Mt_w4.out infoB4 rfl (all_one rfl) ?_; intro w5 hM hP; have Mt_w5 : Hid (BK 23 w5 (w.heap.size) [.int .i64 r, .int .i64 b, .int .i64 lv, .int .i64 l]) := Lib.hid hM; have B_w5 : Hid (Below w.heap.size w w5) := Lib.hid (hP.below B_w4.out Zt.out); have Mc_w5 : Hid (BK 23 w5 (dw1.heap.size) [.int .i64 r, .int .i64 b, .int .i64 lv, .int .i64 l]) := Lib.hid (hP.other Mc_w4.out (Nat.ne_of_gt Lt_c.out)); have Sn_w5 : Hid (b0 < w5.heap.size ∧ w5.cell? ⟨b0, o + k * 2 + 1, none⟩ = some (.int .i64 n)) := Lib.hid (⟨by rw [hP.size]; exact Sn_w4.out.1, (hP.cell (p := ⟨b0, o + k * 2 + 1, none⟩) (hbne.out _ Zt.out)).trans Sn_w4.out.2⟩); clear B_w4 Mt_w4 Mc_w4 Sn_w4 hM hP dt0 dt1 dt2 dt3 dc0 dc1 dc2 dc3 cn)
              go_roundg g
              case measure => omega
              case rel => exact ⟨k + 1, lv, l, now2 + (d : Int), _, _, by have := HG.out; omega, by first | rfl | exact nxt k (by have := HK.out; omega), rfl, rfl, rfl, ⟨by have := HK.out; omega, HF1.out⟩, Mt_w5.out, B_w5.out⟩
            | true =>
              have f1 := HS1.out
              rw [if_pos (by simp)] at f1
              have f3 := s3
              rw [if_pos (by simp)] at f3
              have f2 := s2 rfl
              have g1 : wrap64 (taken + n) = taken + n := wrap64_id _ (by omega) (by omega)
              have g2 : decide (n < 0) = false := decide_eq_false (by omega)
              have g3 : decide (ad2 < taken + n) = false := decide_eq_false (by omega)
              have g4 : decide (lv < 0) = false := decide_eq_false (by omega)
              have g5 : decide (b < lv) = false := decide_eq_false (by omega)
              have g6 : decide (l < now2 + (d : Int)) = false := decide_eq_false (by omega)
              have HF1 := Lib.hid f1
              clear f1 f3 s2 s3 s4 s5 s6 f2
              go_wp2_with first | (refine wpList_store_all (by rfl) 23 (.tmp 3) (.tmp 130) rfl rfl (w.heap.size) rfl [.int .i64 r, .int .i64 b, .int .i64 lv, .int .i64 l] rfl 23 [.int .i64 r, .int .i64 b, .int .i64 v2, .int .i64 t2] Mt_w4.out infoB4 rfl (all_one rfl) ?_; intro w5 hM hP; have Mt_w5 : Hid (BK 23 w5 (w.heap.size) [.int .i64 r, .int .i64 b, .int .i64 lv, .int .i64 l]) := Lib.hid hM; have B_w5 : Hid (Below w.heap.size w w5) := Lib.hid (hP.below B_w4.out Zt.out); have Mc_w5 : Hid (BK 23 w5 (dw1.heap.size) [.int .i64 r, .int .i64 b, .int .i64 lv, .int .i64 l]) := Lib.hid (hP.other Mc_w4.out (Nat.ne_of_gt Lt_c.out)); have Sn_w5 : Hid (b0 < w5.heap.size ∧ w5.cell? ⟨b0, o + k * 2 + 1, none⟩ = some (.int .i64 n)) := Lib.hid (⟨by rw [hP.size]; exact Sn_w4.out.1, (hP.cell (p := ⟨b0, o + k * 2 + 1, none⟩) (hbne.out _ Zt.out)).trans Sn_w4.out.2⟩); clear B_w4 Mt_w4 Mc_w4 Sn_w4 hM hP dt0 dt1 dt2 dt3 dc0 dc1 dc2 dc3 cn)
              go_roundg g
              case measure => omega
              case rel => exact ⟨k + 1, lv, l, now2 + (d : Int), _, _, by have := HG.out; omega, by first | rfl | exact nxt k (by have := HK.out; omega), rfl, rfl, rfl, ⟨by have := HK.out; omega, HF1.out⟩, Mt_w5.out, B_w5.out⟩
      · have q60 : decide ((k : Int) < 60) = false := decide_eq_false (by omega)
        have q60n : decide (k < 60) = false := decide_eq_false (by omega)
        have j2 : (k : Int) < (X.length : Int) := by omega
        have e3n : decide (k < X.length) = true := decide_eq_true hlt
        clear hkg So hlt h60 hi hk60
        go_wp2_with fail
        refine (HA.out wr).mono ?_
        rintro e w1 ⟨rfl, hb⟩
        have B_w1 : Hid (Below w.heap.size w w1) := Lib.hid (stepB B_wr.out hb)
        have Mt_w1 : Hid (BK 23 w1 (w.heap.size) [.int .i64 r, .int .i64 b, .int .i64 v2, .int .i64 t2]) := Lib.hid (Mt_wr.out.step hb)
        clear B_wr Mt_wr
        clear hb
        go_wp2_with fail
        go_ret
        exact ⟨rfl, B_w1.out⟩
end Go.Proofs.Ytmcocepjdhpecaa
