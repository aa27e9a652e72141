/-
  What Pop of brokerref17 answers. Conditions: the lists read as data; few messages.
-/
import Derived.Test.YtgnbiicfabldbabSg
namespace Go.Proofs.Ytgnbiicfabldbab
open Go.RowKit
open S2 (BK Put)

set_option maxRecDepth 20000 in
set_option maxHeartbeats 4000000 in
theorem rPopQ_any (A : Option Addr) (c : Nat) (xs : List ME) (now : Int) (w : World) (hsl : MI w w.heap.size A xs) (hc : xs.length ≤ c) (hn : xs.length ≤ 90000) :
    Calls Try.prog 17 #[.slice A xs.length c, .int .i64 now] w (RetPo (xs.map ME.m) now w) := by
  have HE := Lib.hid (fun m a c w1 => rExpired_any m a c now w1)
  have HS := Lib.hid hsl
  have HC := Lib.hid hc
  have HN := Lib.hid hn
  clear hsl hc
  go_enter Try.func17, Try.ntmps17
  go_upto_region 1 with fail
  refine name_world (C := fun w1 => Code.wp _ _ _ _ w1) (w.alloc (.cells (msgC Msg.zero none 0).toArray 25)) ?_
  intro w1 hw1
  have hb1 : Below w.heap.size w w1 := by rw [hw1]; exact S2.below_new w _
  have G_w1 : Hid (BK 25 w1 w.heap.size (msgC Msg.zero none 0)) := Lib.hid (by rw [hw1]; exact BK.new w _ _)
  have B_w1 := Lib.hid hb1
  clear hw1 hb1
  go_wp2_with fail
  go_loopg [8] xs.length (fun g v wr => ∃ (k : Nat), k + g = xs.length ∧ v = .int .i64 k ∧ Exps (xs.map ME.m) now k ∧ BK 25 wr w.heap.size (msgC Msg.zero none 0) ∧ Below w.heap.size w wr)
  case atStart => exact ⟨0, by omega, rfl, (fun j m h => absurd h (by omega)), G_w1.out, B_w1.out⟩
  case round =>
    obtain ⟨k, hkg, rfl, hex, hg0, hb0⟩ := hrel
    have HEX := Lib.hid hex
    have G_wr := Lib.hid hg0
    have B_wr := Lib.hid hb0
    have HK := Lib.hid hkg
    clear hex hg0 hb0 G_w1 B_w1
    cases gk with
    | zero =>
      obtain rfl : k = xs.length := by omega
      clear hkg
      go_wp2_with first
        | (refine S2.wpList_store_all (by rfl) 25 (.tmp 4) (.tmp 33) rfl rfl w.heap.size rfl (msgC Msg.zero none 0) rfl 25 (msgC Msg.zero none 0) G_wr.out msgSize rfl (msgC_one _ _ _) ?_; intro w3 hM hP; have G_w3 := Lib.hid hM; have B_w3 := Lib.hid (hP.below B_wr.out (Nat.le_refl _)); clear hM hP)
      exact bodyPost_ret (v := .tuple #[msgV Msg.zero none 0, .bool false, .slice none 0 0, .slice A xs.length c]) (sres4 rfl _ _ w.heap.size 25 (msgC Msg.zero none 0) _ _ _ _ rfl rfl rfl rfl G_w3.out Try.underlying25 rfl msgSize) rfl ⟨Msg.zero, none, 0, none, 0, [], A, c, xs, false, rfl, Or.inr ⟨at_none (by rw [List.length_map]; exact HEX.out), rfl, rfl, rfl, rfl⟩, Nat.le_refl _, HC.out, GL.nil _ _ _, LI.nil _ _ _, HS.out.step B_w3.out, B_w3.out⟩
    | succ gk =>
      have hlt : k < xs.length := by omega
      have e3 : decide ((k : Int) < (xs.length : Int)) = true := decide_eq_true (by omega)
      obtain ⟨x, hx⟩ : ∃ x, xs[k]? = some x := ⟨_, List.getElem?_eq_getElem hlt⟩
      obtain ⟨b, o, hA, hbB, hcc, hpl⟩ := (HS.out.step B_wr.out).at_ hx
      have HLD := Lib.hid (load_msg hcc)
      have HXM : Hid ((xs.map ME.m)[k]? = some x.m) := Lib.hid (by rw [List.getElem?_map, hx]; rfl)
      have HPL : Hid (PL w w.heap.size x.a x.m.props) := Lib.hid (HS.out.2 x (List.mem_of_getElem? hx))
      obtain ⟨bE, hbE⟩ : ∃ b, expiredR x.m now = b := ⟨_, rfl⟩
      have HEXP := HE.out x.m x.a x.c
      rw [hbE] at HEXP
      have HCE := Lib.hid HEXP
      have HBE := Lib.hid hbE
      obtain ⟨AD, hAD⟩ : ∃ AD, AD = (if c = k + 1 then A else A.map (·.add ((k + 1) * 9))) := ⟨_, rfl⟩
      obtain ⟨cd, hcd⟩ : ∃ cd, cd = c - (k + 1) := ⟨_, rfl⟩
      obtain ⟨ds, hds⟩ : ∃ ds, ds = xs.drop (k + 1) := ⟨_, rfl⟩
      obtain ⟨ts, hts⟩ : ∃ ts, ts = xs.take k := ⟨_, rfl⟩
      have HDE : Hid (Value.slice AD ds.length cd = .slice (if c = k + 1 then A else A.map (·.add ((k + 1) * 9))) (xs.length - (k + 1)) (c - (k + 1))) := Lib.hid (by rw [hAD, hcd, hds, List.length_drop])
      have HTE : Hid (Value.slice A ts.length c = .slice A k c) := Lib.hid (by rw [hts, List.length_take, Nat.min_eq_left (by omega)])
      have HDS : Hid (∀ w1, MI w1 w1.heap.size A xs → MI w1 w1.heap.size AD ds) := Lib.hid (fun w1 h => by rw [hAD, hds]; exact LI.drop h (by omega) HC.out)
      have HTS : Hid (∀ w1, MI w1 w1.heap.size A xs → MI w1 w1.heap.size A ts) := Lib.hid (fun w1 h => by rw [hts]; exact LI.take h k)
      have HDM : Hid (ds.map ME.m = (xs.map ME.m).drop (k + 1) ∧ ts.map ME.m = (xs.map ME.m).take k) := Lib.hid (by rw [hds, hts, List.map_drop, List.map_take]; exact ⟨rfl, rfl⟩)
      have HS0 : Hid (∀ w1, Below w.heap.size w w1 → MI w1 w1.heap.size A xs) := Lib.hid (fun w1 h => HS.out.step h)
      have HPL0 : Hid (∀ w1, Below w.heap.size w w1 → PL w1 w1.heap.size x.a x.m.props) := Lib.hid (fun w1 h => GL.step HPL.out h)
      have HK2 : Hid ((xs.length : Int) = xs.length ∧ k + 1 ≤ xs.length ∧ xs.length ≤ c) := Lib.hid ⟨rfl, by omega, HC.out⟩
      have HCX : Hid (∀ w1, Below w.heap.size w w1 → ∀ i v, (gM x)[i]? = some v → w1.cell? ⟨b, o + k * 9 + i, none⟩ = some v) := Lib.hid (fun w1 h i v hv => by
        obtain ⟨b2, o2, e2, hb2, hc2, _⟩ := HS.out.at_ hx
        rw [hA] at e2
        simp only [Option.some.injEq, Addr.mk.injEq, and_true] at e2
        obtain ⟨rfl, rfl⟩ := e2
        rw [h.cell (p := ⟨b, o + k * 9 + i, none⟩) hb2]; exact hc2 i v hv)
      subst hA
      have j1 : (0 : Int) ≤ (k : Int) := by omega
      have j2 : (k : Int) < (xs.length : Int) := by omega
      have j3 : (k : Int) ≤ (c : Int) := by have := HC.out; omega
      have j4 : (k : Int) + 1 ≤ (xs.length : Int) := by omega
      have j5 : (0 : Int) ≤ (k : Int) + 1 := by omega
      have hlk : k ≤ 90000 := by omega
      have HCD : Hid (ds.length ≤ cd ∧ ts.length ≤ c) := Lib.hid (by rw [hds, hts, hcd, List.length_drop, List.length_take]; have := HC.out; omega)
      clear hx hcc hpl hbB hkg hbE HEXP hAD hcd hds hts
      go_wp2_with first
        | (refine wpList_load_v (by rfl) 25 _ rfl ⟨b, o + k * 9, none⟩ (by go_simp) _ HLD.out ?_)
      refine (HCE.out wr).mono ?_
      rintro e w3 ⟨rfl, hb⟩
      have G_w3 := Lib.hid (G_wr.out.step hb)
      have B_w3 := Lib.hid (stepB B_wr.out hb)
      clear hb G_wr B_wr HCE HLD
      cases bE with
      | true =>
        have q1 : (!true) = false := rfl
        go_wp2_with fail
        go_roundg gk
        case measure => omega
        case rel => exact ⟨k + 1, by have := HK.out; omega, by go_num, HEX.out.succ HXM.out HBE.out, G_w3.out, B_w3.out⟩
      | false =>
        go_upto_region 5 with fail
        obtain ⟨x1, hx1⟩ : ∃ x1, x1 = World.drew w3 := ⟨_, rfl⟩
        have hbD : Below w3.heap.size w3 x1 := by rw [hx1]; exact (Below.refl _ _).drew
        have G_x1 : Hid (BK 25 x1 w.heap.size (msgC Msg.zero none 0)) := Lib.hid (G_w3.out.step hbD)
        have B_x1 : Hid (Below w.heap.size w x1) := Lib.hid (stepB B_w3.out hbD)
        clear G_w3 B_w3
        have hbd : (fun w' => Below w.heap.size w w') (World.drew w3) := by rw [← hx1]; exact B_x1.out
        have hSD : (fun w' => Below w.heap.size w w') x1 := B_x1.out
        have HWD := Lib.hid hx1
        clear hx1 hbD
        refine wp_region_held_drew (S := fun w' => Below w.heap.size w w') (by kernel_rfl) hbd (fun hHeld => ?_)
        rw [← HWD.out]
        clear hHeld
        have hHeld := hSD
        clear hSD hbd HWD
        refine wpAnyH_take (i := 0) (v := .slice (some ⟨b, o, none⟩) xs.length c) (get_ops _ _ _ rfl) (by kernel_rfl) (by kernel_rfl) (by kernel_rfl) (fun _ _ _ h => h) (Or.inl ⟨by rfl, fun wS hSw => by (try dsimp only at hSw); go_simp⟩) hHeld ?_
        try simp only [Act.put, List.setIfInBounds_toArray, List.set_cons_zero, List.set_cons_succ]
        refine wpAnyH_take (i := 1) (v := .int .i64 k) (get_ops _ _ _ rfl) (by kernel_rfl) (by kernel_rfl) (by kernel_rfl) (fun _ _ _ h => h) (Or.inl ⟨by rfl, fun wS hSw => by (try dsimp only at hSw); go_simp⟩) hHeld ?_
        try simp only [Act.put, List.setIfInBounds_toArray, List.set_cons_zero, List.set_cons_succ]
        refine wpAnyH_take (i := 2) (v := .pointer (some ⟨b, o + k * 9, none⟩)) (get_ops _ _ _ rfl) (by kernel_rfl) (by kernel_rfl) (by kernel_rfl) (fun _ _ _ h => h) (Or.inl ⟨by rfl, fun wS hSw => by (try dsimp only at hSw); go_simp⟩) hHeld ?_
        try simp only [Act.put, List.setIfInBounds_toArray, List.set_cons_zero, List.set_cons_succ]
        refine wpAnyH_take (i := 3) (v := (msgV x.m x.a x.c)) (get_ops _ _ _ rfl) (by kernel_rfl) (by kernel_rfl) (by kernel_rfl) (fun _ _ _ h => h) (Or.inl ⟨by rfl, fun wS hSw => by (try dsimp only at hSw); exact exec_load 25 _ rfl ⟨b, o + k * 9, none⟩ (by go_simp) _ (load_msg (HCX.out _ hSw))⟩) hHeld ?_
        try simp only [Act.put, List.setIfInBounds_toArray, List.set_cons_zero, List.set_cons_succ]
        refine wpAnyH_take (i := 4) (v := .slice (some ⟨b, o, none⟩) xs.length c) (get_ops _ _ _ rfl) (by kernel_rfl) (by kernel_rfl) (by kernel_rfl) (fun _ _ _ h => h) (Or.inl ⟨by rfl, fun wS hSw => by (try dsimp only at hSw); go_simp⟩) hHeld ?_
        try simp only [Act.put, List.setIfInBounds_toArray, List.set_cons_zero, List.set_cons_succ]
        refine wpAnyH_take (i := 5) (v := .int .i64 k) (get_ops _ _ _ rfl) (by kernel_rfl) (by kernel_rfl) (by kernel_rfl) (fun _ _ _ h => h) (Or.inl ⟨by rfl, fun wS hSw => by (try dsimp only at hSw); go_simp⟩) hHeld ?_
        try simp only [Act.put, List.setIfInBounds_toArray, List.set_cons_zero, List.set_cons_succ]
        refine wpAnyH_take (i := 6) (v := .int .i64 ((k : Int) + 1)) (get_ops _ _ _ rfl) (by kernel_rfl) (by kernel_rfl) (by kernel_rfl) (fun _ _ _ h => h) (Or.inl ⟨by rfl, fun wS hSw => by (try dsimp only at hSw); go_simp; rw [S2.wrap_i64_id _ (by omega) (by omega)]⟩) hHeld ?_
        try simp only [Act.put, List.setIfInBounds_toArray, List.set_cons_zero, List.set_cons_succ]
        refine wpAnyH_take (i := 7) (v := (.slice AD ds.length cd)) (get_ops _ _ _ rfl) (by kernel_rfl) (by kernel_rfl) (by kernel_rfl) (fun _ _ _ h => h) (Or.inl ⟨by rfl, fun wS hSw => by (try dsimp only at hSw); rw [HDE.out]; go_simp⟩) hHeld ?_
        try simp only [Act.put, List.setIfInBounds_toArray, List.set_cons_zero, List.set_cons_succ]
        refine wpAnyH_take (i := 8) (v := .slice (some ⟨b, o, none⟩) xs.length c) (get_ops _ _ _ rfl) (by kernel_rfl) (by kernel_rfl) (by kernel_rfl) (fun _ _ _ h => h) (Or.inl ⟨by rfl, fun wS hSw => by (try dsimp only at hSw); go_simp⟩) hHeld ?_
        try simp only [Act.put, List.setIfInBounds_toArray, List.set_cons_zero, List.set_cons_succ]
        refine wpAnyH_take (i := 9) (v := .int .i64 k) (get_ops _ _ _ rfl) (by kernel_rfl) (by kernel_rfl) (by kernel_rfl) (fun _ _ _ h => h) (Or.inl ⟨by rfl, fun wS hSw => by (try dsimp only at hSw); go_simp⟩) hHeld ?_
        try simp only [Act.put, List.setIfInBounds_toArray, List.set_cons_zero, List.set_cons_succ]
        refine wpAnyH_take (i := 10) (v := (.slice (some ⟨b, o, none⟩) ts.length c)) (get_ops _ _ _ rfl) (by kernel_rfl) (by kernel_rfl) (by kernel_rfl) (fun _ _ _ h => h) (Or.inl ⟨by rfl, fun wS hSw => by (try dsimp only at hSw); rw [HTE.out]; go_simp⟩) hHeld ?_
        try simp only [Act.put, List.setIfInBounds_toArray, List.set_cons_zero, List.set_cons_succ]
        refine wpAnyH_ready (rs := [11]) (by kernel_rfl) (by simp) ?_
        refine (AllReadyH.cons (get_ops _ _ _ rfl) (fun K hK => ?_) AllReadyH.nil)
        refine S2.wp_store_all 25 _ _ rfl rfl w.heap.size (by go_simp) (msgC x.m x.a x.c) (by first | rfl | go_simp) 25 (msgC Msg.zero none 0) G_x1.out msgSize rfl (msgC_one _ _ _) ?_
        intro x2 hM hP
        have G_x2 : Hid (BK 25 x2 w.heap.size (msgC x.m x.a x.c)) := Lib.hid (hM)
        have B_x2 : Hid (Below w.heap.size w x2) := Lib.hid (hP.below B_x1.out (Nat.le_refl _))
        clear G_x1 B_x1
        clear hM hP hHeld
        refine hK.out _ _ B_x2.out (fun hHeld => ?_)
        clear hK K
        try simp only [Act.put, List.setIfInBounds_toArray, List.set_cons_zero, List.set_cons_succ]
        refine wpAnyH_take (i := 12) (v := .bool true) (get_ops _ _ _ rfl) (by kernel_rfl) (by kernel_rfl) (by kernel_rfl) (fun _ _ _ h => h) (Or.inl ⟨by rfl, fun wS hSw => by (try dsimp only at hSw); go_simp⟩) hHeld ?_
        try simp only [Act.put, List.setIfInBounds_toArray, List.set_cons_zero, List.set_cons_succ]
        refine wpAnyH_take (i := 13) (v := .slice AD ds.length cd) (get_ops _ _ _ rfl) (by kernel_rfl) (by kernel_rfl) (by kernel_rfl) (fun _ _ _ h => h) (Or.inl ⟨by rfl, fun wS hSw => by (try dsimp only at hSw); go_simp⟩) hHeld ?_
        try simp only [Act.put, List.setIfInBounds_toArray, List.set_cons_zero, List.set_cons_succ]
        refine wpAnyH_take (i := 14) (v := .slice (some ⟨b, o, none⟩) ts.length c) (get_ops _ _ _ rfl) (by kernel_rfl) (by kernel_rfl) (by kernel_rfl) (fun _ _ _ h => h) (Or.inl ⟨by rfl, fun wS hSw => by (try dsimp only at hSw); go_simp⟩) hHeld ?_
        try simp only [Act.put, List.setIfInBounds_toArray, List.set_cons_zero, List.set_cons_succ]
        refine wpAnyH_done (by kernel_rfl) ?_ _
        go_wp2_with fail
        exact bodyPost_ret (v := .tuple #[msgV x.m x.a x.c, .bool true, .slice AD ds.length cd, .slice (some ⟨b, o, none⟩) ts.length c]) (sres4 rfl _ _ w.heap.size 25 (msgC x.m x.a x.c) _ _ _ _ rfl rfl rfl rfl G_x2.out Try.underlying25 rfl msgSize) rfl ⟨x.m, x.a, x.c, AD, cd, ds, (some ⟨b, o, none⟩), c, ts, true, rfl, Or.inl ⟨by rw [at_found HEX.out HXM.out HBE.out]; exact (List.getElem?_eq_some_iff.1 HXM.out).1, rfl, by rw [at_found HEX.out HXM.out HBE.out]; exact HXM.out, by rw [at_found HEX.out HXM.out HBE.out]; exact HDM.out.1, by rw [at_found HEX.out HXM.out HBE.out]; exact HDM.out.2⟩, HCD.out.1, HCD.out.2, HPL0.out _ B_x2.out, HDS.out _ (HS0.out _ B_x2.out), HTS.out _ (HS0.out _ B_x2.out), B_x2.out⟩
end Go.Proofs.Ytgnbiicfabldbab
