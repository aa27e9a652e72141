/-
  What Add, Remove and Count of fair and of its specification answer. Conditions: lists read as data; at most a million consumers; names fit an int; for Count the counts lie in range.
-/
import Derived.Test.YtjkhfifnfgchgaaFaB
import Derived.Test.YtjkhfifnfgchgaaFaV
namespace Go.Proofs.Ytjkhfifnfgchgaa
open Go.RowKit
open S2 (BK Put get_ops exec_load)

/-- a list and an error that a call answers -/
def RetAd (r : List Cs × Int) (w : World) (e : Ending) (w' : World) : Prop := ∃ v, e = .returned (.tuple #[v, .int .i64 r.2]) ∧ OwnC w' w.heap.size v r.1 ∧ Below w.heap.size w w'
theorem addC_err {l : List Cs} {x : Cs} (h : oneC l x ≠ 0) : addC l x = ([], oneC l x) := by unfold addC; rw [if_pos h]
theorem addC_full {l : List Cs} {x : Cs} (h : oneC l x = 0) (h2 : 32 ≤ l.length) : addC l x = ([], 6) := by unfold addC; rw [if_neg (by rw [h]; simp), if_pos h2]
theorem addC_ok {l : List Cs} {x : Cs} (h : oneC l x = 0) (h2 : ¬ 32 ≤ l.length) : addC l x = (l ++ [x], 0) := by unfold addC; rw [if_neg (by rw [h]; simp), if_neg h2]
theorem remC_none {l : List Cs} {cn tg : Int} (h : fnC l cn tg = none) : remC l cn tg = ([], 8) := by unfold remC; rw [h]
theorem remC_some {l : List Cs} {cn tg : Int} {i : Nat} (h : fnC l cn tg = some i) : remC l cn tg = (l.eraseIdx i, 0) := by unfold remC; rw [h, erase_eq]
theorem cntC_none {l : List Cs} {cn tg n : Int} (h : fnC l cn tg = none) : cntC l cn tg n = l := by unfold cntC; rw [h]
theorem cntC_some {l : List Cs} {cn tg n : Int} {i : Nat} {x : Cs} (h : fnC l cn tg = some i) (hx : l[i]? = some x) : cntC l cn tg n = l.set i { x with una := clampC x.una n } := by unfold cntC; rw [h]; dsimp only; rw [hx]

theorem GLdrop {α : Type} {g : α → List Value} {k : Nat} {w : World} {B : Nat} {A : Option Addr} {xs : List α} (h : GL g k w B A xs) {n cap : Nat} (hn : n ≤ xs.length) (hc : xs.length ≤ cap) : GL g k w B (if cap = n then A else A.map (·.add (n * k))) (xs.drop n) := fun h0 => by
  rw [List.length_drop] at h0
  obtain ⟨b, o, e, hb, hcell⟩ := h (by omega)
  rw [if_neg (by omega), e]
  refine ⟨b, o + n * k, ?_, hb, fun j x i v hx hv => ?_⟩
  · simp only [Option.map_some, Addr.add]
    split
    · next h0 => rw [h0]; rfl
    · rfl
  · rw [List.getElem?_drop] at hx
    have := hcell _ x i v hx hv
    rw [Nat.add_mul, ← Nat.add_assoc o (n * k) (j * k)] at this
    exact this

set_option maxRecDepth 20000 in
set_option maxHeartbeats 8000000 in
theorem fAdd_any (A : Option Addr) (c : Nat) (xs : List Cs) (x : Cs) (w : World) (h : CsL w w.heap.size A xs) (hn : xs.length ≤ 1000000) (hq : x.qu.size ≤ 9223372036854775807) :
    Calls Try.prog 15 #[.slice A xs.length c, csV x] w (RetAd (addC xs x) w) := by
  have HO := Lib.hid (fun (w1 : World) (hs : CsL w1 w1.heap.size A xs) => fOne_any A c xs x w1 hs (by omega) hq)
  have HCL := Lib.hid (fun (w1 : World) (hs : CsL w1 w1.heap.size A xs) => cloneC_any A c xs w1 hs hn)
  have HS := Lib.hid h
  have HE := Lib.hid (@addC_err xs x)
  have HF := Lib.hid (@addC_full xs x)
  have HK := Lib.hid (@addC_ok xs x)
  obtain ⟨R, hR⟩ : ∃ R, addC xs x = R := ⟨_, rfl⟩
  rw [hR] at HE HF HK ⊢
  have HN := Lib.hid hn
  clear h hR hq hn
  unfold csV
  go_enter Try.func15, Try.ntmps15
  go_upto_region 1 with fail
  refine name_world (C := fun w1 => Code.wp _ _ _ _ w1) (w.alloc (.cells (gC x).toArray 25)) ?_
  intro w1 hw1
  have hb1 : Below w.heap.size w w1 := by rw [hw1]; exact S2.below_new w _
  have V_w1 : Hid (BK 25 w1 w.heap.size (gC x)) := Lib.hid (by rw [hw1]; exact BK.new w _ _)
  have S_w1 : Hid (CsL w1 w1.heap.size A xs) := Lib.hid (GL.step HS.out hb1)
  have B_w1 := Lib.hid hb1
  have hz1 : w1.heap.size = w.heap.size + 1 := by rw [hw1]; simp
  obtain ⟨q, hqq⟩ : ∃ q, q = w1.heap.size := ⟨_, rfl⟩
  have HQ : Hid (w.heap.size < q) := Lib.hid (by omega)
  have Z_w1 : Hid (q ≤ w1.heap.size) := Lib.hid (by omega)
  clear hw1 hb1 hz1 hqq HS
  go_wp2_with first
    | (refine wpList_load_v (by rfl) 25 _ rfl ⟨w.heap.size, 0, none⟩ (by first | rfl | go_simp) _ (load_cs0 V_w1.out) ?_; unfold csV)
  refine (HO.out w1 S_w1.out).mono ?_
  rintro e w2 ⟨rfl, hb⟩
  have V_w2 := Lib.hid (V_w1.out.step hb)
  have S_w2 := Lib.hid (GL.step S_w1.out hb)
  have B_w2 := Lib.hid (stepB B_w1.out hb)
  have Z_w2 := Lib.hid (Nat.le_trans Z_w1.out hb.size)
  clear hb V_w1 S_w1 B_w1 Z_w1 HO
  generalize oneC xs x = E at *
  by_cases hE : E = 0
  · have q1 : (E != 0) = false := by rw [hE]; rfl
    by_cases h32 : 32 ≤ xs.length
    · have q2 : decide ((32 : Int) ≤ (xs.length : Int)) = true := decide_eq_true (by omega)
      have q2' : decide (32 ≤ xs.length) = true := decide_eq_true h32
      have HR := Lib.hid (HF.out hE h32)
      clear hE h32
      go_wp2_with fail
      go_ret2
      rw [HR.out]
      exact ⟨_, rfl, OwnG.nil _ _, B_w2.out⟩
    · have q2 : decide ((32 : Int) ≤ (xs.length : Int)) = false := decide_eq_false (by omega)
      have q2' : decide (32 ≤ xs.length) = false := decide_eq_false h32
      have HR := Lib.hid (HK.out hE h32)
      clear hE h32
      go_upto_region 6 with fail
      clear q1 q2 q2'
      obtain ⟨x1, hx1⟩ : ∃ x1, x1 = World.drew w2 := ⟨_, rfl⟩
      have hbD : Below w2.heap.size w2 x1 := by rw [hx1]; exact (Below.refl _ _).drew
      have V_x1 : Hid (BK 25 x1 w.heap.size (gC x)) := Lib.hid (V_w2.out.step hbD)
      have B_x1 : Hid (Below w.heap.size w x1) := Lib.hid (stepB B_w2.out hbD)
      have Z_x1 : Hid (q ≤ x1.heap.size) := Lib.hid (Nat.le_trans Z_w2.out hbD.size)
      have S_x1 : Hid (CsL x1 x1.heap.size A xs) := Lib.hid (GL.step S_w2.out hbD)
      clear V_w2 B_w2 Z_w2 S_w2
      have hbd : (fun w' => BK 25 w' w.heap.size (gC x)) (World.drew w2) := by rw [← hx1]; exact V_x1.out
      have hSD : (fun w' => BK 25 w' w.heap.size (gC x)) x1 := V_x1.out
      have HWD := Lib.hid hx1
      clear hx1 hbD
      refine wp_region_held_drew (S := fun w' => BK 25 w' w.heap.size (gC x)) (by kernel_rfl) hbd (fun hHeld => ?_)
      rw [← HWD.out]
      clear hHeld
      have hHeld := hSD
      clear hSD hbd HWD
      refine wpAnyH_take (i := 0) (v := .slice A xs.length c) (get_ops _ _ _ rfl) (by kernel_rfl) (by kernel_rfl) (by kernel_rfl) (fun _ _ _ h => h) (Or.inl ⟨by rfl, fun wS hSw => by (try dsimp only at hSw); go_simp⟩) hHeld ?_
      try simp only [Act.put, List.setIfInBounds_toArray, List.set_cons_zero, List.set_cons_succ]
      refine wpAnyH_take (i := 2) (v := (.agg (gC x).toArray)) (get_ops _ _ _ rfl) (by kernel_rfl) (by kernel_rfl) (by kernel_rfl) (fun _ _ _ h => h) (Or.inl ⟨by rfl, fun wS hSw => by (try dsimp only at hSw); exact exec_load 25 _ rfl ⟨w.heap.size, 0, none⟩ (by go_simp) _ (load_cs0 hSw)⟩) hHeld ?_
      try simp only [Act.put, List.setIfInBounds_toArray, List.set_cons_zero, List.set_cons_succ]
      refine wpAnyH_ready (rs := [1, 3]) (by kernel_rfl) (by simp) ?_
      refine (AllReadyH.cons (get_ops _ _ _ rfl) (fun K hK => ?_) (AllReadyH.cons (get_ops _ _ _ rfl) (fun K hK => ?_) AllReadyH.nil))
      · go_simp
        refine (HCL.out x1 S_x1.out).mono ?_
        rintro e x2 ⟨vc, rfl, hown, hb⟩
        have hown2 := OwnG.weak hown Z_x1.out
        have V_x2 : Hid (BK 25 x2 w.heap.size (gC x)) := Lib.hid (V_x1.out.step hb)
        have B_x2 : Hid (Below w.heap.size w x2) := Lib.hid (stepB B_x1.out hb)
        have Z_x2 : Hid (q ≤ x2.heap.size) := Lib.hid (Nat.le_trans Z_x1.out hb.size)
        have S_x2 : Hid (CsL x2 x2.heap.size A xs) := Lib.hid (GL.step S_x1.out hb)
        clear V_x1 B_x1 Z_x1 S_x1
        have Lc_x2 : Hid (OwnG 25 gC 5 x2 q vc xs) := Lib.hid hown2
        clear hown hown2 hHeld hb
        clear S_x2
        go_wp2_with fail
        refine hK.out _ _ V_x2.out (fun hHeld => ?_)
        clear hK K
        try simp only [Act.put, List.setIfInBounds_toArray, List.set_cons_zero, List.set_cons_succ]
        refine wpAnyH_ready (rs := [3]) (by kernel_rfl) (by simp) ?_
        refine (AllReadyH.cons (get_ops _ _ _ rfl) (fun K hK => ?_) AllReadyH.nil)
        go_simp
        obtain ⟨bm, hbm⟩ : ∃ n, n = x2.heap.size := ⟨_, rfl⟩
        refine name_world (C := fun w9 => K _ w9) (x2.alloc (.cells (gC x).toArray 25)) ?_
        intro x3 hx3
        have hb : Below x2.heap.size x2 x3 := by rw [hx3]; exact S2.below_new _ _
        have hN : BK 25 x3 bm (gC x) := by rw [hx3, hbm]; exact BK.new _ _ _
        have HD_c_m : Hid (vc.ownBlock ≠ some bm) := Lib.hid (OwnG.high Lc_x2.out (by omega))
        have V_x3 : Hid (BK 25 x3 w.heap.size (gC x)) := Lib.hid (V_x2.out.step hb)
        have B_x3 : Hid (Below w.heap.size w x3) := Lib.hid (stepB B_x2.out hb)
        have Z_x3 : Hid (q ≤ x3.heap.size) := Lib.hid (Nat.le_trans Z_x2.out hb.size)
        have Lc_x3 : Hid (OwnG 25 gC 5 x3 q vc xs) := Lib.hid (OwnG.step Lc_x2.out hb)
        clear V_x2 B_x2 Z_x2 Lc_x2
        have Xm_x3 := Lib.hid hN
        try rw [← hbm]
        clear hHeld hb hN hx3 hbm
        refine hK.out _ _ V_x3.out (fun hHeld => ?_)
        clear hK K
        try simp only [Act.put, List.setIfInBounds_toArray, List.set_cons_zero, List.set_cons_succ]
        refine wpAnyH_ready (rs := [4]) (by kernel_rfl) (by simp) ?_
        refine (AllReadyH.cons (get_ops _ _ _ rfl) (fun K hK => ?_) AllReadyH.nil)
        have hoy := Lc_x3.out
        refine oper_appG (g := gC) (k := 5) (e := 25) (by decide) (.tmp 17) (.tmp 19) 22 22 rfl (.agg #[.int .i64 0, .int .i64 0, .string ByteArray.empty, .int .i64 0, .int .i64 0]) 48 Try.underlying22 conInfo rfl (by decide) q vc xs [x] _ (by go_simp) hoy (by go_simp) (src_blk gC_len gC_one Try.underlying22 Xm_x3.out) Z_x3.out (by have := HN.out; simp; omega) ?_
        intro vd x4 hown hgr hoffs
        have V_x4 : Hid (BK 25 x4 w.heap.size (gC x)) := Lib.hid (BK.grow V_x3.out hgr (OwnG.off hoy (HQ.out)))
        have B_x4 : Hid (Below w.heap.size w x4) := Lib.hid (Below.grow B_x3.out hoy hgr B_x3.out.size (Nat.le_of_lt HQ.out))
        have Z_x4 : Hid (q ≤ x4.heap.size) := Lib.hid (Nat.le_trans Z_x3.out hgr.size)
        have Xm_x4 : Hid (BK 25 x4 bm (gC x)) := Lib.hid (BK.grow Xm_x3.out hgr HD_c_m.out)
        have HD_d_m : Hid (vd.ownBlock ≠ some bm) := Lib.hid (hoffs _ Xm_x3.out.lt HD_c_m.out)
        have Ld_x4 : Hid (OwnG 25 gC 5 x4 q vd (xs ++ [x])) := Lib.hid hown
        clear hoy hown hgr hoffs hHeld V_x3 B_x3 Z_x3 Lc_x3 Xm_x3
        refine hK.out _ _ V_x4.out (fun hHeld => ?_)
        clear hK K
        try simp only [Act.put, List.setIfInBounds_toArray, List.set_cons_zero, List.set_cons_succ]
        refine wpAnyH_take (i := 5) (v := vd) (get_ops _ _ _ rfl) (by kernel_rfl) (by kernel_rfl) (by kernel_rfl) (fun _ _ _ h => h) (Or.inl ⟨by rfl, fun wS hSw => by (try dsimp only at hSw); go_simp⟩) hHeld ?_
        try simp only [Act.put, List.setIfInBounds_toArray, List.set_cons_zero, List.set_cons_succ]
        refine wpAnyH_take (i := 6) (v := .int .i64 0) (get_ops _ _ _ rfl) (by kernel_rfl) (by kernel_rfl) (by kernel_rfl) (fun _ _ _ h => h) (Or.inl ⟨by rfl, fun wS hSw => by (try dsimp only at hSw); go_simp⟩) hHeld ?_
        try simp only [Act.put, List.setIfInBounds_toArray, List.set_cons_zero, List.set_cons_succ]
        refine wpAnyH_done (by kernel_rfl) ?_ _
        go_wp2_with fail
        go_ret2
        rw [HR.out]
        exact ⟨_, rfl, OwnG.weak Ld_x4.out (Nat.le_of_lt HQ.out), B_x4.out⟩
      · go_simp
        obtain ⟨bm, hbm⟩ : ∃ n, n = x1.heap.size := ⟨_, rfl⟩
        refine name_world (C := fun w9 => K _ w9) (x1.alloc (.cells (gC x).toArray 25)) ?_
        intro x2 hx2
        have hb : Below x1.heap.size x1 x2 := by rw [hx2]; exact S2.below_new _ _
        have hN : BK 25 x2 bm (gC x) := by rw [hx2, hbm]; exact BK.new _ _ _
        have V_x2 : Hid (BK 25 x2 w.heap.size (gC x)) := Lib.hid (V_x1.out.step hb)
        have B_x2 : Hid (Below w.heap.size w x2) := Lib.hid (stepB B_x1.out hb)
        have Z_x2 : Hid (q ≤ x2.heap.size) := Lib.hid (Nat.le_trans Z_x1.out hb.size)
        have S_x2 : Hid (CsL x2 x2.heap.size A xs) := Lib.hid (GL.step S_x1.out hb)
        clear V_x1 B_x1 Z_x1 S_x1
        have Xm_x2 := Lib.hid hN
        try rw [← hbm]
        clear hHeld hb hN hx2 hbm
        refine hK.out _ _ V_x2.out (fun hHeld => ?_)
        clear hK K
        try simp only [Act.put, List.setIfInBounds_toArray, List.set_cons_zero, List.set_cons_succ]
        refine wpAnyH_ready (rs := [1]) (by kernel_rfl) (by simp) ?_
        refine (AllReadyH.cons (get_ops _ _ _ rfl) (fun K hK => ?_) AllReadyH.nil)
        go_simp
        refine (HCL.out x2 S_x2.out).mono ?_
        rintro e x3 ⟨vc, rfl, hown, hb⟩
        have hown2 := OwnG.weak hown Z_x2.out
        have HD_c_m : Hid (vc.ownBlock ≠ some bm) := Lib.hid (OwnG.off hown (Xm_x2.out.lt))
        have V_x3 : Hid (BK 25 x3 w.heap.size (gC x)) := Lib.hid (V_x2.out.step hb)
        have B_x3 : Hid (Below w.heap.size w x3) := Lib.hid (stepB B_x2.out hb)
        have Z_x3 : Hid (q ≤ x3.heap.size) := Lib.hid (Nat.le_trans Z_x2.out hb.size)
        have S_x3 : Hid (CsL x3 x3.heap.size A xs) := Lib.hid (GL.step S_x2.out hb)
        have Xm_x3 : Hid (BK 25 x3 bm (gC x)) := Lib.hid (Xm_x2.out.step hb)
        clear V_x2 B_x2 Z_x2 S_x2 Xm_x2
        have Lc_x3 : Hid (OwnG 25 gC 5 x3 q vc xs) := Lib.hid hown2
        clear hown hown2 hHeld hb
        clear S_x3
        go_wp2_with fail
        refine hK.out _ _ V_x3.out (fun hHeld => ?_)
        clear hK K
        try simp only [Act.put, List.setIfInBounds_toArray, List.set_cons_zero, List.set_cons_succ]
        refine wpAnyH_ready (rs := [4]) (by kernel_rfl) (by simp) ?_
        refine (AllReadyH.cons (get_ops _ _ _ rfl) (fun K hK => ?_) AllReadyH.nil)
        have hoy := Lc_x3.out
        refine oper_appG (g := gC) (k := 5) (e := 25) (by decide) (.tmp 17) (.tmp 19) 22 22 rfl (.agg #[.int .i64 0, .int .i64 0, .string ByteArray.empty, .int .i64 0, .int .i64 0]) 48 Try.underlying22 conInfo rfl (by decide) q vc xs [x] _ (by go_simp) hoy (by go_simp) (src_blk gC_len gC_one Try.underlying22 Xm_x3.out) Z_x3.out (by have := HN.out; simp; omega) ?_
        intro vd x4 hown hgr hoffs
        have V_x4 : Hid (BK 25 x4 w.heap.size (gC x)) := Lib.hid (BK.grow V_x3.out hgr (OwnG.off hoy (HQ.out)))
        have B_x4 : Hid (Below w.heap.size w x4) := Lib.hid (Below.grow B_x3.out hoy hgr B_x3.out.size (Nat.le_of_lt HQ.out))
        have Z_x4 : Hid (q ≤ x4.heap.size) := Lib.hid (Nat.le_trans Z_x3.out hgr.size)
        have Xm_x4 : Hid (BK 25 x4 bm (gC x)) := Lib.hid (BK.grow Xm_x3.out hgr HD_c_m.out)
        have HD_d_m : Hid (vd.ownBlock ≠ some bm) := Lib.hid (hoffs _ Xm_x3.out.lt HD_c_m.out)
        have Ld_x4 : Hid (OwnG 25 gC 5 x4 q vd (xs ++ [x])) := Lib.hid hown
        clear hoy hown hgr hoffs hHeld V_x3 B_x3 Z_x3 Xm_x3 Lc_x3
        refine hK.out _ _ V_x4.out (fun hHeld => ?_)
        clear hK K
        try simp only [Act.put, List.setIfInBounds_toArray, List.set_cons_zero, List.set_cons_succ]
        refine wpAnyH_take (i := 5) (v := vd) (get_ops _ _ _ rfl) (by kernel_rfl) (by kernel_rfl) (by kernel_rfl) (fun _ _ _ h => h) (Or.inl ⟨by rfl, fun wS hSw => by (try dsimp only at hSw); go_simp⟩) hHeld ?_
        try simp only [Act.put, List.setIfInBounds_toArray, List.set_cons_zero, List.set_cons_succ]
        refine wpAnyH_take (i := 6) (v := .int .i64 0) (get_ops _ _ _ rfl) (by kernel_rfl) (by kernel_rfl) (by kernel_rfl) (fun _ _ _ h => h) (Or.inl ⟨by rfl, fun wS hSw => by (try dsimp only at hSw); go_simp⟩) hHeld ?_
        try simp only [Act.put, List.setIfInBounds_toArray, List.set_cons_zero, List.set_cons_succ]
        refine wpAnyH_done (by kernel_rfl) ?_ _
        go_wp2_with fail
        go_ret2
        rw [HR.out]
        exact ⟨_, rfl, OwnG.weak Ld_x4.out (Nat.le_of_lt HQ.out), B_x4.out⟩
  · have q1 : (E != 0) = true := bne_iff_ne.2 hE
    have HR := Lib.hid (HE.out hE)
    clear hE
    go_wp2_with fail
    go_ret2
    rw [HR.out]
    exact ⟨_, rfl, OwnG.nil _ _, B_w2.out⟩

set_option maxRecDepth 20000 in
set_option maxHeartbeats 4000000 in
theorem fRemove_any (A : Option Addr) (c : Nat) (xs : List Cs) (cn tg : Int) (w : World) (h : CsL w w.heap.size A xs) (hc : xs.length ≤ c) (hn : xs.length ≤ 1000000) :
    Calls Try.prog 17 #[.slice A xs.length c, .int .i64 cn, .int .i64 tg] w (RetAd (remC xs cn tg) w) := by
  have HFI := Lib.hid (fun (w1 : World) (hs : CsL w1 w1.heap.size A xs) => ffind_any A c xs cn tg w1 hs (by omega))
  have HS := Lib.hid h
  obtain ⟨R, hR⟩ : ∃ R, remC xs cn tg = R := ⟨_, rfl⟩
  have HF : Hid ((fnC xs cn tg = none ∧ ([], 8) = R) ∨ ∃ i, fnC xs cn tg = some i ∧ (xs.take i ++ xs.drop (i + 1), (0 : Int)) = R ∧ i < xs.length) := Lib.hid (by
    cases hf : fnC xs cn tg with
    | none => exact .inl ⟨rfl, by rw [← hR, remC_none hf]⟩
    | some i => obtain ⟨_, _, _, _, hi⟩ := fn_some hf; exact .inr ⟨i, rfl, by rw [← hR, remC_some hf, erase_eq], hi⟩)
  rw [hR]
  generalize fnC xs cn tg = fo at *
  clear h hR
  go_enter Try.func17, Try.ntmps17
  go_wp2_with fail
  refine (HFI.out w HS.out).mono ?_
  rintro e w2 ⟨rfl, hb⟩
  have S_w2 := Lib.hid (GL.step HS.out hb)
  have B_w2 := Lib.hid hb
  clear hb HS
  rcases HF.out with ⟨hf, hR⟩ | ⟨i, hf, hR, hi⟩
  · subst hf
    have HR := Lib.hid hR
    clear hR
    unfold ixI
    dsimp only
    go_wp2_with fail
    go_ret2
    rw [← HR.out]
    exact ⟨_, rfl, OwnG.nil _ _, B_w2.out⟩
  · subst hf
    have HR := Lib.hid hR
    unfold ixI
    dsimp only
    have q1 : ((i : Int) == -1) = false := beq_eq_false_iff_ne.2 (by omega)
    go_upto_region 4 with fail
    have q2 : wrap64 ((i : Int) + 1) = (i : Int) + 1 := S2.wrap64_id _ (by omega) (by omega)
    have m3 : (0 : Int) ≤ (i : Int) := by omega
    have m5 : (i : Int) ≤ (c : Int) := by omega
    have m5' : decide ((i : Int) ≤ (c : Int)) = true := decide_eq_true m5
    have m8 : (0 : Int) ≤ (i : Int) + 1 := by omega
    have m9 : (i : Int) + 1 ≤ (xs.length : Int) := by omega
    obtain ⟨ts, hts⟩ : ∃ ts, xs.take i = ts := ⟨_, rfl⟩
    obtain ⟨ds, hds⟩ : ∃ ds, xs.drop (i + 1) = ds := ⟨_, rfl⟩
    have htl : ts.length = i := by rw [← hts, List.length_take]; omega
    have hdl : ds.length = xs.length - (i + 1) := by rw [← hds, List.length_drop]
    obtain ⟨AD, hAD⟩ : ∃ AD, AD = (if c = i + 1 then A else A.map (·.add ((i + 1) * 5))) := ⟨_, rfl⟩
    obtain ⟨cd, hcd⟩ : ∃ cd, cd = c - (i + 1) := ⟨_, rfl⟩
    have HDE : Hid (Value.slice AD ds.length cd = .slice (if c = i + 1 then A else A.map (·.add ((i + 1) * 5))) (xs.length - (i + 1)) (c - (i + 1))) := Lib.hid (by rw [hAD, hcd, hdl])
    have HTB : Hid (∀ w1, CsL w1 w1.heap.size A xs → CsL w1 w1.heap.size A ts) := Lib.hid (fun w1 h1 => by rw [← hts]; exact GL.take h1 i)
    have HDB : Hid (∀ w1, CsL w1 w1.heap.size A xs → CsL w1 w1.heap.size AD ds) := Lib.hid (fun w1 h1 => by rw [← hds, hAD]; exact GLdrop h1 (by omega) hc)
    have hsum : ts.length + ds.length ≤ 1000000 := by omega
    have HCC := Lib.hid (fun q w1 k0 k1 hq h1 => concatC_any q A AD c cd ts ds w1 k0 k1 hq (HTB.out w1 h1) (HDB.out w1 h1) hsum)
    rw [htl] at HCC
    rw [hts, hds] at HR
    have HN7 := Lib.hid hn
    clear hR hi hts hds htl hdl hAD hcd hsum HTB HDB hc hn q1
    obtain ⟨x1, hx1⟩ : ∃ x1, x1 = World.drew w2 := ⟨_, rfl⟩
    have hbD : Below w2.heap.size w2 x1 := by rw [hx1]; exact (Below.refl _ _).drew
    have S_x1 : Hid (CsL x1 x1.heap.size A xs) := Lib.hid (GL.step S_w2.out hbD)
    have B_x1 : Hid (Below w.heap.size w x1) := Lib.hid (stepB B_w2.out hbD)
    clear S_w2 B_w2
    have hbd : (fun w' => Below w.heap.size w w') (World.drew w2) := by rw [← hx1]; exact B_x1.out
    have hSD : (fun w' => Below w.heap.size w w') x1 := B_x1.out
    have HWD := Lib.hid hx1
    clear hx1 hbD
    refine wp_region_held_drew (S := fun w' => Below w.heap.size w w') (by kernel_rfl) hbd (fun hHeld => ?_)
    rw [← HWD.out]
    clear hHeld
    have hHeld := hSD
    clear hSD hbd HWD
    refine wpAnyH_take (i := 0) (v := .slice A xs.length c) (get_ops _ _ _ rfl) (by kernel_rfl) (by kernel_rfl) (by kernel_rfl) (fun _ _ _ h => h) (Or.inl ⟨by rfl, fun wS hSw => by (try dsimp only at hSw); go_simp⟩) hHeld ?_
    try simp only [Act.put, List.setIfInBounds_toArray, List.set_cons_zero, List.set_cons_succ]
    refine wpAnyH_take (i := 1) (v := .int .i64 i) (get_ops _ _ _ rfl) (by kernel_rfl) (by kernel_rfl) (by kernel_rfl) (fun _ _ _ h => h) (Or.inl ⟨by rfl, fun wS hSw => by (try dsimp only at hSw); go_simp⟩) hHeld ?_
    try simp only [Act.put, List.setIfInBounds_toArray, List.set_cons_zero, List.set_cons_succ]
    refine wpAnyH_take (i := 2) (v := .slice A i c) (get_ops _ _ _ rfl) (by kernel_rfl) (by kernel_rfl) (by kernel_rfl) (fun _ _ _ h => h) (Or.inl ⟨by rfl, fun wS hSw => by (try dsimp only at hSw); go_simp⟩) hHeld ?_
    try simp only [Act.put, List.setIfInBounds_toArray, List.set_cons_zero, List.set_cons_succ]
    refine wpAnyH_take (i := 3) (v := .slice A xs.length c) (get_ops _ _ _ rfl) (by kernel_rfl) (by kernel_rfl) (by kernel_rfl) (fun _ _ _ h => h) (Or.inl ⟨by rfl, fun wS hSw => by (try dsimp only at hSw); go_simp⟩) hHeld ?_
    try simp only [Act.put, List.setIfInBounds_toArray, List.set_cons_zero, List.set_cons_succ]
    refine wpAnyH_take (i := 4) (v := .int .i64 i) (get_ops _ _ _ rfl) (by kernel_rfl) (by kernel_rfl) (by kernel_rfl) (fun _ _ _ h => h) (Or.inl ⟨by rfl, fun wS hSw => by (try dsimp only at hSw); go_simp⟩) hHeld ?_
    try simp only [Act.put, List.setIfInBounds_toArray, List.set_cons_zero, List.set_cons_succ]
    refine wpAnyH_take (i := 5) (v := .int .i64 ((i : Int) + 1)) (get_ops _ _ _ rfl) (by kernel_rfl) (by kernel_rfl) (by kernel_rfl) (fun _ _ _ h => h) (Or.inl ⟨by rfl, fun wS hSw => by (try dsimp only at hSw); have hww : IntKind.i64.wrap ((i : Int) + 1) = (i : Int) + 1 := S2.wrap_i64_id _ (by omega) (by have := HN7.out; omega); go_simp⟩) hHeld ?_
    try simp only [Act.put, List.setIfInBounds_toArray, List.set_cons_zero, List.set_cons_succ]
    refine wpAnyH_take (i := 6) (v := .slice AD ds.length cd) (get_ops _ _ _ rfl) (by kernel_rfl) (by kernel_rfl) (by kernel_rfl) (fun _ _ _ h => h) (Or.inl ⟨by rfl, fun wS hSw => by (try dsimp only at hSw); rw [HDE.out]; go_simp⟩) hHeld ?_
    try simp only [Act.put, List.setIfInBounds_toArray, List.set_cons_zero, List.set_cons_succ]
    refine wpAnyH_ready (rs := [7]) (by kernel_rfl) (by simp) ?_
    refine (AllReadyH.cons (get_ops _ _ _ rfl) (fun K hK => ?_) AllReadyH.nil)
    go_simp
    obtain ⟨vb, hvb⟩ : ∃ n, n = x1.heap.size := ⟨_, rfl⟩
    refine name_world (C := fun w9 => K _ w9) (x1.alloc (.cells ([.slice A i c, .slice AD ds.length cd] : List Value).toArray 22)) ?_
    intro x2 hx2
    have hb : Below x1.heap.size x1 x2 := by rw [hx2]; exact S2.below_new _ _
    have hN : BK 22 x2 vb ([.slice A i c, .slice AD ds.length cd] : List Value) := by rw [hx2, hvb]; exact BK.new _ _ _
    have S_x2 : Hid (CsL x2 x2.heap.size A xs) := Lib.hid (GL.step S_x1.out hb)
    have B_x2 : Hid (Below w.heap.size w x2) := Lib.hid (stepB B_x1.out hb)
    clear S_x1 B_x1
    have X_x2 := Lib.hid hN
    try rw [← hvb]
    clear hHeld hb hN hx2 hvb
    refine hK.out _ _ B_x2.out (fun hHeld => ?_)
    clear hK K
    try simp only [Act.put, List.setIfInBounds_toArray, List.set_cons_zero, List.set_cons_succ]
    refine wpAnyH_ready (rs := [8]) (by kernel_rfl) (by simp) ?_
    refine (AllReadyH.cons (get_ops _ _ _ rfl) (fun K hK => ?_) AllReadyH.nil)
    go_simp
    refine (HCC.out vb x2 (X_x2.out.cell 0 rfl) (X_x2.out.cell 1 rfl) X_x2.out.lt S_x2.out).mono ?_
    rintro e x3 ⟨vc, rfl, hown, hb⟩
    have HOWN := Lib.hid (OwnG.weak hown B_x2.out.size)
    have S_x3 : Hid (CsL x3 x3.heap.size A xs) := Lib.hid (GL.step S_x2.out hb)
    have B_x3 : Hid (Below w.heap.size w x3) := Lib.hid (stepB B_x2.out hb)
    have X_x3 : Hid (BK 22 x3 vb ([.slice A i c, .slice AD ds.length cd] : List Value)) := Lib.hid (X_x2.out.step hb)
    clear S_x2 B_x2 X_x2
    clear hown hHeld hb
    go_wp2_with fail
    refine hK.out _ _ B_x3.out (fun hHeld => ?_)
    clear hK K
    try simp only [Act.put, List.setIfInBounds_toArray, List.set_cons_zero, List.set_cons_succ]
    refine wpAnyH_take (i := 9) (v := vc) (get_ops _ _ _ rfl) (by kernel_rfl) (by kernel_rfl) (by kernel_rfl) (fun _ _ _ h => h) (Or.inl ⟨by rfl, fun wS hSw => by (try dsimp only at hSw); go_simp⟩) hHeld ?_
    try simp only [Act.put, List.setIfInBounds_toArray, List.set_cons_zero, List.set_cons_succ]
    refine wpAnyH_take (i := 10) (v := .int .i64 0) (get_ops _ _ _ rfl) (by kernel_rfl) (by kernel_rfl) (by kernel_rfl) (fun _ _ _ h => h) (Or.inl ⟨by rfl, fun wS hSw => by (try dsimp only at hSw); go_simp⟩) hHeld ?_
    try simp only [Act.put, List.setIfInBounds_toArray, List.set_cons_zero, List.set_cons_succ]
    refine wpAnyH_done (by kernel_rfl) ?_ _
    go_wp2_with fail
    go_ret2
    rw [← HR.out]
    exact ⟨vc, rfl, HOWN.out, B_x3.out⟩

set_option maxRecDepth 20000 in
set_option maxHeartbeats 4000000 in
theorem fCount_any (A : Option Addr) (c : Nat) (xs : List Cs) (cn tg n : Int) (w : World) (h : CsL w w.heap.size A xs) (hn : xs.length ≤ 1000000) (hu : ∀ x ∈ xs, 0 ≤ x.una ∧ x.una ≤ 1099511627776) :
    Calls Try.prog 19 #[.slice A xs.length c, .int .i64 cn, .int .i64 tg, .int .i64 n] w fun e w' => ∃ v, e = .returned v ∧ OwnC w' w.heap.size v (cntC xs cn tg n) ∧ Below w.heap.size w w' := by
  have HFI := Lib.hid (fun (w1 : World) (hs : CsL w1 w1.heap.size A xs) => ffind_any A c xs cn tg w1 hs (by omega))
  have HCL := Lib.hid (fun (w1 : World) (hs : CsL w1 w1.heap.size A xs) => cloneC_any A c xs w1 hs hn)
  have HS := Lib.hid h
  have HU := Lib.hid hu
  obtain ⟨R, hR⟩ : ∃ R, cntC xs cn tg n = R := ⟨_, rfl⟩
  have HF : Hid ((fnC xs cn tg = none ∧ xs = R) ∨ ∃ i x, fnC xs cn tg = some i ∧ xs[i]? = some x ∧ xs.set i { x with una := clampC x.una n } = R ∧ i < xs.length) := Lib.hid (by
    cases hf : fnC xs cn tg with
    | none => exact .inl ⟨rfl, by rw [← hR, cntC_none hf]⟩
    | some i => obtain ⟨x, hx, _, _, hi⟩ := fn_some hf; exact .inr ⟨i, x, rfl, hx, by rw [← hR, cntC_some hf hx], hi⟩)
  rw [hR]
  generalize fnC xs cn tg = fo at *
  clear h hR hu
  go_enter Try.func19, Try.ntmps19
  go_wp2_with fail
  refine (HCL.out w HS.out).mono ?_
  rintro e w2 ⟨v2, rfl, hown, hb⟩
  have S_w2 := Lib.hid (GL.step HS.out hb)
  have B_w2 := Lib.hid hb
  have O_w2 := Lib.hid hown
  clear hb hown HS HCL
  go_wp2_with fail
  refine (HFI.out w2 S_w2.out).mono ?_
  rintro e w3 ⟨rfl, hb⟩
  have B_w3 := Lib.hid (stepB B_w2.out hb)
  have O_w3 := Lib.hid (OwnG.step O_w2.out hb)
  clear hb S_w2 O_w2 B_w2 HFI
  rcases HF.out with ⟨hf, hR⟩ | ⟨i, x, hf, hx, hR, hi⟩
  · subst hf hR
    unfold ixI
    dsimp only
    go_wp2_with fail
    go_ret
    exact ⟨_, rfl, O_w3.out, B_w3.out⟩
  · subst hf
    have HR := Lib.hid hR
    have HX := Lib.hid hx
    have hux := HU.out x (List.mem_of_getElem? hx)
    unfold ixI
    dsimp only
    have q0 : (0 : Int) ≤ (i : Int) := by omega
    have q1 : ((i : Int) != -1) = true := bne_iff_ne.2 (by omega)
    rcases own_rowG O_w3.out with ⟨rfl, h0⟩ | ⟨g, cap, sp, rfl, hg0, hBK, hnc, hcm, hcs⟩
    · rw [h0] at hi; simp at hi
    · have HG := Lib.hid (And.intro hg0 (And.intro hnc (And.intro hcm hcs)))
      have ROW := Lib.hid hBK
      have d4 := row_atG gC_len hBK hx 4 _ rfl
      have j2 : (i : Int) < (xs.length : Int) := by omega
      have f4 := hBK.free (i * 5 + 4)
      have hlt := hBK.lt
      have hcl := clamp_lim (u := x.una) (n := n) hux
      have hm : -1099511627776 ≤ limR n (-1099511627776) 1099511627776 ∧ limR n (-1099511627776) 1099511627776 ≤ 1099511627776 := by unfold limR; omega
      have HL1 := Lib.hid (fun w1 => flimit_any n (-1099511627776) 1099511627776 w1)
      generalize limR n (-1099511627776) 1099511627776 = m at *
      have hwr : wrap64 (x.una + m) = x.una + m := S2.wrap64_id _ (by omega) (by omega)
      have HL2 := Lib.hid (fun w1 => flimit_any (x.una + m) 0 1099511627776 w1)
      rw [hcl] at HL2
      obtain ⟨z, hz⟩ : ∃ z, clampC x.una n = z := ⟨_, rfl⟩
      rw [hz] at HL2
      have HZ := Lib.hid hz
      clear hcl hz hm hR hx hi hux hg0 hBK hnc hcm hcs O_w3
      go_wp2_with fail
      refine (HL1.out _).mono ?_
      rintro e w9 ⟨rfl, hw9⟩
      have hw9' := hw9.symm
      subst hw9'
      clear hw9 HL1
      go_wp2_with fail
      refine (HL2.out _).mono ?_
      rintro e w9 ⟨rfl, hw9⟩
      have hw9' := hw9.symm
      subst hw9'
      clear hw9 HL2
      go_upto_region 6 with fail
      refine name_world (C := fun w9 => Code.wp _ _ _ _ w9) (w3.setCell ⟨g, i * 5 + 4, none⟩ (.int .i64 z)) ?_
      intro w4 hw4
      have P4 : Hid (Put g w3 w4) := Lib.hid (by rw [hw4]; exact S2.Put.of_set ROW.out)
      have M4 : Hid (BK 25 w4 g ((xs.flatMap gC ++ sp).set (i * 5 + 4) (.int .i64 z))) := Lib.hid (by rw [hw4]; exact ROW.out.set _ _)
      clear hw4 d4 f4 hlt hwr
      go_wp2_with fail
      go_ret
      have hput := set_atG (g := gC) gC_len HX.out { x with una := z } 4 (.int .i64 z) sp rfl (by decide)
      have hM := M4.out
      rw [hput] at hM
      have hR := HR.out
      rw [HZ.out] at hR
      have hll : (xs.set i { x with una := z }).length = xs.length := by rw [List.length_set]
      have hgl := HG.out
      have hsz := P4.out.below B_w3.out hgl.1
      refine ⟨_, rfl, ?_, hsz⟩
      rw [← hR, ← hll]
      exact row_ownG gC_len hgl.1 hM (by rw [hll]; exact hgl.2.1) hgl.2.2.1 (by
        rw [← hgl.2.2.2, List.length_append, List.length_append, flat_len gC_len, flat_len gC_len, hll])

set_option maxRecDepth 20000 in
set_option maxHeartbeats 8000000 in
theorem rAdd_any (A : Option Addr) (c : Nat) (xs : List Cs) (x : Cs) (w : World) (h : CsL w w.heap.size A xs) (hn : xs.length ≤ 1000000) (hq : x.qu.size ≤ 9223372036854775807) :
    Calls Try.prog 16 #[.slice A xs.length c, csV x] w (RetAd (addC xs x) w) := by
  have HO := Lib.hid (fun (w1 : World) (hs : CsL w1 w1.heap.size A xs) => rOne_any A c xs x w1 hs (by omega) hq)
  have HCL := Lib.hid (fun (w1 : World) (hs : CsL w1 w1.heap.size A xs) => cloneC_any A c xs w1 hs hn)
  have HS := Lib.hid h
  have HE := Lib.hid (@addC_err xs x)
  have HF := Lib.hid (@addC_full xs x)
  have HK := Lib.hid (@addC_ok xs x)
  obtain ⟨R, hR⟩ : ∃ R, addC xs x = R := ⟨_, rfl⟩
  rw [hR] at HE HF HK ⊢
  have HN := Lib.hid hn
  clear h hR hq hn
  unfold csV
  go_enter Try.func16, Try.ntmps16
  go_upto_region 1 with fail
  refine name_world (C := fun w1 => Code.wp _ _ _ _ w1) (w.alloc (.cells (gC x).toArray 25)) ?_
  intro w1 hw1
  have hb1 : Below w.heap.size w w1 := by rw [hw1]; exact S2.below_new w _
  have V_w1 : Hid (BK 25 w1 w.heap.size (gC x)) := Lib.hid (by rw [hw1]; exact BK.new w _ _)
  have S_w1 : Hid (CsL w1 w1.heap.size A xs) := Lib.hid (GL.step HS.out hb1)
  have B_w1 := Lib.hid hb1
  have hz1 : w1.heap.size = w.heap.size + 1 := by rw [hw1]; simp
  obtain ⟨q, hqq⟩ : ∃ q, q = w1.heap.size := ⟨_, rfl⟩
  have HQ : Hid (w.heap.size < q) := Lib.hid (by omega)
  have Z_w1 : Hid (q ≤ w1.heap.size) := Lib.hid (by omega)
  clear hw1 hb1 hz1 hqq HS
  go_wp2_with first
    | (refine wpList_load_v (by rfl) 25 _ rfl ⟨w.heap.size, 0, none⟩ (by first | rfl | go_simp) _ (load_cs0 V_w1.out) ?_; unfold csV)
  refine (HO.out w1 S_w1.out).mono ?_
  rintro e w2 ⟨rfl, hb⟩
  have V_w2 := Lib.hid (V_w1.out.step hb)
  have S_w2 := Lib.hid (GL.step S_w1.out hb)
  have B_w2 := Lib.hid (stepB B_w1.out hb)
  have Z_w2 := Lib.hid (Nat.le_trans Z_w1.out hb.size)
  clear hb V_w1 S_w1 B_w1 Z_w1 HO
  generalize oneC xs x = E at *
  by_cases hE : E = 0
  · have q1 : (E != 0) = false := by rw [hE]; rfl
    by_cases h32 : 32 ≤ xs.length
    · have q2 : decide ((32 : Int) ≤ (xs.length : Int)) = true := decide_eq_true (by omega)
      have q2' : decide (32 ≤ xs.length) = true := decide_eq_true h32
      have HR := Lib.hid (HF.out hE h32)
      clear hE h32
      go_wp2_with fail
      go_ret2
      rw [HR.out]
      exact ⟨_, rfl, OwnG.nil _ _, B_w2.out⟩
    · have q2 : decide ((32 : Int) ≤ (xs.length : Int)) = false := decide_eq_false (by omega)
      have q2' : decide (32 ≤ xs.length) = false := decide_eq_false h32
      have HR := Lib.hid (HK.out hE h32)
      clear hE h32
      go_upto_region 6 with fail
      clear q1 q2 q2'
      obtain ⟨x1, hx1⟩ : ∃ x1, x1 = World.drew w2 := ⟨_, rfl⟩
      have hbD : Below w2.heap.size w2 x1 := by rw [hx1]; exact (Below.refl _ _).drew
      have V_x1 : Hid (BK 25 x1 w.heap.size (gC x)) := Lib.hid (V_w2.out.step hbD)
      have B_x1 : Hid (Below w.heap.size w x1) := Lib.hid (stepB B_w2.out hbD)
      have Z_x1 : Hid (q ≤ x1.heap.size) := Lib.hid (Nat.le_trans Z_w2.out hbD.size)
      have S_x1 : Hid (CsL x1 x1.heap.size A xs) := Lib.hid (GL.step S_w2.out hbD)
      clear V_w2 B_w2 Z_w2 S_w2
      have hbd : (fun w' => BK 25 w' w.heap.size (gC x)) (World.drew w2) := by rw [← hx1]; exact V_x1.out
      have hSD : (fun w' => BK 25 w' w.heap.size (gC x)) x1 := V_x1.out
      have HWD := Lib.hid hx1
      clear hx1 hbD
      refine wp_region_held_drew (S := fun w' => BK 25 w' w.heap.size (gC x)) (by kernel_rfl) hbd (fun hHeld => ?_)
      rw [← HWD.out]
      clear hHeld
      have hHeld := hSD
      clear hSD hbd HWD
      refine wpAnyH_take (i := 0) (v := .slice A xs.length c) (get_ops _ _ _ rfl) (by kernel_rfl) (by kernel_rfl) (by kernel_rfl) (fun _ _ _ h => h) (Or.inl ⟨by rfl, fun wS hSw => by (try dsimp only at hSw); go_simp⟩) hHeld ?_
      try simp only [Act.put, List.setIfInBounds_toArray, List.set_cons_zero, List.set_cons_succ]
      refine wpAnyH_take (i := 2) (v := (.agg (gC x).toArray)) (get_ops _ _ _ rfl) (by kernel_rfl) (by kernel_rfl) (by kernel_rfl) (fun _ _ _ h => h) (Or.inl ⟨by rfl, fun wS hSw => by (try dsimp only at hSw); exact exec_load 25 _ rfl ⟨w.heap.size, 0, none⟩ (by go_simp) _ (load_cs0 hSw)⟩) hHeld ?_
      try simp only [Act.put, List.setIfInBounds_toArray, List.set_cons_zero, List.set_cons_succ]
      refine wpAnyH_ready (rs := [1, 3]) (by kernel_rfl) (by simp) ?_
      refine (AllReadyH.cons (get_ops _ _ _ rfl) (fun K hK => ?_) (AllReadyH.cons (get_ops _ _ _ rfl) (fun K hK => ?_) AllReadyH.nil))
      · go_simp
        refine (HCL.out x1 S_x1.out).mono ?_
        rintro e x2 ⟨vc, rfl, hown, hb⟩
        have hown2 := OwnG.weak hown Z_x1.out
        have V_x2 : Hid (BK 25 x2 w.heap.size (gC x)) := Lib.hid (V_x1.out.step hb)
        have B_x2 : Hid (Below w.heap.size w x2) := Lib.hid (stepB B_x1.out hb)
        have Z_x2 : Hid (q ≤ x2.heap.size) := Lib.hid (Nat.le_trans Z_x1.out hb.size)
        have S_x2 : Hid (CsL x2 x2.heap.size A xs) := Lib.hid (GL.step S_x1.out hb)
        clear V_x1 B_x1 Z_x1 S_x1
        have Lc_x2 : Hid (OwnG 25 gC 5 x2 q vc xs) := Lib.hid hown2
        clear hown hown2 hHeld hb
        clear S_x2
        go_wp2_with fail
        refine hK.out _ _ V_x2.out (fun hHeld => ?_)
        clear hK K
        try simp only [Act.put, List.setIfInBounds_toArray, List.set_cons_zero, List.set_cons_succ]
        refine wpAnyH_ready (rs := [3]) (by kernel_rfl) (by simp) ?_
        refine (AllReadyH.cons (get_ops _ _ _ rfl) (fun K hK => ?_) AllReadyH.nil)
        go_simp
        obtain ⟨bm, hbm⟩ : ∃ n, n = x2.heap.size := ⟨_, rfl⟩
        refine name_world (C := fun w9 => K _ w9) (x2.alloc (.cells (gC x).toArray 25)) ?_
        intro x3 hx3
        have hb : Below x2.heap.size x2 x3 := by rw [hx3]; exact S2.below_new _ _
        have hN : BK 25 x3 bm (gC x) := by rw [hx3, hbm]; exact BK.new _ _ _
        have HD_c_m : Hid (vc.ownBlock ≠ some bm) := Lib.hid (OwnG.high Lc_x2.out (by omega))
        have V_x3 : Hid (BK 25 x3 w.heap.size (gC x)) := Lib.hid (V_x2.out.step hb)
        have B_x3 : Hid (Below w.heap.size w x3) := Lib.hid (stepB B_x2.out hb)
        have Z_x3 : Hid (q ≤ x3.heap.size) := Lib.hid (Nat.le_trans Z_x2.out hb.size)
        have Lc_x3 : Hid (OwnG 25 gC 5 x3 q vc xs) := Lib.hid (OwnG.step Lc_x2.out hb)
        clear V_x2 B_x2 Z_x2 Lc_x2
        have Xm_x3 := Lib.hid hN
        try rw [← hbm]
        clear hHeld hb hN hx3 hbm
        refine hK.out _ _ V_x3.out (fun hHeld => ?_)
        clear hK K
        try simp only [Act.put, List.setIfInBounds_toArray, List.set_cons_zero, List.set_cons_succ]
        refine wpAnyH_ready (rs := [4]) (by kernel_rfl) (by simp) ?_
        refine (AllReadyH.cons (get_ops _ _ _ rfl) (fun K hK => ?_) AllReadyH.nil)
        have hoy := Lc_x3.out
        refine oper_appG (g := gC) (k := 5) (e := 25) (by decide) (.tmp 17) (.tmp 19) 22 22 rfl (.agg #[.int .i64 0, .int .i64 0, .string ByteArray.empty, .int .i64 0, .int .i64 0]) 48 Try.underlying22 conInfo rfl (by decide) q vc xs [x] _ (by go_simp) hoy (by go_simp) (src_blk gC_len gC_one Try.underlying22 Xm_x3.out) Z_x3.out (by have := HN.out; simp; omega) ?_
        intro vd x4 hown hgr hoffs
        have V_x4 : Hid (BK 25 x4 w.heap.size (gC x)) := Lib.hid (BK.grow V_x3.out hgr (OwnG.off hoy (HQ.out)))
        have B_x4 : Hid (Below w.heap.size w x4) := Lib.hid (Below.grow B_x3.out hoy hgr B_x3.out.size (Nat.le_of_lt HQ.out))
        have Z_x4 : Hid (q ≤ x4.heap.size) := Lib.hid (Nat.le_trans Z_x3.out hgr.size)
        have Xm_x4 : Hid (BK 25 x4 bm (gC x)) := Lib.hid (BK.grow Xm_x3.out hgr HD_c_m.out)
        have HD_d_m : Hid (vd.ownBlock ≠ some bm) := Lib.hid (hoffs _ Xm_x3.out.lt HD_c_m.out)
        have Ld_x4 : Hid (OwnG 25 gC 5 x4 q vd (xs ++ [x])) := Lib.hid hown
        clear hoy hown hgr hoffs hHeld V_x3 B_x3 Z_x3 Lc_x3 Xm_x3
        refine hK.out _ _ V_x4.out (fun hHeld => ?_)
        clear hK K
        try simp only [Act.put, List.setIfInBounds_toArray, List.set_cons_zero, List.set_cons_succ]
        refine wpAnyH_take (i := 5) (v := vd) (get_ops _ _ _ rfl) (by kernel_rfl) (by kernel_rfl) (by kernel_rfl) (fun _ _ _ h => h) (Or.inl ⟨by rfl, fun wS hSw => by (try dsimp only at hSw); go_simp⟩) hHeld ?_
        try simp only [Act.put, List.setIfInBounds_toArray, List.set_cons_zero, List.set_cons_succ]
        refine wpAnyH_take (i := 6) (v := .int .i64 0) (get_ops _ _ _ rfl) (by kernel_rfl) (by kernel_rfl) (by kernel_rfl) (fun _ _ _ h => h) (Or.inl ⟨by rfl, fun wS hSw => by (try dsimp only at hSw); go_simp⟩) hHeld ?_
        try simp only [Act.put, List.setIfInBounds_toArray, List.set_cons_zero, List.set_cons_succ]
        refine wpAnyH_done (by kernel_rfl) ?_ _
        go_wp2_with fail
        go_ret2
        rw [HR.out]
        exact ⟨_, rfl, OwnG.weak Ld_x4.out (Nat.le_of_lt HQ.out), B_x4.out⟩
      · go_simp
        obtain ⟨bm, hbm⟩ : ∃ n, n = x1.heap.size := ⟨_, rfl⟩
        refine name_world (C := fun w9 => K _ w9) (x1.alloc (.cells (gC x).toArray 25)) ?_
        intro x2 hx2
        have hb : Below x1.heap.size x1 x2 := by rw [hx2]; exact S2.below_new _ _
        have hN : BK 25 x2 bm (gC x) := by rw [hx2, hbm]; exact BK.new _ _ _
        have V_x2 : Hid (BK 25 x2 w.heap.size (gC x)) := Lib.hid (V_x1.out.step hb)
        have B_x2 : Hid (Below w.heap.size w x2) := Lib.hid (stepB B_x1.out hb)
        have Z_x2 : Hid (q ≤ x2.heap.size) := Lib.hid (Nat.le_trans Z_x1.out hb.size)
        have S_x2 : Hid (CsL x2 x2.heap.size A xs) := Lib.hid (GL.step S_x1.out hb)
        clear V_x1 B_x1 Z_x1 S_x1
        have Xm_x2 := Lib.hid hN
        try rw [← hbm]
        clear hHeld hb hN hx2 hbm
        refine hK.out _ _ V_x2.out (fun hHeld => ?_)
        clear hK K
        try simp only [Act.put, List.setIfInBounds_toArray, List.set_cons_zero, List.set_cons_succ]
        refine wpAnyH_ready (rs := [1]) (by kernel_rfl) (by simp) ?_
        refine (AllReadyH.cons (get_ops _ _ _ rfl) (fun K hK => ?_) AllReadyH.nil)
        go_simp
        refine (HCL.out x2 S_x2.out).mono ?_
        rintro e x3 ⟨vc, rfl, hown, hb⟩
        have hown2 := OwnG.weak hown Z_x2.out
        have HD_c_m : Hid (vc.ownBlock ≠ some bm) := Lib.hid (OwnG.off hown (Xm_x2.out.lt))
        have V_x3 : Hid (BK 25 x3 w.heap.size (gC x)) := Lib.hid (V_x2.out.step hb)
        have B_x3 : Hid (Below w.heap.size w x3) := Lib.hid (stepB B_x2.out hb)
        have Z_x3 : Hid (q ≤ x3.heap.size) := Lib.hid (Nat.le_trans Z_x2.out hb.size)
        have S_x3 : Hid (CsL x3 x3.heap.size A xs) := Lib.hid (GL.step S_x2.out hb)
        have Xm_x3 : Hid (BK 25 x3 bm (gC x)) := Lib.hid (Xm_x2.out.step hb)
        clear V_x2 B_x2 Z_x2 S_x2 Xm_x2
        have Lc_x3 : Hid (OwnG 25 gC 5 x3 q vc xs) := Lib.hid hown2
        clear hown hown2 hHeld hb
        clear S_x3
        go_wp2_with fail
        refine hK.out _ _ V_x3.out (fun hHeld => ?_)
        clear hK K
        try simp only [Act.put, List.setIfInBounds_toArray, List.set_cons_zero, List.set_cons_succ]
        refine wpAnyH_ready (rs := [4]) (by kernel_rfl) (by simp) ?_
        refine (AllReadyH.cons (get_ops _ _ _ rfl) (fun K hK => ?_) AllReadyH.nil)
        have hoy := Lc_x3.out
        refine oper_appG (g := gC) (k := 5) (e := 25) (by decide) (.tmp 17) (.tmp 19) 22 22 rfl (.agg #[.int .i64 0, .int .i64 0, .string ByteArray.empty, .int .i64 0, .int .i64 0]) 48 Try.underlying22 conInfo rfl (by decide) q vc xs [x] _ (by go_simp) hoy (by go_simp) (src_blk gC_len gC_one Try.underlying22 Xm_x3.out) Z_x3.out (by have := HN.out; simp; omega) ?_
        intro vd x4 hown hgr hoffs
        have V_x4 : Hid (BK 25 x4 w.heap.size (gC x)) := Lib.hid (BK.grow V_x3.out hgr (OwnG.off hoy (HQ.out)))
        have B_x4 : Hid (Below w.heap.size w x4) := Lib.hid (Below.grow B_x3.out hoy hgr B_x3.out.size (Nat.le_of_lt HQ.out))
        have Z_x4 : Hid (q ≤ x4.heap.size) := Lib.hid (Nat.le_trans Z_x3.out hgr.size)
        have Xm_x4 : Hid (BK 25 x4 bm (gC x)) := Lib.hid (BK.grow Xm_x3.out hgr HD_c_m.out)
        have HD_d_m : Hid (vd.ownBlock ≠ some bm) := Lib.hid (hoffs _ Xm_x3.out.lt HD_c_m.out)
        have Ld_x4 : Hid (OwnG 25 gC 5 x4 q vd (xs ++ [x])) := Lib.hid hown
        clear hoy hown hgr hoffs hHeld V_x3 B_x3 Z_x3 Xm_x3 Lc_x3
        refine hK.out _ _ V_x4.out (fun hHeld => ?_)
        clear hK K
        try simp only [Act.put, List.setIfInBounds_toArray, List.set_cons_zero, List.set_cons_succ]
        refine wpAnyH_take (i := 5) (v := vd) (get_ops _ _ _ rfl) (by kernel_rfl) (by kernel_rfl) (by kernel_rfl) (fun _ _ _ h => h) (Or.inl ⟨by rfl, fun wS hSw => by (try dsimp only at hSw); go_simp⟩) hHeld ?_
        try simp only [Act.put, List.setIfInBounds_toArray, List.set_cons_zero, List.set_cons_succ]
        refine wpAnyH_take (i := 6) (v := .int .i64 0) (get_ops _ _ _ rfl) (by kernel_rfl) (by kernel_rfl) (by kernel_rfl) (fun _ _ _ h => h) (Or.inl ⟨by rfl, fun wS hSw => by (try dsimp only at hSw); go_simp⟩) hHeld ?_
        try simp only [Act.put, List.setIfInBounds_toArray, List.set_cons_zero, List.set_cons_succ]
        refine wpAnyH_done (by kernel_rfl) ?_ _
        go_wp2_with fail
        go_ret2
        rw [HR.out]
        exact ⟨_, rfl, OwnG.weak Ld_x4.out (Nat.le_of_lt HQ.out), B_x4.out⟩
  · have q1 : (E != 0) = true := bne_iff_ne.2 hE
    have HR := Lib.hid (HE.out hE)
    clear hE
    go_wp2_with fail
    go_ret2
    rw [HR.out]
    exact ⟨_, rfl, OwnG.nil _ _, B_w2.out⟩

set_option maxRecDepth 20000 in
set_option maxHeartbeats 4000000 in
theorem rRemove_any (A : Option Addr) (c : Nat) (xs : List Cs) (cn tg : Int) (w : World) (h : CsL w w.heap.size A xs) (hn : xs.length ≤ 1000000) :
    Calls Try.prog 18 #[.slice A xs.length c, .int .i64 cn, .int .i64 tg] w (RetAd (remC xs cn tg) w) := by
  have HFI := Lib.hid (fun (w1 : World) (hs : CsL w1 w1.heap.size A xs) => rfind_any A c xs cn tg w1 hs (by omega))
  have HCL := Lib.hid (fun (w1 : World) (hs : CsL w1 w1.heap.size A xs) => cloneC_any A c xs w1 hs hn)
  have HS := Lib.hid h
  obtain ⟨R, hR⟩ : ∃ R, remC xs cn tg = R := ⟨_, rfl⟩
  have HF : Hid ((fnC xs cn tg = none ∧ ([], 8) = R) ∨ ∃ i, fnC xs cn tg = some i ∧ (xs.eraseIdx i, (0 : Int)) = R ∧ i < xs.length) := Lib.hid (by
    cases hf : fnC xs cn tg with
    | none => exact .inl ⟨rfl, by rw [← hR, remC_none hf]⟩
    | some i => obtain ⟨_, _, _, _, hi⟩ := fn_some hf; exact .inr ⟨i, rfl, by rw [← hR, remC_some hf], hi⟩)
  rw [hR]
  generalize fnC xs cn tg = fo at *
  clear h hR
  go_enter Try.func18, Try.ntmps18
  go_wp2_with fail
  refine (HFI.out w HS.out).mono ?_
  rintro e w2 ⟨rfl, hb⟩
  have S_w2 := Lib.hid (GL.step HS.out hb)
  have B_w2 := Lib.hid hb
  clear hb HS
  rcases HF.out with ⟨hf, hR⟩ | ⟨i, hf, hR, hi⟩
  · subst hf
    have HR := Lib.hid hR
    clear hR
    unfold ixI
    dsimp only
    go_wp2_with fail
    go_ret2
    rw [← HR.out]
    exact ⟨_, rfl, OwnG.nil _ _, B_w2.out⟩
  · subst hf
    have HR := Lib.hid hR
    have HI := Lib.hid hi
    unfold ixI
    dsimp only
    have q1 : decide ((i : Int) < 0) = false := decide_eq_false (by omega)
    have q2 : wrap64 ((i : Int) + 1) = (i : Int) + 1 := S2.wrap64_id _ (by omega) (by omega)
    clear hR hi
    go_wp2_with fail
    refine (HCL.out w2 S_w2.out).mono ?_
    rintro e w3 ⟨v3, rfl, hown, hb⟩
    have B_w3 := Lib.hid (stepB B_w2.out hb)
    have hz := B_w2.out.size
    rcases own_rowG hown with ⟨rfl, h0⟩ | ⟨g, cap, sp, rfl, hg0, hBK, hnc, hcm, hcs⟩
    · have := HI.out; rw [h0] at this; simp at this
    · have HG := Lib.hid (And.intro hg0 (And.intro hcm hz))
      have HDE := Lib.hid (deleteC_any g cap i xs sp w3 hBK HI.out hnc hcs)
      have HEL : Hid ((xs.eraseIdx i).length ≤ cap) := Lib.hid (by rw [List.length_eraseIdx, if_pos HI.out]; omega)
      clear hb hown hg0 hBK hnc hcm hcs hz HCL S_w2 B_w2
      go_wp2_with fail
      refine HDE.out.mono ?_
      rintro e w4 ⟨sp', rfl, hBK4, hl4, hP4⟩
      have B_w4 := Lib.hid (hP4.below B_w3.out (by have := HG.out; omega))
      have O_w4 : Hid (OwnC w4 w.heap.size (.slice (some ⟨g, 0, none⟩) (xs.eraseIdx i).length cap) (xs.eraseIdx i)) := Lib.hid (row_ownG gC_len (by have := HG.out; omega) hBK4 HEL.out HG.out.2.1 hl4)
      clear hBK4 hl4 hP4 HDE
      go_wp2_with fail
      go_ret2
      rw [← HR.out]
      exact ⟨_, rfl, O_w4.out, B_w4.out⟩

set_option maxRecDepth 20000 in
set_option maxHeartbeats 4000000 in
theorem rCount_any (A : Option Addr) (c : Nat) (xs : List Cs) (cn tg n : Int) (w : World) (h : CsL w w.heap.size A xs) (hn : xs.length ≤ 1000000) (hu : ∀ x ∈ xs, 0 ≤ x.una ∧ x.una ≤ 1099511627776) :
    Calls Try.prog 20 #[.slice A xs.length c, .int .i64 cn, .int .i64 tg, .int .i64 n] w fun e w' => ∃ v, e = .returned v ∧ OwnC w' w.heap.size v (cntC xs cn tg n) ∧ Below w.heap.size w w' := by
  have HFI := Lib.hid (fun (w1 : World) (hs : CsL w1 w1.heap.size A xs) => rfind_any A c xs cn tg w1 hs (by omega))
  have HCL := Lib.hid (fun (w1 : World) (hs : CsL w1 w1.heap.size A xs) => cloneC_any A c xs w1 hs hn)
  have HS := Lib.hid h
  have HU := Lib.hid hu
  obtain ⟨R, hR⟩ : ∃ R, cntC xs cn tg n = R := ⟨_, rfl⟩
  have HF : Hid ((fnC xs cn tg = none ∧ xs = R) ∨ ∃ i x, fnC xs cn tg = some i ∧ xs[i]? = some x ∧ xs.set i { x with una := clampC x.una n } = R ∧ i < xs.length) := Lib.hid (by
    cases hf : fnC xs cn tg with
    | none => exact .inl ⟨rfl, by rw [← hR, cntC_none hf]⟩
    | some i => obtain ⟨x, hx, _, _, hi⟩ := fn_some hf; exact .inr ⟨i, x, rfl, hx, by rw [← hR, cntC_some hf hx], hi⟩)
  rw [hR]
  generalize fnC xs cn tg = fo at *
  clear h hR hu
  go_enter Try.func20, Try.ntmps20
  go_wp2_with fail
  refine (HCL.out w HS.out).mono ?_
  rintro e w2 ⟨v2, rfl, hown, hb⟩
  have S_w2 := Lib.hid (GL.step HS.out hb)
  have B_w2 := Lib.hid hb
  have O_w2 := Lib.hid hown
  clear hb hown HS HCL
  go_wp2_with fail
  refine (HFI.out w2 S_w2.out).mono ?_
  rintro e w3 ⟨rfl, hb⟩
  have B_w3 := Lib.hid (stepB B_w2.out hb)
  have O_w3 := Lib.hid (OwnG.step O_w2.out hb)
  clear hb S_w2 O_w2 B_w2 HFI
  rcases HF.out with ⟨hf, hR⟩ | ⟨i, x, hf, hx, hR, hi⟩
  · subst hf hR
    unfold ixI
    dsimp only
    go_wp2_with fail
    go_ret
    exact ⟨_, rfl, O_w3.out, B_w3.out⟩
  · subst hf
    have HR := Lib.hid hR
    have HX := Lib.hid hx
    have hux := HU.out x (List.mem_of_getElem? hx)
    unfold ixI
    dsimp only
    have q0 : (0 : Int) ≤ (i : Int) := by omega
    have q1 : decide ((0 : Int) ≤ (i : Int)) = true := decide_eq_true (by omega)
    rcases own_rowG O_w3.out with ⟨rfl, h0⟩ | ⟨g, cap, sp, rfl, hg0, hBK, hnc, hcm, hcs⟩
    · rw [h0] at hi; simp at hi
    · have HG := Lib.hid (And.intro hg0 (And.intro hnc (And.intro hcm hcs)))
      have ROW := Lib.hid hBK
      have d4 := row_atG gC_len hBK hx 4 _ rfl
      have j2 : (i : Int) < (xs.length : Int) := by omega
      have f4 := hBK.free (i * 5 + 4)
      have hlt := hBK.lt
      obtain ⟨n1, h1⟩ : ∃ n1 : Int, (if n < -2199023255552 then (-2199023255552 : Int) else n) = n1 := ⟨_, rfl⟩
      obtain ⟨m, h2⟩ : ∃ m : Int, (if 2199023255552 < n1 then (2199023255552 : Int) else n1) = m := ⟨_, rfl⟩
      have hm : m = min (max n (-2199023255552)) 2199023255552 := by rw [← h2, ← h1]; split <;> split <;> omega
      have hwr : wrap64 (x.una + m) = x.una + m := S2.wrap64_id _ (by omega) (by omega)
      obtain ⟨z1, h3⟩ : ∃ z1 : Int, (if x.una + m < 0 then (0 : Int) else x.una + m) = z1 := ⟨_, rfl⟩
      obtain ⟨z, h4⟩ : ∃ z : Int, (if 1099511627776 < z1 then (1099511627776 : Int) else z1) = z := ⟨_, rfl⟩
      have hcl : clampC x.una n = z := by
        unfold clampC
        rw [← hm, ← h4, ← h3]
        split <;> split <;> omega
      have HZ := Lib.hid hcl
      clear hcl hm hR hx hi hux hg0 hBK hnc hcm hcs O_w3
      go_upto_region 5 with fail
      refine name_world (C := fun w9 => Code.wp _ _ _ _ w9) (w3.setCell ⟨g, i * 5 + 4, none⟩ (.int .i64 z)) ?_
      intro w4 hw4
      have P4 : Hid (Put g w3 w4) := Lib.hid (by rw [hw4]; exact S2.Put.of_set ROW.out)
      have M4 : Hid (BK 25 w4 g ((xs.flatMap gC ++ sp).set (i * 5 + 4) (.int .i64 z))) := Lib.hid (by rw [hw4]; exact ROW.out.set _ _)
      clear hw4 d4 f4 hlt h1 h2 h3 h4 hwr
      go_wp2_with fail
      go_ret
      have hput := set_atG (g := gC) gC_len HX.out { x with una := z } 4 (.int .i64 z) sp rfl (by decide)
      have hM := M4.out
      rw [hput] at hM
      have hR := HR.out
      rw [HZ.out] at hR
      have hll : (xs.set i { x with una := z }).length = xs.length := by rw [List.length_set]
      have hgl := HG.out
      have hsz := P4.out.below B_w3.out hgl.1
      refine ⟨_, rfl, ?_, hsz⟩
      rw [← hR, ← hll]
      exact row_ownG gC_len hgl.1 hM (by rw [hll]; exact hgl.2.1) hgl.2.2.1 (by
        rw [← hgl.2.2.2, List.length_append, List.length_append, flat_len gC_len, flat_len gC_len, hll])
end Go.Proofs.Ytjkhfifnfgchgaa
