/-
  What Allowed and Subscribes of the specification of access answer. Conditions: the list reads as data; the client and the user have at most 64 bytes, each filter at most 1000, the name that is asked for at most 2^47.
-/
import Derived.Test.YtoakhkiiefiebaaDoorAcC
namespace Go.Proofs.YtoakhkiiefiebaaDoor.S1
open Go.RowKit
open S2 (BK Put get_ops exec_load)

/-- up to index k no rule is found -/
def NoTo (p : Rl → Bool) (l : List Rl) (k : Nat) : Prop := (l.take k).find? p = none
theorem NoTo.succ {p : Rl → Bool} {l : List Rl} {k : Nat} {x : Rl} (h : NoTo p l k) (hx : l[k]? = some x) (hp : p x = false) : NoTo p l (k + 1) := find_no hx h hp
theorem NoTo.hit {p : Rl → Bool} {l : List Rl} {k : Nat} {x : Rl} (h : NoTo p l k) (hx : l[k]? = some x) (hp : p x = true) : l.find? p = some x := find_step hx h hp
theorem NoTo.none {p : Rl → Bool} {l : List Rl} (h : NoTo p l l.length) : l.find? p = none := by unfold NoTo at h; rwa [List.take_length] at h

set_option maxRecDepth 20000 in
set_option maxHeartbeats 8000000 in
theorem rallowed_any (A : Option Addr) (cc : Nat) (xs : List Rl) (c u o : ByteArray) (ac : Int) (w : World) (h : RL w w.heap.size A xs) (hn : xs.length ≤ 140737488355328)
    (hc : c.size ≤ 64) (hu : u.size ≤ 64) (hf : ∀ x ∈ xs, x.fi.size ≤ 1000) (ho : o.size ≤ 140737488355328) :
    Calls Tryd.prog 18 #[.slice A xs.length cc, whV c u, .int .i64 ac, .string o] w fun e w' => e = .returned (.bool (allowR xs c u ac o)) ∧ Below w.heap.size w w' := by
  have HS := Lib.hid h
  have HF := Lib.hid hf
  have HAPP := Lib.hid (fun x w1 => applies_any x u ac w1)
  have HEXP := Lib.hid (fun (x : Rl) (hx : x.fi.size ≤ 1000) w1 => rExpand_any x.fi c u w1 hc hu hx)
  have HMAT := Lib.hid (fun a w1 => sMat_any a o w1 ho)
  obtain ⟨R, hR⟩ : ∃ R, allowR xs c u ac o = R := ⟨_, rfl⟩
  have HR := Lib.hid hR
  rw [hR]
  clear h hf hR hc hu ho
  unfold whV
  go_enter Tryd.func18, Tryd.ntmps18
  go_upto_region 1 with fail
  refine name_world (C := fun w1 => Code.wp _ _ _ _ w1) (w.alloc (.cells ([.string c, .string u] : List Value).toArray 28)) ?_
  intro w1 hw1
  have hb1 : Below w.heap.size w w1 := by rw [hw1]; exact S2.below_new w _
  have V_w1 : Hid (BK 28 w1 w.heap.size [.string c, .string u]) := Lib.hid (by rw [hw1]; exact BK.new w _ _)
  have B_w1 := Lib.hid hb1
  clear hw1 hb1
  go_wp2_with fail
  go_loopg [9] xs.length (fun g v wr => ∃ k : Nat, k + g = xs.length ∧ v = .int .i64 k ∧ NoTo (alP c u ac o) xs k ∧ BK 28 wr w.heap.size [.string c, .string u] ∧ Below w.heap.size w wr)
  case atStart => exact ⟨0, by omega, rfl, rfl, V_w1.out, B_w1.out⟩
  case round =>
    obtain ⟨k, hkg, rfl, hno, hv, hb0⟩ := hrel
    have HNO := Lib.hid hno
    have P_wr := Lib.hid hv
    have B_wr := Lib.hid hb0
    have HG := Lib.hid hkg
    clear hno hv hb0 V_w1 B_w1
    cases gk with
    | zero =>
      obtain rfl : k = xs.length := by omega
      have HRF : Hid (R = false) := Lib.hid (by rw [← HR.out]; unfold allowR; rw [HNO.out.none])
      clear hkg
      go_wp2
      go_ret
      exact ⟨by rw [HRF.out]; rfl, B_wr.out⟩
    | succ gk =>
      have hlt : k < xs.length := by omega
      have e3 : decide ((k : Int) < (xs.length : Int)) = true := decide_eq_true (by omega)
      obtain ⟨x, hx⟩ : ∃ x, xs[k]? = some x := ⟨_, List.getElem?_eq_getElem hlt⟩
      obtain ⟨b, o2, hA, hbB, hcl⟩ := RL.at_ (GL.step HS.out B_wr.out) hx
      subst hA
      have j1 : (0 : Int) ≤ (k : Int) := by omega
      have j2 : (k : Int) < (xs.length : Int) := by omega
      have HY := Lib.hid (@NoTo.hit (alP c u ac o) xs k x HNO.out hx)
      have HNN := Lib.hid (@NoTo.succ (alP c u ac o) xs k x HNO.out hx)
      have HFX := Lib.hid (HF.out x (List.mem_of_getElem? hx))
      have C_wr : Hid (b < wr.heap.size ∧ ∀ i v, (gR x)[i]? = some v → wr.cell? ⟨b, o2 + k * 4 + i, none⟩ = some v) := Lib.hid ⟨hbB, hcl⟩
      clear hx hcl hbB hkg hlt
      have HPD : Hid (alP c u ac o x = (forR x u ac && matchesL (expB x.fi c u) o)) := Lib.hid rfl
      have HRY : Hid (alP c u ac o x = true → R = x.al) := Lib.hid (fun hp => by rw [← HR.out]; unfold allowR; rw [HY.out hp])
      have HAP1 := Lib.hid (HAPP.out x)
      have HEX1 := Lib.hid (HEXP.out x HFX.out)
      have HMA1 := Lib.hid (HMAT.out (expB x.fi c u))
      obtain ⟨b1, hb1⟩ : ∃ z, forR x u ac = z := ⟨_, rfl⟩
      obtain ⟨b2, hb2⟩ : ∃ z, matchesL (expB x.fi c u) o = z := ⟨_, rfl⟩
      rw [hb1, hb2] at HPD
      rw [hb1] at HAP1
      rw [hb2] at HMA1
      generalize expB x.fi c u = ex at *
      clear hb1 hb2 HY
      obtain ⟨al, us, an, fi⟩ := x
      unfold rlV at HAP1
      unfold whV at HEX1
      go_upto_region 4 with fail
      cases b1 with
      | false =>
        obtain ⟨x1, hx1⟩ : ∃ x1, x1 = World.drew wr := ⟨_, rfl⟩
        have hbD : Below wr.heap.size wr x1 := by rw [hx1]; exact (Below.refl _ _).drew
        have C_x1 : Hid ((b < x1.heap.size ∧ ∀ i v, (gR ⟨al, us, an, fi⟩)[i]? = some v → x1.cell? ⟨b, o2 + k * 4 + i, none⟩ = some v)) := Lib.hid (⟨Nat.lt_of_lt_of_le C_wr.out.1 hbD.size, fun i v hv => (hbD.cell (p := ⟨b, o2 + k * 4 + i, none⟩) C_wr.out.1).trans (C_wr.out.2 i v hv)⟩)
        have P_x1 : Hid (BK 28 x1 w.heap.size [.string c, .string u]) := Lib.hid (P_wr.out.step hbD)
        have B_x1 : Hid (Below w.heap.size w x1) := Lib.hid (stepB B_wr.out hbD)
        clear C_wr P_wr B_wr
        have hbd : (fun w' => (b < w'.heap.size ∧ ∀ i v, (gR ⟨al, us, an, fi⟩)[i]? = some v → w'.cell? ⟨b, o2 + k * 4 + i, none⟩ = some v) ∧ BK 28 w' w.heap.size [.string c, .string u]) (World.drew wr) := by rw [← hx1]; exact ⟨C_x1.out, P_x1.out⟩
        have hSD : (fun w' => (b < w'.heap.size ∧ ∀ i v, (gR ⟨al, us, an, fi⟩)[i]? = some v → w'.cell? ⟨b, o2 + k * 4 + i, none⟩ = some v) ∧ BK 28 w' w.heap.size [.string c, .string u]) x1 := ⟨C_x1.out, P_x1.out⟩
        have HWD := Lib.hid hx1
        clear hx1 hbD
        refine wp_region_held_drew (S := fun w' => (b < w'.heap.size ∧ ∀ i v, (gR ⟨al, us, an, fi⟩)[i]? = some v → w'.cell? ⟨b, o2 + k * 4 + i, none⟩ = some v) ∧ BK 28 w' w.heap.size [.string c, .string u]) (by kernel_rfl) hbd (fun hHeld => ?_)
        rw [← HWD.out]
        clear hHeld
        have hHeld := hSD
        clear hSD hbd HWD
        refine wpAnyH_take (i := 0) (v := .slice (some ⟨b, o2, none⟩) xs.length cc) (get_ops _ _ _ rfl) (by kernel_rfl) (by kernel_rfl) (by kernel_rfl) (fun _ _ _ h => h) (Or.inl ⟨by rfl, fun wS hSw => by (try dsimp only at hSw); go_simp⟩) hHeld ?_
        try simp only [Act.put, List.setIfInBounds_toArray, List.set_cons_zero, List.set_cons_succ]
        refine wpAnyH_take (i := 1) (v := .int .i64 k) (get_ops _ _ _ rfl) (by kernel_rfl) (by kernel_rfl) (by kernel_rfl) (fun _ _ _ h => h) (Or.inl ⟨by rfl, fun wS hSw => by (try dsimp only at hSw); go_simp⟩) hHeld ?_
        try simp only [Act.put, List.setIfInBounds_toArray, List.set_cons_zero, List.set_cons_succ]
        refine wpAnyH_take (i := 2) (v := .pointer (some ⟨b, o2 + k * 4, none⟩)) (get_ops _ _ _ rfl) (by kernel_rfl) (by kernel_rfl) (by kernel_rfl) (fun _ _ _ h => h) (Or.inl ⟨by rfl, fun wS hSw => by (try dsimp only at hSw); go_simp⟩) hHeld ?_
        try simp only [Act.put, List.setIfInBounds_toArray, List.set_cons_zero, List.set_cons_succ]
        refine wpAnyH_take (i := 3) (v := (.agg (gR ⟨al, us, an, fi⟩).toArray)) (get_ops _ _ _ rfl) (by kernel_rfl) (by kernel_rfl) (by kernel_rfl) (fun _ _ _ h => h) (Or.inl ⟨by rfl, fun wS hSw => by (try dsimp only at hSw); exact exec_load 42 _ rfl ⟨b, o2 + k * 4, none⟩ (by go_simp) _ (load_rule hSw.1.2)⟩) hHeld ?_
        try simp only [Act.put, List.setIfInBounds_toArray, List.set_cons_zero, List.set_cons_succ]
        refine wpAnyH_take (i := 4) (v := .pointer (some ⟨w.heap.size, 1, none⟩)) (get_ops _ _ _ rfl) (by kernel_rfl) (by kernel_rfl) (by kernel_rfl) (fun _ _ _ h => h) (Or.inl ⟨by rfl, fun wS hSw => by (try dsimp only at hSw); go_simp⟩) hHeld ?_
        try simp only [Act.put, List.setIfInBounds_toArray, List.set_cons_zero, List.set_cons_succ]
        refine wpAnyH_take (i := 5) (v := .string u) (get_ops _ _ _ rfl) (by kernel_rfl) (by kernel_rfl) (by kernel_rfl) (fun _ _ _ h => h) (Or.inl ⟨by rfl, fun wS hSw => by (try dsimp only at hSw); have cS : wS.cell? ⟨w.heap.size, 1, none⟩ = some (.string u) := hSw.2.cell 1 rfl; clear hSw; go_simp⟩) hHeld ?_
        try simp only [Act.put, List.setIfInBounds_toArray, List.set_cons_zero, List.set_cons_succ]
        refine wpAnyH_take (i := 6) (v := .int .i64 ac) (get_ops _ _ _ rfl) (by kernel_rfl) (by kernel_rfl) (by kernel_rfl) (fun _ _ _ h => h) (Or.inl ⟨by rfl, fun wS hSw => by (try dsimp only at hSw); go_simp⟩) hHeld ?_
        try simp only [Act.put, List.setIfInBounds_toArray, List.set_cons_zero, List.set_cons_succ]
        refine wpAnyH_ready (rs := [7]) (by kernel_rfl) (by simp) ?_
        refine (AllReadyH.cons (get_ops _ _ _ rfl) (fun K hK => ?_) AllReadyH.nil)
        go_simp
        refine (HAP1.out x1).mono ?_
        rintro e x2 ⟨rfl, hb⟩
        have C_x2 : Hid ((b < x2.heap.size ∧ ∀ i v, (gR ⟨al, us, an, fi⟩)[i]? = some v → x2.cell? ⟨b, o2 + k * 4 + i, none⟩ = some v)) := Lib.hid (⟨Nat.lt_of_lt_of_le C_x1.out.1 hb.size, fun i v hv => (hb.cell (p := ⟨b, o2 + k * 4 + i, none⟩) C_x1.out.1).trans (C_x1.out.2 i v hv)⟩)
        have P_x2 : Hid (BK 28 x2 w.heap.size [.string c, .string u]) := Lib.hid (P_x1.out.step hb)
        have B_x2 : Hid (Below w.heap.size w x2) := Lib.hid (stepB B_x1.out hb)
        clear C_x1 P_x1 B_x1
        clear hHeld hb
        go_wp2_with fail
        refine hK.out _ _ ⟨C_x2.out, P_x2.out⟩ (fun hHeld => ?_)
        clear hK K
        try simp only [Act.put, List.setIfInBounds_toArray, List.set_cons_zero, List.set_cons_succ]
        refine wpAnyH_take (i := 8) (v := .bool false) (get_ops _ _ _ rfl) (by kernel_rfl) (by kernel_rfl) (by kernel_rfl) (fun _ _ _ h => h) (Or.inl ⟨by rfl, fun wS hSw => by (try dsimp only at hSw); go_simp⟩) hHeld ?_
        try simp only [Act.put, List.setIfInBounds_toArray, List.set_cons_zero, List.set_cons_succ]
        refine wpAnyH_take (i := 9) (v := undef) (get_ops _ _ _ rfl) (by kernel_rfl) (by kernel_rfl) (by kernel_rfl) (fun _ _ _ h => h) (Or.inr ⟨by rfl, rfl⟩) hHeld ?_
        try simp only [Act.put, List.setIfInBounds_toArray, List.set_cons_zero, List.set_cons_succ]
        refine wpAnyH_take (i := 10) (v := undef) (get_ops _ _ _ rfl) (by kernel_rfl) (by kernel_rfl) (by kernel_rfl) (fun _ _ _ h => h) (Or.inr ⟨by rfl, rfl⟩) hHeld ?_
        try simp only [Act.put, List.setIfInBounds_toArray, List.set_cons_zero, List.set_cons_succ]
        refine wpAnyH_take (i := 11) (v := undef) (get_ops _ _ _ rfl) (by kernel_rfl) (by kernel_rfl) (by kernel_rfl) (fun _ _ _ h => h) (Or.inr ⟨by rfl, rfl⟩) hHeld ?_
        try simp only [Act.put, List.setIfInBounds_toArray, List.set_cons_zero, List.set_cons_succ]
        refine wpAnyH_take (i := 12) (v := undef) (get_ops _ _ _ rfl) (by kernel_rfl) (by kernel_rfl) (by kernel_rfl) (fun _ _ _ h => h) (Or.inr ⟨by rfl, rfl⟩) hHeld ?_
        try simp only [Act.put, List.setIfInBounds_toArray, List.set_cons_zero, List.set_cons_succ]
        refine wpAnyH_take (i := 13) (v := undef) (get_ops _ _ _ rfl) (by kernel_rfl) (by kernel_rfl) (by kernel_rfl) (fun _ _ _ h => h) (Or.inr ⟨by rfl, rfl⟩) hHeld ?_
        try simp only [Act.put, List.setIfInBounds_toArray, List.set_cons_zero, List.set_cons_succ]
        refine wpAnyH_take (i := 14) (v := undef) (get_ops _ _ _ rfl) (by kernel_rfl) (by kernel_rfl) (by kernel_rfl) (fun _ _ _ h => h) (Or.inr ⟨by rfl, rfl⟩) hHeld ?_
        try simp only [Act.put, List.setIfInBounds_toArray, List.set_cons_zero, List.set_cons_succ]
        refine wpAnyH_take (i := 15) (v := undef) (get_ops _ _ _ rfl) (by kernel_rfl) (by kernel_rfl) (by kernel_rfl) (fun _ _ _ h => h) (Or.inr ⟨by rfl, rfl⟩) hHeld ?_
        try simp only [Act.put, List.setIfInBounds_toArray, List.set_cons_zero, List.set_cons_succ]
        refine wpAnyH_take (i := 16) (v := undef) (get_ops _ _ _ rfl) (by kernel_rfl) (by kernel_rfl) (by kernel_rfl) (fun _ _ _ h => h) (Or.inr ⟨by rfl, rfl⟩) hHeld ?_
        try simp only [Act.put, List.setIfInBounds_toArray, List.set_cons_zero, List.set_cons_succ]
        refine wpAnyH_take (i := 17) (v := undef) (get_ops _ _ _ rfl) (by kernel_rfl) (by kernel_rfl) (by kernel_rfl) (fun _ _ _ h => h) (Or.inr ⟨by rfl, rfl⟩) hHeld ?_
        try simp only [Act.put, List.setIfInBounds_toArray, List.set_cons_zero, List.set_cons_succ]
        refine wpAnyH_take (i := 18) (v := .bool false) (get_ops _ _ _ rfl) (by kernel_rfl) (by kernel_rfl) (by kernel_rfl) (fun _ _ _ h => h) (Or.inl ⟨by rfl, fun wS hSw => by (try dsimp only at hSw); go_simp⟩) hHeld ?_
        try simp only [Act.put, List.setIfInBounds_toArray, List.set_cons_zero, List.set_cons_succ]
        refine wpAnyH_done (by kernel_rfl) ?_ _
        go_wp2_with fail
        go_roundg gk
        case measure => omega
        case rel => exact ⟨k + 1, by have := HG.out; omega, by go_num, HNN.out (by rw [HPD.out]; rfl), P_x2.out, B_x2.out⟩
      | true =>
        cases b2 with
        | false =>
          obtain ⟨x1, hx1⟩ : ∃ x1, x1 = World.drew wr := ⟨_, rfl⟩
          have hbD : Below wr.heap.size wr x1 := by rw [hx1]; exact (Below.refl _ _).drew
          have C_x1 : Hid ((b < x1.heap.size ∧ ∀ i v, (gR ⟨al, us, an, fi⟩)[i]? = some v → x1.cell? ⟨b, o2 + k * 4 + i, none⟩ = some v)) := Lib.hid (⟨Nat.lt_of_lt_of_le C_wr.out.1 hbD.size, fun i v hv => (hbD.cell (p := ⟨b, o2 + k * 4 + i, none⟩) C_wr.out.1).trans (C_wr.out.2 i v hv)⟩)
          have P_x1 : Hid (BK 28 x1 w.heap.size [.string c, .string u]) := Lib.hid (P_wr.out.step hbD)
          have B_x1 : Hid (Below w.heap.size w x1) := Lib.hid (stepB B_wr.out hbD)
          clear C_wr P_wr B_wr
          have hbd : (fun w' => (b < w'.heap.size ∧ ∀ i v, (gR ⟨al, us, an, fi⟩)[i]? = some v → w'.cell? ⟨b, o2 + k * 4 + i, none⟩ = some v) ∧ BK 28 w' w.heap.size [.string c, .string u]) (World.drew wr) := by rw [← hx1]; exact ⟨C_x1.out, P_x1.out⟩
          have hSD : (fun w' => (b < w'.heap.size ∧ ∀ i v, (gR ⟨al, us, an, fi⟩)[i]? = some v → w'.cell? ⟨b, o2 + k * 4 + i, none⟩ = some v) ∧ BK 28 w' w.heap.size [.string c, .string u]) x1 := ⟨C_x1.out, P_x1.out⟩
          have HWD := Lib.hid hx1
          clear hx1 hbD
          refine wp_region_held_drew (S := fun w' => (b < w'.heap.size ∧ ∀ i v, (gR ⟨al, us, an, fi⟩)[i]? = some v → w'.cell? ⟨b, o2 + k * 4 + i, none⟩ = some v) ∧ BK 28 w' w.heap.size [.string c, .string u]) (by kernel_rfl) hbd (fun hHeld => ?_)
          rw [← HWD.out]
          clear hHeld
          have hHeld := hSD
          clear hSD hbd HWD
          refine wpAnyH_take (i := 0) (v := .slice (some ⟨b, o2, none⟩) xs.length cc) (get_ops _ _ _ rfl) (by kernel_rfl) (by kernel_rfl) (by kernel_rfl) (fun _ _ _ h => h) (Or.inl ⟨by rfl, fun wS hSw => by (try dsimp only at hSw); go_simp⟩) hHeld ?_
          try simp only [Act.put, List.setIfInBounds_toArray, List.set_cons_zero, List.set_cons_succ]
          refine wpAnyH_take (i := 1) (v := .int .i64 k) (get_ops _ _ _ rfl) (by kernel_rfl) (by kernel_rfl) (by kernel_rfl) (fun _ _ _ h => h) (Or.inl ⟨by rfl, fun wS hSw => by (try dsimp only at hSw); go_simp⟩) hHeld ?_
          try simp only [Act.put, List.setIfInBounds_toArray, List.set_cons_zero, List.set_cons_succ]
          refine wpAnyH_take (i := 2) (v := .pointer (some ⟨b, o2 + k * 4, none⟩)) (get_ops _ _ _ rfl) (by kernel_rfl) (by kernel_rfl) (by kernel_rfl) (fun _ _ _ h => h) (Or.inl ⟨by rfl, fun wS hSw => by (try dsimp only at hSw); go_simp⟩) hHeld ?_
          try simp only [Act.put, List.setIfInBounds_toArray, List.set_cons_zero, List.set_cons_succ]
          refine wpAnyH_take (i := 3) (v := (.agg (gR ⟨al, us, an, fi⟩).toArray)) (get_ops _ _ _ rfl) (by kernel_rfl) (by kernel_rfl) (by kernel_rfl) (fun _ _ _ h => h) (Or.inl ⟨by rfl, fun wS hSw => by (try dsimp only at hSw); exact exec_load 42 _ rfl ⟨b, o2 + k * 4, none⟩ (by go_simp) _ (load_rule hSw.1.2)⟩) hHeld ?_
          try simp only [Act.put, List.setIfInBounds_toArray, List.set_cons_zero, List.set_cons_succ]
          refine wpAnyH_take (i := 4) (v := .pointer (some ⟨w.heap.size, 1, none⟩)) (get_ops _ _ _ rfl) (by kernel_rfl) (by kernel_rfl) (by kernel_rfl) (fun _ _ _ h => h) (Or.inl ⟨by rfl, fun wS hSw => by (try dsimp only at hSw); go_simp⟩) hHeld ?_
          try simp only [Act.put, List.setIfInBounds_toArray, List.set_cons_zero, List.set_cons_succ]
          refine wpAnyH_take (i := 5) (v := .string u) (get_ops _ _ _ rfl) (by kernel_rfl) (by kernel_rfl) (by kernel_rfl) (fun _ _ _ h => h) (Or.inl ⟨by rfl, fun wS hSw => by (try dsimp only at hSw); have cS : wS.cell? ⟨w.heap.size, 1, none⟩ = some (.string u) := hSw.2.cell 1 rfl; clear hSw; go_simp⟩) hHeld ?_
          try simp only [Act.put, List.setIfInBounds_toArray, List.set_cons_zero, List.set_cons_succ]
          refine wpAnyH_take (i := 6) (v := .int .i64 ac) (get_ops _ _ _ rfl) (by kernel_rfl) (by kernel_rfl) (by kernel_rfl) (fun _ _ _ h => h) (Or.inl ⟨by rfl, fun wS hSw => by (try dsimp only at hSw); go_simp⟩) hHeld ?_
          try simp only [Act.put, List.setIfInBounds_toArray, List.set_cons_zero, List.set_cons_succ]
          refine wpAnyH_ready (rs := [7]) (by kernel_rfl) (by simp) ?_
          refine (AllReadyH.cons (get_ops _ _ _ rfl) (fun K hK => ?_) AllReadyH.nil)
          go_simp
          refine (HAP1.out x1).mono ?_
          rintro e x2 ⟨rfl, hb⟩
          have C_x2 : Hid ((b < x2.heap.size ∧ ∀ i v, (gR ⟨al, us, an, fi⟩)[i]? = some v → x2.cell? ⟨b, o2 + k * 4 + i, none⟩ = some v)) := Lib.hid (⟨Nat.lt_of_lt_of_le C_x1.out.1 hb.size, fun i v hv => (hb.cell (p := ⟨b, o2 + k * 4 + i, none⟩) C_x1.out.1).trans (C_x1.out.2 i v hv)⟩)
          have P_x2 : Hid (BK 28 x2 w.heap.size [.string c, .string u]) := Lib.hid (P_x1.out.step hb)
          have B_x2 : Hid (Below w.heap.size w x2) := Lib.hid (stepB B_x1.out hb)
          clear C_x1 P_x1 B_x1
          clear hHeld hb
          go_wp2_with fail
          refine hK.out _ _ ⟨C_x2.out, P_x2.out⟩ (fun hHeld => ?_)
          clear hK K
          try simp only [Act.put, List.setIfInBounds_toArray, List.set_cons_zero, List.set_cons_succ]
          refine wpAnyH_take (i := 8) (v := .bool true) (get_ops _ _ _ rfl) (by kernel_rfl) (by kernel_rfl) (by kernel_rfl) (fun _ _ _ h => h) (Or.inl ⟨by rfl, fun wS hSw => by (try dsimp only at hSw); go_simp⟩) hHeld ?_
          try simp only [Act.put, List.setIfInBounds_toArray, List.set_cons_zero, List.set_cons_succ]
          refine wpAnyH_take (i := 9) (v := .slice (some ⟨b, o2, none⟩) xs.length cc) (get_ops _ _ _ rfl) (by kernel_rfl) (by kernel_rfl) (by kernel_rfl) (fun _ _ _ h => h) (Or.inl ⟨by rfl, fun wS hSw => by (try dsimp only at hSw); go_simp⟩) hHeld ?_
          try simp only [Act.put, List.setIfInBounds_toArray, List.set_cons_zero, List.set_cons_succ]
          refine wpAnyH_take (i := 10) (v := .int .i64 k) (get_ops _ _ _ rfl) (by kernel_rfl) (by kernel_rfl) (by kernel_rfl) (fun _ _ _ h => h) (Or.inl ⟨by rfl, fun wS hSw => by (try dsimp only at hSw); go_simp⟩) hHeld ?_
          try simp only [Act.put, List.setIfInBounds_toArray, List.set_cons_zero, List.set_cons_succ]
          refine wpAnyH_take (i := 11) (v := .pointer (some ⟨b, o2 + k * 4, none⟩)) (get_ops _ _ _ rfl) (by kernel_rfl) (by kernel_rfl) (by kernel_rfl) (fun _ _ _ h => h) (Or.inl ⟨by rfl, fun wS hSw => by (try dsimp only at hSw); go_simp⟩) hHeld ?_
          try simp only [Act.put, List.setIfInBounds_toArray, List.set_cons_zero, List.set_cons_succ]
          refine wpAnyH_take (i := 12) (v := .pointer (some ⟨b, o2 + k * 4 + 3, none⟩)) (get_ops _ _ _ rfl) (by kernel_rfl) (by kernel_rfl) (by kernel_rfl) (fun _ _ _ h => h) (Or.inl ⟨by rfl, fun wS hSw => by (try dsimp only at hSw); go_simp⟩) hHeld ?_
          try simp only [Act.put, List.setIfInBounds_toArray, List.set_cons_zero, List.set_cons_succ]
          refine wpAnyH_take (i := 13) (v := .string fi) (get_ops _ _ _ rfl) (by kernel_rfl) (by kernel_rfl) (by kernel_rfl) (fun _ _ _ h => h) (Or.inl ⟨by rfl, fun wS hSw => by (try dsimp only at hSw); have cS : wS.cell? ⟨b, o2 + k * 4 + 3, none⟩ = some (.string fi) := hSw.1.2 3 _ rfl; clear hSw; go_simp⟩) hHeld ?_
          try simp only [Act.put, List.setIfInBounds_toArray, List.set_cons_zero, List.set_cons_succ]
          refine wpAnyH_take (i := 14) (v := (whV c u)) (get_ops _ _ _ rfl) (by kernel_rfl) (by kernel_rfl) (by kernel_rfl) (fun _ _ _ h => h) (Or.inl ⟨by rfl, fun wS hSw => by (try dsimp only at hSw); exact exec_load 28 _ rfl ⟨w.heap.size, 0, none⟩ (by go_simp) _ (S2.run_load_all (vs := [.string c, .string u]) hSw.2 Tryd.underlying28 rfl whoSize)⟩) hHeld ?_
          try simp only [Act.put, List.setIfInBounds_toArray, List.set_cons_zero, List.set_cons_succ]
          refine wpAnyH_take (i := 16) (v := .string o) (get_ops _ _ _ rfl) (by kernel_rfl) (by kernel_rfl) (by kernel_rfl) (fun _ _ _ h => h) (Or.inl ⟨by rfl, fun wS hSw => by (try dsimp only at hSw); go_simp⟩) hHeld ?_
          try simp only [Act.put, List.setIfInBounds_toArray, List.set_cons_zero, List.set_cons_succ]
          refine wpAnyH_ready (rs := [15]) (by kernel_rfl) (by simp) ?_
          refine (AllReadyH.cons (get_ops _ _ _ rfl) (fun K hK => ?_) AllReadyH.nil)
          go_simp
          refine (HEX1.out x2).mono ?_
          rintro e x3 ⟨rfl, hb⟩
          have C_x3 : Hid ((b < x3.heap.size ∧ ∀ i v, (gR ⟨al, us, an, fi⟩)[i]? = some v → x3.cell? ⟨b, o2 + k * 4 + i, none⟩ = some v)) := Lib.hid (⟨Nat.lt_of_lt_of_le C_x2.out.1 hb.size, fun i v hv => (hb.cell (p := ⟨b, o2 + k * 4 + i, none⟩) C_x2.out.1).trans (C_x2.out.2 i v hv)⟩)
          have P_x3 : Hid (BK 28 x3 w.heap.size [.string c, .string u]) := Lib.hid (P_x2.out.step hb)
          have B_x3 : Hid (Below w.heap.size w x3) := Lib.hid (stepB B_x2.out hb)
          clear C_x2 P_x2 B_x2
          clear hHeld hb
          go_wp2_with fail
          refine hK.out _ _ ⟨C_x3.out, P_x3.out⟩ (fun hHeld => ?_)
          clear hK K
          try simp only [Act.put, List.setIfInBounds_toArray, List.set_cons_zero, List.set_cons_succ]
          refine wpAnyH_ready (rs := [17]) (by kernel_rfl) (by simp) ?_
          refine (AllReadyH.cons (get_ops _ _ _ rfl) (fun K hK => ?_) AllReadyH.nil)
          go_simp
          refine (HMA1.out x3).mono ?_
          rintro e x4 ⟨rfl, hb⟩
          have C_x4 : Hid ((b < x4.heap.size ∧ ∀ i v, (gR ⟨al, us, an, fi⟩)[i]? = some v → x4.cell? ⟨b, o2 + k * 4 + i, none⟩ = some v)) := Lib.hid (⟨Nat.lt_of_lt_of_le C_x3.out.1 hb.size, fun i v hv => (hb.cell (p := ⟨b, o2 + k * 4 + i, none⟩) C_x3.out.1).trans (C_x3.out.2 i v hv)⟩)
          have P_x4 : Hid (BK 28 x4 w.heap.size [.string c, .string u]) := Lib.hid (P_x3.out.step hb)
          have B_x4 : Hid (Below w.heap.size w x4) := Lib.hid (stepB B_x3.out hb)
          clear C_x3 P_x3 B_x3
          clear hHeld hb
          go_wp2_with fail
          refine hK.out _ _ ⟨C_x4.out, P_x4.out⟩ (fun hHeld => ?_)
          clear hK K
          try simp only [Act.put, List.setIfInBounds_toArray, List.set_cons_zero, List.set_cons_succ]
          refine wpAnyH_take (i := 18) (v := .bool false) (get_ops _ _ _ rfl) (by kernel_rfl) (by kernel_rfl) (by kernel_rfl) (fun _ _ _ h => h) (Or.inl ⟨by rfl, fun wS hSw => by (try dsimp only at hSw); go_simp⟩) hHeld ?_
          try simp only [Act.put, List.setIfInBounds_toArray, List.set_cons_zero, List.set_cons_succ]
          refine wpAnyH_done (by kernel_rfl) ?_ _
          go_wp2_with fail
          go_roundg gk
          case measure => omega
          case rel => exact ⟨k + 1, by have := HG.out; omega, by go_num, HNN.out (by rw [HPD.out]; rfl), P_x4.out, B_x4.out⟩
        | true =>
          obtain ⟨x1, hx1⟩ : ∃ x1, x1 = World.drew wr := ⟨_, rfl⟩
          have hbD : Below wr.heap.size wr x1 := by rw [hx1]; exact (Below.refl _ _).drew
          have C_x1 : Hid ((b < x1.heap.size ∧ ∀ i v, (gR ⟨al, us, an, fi⟩)[i]? = some v → x1.cell? ⟨b, o2 + k * 4 + i, none⟩ = some v)) := Lib.hid (⟨Nat.lt_of_lt_of_le C_wr.out.1 hbD.size, fun i v hv => (hbD.cell (p := ⟨b, o2 + k * 4 + i, none⟩) C_wr.out.1).trans (C_wr.out.2 i v hv)⟩)
          have P_x1 : Hid (BK 28 x1 w.heap.size [.string c, .string u]) := Lib.hid (P_wr.out.step hbD)
          have B_x1 : Hid (Below w.heap.size w x1) := Lib.hid (stepB B_wr.out hbD)
          clear C_wr P_wr B_wr
          have hbd : (fun w' => (b < w'.heap.size ∧ ∀ i v, (gR ⟨al, us, an, fi⟩)[i]? = some v → w'.cell? ⟨b, o2 + k * 4 + i, none⟩ = some v) ∧ BK 28 w' w.heap.size [.string c, .string u]) (World.drew wr) := by rw [← hx1]; exact ⟨C_x1.out, P_x1.out⟩
          have hSD : (fun w' => (b < w'.heap.size ∧ ∀ i v, (gR ⟨al, us, an, fi⟩)[i]? = some v → w'.cell? ⟨b, o2 + k * 4 + i, none⟩ = some v) ∧ BK 28 w' w.heap.size [.string c, .string u]) x1 := ⟨C_x1.out, P_x1.out⟩
          have HWD := Lib.hid hx1
          clear hx1 hbD
          refine wp_region_held_drew (S := fun w' => (b < w'.heap.size ∧ ∀ i v, (gR ⟨al, us, an, fi⟩)[i]? = some v → w'.cell? ⟨b, o2 + k * 4 + i, none⟩ = some v) ∧ BK 28 w' w.heap.size [.string c, .string u]) (by kernel_rfl) hbd (fun hHeld => ?_)
          rw [← HWD.out]
          clear hHeld
          have hHeld := hSD
          clear hSD hbd HWD
          refine wpAnyH_take (i := 0) (v := .slice (some ⟨b, o2, none⟩) xs.length cc) (get_ops _ _ _ rfl) (by kernel_rfl) (by kernel_rfl) (by kernel_rfl) (fun _ _ _ h => h) (Or.inl ⟨by rfl, fun wS hSw => by (try dsimp only at hSw); go_simp⟩) hHeld ?_
          try simp only [Act.put, List.setIfInBounds_toArray, List.set_cons_zero, List.set_cons_succ]
          refine wpAnyH_take (i := 1) (v := .int .i64 k) (get_ops _ _ _ rfl) (by kernel_rfl) (by kernel_rfl) (by kernel_rfl) (fun _ _ _ h => h) (Or.inl ⟨by rfl, fun wS hSw => by (try dsimp only at hSw); go_simp⟩) hHeld ?_
          try simp only [Act.put, List.setIfInBounds_toArray, List.set_cons_zero, List.set_cons_succ]
          refine wpAnyH_take (i := 2) (v := .pointer (some ⟨b, o2 + k * 4, none⟩)) (get_ops _ _ _ rfl) (by kernel_rfl) (by kernel_rfl) (by kernel_rfl) (fun _ _ _ h => h) (Or.inl ⟨by rfl, fun wS hSw => by (try dsimp only at hSw); go_simp⟩) hHeld ?_
          try simp only [Act.put, List.setIfInBounds_toArray, List.set_cons_zero, List.set_cons_succ]
          refine wpAnyH_take (i := 3) (v := (.agg (gR ⟨al, us, an, fi⟩).toArray)) (get_ops _ _ _ rfl) (by kernel_rfl) (by kernel_rfl) (by kernel_rfl) (fun _ _ _ h => h) (Or.inl ⟨by rfl, fun wS hSw => by (try dsimp only at hSw); exact exec_load 42 _ rfl ⟨b, o2 + k * 4, none⟩ (by go_simp) _ (load_rule hSw.1.2)⟩) hHeld ?_
          try simp only [Act.put, List.setIfInBounds_toArray, List.set_cons_zero, List.set_cons_succ]
          refine wpAnyH_take (i := 4) (v := .pointer (some ⟨w.heap.size, 1, none⟩)) (get_ops _ _ _ rfl) (by kernel_rfl) (by kernel_rfl) (by kernel_rfl) (fun _ _ _ h => h) (Or.inl ⟨by rfl, fun wS hSw => by (try dsimp only at hSw); go_simp⟩) hHeld ?_
          try simp only [Act.put, List.setIfInBounds_toArray, List.set_cons_zero, List.set_cons_succ]
          refine wpAnyH_take (i := 5) (v := .string u) (get_ops _ _ _ rfl) (by kernel_rfl) (by kernel_rfl) (by kernel_rfl) (fun _ _ _ h => h) (Or.inl ⟨by rfl, fun wS hSw => by (try dsimp only at hSw); have cS : wS.cell? ⟨w.heap.size, 1, none⟩ = some (.string u) := hSw.2.cell 1 rfl; clear hSw; go_simp⟩) hHeld ?_
          try simp only [Act.put, List.setIfInBounds_toArray, List.set_cons_zero, List.set_cons_succ]
          refine wpAnyH_take (i := 6) (v := .int .i64 ac) (get_ops _ _ _ rfl) (by kernel_rfl) (by kernel_rfl) (by kernel_rfl) (fun _ _ _ h => h) (Or.inl ⟨by rfl, fun wS hSw => by (try dsimp only at hSw); go_simp⟩) hHeld ?_
          try simp only [Act.put, List.setIfInBounds_toArray, List.set_cons_zero, List.set_cons_succ]
          refine wpAnyH_ready (rs := [7]) (by kernel_rfl) (by simp) ?_
          refine (AllReadyH.cons (get_ops _ _ _ rfl) (fun K hK => ?_) AllReadyH.nil)
          go_simp
          refine (HAP1.out x1).mono ?_
          rintro e x2 ⟨rfl, hb⟩
          have C_x2 : Hid ((b < x2.heap.size ∧ ∀ i v, (gR ⟨al, us, an, fi⟩)[i]? = some v → x2.cell? ⟨b, o2 + k * 4 + i, none⟩ = some v)) := Lib.hid (⟨Nat.lt_of_lt_of_le C_x1.out.1 hb.size, fun i v hv => (hb.cell (p := ⟨b, o2 + k * 4 + i, none⟩) C_x1.out.1).trans (C_x1.out.2 i v hv)⟩)
          have P_x2 : Hid (BK 28 x2 w.heap.size [.string c, .string u]) := Lib.hid (P_x1.out.step hb)
          have B_x2 : Hid (Below w.heap.size w x2) := Lib.hid (stepB B_x1.out hb)
          clear C_x1 P_x1 B_x1
          clear hHeld hb
          go_wp2_with fail
          refine hK.out _ _ ⟨C_x2.out, P_x2.out⟩ (fun hHeld => ?_)
          clear hK K
          try simp only [Act.put, List.setIfInBounds_toArray, List.set_cons_zero, List.set_cons_succ]
          refine wpAnyH_take (i := 8) (v := .bool true) (get_ops _ _ _ rfl) (by kernel_rfl) (by kernel_rfl) (by kernel_rfl) (fun _ _ _ h => h) (Or.inl ⟨by rfl, fun wS hSw => by (try dsimp only at hSw); go_simp⟩) hHeld ?_
          try simp only [Act.put, List.setIfInBounds_toArray, List.set_cons_zero, List.set_cons_succ]
          refine wpAnyH_take (i := 9) (v := .slice (some ⟨b, o2, none⟩) xs.length cc) (get_ops _ _ _ rfl) (by kernel_rfl) (by kernel_rfl) (by kernel_rfl) (fun _ _ _ h => h) (Or.inl ⟨by rfl, fun wS hSw => by (try dsimp only at hSw); go_simp⟩) hHeld ?_
          try simp only [Act.put, List.setIfInBounds_toArray, List.set_cons_zero, List.set_cons_succ]
          refine wpAnyH_take (i := 10) (v := .int .i64 k) (get_ops _ _ _ rfl) (by kernel_rfl) (by kernel_rfl) (by kernel_rfl) (fun _ _ _ h => h) (Or.inl ⟨by rfl, fun wS hSw => by (try dsimp only at hSw); go_simp⟩) hHeld ?_
          try simp only [Act.put, List.setIfInBounds_toArray, List.set_cons_zero, List.set_cons_succ]
          refine wpAnyH_take (i := 11) (v := .pointer (some ⟨b, o2 + k * 4, none⟩)) (get_ops _ _ _ rfl) (by kernel_rfl) (by kernel_rfl) (by kernel_rfl) (fun _ _ _ h => h) (Or.inl ⟨by rfl, fun wS hSw => by (try dsimp only at hSw); go_simp⟩) hHeld ?_
          try simp only [Act.put, List.setIfInBounds_toArray, List.set_cons_zero, List.set_cons_succ]
          refine wpAnyH_take (i := 12) (v := .pointer (some ⟨b, o2 + k * 4 + 3, none⟩)) (get_ops _ _ _ rfl) (by kernel_rfl) (by kernel_rfl) (by kernel_rfl) (fun _ _ _ h => h) (Or.inl ⟨by rfl, fun wS hSw => by (try dsimp only at hSw); go_simp⟩) hHeld ?_
          try simp only [Act.put, List.setIfInBounds_toArray, List.set_cons_zero, List.set_cons_succ]
          refine wpAnyH_take (i := 13) (v := .string fi) (get_ops _ _ _ rfl) (by kernel_rfl) (by kernel_rfl) (by kernel_rfl) (fun _ _ _ h => h) (Or.inl ⟨by rfl, fun wS hSw => by (try dsimp only at hSw); have cS : wS.cell? ⟨b, o2 + k * 4 + 3, none⟩ = some (.string fi) := hSw.1.2 3 _ rfl; clear hSw; go_simp⟩) hHeld ?_
          try simp only [Act.put, List.setIfInBounds_toArray, List.set_cons_zero, List.set_cons_succ]
          refine wpAnyH_take (i := 14) (v := (whV c u)) (get_ops _ _ _ rfl) (by kernel_rfl) (by kernel_rfl) (by kernel_rfl) (fun _ _ _ h => h) (Or.inl ⟨by rfl, fun wS hSw => by (try dsimp only at hSw); exact exec_load 28 _ rfl ⟨w.heap.size, 0, none⟩ (by go_simp) _ (S2.run_load_all (vs := [.string c, .string u]) hSw.2 Tryd.underlying28 rfl whoSize)⟩) hHeld ?_
          try simp only [Act.put, List.setIfInBounds_toArray, List.set_cons_zero, List.set_cons_succ]
          refine wpAnyH_take (i := 16) (v := .string o) (get_ops _ _ _ rfl) (by kernel_rfl) (by kernel_rfl) (by kernel_rfl) (fun _ _ _ h => h) (Or.inl ⟨by rfl, fun wS hSw => by (try dsimp only at hSw); go_simp⟩) hHeld ?_
          try simp only [Act.put, List.setIfInBounds_toArray, List.set_cons_zero, List.set_cons_succ]
          refine wpAnyH_ready (rs := [15]) (by kernel_rfl) (by simp) ?_
          refine (AllReadyH.cons (get_ops _ _ _ rfl) (fun K hK => ?_) AllReadyH.nil)
          go_simp
          refine (HEX1.out x2).mono ?_
          rintro e x3 ⟨rfl, hb⟩
          have C_x3 : Hid ((b < x3.heap.size ∧ ∀ i v, (gR ⟨al, us, an, fi⟩)[i]? = some v → x3.cell? ⟨b, o2 + k * 4 + i, none⟩ = some v)) := Lib.hid (⟨Nat.lt_of_lt_of_le C_x2.out.1 hb.size, fun i v hv => (hb.cell (p := ⟨b, o2 + k * 4 + i, none⟩) C_x2.out.1).trans (C_x2.out.2 i v hv)⟩)
          have P_x3 : Hid (BK 28 x3 w.heap.size [.string c, .string u]) := Lib.hid (P_x2.out.step hb)
          have B_x3 : Hid (Below w.heap.size w x3) := Lib.hid (stepB B_x2.out hb)
          clear C_x2 P_x2 B_x2
          clear hHeld hb
          go_wp2_with fail
          refine hK.out _ _ ⟨C_x3.out, P_x3.out⟩ (fun hHeld => ?_)
          clear hK K
          try simp only [Act.put, List.setIfInBounds_toArray, List.set_cons_zero, List.set_cons_succ]
          refine wpAnyH_ready (rs := [17]) (by kernel_rfl) (by simp) ?_
          refine (AllReadyH.cons (get_ops _ _ _ rfl) (fun K hK => ?_) AllReadyH.nil)
          go_simp
          refine (HMA1.out x3).mono ?_
          rintro e x4 ⟨rfl, hb⟩
          have C_x4 : Hid ((b < x4.heap.size ∧ ∀ i v, (gR ⟨al, us, an, fi⟩)[i]? = some v → x4.cell? ⟨b, o2 + k * 4 + i, none⟩ = some v)) := Lib.hid (⟨Nat.lt_of_lt_of_le C_x3.out.1 hb.size, fun i v hv => (hb.cell (p := ⟨b, o2 + k * 4 + i, none⟩) C_x3.out.1).trans (C_x3.out.2 i v hv)⟩)
          have P_x4 : Hid (BK 28 x4 w.heap.size [.string c, .string u]) := Lib.hid (P_x3.out.step hb)
          have B_x4 : Hid (Below w.heap.size w x4) := Lib.hid (stepB B_x3.out hb)
          clear C_x3 P_x3 B_x3
          clear hHeld hb
          go_wp2_with fail
          refine hK.out _ _ ⟨C_x4.out, P_x4.out⟩ (fun hHeld => ?_)
          clear hK K
          try simp only [Act.put, List.setIfInBounds_toArray, List.set_cons_zero, List.set_cons_succ]
          refine wpAnyH_take (i := 18) (v := .bool true) (get_ops _ _ _ rfl) (by kernel_rfl) (by kernel_rfl) (by kernel_rfl) (fun _ _ _ h => h) (Or.inl ⟨by rfl, fun wS hSw => by (try dsimp only at hSw); go_simp⟩) hHeld ?_
          try simp only [Act.put, List.setIfInBounds_toArray, List.set_cons_zero, List.set_cons_succ]
          refine wpAnyH_done (by kernel_rfl) ?_ _
          have z0 : x4.cell? ⟨b, o2 + k * 4, none⟩ = some (.bool al) := C_x4.out.2 0 _ rfl
          have HRR : Hid (R = al) := Lib.hid (HRY.out (by rw [HPD.out]; rfl))
          go_wp2_with fail
          go_ret
          exact ⟨by rw [HRR.out]; rfl, B_x4.out⟩

set_option maxRecDepth 20000 in
set_option maxHeartbeats 8000000 in
theorem rsubs_any (A : Option Addr) (cc : Nat) (xs : List Rl) (c u o : ByteArray) (w : World) (h : RL w w.heap.size A xs) (hn : xs.length ≤ 140737488355328)
    (hc : c.size ≤ 64) (hu : u.size ≤ 64) (hf : ∀ x ∈ xs, x.fi.size ≤ 1000) :
    Calls Tryd.prog 20 #[.slice A xs.length cc, whV c u, .string o] w fun e w' => e = .returned (.bool (subsR xs c u o)) ∧ Below w.heap.size w w' := by
  have HS := Lib.hid h
  have HF := Lib.hid hf
  have HAPP := Lib.hid (fun x w1 => applies_any x u 2 w1)
  have HEXP := Lib.hid (fun (x : Rl) (hx : x.fi.size ≤ 1000) w1 => rExpand_any x.fi c u w1 hc hu hx)
  have HMAT := Lib.hid (fun a w1 => sMet_any a o w1)
  have HCOV := Lib.hid (fun a w1 => sCov_any a o w1)
  obtain ⟨R, hR⟩ : ∃ R, subsR xs c u o = R := ⟨_, rfl⟩
  have HR := Lib.hid hR
  rw [hR]
  clear h hf hR hc hu
  unfold whV
  go_enter Tryd.func20, Tryd.ntmps20
  go_upto_region 1 with fail
  refine name_world (C := fun w1 => Code.wp _ _ _ _ w1) (w.alloc (.cells ([.string c, .string u] : List Value).toArray 28)) ?_
  intro w1 hw1
  have hb1 : Below w.heap.size w w1 := by rw [hw1]; exact S2.below_new w _
  have V_w1 : Hid (BK 28 w1 w.heap.size [.string c, .string u]) := Lib.hid (by rw [hw1]; exact BK.new w _ _)
  have B_w1 := Lib.hid hb1
  clear hw1 hb1
  go_wp2_with fail
  go_loopg [7] xs.length (fun g v wr => ∃ k : Nat, k + g = xs.length ∧ v = .int .i64 k ∧ NoTo (suP c u o) xs k ∧ BK 28 wr w.heap.size [.string c, .string u] ∧ Below w.heap.size w wr)
  case atStart => exact ⟨0, by omega, rfl, rfl, V_w1.out, B_w1.out⟩
  case round =>
    obtain ⟨k, hkg, rfl, hno, hv, hb0⟩ := hrel
    have HNO := Lib.hid hno
    have P_wr := Lib.hid hv
    have B_wr := Lib.hid hb0
    have HG := Lib.hid hkg
    clear hno hv hb0 V_w1 B_w1
    cases gk with
    | zero =>
      obtain rfl : k = xs.length := by omega
      have HRF : Hid (R = false) := Lib.hid (by rw [← HR.out]; unfold subsR; rw [HNO.out.none])
      clear hkg
      go_wp2
      go_ret
      exact ⟨by rw [HRF.out]; rfl, B_wr.out⟩
    | succ gk =>
      have hlt : k < xs.length := by omega
      have e3 : decide ((k : Int) < (xs.length : Int)) = true := decide_eq_true (by omega)
      obtain ⟨x, hx⟩ : ∃ x, xs[k]? = some x := ⟨_, List.getElem?_eq_getElem hlt⟩
      obtain ⟨b, o2, hA, hbB, hcl⟩ := RL.at_ (GL.step HS.out B_wr.out) hx
      subst hA
      have j1 : (0 : Int) ≤ (k : Int) := by omega
      have j2 : (k : Int) < (xs.length : Int) := by omega
      have HY := Lib.hid (@NoTo.hit (suP c u o) xs k x HNO.out hx)
      have HNN := Lib.hid (@NoTo.succ (suP c u o) xs k x HNO.out hx)
      have HFX := Lib.hid (HF.out x (List.mem_of_getElem? hx))
      have C_wr : Hid (b < wr.heap.size ∧ ∀ i v, (gR x)[i]? = some v → wr.cell? ⟨b, o2 + k * 4 + i, none⟩ = some v) := Lib.hid ⟨hbB, hcl⟩
      clear hx hcl hbB hkg hlt
      have HPD : Hid (suP c u o x = (forR x u 2 && (cmRes (expB x.fi c u) o).isSome)) := Lib.hid rfl
      have HRY : Hid (suP c u o x = true → R = (x.al && coversL (expB x.fi c u) o)) := Lib.hid (fun hp => by rw [← HR.out]; unfold subsR; rw [HY.out hp])
      have HAP1 := Lib.hid (HAPP.out x)
      have HEX1 := Lib.hid (HEXP.out x HFX.out)
      have HMA1 := Lib.hid (HMAT.out (expB x.fi c u))
      have HCO1 := Lib.hid (HCOV.out (expB x.fi c u))
      obtain ⟨b1, hb1⟩ : ∃ z, forR x u 2 = z := ⟨_, rfl⟩
      obtain ⟨b2, hb2⟩ : ∃ z, (cmRes (expB x.fi c u) o).isSome = z := ⟨_, rfl⟩
      obtain ⟨b3, hb3⟩ : ∃ z, coversL (expB x.fi c u) o = z := ⟨_, rfl⟩
      rw [hb1, hb2] at HPD
      rw [hb1] at HAP1
      rw [hb2] at HMA1
      rw [hb3] at HCO1 HRY
      generalize expB x.fi c u = ex at *
      clear hb1 hb2 hb3 HY
      obtain ⟨al, us, an, fi⟩ := x
      unfold rlV at HAP1
      unfold whV at HEX1
      go_upto_region 4 with fail
      obtain ⟨v1, hv1⟩ : ∃ v1, v1 = World.drew wr := ⟨_, rfl⟩
      have hbD : Below wr.heap.size wr v1 := by rw [hv1]; exact (Below.refl _ _).drew
      have C_v1 : Hid ((b < v1.heap.size ∧ ∀ i v, (gR ⟨al, us, an, fi⟩)[i]? = some v → v1.cell? ⟨b, o2 + k * 4 + i, none⟩ = some v)) := Lib.hid (⟨Nat.lt_of_lt_of_le C_wr.out.1 hbD.size, fun i v hv => (hbD.cell (p := ⟨b, o2 + k * 4 + i, none⟩) C_wr.out.1).trans (C_wr.out.2 i v hv)⟩)
      have P_v1 : Hid (BK 28 v1 w.heap.size [.string c, .string u]) := Lib.hid (P_wr.out.step hbD)
      have B_v1 : Hid (Below w.heap.size w v1) := Lib.hid (stepB B_wr.out hbD)
      clear C_wr P_wr B_wr
      have hbd : (fun w' => (b < w'.heap.size ∧ ∀ i v, (gR ⟨al, us, an, fi⟩)[i]? = some v → w'.cell? ⟨b, o2 + k * 4 + i, none⟩ = some v) ∧ BK 28 w' w.heap.size [.string c, .string u]) (World.drew wr) := by rw [← hv1]; exact ⟨C_v1.out, P_v1.out⟩
      have hSD : (fun w' => (b < w'.heap.size ∧ ∀ i v, (gR ⟨al, us, an, fi⟩)[i]? = some v → w'.cell? ⟨b, o2 + k * 4 + i, none⟩ = some v) ∧ BK 28 w' w.heap.size [.string c, .string u]) v1 := ⟨C_v1.out, P_v1.out⟩
      have HWD := Lib.hid hv1
      clear hv1 hbD
      refine wp_region_held_drew (S := fun w' => (b < w'.heap.size ∧ ∀ i v, (gR ⟨al, us, an, fi⟩)[i]? = some v → w'.cell? ⟨b, o2 + k * 4 + i, none⟩ = some v) ∧ BK 28 w' w.heap.size [.string c, .string u]) (by kernel_rfl) hbd (fun hHeld => ?_)
      rw [← HWD.out]
      clear hHeld
      have hHeld := hSD
      clear hSD hbd HWD
      refine wpAnyH_take (i := 0) (v := .slice (some ⟨b, o2, none⟩) xs.length cc) (get_ops _ _ _ rfl) (by kernel_rfl) (by kernel_rfl) (by kernel_rfl) (fun _ _ _ h => h) (Or.inl ⟨by rfl, fun wS hSw => by (try dsimp only at hSw); go_simp⟩) hHeld ?_
      try simp only [Act.put, List.setIfInBounds_toArray, List.set_cons_zero, List.set_cons_succ]
      refine wpAnyH_take (i := 1) (v := .int .i64 k) (get_ops _ _ _ rfl) (by kernel_rfl) (by kernel_rfl) (by kernel_rfl) (fun _ _ _ h => h) (Or.inl ⟨by rfl, fun wS hSw => by (try dsimp only at hSw); go_simp⟩) hHeld ?_
      try simp only [Act.put, List.setIfInBounds_toArray, List.set_cons_zero, List.set_cons_succ]
      refine wpAnyH_take (i := 2) (v := .pointer (some ⟨b, o2 + k * 4, none⟩)) (get_ops _ _ _ rfl) (by kernel_rfl) (by kernel_rfl) (by kernel_rfl) (fun _ _ _ h => h) (Or.inl ⟨by rfl, fun wS hSw => by (try dsimp only at hSw); go_simp⟩) hHeld ?_
      try simp only [Act.put, List.setIfInBounds_toArray, List.set_cons_zero, List.set_cons_succ]
      refine wpAnyH_take (i := 3) (v := .pointer (some ⟨b, o2 + k * 4 + 3, none⟩)) (get_ops _ _ _ rfl) (by kernel_rfl) (by kernel_rfl) (by kernel_rfl) (fun _ _ _ h => h) (Or.inl ⟨by rfl, fun wS hSw => by (try dsimp only at hSw); go_simp⟩) hHeld ?_
      try simp only [Act.put, List.setIfInBounds_toArray, List.set_cons_zero, List.set_cons_succ]
      refine wpAnyH_take (i := 4) (v := .string fi) (get_ops _ _ _ rfl) (by kernel_rfl) (by kernel_rfl) (by kernel_rfl) (fun _ _ _ h => h) (Or.inl ⟨by rfl, fun wS hSw => by (try dsimp only at hSw); have cS : wS.cell? ⟨b, o2 + k * 4 + 3, none⟩ = some (.string fi) := hSw.1.2 3 _ rfl; clear hSw; go_simp⟩) hHeld ?_
      try simp only [Act.put, List.setIfInBounds_toArray, List.set_cons_zero, List.set_cons_succ]
      refine wpAnyH_take (i := 5) (v := (whV c u)) (get_ops _ _ _ rfl) (by kernel_rfl) (by kernel_rfl) (by kernel_rfl) (fun _ _ _ h => h) (Or.inl ⟨by rfl, fun wS hSw => by (try dsimp only at hSw); exact exec_load 28 _ rfl ⟨w.heap.size, 0, none⟩ (by go_simp) _ (S2.run_load_all (vs := [.string c, .string u]) hSw.2 Tryd.underlying28 rfl whoSize)⟩) hHeld ?_
      try simp only [Act.put, List.setIfInBounds_toArray, List.set_cons_zero, List.set_cons_succ]
      refine wpAnyH_ready (rs := [6]) (by kernel_rfl) (by simp) ?_
      refine (AllReadyH.cons (get_ops _ _ _ rfl) (fun K hK => ?_) AllReadyH.nil)
      go_simp
      refine (HEX1.out v1).mono ?_
      rintro e v2 ⟨rfl, hb⟩
      have C_v2 : Hid ((b < v2.heap.size ∧ ∀ i v, (gR ⟨al, us, an, fi⟩)[i]? = some v → v2.cell? ⟨b, o2 + k * 4 + i, none⟩ = some v)) := Lib.hid (⟨Nat.lt_of_lt_of_le C_v1.out.1 hb.size, fun i v hv => (hb.cell (p := ⟨b, o2 + k * 4 + i, none⟩) C_v1.out.1).trans (C_v1.out.2 i v hv)⟩)
      have P_v2 : Hid (BK 28 v2 w.heap.size [.string c, .string u]) := Lib.hid (P_v1.out.step hb)
      have B_v2 : Hid (Below w.heap.size w v2) := Lib.hid (stepB B_v1.out hb)
      clear C_v1 P_v1 B_v1
      clear hHeld hb
      go_wp2_with fail
      refine hK.out _ _ ⟨C_v2.out, P_v2.out⟩ (fun hHeld => ?_)
      clear hK K
      try simp only [Act.put, List.setIfInBounds_toArray, List.set_cons_zero, List.set_cons_succ]
      refine wpAnyH_take (i := 7) (v := .string ex) (get_ops _ _ _ rfl) (by kernel_rfl) (by kernel_rfl) (by kernel_rfl) (fun _ _ _ h => h) (Or.inl ⟨by rfl, fun wS hSw => by (try dsimp only at hSw); go_simp⟩) hHeld ?_
      try simp only [Act.put, List.setIfInBounds_toArray, List.set_cons_zero, List.set_cons_succ]
      refine wpAnyH_done (by kernel_rfl) ?_ _
      go_upto_region 5 with fail
      cases b1 with
      | false =>
        obtain ⟨v3, hv3⟩ : ∃ v3, v3 = World.drew v2 := ⟨_, rfl⟩
        have hbD : Below v2.heap.size v2 v3 := by rw [hv3]; exact (Below.refl _ _).drew
        have C_v3 : Hid ((b < v3.heap.size ∧ ∀ i v, (gR ⟨al, us, an, fi⟩)[i]? = some v → v3.cell? ⟨b, o2 + k * 4 + i, none⟩ = some v)) := Lib.hid (⟨Nat.lt_of_lt_of_le C_v2.out.1 hbD.size, fun i v hv => (hbD.cell (p := ⟨b, o2 + k * 4 + i, none⟩) C_v2.out.1).trans (C_v2.out.2 i v hv)⟩)
        have P_v3 : Hid (BK 28 v3 w.heap.size [.string c, .string u]) := Lib.hid (P_v2.out.step hbD)
        have B_v3 : Hid (Below w.heap.size w v3) := Lib.hid (stepB B_v2.out hbD)
        clear C_v2 P_v2 B_v2
        have hbd : (fun w' => (b < w'.heap.size ∧ ∀ i v, (gR ⟨al, us, an, fi⟩)[i]? = some v → w'.cell? ⟨b, o2 + k * 4 + i, none⟩ = some v) ∧ BK 28 w' w.heap.size [.string c, .string u]) (World.drew v2) := by rw [← hv3]; exact ⟨C_v3.out, P_v3.out⟩
        have hSD : (fun w' => (b < w'.heap.size ∧ ∀ i v, (gR ⟨al, us, an, fi⟩)[i]? = some v → w'.cell? ⟨b, o2 + k * 4 + i, none⟩ = some v) ∧ BK 28 w' w.heap.size [.string c, .string u]) v3 := ⟨C_v3.out, P_v3.out⟩
        have HWD := Lib.hid hv3
        clear hv3 hbD
        refine wp_region_held_drew (S := fun w' => (b < w'.heap.size ∧ ∀ i v, (gR ⟨al, us, an, fi⟩)[i]? = some v → w'.cell? ⟨b, o2 + k * 4 + i, none⟩ = some v) ∧ BK 28 w' w.heap.size [.string c, .string u]) (by kernel_rfl) hbd (fun hHeld => ?_)
        rw [← HWD.out]
        clear hHeld
        have hHeld := hSD
        clear hSD hbd HWD
        refine wpAnyH_take (i := 0) (v := .slice (some ⟨b, o2, none⟩) xs.length cc) (get_ops _ _ _ rfl) (by kernel_rfl) (by kernel_rfl) (by kernel_rfl) (fun _ _ _ h => h) (Or.inl ⟨by rfl, fun wS hSw => by (try dsimp only at hSw); go_simp⟩) hHeld ?_
        try simp only [Act.put, List.setIfInBounds_toArray, List.set_cons_zero, List.set_cons_succ]
        refine wpAnyH_take (i := 1) (v := .int .i64 k) (get_ops _ _ _ rfl) (by kernel_rfl) (by kernel_rfl) (by kernel_rfl) (fun _ _ _ h => h) (Or.inl ⟨by rfl, fun wS hSw => by (try dsimp only at hSw); go_simp⟩) hHeld ?_
        try simp only [Act.put, List.setIfInBounds_toArray, List.set_cons_zero, List.set_cons_succ]
        refine wpAnyH_take (i := 2) (v := .pointer (some ⟨b, o2 + k * 4, none⟩)) (get_ops _ _ _ rfl) (by kernel_rfl) (by kernel_rfl) (by kernel_rfl) (fun _ _ _ h => h) (Or.inl ⟨by rfl, fun wS hSw => by (try dsimp only at hSw); go_simp⟩) hHeld ?_
        try simp only [Act.put, List.setIfInBounds_toArray, List.set_cons_zero, List.set_cons_succ]
        refine wpAnyH_take (i := 3) (v := (.agg (gR ⟨al, us, an, fi⟩).toArray)) (get_ops _ _ _ rfl) (by kernel_rfl) (by kernel_rfl) (by kernel_rfl) (fun _ _ _ h => h) (Or.inl ⟨by rfl, fun wS hSw => by (try dsimp only at hSw); exact exec_load 42 _ rfl ⟨b, o2 + k * 4, none⟩ (by go_simp) _ (load_rule hSw.1.2)⟩) hHeld ?_
        try simp only [Act.put, List.setIfInBounds_toArray, List.set_cons_zero, List.set_cons_succ]
        refine wpAnyH_take (i := 4) (v := .pointer (some ⟨w.heap.size, 1, none⟩)) (get_ops _ _ _ rfl) (by kernel_rfl) (by kernel_rfl) (by kernel_rfl) (fun _ _ _ h => h) (Or.inl ⟨by rfl, fun wS hSw => by (try dsimp only at hSw); go_simp⟩) hHeld ?_
        try simp only [Act.put, List.setIfInBounds_toArray, List.set_cons_zero, List.set_cons_succ]
        refine wpAnyH_take (i := 5) (v := .string u) (get_ops _ _ _ rfl) (by kernel_rfl) (by kernel_rfl) (by kernel_rfl) (fun _ _ _ h => h) (Or.inl ⟨by rfl, fun wS hSw => by (try dsimp only at hSw); have cS : wS.cell? ⟨w.heap.size, 1, none⟩ = some (.string u) := hSw.2.cell 1 rfl; clear hSw; go_simp⟩) hHeld ?_
        try simp only [Act.put, List.setIfInBounds_toArray, List.set_cons_zero, List.set_cons_succ]
        refine wpAnyH_ready (rs := [6]) (by kernel_rfl) (by simp) ?_
        refine (AllReadyH.cons (get_ops _ _ _ rfl) (fun K hK => ?_) AllReadyH.nil)
        go_simp
        refine (HAP1.out v3).mono ?_
        rintro e v4 ⟨rfl, hb⟩
        have C_v4 : Hid ((b < v4.heap.size ∧ ∀ i v, (gR ⟨al, us, an, fi⟩)[i]? = some v → v4.cell? ⟨b, o2 + k * 4 + i, none⟩ = some v)) := Lib.hid (⟨Nat.lt_of_lt_of_le C_v3.out.1 hb.size, fun i v hv => (hb.cell (p := ⟨b, o2 + k * 4 + i, none⟩) C_v3.out.1).trans (C_v3.out.2 i v hv)⟩)
        have P_v4 : Hid (BK 28 v4 w.heap.size [.string c, .string u]) := Lib.hid (P_v3.out.step hb)
        have B_v4 : Hid (Below w.heap.size w v4) := Lib.hid (stepB B_v3.out hb)
        clear C_v3 P_v3 B_v3
        clear hHeld hb
        go_wp2_with fail
        refine hK.out _ _ ⟨C_v4.out, P_v4.out⟩ (fun hHeld => ?_)
        clear hK K
        try simp only [Act.put, List.setIfInBounds_toArray, List.set_cons_zero, List.set_cons_succ]
        refine wpAnyH_take (i := 7) (v := .bool false) (get_ops _ _ _ rfl) (by kernel_rfl) (by kernel_rfl) (by kernel_rfl) (fun _ _ _ h => h) (Or.inl ⟨by rfl, fun wS hSw => by (try dsimp only at hSw); go_simp⟩) hHeld ?_
        try simp only [Act.put, List.setIfInBounds_toArray, List.set_cons_zero, List.set_cons_succ]
        refine wpAnyH_take (i := 8) (v := undef) (get_ops _ _ _ rfl) (by kernel_rfl) (by kernel_rfl) (by kernel_rfl) (fun _ _ _ h => h) (Or.inr ⟨by rfl, rfl⟩) hHeld ?_
        try simp only [Act.put, List.setIfInBounds_toArray, List.set_cons_zero, List.set_cons_succ]
        refine wpAnyH_take (i := 9) (v := undef) (get_ops _ _ _ rfl) (by kernel_rfl) (by kernel_rfl) (by kernel_rfl) (fun _ _ _ h => h) (Or.inr ⟨by rfl, rfl⟩) hHeld ?_
        try simp only [Act.put, List.setIfInBounds_toArray, List.set_cons_zero, List.set_cons_succ]
        refine wpAnyH_take (i := 10) (v := undef) (get_ops _ _ _ rfl) (by kernel_rfl) (by kernel_rfl) (by kernel_rfl) (fun _ _ _ h => h) (Or.inr ⟨by rfl, rfl⟩) hHeld ?_
        try simp only [Act.put, List.setIfInBounds_toArray, List.set_cons_zero, List.set_cons_succ]
        refine wpAnyH_take (i := 11) (v := .bool false) (get_ops _ _ _ rfl) (by kernel_rfl) (by kernel_rfl) (by kernel_rfl) (fun _ _ _ h => h) (Or.inl ⟨by rfl, fun wS hSw => by (try dsimp only at hSw); go_simp⟩) hHeld ?_
        try simp only [Act.put, List.setIfInBounds_toArray, List.set_cons_zero, List.set_cons_succ]
        refine wpAnyH_done (by kernel_rfl) ?_ _
        go_wp2_with fail
        go_roundg gk
        case measure => omega
        case rel => exact ⟨k + 1, by have := HG.out; omega, by go_num, HNN.out (by rw [HPD.out]; rfl), P_v4.out, B_v4.out⟩
      | true =>
        cases b2 with
        | false =>
          obtain ⟨v3, hv3⟩ : ∃ v3, v3 = World.drew v2 := ⟨_, rfl⟩
          have hbD : Below v2.heap.size v2 v3 := by rw [hv3]; exact (Below.refl _ _).drew
          have C_v3 : Hid ((b < v3.heap.size ∧ ∀ i v, (gR ⟨al, us, an, fi⟩)[i]? = some v → v3.cell? ⟨b, o2 + k * 4 + i, none⟩ = some v)) := Lib.hid (⟨Nat.lt_of_lt_of_le C_v2.out.1 hbD.size, fun i v hv => (hbD.cell (p := ⟨b, o2 + k * 4 + i, none⟩) C_v2.out.1).trans (C_v2.out.2 i v hv)⟩)
          have P_v3 : Hid (BK 28 v3 w.heap.size [.string c, .string u]) := Lib.hid (P_v2.out.step hbD)
          have B_v3 : Hid (Below w.heap.size w v3) := Lib.hid (stepB B_v2.out hbD)
          clear C_v2 P_v2 B_v2
          have hbd : (fun w' => (b < w'.heap.size ∧ ∀ i v, (gR ⟨al, us, an, fi⟩)[i]? = some v → w'.cell? ⟨b, o2 + k * 4 + i, none⟩ = some v) ∧ BK 28 w' w.heap.size [.string c, .string u]) (World.drew v2) := by rw [← hv3]; exact ⟨C_v3.out, P_v3.out⟩
          have hSD : (fun w' => (b < w'.heap.size ∧ ∀ i v, (gR ⟨al, us, an, fi⟩)[i]? = some v → w'.cell? ⟨b, o2 + k * 4 + i, none⟩ = some v) ∧ BK 28 w' w.heap.size [.string c, .string u]) v3 := ⟨C_v3.out, P_v3.out⟩
          have HWD := Lib.hid hv3
          clear hv3 hbD
          refine wp_region_held_drew (S := fun w' => (b < w'.heap.size ∧ ∀ i v, (gR ⟨al, us, an, fi⟩)[i]? = some v → w'.cell? ⟨b, o2 + k * 4 + i, none⟩ = some v) ∧ BK 28 w' w.heap.size [.string c, .string u]) (by kernel_rfl) hbd (fun hHeld => ?_)
          rw [← HWD.out]
          clear hHeld
          have hHeld := hSD
          clear hSD hbd HWD
          refine wpAnyH_take (i := 0) (v := .slice (some ⟨b, o2, none⟩) xs.length cc) (get_ops _ _ _ rfl) (by kernel_rfl) (by kernel_rfl) (by kernel_rfl) (fun _ _ _ h => h) (Or.inl ⟨by rfl, fun wS hSw => by (try dsimp only at hSw); go_simp⟩) hHeld ?_
          try simp only [Act.put, List.setIfInBounds_toArray, List.set_cons_zero, List.set_cons_succ]
          refine wpAnyH_take (i := 1) (v := .int .i64 k) (get_ops _ _ _ rfl) (by kernel_rfl) (by kernel_rfl) (by kernel_rfl) (fun _ _ _ h => h) (Or.inl ⟨by rfl, fun wS hSw => by (try dsimp only at hSw); go_simp⟩) hHeld ?_
          try simp only [Act.put, List.setIfInBounds_toArray, List.set_cons_zero, List.set_cons_succ]
          refine wpAnyH_take (i := 2) (v := .pointer (some ⟨b, o2 + k * 4, none⟩)) (get_ops _ _ _ rfl) (by kernel_rfl) (by kernel_rfl) (by kernel_rfl) (fun _ _ _ h => h) (Or.inl ⟨by rfl, fun wS hSw => by (try dsimp only at hSw); go_simp⟩) hHeld ?_
          try simp only [Act.put, List.setIfInBounds_toArray, List.set_cons_zero, List.set_cons_succ]
          refine wpAnyH_take (i := 3) (v := (.agg (gR ⟨al, us, an, fi⟩).toArray)) (get_ops _ _ _ rfl) (by kernel_rfl) (by kernel_rfl) (by kernel_rfl) (fun _ _ _ h => h) (Or.inl ⟨by rfl, fun wS hSw => by (try dsimp only at hSw); exact exec_load 42 _ rfl ⟨b, o2 + k * 4, none⟩ (by go_simp) _ (load_rule hSw.1.2)⟩) hHeld ?_
          try simp only [Act.put, List.setIfInBounds_toArray, List.set_cons_zero, List.set_cons_succ]
          refine wpAnyH_take (i := 4) (v := .pointer (some ⟨w.heap.size, 1, none⟩)) (get_ops _ _ _ rfl) (by kernel_rfl) (by kernel_rfl) (by kernel_rfl) (fun _ _ _ h => h) (Or.inl ⟨by rfl, fun wS hSw => by (try dsimp only at hSw); go_simp⟩) hHeld ?_
          try simp only [Act.put, List.setIfInBounds_toArray, List.set_cons_zero, List.set_cons_succ]
          refine wpAnyH_take (i := 5) (v := .string u) (get_ops _ _ _ rfl) (by kernel_rfl) (by kernel_rfl) (by kernel_rfl) (fun _ _ _ h => h) (Or.inl ⟨by rfl, fun wS hSw => by (try dsimp only at hSw); have cS : wS.cell? ⟨w.heap.size, 1, none⟩ = some (.string u) := hSw.2.cell 1 rfl; clear hSw; go_simp⟩) hHeld ?_
          try simp only [Act.put, List.setIfInBounds_toArray, List.set_cons_zero, List.set_cons_succ]
          refine wpAnyH_ready (rs := [6]) (by kernel_rfl) (by simp) ?_
          refine (AllReadyH.cons (get_ops _ _ _ rfl) (fun K hK => ?_) AllReadyH.nil)
          go_simp
          refine (HAP1.out v3).mono ?_
          rintro e v4 ⟨rfl, hb⟩
          have C_v4 : Hid ((b < v4.heap.size ∧ ∀ i v, (gR ⟨al, us, an, fi⟩)[i]? = some v → v4.cell? ⟨b, o2 + k * 4 + i, none⟩ = some v)) := Lib.hid (⟨Nat.lt_of_lt_of_le C_v3.out.1 hb.size, fun i v hv => (hb.cell (p := ⟨b, o2 + k * 4 + i, none⟩) C_v3.out.1).trans (C_v3.out.2 i v hv)⟩)
          have P_v4 : Hid (BK 28 v4 w.heap.size [.string c, .string u]) := Lib.hid (P_v3.out.step hb)
          have B_v4 : Hid (Below w.heap.size w v4) := Lib.hid (stepB B_v3.out hb)
          clear C_v3 P_v3 B_v3
          clear hHeld hb
          go_wp2_with fail
          refine hK.out _ _ ⟨C_v4.out, P_v4.out⟩ (fun hHeld => ?_)
          clear hK K
          try simp only [Act.put, List.setIfInBounds_toArray, List.set_cons_zero, List.set_cons_succ]
          refine wpAnyH_take (i := 7) (v := .bool true) (get_ops _ _ _ rfl) (by kernel_rfl) (by kernel_rfl) (by kernel_rfl) (fun _ _ _ h => h) (Or.inl ⟨by rfl, fun wS hSw => by (try dsimp only at hSw); go_simp⟩) hHeld ?_
          try simp only [Act.put, List.setIfInBounds_toArray, List.set_cons_zero, List.set_cons_succ]
          refine wpAnyH_take (i := 8) (v := .string ex) (get_ops _ _ _ rfl) (by kernel_rfl) (by kernel_rfl) (by kernel_rfl) (fun _ _ _ h => h) (Or.inl ⟨by rfl, fun wS hSw => by (try dsimp only at hSw); go_simp⟩) hHeld ?_
          try simp only [Act.put, List.setIfInBounds_toArray, List.set_cons_zero, List.set_cons_succ]
          refine wpAnyH_take (i := 9) (v := .string o) (get_ops _ _ _ rfl) (by kernel_rfl) (by kernel_rfl) (by kernel_rfl) (fun _ _ _ h => h) (Or.inl ⟨by rfl, fun wS hSw => by (try dsimp only at hSw); go_simp⟩) hHeld ?_
          try simp only [Act.put, List.setIfInBounds_toArray, List.set_cons_zero, List.set_cons_succ]
          refine wpAnyH_ready (rs := [10]) (by kernel_rfl) (by simp) ?_
          refine (AllReadyH.cons (get_ops _ _ _ rfl) (fun K hK => ?_) AllReadyH.nil)
          go_simp
          refine (HMA1.out v4).mono ?_
          rintro e v5 ⟨rfl, hb⟩
          have C_v5 : Hid ((b < v5.heap.size ∧ ∀ i v, (gR ⟨al, us, an, fi⟩)[i]? = some v → v5.cell? ⟨b, o2 + k * 4 + i, none⟩ = some v)) := Lib.hid (⟨Nat.lt_of_lt_of_le C_v4.out.1 hb.size, fun i v hv => (hb.cell (p := ⟨b, o2 + k * 4 + i, none⟩) C_v4.out.1).trans (C_v4.out.2 i v hv)⟩)
          have P_v5 : Hid (BK 28 v5 w.heap.size [.string c, .string u]) := Lib.hid (P_v4.out.step hb)
          have B_v5 : Hid (Below w.heap.size w v5) := Lib.hid (stepB B_v4.out hb)
          clear C_v4 P_v4 B_v4
          clear hHeld hb
          go_wp2_with fail
          refine hK.out _ _ ⟨C_v5.out, P_v5.out⟩ (fun hHeld => ?_)
          clear hK K
          try simp only [Act.put, List.setIfInBounds_toArray, List.set_cons_zero, List.set_cons_succ]
          refine wpAnyH_take (i := 11) (v := .bool false) (get_ops _ _ _ rfl) (by kernel_rfl) (by kernel_rfl) (by kernel_rfl) (fun _ _ _ h => h) (Or.inl ⟨by rfl, fun wS hSw => by (try dsimp only at hSw); go_simp⟩) hHeld ?_
          try simp only [Act.put, List.setIfInBounds_toArray, List.set_cons_zero, List.set_cons_succ]
          refine wpAnyH_done (by kernel_rfl) ?_ _
          go_wp2_with fail
          go_roundg gk
          case measure => omega
          case rel => exact ⟨k + 1, by have := HG.out; omega, by go_num, HNN.out (by rw [HPD.out]; rfl), P_v5.out, B_v5.out⟩
        | true =>
          obtain ⟨v3, hv3⟩ : ∃ v3, v3 = World.drew v2 := ⟨_, rfl⟩
          have hbD : Below v2.heap.size v2 v3 := by rw [hv3]; exact (Below.refl _ _).drew
          have C_v3 : Hid ((b < v3.heap.size ∧ ∀ i v, (gR ⟨al, us, an, fi⟩)[i]? = some v → v3.cell? ⟨b, o2 + k * 4 + i, none⟩ = some v)) := Lib.hid (⟨Nat.lt_of_lt_of_le C_v2.out.1 hbD.size, fun i v hv => (hbD.cell (p := ⟨b, o2 + k * 4 + i, none⟩) C_v2.out.1).trans (C_v2.out.2 i v hv)⟩)
          have P_v3 : Hid (BK 28 v3 w.heap.size [.string c, .string u]) := Lib.hid (P_v2.out.step hbD)
          have B_v3 : Hid (Below w.heap.size w v3) := Lib.hid (stepB B_v2.out hbD)
          clear C_v2 P_v2 B_v2
          have hbd : (fun w' => (b < w'.heap.size ∧ ∀ i v, (gR ⟨al, us, an, fi⟩)[i]? = some v → w'.cell? ⟨b, o2 + k * 4 + i, none⟩ = some v) ∧ BK 28 w' w.heap.size [.string c, .string u]) (World.drew v2) := by rw [← hv3]; exact ⟨C_v3.out, P_v3.out⟩
          have hSD : (fun w' => (b < w'.heap.size ∧ ∀ i v, (gR ⟨al, us, an, fi⟩)[i]? = some v → w'.cell? ⟨b, o2 + k * 4 + i, none⟩ = some v) ∧ BK 28 w' w.heap.size [.string c, .string u]) v3 := ⟨C_v3.out, P_v3.out⟩
          have HWD := Lib.hid hv3
          clear hv3 hbD
          refine wp_region_held_drew (S := fun w' => (b < w'.heap.size ∧ ∀ i v, (gR ⟨al, us, an, fi⟩)[i]? = some v → w'.cell? ⟨b, o2 + k * 4 + i, none⟩ = some v) ∧ BK 28 w' w.heap.size [.string c, .string u]) (by kernel_rfl) hbd (fun hHeld => ?_)
          rw [← HWD.out]
          clear hHeld
          have hHeld := hSD
          clear hSD hbd HWD
          refine wpAnyH_take (i := 0) (v := .slice (some ⟨b, o2, none⟩) xs.length cc) (get_ops _ _ _ rfl) (by kernel_rfl) (by kernel_rfl) (by kernel_rfl) (fun _ _ _ h => h) (Or.inl ⟨by rfl, fun wS hSw => by (try dsimp only at hSw); go_simp⟩) hHeld ?_
          try simp only [Act.put, List.setIfInBounds_toArray, List.set_cons_zero, List.set_cons_succ]
          refine wpAnyH_take (i := 1) (v := .int .i64 k) (get_ops _ _ _ rfl) (by kernel_rfl) (by kernel_rfl) (by kernel_rfl) (fun _ _ _ h => h) (Or.inl ⟨by rfl, fun wS hSw => by (try dsimp only at hSw); go_simp⟩) hHeld ?_
          try simp only [Act.put, List.setIfInBounds_toArray, List.set_cons_zero, List.set_cons_succ]
          refine wpAnyH_take (i := 2) (v := .pointer (some ⟨b, o2 + k * 4, none⟩)) (get_ops _ _ _ rfl) (by kernel_rfl) (by kernel_rfl) (by kernel_rfl) (fun _ _ _ h => h) (Or.inl ⟨by rfl, fun wS hSw => by (try dsimp only at hSw); go_simp⟩) hHeld ?_
          try simp only [Act.put, List.setIfInBounds_toArray, List.set_cons_zero, List.set_cons_succ]
          refine wpAnyH_take (i := 3) (v := (.agg (gR ⟨al, us, an, fi⟩).toArray)) (get_ops _ _ _ rfl) (by kernel_rfl) (by kernel_rfl) (by kernel_rfl) (fun _ _ _ h => h) (Or.inl ⟨by rfl, fun wS hSw => by (try dsimp only at hSw); exact exec_load 42 _ rfl ⟨b, o2 + k * 4, none⟩ (by go_simp) _ (load_rule hSw.1.2)⟩) hHeld ?_
          try simp only [Act.put, List.setIfInBounds_toArray, List.set_cons_zero, List.set_cons_succ]
          refine wpAnyH_take (i := 4) (v := .pointer (some ⟨w.heap.size, 1, none⟩)) (get_ops _ _ _ rfl) (by kernel_rfl) (by kernel_rfl) (by kernel_rfl) (fun _ _ _ h => h) (Or.inl ⟨by rfl, fun wS hSw => by (try dsimp only at hSw); go_simp⟩) hHeld ?_
          try simp only [Act.put, List.setIfInBounds_toArray, List.set_cons_zero, List.set_cons_succ]
          refine wpAnyH_take (i := 5) (v := .string u) (get_ops _ _ _ rfl) (by kernel_rfl) (by kernel_rfl) (by kernel_rfl) (fun _ _ _ h => h) (Or.inl ⟨by rfl, fun wS hSw => by (try dsimp only at hSw); have cS : wS.cell? ⟨w.heap.size, 1, none⟩ = some (.string u) := hSw.2.cell 1 rfl; clear hSw; go_simp⟩) hHeld ?_
          try simp only [Act.put, List.setIfInBounds_toArray, List.set_cons_zero, List.set_cons_succ]
          refine wpAnyH_ready (rs := [6]) (by kernel_rfl) (by simp) ?_
          refine (AllReadyH.cons (get_ops _ _ _ rfl) (fun K hK => ?_) AllReadyH.nil)
          go_simp
          refine (HAP1.out v3).mono ?_
          rintro e v4 ⟨rfl, hb⟩
          have C_v4 : Hid ((b < v4.heap.size ∧ ∀ i v, (gR ⟨al, us, an, fi⟩)[i]? = some v → v4.cell? ⟨b, o2 + k * 4 + i, none⟩ = some v)) := Lib.hid (⟨Nat.lt_of_lt_of_le C_v3.out.1 hb.size, fun i v hv => (hb.cell (p := ⟨b, o2 + k * 4 + i, none⟩) C_v3.out.1).trans (C_v3.out.2 i v hv)⟩)
          have P_v4 : Hid (BK 28 v4 w.heap.size [.string c, .string u]) := Lib.hid (P_v3.out.step hb)
          have B_v4 : Hid (Below w.heap.size w v4) := Lib.hid (stepB B_v3.out hb)
          clear C_v3 P_v3 B_v3
          clear hHeld hb
          go_wp2_with fail
          refine hK.out _ _ ⟨C_v4.out, P_v4.out⟩ (fun hHeld => ?_)
          clear hK K
          try simp only [Act.put, List.setIfInBounds_toArray, List.set_cons_zero, List.set_cons_succ]
          refine wpAnyH_take (i := 7) (v := .bool true) (get_ops _ _ _ rfl) (by kernel_rfl) (by kernel_rfl) (by kernel_rfl) (fun _ _ _ h => h) (Or.inl ⟨by rfl, fun wS hSw => by (try dsimp only at hSw); go_simp⟩) hHeld ?_
          try simp only [Act.put, List.setIfInBounds_toArray, List.set_cons_zero, List.set_cons_succ]
          refine wpAnyH_take (i := 8) (v := .string ex) (get_ops _ _ _ rfl) (by kernel_rfl) (by kernel_rfl) (by kernel_rfl) (fun _ _ _ h => h) (Or.inl ⟨by rfl, fun wS hSw => by (try dsimp only at hSw); go_simp⟩) hHeld ?_
          try simp only [Act.put, List.setIfInBounds_toArray, List.set_cons_zero, List.set_cons_succ]
          refine wpAnyH_take (i := 9) (v := .string o) (get_ops _ _ _ rfl) (by kernel_rfl) (by kernel_rfl) (by kernel_rfl) (fun _ _ _ h => h) (Or.inl ⟨by rfl, fun wS hSw => by (try dsimp only at hSw); go_simp⟩) hHeld ?_
          try simp only [Act.put, List.setIfInBounds_toArray, List.set_cons_zero, List.set_cons_succ]
          refine wpAnyH_ready (rs := [10]) (by kernel_rfl) (by simp) ?_
          refine (AllReadyH.cons (get_ops _ _ _ rfl) (fun K hK => ?_) AllReadyH.nil)
          go_simp
          refine (HMA1.out v4).mono ?_
          rintro e v5 ⟨rfl, hb⟩
          have C_v5 : Hid ((b < v5.heap.size ∧ ∀ i v, (gR ⟨al, us, an, fi⟩)[i]? = some v → v5.cell? ⟨b, o2 + k * 4 + i, none⟩ = some v)) := Lib.hid (⟨Nat.lt_of_lt_of_le C_v4.out.1 hb.size, fun i v hv => (hb.cell (p := ⟨b, o2 + k * 4 + i, none⟩) C_v4.out.1).trans (C_v4.out.2 i v hv)⟩)
          have P_v5 : Hid (BK 28 v5 w.heap.size [.string c, .string u]) := Lib.hid (P_v4.out.step hb)
          have B_v5 : Hid (Below w.heap.size w v5) := Lib.hid (stepB B_v4.out hb)
          clear C_v4 P_v4 B_v4
          clear hHeld hb
          go_wp2_with fail
          refine hK.out _ _ ⟨C_v5.out, P_v5.out⟩ (fun hHeld => ?_)
          clear hK K
          try simp only [Act.put, List.setIfInBounds_toArray, List.set_cons_zero, List.set_cons_succ]
          refine wpAnyH_take (i := 11) (v := .bool true) (get_ops _ _ _ rfl) (by kernel_rfl) (by kernel_rfl) (by kernel_rfl) (fun _ _ _ h => h) (Or.inl ⟨by rfl, fun wS hSw => by (try dsimp only at hSw); go_simp⟩) hHeld ?_
          try simp only [Act.put, List.setIfInBounds_toArray, List.set_cons_zero, List.set_cons_succ]
          refine wpAnyH_done (by kernel_rfl) ?_ _
          have z0 : v5.cell? ⟨b, o2 + k * 4, none⟩ = some (.bool al) := C_v5.out.2 0 _ rfl
          have HRR : Hid (R = (al && b3)) := Lib.hid (HRY.out (by rw [HPD.out]; rfl))
          cases al with
          | false =>
            go_wp2_with fail
            go_ret
            exact ⟨by rw [HRR.out]; rfl, B_v5.out⟩
          | true =>
            go_wp2_with fail
            clear C_v5
            refine (HCO1.out v5).mono ?_
            rintro e v6 ⟨rfl, hb⟩
            have P_v6 : Hid (BK 28 v6 w.heap.size [.string c, .string u]) := Lib.hid (P_v5.out.step hb)
            have B_v6 : Hid (Below w.heap.size w v6) := Lib.hid (stepB B_v5.out hb)
            clear P_v5 B_v5
            clear hb
            go_wp2_with fail
            go_ret
            exact ⟨by rw [HRR.out]; rfl, B_v6.out⟩
end Go.Proofs.YtoakhkiiefiebaaDoor.S1
