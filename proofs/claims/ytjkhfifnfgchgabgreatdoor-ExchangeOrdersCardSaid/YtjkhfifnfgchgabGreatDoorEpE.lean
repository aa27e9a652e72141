/-
  What Check of exchange and of brokerref24 answer: the first error of routes. Conditions: the lists read as data; few properties each; lengths fit an int.
-/
import Derived.Test.YtjkhfifnfgchgabGreatDoorEpD
namespace Go.Proofs.YtjkhfifnfgchgabGreatDoor
open Go.RowKit
open S2 (BK Put get_ops)

def prevE (l : List Ex) (k : Nat) : Option ByteArray := if k = 0 then none else (l[k - 1]?).map (·.nm)
def ChE (l : List Ex) (k : Nat) : Prop := chkE none l = chkE (prevE l k) (l.drop k)
theorem ChE.start (l : List Ex) : ChE l 0 := rfl
theorem chkE_cons (p : Option ByteArray) (x : Ex) (r : List Ex) : chkE p (x :: r) = if exR x ≠ 0 then exR x else if notLt p x.nm = true then 22 else chkE (some x.nm) r := by cases p <;> rfl
theorem ChE.unf {l : List Ex} {k : Nat} {x : Ex} (h : ChE l k) (hx : l[k]? = some x) : chkE none l = if exR x ≠ 0 then exR x else if notLt (prevE l k) x.nm = true then 22 else chkE (some x.nm) (l.drop (k + 1)) := by
  unfold ChE at h
  rw [h, dropC hx, chkE_cons]
theorem ChE.next {l : List Ex} {k : Nat} {x : Ex} (h : ChE l k) (hx : l[k]? = some x) (h1 : exR x = 0) (h3 : notLt (prevE l k) x.nm = false) : ChE l (k + 1) := by
  have h0 := h.unf hx
  rw [if_neg (by simp [h1]), if_neg (by rw [h3]; simp)] at h0
  unfold ChE
  rw [h0]
  unfold prevE
  rw [if_neg (by omega), Nat.add_sub_cancel, hx]
  rfl
theorem chkE_nil (p : Option ByteArray) : chkE p [] = 0 := by cases p <;> rfl
theorem ChE.done {l : List Ex} (h : ChE l l.length) : chkE none l = 0 := by
  unfold ChE at h
  rw [h, List.drop_length, chkE_nil]
theorem chkE_asc : ∀ (l : List Ex) (p : Option ByteArray), chkE p l = 0 → (∀ x ∈ l, exR x = 0) ∧ (∀ x ∈ l, ∀ q, p = some q → ltS q x.nm = true) ∧ AscE l
  | [], p, _ => ⟨fun x hx => by simp at hx, fun x hx => by simp at hx, fun i j x y hx => by simp at hx⟩
  | x :: r, p, h => by
    rw [chkE_cons] at h
    have h1 : exR x = 0 := by
      by_cases h1 : exR x = 0
      · exact h1
      · rw [if_pos h1] at h; exact absurd h h1
    rw [if_neg (by simp [h1])] at h
    have h2 : notLt p x.nm = false := by
      cases h2 : notLt p x.nm with
      | false => rfl
      | true => rw [if_pos h2] at h; cases h
    rw [if_neg (by rw [h2]; simp)] at h
    obtain ⟨h3, h4, h5⟩ := chkE_asc r (some x.nm) h
    have hp : ∀ q, p = some q → ltS q x.nm = true := fun q hq => by subst hq; unfold notLt at h2; simpa using h2
    refine ⟨fun y hy => ?_, fun y hy q hq => ?_, fun i j y z hy hz hij => ?_⟩
    · rcases List.mem_cons.1 hy with rfl | hy
      · exact h1
      · exact h3 y hy
    · rcases List.mem_cons.1 hy with rfl | hy
      · exact hp q hq
      · exact ltS_trans (hp q hq) (h4 y hy _ rfl)
    · cases j with
      | zero => omega
      | succ j =>
        rw [List.getElem?_cons_succ] at hz
        cases i with
        | zero =>
          simp at hy
          subst hy
          exact h4 z (List.mem_of_getElem? hz) _ rfl
        | succ i =>
          rw [List.getElem?_cons_succ] at hy
          exact h5 i j y z hy hz (by omega)
theorem chkB_cons (l : List Ex) (p : List Bd) (b : Bd) (r : List Bd) : chkB l p (b :: r) = if bdR l b ≠ 0 then bdR l b else if b ∈ p then 26 else chkB l (p ++ [b]) r := rfl
theorem take_snocM {xs : List BE} {k : Nat} {x : BE} (hx : xs[k]? = some x) : (xs.take k).map BE.d ++ [x.d] = (xs.take (k + 1)).map BE.d := by
  rw [List.take_add_one, hx]
  simp

set_option maxRecDepth 20000 in
set_option maxHeartbeats 8000000 in
theorem xCheck_any (A1 : Option Addr) (c1 : Nat) (l : List Ex) (A2 : Option Addr) (c2 : Nat) (xs : List BE) (w : World) (h1 : EL w w.heap.size A1 l) (h2 : BI w w.heap.size A2 xs) (hc2 : xs.length ≤ c2) (hf : Few xs) :
    Calls Tryz.prog 28 #[rtV A1 l.length c1 A2 xs.length c2] w fun e w' => e = .returned (.int .i64 (ckR l (xs.map BE.d))) ∧ Below w.heap.size w w' := by
  obtain ⟨R, hR⟩ : ∃ R, ckR l (xs.map BE.d) = R := ⟨_, rfl⟩
  rw [hR]
  unfold ckR at hR
  rw [List.length_map] at hR
  by_cases h32 : 32 < l.length
  · have e1 : decide ((32 : Int) < (l.length : Int)) = true := decide_eq_true (by omega)
    rw [if_pos h32] at hR
    subst hR
    clear h1 h2 hc2 hf h32
    unfold rtV
    go_enter Tryz.func28, Tryz.ntmps28
    go_wp2_with fail
    go_ret
    exact ⟨rfl, S2.below_new _ _⟩
  have e1 : decide ((32 : Int) < (l.length : Int)) = false := decide_eq_false (by omega)
  rw [if_neg h32] at hR
  by_cases h256 : 256 < xs.length
  · have e2 : decide ((256 : Int) < (xs.length : Int)) = true := decide_eq_true (by omega)
    rw [if_pos h256] at hR
    subst hR
    clear h1 h2 hc2 hf h32 h256
    unfold rtV
    go_enter Tryz.func28, Tryz.ntmps28
    go_wp2_with fail
    go_ret
    exact ⟨rfl, S2.below_new _ _⟩
  have e2 : decide ((256 : Int) < (xs.length : Int)) = false := decide_eq_false (by omega)
  rw [if_neg h256] at hR
  have HR := Lib.hid hR
  have HCE := Lib.hid (fun x w1 (_ : x ∈ l) => checkExchange_any x w1)
  have HCB := Lib.hid (fun x w1 h1 ha h2 (_ : x ∈ xs) => checkBinding_any A1 c1 l x w1 h1 ha (by omega) h2)
  have HIXX := Lib.hid (fun (k : Nat) (x : BE) (A : Option Addr) w1 h1 h2 => indexOf_any A c2 (xs.take k) x w1 h1 (fun y hy => hf y (List.mem_of_mem_take hy)) (by rw [List.length_take]; omega) h2)
  have HL := Lib.hid h1
  have HX := Lib.hid h2
  have HF := Lib.hid hf
  have H32 := Lib.hid h32
  have H256 := Lib.hid h256
  have HC2 := Lib.hid hc2
  have HA0 := Lib.hid (chkE_asc l none)
  clear hR h1 h2 hc2 hf h32 h256
  unfold rtV
  go_enter Tryz.func28, Tryz.ntmps28
  go_upto_region 1 with fail
  refine name_world (C := fun w1 => Code.wp _ _ _ _ w1) (w.alloc (.cells [.slice A1 l.length c1, .slice A2 xs.length c2].toArray 25)) ?_
  intro w1 hw1
  have hb : Below w.heap.size w w1 := by rw [hw1]; exact S2.below_new w _
  have T_w1 : Hid (BK 25 w1 w.heap.size [.slice A1 l.length c1, .slice A2 xs.length c2]) := Lib.hid (by rw [hw1]; exact BK.new w _ _)
  have B_w1 := Lib.hid hb
  clear hw1 hb
  have t0 := T_w1.out.cell 0 rfl
  have t1 := T_w1.out.cell 1 rfl
  go_wp2_with fail
  go_loopg [22] l.length (fun g v wr => ∃ k : Nat, k + g = l.length ∧ v = .int .i64 k ∧ ChE l k ∧ BK 25 wr w.heap.size [.slice A1 l.length c1, .slice A2 xs.length c2] ∧ Below w.heap.size w wr)
  case atStart => exact ⟨0, by omega, rfl, ChE.start _, T_w1.out, B_w1.out⟩
  case round =>
    obtain ⟨k, hkg, rfl, hrel, ht0, hb0⟩ := hrel
    have HREL := Lib.hid hrel
    have T_wr := Lib.hid ht0
    have B_wr := Lib.hid hb0
    have HG := Lib.hid hkg
    clear hrel hb0 ht0 t0 t1 T_w1 B_w1
    cases gk with
    | zero =>
      obtain rfl : k = l.length := by omega
      have hce := ChE.done HREL.out
      have HASC := Lib.hid (HA0.out hce).2.2
      have HR2 : Hid (R = chkB l ((xs.take 0).map BE.d) ((xs.drop 0).map BE.d)) := Lib.hid (by rw [← HR.out, if_neg (by simp [hce])]; rfl)
      clear hkg hce HR
      have t0 := T_wr.out.cell 0 rfl
      have t1 := T_wr.out.cell 1 rfl
      go_wp2_with fail
      clear t0 t1
      go_loopg [50] xs.length (fun g v wr => ∃ k : Nat, k + g = xs.length ∧ v = .int .i64 k ∧ R = chkB l ((xs.take k).map BE.d) ((xs.drop k).map BE.d) ∧ BK 25 wr w.heap.size [.slice A1 l.length c1, .slice A2 xs.length c2] ∧ Below w.heap.size w wr)
      case atStart => exact ⟨0, by omega, rfl, HR2.out, T_wr.out, B_wr.out⟩
      case round =>
        rename World => wr2
        obtain ⟨k, hkg, rfl, hrel, ht0, hb0⟩ := hrel
        have HREL2 := Lib.hid hrel
        have T_wr2 := Lib.hid ht0
        have B_wr2 := Lib.hid hb0
        have HG2 := Lib.hid hkg
        clear hrel hb0 ht0 HR2 T_wr B_wr HREL HG
        cases gk with
        | zero =>
          obtain rfl : k = xs.length := by omega
          have HV : Hid (R = 0) := Lib.hid (by rw [HREL2.out, List.drop_length]; rfl)
          clear hkg
          go_wp2_with fail
          go_ret
          exact ⟨retI HV.out.symm, B_wr2.out⟩
        | succ n =>
          have hlt : k < xs.length := by omega
          have e3 : decide ((k : Int) < (xs.length : Int)) = true := decide_eq_true (by omega)
          obtain ⟨x, hx⟩ : ∃ x, xs[k]? = some x := ⟨_, List.getElem?_eq_getElem hlt⟩
          have hsr := HX.out.step B_wr2.out
          obtain ⟨b, o, hA, hbB, hcl, hpl⟩ := hsr.at_ hx
          have HLD := Lib.hid (load_bd hcl)
          have Y_wr2 := Lib.hid (BI.inn hsr HF.out (List.mem_of_getElem? hx))
          have S_wr2 := Lib.hid hsr
          have L_wr2 := Lib.hid (GL.step HL.out B_wr2.out)
          have HMEM := Lib.hid (List.mem_of_getElem? hx)
          have hD : R = if bdR l x.d ≠ 0 then bdR l x.d else if x.d ∈ (xs.take k).map BE.d then 26 else chkB l ((xs.take (k + 1)).map BE.d) ((xs.drop (k + 1)).map BE.d) := by rw [HREL2.out, dropC hx, List.map_cons, chkB_cons, take_snocM hx]
          have HD := Lib.hid hD
          have HTL : Hid ((xs.take k).length = k) := Lib.hid (by rw [List.length_take]; omega)
          subst hA
          have HIX0 := HIXX.out k x (some ⟨b, o, none⟩)
          rw [HTL.out] at HIX0
          obtain ⟨fi, hfi⟩ : ∃ fi, fB x.d ((xs.take k).map BE.d) 0 = fi := ⟨_, rfl⟩
          rw [hfi] at HIX0
          have HIX := Lib.hid HIX0
          have HDU : Hid (bdR l x.d = 0 → 0 ≤ fi → R = 26) := Lib.hid (fun h0 h1 => by rw [hD, if_neg (by simp [h0]), if_pos ((fB_mem _ _ 0).1 (by rw [hfi]; exact h1))])
          have HNX : Hid (bdR l x.d = 0 → fi < 0 → R = chkB l ((xs.take (k + 1)).map BE.d) ((xs.drop (k + 1)).map BE.d)) := Lib.hid (fun h0 h1 => by rw [hD, if_neg (by simp [h0]), if_neg (fun hm => by have := (fB_mem _ _ 0).2 hm; rw [hfi] at this; omega)])
          have HER : Hid (bdR l x.d ≠ 0 → R = bdR l x.d) := Lib.hid (fun h0 => by rw [hD, if_pos h0])
          have HCBX := Lib.hid (fun w1 h1 h2 => HCB.out x w1 h1 HASC.out h2 HMEM.out)
          generalize bdR l x.d = er at *
          have j1 : (0 : Int) ≤ (k : Int) := by omega
          have j2 : (k : Int) < (xs.length : Int) := by omega
          have j3 : (k : Int) ≤ (xs.length : Int) := by omega
          have j4 : (k : Int) ≤ (c2 : Int) := by have := HC2.out; omega
          have j5 : decide ((k : Int) ≤ (c2 : Int)) = true := decide_eq_true j4
          have HBLT := Lib.hid hbB
          clear hx hkg hlt hcl hpl hsr HREL2 hD hfi HIX0 hbB HIXX HCB
          have t1 := T_wr2.out.cell 1 rfl
          go_upto_region 15 with first
            | (refine wpList_load_v (by rfl) 35 (.tmp 53) rfl ⟨b, o + k * 5, none⟩ (by go_simp) _ HLD.out ?_)
            | (refine S2.wpList_store_all (by rfl) 35 (.tmp 7) (.tmp 54) rfl rfl wr2.heap.size rfl (gB x) rfl 35 _ (BK.new wr2 _ _) bdSize rfl (gB_one _) ?_; intro w4 hM hP; have hb := hP.below (S2.below_new wr2 _) (Nat.le_refl _); have B_w4 := Lib.hid (stepB B_wr2.out hb); have V_w4 := Lib.hid hM; have T_w4 := Lib.hid (T_wr2.out.step hb); have Y_w4 := Lib.hid (Y_wr2.out.step hb); have S_w4 := Lib.hid (LI.step S_wr2.out hb); have L_w4 := Lib.hid (GL.step L_wr2.out hb); clear hM hP hb)
          clear t1
          have HL2 := Lib.hid (load_bd0 V_w4.out)
          have t0 := T_w4.out.cell 0 rfl
          go_wp2_with first
            | (refine wpList_load_v (by rfl) 35 (.tmp 7) rfl ⟨wr2.heap.size, 0, none⟩ rfl _ HL2.out ?_)
          refine (HCBX.out _ L_w4.out Y_w4.out).mono ?_
          rintro e w5 ⟨rfl, hb⟩
          have B_w5 := Lib.hid (stepB B_w4.out hb)
          have V_w5 := Lib.hid (V_w4.out.step hb)
          have T_w5 := Lib.hid (T_w4.out.step hb)
          have Y_w5 := Lib.hid (Y_w4.out.step hb)
          have S_w5 := Lib.hid (LI.step S_w4.out hb)
          clear hb t0 HL2 HLD V_w4 T_w4 Y_w4 S_w4 L_w4 B_w4 L_wr2 S_wr2 Y_wr2 T_wr2
          by_cases her : er = 0
          · subst her
            have HDU1 := Lib.hid (HDU.out rfl)
            have HNX1 := Lib.hid (HNX.out rfl)
            clear HER HCBX HDU HNX
            go_upto_region 18 with fail
            obtain ⟨x1, hx1⟩ : ∃ x1, x1 = World.drew w5 := ⟨_, rfl⟩
            have hbD : Below w5.heap.size w5 x1 := by rw [hx1]; exact (Below.refl _ _).drew
            have B_x1 : Hid (Below w.heap.size w x1) := Lib.hid (stepB B_w5.out hbD)
            have T_x1 : Hid (BK 25 x1 w.heap.size [.slice A1 l.length c1, .slice (some ⟨b, o, none⟩) xs.length c2]) := Lib.hid (T_w5.out.step hbD)
            have V_x1 : Hid (BK 35 x1 wr2.heap.size (gB x)) := Lib.hid (V_w5.out.step hbD)
            have S_x1 : Hid (BI x1 x1.heap.size (some ⟨b, o, none⟩) xs) := Lib.hid (LI.step S_w5.out hbD)
            have Y_x1 : Hid (BIn x1 x) := Lib.hid (Y_w5.out.step hbD)
            clear B_w5 T_w5 V_w5 S_w5 Y_w5
            have hbd : (fun w' => BK 25 w' w.heap.size [.slice A1 l.length c1, .slice (some ⟨b, o, none⟩) xs.length c2] ∧ BK 35 w' wr2.heap.size (gB x)) (World.drew w5) := by rw [← hx1]; exact ⟨T_x1.out, V_x1.out⟩
            have hSD : (fun w' => BK 25 w' w.heap.size [.slice A1 l.length c1, .slice (some ⟨b, o, none⟩) xs.length c2] ∧ BK 35 w' wr2.heap.size (gB x)) x1 := ⟨T_x1.out, V_x1.out⟩
            have HWD := Lib.hid hx1
            clear hx1 hbD
            refine wp_region_held_drew (S := fun w' => BK 25 w' w.heap.size [.slice A1 l.length c1, .slice (some ⟨b, o, none⟩) xs.length c2] ∧ BK 35 w' wr2.heap.size (gB x)) (by kernel_rfl) hbd (fun hHeld => ?_)
            rw [← HWD.out]
            clear hHeld
            have hHeld := hSD
            clear hSD hbd HWD
            refine wpAnyH_take (i := 0) (v := .pointer (some ⟨w.heap.size, 1, none⟩)) (get_ops _ _ _ rfl) (by kernel_rfl) (by kernel_rfl) (by kernel_rfl) (fun _ _ _ h => h) (Or.inl ⟨by rfl, fun wS hSw => by (try dsimp only at hSw); go_simp⟩) hHeld ?_
            try simp only [Act.put, List.setIfInBounds_toArray, List.set_cons_zero, List.set_cons_succ]
            refine wpAnyH_take (i := 1) (v := .slice (some ⟨b, o, none⟩) xs.length c2) (get_ops _ _ _ rfl) (by kernel_rfl) (by kernel_rfl) (by kernel_rfl) (fun _ _ _ h => h) (Or.inl ⟨by rfl, fun wS hSw => by (try dsimp only at hSw); have cS : wS.cell? ⟨w.heap.size, 1, none⟩ = some (.slice (some ⟨b, o, none⟩) xs.length c2) := hSw.1.cell 1 rfl; clear hSw; go_simp⟩) hHeld ?_
            try simp only [Act.put, List.setIfInBounds_toArray, List.set_cons_zero, List.set_cons_succ]
            refine wpAnyH_take (i := 2) (v := .int .i64 k) (get_ops _ _ _ rfl) (by kernel_rfl) (by kernel_rfl) (by kernel_rfl) (fun _ _ _ h => h) (Or.inl ⟨by rfl, fun wS hSw => by (try dsimp only at hSw); go_simp⟩) hHeld ?_
            try simp only [Act.put, List.setIfInBounds_toArray, List.set_cons_zero, List.set_cons_succ]
            refine wpAnyH_take (i := 3) (v := .slice (some ⟨b, o, none⟩) k c2) (get_ops _ _ _ rfl) (by kernel_rfl) (by kernel_rfl) (by kernel_rfl) (fun _ _ _ h => h) (Or.inl ⟨by rfl, fun wS hSw => by (try dsimp only at hSw); go_simp⟩) hHeld ?_
            try simp only [Act.put, List.setIfInBounds_toArray, List.set_cons_zero, List.set_cons_succ]
            refine wpAnyH_take (i := 4) (v := bdV x) (get_ops _ _ _ rfl) (by kernel_rfl) (by kernel_rfl) (by kernel_rfl) (fun _ _ _ h => h) (Or.inl ⟨by rfl, fun wS hSw => by (try dsimp only at hSw); exact exec_load 35 _ rfl ⟨wr2.heap.size, 0, none⟩ (by go_simp) _ (load_bd0 hSw.2)⟩) hHeld ?_
            try simp only [Act.put, List.setIfInBounds_toArray, List.set_cons_zero, List.set_cons_succ]
            refine wpAnyH_ready (rs := [5]) (by kernel_rfl) (by simp) ?_
            refine (AllReadyH.cons (get_ops _ _ _ rfl) (fun K hK => ?_) AllReadyH.nil)
            go_simp
            refine (HIX.out x1 (LI.take S_x1.out k) Y_x1.out).mono ?_
            rintro e x2 ⟨rfl, hb⟩
            have B_x2 : Hid (Below w.heap.size w x2) := Lib.hid (stepB B_x1.out hb)
            have T_x2 : Hid (BK 25 x2 w.heap.size [.slice A1 l.length c1, .slice (some ⟨b, o, none⟩) xs.length c2]) := Lib.hid (T_x1.out.step hb)
            have V_x2 : Hid (BK 35 x2 wr2.heap.size (gB x)) := Lib.hid (V_x1.out.step hb)
            have S_x2 : Hid (BI x2 x2.heap.size (some ⟨b, o, none⟩) xs) := Lib.hid (LI.step S_x1.out hb)
            have Y_x2 : Hid (BIn x2 x) := Lib.hid (Y_x1.out.step hb)
            clear B_x1 T_x1 V_x1 S_x1 Y_x1
            clear hHeld hb
            go_wp2_with fail
            refine hK.out _ _ ⟨T_x2.out, V_x2.out⟩ (fun hHeld => ?_)
            clear hK K
            try simp only [Act.put, List.setIfInBounds_toArray, List.set_cons_zero, List.set_cons_succ]
            refine wpAnyH_take (i := 6) (v := .bool (decide (0 ≤ fi))) (get_ops _ _ _ rfl) (by kernel_rfl) (by kernel_rfl) (by kernel_rfl) (fun _ _ _ h => h) (Or.inl ⟨by rfl, fun wS hSw => by (try dsimp only at hSw); go_simp⟩) hHeld ?_
            try simp only [Act.put, List.setIfInBounds_toArray, List.set_cons_zero, List.set_cons_succ]
            refine wpAnyH_done (by kernel_rfl) ?_ _
            by_cases hfi : 0 ≤ fi
            · have HV := Lib.hid (HDU1.out hfi)
              rw [decide_eq_true hfi]
              clear hfi
              go_wp2_with fail
              go_ret
              exact ⟨retI HV.out.symm, B_x2.out⟩
            · have HV := Lib.hid (HNX1.out (by omega))
              rw [decide_eq_false hfi]
              clear hfi
              go_wp2_with fail
              go_roundg n
              case measure => omega
              case rel => exact ⟨k + 1, by have := HG2.out; omega, nxt k (by have := H256.out; have := HG2.out; omega), HV.out, T_x2.out, B_x2.out⟩
          · have q1 : (er != 0) = true := bne_iff_ne.2 her
            have HV := Lib.hid (HER.out her)
            clear her
            go_wp2_with fail
            go_ret
            exact ⟨retI HV.out.symm, B_w5.out⟩
    | succ g =>
      have hlt : k < l.length := by omega
      have e3 : decide ((k : Int) < (l.length : Int)) = true := decide_eq_true (by omega)
      obtain ⟨x, hx⟩ : ∃ x, l[k]? = some x := ⟨_, List.getElem?_eq_getElem hlt⟩
      have hslr := GL.step HL.out B_wr.out
      obtain ⟨b, o, hA, hbB, hc⟩ := EL.at_ hslr hx
      have HLD := Lib.hid (load_ex hc)
      have HXK := Lib.hid hx
      have HCX := Lib.hid (fun w1 => HCE.out x w1 (List.mem_of_getElem? hx))
      have L_wr := Lib.hid hslr
      subst hA
      have j1 : (0 : Int) ≤ (k : Int) := by omega
      have j2 : (k : Int) < (l.length : Int) := by omega
      obtain ⟨er, her0⟩ : ∃ er, exR x = er := ⟨_, rfl⟩
      rw [her0] at HCX
      have HEX := Lib.hid her0
      clear hx hc hbB hkg hslr her0 HCE HCB HIXX
      have t0 := T_wr.out.cell 0 rfl
      go_upto_region 6 with first
        | (refine wpList_load_v (by rfl) 32 (.tmp 25) rfl ⟨b, o + k * 3, none⟩ (by go_simp) _ HLD.out ?_)
        | (refine S2.wpList_store_all (by rfl) 32 (.tmp 4) (.tmp 26) rfl rfl wr.heap.size rfl (gE x) rfl 32 _ (BK.new wr _ _) exSize rfl (gE_one _) ?_; intro w2 hM hP; have hb := hP.below (S2.below_new wr _) (Nat.le_refl _); have B_w2 := Lib.hid (stepB B_wr.out hb); have X_w2 := Lib.hid hM; have T_w2 := Lib.hid (T_wr.out.step hb); have L_w2 := Lib.hid (GL.step L_wr.out hb); clear hM hP hb)
      clear t0
      have HL1 := Lib.hid (load_ex0 X_w2.out)
      go_wp2_with first
        | (refine wpList_load_v (by rfl) 32 (.tmp 4) rfl ⟨wr.heap.size, 0, none⟩ rfl _ HL1.out ?_)
      refine (HCX.out _).mono ?_
      rintro e w3 ⟨rfl, hb⟩
      have B_w3 := Lib.hid (stepB B_w2.out hb)
      have X_w3 := Lib.hid (X_w2.out.step hb)
      have T_w3 := Lib.hid (T_w2.out.step hb)
      have L_w3 := Lib.hid (GL.step L_w2.out hb)
      clear hb HL1 HLD X_w2 T_w2 L_w2 B_w2 L_wr T_wr
      by_cases her : er = 0
      · subst her
        clear HCX
        by_cases hk0 : k = 0
        · have hpk : prevE l k = none := by unfold prevE; rw [if_pos hk0]
          have HN := Lib.hid (HREL.out.next HXK.out HEX.out (by rw [hpk]; rfl))
          have q2 : decide ((0 : Int) < (k : Int)) = false := decide_eq_false (by omega)
          have q2' : decide (0 < k) = false := decide_eq_false (by omega)
          clear hpk hk0
          go_wp2_with fail
          go_quiet (fail)
          go_wp2
          go_roundg g
          case measure => omega
          case rel => exact ⟨k + 1, by have := HG.out; omega, nxt k (by have := H32.out; have := HG.out; omega), HN.out, T_w3.out.step (below_drewN _ _), stepB B_w3.out (below_drewN _ _)⟩
        · obtain ⟨p, hp⟩ : ∃ p, k = p + 1 := ⟨k - 1, by omega⟩
          have hpl : p < l.length := by omega
          obtain ⟨y, hy⟩ : ∃ y, l[p]? = some y := ⟨_, List.getElem?_eq_getElem hpl⟩
          obtain ⟨b', o', hA', _, hcy⟩ := EL.at_ L_w3.out hy
          simp only [Option.some.injEq, Addr.mk.injEq, and_true] at hA'
          obtain ⟨rfl, rfl⟩ := hA'
          have kp : w3.cell? ⟨b, o + p * 3, none⟩ = some (.string y.nm) := hcy 0 _ rfl
          have hpk : prevE l k = some y.nm := by unfold prevE; rw [if_neg hk0, show k - 1 = p by omega, hy]; rfl
          have q2 : decide ((0 : Int) < (k : Int)) = true := decide_eq_true (by omega)
          have q2' : decide (0 < k) = true := decide_eq_true (by omega)
          have j3 : IntKind.i64.wrap ((k : Int) - 1) = (p : Int) := by rw [wrap_i64_id _ (by omega) (by have := H32.out; omega)]; omega
          have j4 : (0 : Int) ≤ (p : Int) := by omega
          have j5 : (p : Int) < (l.length : Int) := by omega
          have HPK := Lib.hid hpk
          have d0 := X_w3.out.cell 0 rfl
          have t0 := T_w3.out.cell 0 rfl
          clear hpk hy hp hk0 hcy hpl
          cases hlt2 : ltS y.nm x.nm
          · have q3 : (Op.bytesLess x.nm.toList y.nm.toList || x.nm.toList == y.nm.toList) = true := by rw [le_data, hlt2]; rfl
            have HV : Hid (chkE none l = 22) := Lib.hid (by rw [HREL.out.unf HXK.out, if_neg (by rw [HEX.out]; simp), if_pos (by rw [HPK.out]; unfold notLt; simp [hlt2])])
            have HV2 : Hid (R = 22) := Lib.hid (by rw [← HR.out, HV.out, if_pos (by decide)])
            clear hlt2
            go_wp2_with fail
            go_quiet (fail)
            go_wp2
            go_ret
            exact ⟨retI HV2.out.symm, stepB B_w3.out (below_drewN _ _)⟩
          · have q3 : (Op.bytesLess x.nm.toList y.nm.toList || x.nm.toList == y.nm.toList) = false := by rw [le_data, hlt2]; rfl
            have HN := Lib.hid (HREL.out.next HXK.out HEX.out (by rw [HPK.out]; unfold notLt; simp [hlt2]))
            clear hlt2
            go_wp2_with fail
            go_quiet (fail)
            go_wp2
            go_roundg g
            case measure => omega
            case rel => exact ⟨k + 1, by have := HG.out; omega, nxt k (by have := H32.out; have := HG.out; omega), HN.out, T_w3.out.step (below_drewN _ _), stepB B_w3.out (below_drewN _ _)⟩
      · have q1 : (er != 0) = true := bne_iff_ne.2 her
        have HV : Hid (chkE none l = er) := Lib.hid (by rw [HREL.out.unf HXK.out, HEX.out, if_pos her])
        have HV2 : Hid (R = er) := Lib.hid (by rw [← HR.out, HV.out, if_pos her])
        clear her
        go_wp2_with fail
        go_ret
        exact ⟨retI HV2.out.symm, B_w3.out⟩

set_option maxRecDepth 20000 in
set_option maxHeartbeats 8000000 in
theorem rCheck24_any (A1 : Option Addr) (c1 : Nat) (l : List Ex) (A2 : Option Addr) (c2 : Nat) (xs : List BE) (w : World) (h1 : EL w w.heap.size A1 l) (h2 : BI w w.heap.size A2 xs) (hc2 : xs.length ≤ c2) (hf : Few xs) (hz : (∀ x ∈ l, SzX x) ∧ ∀ x ∈ xs, SzB x.d) :
    Calls Tryz.prog 8 #[rtV A1 l.length c1 A2 xs.length c2] w fun e w' => e = .returned (.int .i64 (ckR l (xs.map BE.d))) ∧ Below w.heap.size w w' := by
  obtain ⟨R, hR⟩ : ∃ R, ckR l (xs.map BE.d) = R := ⟨_, rfl⟩
  rw [hR]
  unfold ckR at hR
  rw [List.length_map] at hR
  by_cases h32 : 32 < l.length
  · have e1 : decide ((32 : Int) < (l.length : Int)) = true := decide_eq_true (by omega)
    rw [if_pos h32] at hR
    subst hR
    clear h1 h2 hc2 hf h32 hz
    unfold rtV
    go_enter Tryz.func8, Tryz.ntmps8
    go_wp2_with fail
    go_ret
    exact ⟨rfl, S2.below_new _ _⟩
  have e1 : decide ((32 : Int) < (l.length : Int)) = false := decide_eq_false (by omega)
  rw [if_neg h32] at hR
  by_cases h256 : 256 < xs.length
  · have e2 : decide ((256 : Int) < (xs.length : Int)) = true := decide_eq_true (by omega)
    rw [if_pos h256] at hR
    subst hR
    clear h1 h2 hc2 hf h32 h256 hz
    unfold rtV
    go_enter Tryz.func8, Tryz.ntmps8
    go_wp2_with fail
    go_ret
    exact ⟨rfl, S2.below_new _ _⟩
  have e2 : decide ((256 : Int) < (xs.length : Int)) = false := decide_eq_false (by omega)
  rw [if_neg h256] at hR
  have HR := Lib.hid hR
  have HCE := Lib.hid (fun x w1 h1 => rexchange_any x w1 (hz.1 x h1))
  have HCB := Lib.hid (fun x w1 h1 h2 h3 => rbinding_any A1 c1 l A2 xs.length c2 x w1 h1 (by omega) h2 (hz.2 x h3))
  have HIXX := Lib.hid (fun (k : Nat) (x : BE) (A : Option Addr) w1 h1 h2 => rhas_any A c2 (xs.take k) x w1 h1 (fun y hy => hf y (List.mem_of_mem_take hy)) (by rw [List.length_take]; omega) h2)
  have HL := Lib.hid h1
  have HX := Lib.hid h2
  have HF := Lib.hid hf
  have H32 := Lib.hid h32
  have H256 := Lib.hid h256
  have HC2 := Lib.hid hc2
  have HA0 := Lib.hid (chkE_asc l none)
  clear hR h1 h2 hc2 hf h32 h256 hz
  unfold rtV at *
  go_enter Tryz.func8, Tryz.ntmps8
  go_upto_region 1 with fail
  refine name_world (C := fun w1 => Code.wp _ _ _ _ w1) (w.alloc (.cells [.slice A1 l.length c1, .slice A2 xs.length c2].toArray 25)) ?_
  intro w1 hw1
  have hb : Below w.heap.size w w1 := by rw [hw1]; exact S2.below_new w _
  have T_w1 : Hid (BK 25 w1 w.heap.size [.slice A1 l.length c1, .slice A2 xs.length c2]) := Lib.hid (by rw [hw1]; exact BK.new w _ _)
  have B_w1 := Lib.hid hb
  clear hw1 hb
  have t0 := T_w1.out.cell 0 rfl
  have t1 := T_w1.out.cell 1 rfl
  go_wp2_with fail
  go_loopg [22] l.length (fun g v wr => ∃ k : Nat, k + g = l.length ∧ v = .int .i64 k ∧ ChE l k ∧ BK 25 wr w.heap.size [.slice A1 l.length c1, .slice A2 xs.length c2] ∧ Below w.heap.size w wr)
  case atStart => exact ⟨0, by omega, rfl, ChE.start _, T_w1.out, B_w1.out⟩
  case round =>
    obtain ⟨k, hkg, rfl, hrel, ht0, hb0⟩ := hrel
    have HREL := Lib.hid hrel
    have T_wr := Lib.hid ht0
    have B_wr := Lib.hid hb0
    have HG := Lib.hid hkg
    clear hrel hb0 ht0 t0 t1 T_w1 B_w1
    cases gk with
    | zero =>
      obtain rfl : k = l.length := by omega
      have hce := ChE.done HREL.out
      have HASC := Lib.hid (HA0.out hce).2.2
      have HR2 : Hid (R = chkB l ((xs.take 0).map BE.d) ((xs.drop 0).map BE.d)) := Lib.hid (by rw [← HR.out, if_neg (by simp [hce])]; rfl)
      clear hkg hce HR
      have t0 := T_wr.out.cell 0 rfl
      have t1 := T_wr.out.cell 1 rfl
      go_wp2_with fail
      clear t0 t1
      go_loopg [50] xs.length (fun g v wr => ∃ k : Nat, k + g = xs.length ∧ v = .int .i64 k ∧ R = chkB l ((xs.take k).map BE.d) ((xs.drop k).map BE.d) ∧ BK 25 wr w.heap.size [.slice A1 l.length c1, .slice A2 xs.length c2] ∧ Below w.heap.size w wr)
      case atStart => exact ⟨0, by omega, rfl, HR2.out, T_wr.out, B_wr.out⟩
      case round =>
        rename World => wr2
        obtain ⟨k, hkg, rfl, hrel, ht0, hb0⟩ := hrel
        have HREL2 := Lib.hid hrel
        have T_wr2 := Lib.hid ht0
        have B_wr2 := Lib.hid hb0
        have HG2 := Lib.hid hkg
        clear hrel hb0 ht0 HR2 T_wr B_wr HREL HG
        cases gk with
        | zero =>
          obtain rfl : k = xs.length := by omega
          have HV : Hid (R = 0) := Lib.hid (by rw [HREL2.out, List.drop_length]; rfl)
          clear hkg
          go_wp2_with fail
          go_ret
          exact ⟨retI HV.out.symm, B_wr2.out⟩
        | succ n =>
          have hlt : k < xs.length := by omega
          have e3 : decide ((k : Int) < (xs.length : Int)) = true := decide_eq_true (by omega)
          obtain ⟨x, hx⟩ : ∃ x, xs[k]? = some x := ⟨_, List.getElem?_eq_getElem hlt⟩
          have hsr := HX.out.step B_wr2.out
          obtain ⟨b, o, hA, hbB, hcl, hpl⟩ := hsr.at_ hx
          have HLD := Lib.hid (load_bd hcl)
          have Y_wr2 := Lib.hid (BI.inn hsr HF.out (List.mem_of_getElem? hx))
          have S_wr2 := Lib.hid hsr
          have L_wr2 := Lib.hid (GL.step HL.out B_wr2.out)
          have HMEM := Lib.hid (List.mem_of_getElem? hx)
          have hD : R = if bdR l x.d ≠ 0 then bdR l x.d else if x.d ∈ (xs.take k).map BE.d then 26 else chkB l ((xs.take (k + 1)).map BE.d) ((xs.drop (k + 1)).map BE.d) := by rw [HREL2.out, dropC hx, List.map_cons, chkB_cons, take_snocM hx]
          have HD := Lib.hid hD
          have HTL : Hid ((xs.take k).length = k) := Lib.hid (by rw [List.length_take]; omega)
          subst hA
          have HIX0 := HIXX.out k x (some ⟨b, o, none⟩)
          rw [HTL.out] at HIX0
          obtain ⟨fi, hfi⟩ : ∃ fi, fB x.d ((xs.take k).map BE.d) 0 = fi := ⟨_, rfl⟩
          rw [hfi] at HIX0
          have HIX := Lib.hid HIX0
          have HDU : Hid (bdR l x.d = 0 → 0 ≤ fi → R = 26) := Lib.hid (fun h0 h1 => by rw [hD, if_neg (by simp [h0]), if_pos ((fB_mem _ _ 0).1 (by rw [hfi]; exact h1))])
          have HNX : Hid (bdR l x.d = 0 → fi < 0 → R = chkB l ((xs.take (k + 1)).map BE.d) ((xs.drop (k + 1)).map BE.d)) := Lib.hid (fun h0 h1 => by rw [hD, if_neg (by simp [h0]), if_neg (fun hm => by have := (fB_mem _ _ 0).2 hm; rw [hfi] at this; omega)])
          have HER : Hid (bdR l x.d ≠ 0 → R = bdR l x.d) := Lib.hid (fun h0 => by rw [hD, if_pos h0])
          have HCBX := Lib.hid (fun w1 h1 h2 => HCB.out x w1 h1 h2 HMEM.out)
          generalize bdR l x.d = er at *
          have j1 : (0 : Int) ≤ (k : Int) := by omega
          have j2 : (k : Int) < (xs.length : Int) := by omega
          have j3 : (k : Int) ≤ (xs.length : Int) := by omega
          have j4 : (k : Int) ≤ (c2 : Int) := by have := HC2.out; omega
          have j5 : decide ((k : Int) ≤ (c2 : Int)) = true := decide_eq_true j4
          have HBLT := Lib.hid hbB
          clear hx hkg hlt hcl hpl hsr HREL2 hD hfi HIX0 hbB HIXX HCB
          have t1 := T_wr2.out.cell 1 rfl
          go_upto_region 15 with first
            | (refine wpList_load_v (by rfl) 35 (.tmp 53) rfl ⟨b, o + k * 5, none⟩ (by go_simp) _ HLD.out ?_)
            | (refine S2.wpList_store_all (by rfl) 35 (.tmp 7) (.tmp 54) rfl rfl wr2.heap.size rfl (gB x) rfl 35 _ (BK.new wr2 _ _) bdSize rfl (gB_one _) ?_; intro w4 hM hP; have hb := hP.below (S2.below_new wr2 _) (Nat.le_refl _); have B_w4 := Lib.hid (stepB B_wr2.out hb); have V_w4 := Lib.hid hM; have T_w4 := Lib.hid (T_wr2.out.step hb); have Y_w4 := Lib.hid (Y_wr2.out.step hb); have S_w4 := Lib.hid (LI.step S_wr2.out hb); have L_w4 := Lib.hid (GL.step L_wr2.out hb); clear hM hP hb)
          clear t1
          have HL2 := Lib.hid (load_bd0 V_w4.out)
          have HLT : Hid ((loadVar 25 ⟨w.heap.size, 0, none⟩).run Tryz.prog w4 = .ok (rtV A1 l.length c1 (some ⟨b, o, none⟩) xs.length c2) w4) := Lib.hid (S2.run_load_all T_w4.out Tryz.underlying25 rfl rtSize)
          go_wp2_with first
            | (refine wpList_load_v (by rfl) 35 (.tmp 7) rfl ⟨wr2.heap.size, 0, none⟩ rfl _ HL2.out ?_)
            | (refine wpList_load_v (by rfl) 25 (.tmp 1) rfl ⟨w.heap.size, 0, none⟩ rfl _ HLT.out ?_)
          refine (HCBX.out _ L_w4.out Y_w4.out).mono ?_
          rintro e w5 ⟨rfl, hb⟩
          have B_w5 := Lib.hid (stepB B_w4.out hb)
          have V_w5 := Lib.hid (V_w4.out.step hb)
          have T_w5 := Lib.hid (T_w4.out.step hb)
          have Y_w5 := Lib.hid (Y_w4.out.step hb)
          have S_w5 := Lib.hid (LI.step S_w4.out hb)
          clear hb HLT HL2 HLD V_w4 T_w4 Y_w4 S_w4 L_w4 B_w4 L_wr2 S_wr2 Y_wr2 T_wr2
          by_cases her : er = 0
          · subst her
            have HDU1 := Lib.hid (HDU.out rfl)
            have HNX1 := Lib.hid (HNX.out rfl)
            clear HER HCBX HDU HNX
            go_upto_region 18 with fail
            obtain ⟨x1, hx1⟩ : ∃ x1, x1 = World.drew w5 := ⟨_, rfl⟩
            have hbD : Below w5.heap.size w5 x1 := by rw [hx1]; exact (Below.refl _ _).drew
            have B_x1 : Hid (Below w.heap.size w x1) := Lib.hid (stepB B_w5.out hbD)
            have T_x1 : Hid (BK 25 x1 w.heap.size [.slice A1 l.length c1, .slice (some ⟨b, o, none⟩) xs.length c2]) := Lib.hid (T_w5.out.step hbD)
            have V_x1 : Hid (BK 35 x1 wr2.heap.size (gB x)) := Lib.hid (V_w5.out.step hbD)
            have S_x1 : Hid (BI x1 x1.heap.size (some ⟨b, o, none⟩) xs) := Lib.hid (LI.step S_w5.out hbD)
            have Y_x1 : Hid (BIn x1 x) := Lib.hid (Y_w5.out.step hbD)
            clear B_w5 T_w5 V_w5 S_w5 Y_w5
            have hbd : (fun w' => BK 25 w' w.heap.size [.slice A1 l.length c1, .slice (some ⟨b, o, none⟩) xs.length c2] ∧ BK 35 w' wr2.heap.size (gB x)) (World.drew w5) := by rw [← hx1]; exact ⟨T_x1.out, V_x1.out⟩
            have hSD : (fun w' => BK 25 w' w.heap.size [.slice A1 l.length c1, .slice (some ⟨b, o, none⟩) xs.length c2] ∧ BK 35 w' wr2.heap.size (gB x)) x1 := ⟨T_x1.out, V_x1.out⟩
            have HWD := Lib.hid hx1
            clear hx1 hbD
            refine wp_region_held_drew (S := fun w' => BK 25 w' w.heap.size [.slice A1 l.length c1, .slice (some ⟨b, o, none⟩) xs.length c2] ∧ BK 35 w' wr2.heap.size (gB x)) (by kernel_rfl) hbd (fun hHeld => ?_)
            rw [← HWD.out]
            clear hHeld
            have hHeld := hSD
            clear hSD hbd HWD
            refine wpAnyH_take (i := 0) (v := .pointer (some ⟨w.heap.size, 1, none⟩)) (get_ops _ _ _ rfl) (by kernel_rfl) (by kernel_rfl) (by kernel_rfl) (fun _ _ _ h => h) (Or.inl ⟨by rfl, fun wS hSw => by (try dsimp only at hSw); go_simp⟩) hHeld ?_
            try simp only [Act.put, List.setIfInBounds_toArray, List.set_cons_zero, List.set_cons_succ]
            refine wpAnyH_take (i := 1) (v := .slice (some ⟨b, o, none⟩) xs.length c2) (get_ops _ _ _ rfl) (by kernel_rfl) (by kernel_rfl) (by kernel_rfl) (fun _ _ _ h => h) (Or.inl ⟨by rfl, fun wS hSw => by (try dsimp only at hSw); have cS : wS.cell? ⟨w.heap.size, 1, none⟩ = some (.slice (some ⟨b, o, none⟩) xs.length c2) := hSw.1.cell 1 rfl; clear hSw; go_simp⟩) hHeld ?_
            try simp only [Act.put, List.setIfInBounds_toArray, List.set_cons_zero, List.set_cons_succ]
            refine wpAnyH_take (i := 2) (v := .int .i64 k) (get_ops _ _ _ rfl) (by kernel_rfl) (by kernel_rfl) (by kernel_rfl) (fun _ _ _ h => h) (Or.inl ⟨by rfl, fun wS hSw => by (try dsimp only at hSw); go_simp⟩) hHeld ?_
            try simp only [Act.put, List.setIfInBounds_toArray, List.set_cons_zero, List.set_cons_succ]
            refine wpAnyH_take (i := 3) (v := .slice (some ⟨b, o, none⟩) k c2) (get_ops _ _ _ rfl) (by kernel_rfl) (by kernel_rfl) (by kernel_rfl) (fun _ _ _ h => h) (Or.inl ⟨by rfl, fun wS hSw => by (try dsimp only at hSw); go_simp⟩) hHeld ?_
            try simp only [Act.put, List.setIfInBounds_toArray, List.set_cons_zero, List.set_cons_succ]
            refine wpAnyH_take (i := 4) (v := bdV x) (get_ops _ _ _ rfl) (by kernel_rfl) (by kernel_rfl) (by kernel_rfl) (fun _ _ _ h => h) (Or.inl ⟨by rfl, fun wS hSw => by (try dsimp only at hSw); exact exec_load 35 _ rfl ⟨wr2.heap.size, 0, none⟩ (by go_simp) _ (load_bd0 hSw.2)⟩) hHeld ?_
            try simp only [Act.put, List.setIfInBounds_toArray, List.set_cons_zero, List.set_cons_succ]
            refine wpAnyH_ready (rs := [5]) (by kernel_rfl) (by simp) ?_
            refine (AllReadyH.cons (get_ops _ _ _ rfl) (fun K hK => ?_) AllReadyH.nil)
            go_simp
            refine (HIX.out x1 (LI.take S_x1.out k) Y_x1.out).mono ?_
            rintro e x2 ⟨rfl, hb⟩
            have B_x2 : Hid (Below w.heap.size w x2) := Lib.hid (stepB B_x1.out hb)
            have T_x2 : Hid (BK 25 x2 w.heap.size [.slice A1 l.length c1, .slice (some ⟨b, o, none⟩) xs.length c2]) := Lib.hid (T_x1.out.step hb)
            have V_x2 : Hid (BK 35 x2 wr2.heap.size (gB x)) := Lib.hid (V_x1.out.step hb)
            have S_x2 : Hid (BI x2 x2.heap.size (some ⟨b, o, none⟩) xs) := Lib.hid (LI.step S_x1.out hb)
            have Y_x2 : Hid (BIn x2 x) := Lib.hid (Y_x1.out.step hb)
            clear B_x1 T_x1 V_x1 S_x1 Y_x1
            clear hHeld hb
            go_wp2_with fail
            refine hK.out _ _ ⟨T_x2.out, V_x2.out⟩ (fun hHeld => ?_)
            clear hK K
            try simp only [Act.put, List.setIfInBounds_toArray, List.set_cons_zero, List.set_cons_succ]
            refine wpAnyH_take (i := 6) (v := .bool (decide (0 ≤ fi))) (get_ops _ _ _ rfl) (by kernel_rfl) (by kernel_rfl) (by kernel_rfl) (fun _ _ _ h => h) (Or.inl ⟨by rfl, fun wS hSw => by (try dsimp only at hSw); go_simp⟩) hHeld ?_
            try simp only [Act.put, List.setIfInBounds_toArray, List.set_cons_zero, List.set_cons_succ]
            refine wpAnyH_done (by kernel_rfl) ?_ _
            by_cases hfi : 0 ≤ fi
            · have HV := Lib.hid (HDU1.out hfi)
              rw [decide_eq_true hfi]
              clear hfi
              go_wp2_with fail
              go_ret
              exact ⟨retI HV.out.symm, B_x2.out⟩
            · have HV := Lib.hid (HNX1.out (by omega))
              rw [decide_eq_false hfi]
              clear hfi
              go_wp2_with fail
              go_roundg n
              case measure => omega
              case rel => exact ⟨k + 1, by have := HG2.out; omega, nxt k (by have := H256.out; have := HG2.out; omega), HV.out, T_x2.out, B_x2.out⟩
          · have q1 : (er != 0) = true := bne_iff_ne.2 her
            have HV := Lib.hid (HER.out her)
            clear her
            go_wp2_with fail
            go_ret
            exact ⟨retI HV.out.symm, B_w5.out⟩
    | succ g =>
      have hlt : k < l.length := by omega
      have e3 : decide ((k : Int) < (l.length : Int)) = true := decide_eq_true (by omega)
      obtain ⟨x, hx⟩ : ∃ x, l[k]? = some x := ⟨_, List.getElem?_eq_getElem hlt⟩
      have hslr := GL.step HL.out B_wr.out
      obtain ⟨b, o, hA, hbB, hc⟩ := EL.at_ hslr hx
      have HLD := Lib.hid (load_ex hc)
      have HXK := Lib.hid hx
      have HCX := Lib.hid (fun w1 => HCE.out x w1 (List.mem_of_getElem? hx))
      have L_wr := Lib.hid hslr
      subst hA
      have j1 : (0 : Int) ≤ (k : Int) := by omega
      have j2 : (k : Int) < (l.length : Int) := by omega
      obtain ⟨er, her0⟩ : ∃ er, exR x = er := ⟨_, rfl⟩
      rw [her0] at HCX
      have HEX := Lib.hid her0
      clear hx hc hbB hkg hslr her0 HCE HCB HIXX
      have t0 := T_wr.out.cell 0 rfl
      go_upto_region 6 with first
        | (refine wpList_load_v (by rfl) 32 (.tmp 25) rfl ⟨b, o + k * 3, none⟩ (by go_simp) _ HLD.out ?_)
        | (refine S2.wpList_store_all (by rfl) 32 (.tmp 4) (.tmp 26) rfl rfl wr.heap.size rfl (gE x) rfl 32 _ (BK.new wr _ _) exSize rfl (gE_one _) ?_; intro w2 hM hP; have hb := hP.below (S2.below_new wr _) (Nat.le_refl _); have B_w2 := Lib.hid (stepB B_wr.out hb); have X_w2 := Lib.hid hM; have T_w2 := Lib.hid (T_wr.out.step hb); have L_w2 := Lib.hid (GL.step L_wr.out hb); clear hM hP hb)
      clear t0
      have HL1 := Lib.hid (load_ex0 X_w2.out)
      go_wp2_with first
        | (refine wpList_load_v (by rfl) 32 (.tmp 4) rfl ⟨wr.heap.size, 0, none⟩ rfl _ HL1.out ?_)
      refine (HCX.out _).mono ?_
      rintro e w3 ⟨rfl, hb⟩
      have B_w3 := Lib.hid (stepB B_w2.out hb)
      have X_w3 := Lib.hid (X_w2.out.step hb)
      have T_w3 := Lib.hid (T_w2.out.step hb)
      have L_w3 := Lib.hid (GL.step L_w2.out hb)
      clear hb HL1 HLD X_w2 T_w2 L_w2 B_w2 L_wr T_wr
      by_cases her : er = 0
      · subst her
        clear HCX
        by_cases hk0 : k = 0
        · have hpk : prevE l k = none := by unfold prevE; rw [if_pos hk0]
          have HN := Lib.hid (HREL.out.next HXK.out HEX.out (by rw [hpk]; rfl))
          have q2 : decide ((0 : Int) < (k : Int)) = false := decide_eq_false (by omega)
          have q2' : decide (0 < k) = false := decide_eq_false (by omega)
          clear hpk hk0
          go_wp2_with fail
          go_quiet (fail)
          go_wp2
          go_roundg g
          case measure => omega
          case rel => exact ⟨k + 1, by have := HG.out; omega, nxt k (by have := H32.out; have := HG.out; omega), HN.out, T_w3.out.step (below_drewN _ _), stepB B_w3.out (below_drewN _ _)⟩
        · obtain ⟨p, hp⟩ : ∃ p, k = p + 1 := ⟨k - 1, by omega⟩
          have hpl : p < l.length := by omega
          obtain ⟨y, hy⟩ : ∃ y, l[p]? = some y := ⟨_, List.getElem?_eq_getElem hpl⟩
          obtain ⟨b', o', hA', _, hcy⟩ := EL.at_ L_w3.out hy
          simp only [Option.some.injEq, Addr.mk.injEq, and_true] at hA'
          obtain ⟨rfl, rfl⟩ := hA'
          have kp : w3.cell? ⟨b, o + p * 3, none⟩ = some (.string y.nm) := hcy 0 _ rfl
          have hpk : prevE l k = some y.nm := by unfold prevE; rw [if_neg hk0, show k - 1 = p by omega, hy]; rfl
          have q2 : decide ((0 : Int) < (k : Int)) = true := decide_eq_true (by omega)
          have q2' : decide (0 < k) = true := decide_eq_true (by omega)
          have j3 : IntKind.i64.wrap ((k : Int) - 1) = (p : Int) := by rw [wrap_i64_id _ (by omega) (by have := H32.out; omega)]; omega
          have j4 : (0 : Int) ≤ (p : Int) := by omega
          have j5 : (p : Int) < (l.length : Int) := by omega
          have HPK := Lib.hid hpk
          have d0 := X_w3.out.cell 0 rfl
          have t0 := T_w3.out.cell 0 rfl
          clear hpk hy hp hk0 hcy hpl
          cases hlt2 : ltS y.nm x.nm
          · have q3 : (Op.bytesLess x.nm.toList y.nm.toList || x.nm.toList == y.nm.toList) = true := by rw [le_data, hlt2]; rfl
            have HV : Hid (chkE none l = 22) := Lib.hid (by rw [HREL.out.unf HXK.out, if_neg (by rw [HEX.out]; simp), if_pos (by rw [HPK.out]; unfold notLt; simp [hlt2])])
            have HV2 : Hid (R = 22) := Lib.hid (by rw [← HR.out, HV.out, if_pos (by decide)])
            clear hlt2
            go_wp2_with fail
            go_quiet (fail)
            go_wp2
            go_ret
            exact ⟨retI HV2.out.symm, stepB B_w3.out (below_drewN _ _)⟩
          · have q3 : (Op.bytesLess x.nm.toList y.nm.toList || x.nm.toList == y.nm.toList) = false := by rw [le_data, hlt2]; rfl
            have HN := Lib.hid (HREL.out.next HXK.out HEX.out (by rw [HPK.out]; unfold notLt; simp [hlt2]))
            clear hlt2
            go_wp2_with fail
            go_quiet (fail)
            go_wp2
            go_roundg g
            case measure => omega
            case rel => exact ⟨k + 1, by have := HG.out; omega, nxt k (by have := H32.out; have := HG.out; omega), HN.out, T_w3.out.step (below_drewN _ _), stepB B_w3.out (below_drewN _ _)⟩
      · have q1 : (er != 0) = true := bne_iff_ne.2 her
        have HV : Hid (chkE none l = er) := Lib.hid (by rw [HREL.out.unf HXK.out, HEX.out, if_pos her])
        have HV2 : Hid (R = er) := Lib.hid (by rw [← HR.out, HV.out, if_pos her])
        clear her
        go_wp2_with fail
        go_ret
        exact ⟨retI HV2.out.symm, B_w3.out⟩
end Go.Proofs.YtjkhfifnfgchgabGreatDoor
