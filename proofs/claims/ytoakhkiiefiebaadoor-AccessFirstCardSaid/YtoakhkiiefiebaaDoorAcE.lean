/-
  What first, Allowed and Subscribes of access answer. Conditions: the list reads as data; the client and the user have at most 64 bytes, each filter at most 1000; the library's bound on short texts holds a number.
-/
import Derived.Test.YtoakhkiiefiebaaDoorAcD
namespace Go.Proofs.YtoakhkiiefiebaaDoor.S1
open Go.RowKit
open S2 (BK Put get_ops exec_load)

theorem four_laid {T1 T2 T3 T4 : TypeId} {w w1 : World} {v1 v2 v3 v4 : List Value} (h : w1 = (((w.alloc (.cells v1.toArray T1)).alloc (.cells v2.toArray T2)).alloc (.cells v3.toArray T3)).alloc (.cells v4.toArray T4)) :
    BK T1 w1 w.heap.size v1 ∧ BK T2 w1 (w.heap.size + 1) v2 ∧ BK T3 w1 (w.heap.size + 1 + 1) v3 ∧ BK T4 w1 (w.heap.size + 1 + 1 + 1) v4 ∧ Below w.heap.size w w1 := by
  obtain ⟨wa, ha⟩ : ∃ x, x = (w.alloc (.cells v1.toArray T1)).alloc (.cells v2.toArray T2) := ⟨_, rfl⟩
  rw [← ha] at h
  obtain ⟨h1, h2, h3, h4⟩ := S2.two_laid ha
  obtain ⟨k1, k2, k3, k4⟩ := S2.two_laid h
  rw [h3] at k1 k2
  exact ⟨h1.step k4, h2.step k4, k1, k2, stepB h4 k4⟩
def Rl.zero : Rl := ⟨false, ByteArray.empty, 0, ByteArray.empty⟩
set_option maxRecDepth 20000 in
set_option maxHeartbeats 4000000 in
theorem firstA_any (A : Option Addr) (cc : Nat) (xs : List Rl) (c u o : ByteArray) (ac : Int) (Cb : Nat) (T4 : TypeId) (w : World) (hw : Okw w) (h : RL w w.heap.size A xs) (hn : xs.length ≤ 140737488355328) (hC : BK T4 w Cb [.string o])
    (hc : c.size ≤ 64) (hu : u.size ≤ 64) (hf : ∀ x ∈ xs, x.fi.size ≤ 1000) :
    Calls Tryd.prog 34 #[.slice A xs.length cc, whV c u, .int .i64 ac, .func (.func 35) #[] #[.pointer (some ⟨Cb, 0, none⟩)]] w (RetFi (xs.find? (alP c u ac o)) w) := by
  have HO := Lib.hid hw
  have HS := Lib.hid h
  have HC := Lib.hid hC
  have HF := Lib.hid hf
  obtain ⟨p, hp⟩ : ∃ p, (alP c u ac o) = p := ⟨_, rfl⟩
  have HPP := Lib.hid (fun x (hx : x ∈ xs) P Q Z T1 T2 T3 w1 h1 h2 h3 h4 h5 => first1A_any x c u o ac P Q Z Cb T1 T2 T3 T4 w1 h1 h2 h3 h4 h5 hc hu (hf x hx))
  have HPE : Hid (∀ x, p x = (alP c u ac o) x) := Lib.hid (fun x => by rw [hp])
  rw [hp]
  clear hw h hC hf hp hc hu
  unfold whV
  have hmf : ∀ (fn : Fn) (first cap : Array Value) (w : World), (Instr.makeFunc fn first cap).run Tryd.prog w = .ok (.func fn first cap) w := fun _ _ _ _ => rfl
  go_enter Tryd.func34, Tryd.ntmps34
  go_upto_region 1 with fail
  refine name_world (C := fun w1 => Code.wp _ _ _ _ w1) ((((w.alloc (.cells ([.string c, .string u] : List Value).toArray 28)).alloc (.cells ([.int .i64 ac] : List Value).toArray 3)).alloc (.cells ([.func (.func 35) #[] #[.pointer (some ⟨Cb, 0, none⟩)]] : List Value).toArray 44)).alloc (.cells (gR Rl.zero).toArray 42)) ?_
  intro w1 hw1
  obtain ⟨t1, t2, t3, t4, hb1⟩ := four_laid (v1 := [.string c, .string u]) (v2 := [.int .i64 ac]) (v3 := [.func (.func 35) #[] #[.pointer (some ⟨Cb, 0, none⟩)]]) (v4 := gR Rl.zero) hw1
  have V_w1 := Lib.hid t4
  have B_w1 := Lib.hid hb1
  have S_w1 := Lib.hid (GL.step HS.out hb1)
  have HID := Lib.hid (idxRF_any A cc xs (.pointer (some ⟨w.heap.size, 0, none⟩)) (.pointer (some ⟨w.heap.size + 1, 0, none⟩)) (.pointer (some ⟨w.heap.size + 1 + 1, 0, none⟩)) p w1 S_w1.out hn
    (fun x hx w2 hb => by rw [HPE.out x]; exact HPP.out x hx _ _ _ _ _ _ w2 ((HO.out.step hb1).step hb) (t1.step hb) (t2.step hb) (t3.step hb) ((HC.out.step hb1).step hb)))
  clear hw1 t1 t2 t3 t4 hb1 HO HS HC HF HPP HPE hn
  go_wp2_with fail
  refine HID.out.mono ?_
  rintro e w2 ⟨k, rfl, hk, hb⟩
  have V_w2 := Lib.hid (V_w1.out.step hb)
  have B_w2 := Lib.hid (stepB B_w1.out hb)
  have S_w2 := Lib.hid (GL.step S_w1.out hb)
  have HZ : Hid (w.heap.size ≤ w.heap.size + 1 + 1 + 1) := Lib.hid (by omega)
  clear hb V_w1 B_w1 S_w1 HID
  rcases hk with ⟨rfl, hk⟩ | ⟨j, x, rfl, hx, hk⟩
  · have HKE := Lib.hid hk
    clear hk
    go_wp2_with first
      | (refine S2.wpList_store_all (by rfl) 42 (.tmp 8) (.tmp 16) rfl rfl (w.heap.size + 1 + 1 + 1) rfl (gR Rl.zero) rfl 42 _ V_w2.out ruleSize rfl (gR_one _) ?_; intro w3 hM hP; have V_w3 := Lib.hid hM; have B_w3 := Lib.hid (hP.below B_w2.out HZ.out); clear hM hP V_w2 B_w2)
    exact bodyPost_ret (v := .tuple #[rlV Rl.zero, .bool false]) (S2.res_cell_tmp rfl _ _ (w.heap.size + 1 + 1 + 1) 42 _ _ _ rfl rfl V_w3.out Tryd.underlying42 rfl ruleSize) rfl ⟨by rw [HKE.out]; rfl, B_w3.out⟩
  · have HKE := Lib.hid hk
    have hlt : j < xs.length := (List.getElem?_eq_some_iff.1 hx).1
    obtain ⟨b, o2, hA, hbB, hcl⟩ := RL.at_ S_w2.out hx
    have HLD := Lib.hid (load_rule hcl)
    subst hA
    have j1 : (0 : Int) ≤ (j : Int) := by omega
    have j2 : (j : Int) < (xs.length : Int) := by omega
    have j3 : decide ((j : Int) < 0) = false := decide_eq_false (by omega)
    clear hk hx hcl hbB hlt
    go_wp2_with first
      | (refine wpList_load_v (by rfl) 42 _ rfl ⟨b, o2 + j * 4, none⟩ (by go_simp) _ HLD.out ?_)
      | (refine S2.wpList_store_all (by rfl) 42 (.tmp 8) (.tmp 20) rfl rfl (w.heap.size + 1 + 1 + 1) rfl (gR x) rfl 42 _ V_w2.out ruleSize rfl (gR_one _) ?_; intro w3 hM hP; have V_w3 := Lib.hid hM; have B_w3 := Lib.hid (hP.below B_w2.out HZ.out); clear hM hP V_w2 B_w2)
    exact bodyPost_ret (v := .tuple #[rlV x, .bool true]) (S2.res_cell_tmp rfl _ _ (w.heap.size + 1 + 1 + 1) 42 _ _ _ rfl rfl V_w3.out Tryd.underlying42 rfl ruleSize) rfl ⟨by rw [HKE.out]; rfl, B_w3.out⟩
set_option maxRecDepth 20000 in
set_option maxHeartbeats 4000000 in
theorem firstS_any (A : Option Addr) (cc : Nat) (xs : List Rl) (c u o : ByteArray) (ac : Int) (Cb : Nat) (T4 : TypeId) (w : World) (hw : Okw w) (h : RL w w.heap.size A xs) (hn : xs.length ≤ 140737488355328) (hC : BK T4 w Cb [.string o])
    (hc : c.size ≤ 64) (hu : u.size ≤ 64) (hf : ∀ x ∈ xs, x.fi.size ≤ 1000) :
    Calls Tryd.prog 34 #[.slice A xs.length cc, whV c u, .int .i64 ac, .func (.func 38) #[] #[.pointer (some ⟨Cb, 0, none⟩)]] w (RetFi (xs.find? (fun x => forR x u ac && (cmRes (expB x.fi c u) o).isSome)) w) := by
  have HO := Lib.hid hw
  have HS := Lib.hid h
  have HC := Lib.hid hC
  have HF := Lib.hid hf
  obtain ⟨p, hp⟩ : ∃ p, (fun x => forR x u ac && (cmRes (expB x.fi c u) o).isSome) = p := ⟨_, rfl⟩
  have HPP := Lib.hid (fun x (hx : x ∈ xs) P Q Z T1 T2 T3 w1 h1 h2 h3 h4 h5 => first1S_any x c u o ac P Q Z Cb T1 T2 T3 T4 w1 h1 h2 h3 h4 h5 hc hu (hf x hx))
  have HPE : Hid (∀ x, p x = (fun x => forR x u ac && (cmRes (expB x.fi c u) o).isSome) x) := Lib.hid (fun x => by rw [hp])
  rw [hp]
  clear hw h hC hf hp hc hu
  unfold whV
  have hmf : ∀ (fn : Fn) (first cap : Array Value) (w : World), (Instr.makeFunc fn first cap).run Tryd.prog w = .ok (.func fn first cap) w := fun _ _ _ _ => rfl
  go_enter Tryd.func34, Tryd.ntmps34
  go_upto_region 1 with fail
  refine name_world (C := fun w1 => Code.wp _ _ _ _ w1) ((((w.alloc (.cells ([.string c, .string u] : List Value).toArray 28)).alloc (.cells ([.int .i64 ac] : List Value).toArray 3)).alloc (.cells ([.func (.func 38) #[] #[.pointer (some ⟨Cb, 0, none⟩)]] : List Value).toArray 44)).alloc (.cells (gR Rl.zero).toArray 42)) ?_
  intro w1 hw1
  obtain ⟨t1, t2, t3, t4, hb1⟩ := four_laid (v1 := [.string c, .string u]) (v2 := [.int .i64 ac]) (v3 := [.func (.func 38) #[] #[.pointer (some ⟨Cb, 0, none⟩)]]) (v4 := gR Rl.zero) hw1
  have V_w1 := Lib.hid t4
  have B_w1 := Lib.hid hb1
  have S_w1 := Lib.hid (GL.step HS.out hb1)
  have HID := Lib.hid (idxRF_any A cc xs (.pointer (some ⟨w.heap.size, 0, none⟩)) (.pointer (some ⟨w.heap.size + 1, 0, none⟩)) (.pointer (some ⟨w.heap.size + 1 + 1, 0, none⟩)) p w1 S_w1.out hn
    (fun x hx w2 hb => by rw [HPE.out x]; exact HPP.out x hx _ _ _ _ _ _ w2 ((HO.out.step hb1).step hb) (t1.step hb) (t2.step hb) (t3.step hb) ((HC.out.step hb1).step hb)))
  clear hw1 t1 t2 t3 t4 hb1 HO HS HC HF HPP HPE hn
  go_wp2_with fail
  refine HID.out.mono ?_
  rintro e w2 ⟨k, rfl, hk, hb⟩
  have V_w2 := Lib.hid (V_w1.out.step hb)
  have B_w2 := Lib.hid (stepB B_w1.out hb)
  have S_w2 := Lib.hid (GL.step S_w1.out hb)
  have HZ : Hid (w.heap.size ≤ w.heap.size + 1 + 1 + 1) := Lib.hid (by omega)
  clear hb V_w1 B_w1 S_w1 HID
  rcases hk with ⟨rfl, hk⟩ | ⟨j, x, rfl, hx, hk⟩
  · have HKE := Lib.hid hk
    clear hk
    go_wp2_with first
      | (refine S2.wpList_store_all (by rfl) 42 (.tmp 8) (.tmp 16) rfl rfl (w.heap.size + 1 + 1 + 1) rfl (gR Rl.zero) rfl 42 _ V_w2.out ruleSize rfl (gR_one _) ?_; intro w3 hM hP; have V_w3 := Lib.hid hM; have B_w3 := Lib.hid (hP.below B_w2.out HZ.out); clear hM hP V_w2 B_w2)
    exact bodyPost_ret (v := .tuple #[rlV Rl.zero, .bool false]) (S2.res_cell_tmp rfl _ _ (w.heap.size + 1 + 1 + 1) 42 _ _ _ rfl rfl V_w3.out Tryd.underlying42 rfl ruleSize) rfl ⟨by rw [HKE.out]; rfl, B_w3.out⟩
  · have HKE := Lib.hid hk
    have hlt : j < xs.length := (List.getElem?_eq_some_iff.1 hx).1
    obtain ⟨b, o2, hA, hbB, hcl⟩ := RL.at_ S_w2.out hx
    have HLD := Lib.hid (load_rule hcl)
    subst hA
    have j1 : (0 : Int) ≤ (j : Int) := by omega
    have j2 : (j : Int) < (xs.length : Int) := by omega
    have j3 : decide ((j : Int) < 0) = false := decide_eq_false (by omega)
    clear hk hx hcl hbB hlt
    go_wp2_with first
      | (refine wpList_load_v (by rfl) 42 _ rfl ⟨b, o2 + j * 4, none⟩ (by go_simp) _ HLD.out ?_)
      | (refine S2.wpList_store_all (by rfl) 42 (.tmp 8) (.tmp 20) rfl rfl (w.heap.size + 1 + 1 + 1) rfl (gR x) rfl 42 _ V_w2.out ruleSize rfl (gR_one _) ?_; intro w3 hM hP; have V_w3 := Lib.hid hM; have B_w3 := Lib.hid (hP.below B_w2.out HZ.out); clear hM hP V_w2 B_w2)
    exact bodyPost_ret (v := .tuple #[rlV x, .bool true]) (S2.res_cell_tmp rfl _ _ (w.heap.size + 1 + 1 + 1) 42 _ _ _ rfl rfl V_w3.out Tryd.underlying42 rfl ruleSize) rfl ⟨by rw [HKE.out]; rfl, B_w3.out⟩

set_option maxRecDepth 20000 in
set_option maxHeartbeats 4000000 in
theorem allowed_any (A : Option Addr) (cc : Nat) (xs : List Rl) (c u o : ByteArray) (ac : Int) (w : World) (hw : Okw w) (h : RL w w.heap.size A xs) (hn : xs.length ≤ 140737488355328)
    (hc : c.size ≤ 64) (hu : u.size ≤ 64) (hf : ∀ x ∈ xs, x.fi.size ≤ 1000) :
    Calls Tryd.prog 17 #[.slice A xs.length cc, whV c u, .int .i64 ac, .string o] w fun e w' => e = .returned (.bool (allowR xs c u ac o)) ∧ Below w.heap.size w w' := by
  have HO := Lib.hid hw
  have HS := Lib.hid h
  have HFI := Lib.hid (fun Cb T4 w1 h1 h2 h3 => firstA_any A cc xs c u o ac Cb T4 w1 h1 h2 hn h3 hc hu hf)
  obtain ⟨R, hR⟩ : ∃ R, allowR xs c u ac o = R := ⟨_, rfl⟩
  have HR : Hid (R = match xs.find? (alP c u ac o) with | some x => x.al | none => false) := Lib.hid (by rw [← hR]; rfl)
  rw [hR]
  generalize xs.find? (alP c u ac o) = r at *
  clear hw h hf hR hc hu
  unfold whV at HFI ⊢
  have hmf : ∀ (fn : Fn) (first cap : Array Value) (w : World), (Instr.makeFunc fn first cap).run Tryd.prog w = .ok (.func fn first cap) w := fun _ _ _ _ => rfl
  go_enter Tryd.func17, Tryd.ntmps17
  go_upto_region 1 with fail
  refine name_world (C := fun w1 => Code.wp _ _ _ _ w1) ((w.alloc (.cells ([.string c, .string u] : List Value).toArray 28)).alloc (.cells ([.string o] : List Value).toArray 9)) ?_
  intro w1 hw1
  obtain ⟨t1, t2, hs0, hb1⟩ := S2.two_laid (v1 := [.string c, .string u]) (v2 := [.string o]) hw1
  have V_w1 := Lib.hid t1
  have C_w1 := Lib.hid t2
  have B_w1 := Lib.hid hb1
  have O_w1 := Lib.hid (HO.out.step hb1)
  have S_w1 := Lib.hid (GL.step HS.out hb1)
  clear hw1 t1 t2 hs0 hb1 HO HS
  go_wp2_with first
    | (refine wpList_load_v (by rfl) 28 (.tmp 5) rfl ⟨w.heap.size, 0, none⟩ rfl (.agg #[.string c, .string u]) (S2.run_load_all V_w1.out Tryd.underlying28 rfl whoSize) ?_)
  refine (HFI.out (w.heap.size + 1) 9 w1 O_w1.out S_w1.out C_w1.out).mono ?_
  rintro e w2 ⟨rfl, hb⟩
  have B_w2 := Lib.hid (stepB B_w1.out hb)
  clear hb V_w1 C_w1 B_w1 O_w1 S_w1 HFI
  cases r with
  | none =>
    have HRR : Hid (R = false) := Lib.hid HR.out
    go_wp2_with first
      | (refine S2.wpList_store_all (by rfl) 42 (.tmp 9) (.tmp 17) rfl rfl w2.heap.size rfl (gR Rl.zero) rfl 42 _ (BK.new w2 _ _) ruleSize rfl (gR_one _) ?_; intro w3 hM hP; have V_w3 := Lib.hid hM; have B_w3 := Lib.hid (stepB B_w2.out (hP.below (S2.below_new w2 _) (Nat.le_refl _))); clear hM hP)
    go_ret
    exact ⟨by rw [HRR.out]; rfl, B_w3.out⟩
  | some x =>
    have HRR : Hid (R = x.al) := Lib.hid HR.out
    go_upto_region 2 with first
      | (refine S2.wpList_store_all (by rfl) 42 (.tmp 9) (.tmp 17) rfl rfl w2.heap.size rfl (gR x) rfl 42 _ (BK.new w2 _ _) ruleSize rfl (gR_one _) ?_; intro w3 hM hP; have V_w3 := Lib.hid hM; have B_w3 := Lib.hid (stepB B_w2.out (hP.below (S2.below_new w2 _) (Nat.le_refl _))); clear hM hP)
    have z0 : w3.cell? ⟨w2.heap.size, 0, none⟩ = some (.bool x.al) := V_w3.out.cell 0 rfl
    go_wp2
    go_ret
    exact ⟨by rw [HRR.out]; rfl, B_w3.out⟩

set_option maxRecDepth 20000 in
set_option maxHeartbeats 4000000 in
theorem subs_any (A : Option Addr) (cc : Nat) (xs : List Rl) (c u f : ByteArray) (w : World) (hw : Okw w) (h : RL w w.heap.size A xs) (hn : xs.length ≤ 140737488355328)
    (hc : c.size ≤ 64) (hu : u.size ≤ 64) (hf : ∀ x ∈ xs, x.fi.size ≤ 1000) :
    Calls Tryd.prog 19 #[.slice A xs.length cc, whV c u, .string f] w fun e w' => e = .returned (.bool (subsR xs c u f)) ∧ Below w.heap.size w w' := by
  have HO := Lib.hid hw
  have HS := Lib.hid h
  have HFI := Lib.hid (fun Cb T4 w1 h1 h2 h3 => firstS_any A cc xs c u f 2 Cb T4 w1 h1 h2 hn h3 hc hu hf)
  have HEX := Lib.hid (fun (x : Rl) (hx : x.fi.size ≤ 1000) w1 h => tExpand_any x.fi c u w1 h hc hu hx)
  have HCO := Lib.hid (fun a w1 h => mCov_any a f w1 h)
  obtain ⟨R, hR⟩ : ∃ R, subsR xs c u f = R := ⟨_, rfl⟩
  have HR : Hid (R = match xs.find? (suP c u f) with | some x => x.al && coversL (expB x.fi c u) f | none => false) := Lib.hid (by rw [← hR]; rfl)
  rw [hR]
  have hfx : ∀ x, xs.find? (suP c u f) = some x → x.fi.size ≤ 1000 := fun x hx => hf x (List.mem_of_find?_eq_some hx)
  have HFX := Lib.hid hfx
  have e0 : (fun x => forR x u 2 && (cmRes (expB x.fi c u) f).isSome) = suP c u f := rfl
  rw [e0] at HFI
  generalize xs.find? (suP c u f) = r at *
  clear hw h hf hR hc hu hfx e0
  unfold whV at HFI
  have HW2 : Hid (whV c u = .agg #[.string c, .string u]) := Lib.hid rfl
  unfold whV
  have hmf : ∀ (fn : Fn) (first cap : Array Value) (w : World), (Instr.makeFunc fn first cap).run Tryd.prog w = .ok (.func fn first cap) w := fun _ _ _ _ => rfl
  go_enter Tryd.func19, Tryd.ntmps19
  go_upto_region 1 with fail
  refine name_world (C := fun w1 => Code.wp _ _ _ _ w1) ((w.alloc (.cells ([.string c, .string u] : List Value).toArray 28)).alloc (.cells ([.string f] : List Value).toArray 9)) ?_
  intro w1 hw1
  obtain ⟨t1, t2, hs0, hb1⟩ := S2.two_laid (v1 := [.string c, .string u]) (v2 := [.string f]) hw1
  have V_w1 := Lib.hid t1
  have C_w1 := Lib.hid t2
  have B_w1 := Lib.hid hb1
  have O_w1 := Lib.hid (HO.out.step hb1)
  have S_w1 := Lib.hid (GL.step HS.out hb1)
  clear hw1 t1 t2 hs0 hb1 HO HS
  go_wp2_with first
    | (refine wpList_load_v (by rfl) 28 (.tmp 4) rfl ⟨w.heap.size, 0, none⟩ rfl (.agg #[.string c, .string u]) (S2.run_load_all V_w1.out Tryd.underlying28 rfl whoSize) ?_)
  refine (HFI.out (w.heap.size + 1) 9 w1 O_w1.out S_w1.out C_w1.out).mono ?_
  rintro e w2 ⟨rfl, hb⟩
  have V_w2 := Lib.hid (V_w1.out.step hb)
  have C_w2 := Lib.hid (C_w1.out.step hb)
  have O_w2 := Lib.hid (O_w1.out.step hb)
  have B_w2 := Lib.hid (stepB B_w1.out hb)
  clear hb V_w1 C_w1 B_w1 O_w1 S_w1 HFI
  cases r with
  | none =>
    have HRR : Hid (R = false) := Lib.hid HR.out
    go_upto_region 2 with first
      | (refine S2.wpList_store_all (by rfl) 42 (.tmp 7) (.tmp 14) rfl rfl w2.heap.size rfl (gR Rl.zero) rfl 42 _ (BK.new w2 _ _) ruleSize rfl (gR_one _) ?_; intro w3 hM hP; have X_w3 := Lib.hid hM; have B_w3 := Lib.hid (stepB B_w2.out (hP.below (S2.below_new w2 _) (Nat.le_refl _))); clear hM hP)
    clear HEX HCO HFX V_w2 C_w2 O_w2 B_w2
    obtain ⟨y1, hy1⟩ : ∃ y1, y1 = World.drew w3 := ⟨_, rfl⟩
    have hbD : Below w3.heap.size w3 y1 := by rw [hy1]; exact (Below.refl _ _).drew
    have X_y1 : Hid (BK 42 y1 w2.heap.size (gR Rl.zero)) := Lib.hid (X_w3.out.step hbD)
    have B_y1 : Hid (Below w.heap.size w y1) := Lib.hid (stepB B_w3.out hbD)
    clear X_w3 B_w3
    have hbd : (fun w' => BK 42 w' w2.heap.size (gR Rl.zero)) (World.drew w3) := by rw [← hy1]; exact X_y1.out
    have hSD : (fun w' => BK 42 w' w2.heap.size (gR Rl.zero)) y1 := X_y1.out
    have HWD := Lib.hid hy1
    clear hy1 hbD
    refine wp_region_held_drew (S := fun w' => BK 42 w' w2.heap.size (gR Rl.zero)) (by kernel_rfl) hbd (fun hHeld => ?_)
    rw [← HWD.out]
    clear hHeld
    have hHeld := hSD
    clear hSD hbd HWD
    refine wpAnyH_take (i := 0) (v := .bool false) (get_ops _ _ _ rfl) (by kernel_rfl) (by kernel_rfl) (by kernel_rfl) (fun _ _ _ h => h) (Or.inl ⟨by rfl, fun wS hSw => by (try dsimp only at hSw); go_simp⟩) hHeld ?_
    try simp only [Act.put, List.setIfInBounds_toArray, List.set_cons_zero, List.set_cons_succ]
    refine wpAnyH_take (i := 1) (v := .bool false) (get_ops _ _ _ rfl) (by kernel_rfl) (by kernel_rfl) (by kernel_rfl) (fun _ _ _ h => h) (Or.inl ⟨by rfl, fun wS hSw => by (try dsimp only at hSw); go_simp⟩) hHeld ?_
    try simp only [Act.put, List.setIfInBounds_toArray, List.set_cons_zero, List.set_cons_succ]
    refine wpAnyH_take (i := 2) (v := undef) (get_ops _ _ _ rfl) (by kernel_rfl) (by kernel_rfl) (by kernel_rfl) (fun _ _ _ h => h) (Or.inr ⟨by rfl, rfl⟩) hHeld ?_
    try simp only [Act.put, List.setIfInBounds_toArray, List.set_cons_zero, List.set_cons_succ]
    refine wpAnyH_take (i := 3) (v := undef) (get_ops _ _ _ rfl) (by kernel_rfl) (by kernel_rfl) (by kernel_rfl) (fun _ _ _ h => h) (Or.inr ⟨by rfl, rfl⟩) hHeld ?_
    try simp only [Act.put, List.setIfInBounds_toArray, List.set_cons_zero, List.set_cons_succ]
    refine wpAnyH_take (i := 4) (v := .bool false) (get_ops _ _ _ rfl) (by kernel_rfl) (by kernel_rfl) (by kernel_rfl) (fun _ _ _ h => h) (Or.inl ⟨by rfl, fun wS hSw => by (try dsimp only at hSw); go_simp⟩) hHeld ?_
    try simp only [Act.put, List.setIfInBounds_toArray, List.set_cons_zero, List.set_cons_succ]
    refine wpAnyH_take (i := 5) (v := .bool false) (get_ops _ _ _ rfl) (by kernel_rfl) (by kernel_rfl) (by kernel_rfl) (fun _ _ _ h => h) (Or.inl ⟨by rfl, fun wS hSw => by (try dsimp only at hSw); go_simp⟩) hHeld ?_
    try simp only [Act.put, List.setIfInBounds_toArray, List.set_cons_zero, List.set_cons_succ]
    refine wpAnyH_take (i := 6) (v := undef) (get_ops _ _ _ rfl) (by kernel_rfl) (by kernel_rfl) (by kernel_rfl) (fun _ _ _ h => h) (Or.inr ⟨by rfl, rfl⟩) hHeld ?_
    try simp only [Act.put, List.setIfInBounds_toArray, List.set_cons_zero, List.set_cons_succ]
    refine wpAnyH_take (i := 7) (v := undef) (get_ops _ _ _ rfl) (by kernel_rfl) (by kernel_rfl) (by kernel_rfl) (fun _ _ _ h => h) (Or.inr ⟨by rfl, rfl⟩) hHeld ?_
    try simp only [Act.put, List.setIfInBounds_toArray, List.set_cons_zero, List.set_cons_succ]
    refine wpAnyH_take (i := 8) (v := undef) (get_ops _ _ _ rfl) (by kernel_rfl) (by kernel_rfl) (by kernel_rfl) (fun _ _ _ h => h) (Or.inr ⟨by rfl, rfl⟩) hHeld ?_
    try simp only [Act.put, List.setIfInBounds_toArray, List.set_cons_zero, List.set_cons_succ]
    refine wpAnyH_take (i := 9) (v := undef) (get_ops _ _ _ rfl) (by kernel_rfl) (by kernel_rfl) (by kernel_rfl) (fun _ _ _ h => h) (Or.inr ⟨by rfl, rfl⟩) hHeld ?_
    try simp only [Act.put, List.setIfInBounds_toArray, List.set_cons_zero, List.set_cons_succ]
    refine wpAnyH_take (i := 10) (v := undef) (get_ops _ _ _ rfl) (by kernel_rfl) (by kernel_rfl) (by kernel_rfl) (fun _ _ _ h => h) (Or.inr ⟨by rfl, rfl⟩) hHeld ?_
    try simp only [Act.put, List.setIfInBounds_toArray, List.set_cons_zero, List.set_cons_succ]
    refine wpAnyH_take (i := 11) (v := undef) (get_ops _ _ _ rfl) (by kernel_rfl) (by kernel_rfl) (by kernel_rfl) (fun _ _ _ h => h) (Or.inr ⟨by rfl, rfl⟩) hHeld ?_
    try simp only [Act.put, List.setIfInBounds_toArray, List.set_cons_zero, List.set_cons_succ]
    refine wpAnyH_take (i := 12) (v := .bool false) (get_ops _ _ _ rfl) (by kernel_rfl) (by kernel_rfl) (by kernel_rfl) (fun _ _ _ h => h) (Or.inl ⟨by rfl, fun wS hSw => by (try dsimp only at hSw); go_simp⟩) hHeld ?_
    try simp only [Act.put, List.setIfInBounds_toArray, List.set_cons_zero, List.set_cons_succ]
    refine wpAnyH_take (i := 13) (v := .bool false) (get_ops _ _ _ rfl) (by kernel_rfl) (by kernel_rfl) (by kernel_rfl) (fun _ _ _ h => h) (Or.inl ⟨by rfl, fun wS hSw => by (try dsimp only at hSw); go_simp⟩) hHeld ?_
    try simp only [Act.put, List.setIfInBounds_toArray, List.set_cons_zero, List.set_cons_succ]
    refine wpAnyH_done (by kernel_rfl) ?_ _
    go_wp2_with fail
    go_ret
    exact ⟨by rw [HRR.out]; rfl, B_y1.out⟩
  | some x =>
    have HRR : Hid (R = (x.al && coversL (expB x.fi c u) f)) := Lib.hid HR.out
    have HEX1 := Lib.hid (HEX.out x (HFX.out x rfl))
    have HCO1 := Lib.hid (HCO.out (expB x.fi c u))
    generalize coversL (expB x.fi c u) f = b2 at *
    generalize expB x.fi c u = ex at *
    obtain ⟨al, us, an, fi⟩ := x
    go_upto_region 2 with first
      | (refine S2.wpList_store_all (by rfl) 42 (.tmp 7) (.tmp 14) rfl rfl w2.heap.size rfl (gR ⟨al, us, an, fi⟩) rfl 42 _ (BK.new w2 _ _) ruleSize rfl (gR_one _) ?_; intro w3 hM hP; have hbn := hP.below (S2.below_new w2 _) (Nat.le_refl _); have X_w3 := Lib.hid hM; have B_w3 := Lib.hid (stepB B_w2.out hbn); have O_w3 := Lib.hid (O_w2.out.step hbn); have P_w3 := Lib.hid (V_w2.out.step hbn); have C_w3 := Lib.hid (C_w2.out.step hbn); clear hM hP hbn)
    clear HEX HCO HFX HR V_w2 C_w2 O_w2 B_w2
    cases al with
    | false =>
      obtain ⟨x1, hx1⟩ : ∃ x1, x1 = World.drew w3 := ⟨_, rfl⟩
      have hbD : Below w3.heap.size w3 x1 := by rw [hx1]; exact (Below.refl _ _).drew
      have X_x1 : Hid (BK 42 x1 w2.heap.size (gR ⟨false, us, an, fi⟩)) := Lib.hid (X_w3.out.step hbD)
      have B_x1 : Hid (Below w.heap.size w x1) := Lib.hid (stepB B_w3.out hbD)
      have O_x1 : Hid (Okw x1) := Lib.hid (O_w3.out.step hbD)
      have P_x1 : Hid (BK 28 x1 w.heap.size [.string c, .string u]) := Lib.hid (P_w3.out.step hbD)
      have C_x1 : Hid (BK 9 x1 (w.heap.size + 1) [.string f]) := Lib.hid (C_w3.out.step hbD)
      clear X_w3 B_w3 O_w3 P_w3 C_w3
      have hbd : (fun w' => BK 42 w' w2.heap.size (gR ⟨false, us, an, fi⟩) ∧ BK 28 w' w.heap.size [.string c, .string u] ∧ BK 9 w' (w.heap.size + 1) [.string f]) (World.drew w3) := by rw [← hx1]; exact ⟨X_x1.out, P_x1.out, C_x1.out⟩
      have hSD : (fun w' => BK 42 w' w2.heap.size (gR ⟨false, us, an, fi⟩) ∧ BK 28 w' w.heap.size [.string c, .string u] ∧ BK 9 w' (w.heap.size + 1) [.string f]) x1 := ⟨X_x1.out, P_x1.out, C_x1.out⟩
      have HWD := Lib.hid hx1
      clear hx1 hbD
      refine wp_region_held_drew (S := fun w' => BK 42 w' w2.heap.size (gR ⟨false, us, an, fi⟩) ∧ BK 28 w' w.heap.size [.string c, .string u] ∧ BK 9 w' (w.heap.size + 1) [.string f]) (by kernel_rfl) hbd (fun hHeld => ?_)
      rw [← HWD.out]
      clear hHeld
      have hHeld := hSD
      clear hSD hbd HWD
      refine wpAnyH_take (i := 0) (v := .bool true) (get_ops _ _ _ rfl) (by kernel_rfl) (by kernel_rfl) (by kernel_rfl) (fun _ _ _ h => h) (Or.inl ⟨by rfl, fun wS hSw => by (try dsimp only at hSw); go_simp⟩) hHeld ?_
      try simp only [Act.put, List.setIfInBounds_toArray, List.set_cons_zero, List.set_cons_succ]
      refine wpAnyH_take (i := 1) (v := .bool true) (get_ops _ _ _ rfl) (by kernel_rfl) (by kernel_rfl) (by kernel_rfl) (fun _ _ _ h => h) (Or.inl ⟨by rfl, fun wS hSw => by (try dsimp only at hSw); go_simp⟩) hHeld ?_
      try simp only [Act.put, List.setIfInBounds_toArray, List.set_cons_zero, List.set_cons_succ]
      refine wpAnyH_take (i := 2) (v := .pointer (some ⟨w2.heap.size, 0, none⟩)) (get_ops _ _ _ rfl) (by kernel_rfl) (by kernel_rfl) (by kernel_rfl) (fun _ _ _ h => h) (Or.inl ⟨by rfl, fun wS hSw => by (try dsimp only at hSw); go_simp⟩) hHeld ?_
      try simp only [Act.put, List.setIfInBounds_toArray, List.set_cons_zero, List.set_cons_succ]
      refine wpAnyH_take (i := 3) (v := .bool false) (get_ops _ _ _ rfl) (by kernel_rfl) (by kernel_rfl) (by kernel_rfl) (fun _ _ _ h => h) (Or.inl ⟨by rfl, fun wS hSw => by (try dsimp only at hSw); have cS : wS.cell? ⟨w2.heap.size, 0, none⟩ = some (.bool false) := hSw.1.cell 0 rfl; clear hSw; go_simp⟩) hHeld ?_
      try simp only [Act.put, List.setIfInBounds_toArray, List.set_cons_zero, List.set_cons_succ]
      refine wpAnyH_take (i := 4) (v := .bool false) (get_ops _ _ _ rfl) (by kernel_rfl) (by kernel_rfl) (by kernel_rfl) (fun _ _ _ h => h) (Or.inl ⟨by rfl, fun wS hSw => by (try dsimp only at hSw); go_simp⟩) hHeld ?_
      try simp only [Act.put, List.setIfInBounds_toArray, List.set_cons_zero, List.set_cons_succ]
      refine wpAnyH_take (i := 5) (v := .bool false) (get_ops _ _ _ rfl) (by kernel_rfl) (by kernel_rfl) (by kernel_rfl) (fun _ _ _ h => h) (Or.inl ⟨by rfl, fun wS hSw => by (try dsimp only at hSw); go_simp⟩) hHeld ?_
      try simp only [Act.put, List.setIfInBounds_toArray, List.set_cons_zero, List.set_cons_succ]
      refine wpAnyH_take (i := 6) (v := undef) (get_ops _ _ _ rfl) (by kernel_rfl) (by kernel_rfl) (by kernel_rfl) (fun _ _ _ h => h) (Or.inr ⟨by rfl, rfl⟩) hHeld ?_
      try simp only [Act.put, List.setIfInBounds_toArray, List.set_cons_zero, List.set_cons_succ]
      refine wpAnyH_take (i := 7) (v := undef) (get_ops _ _ _ rfl) (by kernel_rfl) (by kernel_rfl) (by kernel_rfl) (fun _ _ _ h => h) (Or.inr ⟨by rfl, rfl⟩) hHeld ?_
      try simp only [Act.put, List.setIfInBounds_toArray, List.set_cons_zero, List.set_cons_succ]
      refine wpAnyH_take (i := 8) (v := undef) (get_ops _ _ _ rfl) (by kernel_rfl) (by kernel_rfl) (by kernel_rfl) (fun _ _ _ h => h) (Or.inr ⟨by rfl, rfl⟩) hHeld ?_
      try simp only [Act.put, List.setIfInBounds_toArray, List.set_cons_zero, List.set_cons_succ]
      refine wpAnyH_take (i := 9) (v := undef) (get_ops _ _ _ rfl) (by kernel_rfl) (by kernel_rfl) (by kernel_rfl) (fun _ _ _ h => h) (Or.inr ⟨by rfl, rfl⟩) hHeld ?_
      try simp only [Act.put, List.setIfInBounds_toArray, List.set_cons_zero, List.set_cons_succ]
      refine wpAnyH_take (i := 10) (v := undef) (get_ops _ _ _ rfl) (by kernel_rfl) (by kernel_rfl) (by kernel_rfl) (fun _ _ _ h => h) (Or.inr ⟨by rfl, rfl⟩) hHeld ?_
      try simp only [Act.put, List.setIfInBounds_toArray, List.set_cons_zero, List.set_cons_succ]
      refine wpAnyH_take (i := 11) (v := undef) (get_ops _ _ _ rfl) (by kernel_rfl) (by kernel_rfl) (by kernel_rfl) (fun _ _ _ h => h) (Or.inr ⟨by rfl, rfl⟩) hHeld ?_
      try simp only [Act.put, List.setIfInBounds_toArray, List.set_cons_zero, List.set_cons_succ]
      refine wpAnyH_take (i := 12) (v := .bool false) (get_ops _ _ _ rfl) (by kernel_rfl) (by kernel_rfl) (by kernel_rfl) (fun _ _ _ h => h) (Or.inl ⟨by rfl, fun wS hSw => by (try dsimp only at hSw); go_simp⟩) hHeld ?_
      try simp only [Act.put, List.setIfInBounds_toArray, List.set_cons_zero, List.set_cons_succ]
      refine wpAnyH_take (i := 13) (v := .bool false) (get_ops _ _ _ rfl) (by kernel_rfl) (by kernel_rfl) (by kernel_rfl) (fun _ _ _ h => h) (Or.inl ⟨by rfl, fun wS hSw => by (try dsimp only at hSw); go_simp⟩) hHeld ?_
      try simp only [Act.put, List.setIfInBounds_toArray, List.set_cons_zero, List.set_cons_succ]
      refine wpAnyH_done (by kernel_rfl) ?_ _
      go_wp2_with fail
      go_ret
      exact ⟨by rw [HRR.out]; rfl, B_x1.out⟩
    | true =>
      obtain ⟨x1, hx1⟩ : ∃ x1, x1 = World.drew w3 := ⟨_, rfl⟩
      have hbD : Below w3.heap.size w3 x1 := by rw [hx1]; exact (Below.refl _ _).drew
      have X_x1 : Hid (BK 42 x1 w2.heap.size (gR ⟨true, us, an, fi⟩)) := Lib.hid (X_w3.out.step hbD)
      have B_x1 : Hid (Below w.heap.size w x1) := Lib.hid (stepB B_w3.out hbD)
      have O_x1 : Hid (Okw x1) := Lib.hid (O_w3.out.step hbD)
      have P_x1 : Hid (BK 28 x1 w.heap.size [.string c, .string u]) := Lib.hid (P_w3.out.step hbD)
      have C_x1 : Hid (BK 9 x1 (w.heap.size + 1) [.string f]) := Lib.hid (C_w3.out.step hbD)
      clear X_w3 B_w3 O_w3 P_w3 C_w3
      have hbd : (fun w' => BK 42 w' w2.heap.size (gR ⟨true, us, an, fi⟩) ∧ BK 28 w' w.heap.size [.string c, .string u] ∧ BK 9 w' (w.heap.size + 1) [.string f]) (World.drew w3) := by rw [← hx1]; exact ⟨X_x1.out, P_x1.out, C_x1.out⟩
      have hSD : (fun w' => BK 42 w' w2.heap.size (gR ⟨true, us, an, fi⟩) ∧ BK 28 w' w.heap.size [.string c, .string u] ∧ BK 9 w' (w.heap.size + 1) [.string f]) x1 := ⟨X_x1.out, P_x1.out, C_x1.out⟩
      have HWD := Lib.hid hx1
      clear hx1 hbD
      refine wp_region_held_drew (S := fun w' => BK 42 w' w2.heap.size (gR ⟨true, us, an, fi⟩) ∧ BK 28 w' w.heap.size [.string c, .string u] ∧ BK 9 w' (w.heap.size + 1) [.string f]) (by kernel_rfl) hbd (fun hHeld => ?_)
      rw [← HWD.out]
      clear hHeld
      have hHeld := hSD
      clear hSD hbd HWD
      refine wpAnyH_take (i := 0) (v := .bool true) (get_ops _ _ _ rfl) (by kernel_rfl) (by kernel_rfl) (by kernel_rfl) (fun _ _ _ h => h) (Or.inl ⟨by rfl, fun wS hSw => by (try dsimp only at hSw); go_simp⟩) hHeld ?_
      try simp only [Act.put, List.setIfInBounds_toArray, List.set_cons_zero, List.set_cons_succ]
      refine wpAnyH_take (i := 1) (v := .bool true) (get_ops _ _ _ rfl) (by kernel_rfl) (by kernel_rfl) (by kernel_rfl) (fun _ _ _ h => h) (Or.inl ⟨by rfl, fun wS hSw => by (try dsimp only at hSw); go_simp⟩) hHeld ?_
      try simp only [Act.put, List.setIfInBounds_toArray, List.set_cons_zero, List.set_cons_succ]
      refine wpAnyH_take (i := 2) (v := .pointer (some ⟨w2.heap.size, 0, none⟩)) (get_ops _ _ _ rfl) (by kernel_rfl) (by kernel_rfl) (by kernel_rfl) (fun _ _ _ h => h) (Or.inl ⟨by rfl, fun wS hSw => by (try dsimp only at hSw); go_simp⟩) hHeld ?_
      try simp only [Act.put, List.setIfInBounds_toArray, List.set_cons_zero, List.set_cons_succ]
      refine wpAnyH_take (i := 3) (v := .bool true) (get_ops _ _ _ rfl) (by kernel_rfl) (by kernel_rfl) (by kernel_rfl) (fun _ _ _ h => h) (Or.inl ⟨by rfl, fun wS hSw => by (try dsimp only at hSw); have cS : wS.cell? ⟨w2.heap.size, 0, none⟩ = some (.bool true) := hSw.1.cell 0 rfl; clear hSw; go_simp⟩) hHeld ?_
      try simp only [Act.put, List.setIfInBounds_toArray, List.set_cons_zero, List.set_cons_succ]
      refine wpAnyH_take (i := 4) (v := .bool true) (get_ops _ _ _ rfl) (by kernel_rfl) (by kernel_rfl) (by kernel_rfl) (fun _ _ _ h => h) (Or.inl ⟨by rfl, fun wS hSw => by (try dsimp only at hSw); go_simp⟩) hHeld ?_
      try simp only [Act.put, List.setIfInBounds_toArray, List.set_cons_zero, List.set_cons_succ]
      refine wpAnyH_take (i := 5) (v := .bool true) (get_ops _ _ _ rfl) (by kernel_rfl) (by kernel_rfl) (by kernel_rfl) (fun _ _ _ h => h) (Or.inl ⟨by rfl, fun wS hSw => by (try dsimp only at hSw); go_simp⟩) hHeld ?_
      try simp only [Act.put, List.setIfInBounds_toArray, List.set_cons_zero, List.set_cons_succ]
      refine wpAnyH_take (i := 6) (v := .pointer (some ⟨w2.heap.size, 3, none⟩)) (get_ops _ _ _ rfl) (by kernel_rfl) (by kernel_rfl) (by kernel_rfl) (fun _ _ _ h => h) (Or.inl ⟨by rfl, fun wS hSw => by (try dsimp only at hSw); go_simp⟩) hHeld ?_
      try simp only [Act.put, List.setIfInBounds_toArray, List.set_cons_zero, List.set_cons_succ]
      refine wpAnyH_take (i := 7) (v := .string fi) (get_ops _ _ _ rfl) (by kernel_rfl) (by kernel_rfl) (by kernel_rfl) (fun _ _ _ h => h) (Or.inl ⟨by rfl, fun wS hSw => by (try dsimp only at hSw); have cS : wS.cell? ⟨w2.heap.size, 3, none⟩ = some (.string fi) := hSw.1.cell 3 rfl; clear hSw; go_simp⟩) hHeld ?_
      try simp only [Act.put, List.setIfInBounds_toArray, List.set_cons_zero, List.set_cons_succ]
      refine wpAnyH_take (i := 8) (v := (whV c u)) (get_ops _ _ _ rfl) (by kernel_rfl) (by kernel_rfl) (by kernel_rfl) (fun _ _ _ h => h) (Or.inl ⟨by rfl, fun wS hSw => by (try dsimp only at hSw); exact exec_load 28 _ rfl ⟨w.heap.size, 0, none⟩ (by go_simp) _ (S2.run_load_all (vs := [.string c, .string u]) hSw.2.1 Tryd.underlying28 rfl whoSize)⟩) hHeld ?_
      try simp only [Act.put, List.setIfInBounds_toArray, List.set_cons_zero, List.set_cons_succ]
      refine wpAnyH_take (i := 10) (v := .string f) (get_ops _ _ _ rfl) (by kernel_rfl) (by kernel_rfl) (by kernel_rfl) (fun _ _ _ h => h) (Or.inl ⟨by rfl, fun wS hSw => by (try dsimp only at hSw); have cS : wS.cell? ⟨w.heap.size + 1, 0, none⟩ = some (.string f) := hSw.2.2.cell 0 rfl; clear hSw; go_simp⟩) hHeld ?_
      try simp only [Act.put, List.setIfInBounds_toArray, List.set_cons_zero, List.set_cons_succ]
      refine wpAnyH_ready (rs := [9]) (by kernel_rfl) (by simp) ?_
      refine (AllReadyH.cons (get_ops _ _ _ rfl) (fun K hK => ?_) AllReadyH.nil)
      go_simp
      refine (HEX1.out x1 O_x1.out).mono ?_
      rintro e x2 ⟨rfl, hb⟩
      have X_x2 : Hid (BK 42 x2 w2.heap.size (gR ⟨true, us, an, fi⟩)) := Lib.hid (X_x1.out.step hb)
      have B_x2 : Hid (Below w.heap.size w x2) := Lib.hid (stepB B_x1.out hb)
      have O_x2 : Hid (Okw x2) := Lib.hid (O_x1.out.step hb)
      have P_x2 : Hid (BK 28 x2 w.heap.size [.string c, .string u]) := Lib.hid (P_x1.out.step hb)
      have C_x2 : Hid (BK 9 x2 (w.heap.size + 1) [.string f]) := Lib.hid (C_x1.out.step hb)
      clear X_x1 B_x1 O_x1 P_x1 C_x1
      clear hHeld hb
      go_wp2_with fail
      refine hK.out _ _ ⟨X_x2.out, P_x2.out, C_x2.out⟩ (fun hHeld => ?_)
      clear hK K
      try simp only [Act.put, List.setIfInBounds_toArray, List.set_cons_zero, List.set_cons_succ]
      refine wpAnyH_ready (rs := [11]) (by kernel_rfl) (by simp) ?_
      refine (AllReadyH.cons (get_ops _ _ _ rfl) (fun K hK => ?_) AllReadyH.nil)
      go_simp
      refine (HCO1.out x2 O_x2.out).mono ?_
      rintro e x3 ⟨rfl, hb⟩
      have X_x3 : Hid (BK 42 x3 w2.heap.size (gR ⟨true, us, an, fi⟩)) := Lib.hid (X_x2.out.step hb)
      have B_x3 : Hid (Below w.heap.size w x3) := Lib.hid (stepB B_x2.out hb)
      have O_x3 : Hid (Okw x3) := Lib.hid (O_x2.out.step hb)
      have P_x3 : Hid (BK 28 x3 w.heap.size [.string c, .string u]) := Lib.hid (P_x2.out.step hb)
      have C_x3 : Hid (BK 9 x3 (w.heap.size + 1) [.string f]) := Lib.hid (C_x2.out.step hb)
      clear X_x2 B_x2 O_x2 P_x2 C_x2
      clear hHeld hb
      go_wp2_with fail
      refine hK.out _ _ ⟨X_x3.out, P_x3.out, C_x3.out⟩ (fun hHeld => ?_)
      clear hK K
      try simp only [Act.put, List.setIfInBounds_toArray, List.set_cons_zero, List.set_cons_succ]
      refine wpAnyH_take (i := 12) (v := .bool b2) (get_ops _ _ _ rfl) (by kernel_rfl) (by kernel_rfl) (by kernel_rfl) (fun _ _ _ h => h) (Or.inl ⟨by rfl, fun wS hSw => by (try dsimp only at hSw); go_simp⟩) hHeld ?_
      try simp only [Act.put, List.setIfInBounds_toArray, List.set_cons_zero, List.set_cons_succ]
      refine wpAnyH_take (i := 13) (v := .bool b2) (get_ops _ _ _ rfl) (by kernel_rfl) (by kernel_rfl) (by kernel_rfl) (fun _ _ _ h => h) (Or.inl ⟨by rfl, fun wS hSw => by (try dsimp only at hSw); go_simp⟩) hHeld ?_
      try simp only [Act.put, List.setIfInBounds_toArray, List.set_cons_zero, List.set_cons_succ]
      refine wpAnyH_done (by kernel_rfl) ?_ _
      go_wp2_with fail
      go_ret
      exact ⟨by rw [HRR.out]; rfl, B_x3.out⟩
end Go.Proofs.YtoakhkiiefiebaaDoor.S1
