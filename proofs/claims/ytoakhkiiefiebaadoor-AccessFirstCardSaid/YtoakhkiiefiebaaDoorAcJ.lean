/-
  What the closure of Shadowed and ContainsFunc over rules answer. Conditions: the list reads as data; each filter has at most 1000 bytes; the library's bound on short texts holds a number.
-/
import Derived.Test.YtoakhkiiefiebaaDoorAcD
import Derived.Test.YtoakhkiiefiebaaDoorAcH
namespace Go.Proofs.YtoakhkiiefiebaaDoor.S1
open Go.RowKit
open S2 (BK Put get_ops exec_load)


set_option maxHeartbeats 1000000 in
theorem sh1_any (a b : Rl) (g : Nat) (T : TypeId) (w : World) (hw : Okw w) (hB : BK T w g (gR b)) (ha : a.fi.size ≤ 1000) (hb : b.fi.size ≤ 1000) :
    Calls Tryd.prog 44 #[rlV a, .pointer (some ⟨g, 0, none⟩)] w fun e w' => e = .returned (.bool (shadR a b)) ∧ Below w.heap.size w w' := by
  have HC := Lib.hid (fun w1 h => shadows_any a b w1 h ha hb)
  have HO := Lib.hid hw
  have HY := Lib.hid hB
  generalize shadR a b = R at *
  obtain ⟨al, us, an, fi⟩ := a
  clear hw hB ha hb
  have HUN : Hid (rlV ⟨al, us, an, fi⟩ = .agg #[.bool al, .string us, .int .i64 an, .string fi]) := Lib.hid rfl
  unfold rlV gR at HC ⊢
  go_enter Tryd.func44, Tryd.ntmps44
  go_upto_region 1 with fail
  refine name_world (C := fun w1 => Code.wp _ _ _ _ w1) (w.alloc (.cells (gR ⟨al, us, an, fi⟩).toArray 42)) ?_
  intro w1 hw1
  have hb1 : Below w.heap.size w w1 := by rw [hw1]; exact S2.below_new w _
  have X_w1 : Hid (BK 42 w1 w.heap.size (gR ⟨al, us, an, fi⟩)) := Lib.hid (by rw [hw1]; exact BK.new w _ _)
  have B_w1 := Lib.hid hb1
  have O_w1 := Lib.hid (HO.out.step hb1)
  have Y_w1 := Lib.hid (HY.out.step hb1)
  clear hw1 hb1 HO HY HUN
  go_wp2_with first
    | (refine wpList_load_v (by rfl) 42 (.tmp 2) rfl ⟨w.heap.size, 0, none⟩ rfl (.agg (gR ⟨al, us, an, fi⟩).toArray) (load_rule0 X_w1.out) ?_)
    | (refine wpList_load_v (by rfl) 42 (.tmp 1) rfl ⟨g, 0, none⟩ rfl (.agg (gR b).toArray) (S2.run_load_all Y_w1.out Tryd.underlying42 rfl ruleSize) ?_)
  refine (HC.out w1 O_w1.out).mono ?_
  rintro e w2 ⟨rfl, hb⟩
  have B_w2 := Lib.hid (stepB B_w1.out hb)
  clear hb
  go_wp2
  go_ret
  exact ⟨rfl, B_w2.out⟩

set_option maxRecDepth 20000 in
set_option maxHeartbeats 2000000 in
theorem idxRS_any (A : Option Addr) (cc : Nat) (xs : List Rl) (a1 : Value) (p : Rl → Bool) (w : World) (h : RL w w.heap.size A xs) (hn : xs.length ≤ 140737488355328)
    (hp : ∀ x ∈ xs, ∀ w1, Below w.heap.size w w1 → Calls Tryd.prog 44 #[rlV x, a1] w1 fun e w' => e = .returned (.bool (p x)) ∧ Below w1.heap.size w1 w') :
    Calls Tryd.prog 57 #[.slice A xs.length cc, .func (.func 44) #[] #[a1]] w (RetIxR p xs w) := by
  have HS := Lib.hid h
  have HP := Lib.hid hp
  clear h hp
  go_enter Tryd.func57, Tryd.ntmps57
  go_wp2
  go_loopg [8] xs.length (fun g v wr => ∃ k : Nat, k + g = xs.length ∧ v = .int .i64 k ∧ (xs.take k).find? p = none ∧ Below w.heap.size w wr)
  case atStart => exact ⟨0, by omega, rfl, rfl, Below.refl _ _⟩
  case round =>
    obtain ⟨k, hkg, rfl, hrel, hb0⟩ := hrel
    have HREL := Lib.hid hrel
    have HB0 := Lib.hid hb0
    have HG := Lib.hid hkg
    clear hrel hb0
    cases gk with
    | zero =>
      obtain rfl : k = xs.length := by omega
      have HF : Hid (xs.find? p = none) := Lib.hid (by have := HREL.out; rwa [List.take_length] at this)
      clear hkg
      go_wp2
      go_ret
      exact ⟨_, rfl, .inl ⟨rfl, HF.out⟩, HB0.out⟩
    | succ g =>
      have hlt : k < xs.length := by omega
      have e3 : decide ((k : Int) < (xs.length : Int)) = true := decide_eq_true (by omega)
      obtain ⟨x, hx⟩ : ∃ x, xs[k]? = some x := ⟨_, List.getElem?_eq_getElem hlt⟩
      obtain ⟨b, o, hA, hbB, hc⟩ := RL.at_ (GL.step HS.out HB0.out) hx
      have HLD := Lib.hid (load_rule hc)
      subst hA
      have j1 : (0 : Int) ≤ (k : Int) := by omega
      have j2 : (k : Int) < (xs.length : Int) := by omega
      have HCL := Lib.hid (HP.out x (List.mem_of_getElem? hx) wr HB0.out)
      have HY := Lib.hid (@find_step p xs k x hx HREL.out)
      have HNN := Lib.hid (@find_no p xs k x hx HREL.out)
      have HX := Lib.hid hx
      obtain ⟨bp, hbp⟩ : ∃ z, p x = z := ⟨_, rfl⟩
      rw [hbp] at HCL HY HNN
      clear hx hc hbB hkg hbp
      cases bp with
      | true =>
        go_wp2_with first
          | (refine wpList_load_v (by rfl) 42 _ rfl ⟨b, o + k * 4, none⟩ (by go_simp) _ HLD.out ?_)
        refine HCL.out.mono ?_
        rintro e w1 ⟨rfl, hb⟩
        have HB1 := Lib.hid (stepB HB0.out hb)
        clear hb
        go_wp2
        go_ret
        exact ⟨_, rfl, .inr ⟨k, x, rfl, HX.out, HY.out (by simp)⟩, HB1.out⟩
      | false =>
        go_wp2_with first
          | (refine wpList_load_v (by rfl) 42 _ rfl ⟨b, o + k * 4, none⟩ (by go_simp) _ HLD.out ?_)
        refine HCL.out.mono ?_
        rintro e w1 ⟨rfl, hb⟩
        have HB1 := Lib.hid (stepB HB0.out hb)
        clear hb
        go_wp2
        go_roundg g
        case measure => omega
        case rel => exact ⟨k + 1, by have := HG.out; omega, by go_num, HNN.out (by simp), HB1.out⟩
theorem any_find {p : Rl → Bool} {xs : List Rl} {b : Bool} (h : (xs.find? p).isSome = b) : xs.any p = b := by rw [← h, Bool.eq_iff_iff, List.any_eq_true, List.find?_isSome]
set_option maxHeartbeats 1000000 in
theorem conR_any (A : Option Addr) (cc : Nat) (xs : List Rl) (a1 : Value) (p : Rl → Bool) (w : World) (h : RL w w.heap.size A xs) (hn : xs.length ≤ 140737488355328)
    (hp : ∀ x ∈ xs, ∀ w1, Below w.heap.size w w1 → Calls Tryd.prog 44 #[rlV x, a1] w1 fun e w' => e = .returned (.bool (p x)) ∧ Below w1.heap.size w1 w') :
    Calls Tryd.prog 43 #[.slice A xs.length cc, .func (.func 44) #[] #[a1]] w fun e w' => e = .returned (.bool (xs.any p)) ∧ Below w.heap.size w w' := by
  have HC := Lib.hid (idxRS_any A cc xs a1 p w h hn hp)
  obtain ⟨R, hR⟩ : ∃ R, xs.any p = R := ⟨_, rfl⟩
  have HR := Lib.hid hR
  rw [hR]
  clear h hR hp
  go_enter Tryd.func43, Tryd.ntmps43
  go_wp2_with fail
  refine HC.out.mono ?_
  rintro e w1 ⟨k, rfl, hk, hb⟩
  have HB := Lib.hid hb
  clear hb
  rcases hk with ⟨rfl, hk⟩ | ⟨j, x, rfl, hx, hk⟩
  · have HRF : Hid (R = false) := Lib.hid (by rw [← HR.out]; exact any_find (by rw [hk]; rfl))
    clear hk
    go_wp2
    go_ret
    exact ⟨by rw [HRF.out]; rfl, HB.out⟩
  · have HRF : Hid (R = true) := Lib.hid (by rw [← HR.out]; exact any_find (by rw [hk]; rfl))
    have e5 : decide ((0 : Int) ≤ (j : Int)) = true := decide_eq_true (by omega)
    clear hk hx
    go_wp2
    go_ret
    exact ⟨by rw [HRF.out]; rfl, HB.out⟩
end Go.Proofs.YtoakhkiiefiebaaDoor.S1
