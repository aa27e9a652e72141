/-
  What Shadowed of access and of its specification answer. Conditions: the list reads as data; it has at most 1000000 rules, each filter at most 1000 bytes; the library's bound on short texts holds a number.
-/
import Derived.Test.YtoakhkiiefiebaaDoorAcI
import Derived.Test.YtoakhkiiefiebaaDoorAcJ
import Derived.Test.YtoakhkiiefiebaaDoorIdB
namespace Go.Proofs.YtoakhkiiefiebaaDoor.S1
open Go.RowKit
open S2 (BK Put get_ops exec_load)

/-- a list of numbers that a call answers -/
def RetI (L : List Int) (W : World) (e : Ending) (w' : World) : Prop := ∃ A c, e = .returned (.slice A L.length c) ∧ L.length ≤ c ∧ S2.IL w' w'.heap.size A L ∧ Below W.heap.size W w'
theorem shAt_at {P : Rl → Rl → Bool} {l : List Rl} {k : Nat} {x : Rl} (h : l[k]? = some x) : shAt P l k = (l.take k).any (fun a => P a x) := by
  unfold shAt
  rw [h]

set_option maxRecDepth 20000 in
set_option maxHeartbeats 4000000 in
theorem shadowed_any (A : Option Addr) (cc : Nat) (xs : List Rl) (w : World) (hw : Okw w) (h : RL w w.heap.size A xs) (hcc : xs.length ≤ cc) (hn : xs.length ≤ 1000000) (hf : ∀ x ∈ xs, x.fi.size ≤ 1000) :
    Calls Tryd.prog 22 #[.slice A xs.length cc] w (RetI (shdw shadR xs xs.length) w) := by
  have HO := Lib.hid hw
  have HS := Lib.hid h
  have HF := Lib.hid hf
  have HSH := Lib.hid (fun a b g T w1 h1 h2 ha hb => sh1_any a b g T w1 h1 h2 ha hb)
  clear hw h hf
  have hmf : ∀ (fn : Fn) (first cap : Array Value) (w : World), (Instr.makeFunc fn first cap).run Tryd.prog w = .ok (.func fn first cap) w := fun _ _ _ _ => rfl
  go_enter Tryd.func22, Tryd.ntmps22
  go_wp2
  go_loopg [3, 8] xs.length (fun g u v wr => ∃ k : Nat, k + g = xs.length ∧ v = .int .i64 k ∧ _root_.Go.Proofs.YtoakhkiiefiebaaDoor.Own 3 S2.iv wr w.heap.size u (shdw shadR xs k) ∧ Below w.heap.size w wr)
  case atStart => exact ⟨0, by omega, rfl, _root_.Go.Proofs.YtoakhkiiefiebaaDoor.Own.nil _ _, Below.refl _ _⟩
  case round =>
    obtain ⟨k, hkg, rfl, hown, hb0⟩ := hrel
    have HW := Lib.hid hown
    have HB0 := Lib.hid hb0
    have HG := Lib.hid hkg
    clear hown hb0
    cases gk with
    | zero =>
      obtain rfl : k = xs.length := by omega
      obtain ⟨A', c', rfl, hc', hsl⟩ := HW.out.ret
      have HR := Lib.hid (And.intro hc' hsl)
      clear hkg hc' hsl
      go_wp2
      go_ret
      exact ⟨A', c', rfl, HR.out.1, HR.out.2, HB0.out⟩
    | succ g =>
      have hlt : k < xs.length := by omega
      have e3 : decide ((k : Int) < (xs.length : Int)) = true := decide_eq_true (by omega)
      obtain ⟨x, hx⟩ : ∃ x, xs[k]? = some x := ⟨_, List.getElem?_eq_getElem hlt⟩
      have hslr := GL.step HS.out HB0.out
      obtain ⟨b, o, hA, hbB, hcl⟩ := RL.at_ hslr hx
      have HLD := Lib.hid (load_rule hcl)
      have S_wr := Lib.hid hslr
      subst hA
      have j1 : (0 : Int) ≤ (k : Int) := by omega
      have j2 : (k : Int) < (xs.length : Int) := by omega
      have j3 : (k : Int) ≤ (xs.length : Int) := by omega
      have j4 : (k : Int) ≤ (cc : Int) := by omega
      have j5 : decide ((k : Int) ≤ (cc : Int)) = true := decide_eq_true j4
      have htl : (xs.take k).length = k := by rw [List.length_take]; omega
      have HTL := Lib.hid htl
      have HSA := Lib.hid (@shAt_at shadR xs k x hx)
      have HX := Lib.hid (HF.out x (List.mem_of_getElem? hx))
      have HYE := Lib.hid (@shdw_yes shadR xs k)
      have HNO := Lib.hid (@shdw_no shadR xs k)
      obtain ⟨bs_, hbs⟩ : ∃ z, shAt shadR xs k = z := ⟨_, rfl⟩
      rw [hbs] at HSA HYE HNO
      have HLE : Hid ((shdw shadR xs k).length ≤ 1099511627776) := Lib.hid (by have := shdw_le shadR xs k; omega)
      have HORr := Lib.hid (HO.out.step HB0.out)
      clear hx hcl hbB hkg hslr hbs htl
      go_wp2_with first
        | (refine wpList_load_v (by rfl) 42 _ rfl ⟨b, o + k * 4, none⟩ (by go_simp) _ HLD.out ?_)
        | (refine S2.wpList_store_all (by rfl) 42 (.tmp 5) (.tmp 12) rfl rfl wr.heap.size rfl (gR x) rfl 42 _ (BK.new wr _ _) ruleSize rfl (gR_one _) ?_; intro w2 hM hP; have hb := hP.below (S2.below_new wr _) (Nat.le_refl _); have V_w2 := Lib.hid hM; have B_w2 := Lib.hid (stepB HB0.out hb); have O_w2 := Lib.hid (HORr.out.step hb); have S_w2 := Lib.hid (GL.step S_wr.out hb); have W_w2 := Lib.hid (_root_.Go.Proofs.YtoakhkiiefiebaaDoor.Own.step HW.out hb); clear hM hP hb HB0 HORr S_wr HW HLD)
      have HCN := conR_any (some ⟨b, o, none⟩) cc (xs.take k) (.pointer (some ⟨wr.heap.size, 0, none⟩)) (fun a => shadR a x) w2 (GL.take S_w2.out k) (by rw [HTL.out]; omega) (fun a ha w3 hb => HSH.out a x wr.heap.size 42 w3 (O_w2.out.step hb) (V_w2.out.step hb) (HF.out a (List.mem_of_mem_take ha)) HX.out)
      rw [HTL.out, ← HSA.out] at HCN
      have HCN2 := Lib.hid HCN
      clear HCN
      refine HCN2.out.mono ?_
      rintro e w3 ⟨rfl, hb⟩
      have B_w3 := Lib.hid (stepB B_w2.out hb)
      have W_w3 := Lib.hid (_root_.Go.Proofs.YtoakhkiiefiebaaDoor.Own.step W_w2.out hb)
      clear hb B_w2 W_w2 V_w2 O_w2 S_w2 HCN2
      cases bs_ with
      | false =>
        go_wp2_with fail
        go_roundg g
        case measure => omega
        case rel => exact ⟨k + 1, by have := HG.out; omega, by go_num, by rw [HNO.out (by simp)]; exact W_w3.out, B_w3.out⟩
      | true =>
        go_wp2_with first
          | (at_builtin; refine S2.wpList_appI1 w3 rfl _ _ rfl w.heap.size u3 _ (k : Int) rfl W_w3.out rfl w B_w3.out B_w3.out.size HLE.out ?_; intro v1 w4 hown1 hb1 hB1)
        go_roundg g
        case measure => omega
        case rel => exact ⟨k + 1, by have := HG.out; omega, by go_num, by rw [HYE.out (by simp)]; exact hown1, hb1⟩

/-- none of the first j rules hides rule k -/
def NoHid (l : List Rl) (x : Rl) (j : Nat) : Prop := (l.take j).any (fun a => hidR a x) = false
theorem NoHid.succ {l : List Rl} {x a : Rl} {j : Nat} (h : NoHid l x j) (ha : l[j]? = some a) (hh : hidR a x = false) : NoHid l x (j + 1) := by
  unfold NoHid at *
  rw [List.take_add_one, ha, List.any_append, h]
  simp [hh]
theorem NoHid.hit {l : List Rl} {x a : Rl} {j k : Nat} (hjk : j < k) (ha : l[j]? = some a) (hh : hidR a x = true) : (l.take k).any (fun a => hidR a x) = true := by
  rw [List.any_eq_true]
  refine ⟨a, ?_, hh⟩
  refine List.mem_of_getElem? (i := j) ?_
  rw [List.getElem?_take, if_pos hjk]; exact ha

set_option maxRecDepth 20000 in
set_option maxHeartbeats 8000000 in
theorem rshadowed_any (A : Option Addr) (cc : Nat) (xs : List Rl) (w : World) (h : RL w w.heap.size A xs) (hn : xs.length ≤ 1000000) (hf : ∀ x ∈ xs, x.fi.size ≤ 1000) :
    Calls Tryd.prog 23 #[.slice A xs.length cc] w (RetI (shdw hidR xs xs.length) w) := by
  have HS := Lib.hid h
  have HF := Lib.hid hf
  have HHI := Lib.hid (fun a b w1 ha hb => hides_any a b w1 ha hb)
  clear h hf
  go_enter Tryd.func23, Tryd.ntmps23
  go_wp2
  go_loopg [3, 4] xs.length (fun g u v wr => ∃ k : Nat, k + g = xs.length ∧ v = .int .i64 k ∧ _root_.Go.Proofs.YtoakhkiiefiebaaDoor.Own 3 S2.iv wr w.heap.size u (shdw hidR xs k) ∧ Below w.heap.size w wr)
  case atStart => exact ⟨0, by omega, rfl, _root_.Go.Proofs.YtoakhkiiefiebaaDoor.Own.nil _ _, Below.refl _ _⟩
  case round =>
    obtain ⟨k, hkg, rfl, hown, hb0⟩ := hrel
    rename World => wo
    have HW := Lib.hid hown
    have HB0 := Lib.hid hb0
    have HG := Lib.hid hkg
    clear hown hb0
    cases gk with
    | zero =>
      obtain rfl : k = xs.length := by omega
      obtain ⟨A', c', rfl, hc', hsl⟩ := HW.out.ret
      have HR := Lib.hid (And.intro hc' hsl)
      clear hkg hc' hsl
      go_wp2
      go_ret
      exact ⟨A', c', rfl, HR.out.1, HR.out.2, HB0.out⟩
    | succ g =>
      have hlt : k < xs.length := by omega
      have e3 : decide ((k : Int) < (xs.length : Int)) = true := decide_eq_true (by omega)
      obtain ⟨x, hx⟩ : ∃ x, xs[k]? = some x := ⟨_, List.getElem?_eq_getElem hlt⟩
      have hslr := GL.step HS.out HB0.out
      obtain ⟨b, o, hA, hbB, hcl⟩ := RL.at_ hslr hx
      have S_wr := Lib.hid hslr
      subst hA
      have j1 : (0 : Int) ≤ (k : Int) := by omega
      have j2 : (k : Int) < (xs.length : Int) := by omega
      have HXK := Lib.hid hx
      have HSA := Lib.hid (@shAt_at hidR xs k x hx)
      have HX := Lib.hid (HF.out x (List.mem_of_getElem? hx))
      have HYE := Lib.hid (@shdw_yes hidR xs k)
      have HNO := Lib.hid (@shdw_no hidR xs k)
      have HLE : Hid ((shdw hidR xs k).length ≤ 1099511627776) := Lib.hid (by have := shdw_le hidR xs k; omega)
      have HLT := Lib.hid hlt
      clear hx hcl hbB hkg hslr
      go_wp2_with fail
      go_loopg [5] k (fun g5 v5 w5 => ∃ j : Nat, j + g5 = k ∧ v5 = .int .i64 j ∧ NoHid xs x j ∧ Below wo.heap.size wo w5)
      case atStart => exact ⟨0, by omega, rfl, rfl, Below.refl _ _⟩
      case round =>
        obtain ⟨j, hjg, rfl, hno, hb5⟩ := hrel
        have HNH := Lib.hid hno
        have B5_wr := Lib.hid hb5
        have B_wr := Lib.hid (stepB HB0.out hb5)
        have W_wr := Lib.hid (_root_.Go.Proofs.YtoakhkiiefiebaaDoor.Own.step HW.out hb5)
        have S_wr := Lib.hid (GL.step S_wr.out hb5)
        have HJ := Lib.hid hjg
        clear hno hb5
        cases gk with
        | zero =>
          obtain rfl : j = k := by omega
          have HFF : Hid (shAt hidR xs j = false) := Lib.hid (by rw [HSA.out]; exact HNH.out)
          have e5 : decide ((j : Int) < (j : Int)) = false := decide_eq_false (by omega)
          clear hjg
          go_upto_region 6 with fail
          obtain ⟨x1, hx1⟩ : ∃ x1, x1 = World.drew wr := ⟨_, rfl⟩
          have hbD : Below wr.heap.size wr x1 := by rw [hx1]; exact (Below.refl _ _).drew
          have B_x1 : Hid (Below w.heap.size w x1) := Lib.hid (stepB B_wr.out hbD)
          have W_x1 : Hid (_root_.Go.Proofs.YtoakhkiiefiebaaDoor.Own 3 S2.iv x1 w.heap.size u3 (shdw hidR xs j)) := Lib.hid (_root_.Go.Proofs.YtoakhkiiefiebaaDoor.Own.step W_wr.out hbD)
          clear B_wr W_wr
          have hbd : (fun w' => Below w.heap.size w w') (World.drew wr) := by rw [← hx1]; exact B_x1.out
          have hSD : (fun w' => Below w.heap.size w w') x1 := B_x1.out
          have HWD := Lib.hid hx1
          clear hx1 hbD
          refine wp_region_held_drew (S := fun w' => Below w.heap.size w w') (by kernel_rfl) hbd (fun hHeld => ?_)
          rw [← HWD.out]
          clear hHeld
          have hHeld := hSD
          clear hSD hbd HWD
          refine wpAnyH_take (i := 0) (v := .int .i64 j) (get_ops _ _ _ rfl) (by kernel_rfl) (by kernel_rfl) (by kernel_rfl) (fun _ _ _ h => h) (Or.inl ⟨by rfl, fun wS hSw => by (try dsimp only at hSw); go_simp⟩) hHeld ?_
          try simp only [Act.put, List.setIfInBounds_toArray, List.set_cons_zero, List.set_cons_succ]
          refine wpAnyH_take (i := 1) (v := .int .i64 j) (get_ops _ _ _ rfl) (by kernel_rfl) (by kernel_rfl) (by kernel_rfl) (fun _ _ _ h => h) (Or.inl ⟨by rfl, fun wS hSw => by (try dsimp only at hSw); go_simp⟩) hHeld ?_
          try simp only [Act.put, List.setIfInBounds_toArray, List.set_cons_zero, List.set_cons_succ]
          refine wpAnyH_take (i := 2) (v := .bool false) (get_ops _ _ _ rfl) (by kernel_rfl) (by kernel_rfl) (by kernel_rfl) (fun _ _ _ h => h) (Or.inl ⟨by rfl, fun wS hSw => by (try dsimp only at hSw); go_simp⟩) hHeld ?_
          try simp only [Act.put, List.setIfInBounds_toArray, List.set_cons_zero, List.set_cons_succ]
          refine wpAnyH_take (i := 3) (v := .bool false) (get_ops _ _ _ rfl) (by kernel_rfl) (by kernel_rfl) (by kernel_rfl) (fun _ _ _ h => h) (Or.inl ⟨by rfl, fun wS hSw => by (try dsimp only at hSw); go_simp⟩) hHeld ?_
          try simp only [Act.put, List.setIfInBounds_toArray, List.set_cons_zero, List.set_cons_succ]
          refine wpAnyH_take (i := 4) (v := undef) (get_ops _ _ _ rfl) (by kernel_rfl) (by kernel_rfl) (by kernel_rfl) (fun _ _ _ h => h) (Or.inr ⟨by rfl, rfl⟩) hHeld ?_
          try simp only [Act.put, List.setIfInBounds_toArray, List.set_cons_zero, List.set_cons_succ]
          refine wpAnyH_take (i := 5) (v := undef) (get_ops _ _ _ rfl) (by kernel_rfl) (by kernel_rfl) (by kernel_rfl) (fun _ _ _ h => h) (Or.inr ⟨by rfl, rfl⟩) hHeld ?_
          try simp only [Act.put, List.setIfInBounds_toArray, List.set_cons_zero, List.set_cons_succ]
          refine wpAnyH_take (i := 6) (v := undef) (get_ops _ _ _ rfl) (by kernel_rfl) (by kernel_rfl) (by kernel_rfl) (fun _ _ _ h => h) (Or.inr ⟨by rfl, rfl⟩) hHeld ?_
          try simp only [Act.put, List.setIfInBounds_toArray, List.set_cons_zero, List.set_cons_succ]
          refine wpAnyH_take (i := 7) (v := undef) (get_ops _ _ _ rfl) (by kernel_rfl) (by kernel_rfl) (by kernel_rfl) (fun _ _ _ h => h) (Or.inr ⟨by rfl, rfl⟩) hHeld ?_
          try simp only [Act.put, List.setIfInBounds_toArray, List.set_cons_zero, List.set_cons_succ]
          refine wpAnyH_take (i := 8) (v := undef) (get_ops _ _ _ rfl) (by kernel_rfl) (by kernel_rfl) (by kernel_rfl) (fun _ _ _ h => h) (Or.inr ⟨by rfl, rfl⟩) hHeld ?_
          try simp only [Act.put, List.setIfInBounds_toArray, List.set_cons_zero, List.set_cons_succ]
          refine wpAnyH_take (i := 9) (v := undef) (get_ops _ _ _ rfl) (by kernel_rfl) (by kernel_rfl) (by kernel_rfl) (fun _ _ _ h => h) (Or.inr ⟨by rfl, rfl⟩) hHeld ?_
          try simp only [Act.put, List.setIfInBounds_toArray, List.set_cons_zero, List.set_cons_succ]
          refine wpAnyH_take (i := 10) (v := undef) (get_ops _ _ _ rfl) (by kernel_rfl) (by kernel_rfl) (by kernel_rfl) (fun _ _ _ h => h) (Or.inr ⟨by rfl, rfl⟩) hHeld ?_
          try simp only [Act.put, List.setIfInBounds_toArray, List.set_cons_zero, List.set_cons_succ]
          refine wpAnyH_take (i := 11) (v := undef) (get_ops _ _ _ rfl) (by kernel_rfl) (by kernel_rfl) (by kernel_rfl) (fun _ _ _ h => h) (Or.inr ⟨by rfl, rfl⟩) hHeld ?_
          try simp only [Act.put, List.setIfInBounds_toArray, List.set_cons_zero, List.set_cons_succ]
          refine wpAnyH_take (i := 12) (v := undef) (get_ops _ _ _ rfl) (by kernel_rfl) (by kernel_rfl) (by kernel_rfl) (fun _ _ _ h => h) (Or.inr ⟨by rfl, rfl⟩) hHeld ?_
          try simp only [Act.put, List.setIfInBounds_toArray, List.set_cons_zero, List.set_cons_succ]
          refine wpAnyH_take (i := 13) (v := undef) (get_ops _ _ _ rfl) (by kernel_rfl) (by kernel_rfl) (by kernel_rfl) (fun _ _ _ h => h) (Or.inr ⟨by rfl, rfl⟩) hHeld ?_
          try simp only [Act.put, List.setIfInBounds_toArray, List.set_cons_zero, List.set_cons_succ]
          refine wpAnyH_take (i := 14) (v := .bool false) (get_ops _ _ _ rfl) (by kernel_rfl) (by kernel_rfl) (by kernel_rfl) (fun _ _ _ h => h) (Or.inl ⟨by rfl, fun wS hSw => by (try dsimp only at hSw); go_simp⟩) hHeld ?_
          try simp only [Act.put, List.setIfInBounds_toArray, List.set_cons_zero, List.set_cons_succ]
          refine wpAnyH_done (by kernel_rfl) ?_ _
          go_wp2_with fail
          go_roundg g
          case measure => omega
          case rel => exact ⟨j + 1, by have := HG.out; omega, by go_num, by rw [HNO.out HFF.out]; exact W_x1.out, B_x1.out⟩
        | succ g5 =>
          have hjk : j < k := by omega
          have e5 : decide ((j : Int) < (k : Int)) = true := decide_eq_true (by omega)
          have e5' : decide (j < k) = true := decide_eq_true hjk
          obtain ⟨a, ha⟩ : ∃ a, xs[j]? = some a := ⟨_, List.getElem?_eq_getElem (by omega)⟩
          obtain ⟨b1, o1, hA1, hbB1, hc1⟩ := RL.at_ S_wr.out HXK.out
          obtain ⟨b2, o2, hA2, hbB2, hc2⟩ := RL.at_ S_wr.out ha
          simp only [Option.some.injEq, Addr.mk.injEq, and_true] at hA1 hA2
          obtain ⟨rfl, rfl⟩ := hA1
          obtain ⟨rfl, rfl⟩ := hA2
          have C_wr : Hid (b < wr.heap.size ∧ (∀ i v, (gR x)[i]? = some v → wr.cell? ⟨b, o + k * 4 + i, none⟩ = some v) ∧ ∀ i v, (gR a)[i]? = some v → wr.cell? ⟨b, o + j * 4 + i, none⟩ = some v) := Lib.hid ⟨hbB1, hc1, hc2⟩
          have i1 : (0 : Int) ≤ (j : Int) := by omega
          have i2 : (j : Int) < (xs.length : Int) := by omega
          have HHA := Lib.hid (fun w1 => HHI.out a x w1 (HF.out a (List.mem_of_getElem? ha)) HX.out)
          have HSU := Lib.hid (@NoHid.succ xs x a j HNH.out ha)
          have HHT := Lib.hid (@NoHid.hit xs x a j k hjk ha)
          obtain ⟨bh, hbh⟩ : ∃ z, hidR a x = z := ⟨_, rfl⟩
          rw [hbh] at HHA HSU HHT
          unfold rlV at HHA
          clear ha hbB1 hbB2 hc1 hc2 hbh hjg hjk
          go_upto_region 6 with fail
          obtain ⟨y1, hy1⟩ : ∃ y1, y1 = World.drew wr := ⟨_, rfl⟩
          have hbD : Below wr.heap.size wr y1 := by rw [hy1]; exact (Below.refl _ _).drew
          have B_y1 : Hid (Below w.heap.size w y1) := Lib.hid (stepB B_wr.out hbD)
          have W_y1 : Hid (_root_.Go.Proofs.YtoakhkiiefiebaaDoor.Own 3 S2.iv y1 w.heap.size u3 (shdw hidR xs k)) := Lib.hid (_root_.Go.Proofs.YtoakhkiiefiebaaDoor.Own.step W_wr.out hbD)
          have B5_y1 : Hid (Below wo.heap.size wo y1) := Lib.hid (stepB B5_wr.out hbD)
          have C_y1 : Hid ((b < y1.heap.size ∧ (∀ i v, (gR x)[i]? = some v → y1.cell? ⟨b, o + k * 4 + i, none⟩ = some v) ∧ ∀ i v, (gR a)[i]? = some v → y1.cell? ⟨b, o + j * 4 + i, none⟩ = some v)) := Lib.hid (⟨Nat.lt_of_lt_of_le C_wr.out.1 hbD.size, fun i v hv => (hbD.cell (p := ⟨b, o + k * 4 + i, none⟩) C_wr.out.1).trans (C_wr.out.2.1 i v hv), fun i v hv => (hbD.cell (p := ⟨b, o + j * 4 + i, none⟩) C_wr.out.1).trans (C_wr.out.2.2 i v hv)⟩)
          clear B_wr W_wr B5_wr C_wr
          have hbd : (fun w' => (b < w'.heap.size ∧ (∀ i v, (gR x)[i]? = some v → w'.cell? ⟨b, o + k * 4 + i, none⟩ = some v) ∧ ∀ i v, (gR a)[i]? = some v → w'.cell? ⟨b, o + j * 4 + i, none⟩ = some v)) (World.drew wr) := by rw [← hy1]; exact C_y1.out
          have hSD : (fun w' => (b < w'.heap.size ∧ (∀ i v, (gR x)[i]? = some v → w'.cell? ⟨b, o + k * 4 + i, none⟩ = some v) ∧ ∀ i v, (gR a)[i]? = some v → w'.cell? ⟨b, o + j * 4 + i, none⟩ = some v)) y1 := C_y1.out
          have HWD := Lib.hid hy1
          clear hy1 hbD
          refine wp_region_held_drew (S := fun w' => (b < w'.heap.size ∧ (∀ i v, (gR x)[i]? = some v → w'.cell? ⟨b, o + k * 4 + i, none⟩ = some v) ∧ ∀ i v, (gR a)[i]? = some v → w'.cell? ⟨b, o + j * 4 + i, none⟩ = some v)) (by kernel_rfl) hbd (fun hHeld => ?_)
          rw [← HWD.out]
          clear hHeld
          have hHeld := hSD
          clear hSD hbd HWD
          refine wpAnyH_take (i := 0) (v := .int .i64 j) (get_ops _ _ _ rfl) (by kernel_rfl) (by kernel_rfl) (by kernel_rfl) (fun _ _ _ h => h) (Or.inl ⟨by rfl, fun wS hSw => by (try dsimp only at hSw); go_simp⟩) hHeld ?_
          try simp only [Act.put, List.setIfInBounds_toArray, List.set_cons_zero, List.set_cons_succ]
          refine wpAnyH_take (i := 1) (v := .int .i64 k) (get_ops _ _ _ rfl) (by kernel_rfl) (by kernel_rfl) (by kernel_rfl) (fun _ _ _ h => h) (Or.inl ⟨by rfl, fun wS hSw => by (try dsimp only at hSw); go_simp⟩) hHeld ?_
          try simp only [Act.put, List.setIfInBounds_toArray, List.set_cons_zero, List.set_cons_succ]
          refine wpAnyH_take (i := 2) (v := .bool true) (get_ops _ _ _ rfl) (by kernel_rfl) (by kernel_rfl) (by kernel_rfl) (fun _ _ _ h => h) (Or.inl ⟨by rfl, fun wS hSw => by (try dsimp only at hSw); go_simp⟩) hHeld ?_
          try simp only [Act.put, List.setIfInBounds_toArray, List.set_cons_zero, List.set_cons_succ]
          refine wpAnyH_take (i := 3) (v := .bool true) (get_ops _ _ _ rfl) (by kernel_rfl) (by kernel_rfl) (by kernel_rfl) (fun _ _ _ h => h) (Or.inl ⟨by rfl, fun wS hSw => by (try dsimp only at hSw); go_simp⟩) hHeld ?_
          try simp only [Act.put, List.setIfInBounds_toArray, List.set_cons_zero, List.set_cons_succ]
          refine wpAnyH_take (i := 4) (v := .slice (some ⟨b, o, none⟩) xs.length cc) (get_ops _ _ _ rfl) (by kernel_rfl) (by kernel_rfl) (by kernel_rfl) (fun _ _ _ h => h) (Or.inl ⟨by rfl, fun wS hSw => by (try dsimp only at hSw); go_simp⟩) hHeld ?_
          try simp only [Act.put, List.setIfInBounds_toArray, List.set_cons_zero, List.set_cons_succ]
          refine wpAnyH_take (i := 5) (v := .int .i64 j) (get_ops _ _ _ rfl) (by kernel_rfl) (by kernel_rfl) (by kernel_rfl) (fun _ _ _ h => h) (Or.inl ⟨by rfl, fun wS hSw => by (try dsimp only at hSw); go_simp⟩) hHeld ?_
          try simp only [Act.put, List.setIfInBounds_toArray, List.set_cons_zero, List.set_cons_succ]
          refine wpAnyH_take (i := 6) (v := .pointer (some ⟨b, o + j * 4, none⟩)) (get_ops _ _ _ rfl) (by kernel_rfl) (by kernel_rfl) (by kernel_rfl) (fun _ _ _ h => h) (Or.inl ⟨by rfl, fun wS hSw => by (try dsimp only at hSw); go_simp⟩) hHeld ?_
          try simp only [Act.put, List.setIfInBounds_toArray, List.set_cons_zero, List.set_cons_succ]
          refine wpAnyH_take (i := 7) (v := (.agg (gR a).toArray)) (get_ops _ _ _ rfl) (by kernel_rfl) (by kernel_rfl) (by kernel_rfl) (fun _ _ _ h => h) (Or.inl ⟨by rfl, fun wS hSw => by (try dsimp only at hSw); exact exec_load 42 _ rfl ⟨b, o + j * 4, none⟩ (by go_simp) _ (load_rule hSw.2.2)⟩) hHeld ?_
          try simp only [Act.put, List.setIfInBounds_toArray, List.set_cons_zero, List.set_cons_succ]
          refine wpAnyH_take (i := 8) (v := .slice (some ⟨b, o, none⟩) xs.length cc) (get_ops _ _ _ rfl) (by kernel_rfl) (by kernel_rfl) (by kernel_rfl) (fun _ _ _ h => h) (Or.inl ⟨by rfl, fun wS hSw => by (try dsimp only at hSw); go_simp⟩) hHeld ?_
          try simp only [Act.put, List.setIfInBounds_toArray, List.set_cons_zero, List.set_cons_succ]
          refine wpAnyH_take (i := 9) (v := .int .i64 k) (get_ops _ _ _ rfl) (by kernel_rfl) (by kernel_rfl) (by kernel_rfl) (fun _ _ _ h => h) (Or.inl ⟨by rfl, fun wS hSw => by (try dsimp only at hSw); go_simp⟩) hHeld ?_
          try simp only [Act.put, List.setIfInBounds_toArray, List.set_cons_zero, List.set_cons_succ]
          refine wpAnyH_take (i := 10) (v := .pointer (some ⟨b, o + k * 4, none⟩)) (get_ops _ _ _ rfl) (by kernel_rfl) (by kernel_rfl) (by kernel_rfl) (fun _ _ _ h => h) (Or.inl ⟨by rfl, fun wS hSw => by (try dsimp only at hSw); go_simp⟩) hHeld ?_
          try simp only [Act.put, List.setIfInBounds_toArray, List.set_cons_zero, List.set_cons_succ]
          refine wpAnyH_take (i := 11) (v := (.agg (gR x).toArray)) (get_ops _ _ _ rfl) (by kernel_rfl) (by kernel_rfl) (by kernel_rfl) (fun _ _ _ h => h) (Or.inl ⟨by rfl, fun wS hSw => by (try dsimp only at hSw); exact exec_load 42 _ rfl ⟨b, o + k * 4, none⟩ (by go_simp) _ (load_rule hSw.2.1)⟩) hHeld ?_
          try simp only [Act.put, List.setIfInBounds_toArray, List.set_cons_zero, List.set_cons_succ]
          refine wpAnyH_ready (rs := [12]) (by kernel_rfl) (by simp) ?_
          refine (AllReadyH.cons (get_ops _ _ _ rfl) (fun K hK => ?_) AllReadyH.nil)
          go_simp
          refine (HHA.out y1).mono ?_
          rintro e y2 ⟨rfl, hb⟩
          have B_y2 : Hid (Below w.heap.size w y2) := Lib.hid (stepB B_y1.out hb)
          have W_y2 : Hid (_root_.Go.Proofs.YtoakhkiiefiebaaDoor.Own 3 S2.iv y2 w.heap.size u3 (shdw hidR xs k)) := Lib.hid (_root_.Go.Proofs.YtoakhkiiefiebaaDoor.Own.step W_y1.out hb)
          have B5_y2 : Hid (Below wo.heap.size wo y2) := Lib.hid (stepB B5_y1.out hb)
          have C_y2 : Hid ((b < y2.heap.size ∧ (∀ i v, (gR x)[i]? = some v → y2.cell? ⟨b, o + k * 4 + i, none⟩ = some v) ∧ ∀ i v, (gR a)[i]? = some v → y2.cell? ⟨b, o + j * 4 + i, none⟩ = some v)) := Lib.hid (⟨Nat.lt_of_lt_of_le C_y1.out.1 hb.size, fun i v hv => (hb.cell (p := ⟨b, o + k * 4 + i, none⟩) C_y1.out.1).trans (C_y1.out.2.1 i v hv), fun i v hv => (hb.cell (p := ⟨b, o + j * 4 + i, none⟩) C_y1.out.1).trans (C_y1.out.2.2 i v hv)⟩)
          clear B_y1 W_y1 B5_y1 C_y1
          clear hHeld hb
          go_wp2_with fail
          refine hK.out _ _ C_y2.out (fun hHeld => ?_)
          clear hK K
          try simp only [Act.put, List.setIfInBounds_toArray, List.set_cons_zero, List.set_cons_succ]
          refine wpAnyH_take (i := 13) (v := .bool (!bh)) (get_ops _ _ _ rfl) (by kernel_rfl) (by kernel_rfl) (by kernel_rfl) (fun _ _ _ h => h) (Or.inl ⟨by rfl, fun wS hSw => by (try dsimp only at hSw); go_simp⟩) hHeld ?_
          try simp only [Act.put, List.setIfInBounds_toArray, List.set_cons_zero, List.set_cons_succ]
          refine wpAnyH_take (i := 14) (v := .bool (!bh)) (get_ops _ _ _ rfl) (by kernel_rfl) (by kernel_rfl) (by kernel_rfl) (fun _ _ _ h => h) (Or.inl ⟨by rfl, fun wS hSw => by (try dsimp only at hSw); go_simp⟩) hHeld ?_
          try simp only [Act.put, List.setIfInBounds_toArray, List.set_cons_zero, List.set_cons_succ]
          refine wpAnyH_done (by kernel_rfl) ?_ _
          cases bh with
          | false =>
            go_wp2_with fail
            go_roundg g5
            case measure => omega
            case rel => exact ⟨j + 1, by have := HJ.out; omega, by go_num, HSU.out (by simp), B5_y2.out⟩
          | true =>
            have HFT : Hid (shAt hidR xs k = true) := Lib.hid (by rw [HSA.out]; exact HHT.out (by simp))
            go_wp2_with first
              | (at_builtin; refine S2.wpList_appI1 y2 rfl _ _ rfl w.heap.size u3 _ (k : Int) rfl W_y2.out rfl w B_y2.out B_y2.out.size HLE.out ?_; intro v1 wz hown1 hb1 hB1)
            go_roundg g
            case measure => omega
            case rel => exact ⟨k + 1, by have := HG.out; omega, by go_num, by rw [HYE.out HFT.out]; exact hown1, hb1⟩
end Go.Proofs.YtoakhkiiefiebaaDoor.S1
