/-
  What Common and Meets of the program answer. Condition: MaxLen holds a number.
-/
import Derived.Test.YtoakhkiiefiebaaDoorCommonF
namespace Go.Proofs.YtoakhkiiefiebaaDoor.S1
open Go.RowKit

def fillB (zs : List ByteArray) : List ByteArray := if zs = [] then [exB] else zs
def cmGate (a b : ByteArray) : Bool := T.filterL (dl a) && T.filterL (dl b) && !blB a b && !blB b a
def cmRes (a b : ByteArray) : Option ByteArray := if cmGate a b then (comB (lvB a) (lvB b)).map fun zs => jnB (fillB zs) else none
def cmRet (r : Option ByteArray) : Ending := .returned (.tuple #[.string (r.getD ⟨#[]⟩), .bool r.isSome])

theorem pick_size {x y : ByteArray} {M : Nat} (hx : x.size ≤ M) (hy : y.size ≤ M) (hM : 1 ≤ M) : (pick x y).size ≤ M := by
  unfold pick
  split
  · exact hx
  split
  · exact hy
  · exact hM
theorem plain_size {a : List ByteArray} {M : Nat} (h : ∀ x ∈ a, x.size ≤ M) (hM : 1 ≤ M) : ∀ z ∈ plainB a, z.size ≤ M := by
  intro z hz
  unfold plainB at hz
  obtain ⟨x, hx, rfl⟩ := List.mem_map.1 hz
  have hx' := (List.mem_filter.1 hx).1
  split
  · exact hM
  · exact h x hx'
theorem tail_size {a b zs : List ByteArray} {M : Nat} (ha : ∀ x ∈ a, x.size ≤ M) (hb : ∀ x ∈ b, x.size ≤ M) (hM : 1 ≤ M) (h : tailB a b = some zs) : (∀ z ∈ zs, z.size ≤ M) ∧ zs.length ≤ a.length + b.length := by
  unfold tailB at h
  split at h
  · cases h
  · cases h
    refine ⟨fun z hz => ?_, ?_⟩
    · rcases List.mem_append.1 hz with hz | hz
      · exact plain_size ha hM z hz
      · exact plain_size hb hM z hz
    · rw [List.length_append]
      have := plain_le a
      have := plain_le b
      omega
theorem com_size : ∀ (a b : List ByteArray) {zs : List ByteArray} {M : Nat}, (∀ x ∈ a, x.size ≤ M) → (∀ x ∈ b, x.size ≤ M) → 1 ≤ M → comB a b = some zs → (∀ z ∈ zs, z.size ≤ M) ∧ zs.length ≤ a.length + b.length
  | [], b, zs, M, ha, hb, hM, h => by
    rw [com_left] at h
    exact tail_size ha hb hM h
  | x :: a, [], zs, M, ha, hb, hM, h => by
    rw [com_right] at h
    exact tail_size ha hb hM h
  | x :: a, y :: b, zs, M, ha, hb, hM, h => by
    by_cases h1 : x = hashB ∨ y = hashB
    · rw [com_hash h1] at h
      exact tail_size ha hb hM h
    · by_cases h2 : x ≠ plusB ∧ y ≠ plusB ∧ x ≠ y
      · rw [com_none h1 h2] at h; cases h
      · rw [com_step h1 h2] at h
        cases hc : comB a b with
        | none => rw [hc] at h; cases h
        | some ws =>
          rw [hc] at h
          simp only [Option.map_some, Option.some.injEq] at h
          obtain ⟨g1, g2⟩ := com_size a b (fun z hz => ha z (by simp [hz])) (fun z hz => hb z (by simp [hz])) hM hc
          rw [← h]
          refine ⟨fun z hz => ?_, by simp; omega⟩
          rcases List.mem_cons.1 hz with rfl | hz
          · exact pick_size (ha x (by simp)) (hb y (by simp)) hM
          · exact g1 z hz

theorem gate_parts {a b : ByteArray} (h : cmGate a b = true) : T.filterL (dl a) = true ∧ T.filterL (dl b) = true ∧ blB a b = false ∧ blB b a = false := by
  unfold cmGate at h
  simp only [Bool.and_eq_true, Bool.not_eq_true'] at h
  exact ⟨h.1.1.1, h.1.1.2, h.1.2, h.2⟩

theorem com_lv_size {a b : ByteArray} {zs : List ByteArray} (h : cmGate a b = true) (hc : comB (lvB a) (lvB b) = some zs) : (∀ z ∈ zs, z.size ≤ 64) ∧ zs.length ≤ 16 := by
  obtain ⟨ha, hb, _, _⟩ := gate_parts h
  have h1 := filter_le ha
  have h2 := filter_le hb
  have h3 := lv_small ha
  have h4 := lv_small hb
  obtain ⟨g1, g2⟩ := com_size (lvB a) (lvB b) (fun x hx => Nat.le_trans (lvB_size_le a x hx) h1) (fun x hx => Nat.le_trans (lvB_size_le b x hx) h2) (by decide) hc
  exact ⟨g1, by omega⟩

set_option maxHeartbeats 4000000 in
theorem mCom_any (a b : ByteArray) (w : World) (hw : Okw w) :
    Calls Tryd.prog 61 #[.string a, .string b] w fun e w' => e = cmRet (cmRes a b) ∧ Below w.heap.size w w' := by
  have hq := Qk.refl hw
  have c1 := fun w hw => tFilter_any a w hw
  have c2 := fun w hw => tFilter_any b w hw
  cases hfa : T.filterL (dl a)
  · have HV : Hid (cmRes a b = none) := Lib.hid (by unfold cmRes cmGate; rw [hfa]; rfl)
    rw [hfa] at c1
    have C1 := Lib.hid c1
    clear c1 c2 hfa
    rw [HV.out]
    go_enter Tryd.func61, Tryd.ntmps61
    go_wp2_with fail
    refine (C1.out _ hq.ok).mono ?_
    rintro e w1 ⟨rfl, hb1⟩
    go_wp2_with fail
    go_ret2
    exact ⟨rfl, hb1⟩
  cases hfb : T.filterL (dl b)
  · have HV : Hid (cmRes a b = none) := Lib.hid (by unfold cmRes cmGate; rw [hfb]; simp)
    rw [hfa] at c1
    rw [hfb] at c2
    have C1 := Lib.hid c1
    have C2 := Lib.hid c2
    clear c1 c2 hfa hfb
    rw [HV.out]
    go_enter Tryd.func61, Tryd.ntmps61
    go_wp2_with fail
    refine (C1.out _ hq.ok).mono ?_
    rintro e w1 ⟨rfl, hb1⟩
    have hq1 := hq.step hb1
    go_wp2_with fail
    refine (C2.out _ hq1.ok).mono ?_
    rintro e w2 ⟨rfl, hb2⟩
    have hq2 := hq1.step hb2
    go_wp2_with fail
    go_ret2
    exact ⟨rfl, hq2.1⟩
  have c3 := fun w hw => blind_any a b w hw hfa
  have c4 := fun w hw => blind_any b a w hw hfb
  have e3 : (sysL (dl b) && hdW (lvB a)) = blB a b := rfl
  have e4 : (sysL (dl a) && hdW (lvB b)) = blB b a := rfl
  rw [e3] at c3
  rw [e4] at c4
  have ha8 := lv_small hfa
  have hb8 := lv_small hfb
  have hal := filter_le hfa
  have hbl := filter_le hfb
  have HFA := Lib.hid (filOk_of hfa)
  have HFB := Lib.hid (filOk_of hfb)
  have hpa := lvB_pos a
  have hpb := lvB_pos b
  rw [hfa] at c1
  rw [hfb] at c2
  have C1 := Lib.hid c1
  have C2 := Lib.hid c2
  cases hba : blB a b
  · cases hbb : blB b a
    · have hg : cmGate a b = true := by unfold cmGate; rw [hfa, hfb, hba, hbb]; rfl
      have hres : cmRes a b = (comB (lvB a) (lvB b)).map fun zs => jnB (fillB zs) := by unfold cmRes; rw [if_pos hg]
      have HZ : Hid (∀ zs, comB (lvB a) (lvB b) = some zs → (∀ z ∈ zs, z.size ≤ 64) ∧ zs.length ≤ 16) := Lib.hid (fun zs hz => com_lv_size hg hz)
      rw [hba] at c3
      rw [hbb] at c4
      have C3 := Lib.hid c3
      have C4 := Lib.hid c4
      have HRES := Lib.hid hres
      have cc := fun (b1 o1 b2 o2 c1 c2 : Nat) w h1 h2 h3 h4 => mCommon_any b1 o1 b2 o2 c1 c2 (lvB a) (lvB b) w h1 h2 HFA.out HFB.out h3 h4 (by omega) (by omega)
      generalize comB (lvB a) (lvB b) = r at cc HZ HRES
      have CC := Lib.hid cc
      clear c1 c2 c3 c4 hfa hfb hba hbb hg hres e3 e4 cc
      rw [HRES.out]
      go_enter Tryd.func61, Tryd.ntmps61
      go_wp2_with fail
      refine (C1.out _ hq.ok).mono ?_
      rintro e w1 ⟨rfl, hb1⟩
      have hq1 := hq.step hb1
      go_wp2_with fail
      refine (C2.out _ hq1.ok).mono ?_
      rintro e w2 ⟨rfl, hb2⟩
      have hq2 := hq1.step hb2
      go_wp2_with fail
      refine (C3.out _ hq2.ok).mono ?_
      rintro e w3 ⟨rfl, hb3⟩
      have hq3 := hq2.step hb3
      go_wp2_with fail
      refine (C4.out _ hq3.ok).mono ?_
      rintro e w4 ⟨rfl, hb4⟩
      have hq4 := hq3.step hb4
      go_wp2_with fail
      refine (tLevels_any a _ hq4.ok (by omega)).mono ?_
      rintro e w5 ⟨A5, c5, rfl, hc5, hsl5, hb5⟩
      have hq5 := hq4.step hb5
      go_wp2_with fail
      refine (tLevels_any b _ hq5.ok (by omega)).mono ?_
      rintro e w6 ⟨A6, c6, rfl, hc6, hsl6, hb6⟩
      have hq6 := hq5.step hb6
      have hsl5' := hsl5.step hb6
      obtain ⟨b1, o1, rfl, _⟩ := hsl5' hpa
      obtain ⟨b2, o2, rfl, _⟩ := hsl6 hpb
      clear hb1 hb2 hb3 hb4 hb5 hb6 hq hq1 hq2 hq3 hq4 hq5 hsl5
      go_wp2_with fail
      refine (CC.out b1 o1 b2 o2 c5 c6 _ hsl5' hsl6 hc5 hc6).mono ?_
      rintro e w7 hret
      cases r with
      | none =>
        obtain ⟨rfl, hb7⟩ := hret
        have hq7 := hq6.step hb7
        go_wp2_with fail
        go_ret2
        exact ⟨rfl, hq7.1⟩
      | some zs =>
        obtain ⟨A7, c7, rfl, hc7, hn7, hsl7, hb7, hown7⟩ := hret
        have hq7 := hq6.step hb7
        obtain ⟨hz1, hz2⟩ := HZ.out zs rfl
        have HZ1 := Lib.hid hz1
        clear HZ hz1 hsl6 hsl5' HRES
        by_cases hz0 : zs = []
        · subst hz0
          have hj : Hid (jnB (fillB []) = ⟨#[120]⟩) := Lib.hid (by unfold fillB; rw [if_pos rfl, jnB_one]; rfl)
          have hsz7 := hq7.1.size
          have hb67 := hb7
          have hsz67 := hb7.size
          have H6 := Lib.hid hq6
          clear hq6
          go_wp2_with (at_builtin; refine wpList_app1 _ rfl _ _ rfl w6.heap.size (.slice A7 0 c7) [] ⟨#[120]⟩ rfl hown7 rfl w6 hb67 hsz67 (by simp) ?_; intro v8 w8 hown8 hb8x hsz8)
          obtain ⟨A8, c8, rfl, hc8, hsl8⟩ := hown8.ret
          have hq8 := H6.out.step hb8x
          have cj := tJoin_any A8 c8 ([] ++ [⟨#[120]⟩]) w8 hsl8 hc8 (by decide) (by decide +kernel)
          have ej : jnB ([] ++ [⟨#[120]⟩]) = ⟨#[120]⟩ := jnB_one _
          rw [ej] at cj
          refine cj.mono ?_
          rintro e w9 ⟨rfl, hb9⟩
          have hq9 := hq8.step hb9
          go_wp2_with fail
          go_ret2
          exact ⟨by unfold cmRet; rw [Option.map_some, hj.out]; rfl, hq9.1⟩
        · have hzp : 0 < zs.length := List.length_pos_iff.2 hz0
          have hj : Hid (jnB (fillB zs) = jnB zs) := Lib.hid (by unfold fillB; rw [if_neg hz0])
          have hjs : (jnB zs).size ≤ 140737488355328 := by
            have h1 := jnB_size HZ1.out
            have h2 : zs.length * (64 + 1) ≤ 16 * 65 := Nat.mul_le_mul hz2 (Nat.le_refl _)
            omega
          have q0 : ((zs.length : Int) == 0) = false := beq_eq_false_iff_ne.2 (by omega)
          clear hz0
          go_wp2_with fail
          refine (tJoin_any A7 c7 zs w7 hsl7 hc7 (by omega) hjs).mono ?_
          rintro e w9 ⟨rfl, hb9⟩
          have hq9 := hq7.step hb9
          go_wp2_with fail
          go_ret2
          exact ⟨by unfold cmRet; rw [Option.map_some, hj.out]; rfl, hq9.1⟩
    · have HV : Hid (cmRes a b = none) := Lib.hid (by unfold cmRes cmGate; rw [hbb]; simp)
      rw [hba] at c3
      rw [hbb] at c4
      have C3 := Lib.hid c3
      have C4 := Lib.hid c4
      clear c1 c2 c3 c4 hfa hfb hba hbb e3 e4
      rw [HV.out]
      go_enter Tryd.func61, Tryd.ntmps61
      go_wp2_with fail
      refine (C1.out _ hq.ok).mono ?_
      rintro e w1 ⟨rfl, hb1⟩
      have hq1 := hq.step hb1
      go_wp2_with fail
      refine (C2.out _ hq1.ok).mono ?_
      rintro e w2 ⟨rfl, hb2⟩
      have hq2 := hq1.step hb2
      go_wp2_with fail
      refine (C3.out _ hq2.ok).mono ?_
      rintro e w3 ⟨rfl, hb3⟩
      have hq3 := hq2.step hb3
      go_wp2_with fail
      refine (C4.out _ hq3.ok).mono ?_
      rintro e w4 ⟨rfl, hb4⟩
      have hq4 := hq3.step hb4
      go_wp2_with fail
      go_ret2
      exact ⟨rfl, hq4.1⟩
  · have HV : Hid (cmRes a b = none) := Lib.hid (by unfold cmRes cmGate; rw [hba]; simp)
    rw [hba] at c3
    have C3 := Lib.hid c3
    clear c1 c2 c3 c4 hfa hfb hba e3 e4
    rw [HV.out]
    go_enter Tryd.func61, Tryd.ntmps61
    go_wp2_with fail
    refine (C1.out _ hq.ok).mono ?_
    rintro e w1 ⟨rfl, hb1⟩
    have hq1 := hq.step hb1
    go_wp2_with fail
    refine (C2.out _ hq1.ok).mono ?_
    rintro e w2 ⟨rfl, hb2⟩
    have hq2 := hq1.step hb2
    go_wp2_with fail
    refine (C3.out _ hq2.ok).mono ?_
    rintro e w3 ⟨rfl, hb3⟩
    have hq3 := hq2.step hb3
    go_wp2_with fail
    go_ret2
    exact ⟨rfl, hq3.1⟩

theorem mCom_x (a b : ByteArray) (w : World) (hw : Okw w) :
    Calls Tryd.prog 61 #[.string a, .string b] w fun e w' => e = .returned (.tuple #[.string ((cmRes a b).getD ⟨#[]⟩), .bool (cmRes a b).isSome]) ∧ Below w.heap.size w w' := mCom_any a b w hw

set_option maxHeartbeats 400000 in
theorem mMeets_any (a b : ByteArray) (w : World) (hw : Okw w) :
    Calls Tryd.prog 39 #[.string a, .string b] w fun e w' => e = .returned (.bool (cmRes a b).isSome) ∧ Below w.heap.size w w' := by
  have c := mCom_x a b w hw
  generalize (cmRes a b).getD ⟨#[]⟩ = s at c
  generalize (cmRes a b).isSome = v at c ⊢
  have C := Lib.hid c
  clear c hw
  go_enter Tryd.func39, Tryd.ntmps39
  go_wp2_with fail
  refine C.out.mono ?_
  rintro e w1 ⟨rfl, hb1⟩
  go_wp2_with fail
  go_ret
  exact ⟨rfl, hb1⟩

end Go.Proofs.YtoakhkiiefiebaaDoor.S1
