/-
  The six statements on topics answer true: the walks of their functions, from the contracts. Conditions: MaxLen holds a number; each text has at most 2^47 bytes; for the list statement the list reads as texts; for TopicLevels the text is shorter than 2^32.
-/
import Derived.Test.YtdoginjdlckbpaaDoorAwake1
namespace Go.Proofs.YtdoginjdlckbpaaDoor
open Go.RowKit

set_option maxHeartbeats 1000000 in
theorem topicNames_walk (s : ByteArray) (w : World) (hw : Okw w) (hs : s.size ≤ 140737488355328) :
    Calls Tryd.prog 3 #[.string s] w fun e w' => e = .returned (.bool true) ∧ Below w.heap.size w w' := by
  generalize hb : T.nameL (dl s) = b
  have h1 := fun w => tName_dl s w
  have h2 := fun w => rName_dl s w (by omega)
  rw [hb] at h1 h2
  have H1 := Lib.hid h1
  have H2 := Lib.hid h2
  clear h1 h2 hb
  cases b
  all_goals
    go_enter Tryd.func3, Tryd.ntmps3
    go_wp2_with fail
    refine (awake1_any _ hw).mono ?_
    rintro e w1 ⟨rfl, hb1⟩
    go_wp2_with fail
    refine (H1.out _).mono ?_
    rintro e w2 ⟨rfl, hb2⟩
    go_wp2_with fail
    refine (H2.out _).mono ?_
    rintro e w3 ⟨rfl, rfl⟩
    go_wp2_with fail
    go_ret
    exact ⟨rfl, Below.step hb1 hb2⟩

set_option maxHeartbeats 2000000 in
theorem topicValid_walk (s : ByteArray) (w : World) (hw : Okw w) (hs : s.size ≤ 140737488355328) :
    Calls Tryd.prog 4 #[.string s] w fun e w' => e = .returned (.bool true) ∧ Below w.heap.size w w' := by
  generalize hv : T.validL (dl s) = v
  generalize hf : T.filterL (dl s) = f
  generalize hy : sysL (dl s) = y
  have h1 := fun w hw => tValid_any s w hw
  have h2 := fun w => rValid_any s w (by omega)
  have h3 := fun w hw => tFilter_any s w hw
  have h4 := fun w => rFilter_any s w
  have h5 := fun w => tSystem_any s w
  have h6 := fun w => rSystem_any s w
  rw [hv] at h1 h2
  rw [hf] at h3 h4
  rw [hy] at h5 h6
  have H1 := Lib.hid h1
  have H2 := Lib.hid h2
  have H3 := Lib.hid h3
  have H4 := Lib.hid h4
  have H5 := Lib.hid h5
  have H6 := Lib.hid h6
  have HQ := Lib.hid (Qk.refl hw)
  clear h1 h2 h3 h4 h5 h6 hv hf hy
  cases v <;> cases f <;> cases y
  all_goals
    go_enter Tryd.func4, Tryd.ntmps4
    go_wp2_with fail
    refine (awake1_any _ hw).mono ?_
    rintro e w1 ⟨rfl, hb1⟩
    have hq1 := HQ.out.step hb1
    go_wp2_with fail
    refine (H1.out _ hq1.2).mono ?_
    rintro e w2 ⟨rfl, hb2⟩
    have hq2 := hq1.step hb2
    go_wp2_with fail
    refine (H2.out _).mono ?_
    rintro e w3 ⟨rfl, hb3⟩
    have hq3 := hq2.step hb3
    go_wp2_with fail
    refine (H3.out _ hq3.2).mono ?_
    rintro e w4 ⟨rfl, hb4⟩
    have hq4 := hq3.step hb4
    go_wp2_with fail
    refine (H4.out _).mono ?_
    rintro e w5 ⟨rfl, hb5⟩
    have hq5 := hq4.step hb5
    go_wp2_with fail
    refine (H5.out _).mono ?_
    rintro e w6 ⟨rfl, rfl⟩
    go_wp2_with fail
    refine (H6.out _).mono ?_
    rintro e w7 ⟨rfl, rfl⟩
    go_wp2_with fail
    go_ret
    exact ⟨rfl, hq5.1⟩

theorem plain_valid {s : ByteArray} (h43 : hasB (dl s) 43 = false) (h35 : hasB (dl s) 35 = false) : T.validL (dl s) = T.filterL (dl s) := by
  have : T.wildFree (dl s) = true := by
    rw [T.wildFree_eq]
    show (!hasB (dl s) 43 && !hasB (dl s) 35) = true
    rw [h43, h35]; rfl
  unfold T.validL
  rw [this, Bool.and_true]

set_option maxHeartbeats 2000000 in
theorem topicPlain_walk (s : ByteArray) (w : World) (hw : Okw w) (hs : s.size ≤ 140737488355328) :
    Calls Tryd.prog 8 #[.string s] w fun e w' => e = .returned (.bool true) ∧ Below w.heap.size w w' := by
  have HPV := Lib.hid (plain_valid (s := s))
  have HVF : Hid (T.validL (dl s) = true → T.filterL (dl s) = true) := Lib.hid (fun h => by unfold T.validL at h; exact (Bool.and_eq_true _ _ ▸ h).1)
  have h1 := fun w hw => tValid_any s w hw
  have h3 := fun w hw => tFilter_any s w hw
  have HQ := Lib.hid (Qk.refl hw)
  have h5 := fun w => has43_any s w (by omega)
  have h6 := fun w => has35_any s w (by omega)
  generalize T.validL (dl s) = v at *
  generalize T.filterL (dl s) = f at *
  generalize hasB (dl s) 43 = p at *
  generalize hasB (dl s) 35 = q at *
  have H1 := Lib.hid h1
  have H3 := Lib.hid h3
  have H5 := Lib.hid h5
  have H6 := Lib.hid h6
  clear h1 h3 h5 h6
  have hok : Hid (p = false → q = false → v = f) := HPV
  cases p <;> cases q <;> cases v <;> cases f
  all_goals try (exact absurd (HVF.out rfl) (by decide))
  all_goals try (exact absurd (hok.out rfl rfl) (by decide))
  all_goals
    go_enter Tryd.func8, Tryd.ntmps8
    go_wp2_with first
      | (go_at_call 29; (with_reducible refine (H5.out _).mono ?_); rintro e w' ⟨rfl, rfl⟩)
      | (go_at_call 29; (with_reducible refine (H6.out _).mono ?_); rintro e w' ⟨rfl, rfl⟩)
      | (go_at_call 15; refine (awake1_any _ hw).mono ?_; rintro e w1 ⟨rfl, hb1⟩; have hq := HQ.out.step hb1; clear hb1)
      | (go_at_call 18; refine (H1.out _ hq.2).mono ?_; rintro e w2 ⟨rfl, hb⟩; have hq := hq.step hb; clear hb)
      | (go_at_call 20; refine (H3.out _ hq.2).mono ?_; rintro e w2 ⟨rfl, hb⟩; have hq := hq.step hb; clear hb)
    go_ret
    exact ⟨rfl, hq.1⟩

end Go.Proofs.YtdoginjdlckbpaaDoor
