/-
  TopicShared, TopicJoins and TopicLevels answer true: the walks of their functions, from the contracts. Conditions: MaxLen holds a number; each text has at most 2^47 bytes; the list reads as texts; for TopicLevels the text has at most 2^20 bytes.
-/
import Derived.Test.YtdoginjdlckbpaaDoorAwake1
namespace Go.Proofs.YtdoginjdlckbpaaDoor
open Go.RowKit

/-! ### TopicLevels -/
set_option maxHeartbeats 1000000 in
theorem topicLevels_walk (s : ByteArray) (w : World) (hw : Okw w) (_hs : s.size ≤ 140737488355328) (hu : s.size ≤ 1048576) :
    Calls Tryd.prog 5 #[.string s] w fun e w' => e = .returned (.bool true) ∧ Below w.heap.size w w' := by
  have hlen : (lvB s).length ≤ 1048577 := by
    have h1 := countB_lv s
    have h2 := Lib.countB_le ⟨#[47]⟩ (by decide) s.size s (Nat.le_refl _)
    omega
  have hjn : jnB (lvB s) = s := by
    unfold jnB
    rw [lvB_dl, T.jn_lv, bs_dl]
  have hsame : sameB (lvB s) (lvB s) = true := decide_eq_true rfl
  have hq0 := Qk.refl hw
  have HJ := Lib.hid hjn
  have HS := Lib.hid hsame
  clear hjn hsame
  go_enter Tryd.func5, Tryd.ntmps5
  go_wp2_with fail
  refine (tLevels_any s _ hw (by omega)).mono ?_
  rintro e w1 ⟨A, c, rfl, hc, hsl, hb1⟩
  have hq1 := hq0.step hb1
  go_wp2_with fail
  refine (awake1_any _ hq1.2).mono ?_
  rintro e w2 ⟨rfl, hb2⟩
  have hq2 := hq1.step hb2
  have hsl2 := hsl.step hb2
  go_wp2_with fail
  refine (rLevels_any s _ (by omega)).mono ?_
  rintro e w3 ⟨A', c', rfl, hc', hsl', hb3⟩
  have hq3 := hq2.step hb3
  have hsl3 := hsl2.step hb3
  go_wp2_with fail
  have cs := same_any A A' c c' (lvB s) (lvB s) w3 _ hsl3 hsl' (by omega) (by omega)
  rw [HS.out] at cs
  refine cs.mono ?_
  rintro e w4 ⟨rfl, n, rfl⟩
  have hq4 := hq3.drewN n
  have hsl4 := hsl3.step (below_draw w3 n)
  clear cs
  go_wp2_with fail
  have cj := tJoin_any A c (lvB s) (w3.drewN n) hsl4 hc (by omega) (by rw [HJ.out]; omega)
  rw [HJ.out] at cj
  refine cj.mono ?_
  rintro e w5 ⟨rfl, hb5⟩
  have hq5 := hq4.step hb5
  clear cj
  go_wp2_with fail
  go_ret
  exact ⟨by simp, hq5.1⟩

/-! ### TopicShared -/
theorem tShared_x (s : ByteArray) (w : World) (hw : Okw w) (hs63 : s.size ≤ 140737488355328) :
    Calls Tryd.prog 31 #[.string s] w fun e w' => e = .returned (.tuple #[.string (bs (shG (dl s))), .string (bs (shF (dl s))), .bool (shOk (dl s))]) ∧ Below w.heap.size w w' := tShared_any s w hw hs63
theorem rShared_x (s : ByteArray) (w : World) (hs63 : s.size ≤ 140737488355328) :
    Calls Tryd.prog 32 #[.string s] w fun e w' => e = .returned (.tuple #[.string (bs (shG (dl s))), .string (bs (shF (dl s))), .bool (shOk (dl s))]) ∧ Below w.heap.size w w' := rShared_any s w hs63

theorem no47_name {g : List UInt8} (h : T.nameL g = true) : ∀ c ∈ g, c ≠ 47 := by
  intro c hc e
  subst e
  obtain ⟨i, hi, e⟩ := T.mem_getD 0 hc
  unfold T.nameL at h
  simp only [Bool.and_eq_true, List.all_eq_true] at h
  have := h.2 i (List.mem_range.2 hi)
  rw [e] at this
  exact absurd (T.nokAt_nok this) (by decide)
theorem bef_app {g f : List UInt8} (h : ∀ c ∈ g, c ≠ 47) : bef (g ++ 47 :: f) = g ∧ aft (g ++ 47 :: f) = f := by
  have h1 : bef (g ++ 47 :: f) = g := by
    unfold bef
    rw [List.takeWhile_append_of_pos (fun c hc => decide_eq_true (h c hc))]
    simp
  refine ⟨h1, ?_⟩
  unfold aft
  rw [h1, List.drop_append]
  simp
theorem sh_build {g f : List UInt8} (hg : T.nameL g = true) (hf : T.filterL f = true) (hp : Lib.hasPrefix f shp = false) :
    shOk (shp ++ (g ++ 47 :: f)) = true ∧ shG (shp ++ (g ++ 47 :: f)) = g ∧ shF (shp ++ (g ++ 47 :: f)) = f := by
  have hr : rst (shp ++ (g ++ 47 :: f)) = g ++ 47 :: f := rfl
  obtain ⟨h1, h2⟩ := bef_app (f := f) (no47_name hg)
  have hok : shOk (shp ++ (g ++ 47 :: f)) = true := by
    unfold shOk
    rw [hr, h1, h2, hg, hf, hp]
    have : Lib.hasPrefix (shp ++ (g ++ 47 :: f)) shp = true := by
      unfold Lib.hasPrefix
      rw [List.isPrefixOf_iff_prefix]
      exact List.prefix_append _ _
    rw [this]; rfl
  refine ⟨hok, ?_, ?_⟩
  · unfold shG; rw [if_pos hok, hr, h1]
  · unfold shF; rw [if_pos hok, hr, h2]
theorem sh_conv {l : List UInt8} (h : shOk l = true) : (T.nameL (shG l) && T.filterL (shF l) && !Lib.hasPrefix (shF l) shp) = true := by
  unfold shG shF
  rw [if_pos h, if_pos h]
  unfold shOk at h
  simp only [Bool.and_eq_true] at h ⊢
  exact ⟨⟨h.1.1.2, h.1.2⟩, h.2⟩

theorem join_dl (g f : ByteArray) : dl ((⟨#[36, 115, 104, 97, 114, 101, 47]⟩ ++ g) ++ ⟨#[47]⟩ ++ f) = shp ++ (dl g ++ 47 :: dl f) := by
  unfold dl shp
  simp
theorem join_size (g f : ByteArray) : ((⟨#[36, 115, 104, 97, 114, 101, 47]⟩ ++ g) ++ ⟨#[47]⟩ ++ f : ByteArray).size = g.size + f.size + 8 := by
  rw [size_dl, join_dl, size_dl g, size_dl f]
  simp [shp]
  omega
theorem neq_str {a b : ByteArray} (h : a ≠ b) : (!a.toList == b.toList) = true := by
  rw [Bool.not_eq_true']
  rw [Bool.eq_false_iff]
  intro e
  exact h (str_eq.1 e)

set_option maxHeartbeats 4000000 in
theorem topicShared_walk (s group filter : ByteArray) (w : World) (hw : Okw w) (hs : s.size ≤ 140737488355328) (hg : group.size ≤ 140737488355328) (hf : filter.size ≤ 140737488355328) :
    Calls Tryd.prog 7 #[.string s, .string group, .string filter] w fun e w' => e = .returned (.bool true) ∧ Below w.heap.size w w' := by
  have c1 := fun w hw => tShared_x s w hw hs
  have c2 := fun w => rShared_x s w hs
  generalize bs (shG (dl s)) = G at c1 c2
  generalize bs (shF (dl s)) = F at c1 c2
  generalize shOk (dl s) = O at c1 c2
  have C1 := Lib.hid c1
  have C2 := Lib.hid c2
  clear c1 c2
  have hq0 := Qk.refl hw
  by_cases hbig : 4096 < group.size ∨ 4096 < filter.size
  · cases O
    all_goals
      by_cases h1 : 4096 < group.size
      · have d1 : decide ((4096 : Int) < (group.size : Int)) = true := decide_eq_true (by omega)
        go_enter Tryd.func7, Tryd.ntmps7
        go_wp2_with fail
        refine (C1.out _ hw).mono ?_
        rintro e w1 ⟨rfl, hb1⟩
        have hq1 := hq0.step hb1
        go_wp2_with fail
        refine (C2.out _).mono ?_
        rintro e w2 ⟨rfl, hb2⟩
        have hq2 := hq1.step hb2
        go_wp2_with fail
        refine (awake1_any _ hq2.2).mono ?_
        rintro e w3 ⟨rfl, hb3⟩
        have hq3 := hq2.step hb3
        go_wp2_with fail
        go_ret
        exact ⟨rfl, hq3.1⟩
      · have d1 : decide ((4096 : Int) < (group.size : Int)) = false := decide_eq_false (by omega)
        have d2 : decide ((4096 : Int) < (filter.size : Int)) = true := decide_eq_true (by omega)
        go_enter Tryd.func7, Tryd.ntmps7
        go_wp2_with fail
        refine (C1.out _ hw).mono ?_
        rintro e w1 ⟨rfl, hb1⟩
        have hq1 := hq0.step hb1
        go_wp2_with fail
        refine (C2.out _).mono ?_
        rintro e w2 ⟨rfl, hb2⟩
        have hq2 := hq1.step hb2
        go_wp2_with fail
        refine (awake1_any _ hq2.2).mono ?_
        rintro e w3 ⟨rfl, hb3⟩
        have hq3 := hq2.step hb3
        go_wp2_with fail
        go_ret
        exact ⟨rfl, hq3.1⟩
  have hz : (⟨#[36, 115, 104, 97, 114, 101, 47]⟩ ++ group ++ ⟨#[47]⟩ ++ filter : ByteArray).size ≤ 140737488355328 := by rw [join_size]; omega
  have c3 := fun w hw => tShared_x (⟨#[36, 115, 104, 97, 114, 101, 47]⟩ ++ group ++ ⟨#[47]⟩ ++ filter) w hw hz
  rw [join_dl] at c3
  have HB := Lib.hid (fun hg hf hp => sh_build (g := dl group) (f := dl filter) hg hf hp)
  have HV := Lib.hid (sh_conv (l := shp ++ (dl group ++ 47 :: dl filter)))
  generalize hG3 : shG (shp ++ (dl group ++ 47 :: dl filter)) = G3 at c3 HB HV
  generalize hF3 : shF (shp ++ (dl group ++ 47 :: dl filter)) = F3 at c3 HB HV
  generalize shOk (shp ++ (dl group ++ 47 :: dl filter)) = O3 at c3 HB HV
  clear hG3 hF3 hz
  have C3 := Lib.hid c3
  clear c3
  have cn := fun w => tName_dl group w
  have cf := fun w hw => tFilter_any filter w hw
  have cp := fun w => rBegins_any filter ⟨#[36, 115, 104, 97, 114, 101, 47]⟩ w
  rw [show Lib.hasPrefix (dl filter) (dl ⟨#[36, 115, 104, 97, 114, 101, 47]⟩) = Lib.hasPrefix (dl filter) shp from rfl] at cp
  have CN := Lib.hid cn
  have CF := Lib.hid cf
  have CP := Lib.hid cp
  clear cn cf cp
  have d1 : decide ((4096 : Int) < (group.size : Int)) = false := decide_eq_false (by omega)
  have d2 : decide ((4096 : Int) < (filter.size : Int)) = false := decide_eq_false (by omega)
  have hgs : group.size ≤ 4096 := by omega
  have hfs : filter.size ≤ 4096 := by omega
  clear hbig hs hg hf
  have hq := hq0
  clear hq0 hw
  by_cases hA : T.nameL (dl group) = true ∧ T.filterL (dl filter) = true ∧ Lib.hasPrefix (dl filter) shp = false
  · obtain ⟨hn, hf, hp⟩ := hA
    obtain ⟨e1, e2, e3⟩ := HB.out hn hf hp
    rw [hn] at CN
    rw [hf] at CF
    rw [hp] at CP
    rw [e1, e2, e3, bs_dl, bs_dl] at C3
    clear HB HV hn hf hp e1 e2 e3
    cases O
    all_goals
      go_enter Tryd.func7, Tryd.ntmps7
      go_wp2_with first
        | (go_at_call 31; (with_reducible refine (C1.out _ hq.ok).mono ?_); rintro e w1 ⟨rfl, hb⟩; have hq := hq.step hb; clear hb)
        | (go_at_call 32; refine (C2.out _).mono ?_; rintro e w1 ⟨rfl, hb⟩; have hq := hq.step hb; clear hb)
        | (go_at_call 31; (with_reducible refine (C3.out _ hq.ok).mono ?_); rintro e w1 ⟨rfl, hb⟩; have hq := hq.step hb; clear hb)
        | (go_at_call 16; refine (CN.out _).mono ?_; rintro e w1 ⟨rfl, hb⟩; have hq := hq.step hb; clear hb)
        | (go_at_call 20; refine (CF.out _ hq.2).mono ?_; rintro e w1 ⟨rfl, hb⟩; have hq := hq.step hb; clear hb)
        | (go_at_call 33; refine (CP.out _).mono ?_; rintro e w4 ⟨rfl, rfl⟩)
        | (go_at_call 15; refine (awake1_any _ hq.2).mono ?_; rintro e w1 ⟨rfl, hb⟩; have hq := hq.step hb; clear hb)
      go_ret
      exact ⟨rfl, hq.1⟩
  · have hNo : O3 = true → bs G3 = group → bs F3 = filter → False := fun h1 h2 h3 => by
      have := HV.out h1
      rw [← h2, ← h3, dl_bs, dl_bs] at hA
      simp only [Bool.and_eq_true, Bool.not_eq_true'] at this
      exact hA ⟨this.1.1, this.1.2, this.2⟩
    generalize bs G3 = G4 at C3 hNo
    generalize bs F3 = F4 at C3 hNo
    have HNo := Lib.hid hNo
    clear HB HV hNo
    generalize T.nameL (dl group) = bn at CN hA
    generalize T.filterL (dl filter) = bf at CF hA
    generalize Lib.hasPrefix (dl filter) shp = bp at CP hA
    have HA := Lib.hid hA
    clear hA
    cases O3
    · cases O <;> cases bn <;> cases bf <;> cases bp
      all_goals try (exact absurd ⟨rfl, rfl, rfl⟩ HA.out)
      all_goals
        go_enter Tryd.func7, Tryd.ntmps7
        go_wp2_with first
          | (go_at_call 31; (with_reducible refine (C1.out _ hq.ok).mono ?_); rintro e w1 ⟨rfl, hb⟩; have hq := hq.step hb; clear hb)
          | (go_at_call 32; refine (C2.out _).mono ?_; rintro e w1 ⟨rfl, hb⟩; have hq := hq.step hb; clear hb)
          | (go_at_call 31; (with_reducible refine (C3.out _ hq.ok).mono ?_); rintro e w1 ⟨rfl, hb⟩; have hq := hq.step hb; clear hb)
          | (go_at_call 16; refine (CN.out _).mono ?_; rintro e w1 ⟨rfl, hb⟩; have hq := hq.step hb; clear hb)
          | (go_at_call 20; refine (CF.out _ hq.2).mono ?_; rintro e w1 ⟨rfl, hb⟩; have hq := hq.step hb; clear hb)
          | (go_at_call 33; refine (CP.out _).mono ?_; rintro e w4 ⟨rfl, rfl⟩)
          | (go_at_call 15; refine (awake1_any _ hq.2).mono ?_; rintro e w1 ⟨rfl, hb⟩; have hq := hq.step hb; clear hb)
        go_ret
        exact ⟨rfl, hq.1⟩
    · by_cases hG : G4 = group
      · have nF := neq_str (fun h => HNo.out rfl hG h)
        subst hG
        cases O <;> cases bn <;> cases bf <;> cases bp
        all_goals try (exact absurd ⟨rfl, rfl, rfl⟩ HA.out)
        all_goals
          go_enter Tryd.func7, Tryd.ntmps7
          go_wp2_with first
            | (go_at_call 31; (with_reducible refine (C1.out _ hq.ok).mono ?_); rintro e w1 ⟨rfl, hb⟩; have hq := hq.step hb; clear hb)
            | (go_at_call 32; refine (C2.out _).mono ?_; rintro e w1 ⟨rfl, hb⟩; have hq := hq.step hb; clear hb)
            | (go_at_call 31; (with_reducible refine (C3.out _ hq.ok).mono ?_); rintro e w1 ⟨rfl, hb⟩; have hq := hq.step hb; clear hb)
            | (go_at_call 16; refine (CN.out _).mono ?_; rintro e w1 ⟨rfl, hb⟩; have hq := hq.step hb; clear hb)
            | (go_at_call 20; refine (CF.out _ hq.2).mono ?_; rintro e w1 ⟨rfl, hb⟩; have hq := hq.step hb; clear hb)
            | (go_at_call 33; refine (CP.out _).mono ?_; rintro e w4 ⟨rfl, rfl⟩)
            | (go_at_call 15; refine (awake1_any _ hq.2).mono ?_; rintro e w1 ⟨rfl, hb⟩; have hq := hq.step hb; clear hb)
          go_ret
          exact ⟨rfl, hq.1⟩
      · have nG := neq_str hG
        cases O <;> cases bn <;> cases bf <;> cases bp
        all_goals try (exact absurd ⟨rfl, rfl, rfl⟩ HA.out)
        all_goals
          go_enter Tryd.func7, Tryd.ntmps7
          go_wp2_with first
            | (go_at_call 31; (with_reducible refine (C1.out _ hq.ok).mono ?_); rintro e w1 ⟨rfl, hb⟩; have hq := hq.step hb; clear hb)
            | (go_at_call 32; refine (C2.out _).mono ?_; rintro e w1 ⟨rfl, hb⟩; have hq := hq.step hb; clear hb)
            | (go_at_call 31; (with_reducible refine (C3.out _ hq.ok).mono ?_); rintro e w1 ⟨rfl, hb⟩; have hq := hq.step hb; clear hb)
            | (go_at_call 16; refine (CN.out _).mono ?_; rintro e w1 ⟨rfl, hb⟩; have hq := hq.step hb; clear hb)
            | (go_at_call 20; refine (CF.out _ hq.2).mono ?_; rintro e w1 ⟨rfl, hb⟩; have hq := hq.step hb; clear hb)
            | (go_at_call 33; refine (CP.out _).mono ?_; rintro e w4 ⟨rfl, rfl⟩)
            | (go_at_call 15; refine (awake1_any _ hq.2).mono ?_; rintro e w1 ⟨rfl, hb⟩; have hq := hq.step hb; clear hb)
          go_ret
          exact ⟨rfl, hq.1⟩

end Go.Proofs.YtdoginjdlckbpaaDoor
