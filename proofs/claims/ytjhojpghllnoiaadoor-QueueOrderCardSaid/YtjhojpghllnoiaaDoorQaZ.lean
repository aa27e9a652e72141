/-
  QueueOrder answers true, walked. Conditions: the description and the calls read as data; the texts fit; the library's bound on short texts holds a number.
-/
import Derived.Test.YtjhojpghllnoiaaDoorQaY
namespace Go.Proofs.YtjhojpghllnoiaaDoor
open Go.RowKit
open S2 (BK Put get_ops)

theorem oqSize : (Tryd.prog.info? 36).map (·.size) = some 24 := by kernel_rfl
theorem load_oqm2 {w : World} {g : Nat} {k t n : Int} {m : Msg} {ma : Option Addr} {mc : Nat} {x : En} {xa : Option Addr} {xc : Nat} (h : BK 36 w g (oqC k t n m ma mc x xa xc)) : (loadVar 32 ⟨g, 3, none⟩).run Tryd.prog w = .ok (.agg (msgC m ma mc).toArray) w :=
  run_load_cells w g 3 (msgC m ma mc) 32 _ (fun i v hv => by
    refine h.cell (3 + i) ?_
    match i, hv with
    | 0, hv => exact hv
    | 1, hv => exact hv
    | 2, hv => exact hv
    | 3, hv => exact hv
    | 4, hv => exact hv
    | 5, hv => exact hv
    | 6, hv => exact hv
    | 7, hv => exact hv
    | 8, hv => exact hv) Tryd.underlying32 rfl msgSize
/-- a description without a time, a message that never expires -/
def z0 (s : Sp) : Sp := ⟨s.name, s.max, 0, s.att, s.dead⟩
def e0 (m : Msg) : Msg := ⟨m.topic, m.payload, m.level, m.retain, m.prio, 0, m.frm, m.seq, m.props⟩
/-- a list of entries whose memory lies in the blocks from B to N -/
def ER (w : World) (B N : Nat) (A : Option Addr) (ys : List EE) : Prop := LI gE 12 EE.a eps w N A ys ∧ N ≤ w.heap.size ∧ NewL B A ∧ ∀ x ∈ ys, NewL B x.a
theorem ER.of {w : World} {B : Nat} {A : Option Addr} {ys : List EE} (h : EN w B A ys) : ER w B w.heap.size A ys := ⟨h.1, Nat.le_refl _, h.2⟩
theorem ER.en {w : World} {B N : Nat} {A : Option Addr} {ys : List EE} (h : ER w B N A ys) : EN w B A ys := ⟨h.1.more h.2.1, h.2.2⟩
theorem ER.step {w w' : World} {B N : Nat} {A : Option Addr} {ys : List EE} (h : ER w B N A ys) (hb : Below w.heap.size w w') : ER w' B N A ys := ⟨h.1.below (hb.mono h.2.1), Nat.le_trans h.2.1 hb.size, h.2.2⟩
theorem ER.put {w w' : World} {B N : Nat} {A : Option Addr} {ys : List EE} (h : ER w B N A ys) {q : Nat} (hp : Put q w w') (hq : q < B ∨ N ≤ q) : ER w' B N A ys := by
  refine ⟨?_, by rw [hp.size]; exact h.2.1, h.2.2⟩
  rcases hq with hq | hq
  · exact ⟨h.1.1.put hp (fun b o e => by have := h.2.2.1 b o e; omega), fun x hx => PL.put (h.1.2 x hx) hp (fun b o e => by have := h.2.2.2 x hx b o e; omega)⟩
  · exact h.1.below (hp.below (Below.refl _ _) hq)
theorem sliceHM (b o n c i : Nat) (hi : i ≤ c) (w : World) : (Instr.slice 24 (.slice (some ⟨b, o, none⟩) n c) none (some (.int .i64 (i : Int))) (some (.int .i64 (i : Int)))).run Tryd.prog w = .ok (.slice (some ⟨b, o, none⟩) i i) w := by
  rw [run_slice_hm (P := Tryd.prog) w 24 _ n c undX .i64 .i64 i i (by omega) (by omega) (by omega), sizeOfX]
  simp [Result.andThen, sliced, Addr.add]

set_option maxRecDepth 20000 in
set_option maxHeartbeats 32000000 in
theorem queueOrder_walk (s : Sp) (A : Option Addr) (c : Nat) (l : List OQ) (w : World) (hw : S1.Okw w) (hz : s.name.size ≤ 9223372036854775807 ∧ s.dead.size ≤ 9223372036854775807) (hsl : OI w w.heap.size A l) :
    Calls Tryd.prog 5 #[spV s, .slice A l.length c] w fun e w' => e = .returned (.bool true) ∧ Below w.heap.size w w' := by
  have HO := Lib.hid hw
  have HS := Lib.hid hsl
  have HEX := Lib.hid (fun w1 h1 => exHoldsQ_any w1 h1)
  have HN := Lib.hid (fun w1 => qNew_any (z0 s) w1 hz)
  have HSV : Hid (∀ s : Sp, spV s = .agg (spC s).toArray) := Lib.hid (fun _ => rfl)
  rw [HSV.out] at HN ⊢
  clear hw hz hsl
  go_enter Tryd.func5, Tryd.ntmps5
  go_upto_region 1 with fail
  refine name_world (C := fun w1 => Code.wp _ _ _ _ w1) (w.alloc (.cells (spC s).toArray 23)) ?_
  intro w1 hw1
  have hb1 : Below w.heap.size w w1 := by rw [hw1]; exact S2.below_new w _
  have S_w1 : Hid (BK 23 w1 w.heap.size (spC s)) := Lib.hid (by rw [hw1]; exact BK.new w _ _)
  have B_w1 := Lib.hid hb1
  clear hw1 hb1
  obtain ⟨gS, hgS⟩ : ∃ g, g = w.heap.size := ⟨_, rfl⟩
  rw [← hgS] at S_w1
  try rw [← hgS]
  have HGS := Lib.hid hgS
  clear hgS
  go_upto_region 2 with first
    | (refine wpList_store_in (by rfl) 3 (.tmp 27) (.const (.int .i64 0)) rfl rfl gS 2 1 (by rfl) (.int .i64 0) rfl 23 (spC s) [.int .i64 0] S_w1.out rfl rfl (by kernel_rfl) (by show 2 + 1 ≤ 5; decide) (ones rfl) ?_; intro w2 hM hP; have S_w2 : Hid (BK 23 w2 gS (spC (z0 s))) := Lib.hid hM; have B_w2 : Hid (Below w.heap.size w w2) := Lib.hid (hP.below B_w1.out (by have := HGS.out; omega)); clear hM hP S_w1 B_w1)
  by_cases hk : specR (z0 s) ≠ 0
  · have hn2 := HN.out
    simp only [if_neg hk] at hn2
    unfold RetQ quV at hn2
    have q1 : (((specR (z0 s) : Nat) : Int) != 0) = true := by simpa using hk
    have q2 : (((specR (z0 s) : Nat) : Int) == 0) = false := by simpa using hk
    generalize specR (z0 s) = ck at hn2 q1 q2 hk
    have HN2 := Lib.hid hn2
    clear hn2 HN hk
    go_wp2_with first
      | (refine wpList_load_v (by rfl) 23 (.tmp 2) rfl ⟨gS, 0, none⟩ rfl (.agg (spC (z0 s)).toArray) (load_sp S_w2.out) ?_)
    refine (HN2.out w2).mono ?_
    rintro e y1 ⟨v1, ys1, rfl, hys, hL, hb⟩
    have B_y1 : Hid (Below w.heap.size w y1) := Lib.hid (stepB B_w2.out hb)
    have S_y1 : Hid (BK 23 y1 gS (spC (z0 s))) := Lib.hid (S_w2.out.step hb)
    clear B_w2 S_w2
    obtain ⟨A1, c1, rfl, _⟩ := hL.ret gE_len
    clear hL hys
    clear hb
    go_upto_region 4 with first
      | (refine S2.wpList_store_all (by rfl) 26 (.tmp 5) (.tmp 31) rfl rfl (y1.heap.size) rfl (quC Sp.zero 0 (.slice A1 ys1.length c1)) rfl 26 _ (BK.new y1 _ _) quSize rfl (ones rfl) ?_; intro y2 hM hP; have hb : Below y1.heap.size y1 y2 := hP.below (S2.below_new y1 _) (Nat.le_refl _); have B_y2 : Hid (Below w.heap.size w y2) := Lib.hid (stepB B_y1.out hb); have S_y2 : Hid (BK 23 y2 gS (spC (z0 s))) := Lib.hid (S_y1.out.step hb); have Q_y2 : Hid (BK 26 y2 (y1.heap.size) (quC Sp.zero 0 (.slice A1 ys1.length c1))) := Lib.hid hM; clear hM hP hb B_y1 S_y1)
    obtain ⟨gQ, hgQ⟩ : ∃ gQ, gQ = y1.heap.size := ⟨_, rfl⟩
    rw [← hgQ] at Q_y2
    try rw [← hgQ]
    clear hgQ
    have d5 := Q_y2.out.cell 5 rfl
    go_wp2_with fail
    refine (HEX.out y2 (HO.out.step B_y2.out)).mono ?_
    rintro e y3 ⟨rfl, hb⟩
    have B_y3 : Hid (Below w.heap.size w y3) := Lib.hid (stepB B_y2.out hb)
    have S_y3 : Hid (BK 23 y3 gS (spC (z0 s))) := Lib.hid (S_y2.out.step hb)
    have Q_y3 : Hid (BK 26 y3 gQ (quC Sp.zero 0 (.slice A1 ys1.length c1))) := Lib.hid (Q_y2.out.step hb)
    clear B_y2 S_y2 Q_y2
    clear hb
    go_wp2
    go_ret
    exact ⟨rfl, B_y3.out⟩
  have hk0 : specR (z0 s) = 0 := by omega
  clear hk
  have hn2 := HN.out
  simp only [hk0, ↓reduceIte] at hn2
  unfold RetQ quV at hn2
  have HN2 := Lib.hid hn2
  clear HN hk0 hn2
  go_wp2_with first
    | (refine wpList_load_v (by rfl) 23 (.tmp 2) rfl ⟨gS, 0, none⟩ rfl (.agg (spC (z0 s)).toArray) (load_sp S_w2.out) ?_)
  refine (HN2.out w2).mono ?_
  rintro e y4 ⟨v1, ys1, rfl, hys, hL, hb⟩
  have B_y4 : Hid (Below w.heap.size w y4) := Lib.hid (stepB B_w2.out hb)
  have S_y4 : Hid (BK 23 y4 gS (spC (z0 s))) := Lib.hid (S_w2.out.step hb)
  clear B_w2 S_w2
  obtain ⟨A1, c1, rfl, _⟩ := hL.ret gE_len
  have e9 := List.map_eq_nil_iff.1 hys
  subst e9
  clear hL hys
  clear hb
  have HWQ0 : Hid (w.heap.size ≤ y4.heap.size) := Lib.hid B_y4.out.size
  go_upto_region 3 with first
    | (refine S2.wpList_store_all (by rfl) 26 (.tmp 5) (.tmp 31) rfl rfl (y4.heap.size) rfl (quC (z0 s) 1 (.slice A1 ([] : List EE).length c1)) rfl 26 _ (BK.new y4 _ _) quSize rfl (ones rfl) ?_; intro y5 hM hP; have hb : Below y4.heap.size y4 y5 := hP.below (S2.below_new y4 _) (Nat.le_refl _); have B_y5 : Hid (Below w.heap.size w y5) := Lib.hid (stepB B_y4.out hb); have S_y5 : Hid (BK 23 y5 gS (spC (z0 s))) := Lib.hid (S_y4.out.step hb); have Q_y5 : Hid (BK 26 y5 (y4.heap.size) (quC (z0 s) 1 (.slice A1 ([] : List EE).length c1))) := Lib.hid hM; clear hM hP hb B_y4 S_y4)
  obtain ⟨gQ, hgQ⟩ : ∃ g, g = y4.heap.size := ⟨_, rfl⟩
  rw [← hgQ] at Q_y5 HWQ0
  try rw [← hgQ]
  have HWQ := HWQ0
  clear hgQ HWQ0
  clear S_y5
  clear HN2 HGS
  by_cases h40 : 40 < (l.length : Int)
  · have q1 : decide (40 < (l.length : Int)) = true := decide_eq_true h40
    have q2 : decide ((l.length : Int) > 40) = true := decide_eq_true h40
    clear h40
    go_wp2_with fail
    refine (HEX.out y5 (HO.out.step B_y5.out)).mono ?_
    rintro e y6 ⟨rfl, hb⟩
    have B_y6 : Hid (Below w.heap.size w y6) := Lib.hid (stepB B_y5.out hb)
    have Q_y6 : Hid (BK 26 y6 gQ (quC (z0 s) 1 (.slice A1 ([] : List EE).length c1))) := Lib.hid (Q_y5.out.step hb)
    clear B_y5 Q_y5
    clear hb
    go_wp2
    go_ret
    exact ⟨rfl, B_y6.out⟩
  have q1 : decide (40 < (l.length : Int)) = false := decide_eq_false h40
  have q2 : decide ((l.length : Int) > 40) = false := decide_eq_false h40
  have HL40 : Hid (l.length ≤ 40) := Lib.hid (by omega)
  clear h40
  go_upto_region 7 with fail
  clear q1 q2
  go_wp2_with fail
  obtain ⟨B0, hB0⟩ : ∃ b, b = y5.heap.size := ⟨_, rfl⟩
  have HGB : Hid (gQ < B0) := Lib.hid (by rw [hB0]; exact Q_y5.out.lt)
  have HWB : Hid (w.heap.size ≤ B0) := Lib.hid (by rw [hB0]; exact B_y5.out.size)
  have HB0 : Hid (B0 ≤ y5.heap.size) := Lib.hid (by rw [hB0]; exact Nat.le_refl _)
  clear hB0
  go_loopg [52, 7, 8] l.length (fun g v u t wr => ∃ (j n : Nat) (A1 : Option Addr) (c1 : Nat) (ys xs : List EE) (vo : Value), vo = u ∧ j + g = l.length ∧ v = .int .i64 j ∧ t = .int .i64 n ∧ n ≤ j ∧ QOI n (ys.map EE.x) (xs.map EE.x) ∧ BK 26 wr gQ (quC (z0 s) ((n : Int) + 1) (.slice A1 ys.length c1)) ∧ EI wr wr.heap.size A1 ys ∧ ys.length ≤ c1 ∧ Out B0 wr.heap.size wr u xs ∧ Below w.heap.size w wr ∧ B0 ≤ wr.heap.size)
  case atStart => exact ⟨0, 0, A1, c1, [], [], _, rfl, by omega, rfl, rfl, Nat.le_refl _, QOI.nil, Q_y5.out, LI.nil _ _ _, Nat.zero_le _, Out.nil _ _ _, B_y5.out, HB0.out⟩
  case round =>
    clear B_y5 Q_y5
    obtain ⟨j, n, A1, c1, ys1, xs1, u, rfl, hjg, rfl, rfl, hnj, hqi, hq, hk, hc1, hu, hbb, hzz⟩ := hrel
    have HJ := Lib.hid hjg
    have HNJ := Lib.hid hnj
    have HQI := Lib.hid hqi
    have HQ := Lib.hid hq
    have HK := Lib.hid hk
    have HC1 := Lib.hid hc1
    have HU := Lib.hid hu
    have HBB := Lib.hid hbb
    have HZZ := Lib.hid hzz
    have HYL : Hid (ys1.length ≤ 40 ∧ xs1.length ≤ 40 ∧ n ≤ 40 ∧ ys1.length + xs1.length = n ∧ j ≤ 40) := Lib.hid (by have h1 := hqi.cnt; rw [List.length_map, List.length_map] at h1; have h2 := HL40.out; omega)
    clear hnj hqi hq hk hc1 hu hbb hzz
    cases gk with
    | zero =>
      obtain rfl : j = l.length := by omega
      clear hjg
      obtain ⟨Ao, co, rfl, hco, heo⟩ := HU.out.of
      clear hco heo HU HS
      have hsub : (n : Int) - (xs1.length : Int) = (ys1.length : Int) := by have := HYL.out; omega
      have HWS : Hid (IntKind.i64.wrap ((n : Int) - (xs1.length : Int)) = (ys1.length : Int) ∧ wrap64 ((n : Int) - (xs1.length : Int)) = (ys1.length : Int)) := Lib.hid ⟨by rw [hsub, IntKind.wrap_i64]; have := HYL.out; omega, by rw [hsub]; exact wrap64_id _ (by have := HYL.out; omega) (by have := HYL.out; omega)⟩
      have e3 : decide (((l.length : Nat) : Int) < (l.length : Int)) = false := decide_eq_false (by omega)
      obtain ⟨hw1, hw2⟩ := HWS.out
      clear hsub
      go_upto_region 31 with fail
      clear hw1 hw2 e3
      refine name_world (C := fun w1 => Code.wp _ _ _ _ w1) (wr.alloc (.cells (enX En.zero none 0).toArray 34)) ?_
      intro x1 hx1
      have hb : Below wr.heap.size wr x1 := by rw [hx1]; exact S2.below_new wr _
      have E_x1 : Hid (BK 34 x1 wr.heap.size (enX En.zero none 0)) := Lib.hid (by rw [hx1]; exact BK.new wr _ _)
      have Q_x1 : Hid (BK 26 x1 gQ (quC (z0 s) ((n : Int) + 1) (.slice A1 ys1.length c1))) := Lib.hid (HQ.out.step hb)
      have K_x1 : Hid (EI x1 x1.heap.size A1 ys1) := Lib.hid (HK.out.step hb)
      have B_x1 : Hid (Below w.heap.size w x1) := Lib.hid (stepB HBB.out hb)
      have HGE : Hid (gQ < wr.heap.size ∧ w.heap.size ≤ wr.heap.size) := Lib.hid ⟨HQ.out.lt, HBB.out.size⟩
      clear hx1 hb HQ HK HBB HZZ
      obtain ⟨gE, hgE⟩ : ∃ b, b = wr.heap.size := ⟨_, rfl⟩
      rw [← hgE] at E_x1 HGE
      try rw [← hgE]
      clear hgE
      go_wp2_with fail
      go_loopg [20] ys1.length (fun g v wq => ∃ (i : Nat) (A2 : Option Addr) (c2 : Nat) (ys2 : List EE) (p : En) (pa : Option Addr) (pc : Nat), i + g = ys1.length ∧ v = .int .i64 i ∧ BK 26 wq gQ (quC (z0 s) ((n : Int) + 1) (.slice A2 ys2.length c2)) ∧ EI wq wq.heap.size A2 ys2 ∧ ys2.length ≤ c2 ∧ ys2.map EE.x = (ys1.map EE.x).drop i ∧ BK 34 wq gE (enX p pa pc) ∧ (0 < i → (ys1.map EE.x)[i - 1]? = some p) ∧ Below w.heap.size w wq)
      case atStart => exact ⟨0, A1, c1, ys1, En.zero, none, 0, by omega, rfl, Q_x1.out, K_x1.out, HC1.out, rfl, E_x1.out, (fun h => absurd h (by omega)), B_x1.out⟩
      case round =>
        clear E_x1 Q_x1 K_x1 B_x1
        obtain ⟨i, A2, c2, ys2, p, pa, pc, hig, rfl, hq, hk, hc2, hy2, he, hpr, hbb⟩ := hrel
        have Q_wr := Lib.hid hq
        have K_wr := Lib.hid hk
        have E_wr := Lib.hid he
        have B_wr := Lib.hid hbb
        have HC2 := Lib.hid hc2
        have HY2 := Lib.hid hy2
        have HPR := Lib.hid hpr
        have HI := Lib.hid hig
        have HI40 : Hid (i ≤ 40 ∧ ys2.length = ys1.length - i) := Lib.hid (by have h1 := HYL.out; have h2 := congrArg List.length hy2; rw [List.length_map, List.length_drop, List.length_map] at h2; omega)
        clear hq hk he hbb hc2 hy2 hpr
        have hpp : ∀ y ∈ ys2, y.x.m.props.length ≤ 4398046511104 := fun y hy => HQI.out.props (List.mem_append_left _ (List.mem_of_mem_drop (by have := List.mem_map_of_mem (f := EE.x) hy; rw [HY2.out] at this; exact this)))
        have HPP := Lib.hid hpp
        clear hpp
        cases gk with
        | zero =>
          obtain rfl : i = ys1.length := by omega
          have hl0 : ys2.length = 0 := by have := HI40.out.2; omega
          have e3 : decide (((ys1.length : Nat) : Int) < (ys1.length : Int)) = false := decide_eq_false (by omega)
          have hp0 : ∀ w1, Calls Tryd.prog 15 #[quV (z0 s) ((n : Int) + 1) (.slice A2 ys2.length c2)] w1 (RetP0 w1) := fun w1 => by rw [hl0]; exact qPop0_any (z0 s) ((n : Int) + 1) A2 c2 w1
          unfold quV RetP0 enW enV at hp0
          have HP0 := Lib.hid hp0
          clear hp0 hl0 hig
          go_upto_region 38 with fail
          clear e3
          go_wp2_with first
            | (refine wpList_load_v (by rfl) 26 (.tmp 5) rfl ⟨gQ, 0, none⟩ rfl (.agg (quC (z0 s) ((n : Int) + 1) (.slice A2 ys2.length c2)).toArray) (load_qu Q_wr.out) ?_)
          refine (HP0.out wr).mono ?_
          rintro e y7 ⟨rfl, hb⟩
          have Q_y7 : Hid (BK 26 y7 gQ (quC (z0 s) ((n : Int) + 1) (.slice A2 ys2.length c2))) := Lib.hid (Q_wr.out.step hb)
          have K_y7 : Hid (EI y7 y7.heap.size A2 ys2) := Lib.hid (LI.step K_wr.out hb)
          have E_y7 : Hid (BK 34 y7 gE (enX p pa pc)) := Lib.hid (E_wr.out.step hb)
          have B_y7 : Hid (Below w.heap.size w y7) := Lib.hid (stepB B_wr.out hb)
          clear Q_wr K_wr E_wr B_wr
          clear hb
          go_upto_region 39 with first
            | (refine S2.wpList_store_all (by rfl) 34 (.tmp 24) (.tmp 167) rfl rfl y7.heap.size rfl (enX En.zero none 0) rfl 34 (enX En.zero none 0) (BK.alloc (BK.new y7 _ _) _) enSize rfl (enX_one _ _ _) ?_; intro y8 hM hP; have XM := Lib.hid hM; have XP := Lib.hid hP; clear hM hP)
            | (refine S2.wpList_store_all (by rfl) 26 (.tmp 25) (.tmp 168) rfl rfl (y7.heap.size + 1) rfl zeroQ rfl 26 zeroQ (XP.out.other (bk_new1 y7 _ _ _) (by omega)) quSize rfl (quC_one _ rfl) ?_; intro y9 hM hP; have hb : Below y7.heap.size y7 y9 := hP.below (XP.out.below (stepB (S2.below_new y7 _) (S2.below_new _ _)) (Nat.le_refl _)) (by omega); have E8_y9 : Hid (BK 34 y9 y7.heap.size (enX En.zero none 0)) := Lib.hid (hP.other XM.out (by omega)); have Q8_y9 : Hid (BK 26 y9 (y7.heap.size + 1) zeroQ) := Lib.hid hM; have Q_y9 : Hid (BK 26 y9 gQ (quC (z0 s) ((n : Int) + 1) (.slice A2 ys2.length c2))) := Lib.hid (Q_y7.out.step hb); have K_y9 : Hid (EI y9 y9.heap.size A2 ys2) := Lib.hid (LI.step K_y7.out hb); have E_y9 : Hid (BK 34 y9 gE (enX p pa pc)) := Lib.hid (E_y7.out.step hb); have B_y9 : Hid (Below w.heap.size w y9) := Lib.hid (stepB B_y7.out hb); clear hM hP hb XM XP Q_y7 K_y7 E_y7 B_y7)
          obtain ⟨gQ8, hg2⟩ : ∃ b, b = y7.heap.size + 1 := ⟨_, rfl⟩
          obtain ⟨gE8, hg1⟩ : ∃ b, b = y7.heap.size := ⟨_, rfl⟩
          have HGE8 : Hid (y7.heap.size ≤ gE8) := Lib.hid (by rw [hg1]; exact Nat.le_refl _)
          have HGQ8 : Hid (y7.heap.size ≤ gQ8) := Lib.hid (by rw [hg2]; omega)
          rw [← hg2] at Q8_y9
          try rw [← hg2]
          clear hg2
          rw [← hg1] at E8_y9
          try rw [← hg1]
          clear hg1
          go_wp2_with fail
          refine (HEX.out y9 (HO.out.step B_y9.out)).mono ?_
          rintro e y10 ⟨rfl, hb⟩
          have Q_y10 : Hid (BK 26 y10 gQ (quC (z0 s) ((n : Int) + 1) (.slice A2 ys2.length c2))) := Lib.hid (Q_y9.out.step hb)
          have K_y10 : Hid (EI y10 y10.heap.size A2 ys2) := Lib.hid (LI.step K_y9.out hb)
          have E_y10 : Hid (BK 34 y10 gE (enX p pa pc)) := Lib.hid (E_y9.out.step hb)
          have B_y10 : Hid (Below w.heap.size w y10) := Lib.hid (stepB B_y9.out hb)
          have E8_y10 : Hid (BK 34 y10 gE8 (enX En.zero none 0)) := Lib.hid (E8_y9.out.step hb)
          have Q8_y10 : Hid (BK 26 y10 gQ8 zeroQ) := Lib.hid (Q8_y9.out.step hb)
          clear Q_y9 K_y9 E_y9 B_y9 E8_y9 Q8_y9
          clear hb
          go_wp2
          go_ret
          exact ⟨rfl, B_y10.out⟩
        | succ g =>
          have hlt : i < ys1.length := by omega
          have e3 : decide ((i : Int) < (ys1.length : Int)) = true := decide_eq_true (by omega)
          have e4 : i < ys1.length := hlt
          obtain ⟨y0, hy0⟩ : ∃ y, ys2[0]? = some y := ⟨_, List.getElem?_eq_getElem (by have := HI40.out.2; omega)⟩
          have hyi : (ys1.map EE.x)[i]? = some y0.x := by
            have h : (ys2.map EE.x)[0]? = some y0.x := by rw [List.getElem?_map, hy0]; rfl
            rw [HY2.out, List.getElem?_drop, Nat.add_zero] at h
            exact h
          have hkk := (entR_parts (HQI.out.ent y0.x (List.mem_append_left _ (List.mem_of_getElem? hyi)))).1
          have HYI := Lib.hid hyi
          have hp0 := fun w1 h1 => qPop_any (z0 s) ((n : Int) + 1) A2 c2 ys2 y0 w1 h1 hy0 HC2.out (by have h1 := HI40.out; have h2 := HYL.out; omega) HPP.out
          unfold RetP quV enW enV at hp0
          have HP0 := Lib.hid hp0
          have HKK : Hid (1 ≤ y0.x.k ∧ y0.x.k ≤ (n : Int)) := Lib.hid (by omega)
          clear hp0 hyi hkk hy0 hig hlt
          go_upto_region 34 with fail
          clear e3 e4
          have HEL : Hid (gE < wr.heap.size) := Lib.hid E_wr.out.lt
          have HQL : Hid (gQ < wr.heap.size) := Lib.hid Q_wr.out.lt
          go_wp2_with first
            | (refine wpList_load_v (by rfl) 26 (.tmp 5) rfl ⟨gQ, 0, none⟩ rfl (.agg (quC (z0 s) ((n : Int) + 1) (.slice A2 ys2.length c2)).toArray) (load_qu Q_wr.out) ?_)
          refine (HP0.out wr K_wr.out).mono ?_
          rintro e y11 ⟨a8, ac8, v8, ys8, rfl, hpl, hnl, hys8, hL8, hb⟩
          have Q_y11 : Hid (BK 26 y11 gQ (quC (z0 s) ((n : Int) + 1) (.slice A2 ys2.length c2))) := Lib.hid (Q_wr.out.step hb)
          have K_y11 : Hid (EI y11 y11.heap.size A2 ys2) := Lib.hid (LI.step K_wr.out hb)
          have E_y11 : Hid (BK 34 y11 gE (enX p pa pc)) := Lib.hid (E_wr.out.step hb)
          have B_y11 : Hid (Below w.heap.size w y11) := Lib.hid (stepB B_wr.out hb)
          clear Q_wr K_wr E_wr B_wr
          obtain ⟨A8, c8, rfl, hc8, hen8⟩ := LN.of gE_len hL8
          have HY8 := Lib.hid hys8
          have HC8 := Lib.hid hc8
          have HB8 : Hid (gQ < wr.heap.size ∧ gE < wr.heap.size) := Lib.hid ⟨HQL.out, HEL.out⟩
          have L_y11 : Hid (EN y11 wr.heap.size A8 ys8) := Lib.hid hen8
          clear hL8 hys8 hpl hnl hc8 hen8
          have HSX : Hid (wr.heap.size ≤ y11.heap.size) := Lib.hid hb.size
          clear K_y11
          clear hb
          go_upto_region 35 with first
            | (refine S2.wpList_store_all (by rfl) 34 (.tmp 21) (.tmp 136) rfl rfl y11.heap.size rfl (enX y0.x a8 ac8) rfl 34 (enX En.zero none 0) (BK.alloc (BK.new y11 _ _) _) enSize rfl (enX_one _ _ _) ?_; intro y12 hM hP; have XM := Lib.hid hM; have XP := Lib.hid hP; clear hM hP)
            | (refine S2.wpList_store_all (by rfl) 26 (.tmp 22) (.tmp 137) rfl rfl (y11.heap.size + 1) rfl (quC (z0 s) ((n : Int) + 1) (.slice A8 ys8.length c8)) rfl 26 zeroQ (XP.out.other (bk_new1 y11 _ _ _) (by omega)) quSize rfl (quC_one _ rfl) ?_; intro y13 hM hP; have hb : Below y11.heap.size y11 y13 := hP.below (XP.out.below (stepB (S2.below_new y11 _) (S2.below_new _ _)) (Nat.le_refl _)) (by omega); have E8_y13 : Hid (BK 34 y13 y11.heap.size (enX y0.x a8 ac8)) := Lib.hid (hP.other XM.out (by omega)); have Q8_y13 : Hid (BK 26 y13 (y11.heap.size + 1) (quC (z0 s) ((n : Int) + 1) (.slice A8 ys8.length c8))) := Lib.hid hM; have Q_y13 : Hid (BK 26 y13 gQ (quC (z0 s) ((n : Int) + 1) (.slice A2 ys2.length c2))) := Lib.hid (Q_y11.out.step hb); have E_y13 : Hid (BK 34 y13 gE (enX p pa pc)) := Lib.hid (E_y11.out.step hb); have B_y13 : Hid (Below w.heap.size w y13) := Lib.hid (stepB B_y11.out hb); have L_y13 : Hid (EN y13 wr.heap.size A8 ys8) := Lib.hid (LN.step L_y11.out hb); clear hM hP hb XM XP Q_y11 E_y11 B_y11 L_y11)
          obtain ⟨gQ8, hg2⟩ : ∃ b, b = y11.heap.size + 1 := ⟨_, rfl⟩
          obtain ⟨gE8, hg1⟩ : ∃ b, b = y11.heap.size := ⟨_, rfl⟩
          have HGE8 : Hid (y11.heap.size ≤ gE8) := Lib.hid (by rw [hg1]; exact Nat.le_refl _)
          have HGQ8 : Hid (y11.heap.size ≤ gQ8) := Lib.hid (by rw [hg2]; omega)
          rw [← hg2] at Q8_y13
          try rw [← hg2]
          clear hg2
          rw [← hg1] at E8_y13
          try rw [← hg1]
          clear hg1
          have d1 := E8_y13.out.cell 0 rfl
          have k1 := HKK.out.1
          have k2 := HKK.out.2
          have q1 : decide (y0.x.k < 1) = false := decide_eq_false (by omega)
          have q2 : decide (y0.x.k > (n : Int)) = false := decide_eq_false (by omega)
          have q3 : decide ((n : Int) < y0.x.k) = false := decide_eq_false (by omega)
          clear k1 k2
          by_cases hi0 : i = 0
          · have q4 : decide ((i : Int) > 0) = false := decide_eq_false (by omega)
            have q5 : decide ((0 : Int) < (i : Int)) = false := decide_eq_false (by omega)
            have q6 : ¬ 0 < i := by omega
            have q7 : decide (0 < i) = false := decide_eq_false q6
            go_upto_region 37 with fail
            clear q1 q2 q3 q4 q5 q6 q7 hi0 d1
            obtain ⟨y14, hy14⟩ : ∃ y14, y14 = World.drew y13 := ⟨_, rfl⟩
            have hbD : Below y13.heap.size y13 y14 := by rw [hy14]; exact (Below.refl _ _).drew
            have Q_y14 : Hid (BK 26 y14 gQ (quC (z0 s) ((n : Int) + 1) (.slice A2 ys2.length c2))) := Lib.hid (Q_y13.out.step hbD)
            have E_y14 : Hid (BK 34 y14 gE (enX p pa pc)) := Lib.hid (E_y13.out.step hbD)
            have B_y14 : Hid (Below w.heap.size w y14) := Lib.hid (stepB B_y13.out hbD)
            have L_y14 : Hid (EN y14 wr.heap.size A8 ys8) := Lib.hid (LN.step L_y13.out hbD)
            have E8_y14 : Hid (BK 34 y14 gE8 (enX y0.x a8 ac8)) := Lib.hid (E8_y13.out.step hbD)
            have Q8_y14 : Hid (BK 26 y14 gQ8 (quC (z0 s) ((n : Int) + 1) (.slice A8 ys8.length c8))) := Lib.hid (Q8_y13.out.step hbD)
            clear Q_y13 E_y13 B_y13 L_y13 E8_y13 Q8_y13
            have hbd : (fun w' => BK 34 w' gE8 (enX y0.x a8 ac8) ∧ BK 26 w' gQ8 (quC (z0 s) ((n : Int) + 1) (.slice A8 ys8.length c8))) (World.drew y13) := by rw [← hy14]; exact ⟨E8_y14.out, Q8_y14.out⟩
            have hSD : (fun w' => BK 34 w' gE8 (enX y0.x a8 ac8) ∧ BK 26 w' gQ8 (quC (z0 s) ((n : Int) + 1) (.slice A8 ys8.length c8))) y14 := ⟨E8_y14.out, Q8_y14.out⟩
            have HWD := Lib.hid hy14
            clear hy14 hbD
            refine wp_region_held_drew (S := fun w' => BK 34 w' gE8 (enX y0.x a8 ac8) ∧ BK 26 w' gQ8 (quC (z0 s) ((n : Int) + 1) (.slice A8 ys8.length c8))) (by kernel_rfl) hbd (fun hHeld => ?_)
            rw [← HWD.out]
            clear hHeld
            have hHeld := hSD
            clear hSD hbd HWD
            refine wpAnyH_take (i := 0) (v := (.agg (enX y0.x a8 ac8).toArray)) (get_ops _ _ _ rfl) (by kernel_rfl) (by kernel_rfl) (by kernel_rfl) (fun _ _ _ h => h) (Or.inl ⟨by rfl, fun wS hSw => by (try dsimp only at hSw); exact exec_load 34 _ rfl ⟨gE8, 0, none⟩ (by go_simp) _ (load_en0 hSw.1)⟩) hHeld ?_
            try simp only [Act.put, List.setIfInBounds_toArray, List.set_cons_zero, List.set_cons_succ]
            refine wpAnyH_take (i := 1) (v := (.agg (quC (z0 s) ((n : Int) + 1) (.slice A8 ys8.length c8)).toArray)) (get_ops _ _ _ rfl) (by kernel_rfl) (by kernel_rfl) (by kernel_rfl) (fun _ _ _ h => h) (Or.inl ⟨by rfl, fun wS hSw => by (try dsimp only at hSw); exact exec_load 26 _ rfl ⟨gQ8, 0, none⟩ (by go_simp) _ (load_qu hSw.2)⟩) hHeld ?_
            try simp only [Act.put, List.setIfInBounds_toArray, List.set_cons_zero, List.set_cons_succ]
            refine wpAnyH_ready (rs := [2]) (by kernel_rfl) (by simp) ?_
            refine (AllReadyH.cons (get_ops _ _ _ rfl) (fun K hK => ?_) AllReadyH.nil)
            refine S2.wp_store_all 34 _ _ rfl rfl gE (by go_simp) (enX y0.x a8 ac8) (by first | rfl | go_simp) 34 _ E_y14.out enSize rfl (enX_one _ _ _) ?_
            intro y15 hM hP
            have E_y15 : Hid (BK 34 y15 gE (enX y0.x a8 ac8)) := Lib.hid (hM)
            have Q_y15 : Hid (BK 26 y15 gQ (quC (z0 s) ((n : Int) + 1) (.slice A2 ys2.length c2))) := Lib.hid (hP.other Q_y14.out (by have h1 := HGE.out.1; omega))
            have B_y15 : Hid (Below w.heap.size w y15) := Lib.hid (hP.below B_y14.out HGE.out.2)
            have L_y15 : Hid (EN y15 wr.heap.size A8 ys8) := Lib.hid (LN.put L_y14.out hP HB8.out.2)
            have E8_y15 : Hid (BK 34 y15 gE8 (enX y0.x a8 ac8)) := Lib.hid (hP.other E8_y14.out (by have h1 := HGE8.out; have h2 := HEL.out; have h3 := HSX.out; omega))
            have Q8_y15 : Hid (BK 26 y15 gQ8 (quC (z0 s) ((n : Int) + 1) (.slice A8 ys8.length c8))) := Lib.hid (hP.other Q8_y14.out (by have h1 := HGQ8.out; have h2 := HEL.out; have h3 := HSX.out; omega))
            clear Q_y14 E_y14 B_y14 L_y14 E8_y14 Q8_y14
            clear hM hP hHeld
            refine hK.out _ _ ⟨E8_y15.out, Q8_y15.out⟩ (fun hHeld => ?_)
            clear hK K
            try simp only [Act.put, List.setIfInBounds_toArray, List.set_cons_zero, List.set_cons_succ]
            refine wpAnyH_ready (rs := [3]) (by kernel_rfl) (by simp) ?_
            refine (AllReadyH.cons (get_ops _ _ _ rfl) (fun K hK => ?_) AllReadyH.nil)
            refine S2.wp_store_all 26 _ _ rfl rfl gQ (by go_simp) (quC (z0 s) ((n : Int) + 1) (.slice A8 ys8.length c8)) (by first | rfl | go_simp) 26 _ Q_y15.out quSize rfl (quC_one _ rfl) ?_
            intro y16 hM hP
            have Q_y16 : Hid (BK 26 y16 gQ (quC (z0 s) ((n : Int) + 1) (.slice A8 ys8.length c8))) := Lib.hid (hM)
            have E_y16 : Hid (BK 34 y16 gE (enX y0.x a8 ac8)) := Lib.hid (hP.other E_y15.out (by have h1 := HGE.out.1; omega))
            have B_y16 : Hid (Below w.heap.size w y16) := Lib.hid (hP.below B_y15.out HWQ.out)
            have L_y16 : Hid (EN y16 wr.heap.size A8 ys8) := Lib.hid (LN.put L_y15.out hP HB8.out.1)
            have E8_y16 : Hid (BK 34 y16 gE8 (enX y0.x a8 ac8)) := Lib.hid (hP.other E8_y15.out (by have h1 := HGE8.out; have h2 := HQL.out; have h3 := HSX.out; omega))
            have Q8_y16 : Hid (BK 26 y16 gQ8 (quC (z0 s) ((n : Int) + 1) (.slice A8 ys8.length c8))) := Lib.hid (hP.other Q8_y15.out (by have h1 := HGQ8.out; have h2 := HQL.out; have h3 := HSX.out; omega))
            clear Q_y15 E_y15 B_y15 L_y15 E8_y15 Q8_y15
            clear hM hP hHeld
            refine hK.out _ _ ⟨E8_y16.out, Q8_y16.out⟩ (fun hHeld => ?_)
            clear hK K
            try simp only [Act.put, List.setIfInBounds_toArray, List.set_cons_zero, List.set_cons_succ]
            refine wpAnyH_done (by kernel_rfl) ?_ _
            have w1a : i ≤ 1000 := by have := HI40.out; omega
            go_wp2
            go_roundg g
            case measure => omega
            case rel => exact ⟨i + 1, A8, c8, ys8, y0.x, a8, ac8, by have := HI.out; omega, by go_num, Q_y16.out, L_y16.out.1, HC8.out, by rw [HY8.out, HY2.out, List.drop_drop], E_y16.out, (fun _ => HYI.out), B_y16.out⟩
          · have hpi := HPR.out (by omega)
            have HPC := Lib.hid (fun w1 => rPrec_any p y0.x pa a8 pc ac8 w1)
            have hpc : precR p y0.x = true := HQI.out.srt.at_ (by omega) hpi HYI.out
            rw [hpc] at HPC
            unfold enW enV at HPC
            have q4 : decide ((i : Int) > 0) = true := decide_eq_true (by omega)
            have q5 : decide ((0 : Int) < (i : Int)) = true := decide_eq_true (by omega)
            have q6 : 0 < i := by omega
            have q7 : decide (0 < i) = true := decide_eq_true q6
            clear hpi hpc
            go_wp2_with first
              | (refine wpList_load_v (by rfl) 34 (.tmp 19) rfl ⟨gE, 0, none⟩ rfl (.agg (enX p pa pc).toArray) (load_en0 E_y13.out) ?_)
              | (refine wpList_load_v (by rfl) 34 (.tmp 21) rfl ⟨gE8, 0, none⟩ rfl (.agg (enX y0.x a8 ac8).toArray) (load_en0 E8_y13.out) ?_)
            refine (HPC.out y13).mono ?_
            rintro e y15 ⟨rfl, hb⟩
            have Q_y15 : Hid (BK 26 y15 gQ (quC (z0 s) ((n : Int) + 1) (.slice A2 ys2.length c2))) := Lib.hid (Q_y13.out.step hb)
            have E_y15 : Hid (BK 34 y15 gE (enX p pa pc)) := Lib.hid (E_y13.out.step hb)
            have B_y15 : Hid (Below w.heap.size w y15) := Lib.hid (stepB B_y13.out hb)
            have L_y15 : Hid (EN y15 wr.heap.size A8 ys8) := Lib.hid (LN.step L_y13.out hb)
            have E8_y15 : Hid (BK 34 y15 gE8 (enX y0.x a8 ac8)) := Lib.hid (E8_y13.out.step hb)
            have Q8_y15 : Hid (BK 26 y15 gQ8 (quC (z0 s) ((n : Int) + 1) (.slice A8 ys8.length c8))) := Lib.hid (Q8_y13.out.step hb)
            clear Q_y13 E_y13 B_y13 L_y13 E8_y13 Q8_y13
            clear hb
            go_upto_region 37 with fail
            clear q1 q2 q3 q4 q5 q6 q7 hi0 d1 HPC
            obtain ⟨y16, hy16⟩ : ∃ y16, y16 = World.drew y15 := ⟨_, rfl⟩
            have hbD : Below y15.heap.size y15 y16 := by rw [hy16]; exact (Below.refl _ _).drew
            have Q_y16 : Hid (BK 26 y16 gQ (quC (z0 s) ((n : Int) + 1) (.slice A2 ys2.length c2))) := Lib.hid (Q_y15.out.step hbD)
            have E_y16 : Hid (BK 34 y16 gE (enX p pa pc)) := Lib.hid (E_y15.out.step hbD)
            have B_y16 : Hid (Below w.heap.size w y16) := Lib.hid (stepB B_y15.out hbD)
            have L_y16 : Hid (EN y16 wr.heap.size A8 ys8) := Lib.hid (LN.step L_y15.out hbD)
            have E8_y16 : Hid (BK 34 y16 gE8 (enX y0.x a8 ac8)) := Lib.hid (E8_y15.out.step hbD)
            have Q8_y16 : Hid (BK 26 y16 gQ8 (quC (z0 s) ((n : Int) + 1) (.slice A8 ys8.length c8))) := Lib.hid (Q8_y15.out.step hbD)
            clear Q_y15 E_y15 B_y15 L_y15 E8_y15 Q8_y15
            have hbd : (fun w' => BK 34 w' gE8 (enX y0.x a8 ac8) ∧ BK 26 w' gQ8 (quC (z0 s) ((n : Int) + 1) (.slice A8 ys8.length c8))) (World.drew y15) := by rw [← hy16]; exact ⟨E8_y16.out, Q8_y16.out⟩
            have hSD : (fun w' => BK 34 w' gE8 (enX y0.x a8 ac8) ∧ BK 26 w' gQ8 (quC (z0 s) ((n : Int) + 1) (.slice A8 ys8.length c8))) y16 := ⟨E8_y16.out, Q8_y16.out⟩
            have HWD := Lib.hid hy16
            clear hy16 hbD
            refine wp_region_held_drew (S := fun w' => BK 34 w' gE8 (enX y0.x a8 ac8) ∧ BK 26 w' gQ8 (quC (z0 s) ((n : Int) + 1) (.slice A8 ys8.length c8))) (by kernel_rfl) hbd (fun hHeld => ?_)
            rw [← HWD.out]
            clear hHeld
            have hHeld := hSD
            clear hSD hbd HWD
            refine wpAnyH_take (i := 0) (v := (.agg (enX y0.x a8 ac8).toArray)) (get_ops _ _ _ rfl) (by kernel_rfl) (by kernel_rfl) (by kernel_rfl) (fun _ _ _ h => h) (Or.inl ⟨by rfl, fun wS hSw => by (try dsimp only at hSw); exact exec_load 34 _ rfl ⟨gE8, 0, none⟩ (by go_simp) _ (load_en0 hSw.1)⟩) hHeld ?_
            try simp only [Act.put, List.setIfInBounds_toArray, List.set_cons_zero, List.set_cons_succ]
            refine wpAnyH_take (i := 1) (v := (.agg (quC (z0 s) ((n : Int) + 1) (.slice A8 ys8.length c8)).toArray)) (get_ops _ _ _ rfl) (by kernel_rfl) (by kernel_rfl) (by kernel_rfl) (fun _ _ _ h => h) (Or.inl ⟨by rfl, fun wS hSw => by (try dsimp only at hSw); exact exec_load 26 _ rfl ⟨gQ8, 0, none⟩ (by go_simp) _ (load_qu hSw.2)⟩) hHeld ?_
            try simp only [Act.put, List.setIfInBounds_toArray, List.set_cons_zero, List.set_cons_succ]
            refine wpAnyH_ready (rs := [2]) (by kernel_rfl) (by simp) ?_
            refine (AllReadyH.cons (get_ops _ _ _ rfl) (fun K hK => ?_) AllReadyH.nil)
            refine S2.wp_store_all 34 _ _ rfl rfl gE (by go_simp) (enX y0.x a8 ac8) (by first | rfl | go_simp) 34 _ E_y16.out enSize rfl (enX_one _ _ _) ?_
            intro y17 hM hP
            have E_y17 : Hid (BK 34 y17 gE (enX y0.x a8 ac8)) := Lib.hid (hM)
            have Q_y17 : Hid (BK 26 y17 gQ (quC (z0 s) ((n : Int) + 1) (.slice A2 ys2.length c2))) := Lib.hid (hP.other Q_y16.out (by have h1 := HGE.out.1; omega))
            have B_y17 : Hid (Below w.heap.size w y17) := Lib.hid (hP.below B_y16.out HGE.out.2)
            have L_y17 : Hid (EN y17 wr.heap.size A8 ys8) := Lib.hid (LN.put L_y16.out hP HB8.out.2)
            have E8_y17 : Hid (BK 34 y17 gE8 (enX y0.x a8 ac8)) := Lib.hid (hP.other E8_y16.out (by have h1 := HGE8.out; have h2 := HEL.out; have h3 := HSX.out; omega))
            have Q8_y17 : Hid (BK 26 y17 gQ8 (quC (z0 s) ((n : Int) + 1) (.slice A8 ys8.length c8))) := Lib.hid (hP.other Q8_y16.out (by have h1 := HGQ8.out; have h2 := HEL.out; have h3 := HSX.out; omega))
            clear Q_y16 E_y16 B_y16 L_y16 E8_y16 Q8_y16
            clear hM hP hHeld
            refine hK.out _ _ ⟨E8_y17.out, Q8_y17.out⟩ (fun hHeld => ?_)
            clear hK K
            try simp only [Act.put, List.setIfInBounds_toArray, List.set_cons_zero, List.set_cons_succ]
            refine wpAnyH_ready (rs := [3]) (by kernel_rfl) (by simp) ?_
            refine (AllReadyH.cons (get_ops _ _ _ rfl) (fun K hK => ?_) AllReadyH.nil)
            refine S2.wp_store_all 26 _ _ rfl rfl gQ (by go_simp) (quC (z0 s) ((n : Int) + 1) (.slice A8 ys8.length c8)) (by first | rfl | go_simp) 26 _ Q_y17.out quSize rfl (quC_one _ rfl) ?_
            intro y18 hM hP
            have Q_y18 : Hid (BK 26 y18 gQ (quC (z0 s) ((n : Int) + 1) (.slice A8 ys8.length c8))) := Lib.hid (hM)
            have E_y18 : Hid (BK 34 y18 gE (enX y0.x a8 ac8)) := Lib.hid (hP.other E_y17.out (by have h1 := HGE.out.1; omega))
            have B_y18 : Hid (Below w.heap.size w y18) := Lib.hid (hP.below B_y17.out HWQ.out)
            have L_y18 : Hid (EN y18 wr.heap.size A8 ys8) := Lib.hid (LN.put L_y17.out hP HB8.out.1)
            have E8_y18 : Hid (BK 34 y18 gE8 (enX y0.x a8 ac8)) := Lib.hid (hP.other E8_y17.out (by have h1 := HGE8.out; have h2 := HQL.out; have h3 := HSX.out; omega))
            have Q8_y18 : Hid (BK 26 y18 gQ8 (quC (z0 s) ((n : Int) + 1) (.slice A8 ys8.length c8))) := Lib.hid (hP.other Q8_y17.out (by have h1 := HGQ8.out; have h2 := HQL.out; have h3 := HSX.out; omega))
            clear Q_y17 E_y17 B_y17 L_y17 E8_y17 Q8_y17
            clear hM hP hHeld
            refine hK.out _ _ ⟨E8_y18.out, Q8_y18.out⟩ (fun hHeld => ?_)
            clear hK K
            try simp only [Act.put, List.setIfInBounds_toArray, List.set_cons_zero, List.set_cons_succ]
            refine wpAnyH_done (by kernel_rfl) ?_ _
            have w1a : i ≤ 1000 := by have := HI40.out; omega
            go_wp2
            go_roundg g
            case measure => omega
            case rel => exact ⟨i + 1, A8, c8, ys8, y0.x, a8, ac8, by have := HI.out; omega, by go_num, Q_y18.out, L_y18.out.1, HC8.out, by rw [HY8.out, HY2.out, List.drop_drop], E_y18.out, (fun _ => HYI.out), B_y18.out⟩
    | succ g =>
      have hlt : j < l.length := by omega
      have e3 : decide ((j : Int) < (l.length : Int)) = true := decide_eq_true (by omega)
      obtain ⟨q, hq0⟩ : ∃ q, l[j]? = some q := ⟨_, List.getElem?_eq_getElem hlt⟩
      obtain ⟨b, o, hA3, hbB, hcl, hpl⟩ := (HS.out.step HBB.out).at_ hq0
      obtain ⟨kd, nw, nn, m, ma, mc, x, xa, xc⟩ := q
      have HLD : Hid ((loadVar 36 ⟨b, o + j * 24, none⟩).run Tryd.prog wr = .ok (.agg (oqC kd nw nn m ma mc x xa xc).toArray) wr) := Lib.hid (run_load_cells wr b (o + j * 24) (oqC kd nw nn m ma mc x xa xc) 36 _ hcl Tryd.underlying36 rfl oqSize)
      have HP : Hid (PL wr wr.heap.size ma m.props) := Lib.hid hpl
      subst hA3
      have j1 : (0 : Int) ≤ (j : Int) := by omega
      have j2 : (j : Int) < (l.length : Int) := by omega
      have hlk : j ≤ 1000000 := by have := HL40.out; omega
      clear hcl hpl hbB hq0 hjg
      have C_wr : Hid (Below wr.heap.size wr wr) := Lib.hid (Below.refl _ _)
      go_upto_region 10 with first
        | (refine wpList_load_v (by rfl) 36 _ rfl ⟨b, o + j * 24, none⟩ (by simp [Act.eval, Act.put]) _ HLD.out ?_)
        | (refine S2.wpList_store_all (by rfl) 36 (.tmp 10) (.tmp 55) rfl rfl (wr.heap.size) rfl (oqC kd nw nn m ma mc x xa xc) rfl 36 _ (BK.new wr _ _) oqSize rfl (ones rfl) ?_; intro y17 hM hP; have hb : Below wr.heap.size wr y17 := hP.below (S2.below_new wr _) (Nat.le_refl _); have C_y17 : Hid (Below wr.heap.size wr y17) := Lib.hid (stepB C_wr.out hb); have O_y17 : Hid (BK 36 y17 (wr.heap.size) (oqC kd nw nn m ma mc x xa xc)) := Lib.hid hM; clear hM hP hb C_wr)
      obtain ⟨gO, hgO⟩ : ∃ b, b = wr.heap.size := ⟨_, rfl⟩
      have HGO : Hid (wr.heap.size ≤ gO) := Lib.hid (by rw [hgO]; exact Nat.le_refl _)
      rw [← hgO] at O_y17
      try rw [← hgO]
      have HGQ : Hid (gQ < wr.heap.size) := Lib.hid HQ.out.lt
      clear hgO HLD e3 j1 j2 hlk hlt
      have d0 := O_y17.out.cell 0 rfl
      by_cases k0 : kd = 0
      · have e1 : (kd == 0) = true := by simp [k0]
        clear k0
        go_upto_region 18 with fail
        go_upto_region 19 with first
          | (refine wpList_store_in (by rfl) 3 (.tmp 96) (.const (.int .i64 0)) rfl rfl gO 8 1 (by first | rfl | go_simp) (.int .i64 0) rfl 36 (oqC kd nw nn m ma mc x xa xc) [.int .i64 0] O_y17.out rfl rfl (by kernel_rfl) (by show 8 + 1 ≤ 24; decide) (ones rfl) ?_; intro y18 hM hP; have O_y18 : Hid (BK 36 y18 gO (oqC kd nw nn (e0 m) ma mc x xa xc)) := Lib.hid hM; have C_y18 : Hid (Below wr.heap.size wr y18) := Lib.hid (hP.below C_y17.out HGO.out); clear hM hP O_y17 C_y17)
        clear d0 e1
        have hpu := fun w1 h1 h2 h3 => qPush_any (z0 s) ((n : Int) + 1) A1 c1 ys1 (e0 m) ma mc 7 w1 h1 h2 h3 HQI.out.srt (by have := HYL.out; omega) (fun y hy => HQI.out.props (List.mem_append_left _ (List.mem_map_of_mem hy))) (by omega)
        have hps : pushK (z0 s) ((n : Int) + 1) ys1.length (e0 m) 7 = 0 → QOI (n + 1) (insQ (ys1.map EE.x) (pushE ((n : Int) + 1) 7 (e0 m))) (xs1.map EE.x) := fun h => HQI.out.push (by rw [List.length_map]; exact h)
        generalize pushK (z0 s) ((n : Int) + 1) ys1.length (e0 m) 7 = pk at hpu hps
        unfold RetK RetQ quV msgV at hpu
        by_cases p0 : pk = 0
        · subst p0
          simp only [↓reduceIte] at hpu
          have HPS := Lib.hid (hps rfl)
          clear hps
          have HPU := Lib.hid hpu
          clear hpu
          have HSZ : Hid (wr.heap.size ≤ y18.heap.size) := Lib.hid C_y18.out.size
          go_wp2_with first
            | (refine wpList_load_v (by rfl) 26 (.tmp 5) rfl ⟨gQ, 0, none⟩ rfl (.agg (quC (z0 s) ((n : Int) + 1) (.slice A1 ys1.length c1)).toArray) (load_qu (HQ.out.step C_y18.out)) ?_)
            | (refine wpList_load_v (by rfl) 32 (.tmp 99) rfl ⟨gO, 3, none⟩ rfl (.agg (msgC (e0 m) ma mc).toArray) (load_oqm2 O_y18.out) ?_)
          refine (HPU.out y18 (HO.out.step (stepB HBB.out C_y18.out)) (HK.out.step C_y18.out) (GL.step HP.out C_y18.out)).mono ?_
          rintro e y19 ⟨v5, ys5, rfl, hys, hL, hb⟩
          have C_y19 : Hid (Below wr.heap.size wr y19) := Lib.hid (stepB C_y18.out hb)
          have O_y19 : Hid (BK 36 y19 gO (oqC kd nw nn (e0 m) ma mc x xa xc)) := Lib.hid (O_y18.out.step hb)
          clear C_y18 O_y18
          obtain ⟨A5, c5, rfl, hc5, hen5⟩ := LN.of gE_len hL
          have HY5 := Lib.hid hys
          have HC5 := Lib.hid hc5
          have HB5 : Hid (gQ < y18.heap.size) := Lib.hid (Nat.lt_of_lt_of_le HGQ.out HSZ.out)
          have L_y19 : Hid (EN y19 y18.heap.size A5 ys5) := Lib.hid hen5
          clear hL hys hc5 hen5
          clear hb
          clear O_y19
          go_upto_region 20 with first
            | (refine S2.wpList_store_all (by rfl) 26 (.tmp 11) (.tmp 102) rfl rfl (y19.heap.size) rfl (quC (z0 s) ((n : Int) + 1 + 1) (.slice A5 ys5.length c5)) rfl 26 _ (BK.new y19 _ _) quSize rfl (ones rfl) ?_; intro y20 hM hP; have hb : Below y19.heap.size y19 y20 := hP.below (S2.below_new y19 _) (Nat.le_refl _); have C_y20 : Hid (Below wr.heap.size wr y20) := Lib.hid (stepB C_y19.out hb); have L_y20 : Hid (EN y20 y18.heap.size A5 ys5) := Lib.hid (LN.step L_y19.out hb); have R_y20 : Hid (BK 26 y20 (y19.heap.size) (quC (z0 s) ((n : Int) + 1 + 1) (.slice A5 ys5.length c5))) := Lib.hid hM; clear hM hP hb C_y19 L_y19)
          obtain ⟨gR, hgR⟩ : ∃ gR, gR = y19.heap.size := ⟨_, rfl⟩
          rw [← hgR] at R_y20
          try rw [← hgR]
          clear hgR
          have Q_y20 : Hid (BK 26 y20 gQ (quC (z0 s) ((n : Int) + 1) (.slice A1 ys1.length c1))) := Lib.hid (HQ.out.step C_y20.out)
          have U_y20 : Hid (Out B0 wr.heap.size y20 u xs1) := Lib.hid (HU.out.step C_y20.out)
          have B_y20 : Hid (Below w.heap.size w y20) := Lib.hid (stepB HBB.out C_y20.out)
          have Z_y20 : Hid (wr.heap.size ≤ y20.heap.size) := Lib.hid (C_y20.out.size)
          clear C_y20
          have w1a : j ≤ 1000 := by have := HYL.out; omega
          have w1b : n ≤ 1000 := by have := HYL.out; omega
          go_wp2_with first
            | (refine wpList_load_v (by rfl) 26 (.tmp 11) rfl ⟨gR, 0, none⟩ rfl (.agg (quC (z0 s) ((n : Int) + 1 + 1) (.slice A5 ys5.length c5)).toArray) (load_qu R_y20.out) ?_)
            | (refine S2.wpList_store_all (by rfl) 26 (.tmp 5) (.tmp 106) rfl rfl (gQ) rfl (quC (z0 s) ((n : Int) + 1 + 1) (.slice A5 ys5.length c5)) rfl 26 _ Q_y20.out quSize rfl (ones rfl) ?_; intro y21 hM hP; have Q_y21 : Hid (BK 26 y21 (gQ) (quC (z0 s) ((n : Int) + 1 + 1) (.slice A5 ys5.length c5))) := Lib.hid hM; have L_y21 : Hid (EN y21 y18.heap.size A5 ys5) := Lib.hid (LN.put L_y20.out hP HB5.out); have U_y21 : Hid (Out B0 wr.heap.size y21 u xs1) := Lib.hid (Out.put U_y20.out hP HGB.out); have B_y21 : Hid (Below w.heap.size w y21) := Lib.hid (hP.below B_y20.out HWQ.out); have Z_y21 : Hid (wr.heap.size ≤ y21.heap.size) := Lib.hid (by have h9 := hP.size; have h8 := Z_y20.out; omega); clear hM hP L_y20 R_y20 Q_y20 U_y20 B_y20 Z_y20)
          go_roundg g
          case measure => omega
          case rel => exact ⟨j + 1, (n + 1), A5, c5, ys5, xs1, _, rfl, by have := HJ.out; omega, by go_num, by go_num, by have := HNJ.out; omega, by rw [HY5.out]; exact HPS.out, (by have h := Q_y21.out; rw [show ((n : Int) + 1 + 1) = (((n + 1 : Nat) : Int) + 1) by omega] at h; exact h), L_y21.out.1, HC5.out, U_y21.out.more Z_y21.out, B_y21.out, Nat.le_trans HZZ.out Z_y21.out⟩
        · simp only [if_neg p0] at hpu
          clear hps
          have HPU := Lib.hid hpu
          clear hpu
          go_wp2_with first
            | (refine wpList_load_v (by rfl) 26 (.tmp 5) rfl ⟨gQ, 0, none⟩ rfl (.agg (quC (z0 s) ((n : Int) + 1) (.slice A1 ys1.length c1)).toArray) (load_qu (HQ.out.step C_y18.out)) ?_)
            | (refine wpList_load_v (by rfl) 32 (.tmp 99) rfl ⟨gO, 3, none⟩ rfl (.agg (msgC (e0 m) ma mc).toArray) (load_oqm2 O_y18.out) ?_)
          refine (HPU.out y18 (HO.out.step (stepB HBB.out C_y18.out)) (HK.out.step C_y18.out) (GL.step HP.out C_y18.out)).mono ?_
          rintro e y22 ⟨v5, ys5, rfl, hys, hL, hb⟩
          have C_y22 : Hid (Below wr.heap.size wr y22) := Lib.hid (stepB C_y18.out hb)
          have O_y22 : Hid (BK 36 y22 gO (oqC kd nw nn (e0 m) ma mc x xa xc)) := Lib.hid (O_y18.out.step hb)
          clear C_y18 O_y18
          obtain ⟨A5, c5, rfl, _⟩ := hL.ret gE_len
          clear hL hys
          clear hb
          clear O_y22
          go_upto_region 20 with first
            | (refine S2.wpList_store_all (by rfl) 26 (.tmp 11) (.tmp 102) rfl rfl (y22.heap.size) rfl (quC Sp.zero 0 (.slice A5 ys5.length c5)) rfl 26 _ (BK.new y22 _ _) quSize rfl (ones rfl) ?_; intro y23 hM hP; have hb : Below y22.heap.size y22 y23 := hP.below (S2.below_new y22 _) (Nat.le_refl _); have C_y23 : Hid (Below wr.heap.size wr y23) := Lib.hid (stepB C_y22.out hb); have R_y23 : Hid (BK 26 y23 (y22.heap.size) (quC Sp.zero 0 (.slice A5 ys5.length c5))) := Lib.hid hM; clear hM hP hb C_y22)
          obtain ⟨gR, hgR⟩ : ∃ gR, gR = y22.heap.size := ⟨_, rfl⟩
          rw [← hgR] at R_y23
          try rw [← hgR]
          clear hgR
          have q1 : (pk == 0) = false := by simpa using p0
          clear p0
          have w1a : j ≤ 1000 := by have := HYL.out; omega
          have w1b : n ≤ 1000 := by have := HYL.out; omega
          go_wp2
          go_roundg g
          case measure => omega
          case rel => exact ⟨j + 1, n, A1, c1, ys1, xs1, _, rfl, by have := HJ.out; omega, by go_num, rfl, by have := HNJ.out; omega, HQI.out, HQ.out.step C_y23.out, HK.out.step C_y23.out, HC1.out, (HU.out.step C_y23.out).more C_y23.out.size, stepB HBB.out C_y23.out, Nat.le_trans HZZ.out C_y23.out.size⟩
      have e1 : (kd == 0) = false := by simpa using k0
      by_cases k1 : kd = 1
      · have e2 : (kd == 1) = true := by simp [k1]
        clear k0 k1
        go_upto_region 24 with fail
        clear d0 e1 e2
        clear O_y17
        by_cases hl0 : ys1.length = 0
        · have hp0 : ∀ w1, Calls Tryd.prog 15 #[quV (z0 s) ((n : Int) + 1) (.slice A1 ys1.length c1)] w1 (RetP0 w1) := fun w1 => by rw [hl0]; exact qPop0_any (z0 s) ((n : Int) + 1) A1 c1 w1
          unfold quV RetP0 enW enV at hp0
          have HP0 := Lib.hid hp0
          clear hp0 hl0
          go_wp2_with first
            | (refine wpList_load_v (by rfl) 26 (.tmp 5) rfl ⟨gQ, 0, none⟩ rfl (.agg (quC (z0 s) ((n : Int) + 1) (.slice A1 ys1.length c1)).toArray) (load_qu (HQ.out.step C_y17.out)) ?_)
          refine (HP0.out y17).mono ?_
          rintro e y24 ⟨rfl, hb⟩
          have C_y24 : Hid (Below wr.heap.size wr y24) := Lib.hid (stepB C_y17.out hb)
          clear C_y17
          clear hb
          have w1a : j ≤ 1000 := by have := HYL.out; omega
          have w1b : n ≤ 1000 := by have := HYL.out; omega
          go_wp2_with first
            | (refine S2.wpList_store_all (by rfl) 34 (.tmp 13) (.tmp 114) rfl rfl y24.heap.size rfl (enX En.zero none 0) rfl 34 (enX En.zero none 0) (BK.alloc (BK.new y24 _ _) _) enSize rfl (enX_one _ _ _) ?_; intro y25 hM hP; have XM := Lib.hid hM; have XP := Lib.hid hP; clear hM hP)
            | (refine S2.wpList_store_all (by rfl) 26 (.tmp 14) (.tmp 115) rfl rfl (y24.heap.size + 1) rfl zeroQ rfl 26 zeroQ (XP.out.other (bk_new1 y24 _ _ _) (by omega)) quSize rfl (quC_one _ rfl) ?_; intro y26 hM hP; have hb : Below y24.heap.size y24 y26 := hP.below (XP.out.below (stepB (S2.below_new y24 _) (S2.below_new _ _)) (Nat.le_refl _)) (by omega); have E8_y26 : Hid (BK 34 y26 y24.heap.size (enX En.zero none 0)) := Lib.hid (hP.other XM.out (by omega)); have Q8_y26 : Hid (BK 26 y26 (y24.heap.size + 1) zeroQ) := Lib.hid hM; have C_y26 : Hid (Below wr.heap.size wr y26) := Lib.hid (stepB C_y24.out hb); clear hM hP hb XM XP C_y24)
          obtain ⟨gQ8, hg2⟩ : ∃ b, b = y24.heap.size + 1 := ⟨_, rfl⟩
          obtain ⟨gE8, hg1⟩ : ∃ b, b = y24.heap.size := ⟨_, rfl⟩
          have HGE8 : Hid (y24.heap.size ≤ gE8) := Lib.hid (by rw [hg1]; exact Nat.le_refl _)
          have HGQ8 : Hid (y24.heap.size ≤ gQ8) := Lib.hid (by rw [hg2]; omega)
          rw [← hg2] at Q8_y26
          try rw [← hg2]
          clear hg2
          rw [← hg1] at E8_y26
          try rw [← hg1]
          clear hg1
          go_roundg g
          case measure => omega
          case rel => exact ⟨j + 1, n, A1, c1, ys1, xs1, _, rfl, by have := HJ.out; omega, by go_num, rfl, by have := HNJ.out; omega, HQI.out, HQ.out.step C_y26.out, HK.out.step C_y26.out, HC1.out, (HU.out.step C_y26.out).more C_y26.out.size, stepB HBB.out C_y26.out, Nat.le_trans HZZ.out C_y26.out.size⟩
        · obtain ⟨y0, hy0⟩ : ∃ y, ys1[0]? = some y := ⟨_, List.getElem?_eq_getElem (by omega)⟩
          have hp0 := fun w1 h1 => qPop_any (z0 s) ((n : Int) + 1) A1 c1 ys1 y0 w1 h1 hy0 HC1.out (by have := HYL.out; omega) (fun y hy => HQI.out.props (List.mem_append_left _ (List.mem_map_of_mem hy)))
          have hLc : ys1.map EE.x = y0.x :: (ys1.map EE.x).drop 1 := by cases ys1 with | nil => cases hy0 | cons z r => rw [List.getElem?_cons_zero] at hy0; cases hy0; rfl
          have hqp := HQI.out
          rw [hLc] at hqp
          have HQP := Lib.hid hqp.pop
          unfold RetP quV enW enV at hp0
          have HP0 := Lib.hid hp0
          clear hp0 hLc hqp hy0 hl0
          have HSZ : Hid (wr.heap.size ≤ y17.heap.size) := Lib.hid C_y17.out.size
          go_wp2_with first
            | (refine wpList_load_v (by rfl) 26 (.tmp 5) rfl ⟨gQ, 0, none⟩ rfl (.agg (quC (z0 s) ((n : Int) + 1) (.slice A1 ys1.length c1)).toArray) (load_qu (HQ.out.step C_y17.out)) ?_)
          refine (HP0.out y17 (HK.out.step C_y17.out)).mono ?_
          rintro e y27 ⟨a8, ac8, v8, ys8, rfl, hpl, hnl, hys8, hL8, hb⟩
          have C_y27 : Hid (Below wr.heap.size wr y27) := Lib.hid (stepB C_y17.out hb)
          clear C_y17
          obtain ⟨A8, c8, rfl, hc8, hen8⟩ := LN.of gE_len hL8
          have HY8 := Lib.hid hys8
          have HC8 := Lib.hid hc8
          have HN8 := Lib.hid hnl
          have HB8 : Hid (gQ < y17.heap.size) := Lib.hid (Nat.lt_of_lt_of_le HGQ.out HSZ.out)
          have L_y27 : Hid (EN y27 y17.heap.size A8 ys8) := Lib.hid hen8
          have P8_y27 : Hid (PN y27 y17.heap.size a8 y0.x.m.props) := Lib.hid ⟨hpl, hnl⟩
          clear hL8 hys8 hpl hnl hc8 hen8
          have Y_y27 : Hid (y17.heap.size ≤ y27.heap.size) := Lib.hid hb.size
          clear hb
          have HSZ2 : Hid (wr.heap.size ≤ y27.heap.size) := Lib.hid C_y27.out.size
          go_upto_region 26 with first
            | (refine S2.wpList_store_all (by rfl) 34 (.tmp 13) (.tmp 114) rfl rfl y27.heap.size rfl (enX y0.x a8 ac8) rfl 34 (enX En.zero none 0) (BK.alloc (BK.new y27 _ _) _) enSize rfl (enX_one _ _ _) ?_; intro y28 hM hP; have XM := Lib.hid hM; have XP := Lib.hid hP; clear hM hP)
            | (refine S2.wpList_store_all (by rfl) 26 (.tmp 14) (.tmp 115) rfl rfl (y27.heap.size + 1) rfl (quC (z0 s) ((n : Int) + 1) (.slice A8 ys8.length c8)) rfl 26 zeroQ (XP.out.other (bk_new1 y27 _ _ _) (by omega)) quSize rfl (quC_one _ rfl) ?_; intro y29 hM hP; have hb : Below y27.heap.size y27 y29 := hP.below (XP.out.below (stepB (S2.below_new y27 _) (S2.below_new _ _)) (Nat.le_refl _)) (by omega); have E8_y29 : Hid (BK 34 y29 y27.heap.size (enX y0.x a8 ac8)) := Lib.hid (hP.other XM.out (by omega)); have Q8_y29 : Hid (BK 26 y29 (y27.heap.size + 1) (quC (z0 s) ((n : Int) + 1) (.slice A8 ys8.length c8))) := Lib.hid hM; have C_y29 : Hid (Below wr.heap.size wr y29) := Lib.hid (stepB C_y27.out hb); have L_y29 : Hid (EN y29 y17.heap.size A8 ys8) := Lib.hid (LN.step L_y27.out hb); have P8_y29 : Hid (PN y29 y17.heap.size a8 y0.x.m.props) := Lib.hid (PN.step P8_y27.out hb); have Y_y29 : Hid (y17.heap.size ≤ y29.heap.size) := Lib.hid (Nat.le_trans Y_y27.out hb.size); clear hM hP hb XM XP C_y27 L_y27 P8_y27 Y_y27)
          obtain ⟨gQ8, hg2⟩ : ∃ b, b = y27.heap.size + 1 := ⟨_, rfl⟩
          obtain ⟨gE8, hg1⟩ : ∃ b, b = y27.heap.size := ⟨_, rfl⟩
          have HGE8 : Hid (y27.heap.size ≤ gE8) := Lib.hid (by rw [hg1]; exact Nat.le_refl _)
          have HGQ8 : Hid (y27.heap.size ≤ gQ8) := Lib.hid (by rw [hg2]; omega)
          rw [← hg2] at Q8_y29
          try rw [← hg2]
          clear hg2
          rw [← hg1] at E8_y29
          try rw [← hg1]
          clear hg1
          have Q_y29 : Hid (BK 26 y29 gQ (quC (z0 s) ((n : Int) + 1) (.slice A1 ys1.length c1))) := Lib.hid (HQ.out.step C_y29.out)
          have U_y29 : Hid (Out B0 wr.heap.size y29 u xs1) := Lib.hid (HU.out.step C_y29.out)
          have B_y29 : Hid (Below w.heap.size w y29) := Lib.hid (stepB HBB.out C_y29.out)
          have Z_y29 : Hid (wr.heap.size ≤ y29.heap.size) := Lib.hid (C_y29.out.size)
          clear C_y29
          have HG8W : Hid (gQ < gE8) := Lib.hid (by have h1 := HGE8.out; have h2 := HGQ.out; have h3 := HSZ2.out; omega)
          go_upto_region 27 with first
            | (refine wpList_load_v (by rfl) 26 (.tmp 14) rfl ⟨gQ8, 0, none⟩ rfl (.agg (quC (z0 s) ((n : Int) + 1) (.slice A8 ys8.length c8)).toArray) (load_qu Q8_y29.out) ?_)
            | (refine S2.wpList_store_all (by rfl) 26 (.tmp 5) (.tmp 118) rfl rfl (gQ) rfl (quC (z0 s) ((n : Int) + 1) (.slice A8 ys8.length c8)) rfl 26 _ Q_y29.out quSize rfl (ones rfl) ?_; intro y30 hM hP; have Q_y30 : Hid (BK 26 y30 (gQ) (quC (z0 s) ((n : Int) + 1) (.slice A8 ys8.length c8))) := Lib.hid hM; have L_y30 : Hid (EN y30 y17.heap.size A8 ys8) := Lib.hid (LN.put L_y29.out hP HB8.out); have P8_y30 : Hid (PN y30 y17.heap.size a8 y0.x.m.props) := Lib.hid (PN.put P8_y29.out hP HB8.out); have Y_y30 : Hid (y17.heap.size ≤ y30.heap.size) := Lib.hid (by have h9 := hP.size; have h8 := Y_y29.out; omega); have E8_y30 : Hid (BK 34 y30 gE8 (enX y0.x a8 ac8)) := Lib.hid (hP.other E8_y29.out (by have h1 := HGE8.out; have h2 := HB8.out; have h3 := HG8W.out; omega)); have U_y30 : Hid (Out B0 wr.heap.size y30 u xs1) := Lib.hid (Out.put U_y29.out hP HGB.out); have B_y30 : Hid (Below w.heap.size w y30) := Lib.hid (hP.below B_y29.out HWQ.out); have Z_y30 : Hid (wr.heap.size ≤ y30.heap.size) := Lib.hid (by have h9 := hP.size; have h8 := Z_y29.out; omega); clear hM hP L_y29 P8_y29 Y_y29 E8_y29 Q8_y29 Q_y29 U_y29 B_y29 Z_y29)
          have HBP : Hid (y17.heap.size ≤ y30.heap.size) := Lib.hid Y_y30.out
          have w1a : j ≤ 1000 := by have := HYL.out; omega
          have w1b : n ≤ 1000 := by have := HYL.out; omega
          go_wp2_with first
            | (refine wpList_load_v (by rfl) 34 (.tmp 13) rfl ⟨gE8, 0, none⟩ rfl (.agg (enX y0.x a8 ac8).toArray) (load_en0 E8_y30.out) ?_)
            | (at_builtin; refine wpList_out1 (B := B0) (N := wr.heap.size) (Bp := y17.heap.size) y30 rfl _ _ rfl u xs1 (⟨y0.x, a8, ac8⟩ : EE) (by rfl) U_y30.out (by rfl) P8_y30.out.1 P8_y30.out.2 HZZ.out HSZ.out HBP.out (by have := HYL.out; omega) ?_; intro v9 w9 hO hK; have U_w9 : Hid (Out B0 w9.heap.size w9 v9 (xs1 ++ [(⟨y0.x, a8, ac8⟩ : EE)])) := Lib.hid hO; have L_w9 : Hid (EN w9 y17.heap.size A8 ys8) := Lib.hid (hK.en L_y30.out); have Q_w9 : Hid (BK 26 w9 gQ (quC (z0 s) ((n : Int) + 1) (.slice A8 ys8.length c8))) := Lib.hid (hK.bk Q_y30.out (Or.inl HGB.out)); have B_w9 : Hid (Below w.heap.size w w9) := Lib.hid (hK.below B_y30.out HWB.out); have Z_w9 : Hid (B0 ≤ w9.heap.size) := Lib.hid (by have h1 := (hK.below (Below.refl 0 y30) (Nat.zero_le _)).size; have h2 := Z_y30.out; have h3 := HZZ.out; omega); clear hO hK)
          go_roundg g
          case measure => omega
          case rel => exact ⟨j + 1, n, A8, c8, ys8, (xs1 ++ [(⟨y0.x, a8, ac8⟩ : EE)]), _, rfl, by have := HJ.out; omega, by go_num, rfl, by have := HNJ.out; omega, by rw [List.map_append, HY8.out]; exact HQP.out, Q_w9.out, L_w9.out.1, HC8.out, U_w9.out, B_w9.out, Z_w9.out⟩
      have e2 : (kd == 1) = false := by simpa using k1
      clear k0 k1
      have d2 := O_y17.out.cell 2 rfl
      obtain ⟨Ao, co, rfl, hco, heo⟩ := HU.out.of
      have HCO := Lib.hid hco
      have HEO := Lib.hid heo
      clear hco heo
      by_cases n0 : nn < 0
      · have q1 : decide (nn < 0) = true := decide_eq_true n0
        clear n0
        have w1a : j ≤ 1000 := by have := HYL.out; omega
        have w1b : n ≤ 1000 := by have := HYL.out; omega
        go_wp2
        go_roundg g
        case measure => omega
        case rel => exact ⟨j + 1, n, A1, c1, ys1, xs1, _, rfl, by have := HJ.out; omega, by go_num, rfl, by have := HNJ.out; omega, HQI.out, HQ.out.step C_y17.out, HK.out.step C_y17.out, HC1.out, (HU.out.step C_y17.out).more C_y17.out.size, stepB HBB.out C_y17.out, Nat.le_trans HZZ.out C_y17.out.size⟩
      by_cases n1 : (xs1.length : Int) ≤ nn
      · have q1 : decide (nn < 0) = false := decide_eq_false n0
        have q2 : decide (nn ≥ (xs1.length : Int)) = true := decide_eq_true n1
        have q3 : decide ((xs1.length : Int) ≤ nn) = true := decide_eq_true n1
        clear n0 n1
        have w1a : j ≤ 1000 := by have := HYL.out; omega
        have w1b : n ≤ 1000 := by have := HYL.out; omega
        go_wp2
        go_roundg g
        case measure => omega
        case rel => exact ⟨j + 1, n, A1, c1, ys1, xs1, _, rfl, by have := HJ.out; omega, by go_num, rfl, by have := HNJ.out; omega, HQI.out, HQ.out.step C_y17.out, HK.out.step C_y17.out, HC1.out, (HU.out.step C_y17.out).more C_y17.out.size, stepB HBB.out C_y17.out, Nat.le_trans HZZ.out C_y17.out.size⟩
      obtain ⟨i, hi⟩ : ∃ i : Nat, nn = (i : Int) := ⟨nn.toNat, by omega⟩
      subst hi
      have hix : i < xs1.length := by omega
      have q1 : decide ((i : Int) < 0) = false := decide_eq_false n0
      have q2 : decide ((i : Int) ≥ (xs1.length : Int)) = false := decide_eq_false n1
      have q3 : decide ((xs1.length : Int) ≤ (i : Int)) = false := decide_eq_false n1
      have q4 : ¬ xs1.length ≤ i := by omega
      have q5 : decide (xs1.length ≤ i) = false := decide_eq_false q4
      clear n0 n1
      go_upto_region 12 with fail
      clear q1 q2 q3 q4 q5 d0 d2 e1 e2
      obtain ⟨z, hz⟩ : ∃ z, xs1[i]? = some z := ⟨_, List.getElem?_eq_getElem hix⟩
      have hzX : (xs1.map EE.x)[i]? = some z.x := by rw [List.getElem?_map, hz]; rfl
      obtain ⟨hqr, hrk⟩ := (HQI.out.ret hzX).resolve_right (by rw [List.length_map]; have := HYL.out; omega)
      have hzp : z.x.m.props.length ≤ 4398046511104 := HQI.out.props (List.mem_append_right _ (List.mem_of_getElem? hzX))
      obtain ⟨bo, oo, hAo, _, hzc, hzpl⟩ := HEO.out.1.at_ hz
      have HZN := Lib.hid (HEO.out.2.2 z (List.mem_of_getElem? hz))
      have HZL : Hid (∀ w', Below wr.heap.size wr w' → (loadVar 34 ⟨bo, oo + i * 12, none⟩).run Tryd.prog w' = .ok (.agg (gE z).toArray) w') := Lib.hid (fun w' h' => by
        obtain ⟨p', o2, hA', _, hcl', _⟩ := LI.at_ (HEO.out.1.step h') hz
        rw [hAo] at hA'
        simp only [Option.some.injEq, Addr.mk.injEq, and_true] at hA'
        obtain ⟨rfl, rfl⟩ := hA'
        exact load_ent hcl')
      have HZP : Hid (PL wr wr.heap.size z.a z.x.m.props) := Lib.hid hzpl
      subst hAo
      have hre := fun w1 h1 h2 h3 => qReturn_any (z0 s) ((n : Int) + 1) A1 c1 ys1 z.x z.a z.c w1 h1 h2 h3 HQI.out.srt (by have := HYL.out; omega) (fun y hy => HQI.out.props (List.mem_append_left _ (List.mem_map_of_mem hy))) (by have := HYL.out; omega)
      rw [hrk] at hre
      unfold RetK RetQ quV enW enV at hre
      simp only [↓reduceIte] at hre
      have HRE := Lib.hid hre
      have HQR := Lib.hid hqr
      have HIX := Lib.hid hix
      have zn2 : (i : Int) < (xs1.length : Int) := by omega
      have zn3 : (0 : Int) ≤ (i : Int) := by omega
      have zn4 : i ≤ 1000000 := by have := HYL.out; omega
      clear hre hqr hrk hzX hzp hzc hzpl hz hix
      obtain ⟨y31, hy31⟩ : ∃ y31, y31 = World.drew y17 := ⟨_, rfl⟩
      have hbD : Below y17.heap.size y17 y31 := by rw [hy31]; exact (Below.refl _ _).drew
      have C_y31 : Hid (Below wr.heap.size wr y31) := Lib.hid (stepB C_y17.out hbD)
      have O_y31 : Hid (BK 36 y31 gO (oqC kd nw (i : Int) m ma mc x xa xc)) := Lib.hid (O_y17.out.step hbD)
      clear C_y17 O_y17
      have hbd : (fun w' => Below wr.heap.size wr w' ∧ BK 36 w' gO (oqC kd nw (i : Int) m ma mc x xa xc)) (World.drew y17) := by rw [← hy31]; exact ⟨C_y31.out, O_y31.out⟩
      have hSD : (fun w' => Below wr.heap.size wr w' ∧ BK 36 w' gO (oqC kd nw (i : Int) m ma mc x xa xc)) y31 := ⟨C_y31.out, O_y31.out⟩
      have HWD := Lib.hid hy31
      clear hy31 hbD
      refine wp_region_held_drew (S := fun w' => Below wr.heap.size wr w' ∧ BK 36 w' gO (oqC kd nw (i : Int) m ma mc x xa xc)) (by kernel_rfl) hbd (fun hHeld => ?_)
      rw [← HWD.out]
      clear hHeld
      have hHeld := hSD
      clear hSD hbd HWD
      refine wpAnyH_take (i := 0) (v := (.agg (quC (z0 s) ((n : Int) + 1) (.slice A1 ys1.length c1)).toArray)) (get_ops _ _ _ rfl) (by kernel_rfl) (by kernel_rfl) (by kernel_rfl) (fun _ _ _ h => h) (Or.inl ⟨by rfl, fun wS hSw => by (try dsimp only at hSw); exact exec_load 26 _ rfl ⟨gQ, 0, none⟩ (by go_simp) _ (load_qu (HQ.out.step hSw.1))⟩) hHeld ?_
      try simp only [Act.put, List.setIfInBounds_toArray, List.set_cons_zero, List.set_cons_succ]
      refine wpAnyH_take (i := 1) (v := (.slice (some ⟨bo, oo, none⟩) xs1.length co)) (get_ops _ _ _ rfl) (by kernel_rfl) (by kernel_rfl) (by kernel_rfl) (fun _ _ _ h => h) (Or.inl ⟨by rfl, fun wS hSw => by (try dsimp only at hSw); go_simp⟩) hHeld ?_
      try simp only [Act.put, List.setIfInBounds_toArray, List.set_cons_zero, List.set_cons_succ]
      refine wpAnyH_take (i := 2) (v := (.pointer (some ⟨gO, 2, none⟩))) (get_ops _ _ _ rfl) (by kernel_rfl) (by kernel_rfl) (by kernel_rfl) (fun _ _ _ h => h) (Or.inl ⟨by rfl, fun wS hSw => by (try dsimp only at hSw); go_simp⟩) hHeld ?_
      try simp only [Act.put, List.setIfInBounds_toArray, List.set_cons_zero, List.set_cons_succ]
      refine wpAnyH_take (i := 3) (v := (.int .i64 (i : Int))) (get_ops _ _ _ rfl) (by kernel_rfl) (by kernel_rfl) (by kernel_rfl) (fun _ _ _ h => h) (Or.inl ⟨by rfl, fun wS hSw => by (try dsimp only at hSw); have cS : wS.cell? ⟨gO, 2, none⟩ = some (.int .i64 (i : Int)) := hSw.2.cell 2 rfl; clear hSw; go_simp⟩) hHeld ?_
      try simp only [Act.put, List.setIfInBounds_toArray, List.set_cons_zero, List.set_cons_succ]
      refine wpAnyH_take (i := 4) (v := (.pointer (some ⟨bo, oo + i * 12, none⟩))) (get_ops _ _ _ rfl) (by kernel_rfl) (by kernel_rfl) (by kernel_rfl) (fun _ _ _ h => h) (Or.inl ⟨by rfl, fun wS hSw => by (try dsimp only at hSw); go_simp⟩) hHeld ?_
      try simp only [Act.put, List.setIfInBounds_toArray, List.set_cons_zero, List.set_cons_succ]
      refine wpAnyH_take (i := 5) (v := (.agg (gE z).toArray)) (get_ops _ _ _ rfl) (by kernel_rfl) (by kernel_rfl) (by kernel_rfl) (fun _ _ _ h => h) (Or.inl ⟨by rfl, fun wS hSw => by (try dsimp only at hSw); exact exec_load 34 _ rfl ⟨bo, oo + i * 12, none⟩ (by go_simp) _ (HZL.out wS hSw.1)⟩) hHeld ?_
      try simp only [Act.put, List.setIfInBounds_toArray, List.set_cons_zero, List.set_cons_succ]
      refine wpAnyH_ready (rs := [6, 10]) (by kernel_rfl) (by simp) ?_
      refine (AllReadyH.cons (get_ops _ _ _ rfl) (fun K hK => ?_) (AllReadyH.cons (get_ops _ _ _ rfl) (fun K hK => ?_) AllReadyH.nil))
      · have HSZ : Hid (wr.heap.size ≤ y31.heap.size) := Lib.hid C_y31.out.size
        go_simp
        refine (HRE.out y31 (HO.out.step (stepB HBB.out C_y31.out)) (HK.out.step C_y31.out) (GL.step HZP.out C_y31.out)).mono ?_
        rintro e y32 ⟨v6, ys6, rfl, hys, hL, hb⟩
        have C_y32 : Hid (Below wr.heap.size wr y32) := Lib.hid (stepB C_y31.out hb)
        have O_y32 : Hid (BK 36 y32 gO (oqC kd nw (i : Int) m ma mc x xa xc)) := Lib.hid (O_y31.out.step hb)
        clear C_y31 O_y31
        obtain ⟨A6, c6, rfl, hc6, hen6⟩ := LN.of gE_len hL
        have HY6 := Lib.hid hys
        have HC6 := Lib.hid hc6
        have L_y32 : Hid (ER y32 y31.heap.size y32.heap.size A6 ys6) := Lib.hid (ER.of hen6)
        have HB6 : Hid (gQ < y31.heap.size) := Lib.hid (Nat.lt_of_lt_of_le HGQ.out HSZ.out)
        clear hL hen6 hys hc6
        clear hHeld hb
        go_wp2_with fail
        refine hK.out _ _ ⟨C_y32.out, O_y32.out⟩ (fun hHeld => ?_)
        clear hK K
        try simp only [Act.put, List.setIfInBounds_toArray, List.set_cons_zero, List.set_cons_succ]
        refine wpAnyH_take (i := 7) (v := (.tuple #[.agg (quC (z0 s) ((n : Int) + 1) (.slice A6 ys6.length c6)).toArray, .int .i64 0])) (get_ops _ _ _ rfl) (by kernel_rfl) (by kernel_rfl) (by kernel_rfl) (fun _ _ _ h => h) (Or.inl ⟨by rfl, fun wS hSw => by (try dsimp only at hSw); go_simp⟩) hHeld ?_
        try simp only [Act.put, List.setIfInBounds_toArray, List.set_cons_zero, List.set_cons_succ]
        refine wpAnyH_take (i := 8) (v := (.agg (quC (z0 s) ((n : Int) + 1) (.slice A6 ys6.length c6)).toArray)) (get_ops _ _ _ rfl) (by kernel_rfl) (by kernel_rfl) (by kernel_rfl) (fun _ _ _ h => h) (Or.inl ⟨by rfl, fun wS hSw => by (try dsimp only at hSw); go_simp⟩) hHeld ?_
        try simp only [Act.put, List.setIfInBounds_toArray, List.set_cons_zero, List.set_cons_succ]
        refine wpAnyH_take (i := 9) (v := (.int .i64 0)) (get_ops _ _ _ rfl) (by kernel_rfl) (by kernel_rfl) (by kernel_rfl) (fun _ _ _ h => h) (Or.inl ⟨by rfl, fun wS hSw => by (try dsimp only at hSw); go_simp⟩) hHeld ?_
        try simp only [Act.put, List.setIfInBounds_toArray, List.set_cons_zero, List.set_cons_succ]
        refine wpAnyH_ready (rs := [10]) (by kernel_rfl) (by simp) ?_
        refine (AllReadyH.cons (get_ops _ _ _ rfl) (fun K hK => ?_) AllReadyH.nil)
        have HRW : Hid (wr.heap.size ≤ y32.heap.size) := Lib.hid C_y32.out.size
        have HNL : Hid (y32.heap.size ≤ y32.heap.size) := Lib.hid L_y32.out.2.1
        have HGR : Hid (gO < y32.heap.size) := Lib.hid O_y32.out.lt
        go_simp
        obtain ⟨y33, hy33⟩ : ∃ y33, y33 = y32.alloc (.cells ([.string ⟨#[]⟩, .int .i64 0, .int .i64 0, .int .i64 0, .string ⟨#[]⟩, .int .i64 0, .slice none 0 0] : List Value).toArray 26) := ⟨_, rfl⟩
        have hb : Below y32.heap.size y32 y33 := by rw [hy33]; exact S2.below_new _ _
        have hN : BK 26 y33 (y32.heap.size) ([.string ⟨#[]⟩, .int .i64 0, .int .i64 0, .int .i64 0, .string ⟨#[]⟩, .int .i64 0, .slice none 0 0] : List Value) := by rw [hy33]; exact BK.new _ _ _
        have C_y33 : Hid (Below wr.heap.size wr y33) := Lib.hid (stepB C_y32.out hb)
        have O_y33 : Hid (BK 36 y33 gO (oqC kd nw (i : Int) m ma mc x xa xc)) := Lib.hid (O_y32.out.step hb)
        have L_y33 : Hid (ER y33 y31.heap.size y32.heap.size A6 ys6) := Lib.hid (ER.step L_y32.out hb)
        clear C_y32 O_y32 L_y32
        have R_y33 := Lib.hid hN
        try rw [← hy33]
        clear hHeld hb hN hy33
        refine hK.out _ _ ⟨C_y33.out, O_y33.out⟩ (fun hHeld => ?_)
        clear hK K
        try simp only [Act.put, List.setIfInBounds_toArray, List.set_cons_zero, List.set_cons_succ]
        refine wpAnyH_ready (rs := [11]) (by kernel_rfl) (by simp) ?_
        refine (AllReadyH.cons (get_ops _ _ _ rfl) (fun K hK => ?_) AllReadyH.nil)
        refine S2.wp_store_all 26 _ _ rfl rfl (y32.heap.size) (by go_simp) (quC (z0 s) ((n : Int) + 1) (.slice A6 ys6.length c6)) (by first | rfl | go_simp) 26 _ R_y33.out quSize rfl (quC_one _ rfl) ?_
        intro y34 hM hP
        have R_y34 : Hid (BK 26 y34 (y32.heap.size) (quC (z0 s) ((n : Int) + 1) (.slice A6 ys6.length c6))) := Lib.hid (hM)
        have C_y34 : Hid (Below wr.heap.size wr y34) := Lib.hid (hP.below C_y33.out HRW.out)
        have O_y34 : Hid (BK 36 y34 gO (oqC kd nw (i : Int) m ma mc x xa xc)) := Lib.hid (hP.other O_y33.out (by have h1 := HGR.out; omega))
        have L_y34 : Hid (ER y34 y31.heap.size y32.heap.size A6 ys6) := Lib.hid (ER.put L_y33.out hP (Or.inr HNL.out))
        clear C_y33 O_y33 L_y33 R_y33
        clear hM hP hHeld
        refine hK.out _ _ ⟨C_y34.out, O_y34.out⟩ (fun hHeld => ?_)
        clear hK K
        try simp only [Act.put, List.setIfInBounds_toArray, List.set_cons_zero, List.set_cons_succ]
        refine wpAnyH_take (i := 12) (v := (.int .i64 0)) (get_ops _ _ _ rfl) (by kernel_rfl) (by kernel_rfl) (by kernel_rfl) (fun _ _ _ h => h) (Or.inl ⟨by rfl, fun wS hSw => by (try dsimp only at hSw); go_simp⟩) hHeld ?_
        try simp only [Act.put, List.setIfInBounds_toArray, List.set_cons_zero, List.set_cons_succ]
        refine wpAnyH_done (by kernel_rfl) ?_ _
        clear zn2 zn3 zn4
        have Q_y34 : Hid (BK 26 y34 gQ (quC (z0 s) ((n : Int) + 1) (.slice A1 ys1.length c1))) := Lib.hid (HQ.out.step C_y34.out)
        have U_y34 : Hid (EN y34 B0 (some ⟨bo, oo, none⟩) xs1) := Lib.hid (HEO.out.step C_y34.out)
        have B_y34 : Hid (Below w.heap.size w y34) := Lib.hid (stepB HBB.out C_y34.out)
        have Z_y34 : Hid (wr.heap.size ≤ y34.heap.size) := Lib.hid (C_y34.out.size)
        clear C_y34
        go_upto_region 16 with first
          | (refine wpList_load_v (by rfl) 26 (.tmp 16) rfl ⟨(y32.heap.size), 0, none⟩ rfl (.agg (quC (z0 s) ((n : Int) + 1) (.slice A6 ys6.length c6)).toArray) (load_qu R_y34.out) ?_)
          | (refine S2.wpList_store_all (by rfl) 26 (.tmp 5) (.tmp 80) rfl rfl (gQ) rfl (quC (z0 s) ((n : Int) + 1) (.slice A6 ys6.length c6)) rfl 26 _ Q_y34.out quSize rfl (ones rfl) ?_; intro y35 hM hP; have Q_y35 : Hid (BK 26 y35 (gQ) (quC (z0 s) ((n : Int) + 1) (.slice A6 ys6.length c6))) := Lib.hid hM; have O_y35 : Hid (BK 36 y35 gO (oqC kd nw (i : Int) m ma mc x xa xc)) := Lib.hid (hP.other O_y34.out (by have h1 := HGQ.out; have h2 := HGO.out; omega)); have L_y35 : Hid (ER y35 y31.heap.size y32.heap.size A6 ys6) := Lib.hid (ER.put L_y34.out hP (Or.inl HB6.out)); have U_y35 : Hid (EN y35 B0 (some ⟨bo, oo, none⟩) xs1) := Lib.hid (LN.put U_y34.out hP HGB.out); have B_y35 : Hid (Below w.heap.size w y35) := Lib.hid (hP.below B_y34.out HWQ.out); have Z_y35 : Hid (wr.heap.size ≤ y35.heap.size) := Lib.hid (by have h9 := hP.size; have h8 := Z_y34.out; omega); clear hM hP O_y34 L_y34 R_y34 Q_y34 U_y34 B_y34 Z_y34)
        obtain ⟨T1, hT1⟩ : ∃ t, t = xs1.take i := ⟨_, rfl⟩
        obtain ⟨T2, hT2⟩ : ∃ t, t = xs1.drop (i + 1) := ⟨_, rfl⟩
        have HT1 := Lib.hid hT1
        have HT2 := Lib.hid hT2
        have l1 : T1.length = i := by rw [hT1, List.length_take]; have := HIX.out; omega
        have l2 : T2.length = xs1.length - (i + 1) := by rw [hT2, List.length_drop]
        have HCA : Hid (∀ w', (Instr.slice 24 (.slice (some ⟨bo, oo, none⟩) xs1.length co) none (some (.int .i64 (i : Int))) (some (.int .i64 (i : Int)))).run Tryd.prog w' = .ok (.slice (some ⟨bo, oo, none⟩) T1.length T1.length) w') := Lib.hid (fun w' => by rw [l1]; exact sliceHM bo oo xs1.length co i (by have h1 := HIX.out; have h2 := HCO.out; omega) w')
        obtain ⟨Ad, hAd⟩ : ∃ a, a = (if co = i + 1 then (some ⟨bo, oo, none⟩ : Option Addr) else (some (⟨bo, oo, none⟩ : Addr)).map (·.add ((i + 1) * 12))) := ⟨_, rfl⟩
        have HCB : Hid (∀ w', (Instr.slice 24 (.slice (some ⟨bo, oo, none⟩) xs1.length co) (some (.int .i64 ((i : Int) + 1))) none none).run Tryd.prog w' = .ok (.slice Ad T2.length (co - (i + 1))) w') := Lib.hid (fun w' => by have h := cutE (some ⟨bo, oo, none⟩) xs1.length co (i + 1) (by have := HIX.out; omega) w'; rw [l2, hAd]; exact h)
        have HYD : Hid (∀ w', EN w' B0 (some ⟨bo, oo, none⟩) xs1 → EN w' B0 (some ⟨bo, oo, none⟩) T1 ∧ EI w' w'.heap.size Ad T2 ∧ ∀ y ∈ T2, NewL B0 y.a) := Lib.hid (fun w' h => by
          refine ⟨?_, ?_, ?_⟩
          · rw [hT1]; exact ⟨h.1.take i, h.2.1, fun y hy => h.2.2 y (List.mem_of_mem_take hy)⟩
          · rw [hT2, hAd]; exact LI.drop h.1 (by have := HIX.out; omega) HCO.out
          · rw [hT2]; exact fun y hy => h.2.2 y (List.mem_of_mem_drop hy))
        have hw1 : IntKind.i64.wrap ((i : Int) + 1) = (i : Int) + 1 := by rw [IntKind.wrap_i64]; have h1 := HIX.out; have h2 := HYL.out; omega
        have hw2 : wrap64 ((i : Int) + 1) = (i : Int) + 1 := wrap64_id _ (by omega) (by have h1 := HIX.out; have h2 := HYL.out; omega)
        have HTL : Hid (T1.length + T2.length ≤ 100000) := Lib.hid (by rw [l1, l2]; have h1 := HIX.out; have h2 := HYL.out; omega)
        have HIC : Hid ((i : Int) ≤ (co : Int) ∧ (i : Int) + 1 ≤ (xs1.length : Int) ∧ (i : Int) + 1 ≤ (co : Int)) := Lib.hid (by have h1 := HIX.out; have h2 := HCO.out; omega)
        clear hT1 hT2 l1 l2 hAd
        obtain ⟨y36, hy36⟩ : ∃ y36, y36 = World.drew y35 := ⟨_, rfl⟩
        have hbD : Below y35.heap.size y35 y36 := by rw [hy36]; exact (Below.refl _ _).drew
        have O_y36 : Hid (BK 36 y36 gO (oqC kd nw (i : Int) m ma mc x xa xc)) := Lib.hid (O_y35.out.step hbD)
        have L_y36 : Hid (ER y36 y31.heap.size y32.heap.size A6 ys6) := Lib.hid (ER.step L_y35.out hbD)
        have Q_y36 : Hid (BK 26 y36 (gQ) (quC (z0 s) ((n : Int) + 1) (.slice A6 ys6.length c6))) := Lib.hid (Q_y35.out.step hbD)
        have U_y36 : Hid (EN y36 B0 (some ⟨bo, oo, none⟩) xs1) := Lib.hid (LN.step U_y35.out hbD)
        have B_y36 : Hid (Below w.heap.size w y36) := Lib.hid (stepB B_y35.out hbD)
        have Z_y36 : Hid (wr.heap.size ≤ y36.heap.size) := Lib.hid (Nat.le_trans Z_y35.out hbD.size)
        clear O_y35 L_y35 Q_y35 U_y35 B_y35 Z_y35
        have hbd : (fun w' => BK 36 w' gO (oqC kd nw (i : Int) m ma mc x xa xc)) (World.drew y35) := by rw [← hy36]; exact O_y36.out
        have hSD : (fun w' => BK 36 w' gO (oqC kd nw (i : Int) m ma mc x xa xc)) y36 := O_y36.out
        have HWD := Lib.hid hy36
        clear hy36 hbD
        refine wp_region_held_drew (S := fun w' => BK 36 w' gO (oqC kd nw (i : Int) m ma mc x xa xc)) (by kernel_rfl) hbd (fun hHeld => ?_)
        rw [← HWD.out]
        clear hHeld
        have hHeld := hSD
        clear hSD hbd HWD
        refine wpAnyH_take (i := 0) (v := (.slice (some ⟨bo, oo, none⟩) xs1.length co)) (get_ops _ _ _ rfl) (by kernel_rfl) (by kernel_rfl) (by kernel_rfl) (fun _ _ _ h => h) (Or.inl ⟨by rfl, fun wS hSw => by (try dsimp only at hSw); go_simp⟩) hHeld ?_
        try simp only [Act.put, List.setIfInBounds_toArray, List.set_cons_zero, List.set_cons_succ]
        refine wpAnyH_take (i := 1) (v := (.pointer (some ⟨gO, 2, none⟩))) (get_ops _ _ _ rfl) (by kernel_rfl) (by kernel_rfl) (by kernel_rfl) (fun _ _ _ h => h) (Or.inl ⟨by rfl, fun wS hSw => by (try dsimp only at hSw); go_simp⟩) hHeld ?_
        try simp only [Act.put, List.setIfInBounds_toArray, List.set_cons_zero, List.set_cons_succ]
        refine wpAnyH_take (i := 2) (v := (.int .i64 (i : Int))) (get_ops _ _ _ rfl) (by kernel_rfl) (by kernel_rfl) (by kernel_rfl) (fun _ _ _ h => h) (Or.inl ⟨by rfl, fun wS hSw => by (try dsimp only at hSw); have cS : wS.cell? ⟨gO, 2, none⟩ = some (.int .i64 (i : Int)) := hSw.cell 2 rfl; clear hSw; go_simp⟩) hHeld ?_
        try simp only [Act.put, List.setIfInBounds_toArray, List.set_cons_zero, List.set_cons_succ]
        refine wpAnyH_take (i := 3) (v := (.pointer (some ⟨gO, 2, none⟩))) (get_ops _ _ _ rfl) (by kernel_rfl) (by kernel_rfl) (by kernel_rfl) (fun _ _ _ h => h) (Or.inl ⟨by rfl, fun wS hSw => by (try dsimp only at hSw); go_simp⟩) hHeld ?_
        try simp only [Act.put, List.setIfInBounds_toArray, List.set_cons_zero, List.set_cons_succ]
        refine wpAnyH_take (i := 4) (v := (.int .i64 (i : Int))) (get_ops _ _ _ rfl) (by kernel_rfl) (by kernel_rfl) (by kernel_rfl) (fun _ _ _ h => h) (Or.inl ⟨by rfl, fun wS hSw => by (try dsimp only at hSw); have cS : wS.cell? ⟨gO, 2, none⟩ = some (.int .i64 (i : Int)) := hSw.cell 2 rfl; clear hSw; go_simp⟩) hHeld ?_
        try simp only [Act.put, List.setIfInBounds_toArray, List.set_cons_zero, List.set_cons_succ]
        refine wpAnyH_take (i := 5) (v := (.slice (some ⟨bo, oo, none⟩) T1.length T1.length)) (get_ops _ _ _ rfl) (by kernel_rfl) (by kernel_rfl) (by kernel_rfl) (fun _ _ _ h => h) (Or.inl ⟨by rfl, fun wS hSw => by (try dsimp only at hSw); have hc := HCA.out; obtain ⟨hj1, hj2, hj3⟩ := HIC.out; clear hSw; go_simp⟩) hHeld ?_
        try simp only [Act.put, List.setIfInBounds_toArray, List.set_cons_zero, List.set_cons_succ]
        refine wpAnyH_take (i := 6) (v := (.slice (some ⟨bo, oo, none⟩) xs1.length co)) (get_ops _ _ _ rfl) (by kernel_rfl) (by kernel_rfl) (by kernel_rfl) (fun _ _ _ h => h) (Or.inl ⟨by rfl, fun wS hSw => by (try dsimp only at hSw); go_simp⟩) hHeld ?_
        try simp only [Act.put, List.setIfInBounds_toArray, List.set_cons_zero, List.set_cons_succ]
        refine wpAnyH_take (i := 7) (v := (.pointer (some ⟨gO, 2, none⟩))) (get_ops _ _ _ rfl) (by kernel_rfl) (by kernel_rfl) (by kernel_rfl) (fun _ _ _ h => h) (Or.inl ⟨by rfl, fun wS hSw => by (try dsimp only at hSw); go_simp⟩) hHeld ?_
        try simp only [Act.put, List.setIfInBounds_toArray, List.set_cons_zero, List.set_cons_succ]
        refine wpAnyH_take (i := 8) (v := (.int .i64 (i : Int))) (get_ops _ _ _ rfl) (by kernel_rfl) (by kernel_rfl) (by kernel_rfl) (fun _ _ _ h => h) (Or.inl ⟨by rfl, fun wS hSw => by (try dsimp only at hSw); have cS : wS.cell? ⟨gO, 2, none⟩ = some (.int .i64 (i : Int)) := hSw.cell 2 rfl; clear hSw; go_simp⟩) hHeld ?_
        try simp only [Act.put, List.setIfInBounds_toArray, List.set_cons_zero, List.set_cons_succ]
        refine wpAnyH_take (i := 9) (v := (.int .i64 ((i : Int) + 1))) (get_ops _ _ _ rfl) (by kernel_rfl) (by kernel_rfl) (by kernel_rfl) (fun _ _ _ h => h) (Or.inl ⟨by rfl, fun wS hSw => by (try dsimp only at hSw); go_simp⟩) hHeld ?_
        try simp only [Act.put, List.setIfInBounds_toArray, List.set_cons_zero, List.set_cons_succ]
        refine wpAnyH_take (i := 10) (v := (.slice Ad T2.length (co - (i + 1)))) (get_ops _ _ _ rfl) (by kernel_rfl) (by kernel_rfl) (by kernel_rfl) (fun _ _ _ h => h) (Or.inl ⟨by rfl, fun wS hSw => by (try dsimp only at hSw); have hc := HCB.out; obtain ⟨hj1, hj2, hj3⟩ := HIC.out; clear hSw; go_simp⟩) hHeld ?_
        try simp only [Act.put, List.setIfInBounds_toArray, List.set_cons_zero, List.set_cons_succ]
        refine wpAnyH_ready (rs := [11]) (by kernel_rfl) (by simp) ?_
        refine (AllReadyH.cons (get_ops _ _ _ rfl) (fun K hK => ?_) AllReadyH.nil)
        refine oper_outcut (B := B0) _ _ rfl bo oo T1 T2 (by first | rfl | go_simp) (HYD.out _ U_y36.out).1 Ad (co - (i + 1)) (by first | rfl | go_simp) (HYD.out _ U_y36.out).2.1 (HYD.out _ U_y36.out).2.2 (Nat.le_trans HZZ.out Z_y36.out) HTL.out ?_
        intro v16 y37 hO hb
        have O_y37 : Hid (BK 36 y37 gO (oqC kd nw (i : Int) m ma mc x xa xc)) := Lib.hid (O_y36.out.step hb)
        have L_y37 : Hid (ER y37 y31.heap.size y32.heap.size A6 ys6) := Lib.hid (ER.step L_y36.out hb)
        have Q_y37 : Hid (BK 26 y37 (gQ) (quC (z0 s) ((n : Int) + 1) (.slice A6 ys6.length c6))) := Lib.hid (Q_y36.out.step hb)
        have U_y37 : Hid (EN y37 B0 (some ⟨bo, oo, none⟩) xs1) := Lib.hid (LN.step U_y36.out hb)
        have B_y37 : Hid (Below w.heap.size w y37) := Lib.hid (stepB B_y36.out hb)
        have Z_y37 : Hid (wr.heap.size ≤ y37.heap.size) := Lib.hid (Nat.le_trans Z_y36.out hb.size)
        clear O_y36 L_y36 Q_y36 U_y36 B_y36 Z_y36
        have V_y37 : Hid (Out B0 y37.heap.size y37 v16 (T1 ++ T2)) := Lib.hid hO
        clear hO hb hHeld
        refine hK.out _ _ O_y37.out (fun hHeld => ?_)
        clear hK K
        try simp only [Act.put, List.setIfInBounds_toArray, List.set_cons_zero, List.set_cons_succ]
        refine wpAnyH_take (i := 12) (v := v16) (get_ops _ _ _ rfl) (by kernel_rfl) (by kernel_rfl) (by kernel_rfl) (fun _ _ _ h => h) (Or.inl ⟨by rfl, fun wS hSw => by (try dsimp only at hSw); go_simp⟩) hHeld ?_
        try simp only [Act.put, List.setIfInBounds_toArray, List.set_cons_zero, List.set_cons_succ]
        refine wpAnyH_done (by kernel_rfl) ?_ _
        have w1a : j ≤ 1000 := by have := HYL.out; omega
        have w1b : n ≤ 1000 := by have := HYL.out; omega
        go_wp2
        go_roundg g
        case measure => omega
        case rel => exact ⟨j + 1, n, A6, c6, ys6, (T1 ++ T2), _, rfl, by have := HJ.out; omega, by go_num, rfl, by have := HNJ.out; omega, by rw [HY6.out, HT1.out, HT2.out, List.map_append, List.map_take, List.map_drop]; exact HQR.out, Q_y37.out, L_y37.out.en.1, HC6.out, V_y37.out, B_y37.out, Nat.le_trans HZZ.out Z_y37.out⟩
      · have HRW : Hid (wr.heap.size ≤ y31.heap.size) := Lib.hid C_y31.out.size
        have HGR : Hid (gO < y31.heap.size) := Lib.hid O_y31.out.lt
        go_simp
        obtain ⟨y32, hy32⟩ : ∃ y32, y32 = y31.alloc (.cells ([.string ⟨#[]⟩, .int .i64 0, .int .i64 0, .int .i64 0, .string ⟨#[]⟩, .int .i64 0, .slice none 0 0] : List Value).toArray 26) := ⟨_, rfl⟩
        have hb : Below y31.heap.size y31 y32 := by rw [hy32]; exact S2.below_new _ _
        have hN : BK 26 y32 (y31.heap.size) ([.string ⟨#[]⟩, .int .i64 0, .int .i64 0, .int .i64 0, .string ⟨#[]⟩, .int .i64 0, .slice none 0 0] : List Value) := by rw [hy32]; exact BK.new _ _ _
        have C_y32 : Hid (Below wr.heap.size wr y32) := Lib.hid (stepB C_y31.out hb)
        have O_y32 : Hid (BK 36 y32 gO (oqC kd nw (i : Int) m ma mc x xa xc)) := Lib.hid (O_y31.out.step hb)
        clear C_y31 O_y31
        have R_y32 := Lib.hid hN
        try rw [← hy32]
        clear hHeld hb hN hy32
        refine hK.out _ _ ⟨C_y32.out, O_y32.out⟩ (fun hHeld => ?_)
        clear hK K
        try simp only [Act.put, List.setIfInBounds_toArray, List.set_cons_zero, List.set_cons_succ]
        refine wpAnyH_ready (rs := [6]) (by kernel_rfl) (by simp) ?_
        refine (AllReadyH.cons (get_ops _ _ _ rfl) (fun K hK => ?_) AllReadyH.nil)
        have HSZ : Hid (wr.heap.size ≤ y32.heap.size) := Lib.hid C_y32.out.size
        have HR3 : Hid ((y31.heap.size) < y32.heap.size) := Lib.hid R_y32.out.lt
        go_simp
        refine (HRE.out y32 (HO.out.step (stepB HBB.out C_y32.out)) (HK.out.step C_y32.out) (GL.step HZP.out C_y32.out)).mono ?_
        rintro e y33 ⟨v6, ys6, rfl, hys, hL, hb⟩
        have C_y33 : Hid (Below wr.heap.size wr y33) := Lib.hid (stepB C_y32.out hb)
        have O_y33 : Hid (BK 36 y33 gO (oqC kd nw (i : Int) m ma mc x xa xc)) := Lib.hid (O_y32.out.step hb)
        have R_y33 : Hid (BK 26 y33 (y31.heap.size) ([.string ⟨#[]⟩, .int .i64 0, .int .i64 0, .int .i64 0, .string ⟨#[]⟩, .int .i64 0, .slice none 0 0] : List Value)) := Lib.hid (R_y32.out.step hb)
        clear C_y32 O_y32 R_y32
        obtain ⟨A6, c6, rfl, hc6, hen6⟩ := LN.of gE_len hL
        have HY6 := Lib.hid hys
        have HC6 := Lib.hid hc6
        have L_y33 : Hid (ER y33 y32.heap.size y33.heap.size A6 ys6) := Lib.hid (ER.of hen6)
        have HB6 : Hid (gQ < y32.heap.size) := Lib.hid (Nat.lt_of_lt_of_le HGQ.out HSZ.out)
        clear hL hen6 hys hc6
        clear hHeld hb
        go_wp2_with fail
        refine hK.out _ _ ⟨C_y33.out, O_y33.out⟩ (fun hHeld => ?_)
        clear hK K
        try simp only [Act.put, List.setIfInBounds_toArray, List.set_cons_zero, List.set_cons_succ]
        refine wpAnyH_take (i := 7) (v := (.tuple #[.agg (quC (z0 s) ((n : Int) + 1) (.slice A6 ys6.length c6)).toArray, .int .i64 0])) (get_ops _ _ _ rfl) (by kernel_rfl) (by kernel_rfl) (by kernel_rfl) (fun _ _ _ h => h) (Or.inl ⟨by rfl, fun wS hSw => by (try dsimp only at hSw); go_simp⟩) hHeld ?_
        try simp only [Act.put, List.setIfInBounds_toArray, List.set_cons_zero, List.set_cons_succ]
        refine wpAnyH_take (i := 8) (v := (.agg (quC (z0 s) ((n : Int) + 1) (.slice A6 ys6.length c6)).toArray)) (get_ops _ _ _ rfl) (by kernel_rfl) (by kernel_rfl) (by kernel_rfl) (fun _ _ _ h => h) (Or.inl ⟨by rfl, fun wS hSw => by (try dsimp only at hSw); go_simp⟩) hHeld ?_
        try simp only [Act.put, List.setIfInBounds_toArray, List.set_cons_zero, List.set_cons_succ]
        refine wpAnyH_take (i := 9) (v := (.int .i64 0)) (get_ops _ _ _ rfl) (by kernel_rfl) (by kernel_rfl) (by kernel_rfl) (fun _ _ _ h => h) (Or.inl ⟨by rfl, fun wS hSw => by (try dsimp only at hSw); go_simp⟩) hHeld ?_
        try simp only [Act.put, List.setIfInBounds_toArray, List.set_cons_zero, List.set_cons_succ]
        refine wpAnyH_ready (rs := [11]) (by kernel_rfl) (by simp) ?_
        refine (AllReadyH.cons (get_ops _ _ _ rfl) (fun K hK => ?_) AllReadyH.nil)
        refine S2.wp_store_all 26 _ _ rfl rfl (y31.heap.size) (by go_simp) (quC (z0 s) ((n : Int) + 1) (.slice A6 ys6.length c6)) (by first | rfl | go_simp) 26 _ R_y33.out quSize rfl (quC_one _ rfl) ?_
        intro y34 hM hP
        have R_y34 : Hid (BK 26 y34 (y31.heap.size) (quC (z0 s) ((n : Int) + 1) (.slice A6 ys6.length c6))) := Lib.hid (hM)
        have C_y34 : Hid (Below wr.heap.size wr y34) := Lib.hid (hP.below C_y33.out HRW.out)
        have O_y34 : Hid (BK 36 y34 gO (oqC kd nw (i : Int) m ma mc x xa xc)) := Lib.hid (hP.other O_y33.out (by have h1 := HGR.out; omega))
        have L_y34 : Hid (ER y34 y32.heap.size y33.heap.size A6 ys6) := Lib.hid (ER.put L_y33.out hP (Or.inl HR3.out))
        clear C_y33 O_y33 R_y33 L_y33
        clear hM hP hHeld
        refine hK.out _ _ ⟨C_y34.out, O_y34.out⟩ (fun hHeld => ?_)
        clear hK K
        try simp only [Act.put, List.setIfInBounds_toArray, List.set_cons_zero, List.set_cons_succ]
        refine wpAnyH_take (i := 12) (v := (.int .i64 0)) (get_ops _ _ _ rfl) (by kernel_rfl) (by kernel_rfl) (by kernel_rfl) (fun _ _ _ h => h) (Or.inl ⟨by rfl, fun wS hSw => by (try dsimp only at hSw); go_simp⟩) hHeld ?_
        try simp only [Act.put, List.setIfInBounds_toArray, List.set_cons_zero, List.set_cons_succ]
        refine wpAnyH_done (by kernel_rfl) ?_ _
        clear zn2 zn3 zn4
        have Q_y34 : Hid (BK 26 y34 gQ (quC (z0 s) ((n : Int) + 1) (.slice A1 ys1.length c1))) := Lib.hid (HQ.out.step C_y34.out)
        have U_y34 : Hid (EN y34 B0 (some ⟨bo, oo, none⟩) xs1) := Lib.hid (HEO.out.step C_y34.out)
        have B_y34 : Hid (Below w.heap.size w y34) := Lib.hid (stepB HBB.out C_y34.out)
        have Z_y34 : Hid (wr.heap.size ≤ y34.heap.size) := Lib.hid (C_y34.out.size)
        clear C_y34
        go_upto_region 16 with first
          | (refine wpList_load_v (by rfl) 26 (.tmp 16) rfl ⟨(y31.heap.size), 0, none⟩ rfl (.agg (quC (z0 s) ((n : Int) + 1) (.slice A6 ys6.length c6)).toArray) (load_qu R_y34.out) ?_)
          | (refine S2.wpList_store_all (by rfl) 26 (.tmp 5) (.tmp 80) rfl rfl (gQ) rfl (quC (z0 s) ((n : Int) + 1) (.slice A6 ys6.length c6)) rfl 26 _ Q_y34.out quSize rfl (ones rfl) ?_; intro y35 hM hP; have Q_y35 : Hid (BK 26 y35 (gQ) (quC (z0 s) ((n : Int) + 1) (.slice A6 ys6.length c6))) := Lib.hid hM; have O_y35 : Hid (BK 36 y35 gO (oqC kd nw (i : Int) m ma mc x xa xc)) := Lib.hid (hP.other O_y34.out (by have h1 := HGQ.out; have h2 := HGO.out; omega)); have L_y35 : Hid (ER y35 y32.heap.size y33.heap.size A6 ys6) := Lib.hid (ER.put L_y34.out hP (Or.inl HB6.out)); have U_y35 : Hid (EN y35 B0 (some ⟨bo, oo, none⟩) xs1) := Lib.hid (LN.put U_y34.out hP HGB.out); have B_y35 : Hid (Below w.heap.size w y35) := Lib.hid (hP.below B_y34.out HWQ.out); have Z_y35 : Hid (wr.heap.size ≤ y35.heap.size) := Lib.hid (by have h9 := hP.size; have h8 := Z_y34.out; omega); clear hM hP O_y34 R_y34 L_y34 Q_y34 U_y34 B_y34 Z_y34)
        obtain ⟨T1, hT1⟩ : ∃ t, t = xs1.take i := ⟨_, rfl⟩
        obtain ⟨T2, hT2⟩ : ∃ t, t = xs1.drop (i + 1) := ⟨_, rfl⟩
        have HT1 := Lib.hid hT1
        have HT2 := Lib.hid hT2
        have l1 : T1.length = i := by rw [hT1, List.length_take]; have := HIX.out; omega
        have l2 : T2.length = xs1.length - (i + 1) := by rw [hT2, List.length_drop]
        have HCA : Hid (∀ w', (Instr.slice 24 (.slice (some ⟨bo, oo, none⟩) xs1.length co) none (some (.int .i64 (i : Int))) (some (.int .i64 (i : Int)))).run Tryd.prog w' = .ok (.slice (some ⟨bo, oo, none⟩) T1.length T1.length) w') := Lib.hid (fun w' => by rw [l1]; exact sliceHM bo oo xs1.length co i (by have h1 := HIX.out; have h2 := HCO.out; omega) w')
        obtain ⟨Ad, hAd⟩ : ∃ a, a = (if co = i + 1 then (some ⟨bo, oo, none⟩ : Option Addr) else (some (⟨bo, oo, none⟩ : Addr)).map (·.add ((i + 1) * 12))) := ⟨_, rfl⟩
        have HCB : Hid (∀ w', (Instr.slice 24 (.slice (some ⟨bo, oo, none⟩) xs1.length co) (some (.int .i64 ((i : Int) + 1))) none none).run Tryd.prog w' = .ok (.slice Ad T2.length (co - (i + 1))) w') := Lib.hid (fun w' => by have h := cutE (some ⟨bo, oo, none⟩) xs1.length co (i + 1) (by have := HIX.out; omega) w'; rw [l2, hAd]; exact h)
        have HYD : Hid (∀ w', EN w' B0 (some ⟨bo, oo, none⟩) xs1 → EN w' B0 (some ⟨bo, oo, none⟩) T1 ∧ EI w' w'.heap.size Ad T2 ∧ ∀ y ∈ T2, NewL B0 y.a) := Lib.hid (fun w' h => by
          refine ⟨?_, ?_, ?_⟩
          · rw [hT1]; exact ⟨h.1.take i, h.2.1, fun y hy => h.2.2 y (List.mem_of_mem_take hy)⟩
          · rw [hT2, hAd]; exact LI.drop h.1 (by have := HIX.out; omega) HCO.out
          · rw [hT2]; exact fun y hy => h.2.2 y (List.mem_of_mem_drop hy))
        have hw1 : IntKind.i64.wrap ((i : Int) + 1) = (i : Int) + 1 := by rw [IntKind.wrap_i64]; have h1 := HIX.out; have h2 := HYL.out; omega
        have hw2 : wrap64 ((i : Int) + 1) = (i : Int) + 1 := wrap64_id _ (by omega) (by have h1 := HIX.out; have h2 := HYL.out; omega)
        have HTL : Hid (T1.length + T2.length ≤ 100000) := Lib.hid (by rw [l1, l2]; have h1 := HIX.out; have h2 := HYL.out; omega)
        have HIC : Hid ((i : Int) ≤ (co : Int) ∧ (i : Int) + 1 ≤ (xs1.length : Int) ∧ (i : Int) + 1 ≤ (co : Int)) := Lib.hid (by have h1 := HIX.out; have h2 := HCO.out; omega)
        clear hT1 hT2 l1 l2 hAd
        obtain ⟨y36, hy36⟩ : ∃ y36, y36 = World.drew y35 := ⟨_, rfl⟩
        have hbD : Below y35.heap.size y35 y36 := by rw [hy36]; exact (Below.refl _ _).drew
        have O_y36 : Hid (BK 36 y36 gO (oqC kd nw (i : Int) m ma mc x xa xc)) := Lib.hid (O_y35.out.step hbD)
        have L_y36 : Hid (ER y36 y32.heap.size y33.heap.size A6 ys6) := Lib.hid (ER.step L_y35.out hbD)
        have Q_y36 : Hid (BK 26 y36 (gQ) (quC (z0 s) ((n : Int) + 1) (.slice A6 ys6.length c6))) := Lib.hid (Q_y35.out.step hbD)
        have U_y36 : Hid (EN y36 B0 (some ⟨bo, oo, none⟩) xs1) := Lib.hid (LN.step U_y35.out hbD)
        have B_y36 : Hid (Below w.heap.size w y36) := Lib.hid (stepB B_y35.out hbD)
        have Z_y36 : Hid (wr.heap.size ≤ y36.heap.size) := Lib.hid (Nat.le_trans Z_y35.out hbD.size)
        clear O_y35 L_y35 Q_y35 U_y35 B_y35 Z_y35
        have hbd : (fun w' => BK 36 w' gO (oqC kd nw (i : Int) m ma mc x xa xc)) (World.drew y35) := by rw [← hy36]; exact O_y36.out
        have hSD : (fun w' => BK 36 w' gO (oqC kd nw (i : Int) m ma mc x xa xc)) y36 := O_y36.out
        have HWD := Lib.hid hy36
        clear hy36 hbD
        refine wp_region_held_drew (S := fun w' => BK 36 w' gO (oqC kd nw (i : Int) m ma mc x xa xc)) (by kernel_rfl) hbd (fun hHeld => ?_)
        rw [← HWD.out]
        clear hHeld
        have hHeld := hSD
        clear hSD hbd HWD
        refine wpAnyH_take (i := 0) (v := (.slice (some ⟨bo, oo, none⟩) xs1.length co)) (get_ops _ _ _ rfl) (by kernel_rfl) (by kernel_rfl) (by kernel_rfl) (fun _ _ _ h => h) (Or.inl ⟨by rfl, fun wS hSw => by (try dsimp only at hSw); go_simp⟩) hHeld ?_
        try simp only [Act.put, List.setIfInBounds_toArray, List.set_cons_zero, List.set_cons_succ]
        refine wpAnyH_take (i := 1) (v := (.pointer (some ⟨gO, 2, none⟩))) (get_ops _ _ _ rfl) (by kernel_rfl) (by kernel_rfl) (by kernel_rfl) (fun _ _ _ h => h) (Or.inl ⟨by rfl, fun wS hSw => by (try dsimp only at hSw); go_simp⟩) hHeld ?_
        try simp only [Act.put, List.setIfInBounds_toArray, List.set_cons_zero, List.set_cons_succ]
        refine wpAnyH_take (i := 2) (v := (.int .i64 (i : Int))) (get_ops _ _ _ rfl) (by kernel_rfl) (by kernel_rfl) (by kernel_rfl) (fun _ _ _ h => h) (Or.inl ⟨by rfl, fun wS hSw => by (try dsimp only at hSw); have cS : wS.cell? ⟨gO, 2, none⟩ = some (.int .i64 (i : Int)) := hSw.cell 2 rfl; clear hSw; go_simp⟩) hHeld ?_
        try simp only [Act.put, List.setIfInBounds_toArray, List.set_cons_zero, List.set_cons_succ]
        refine wpAnyH_take (i := 3) (v := (.pointer (some ⟨gO, 2, none⟩))) (get_ops _ _ _ rfl) (by kernel_rfl) (by kernel_rfl) (by kernel_rfl) (fun _ _ _ h => h) (Or.inl ⟨by rfl, fun wS hSw => by (try dsimp only at hSw); go_simp⟩) hHeld ?_
        try simp only [Act.put, List.setIfInBounds_toArray, List.set_cons_zero, List.set_cons_succ]
        refine wpAnyH_take (i := 4) (v := (.int .i64 (i : Int))) (get_ops _ _ _ rfl) (by kernel_rfl) (by kernel_rfl) (by kernel_rfl) (fun _ _ _ h => h) (Or.inl ⟨by rfl, fun wS hSw => by (try dsimp only at hSw); have cS : wS.cell? ⟨gO, 2, none⟩ = some (.int .i64 (i : Int)) := hSw.cell 2 rfl; clear hSw; go_simp⟩) hHeld ?_
        try simp only [Act.put, List.setIfInBounds_toArray, List.set_cons_zero, List.set_cons_succ]
        refine wpAnyH_take (i := 5) (v := (.slice (some ⟨bo, oo, none⟩) T1.length T1.length)) (get_ops _ _ _ rfl) (by kernel_rfl) (by kernel_rfl) (by kernel_rfl) (fun _ _ _ h => h) (Or.inl ⟨by rfl, fun wS hSw => by (try dsimp only at hSw); have hc := HCA.out; obtain ⟨hj1, hj2, hj3⟩ := HIC.out; clear hSw; go_simp⟩) hHeld ?_
        try simp only [Act.put, List.setIfInBounds_toArray, List.set_cons_zero, List.set_cons_succ]
        refine wpAnyH_take (i := 6) (v := (.slice (some ⟨bo, oo, none⟩) xs1.length co)) (get_ops _ _ _ rfl) (by kernel_rfl) (by kernel_rfl) (by kernel_rfl) (fun _ _ _ h => h) (Or.inl ⟨by rfl, fun wS hSw => by (try dsimp only at hSw); go_simp⟩) hHeld ?_
        try simp only [Act.put, List.setIfInBounds_toArray, List.set_cons_zero, List.set_cons_succ]
        refine wpAnyH_take (i := 7) (v := (.pointer (some ⟨gO, 2, none⟩))) (get_ops _ _ _ rfl) (by kernel_rfl) (by kernel_rfl) (by kernel_rfl) (fun _ _ _ h => h) (Or.inl ⟨by rfl, fun wS hSw => by (try dsimp only at hSw); go_simp⟩) hHeld ?_
        try simp only [Act.put, List.setIfInBounds_toArray, List.set_cons_zero, List.set_cons_succ]
        refine wpAnyH_take (i := 8) (v := (.int .i64 (i : Int))) (get_ops _ _ _ rfl) (by kernel_rfl) (by kernel_rfl) (by kernel_rfl) (fun _ _ _ h => h) (Or.inl ⟨by rfl, fun wS hSw => by (try dsimp only at hSw); have cS : wS.cell? ⟨gO, 2, none⟩ = some (.int .i64 (i : Int)) := hSw.cell 2 rfl; clear hSw; go_simp⟩) hHeld ?_
        try simp only [Act.put, List.setIfInBounds_toArray, List.set_cons_zero, List.set_cons_succ]
        refine wpAnyH_take (i := 9) (v := (.int .i64 ((i : Int) + 1))) (get_ops _ _ _ rfl) (by kernel_rfl) (by kernel_rfl) (by kernel_rfl) (fun _ _ _ h => h) (Or.inl ⟨by rfl, fun wS hSw => by (try dsimp only at hSw); go_simp⟩) hHeld ?_
        try simp only [Act.put, List.setIfInBounds_toArray, List.set_cons_zero, List.set_cons_succ]
        refine wpAnyH_take (i := 10) (v := (.slice Ad T2.length (co - (i + 1)))) (get_ops _ _ _ rfl) (by kernel_rfl) (by kernel_rfl) (by kernel_rfl) (fun _ _ _ h => h) (Or.inl ⟨by rfl, fun wS hSw => by (try dsimp only at hSw); have hc := HCB.out; obtain ⟨hj1, hj2, hj3⟩ := HIC.out; clear hSw; go_simp⟩) hHeld ?_
        try simp only [Act.put, List.setIfInBounds_toArray, List.set_cons_zero, List.set_cons_succ]
        refine wpAnyH_ready (rs := [11]) (by kernel_rfl) (by simp) ?_
        refine (AllReadyH.cons (get_ops _ _ _ rfl) (fun K hK => ?_) AllReadyH.nil)
        refine oper_outcut (B := B0) _ _ rfl bo oo T1 T2 (by first | rfl | go_simp) (HYD.out _ U_y36.out).1 Ad (co - (i + 1)) (by first | rfl | go_simp) (HYD.out _ U_y36.out).2.1 (HYD.out _ U_y36.out).2.2 (Nat.le_trans HZZ.out Z_y36.out) HTL.out ?_
        intro v16 y37 hO hb
        have O_y37 : Hid (BK 36 y37 gO (oqC kd nw (i : Int) m ma mc x xa xc)) := Lib.hid (O_y36.out.step hb)
        have L_y37 : Hid (ER y37 y32.heap.size y33.heap.size A6 ys6) := Lib.hid (ER.step L_y36.out hb)
        have Q_y37 : Hid (BK 26 y37 (gQ) (quC (z0 s) ((n : Int) + 1) (.slice A6 ys6.length c6))) := Lib.hid (Q_y36.out.step hb)
        have U_y37 : Hid (EN y37 B0 (some ⟨bo, oo, none⟩) xs1) := Lib.hid (LN.step U_y36.out hb)
        have B_y37 : Hid (Below w.heap.size w y37) := Lib.hid (stepB B_y36.out hb)
        have Z_y37 : Hid (wr.heap.size ≤ y37.heap.size) := Lib.hid (Nat.le_trans Z_y36.out hb.size)
        clear O_y36 L_y36 Q_y36 U_y36 B_y36 Z_y36
        have V_y37 : Hid (Out B0 y37.heap.size y37 v16 (T1 ++ T2)) := Lib.hid hO
        clear hO hb hHeld
        refine hK.out _ _ O_y37.out (fun hHeld => ?_)
        clear hK K
        try simp only [Act.put, List.setIfInBounds_toArray, List.set_cons_zero, List.set_cons_succ]
        refine wpAnyH_take (i := 12) (v := v16) (get_ops _ _ _ rfl) (by kernel_rfl) (by kernel_rfl) (by kernel_rfl) (fun _ _ _ h => h) (Or.inl ⟨by rfl, fun wS hSw => by (try dsimp only at hSw); go_simp⟩) hHeld ?_
        try simp only [Act.put, List.setIfInBounds_toArray, List.set_cons_zero, List.set_cons_succ]
        refine wpAnyH_done (by kernel_rfl) ?_ _
        have w1a : j ≤ 1000 := by have := HYL.out; omega
        have w1b : n ≤ 1000 := by have := HYL.out; omega
        go_wp2
        go_roundg g
        case measure => omega
        case rel => exact ⟨j + 1, n, A6, c6, ys6, (T1 ++ T2), _, rfl, by have := HJ.out; omega, by go_num, rfl, by have := HNJ.out; omega, by rw [HY6.out, HT1.out, HT2.out, List.map_append, List.map_take, List.map_drop]; exact HQR.out, Q_y37.out, L_y37.out.en.1, HC6.out, V_y37.out, B_y37.out, Nat.le_trans HZZ.out Z_y37.out⟩

end Go.Proofs.YtjhojpghllnoiaaDoor
