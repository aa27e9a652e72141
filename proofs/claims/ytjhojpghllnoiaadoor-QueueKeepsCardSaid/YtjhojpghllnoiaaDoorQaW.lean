/-
  QueueKeeps answers true, walked. Conditions: the queue and the call read as data; the texts fit; the library's bound on short texts holds a number.
-/
import Derived.Test.YtjhojpghllnoiaaDoorQaV
import Derived.Test.YtjhojpghllnoiaaDoorQaL
import Derived.Test.YtjhojpghllnoiaaDoorQaO
namespace Go.Proofs.YtjhojpghllnoiaaDoor
open Go.RowKit
open S2 (BK Put get_ops)

theorem load_oqm {w : World} {g : Nat} {k t n : Int} {m : Msg} {ma : Option Addr} {mc : Nat} {x : En} {xa : Option Addr} {xc : Nat} (h : BK 36 w g (oqC k t n m ma mc x xa xc)) : (loadVar 32 ⟨g, 3, none⟩).run Tryd.prog w = .ok (.agg (msgC m ma mc).toArray) w :=
  run_load_cells w g 3 (msgC m ma mc) 32 _ (fun i v hv => by
    refine h.cell (3 + i) ?_
    match i, hv with
    | 0, hv => exact hv
    | 1, hv => exact hv
    | 2, hv => exact hv
    | 3, hv => exact hv
    | 4, hv => exact hv
    | 5, hv => exact hv
    | 6, hv => exact hv
    | 7, hv => exact hv
    | 8, hv => exact hv) Tryd.underlying32 rfl msgSize
theorem load_oqe {w : World} {g : Nat} {k t n : Int} {m : Msg} {ma : Option Addr} {mc : Nat} {x : En} {xa : Option Addr} {xc : Nat} (h : BK 36 w g (oqC k t n m ma mc x xa xc)) : (loadVar 34 ⟨g, 12, none⟩).run Tryd.prog w = .ok (.agg (enX x xa xc).toArray) w :=
  run_load_cells w g 12 (enX x xa xc) 34 _ (fun i v hv => by
    refine h.cell (12 + i) ?_
    match i, hv with
    | 0, hv => exact hv
    | 1, hv => exact hv
    | 2, hv => exact hv
    | 3, hv => exact hv
    | 4, hv => exact hv
    | 5, hv => exact hv
    | 6, hv => exact hv
    | 7, hv => exact hv
    | 8, hv => exact hv
    | 9, hv => exact hv
    | 10, hv => exact hv
    | 11, hv => exact hv) Tryd.underlying34 rfl enSize
/-- the texts of an entry fit -/
abbrev EzX (x : En) : Prop := x.m.topic.size ≤ 9223372036854775807 ∧ x.m.frm.size ≤ 9223372036854775807 ∧ ∀ z ∈ x.m.props, z.1.size ≤ 9223372036854775807
theorem valid0 {s : Sp} {n : Int} {L : List En} (hv : validR s n L = 0) (hz : s.name.size ≤ 9223372036854775807 ∧ s.dead.size ≤ 9223372036854775807) (he : ∀ x ∈ L, EzX x) (A : Option Addr) (c : Nat) (ys : List EE) (w : World) (hsl : EI w w.heap.size A ys) (hc : ys.length ≤ c) (hys : ys.map EE.x = L) :
    Calls Tryd.prog 12 #[quV s n (.slice A ys.length c)] w fun e w' => e = .returned (.int .i64 0) ∧ Below w.heap.size w w' := by
  have hl : ys.length ≤ 4352 := by rw [len_map hys]; exact (validR_parts hv).2.2.1
  have h := rValid_any s n A c ys w hsl hz (by omega) hc (fun y hy => he y.x (by rw [← hys]; exact List.mem_map_of_mem hy))
  rw [hys, hv] at h
  exact h
theorem ent_props {x : En} {n : Int} (h : entR x n = 0) : x.m.props.length ≤ 4398046511104 := by
  have := propsR_parts (checkR_parts (entR_parts h).2.2.2)
  have := this.1
  omega
theorem ez_ins {l : List En} {x : En} (h : ∀ y ∈ l, EzX y) (hx : EzX x) : ∀ y ∈ insQ l x, EzX y := fun y hy => by
  rcases mem_insQ.1 hy with rfl | hy
  · exact hx
  · exact h y hy

set_option maxRecDepth 20000 in
set_option maxHeartbeats 16000000 in
theorem queueKeeps_walk (s : Sp) (n : Int) (A : Option Addr) (c : Nat) (l : List EE) (kd now nn : Int) (m : Msg) (ma : Option Addr) (mc : Nat) (x : En) (xa : Option Addr) (xc : Nat) (w : World) (hw : S1.Okw w) (hz : s.name.size ≤ 9223372036854775807 ∧ s.dead.size ≤ 9223372036854775807) (hsl : EI w w.heap.size A l) (hc : l.length ≤ c) (hzp : ∀ y ∈ l, EzX y.x ∧ y.x.m.props.length ≤ 4398046511104)
    (hm : PL w w.heap.size ma m.props) (hx : PL w w.heap.size xa x.m.props) (hmz : m.topic.size ≤ 9223372036854775807 ∧ m.frm.size ≤ 9223372036854775807 ∧ ∀ z ∈ m.props, z.1.size ≤ 9223372036854775807) (hxz : EzX x) :
    Calls Tryd.prog 4 #[quV s n (.slice A l.length c), .agg (oqC kd now nn m ma mc x xa xc).toArray] w fun e w' => e = .returned (.bool true) ∧ Below w.heap.size w w' := by
  have HO := Lib.hid hw
  have HS := Lib.hid hsl
  have HEX := Lib.hid (fun w1 h1 => exHoldsQ_any w1 h1)
  have HSM := Lib.hid (fun w1 h1 => small_any s n A c l w1 hz h1 hc (fun y hy => (hzp y hy).1))
  generalize hsm : decide (l.length ≤ 60 ∧ validR s n (l.map EE.x) = 0) = sm at HSM
  obtain ⟨v0, hv0⟩ : ∃ v, v = quV s n (.slice A l.length c) := ⟨_, rfl⟩
  have HQV : Hid (∀ s n v, quV s n v = .agg (quC s n v).toArray) := Lib.hid (fun _ _ _ => rfl)
  unfold quV at HSM ⊢
  clear hv0 v0
  have HZ := Lib.hid hz
  have HSL := Lib.hid hsl
  have HCL := Lib.hid hc
  have HZP := Lib.hid hzp
  have HMP := Lib.hid hm
  have HXP := Lib.hid hx
  have HMZ := Lib.hid hmz
  have HXZ := Lib.hid hxz
  have HSMD := Lib.hid hsm
  clear hw hz hsl hc hzp hm hx hmz hxz hsm
  go_enter Tryd.func4, Tryd.ntmps4
  go_upto_region 1 with fail
  refine name_world (C := fun w1 => Code.wp _ _ _ _ w1) ((w.alloc (.cells (quC s n (.slice A l.length c)).toArray 26)).alloc (.cells (oqC kd now nn m ma mc x xa xc).toArray 36)) ?_
  intro w1 hw1
  have hb1 : Below w.heap.size w w1 := by rw [hw1]; exact stepB (S2.below_new w _) (S2.below_new _ _)
  have Q_w1 : Hid (BK 26 w1 w.heap.size (quC s n (.slice A l.length c))) := Lib.hid (by rw [hw1]; exact BK.alloc (BK.new w _ _) _)
  have O_w1 : Hid (BK 36 w1 (w.heap.size + 1) (oqC kd now nn m ma mc x xa xc)) := Lib.hid (by rw [hw1]; exact bk_new1 w _ _ _)
  have B_w1 := Lib.hid hb1
  clear hw1 hb1
  obtain ⟨gO, hgO⟩ : ∃ g, g = w.heap.size + 1 := ⟨_, rfl⟩
  obtain ⟨gQ, hgQ⟩ : ∃ g, g = w.heap.size := ⟨_, rfl⟩
  rw [← hgO] at O_w1
  try rw [← hgO]
  clear hgO
  rw [← hgQ] at Q_w1
  try rw [← hgQ]
  clear hgQ
  go_wp2_with first
    | (refine wpList_load_v (by rfl) 26 (.tmp 2) rfl ⟨gQ, 0, none⟩ rfl (.agg (quC s n (.slice A l.length c)).toArray) (load_qu Q_w1.out) ?_)
  refine (HSM.out w1 (HS.out.step B_w1.out)).mono ?_
  rintro e y1 ⟨rfl, hb⟩
  have B_y1 : Hid (Below w.heap.size w y1) := Lib.hid (stepB B_w1.out hb)
  have Q_y1 : Hid (BK 26 y1 gQ (quC s n (.slice A l.length c))) := Lib.hid (Q_w1.out.step hb)
  have O_y1 : Hid (BK 36 y1 gO (oqC kd now nn m ma mc x xa xc)) := Lib.hid (O_w1.out.step hb)
  clear B_w1 Q_w1 O_w1
  clear hb
  cases sm with
  | false =>
    clear HSMD HZ HCL HZP HMP HXP HMZ HXZ HSL
    go_wp2_with fail
    refine (HEX.out y1 (HO.out.step B_y1.out)).mono ?_
    rintro e y2 ⟨rfl, hb⟩
    have B_y2 : Hid (Below w.heap.size w y2) := Lib.hid (stepB B_y1.out hb)
    have Q_y2 : Hid (BK 26 y2 gQ (quC s n (.slice A l.length c))) := Lib.hid (Q_y1.out.step hb)
    have O_y2 : Hid (BK 36 y2 gO (oqC kd now nn m ma mc x xa xc)) := Lib.hid (O_y1.out.step hb)
    clear B_y1 Q_y1 O_y1
    clear hb
    go_wp2
    go_ret
    exact ⟨rfl, B_y2.out⟩
  | true =>
    obtain ⟨hl6, hval⟩ := of_decide_eq_true HSMD.out
    clear HSMD HSM
    obtain ⟨v1, v2, v3, v4, v5, v6⟩ := validR_parts hval
    have HL6 := Lib.hid hl6
    have HVAL := Lib.hid hval
    have HNB := Lib.hid v2
    have HEZ : Hid (∀ y ∈ l.map EE.x, EzX y) := Lib.hid (fun y hy => by obtain ⟨z, hz, rfl⟩ := List.mem_map.1 hy; exact (HZP.out z hz).1)
    have hlm : (l.map EE.x).length ≤ 60 := by rw [List.length_map]; exact hl6
    have hpp : ∀ y ∈ l, y.x.m.props.length ≤ 4398046511104 := fun y hy => (HZP.out y hy).2
    have hpu := fun w1 h1 h2 h3 => qPush_any s n A c l m ma mc now w1 h1 h2 h3 v5 (by omega) hpp (by omega)
    have hvp : pushK s n l.length m now = 0 → validR s (n + 1) (insQ (l.map EE.x) (pushE n now m)) = 0 := fun h => valid_push hval hlm (by rw [List.length_map]; exact h)
    generalize pushK s n l.length m now = pk at hpu hvp
    unfold RetK RetQ quV msgV at hpu
    generalize hs5 : (if pk = 0 then s else Sp.zero) = s5 at hpu
    generalize hn5 : (if pk = 0 then n + 1 else 0) = n5 at hpu
    generalize hL5 : (if pk = 0 then insQ (l.map EE.x) (pushE n now m) else []) = L5 at hpu
    have H5 : Hid (pk = 0 → s = s5 ∧ n + 1 = n5 ∧ L5.length = l.length + 1 ∧ validR s5 n5 L5 = 0 ∧ ∀ y ∈ L5, EzX y) := Lib.hid (fun h => by rw [if_pos h] at hs5 hn5 hL5; subst hs5 hn5 hL5; exact ⟨rfl, rfl, by rw [insQ_len, List.length_map], hvp h, ez_ins HEZ.out HMZ.out⟩)
    have HPU := Lib.hid hpu
    clear hpu hvp hs5 hn5 hL5
    have hre := fun w1 h1 h2 h3 => qReturn_any s n A c l x xa xc w1 h1 h2 h3 v5 (by omega) hpp v2
    have hvr : retK n (l.map EE.x) x = 0 → validR s n (insQ (l.map EE.x) x) = 0 := fun h => valid_ret hval hlm h
    generalize retK n (l.map EE.x) x = rk at hre hvr
    unfold RetK RetQ quV enW enV at hre
    generalize hs5 : (if rk = 0 then s else Sp.zero) = s7 at hre
    generalize hn5 : (if rk = 0 then n else 0) = n7 at hre
    generalize hL5 : (if rk = 0 then insQ (l.map EE.x) x else []) = L7 at hre
    have H7 : Hid (rk = 0 → s = s7 ∧ n = n7 ∧ L7.length = l.length + 1 ∧ validR s7 n7 L7 = 0 ∧ ∀ y ∈ L7, EzX y) := Lib.hid (fun h => by rw [if_pos h] at hs5 hn5 hL5; subst hs5 hn5 hL5; exact ⟨rfl, rfl, by rw [insQ_len, List.length_map], hvr h, ez_ins HEZ.out HXZ.out⟩)
    have HRE := Lib.hid hre
    clear hre hvr hs5 hn5 hL5
    have hxp := fun w1 h1 => qExpire_any s n A c l now w1 h1 (by omega) hpp (specR_parts v1).2.2.1 (fun y hy => (entR_parts (v4 _ (List.mem_map_of_mem hy))).2.1)
    have HVX : Hid (validR s n (leftQ s now (l.map EE.x)) = 0 ∧ ∀ y ∈ leftQ s now (l.map EE.x), EzX y) := Lib.hid ⟨valid_filter _ hval, fun y hy => HEZ.out y (List.mem_filter.1 hy).1⟩
    unfold RetX quV at hxp
    generalize goneQ s now (l.map EE.x) = G9 at hxp
    generalize leftQ s now (l.map EE.x) = L9 at hxp HVX
    have HXE := Lib.hid hxp
    clear hxp
    have HPP := Lib.hid hpp
    clear hpp hlm hval hl6 v1 v2 v3 v4 v5 v6
    have d1 := O_y1.out.cell 1 rfl
    go_wp2_with first
      | (refine wpList_load_v (by rfl) 26 (.tmp 2) rfl ⟨gQ, 0, none⟩ rfl (.agg (quC s n (.slice A l.length c)).toArray) (load_qu Q_y1.out) ?_)
      | (refine wpList_load_v (by rfl) 32 (.tmp 22) rfl ⟨gO, 3, none⟩ rfl (.agg (msgC m ma mc).toArray) (load_oqm O_y1.out) ?_)
    refine (HPU.out y1 (HO.out.step B_y1.out) (HS.out.step B_y1.out) (GL.step HMP.out B_y1.out)).mono ?_
    rintro e y3 ⟨w5, ys5, rfl, hys, hL, hb⟩
    have B_y3 : Hid (Below w.heap.size w y3) := Lib.hid (stepB B_y1.out hb)
    have Q_y3 : Hid (BK 26 y3 gQ (quC s n (.slice A l.length c))) := Lib.hid (Q_y1.out.step hb)
    have O_y3 : Hid (BK 36 y3 gO (oqC kd now nn m ma mc x xa xc)) := Lib.hid (O_y1.out.step hb)
    clear B_y1 Q_y1 O_y1
    obtain ⟨A5, c5, rfl, hc5, hen5⟩ := LN.of gE_len hL
    have HY5 := Lib.hid hys
    have HC5 := Lib.hid hc5
    have L5_y3 : Hid (EI y3 y3.heap.size A5 ys5) := Lib.hid hen5.1
    clear hL hys hc5 hen5
    clear hb
    clear d1
    go_upto_region 4 with first
      | (refine S2.wpList_store_all (by rfl) 26 (.tmp 5) (.tmp 27) rfl rfl (y3.heap.size) rfl (quC s5 n5 (.slice A5 ys5.length c5)) rfl 26 _ (BK.new y3 _ _) quSize rfl (ones rfl) ?_; intro y4 hM hP; have hb : Below y3.heap.size y3 y4 := hP.below (S2.below_new y3 _) (Nat.le_refl _); have B_y4 : Hid (Below w.heap.size w y4) := Lib.hid (stepB B_y3.out hb); have Q_y4 : Hid (BK 26 y4 gQ (quC s n (.slice A l.length c))) := Lib.hid (Q_y3.out.step hb); have O_y4 : Hid (BK 36 y4 gO (oqC kd now nn m ma mc x xa xc)) := Lib.hid (O_y3.out.step hb); have L5_y4 : Hid (EI y4 y4.heap.size A5 ys5) := Lib.hid (LI.step L5_y3.out hb); have Q5_y4 : Hid (BK 26 y4 (y3.heap.size) (quC s5 n5 (.slice A5 ys5.length c5))) := Lib.hid hM; clear hM hP hb B_y3 Q_y3 O_y3 L5_y3)
    obtain ⟨gQ5, hgQ5⟩ : ∃ gQ5, gQ5 = y3.heap.size := ⟨_, rfl⟩
    rw [← hgQ5] at Q5_y4
    try rw [← hgQ5]
    clear hgQ5
    go_cut [53] from 29 to 53 (fun sx wx => sx = .bool false ∧ Below y4.heap.size y4 wx)
    case first =>
      have C_y4 : Hid (Below y4.heap.size y4 y4) := Lib.hid (Below.refl _ _)
      by_cases h0 : pk = 0
      · obtain ⟨e1, e2, e3, e4, e5⟩ := H5.out h0
        have z1 := valid0 e4 (by rw [← e1]; exact HZ.out) e5 A5 c5 ys5
        have Z1 := Lib.hid z1
        clear z1 e4 e5
        have z6 := Q5_y4.out.cell 6 rfl
        have z5 := Q5_y4.out.cell 5 rfl
        have u6q := Q_y4.out.cell 6 rfl
        have u5q := Q_y4.out.cell 5 rfl
        have hw1 : IntKind.i64.wrap ((l.length : Int) + 1) = (l.length : Int) + 1 := by rw [IntKind.wrap_i64]; have := HL6.out; omega
        have hw2 : wrap64 ((l.length : Int) + 1) = (l.length : Int) + 1 := wrap64_id _ (by omega) (by have := HL6.out; omega)
        have hw3 : IntKind.i64.wrap (n + 1) = n + 1 := by rw [IntKind.wrap_i64]; have := HNB.out; omega
        have hw4 : wrap64 (n + 1) = n + 1 := wrap64_id _ (by have := HNB.out; omega) (by have := HNB.out; omega)
        have q1 : ((ys5.length : Int) != (l.length : Int) + 1) = false := by rw [len_map HY5.out, e3]; simp
        have q2 : decide ((0 : Int) = 0) = true := by decide
        clear e3
        subst h0 e1 e2
        go_wp2_with first
          | (refine wpList_load_v (by rfl) 26 (.tmp 5) rfl ⟨gQ5, 0, none⟩ rfl (.agg (quC s (n + 1) (.slice A5 ys5.length c5)).toArray) (load_qu Q5_y4.out) ?_)
        refine (Z1.out y4 L5_y4.out HC5.out HY5.out).mono ?_
        rintro e y5 ⟨rfl, hb⟩
        have B_y5 : Hid (Below w.heap.size w y5) := Lib.hid (stepB B_y4.out hb)
        have Q_y5 : Hid (BK 26 y5 gQ (quC s n (.slice A l.length c))) := Lib.hid (Q_y4.out.step hb)
        have O_y5 : Hid (BK 36 y5 gO (oqC kd now nn m ma mc x xa xc)) := Lib.hid (O_y4.out.step hb)
        have L5_y5 : Hid (EI y5 y5.heap.size A5 ys5) := Lib.hid (LI.step L5_y4.out hb)
        have Q5_y5 : Hid (BK 26 y5 gQ5 (quC s (n + 1) (.slice A5 ys5.length c5))) := Lib.hid (Q5_y4.out.step hb)
        have C_y5 : Hid (Below y4.heap.size y4 y5) := Lib.hid (stepB C_y4.out hb)
        clear B_y4 Q_y4 O_y4 L5_y4 Q5_y4 C_y4
        clear hb
        clear z6 z5 u6q u5q
        have z6 := Q5_y5.out.cell 6 rfl
        have z5 := Q5_y5.out.cell 5 rfl
        have u6q := Q_y5.out.cell 6 rfl
        have u5q := Q_y5.out.cell 5 rfl
        go_wp2_with fail
        go_meet
        exact ⟨rfl, C_y5.out⟩
      · have q1 : (pk == 0) = false := by simpa using h0
        go_wp2_with fail
        go_meet
        exact ⟨rfl, C_y4.out⟩
    case rest =>
    rename World => W4
    obtain ⟨rfl, hb⟩ := hcut
    have B_W4 : Hid (Below w.heap.size w W4) := Lib.hid (stepB B_y4.out hb)
    have Q_W4 : Hid (BK 26 W4 gQ (quC s n (.slice A l.length c))) := Lib.hid (Q_y4.out.step hb)
    have O_W4 : Hid (BK 36 W4 gO (oqC kd now nn m ma mc x xa xc)) := Lib.hid (O_y4.out.step hb)
    have L5_W4 : Hid (EI W4 W4.heap.size A5 ys5) := Lib.hid (LI.step L5_y4.out hb)
    have Q5_W4 : Hid (BK 26 W4 gQ5 (quC s5 n5 (.slice A5 ys5.length c5))) := Lib.hid (Q5_y4.out.step hb)
    clear B_y4 Q_y4 O_y4 L5_y4 Q5_y4
    clear hb
    clear Q5_W4 L5_W4
    clear HPU H5 HMP HMZ
    go_wp2_with first
      | (refine wpList_load_v (by rfl) 26 (.tmp 2) rfl ⟨gQ, 0, none⟩ rfl (.agg (quC s n (.slice A l.length c)).toArray) (load_qu Q_W4.out) ?_)
      | (refine wpList_load_v (by rfl) 34 (.tmp 56) rfl ⟨gO, 12, none⟩ rfl (.agg (enX x xa xc).toArray) (load_oqe O_W4.out) ?_)
    refine (HRE.out W4 (HO.out.step B_W4.out) (HS.out.step B_W4.out) (GL.step HXP.out B_W4.out)).mono ?_
    rintro e y6 ⟨w7, ys7, rfl, hys, hL, hb⟩
    have B_y6 : Hid (Below w.heap.size w y6) := Lib.hid (stepB B_W4.out hb)
    have Q_y6 : Hid (BK 26 y6 gQ (quC s n (.slice A l.length c))) := Lib.hid (Q_W4.out.step hb)
    have O_y6 : Hid (BK 36 y6 gO (oqC kd now nn m ma mc x xa xc)) := Lib.hid (O_W4.out.step hb)
    clear B_W4 Q_W4 O_W4
    obtain ⟨A7, c7, rfl, hc7, hen7⟩ := LN.of gE_len hL
    have HY7 := Lib.hid hys
    have HC7 := Lib.hid hc7
    have L7_y6 : Hid (EI y6 y6.heap.size A7 ys7) := Lib.hid hen7.1
    clear hL hys hc7 hen7
    clear hb
    go_upto_region 7 with first
      | (refine S2.wpList_store_all (by rfl) 26 (.tmp 7) (.tmp 59) rfl rfl (y6.heap.size) rfl (quC s7 n7 (.slice A7 ys7.length c7)) rfl 26 _ (BK.new y6 _ _) quSize rfl (ones rfl) ?_; intro y7 hM hP; have hb : Below y6.heap.size y6 y7 := hP.below (S2.below_new y6 _) (Nat.le_refl _); have B_y7 : Hid (Below w.heap.size w y7) := Lib.hid (stepB B_y6.out hb); have Q_y7 : Hid (BK 26 y7 gQ (quC s n (.slice A l.length c))) := Lib.hid (Q_y6.out.step hb); have O_y7 : Hid (BK 36 y7 gO (oqC kd now nn m ma mc x xa xc)) := Lib.hid (O_y6.out.step hb); have L7_y7 : Hid (EI y7 y7.heap.size A7 ys7) := Lib.hid (LI.step L7_y6.out hb); have Q7_y7 : Hid (BK 26 y7 (y6.heap.size) (quC s7 n7 (.slice A7 ys7.length c7))) := Lib.hid hM; clear hM hP hb B_y6 Q_y6 O_y6 L7_y6)
    obtain ⟨gQ7, hgQ7⟩ : ∃ gQ7, gQ7 = y6.heap.size := ⟨_, rfl⟩
    rw [← hgQ7] at Q7_y7
    try rw [← hgQ7]
    clear hgQ7
    go_cut [84] from 61 to 84 (fun sx wx => sx = .bool false ∧ Below y7.heap.size y7 wx)
    case first =>
      have C_y7 : Hid (Below y7.heap.size y7 y7) := Lib.hid (Below.refl _ _)
      by_cases h0 : rk = 0
      · obtain ⟨e1, e2, e3, e4, e5⟩ := H7.out h0
        have z1 := valid0 e4 (by rw [← e1]; exact HZ.out) e5 A7 c7 ys7
        have Z1 := Lib.hid z1
        clear z1 e4 e5
        have z6 := Q7_y7.out.cell 6 rfl
        have z5 := Q7_y7.out.cell 5 rfl
        have u6q := Q_y7.out.cell 6 rfl
        have u5q := Q_y7.out.cell 5 rfl
        have hw1 : IntKind.i64.wrap ((l.length : Int) + 1) = (l.length : Int) + 1 := by rw [IntKind.wrap_i64]; have := HL6.out; omega
        have hw2 : wrap64 ((l.length : Int) + 1) = (l.length : Int) + 1 := wrap64_id _ (by omega) (by have := HL6.out; omega)
        have hw3 : IntKind.i64.wrap (n + 1) = n + 1 := by rw [IntKind.wrap_i64]; have := HNB.out; omega
        have hw4 : wrap64 (n + 1) = n + 1 := wrap64_id _ (by have := HNB.out; omega) (by have := HNB.out; omega)
        have q1 : ((ys7.length : Int) != (l.length : Int) + 1) = false := by rw [len_map HY7.out, e3]; simp
        have q2 : decide ((0 : Int) = 0) = true := by decide
        clear e3
        subst h0 e1 e2
        go_wp2_with first
          | (refine wpList_load_v (by rfl) 26 (.tmp 7) rfl ⟨gQ7, 0, none⟩ rfl (.agg (quC s n (.slice A7 ys7.length c7)).toArray) (load_qu Q7_y7.out) ?_)
        refine (Z1.out y7 L7_y7.out HC7.out HY7.out).mono ?_
        rintro e y8 ⟨rfl, hb⟩
        have B_y8 : Hid (Below w.heap.size w y8) := Lib.hid (stepB B_y7.out hb)
        have Q_y8 : Hid (BK 26 y8 gQ (quC s n (.slice A l.length c))) := Lib.hid (Q_y7.out.step hb)
        have O_y8 : Hid (BK 36 y8 gO (oqC kd now nn m ma mc x xa xc)) := Lib.hid (O_y7.out.step hb)
        have L7_y8 : Hid (EI y8 y8.heap.size A7 ys7) := Lib.hid (LI.step L7_y7.out hb)
        have Q7_y8 : Hid (BK 26 y8 gQ7 (quC s n (.slice A7 ys7.length c7))) := Lib.hid (Q7_y7.out.step hb)
        have C_y8 : Hid (Below y7.heap.size y7 y8) := Lib.hid (stepB C_y7.out hb)
        clear B_y7 Q_y7 O_y7 L7_y7 Q7_y7 C_y7
        clear hb
        clear z6 z5 u6q u5q
        have z6 := Q7_y8.out.cell 6 rfl
        have z5 := Q7_y8.out.cell 5 rfl
        have u6q := Q_y8.out.cell 6 rfl
        have u5q := Q_y8.out.cell 5 rfl
        go_wp2_with fail
        go_meet
        exact ⟨rfl, C_y8.out⟩
      · have q1 : (rk == 0) = false := by simpa using h0
        go_wp2_with fail
        go_meet
        exact ⟨rfl, C_y7.out⟩
    case rest =>
    rename World => W7
    obtain ⟨rfl, hb⟩ := hcut
    have B_W7 : Hid (Below w.heap.size w W7) := Lib.hid (stepB B_y7.out hb)
    have Q_W7 : Hid (BK 26 W7 gQ (quC s n (.slice A l.length c))) := Lib.hid (Q_y7.out.step hb)
    have O_W7 : Hid (BK 36 W7 gO (oqC kd now nn m ma mc x xa xc)) := Lib.hid (O_y7.out.step hb)
    have L7_W7 : Hid (EI W7 W7.heap.size A7 ys7) := Lib.hid (LI.step L7_y7.out hb)
    have Q7_W7 : Hid (BK 26 W7 gQ7 (quC s7 n7 (.slice A7 ys7.length c7))) := Lib.hid (Q7_y7.out.step hb)
    clear B_y7 Q_y7 O_y7 L7_y7 Q7_y7
    clear hb
    clear Q7_W7 L7_W7
    clear HRE H7 HXP HXZ
    have d1 := O_W7.out.cell 1 rfl
    go_wp2_with first
      | (refine wpList_load_v (by rfl) 26 (.tmp 2) rfl ⟨gQ, 0, none⟩ rfl (.agg (quC s n (.slice A l.length c)).toArray) (load_qu Q_W7.out) ?_)
    refine (HXE.out W7 (HS.out.step B_W7.out)).mono ?_
    rintro e y9 ⟨A9f, c9f, fs9, A9, c9, es9, rfl, hfs, hes, hx1, hx2, hx3, hx4, hb⟩
    have B_y9 : Hid (Below w.heap.size w y9) := Lib.hid (stepB B_W7.out hb)
    have Q_y9 : Hid (BK 26 y9 gQ (quC s n (.slice A l.length c))) := Lib.hid (Q_W7.out.step hb)
    have O_y9 : Hid (BK 36 y9 gO (oqC kd now nn m ma mc x xa xc)) := Lib.hid (O_W7.out.step hb)
    clear B_W7 Q_W7 O_W7
    have HY9 := Lib.hid hes
    have HC9 := Lib.hid hx2
    have L9_y9 : Hid (EI y9 y9.heap.size A9 es9) := Lib.hid hx4.1
    clear hfs hes hx1 hx2 hx3 hx4
    clear hb
    clear d1
    go_upto_region 10 with first
      | (refine S2.wpList_store_all (by rfl) 26 (.tmp 10) (.tmp 91) rfl rfl (y9.heap.size) rfl (quC s n (.slice A9 es9.length c9)) rfl 26 _ (BK.new y9 _ _) quSize rfl (ones rfl) ?_; intro y10 hM hP; have hb : Below y9.heap.size y9 y10 := hP.below (S2.below_new y9 _) (Nat.le_refl _); have B_y10 : Hid (Below w.heap.size w y10) := Lib.hid (stepB B_y9.out hb); have Q_y10 : Hid (BK 26 y10 gQ (quC s n (.slice A l.length c))) := Lib.hid (Q_y9.out.step hb); have O_y10 : Hid (BK 36 y10 gO (oqC kd now nn m ma mc x xa xc)) := Lib.hid (O_y9.out.step hb); have L9_y10 : Hid (EI y10 y10.heap.size A9 es9) := Lib.hid (LI.step L9_y9.out hb); have Q9_y10 : Hid (BK 26 y10 (y9.heap.size) (quC s n (.slice A9 es9.length c9))) := Lib.hid hM; clear hM hP hb B_y9 Q_y9 O_y9 L9_y9)
    obtain ⟨gQ9, hgQ9⟩ : ∃ gQ9, gQ9 = y9.heap.size := ⟨_, rfl⟩
    rw [← hgQ9] at Q9_y10
    try rw [← hgQ9]
    clear hgQ9
    clear O_y10
    have z1 := valid0 HVX.out.1 HZ.out HVX.out.2 A9 c9 es9
    have Z1 := Lib.hid z1
    clear z1
    go_wp2_with first
      | (refine wpList_load_v (by rfl) 26 (.tmp 10) rfl ⟨gQ9, 0, none⟩ rfl (.agg (quC s n (.slice A9 es9.length c9)).toArray) (load_qu Q9_y10.out) ?_)
    refine (Z1.out y10 L9_y10.out HC9.out HY9.out).mono ?_
    rintro e y11 ⟨rfl, hb⟩
    have B_y11 : Hid (Below w.heap.size w y11) := Lib.hid (stepB B_y10.out hb)
    have Q_y11 : Hid (BK 26 y11 gQ (quC s n (.slice A l.length c))) := Lib.hid (Q_y10.out.step hb)
    have L9_y11 : Hid (EI y11 y11.heap.size A9 es9) := Lib.hid (LI.step L9_y10.out hb)
    have Q9_y11 : Hid (BK 26 y11 gQ9 (quC s n (.slice A9 es9.length c9))) := Lib.hid (Q9_y10.out.step hb)
    clear B_y10 Q_y10 L9_y10 Q9_y10
    clear hb
    clear Q9_y11 L9_y11
    go_upto_region 12 with fail
    clear Z1 HXE HVX
    by_cases hl0 : l.length = 0
    · have hp0 : ∀ w1, Calls Tryd.prog 15 #[quV s n (.slice A l.length c)] w1 (RetP0 w1) := fun w1 => by rw [hl0]; exact qPop0_any s n A c w1
      unfold quV RetP0 enW enV at hp0
      have HP0 := Lib.hid hp0
      clear hp0
      have q1 : decide ((0 : Int) < (l.length : Int)) = false := decide_eq_false (by omega)
      have q2 : decide ((l.length : Int) > 0) = false := decide_eq_false (by omega)
      have q3 : ¬ 0 < l.length := by omega
      have q4 : decide (0 < l.length) = false := decide_eq_false q3
      have q5 : ¬ (0 : Int) < (l.length : Int) := by omega
      clear hl0
      go_wp2_with first
        | (refine wpList_load_v (by rfl) 26 (.tmp 2) rfl ⟨gQ, 0, none⟩ rfl (.agg (quC s n (.slice A l.length c)).toArray) (load_qu Q_y11.out) ?_)
      refine (HP0.out y11).mono ?_
      rintro e y12 ⟨rfl, hb⟩
      have B_y12 : Hid (Below w.heap.size w y12) := Lib.hid (stepB B_y11.out hb)
      have Q_y12 : Hid (BK 26 y12 gQ (quC s n (.slice A l.length c))) := Lib.hid (Q_y11.out.step hb)
      clear B_y11 Q_y11
      clear hb
      go_upto_region 13 with first
        | (refine S2.wpList_store_all (by rfl) 34 (.tmp 11) (.tmp 98) rfl rfl y12.heap.size rfl (enX En.zero none 0) rfl 34 (enX En.zero none 0) (BK.alloc (BK.new y12 _ _) _) enSize rfl (enX_one _ _ _) ?_; intro y13 hM hP; have XM := Lib.hid hM; have XP := Lib.hid hP; clear hM hP)
        | (refine S2.wpList_store_all (by rfl) 26 (.tmp 12) (.tmp 99) rfl rfl (y12.heap.size + 1) rfl zeroQ rfl 26 zeroQ (XP.out.other (bk_new1 y12 _ _ _) (by omega)) quSize rfl (quC_one _ rfl) ?_; intro y14 hM hP; have hb : Below y12.heap.size y12 y14 := hP.below (XP.out.below (stepB (S2.below_new y12 _) (S2.below_new _ _)) (Nat.le_refl _)) (by omega); have B_y14 : Hid (Below w.heap.size w y14) := Lib.hid (stepB B_y12.out hb); have Q_y14 : Hid (BK 26 y14 gQ (quC s n (.slice A l.length c))) := Lib.hid (Q_y12.out.step hb); clear hM hP hb XM XP B_y12 Q_y12)
      have d6 := Q_y14.out.cell 6 rfl
      go_wp2_with fail
      refine (HEX.out y14 (HO.out.step B_y14.out)).mono ?_
      rintro e y15 ⟨rfl, hb⟩
      have B_y15 : Hid (Below w.heap.size w y15) := Lib.hid (stepB B_y14.out hb)
      have Q_y15 : Hid (BK 26 y15 gQ (quC s n (.slice A l.length c))) := Lib.hid (Q_y14.out.step hb)
      clear B_y14 Q_y14
      clear hb
      go_wp2
      go_ret
      exact ⟨rfl, B_y15.out⟩
    · obtain ⟨y0, hy0⟩ : ∃ y, l[0]? = some y := ⟨_, List.getElem?_eq_getElem (by omega)⟩
      have hp0 := fun w1 h1 => qPop_any s n A c l y0 w1 h1 hy0 HCL.out (by have := HL6.out; omega) HPP.out
      have hLc : l.map EE.x = y0.x :: (l.map EE.x).drop 1 := by cases l with | nil => cases hy0 | cons z r => rw [List.getElem?_cons_zero] at hy0; cases hy0; rfl
      have hval2 := HVAL.out
      have hez2 := HEZ.out
      rw [hLc] at hval2 hez2
      have hrl : ((l.map EE.x).drop 1).length ≤ 60 := by rw [List.length_drop, List.length_map]; have := HL6.out; omega
      have hrk := retK_pop hval2 hrl
      have hbk := insQ_back (validR_parts hval2).2.2.2.2.1
      have HVT : Hid (validR s n ((l.map EE.x).drop 1) = 0 ∧ ∀ z ∈ (l.map EE.x).drop 1, EzX z) := Lib.hid ⟨valid_tail hval2, fun z hz => hez2 z (List.mem_cons_of_mem _ hz)⟩
      rw [← hLc] at hbk
      have hre : ∀ (B : Option Addr) (d : Nat) (ys : List EE) (a : Option Addr) (ac : Nat) (w1 : World), S1.Okw w1 → EI w1 w1.heap.size B ys → PL w1 w1.heap.size a y0.x.m.props → ys.map EE.x = (l.map EE.x).drop 1 → Calls Tryd.prog 13 #[quV s n (.slice B ys.length d), enW y0.x a ac] w1 (RetQ s n (l.map EE.x) 0 w1) := fun B d ys a ac w1 h1 h2 h3 h4 => by
        have hyl : ys.length ≤ 60 := by rw [len_map h4]; exact hrl
        have h := qReturn_any s n B d ys y0.x a ac w1 h1 h2 h3 (by rw [h4]; exact (validR_parts HVT.out.1).2.2.2.2.1) (by omega) (fun y hy => ent_props ((validR_parts HVT.out.1).2.2.2.1 y.x (by rw [← h4]; exact List.mem_map_of_mem hy))) HNB.out
        rw [h4, hrk, hbk] at h
        exact h
      have hvt := fun B d ys w1 h1 h2 h3 => valid0 HVT.out.1 HZ.out HVT.out.2 B d ys w1 h1 h2 h3
      have hsam : ∀ (B : Option Addr) (d : Nat) (ys : List EE) (w1 : World), EI w1 w1.heap.size B ys → EI w1 w1.heap.size A l → ys.map EE.x = l.map EE.x → Calls Tryd.prog 16 #[quV s n (.slice B ys.length d), quV s n (.slice A l.length c)] w1 fun e w' => e = .returned (.bool true) ∧ Below w1.heap.size w1 w' := fun B d ys w1 h1 h2 h3 => by
        have h := rSameQ_any s s n n B d ys A c l w1 h1 h2 (by rw [len_map h3, List.length_map]; have := HL6.out; omega) (fun y hy => ent_props ((validR_parts HVAL.out).2.2.2.1 y.x (by rw [← h3]; exact List.mem_map_of_mem hy)))
        rw [decide_eq_true (p := s = s ∧ n = n ∧ ys.map EE.x = l.map EE.x) ⟨rfl, rfl, h3⟩] at h
        exact h
      unfold RetP quV enW enV at hp0
      unfold RetQ quV enW enV at hre
      unfold quV at hvt hsam
      have HP0 := Lib.hid hp0
      have HRE := Lib.hid hre
      have HVA := Lib.hid hvt
      have HSA := Lib.hid hsam
      clear hp0 hre hvt hsam hLc hval2 hez2 hrl hrk hbk hy0
      have q1 : decide ((0 : Int) < (l.length : Int)) = true := decide_eq_true (by omega)
      have q2 : decide ((l.length : Int) > 0) = true := decide_eq_true (by omega)
      have q3 : 0 < l.length := by omega
      have q4 : decide (0 < l.length) = true := decide_eq_true q3
      have q5 : (0 : Int) < (l.length : Int) := by omega
      have q6 : ¬ l.length = 0 := by omega
      clear hl0
      go_wp2_with first
        | (refine wpList_load_v (by rfl) 26 (.tmp 2) rfl ⟨gQ, 0, none⟩ rfl (.agg (quC s n (.slice A l.length c)).toArray) (load_qu Q_y11.out) ?_)
      refine (HP0.out y11 (HS.out.step B_y11.out)).mono ?_
      rintro e y16 ⟨a8, ac8, v8, ys8, rfl, hpl, hnl, hys8, hL8, hb⟩
      have B_y16 : Hid (Below w.heap.size w y16) := Lib.hid (stepB B_y11.out hb)
      have Q_y16 : Hid (BK 26 y16 gQ (quC s n (.slice A l.length c))) := Lib.hid (Q_y11.out.step hb)
      clear B_y11 Q_y11
      obtain ⟨A8, c8, rfl, hc8, hen8⟩ := LN.of gE_len hL8
      have HY8 := Lib.hid hys8
      have HC8 := Lib.hid hc8
      have L8_y16 : Hid (EI y16 y16.heap.size A8 ys8) := Lib.hid hen8.1
      have P8_y16 : Hid (PL y16 y16.heap.size a8 y0.x.m.props) := Lib.hid hpl
      clear hL8 hys8 hpl hnl hc8 hen8
      clear hb
      go_upto_region 13 with first
        | (refine S2.wpList_store_all (by rfl) 34 (.tmp 11) (.tmp 98) rfl rfl y16.heap.size rfl (enX y0.x a8 ac8) rfl 34 (enX En.zero none 0) (BK.alloc (BK.new y16 _ _) _) enSize rfl (enX_one _ _ _) ?_; intro y17 hM hP; have XM := Lib.hid hM; have XP := Lib.hid hP; clear hM hP)
        | (refine S2.wpList_store_all (by rfl) 26 (.tmp 12) (.tmp 99) rfl rfl (y16.heap.size + 1) rfl (quC s n (.slice A8 ys8.length c8)) rfl 26 zeroQ (XP.out.other (bk_new1 y16 _ _ _) (by omega)) quSize rfl (quC_one _ rfl) ?_; intro y18 hM hP; have hb : Below y16.heap.size y16 y18 := hP.below (XP.out.below (stepB (S2.below_new y16 _) (S2.below_new _ _)) (Nat.le_refl _)) (by omega); have E8_y18 : Hid (BK 34 y18 y16.heap.size (enX y0.x a8 ac8)) := Lib.hid (hP.other XM.out (by omega)); have Q8_y18 : Hid (BK 26 y18 (y16.heap.size + 1) (quC s n (.slice A8 ys8.length c8))) := Lib.hid hM; have B_y18 : Hid (Below w.heap.size w y18) := Lib.hid (stepB B_y16.out hb); have Q_y18 : Hid (BK 26 y18 gQ (quC s n (.slice A l.length c))) := Lib.hid (Q_y16.out.step hb); have L8_y18 : Hid (EI y18 y18.heap.size A8 ys8) := Lib.hid (LI.step L8_y16.out hb); have P8_y18 : Hid (PL y18 y18.heap.size a8 y0.x.m.props) := Lib.hid (GL.step P8_y16.out hb); clear hM hP hb XM XP B_y16 Q_y16 L8_y16 P8_y16)
      obtain ⟨g8, hg8⟩ : ∃ b, b = y16.heap.size + 1 := ⟨_, rfl⟩
      obtain ⟨g7, hg7⟩ : ∃ b, b = y16.heap.size := ⟨_, rfl⟩
      rw [← hg8] at Q8_y18
      try rw [← hg8]
      clear hg8
      rw [← hg7] at E8_y18
      try rw [← hg7]
      clear hg7
      have d6 := Q_y18.out.cell 6 rfl
      go_upto_region 17 with fail
      clear d6 q1 q2 q3 q4 q5 q6
      go_wp2_with first
        | (refine wpList_load_v (by rfl) 26 (.tmp 12) rfl ⟨g8, 0, none⟩ rfl (.agg (quC s n (.slice A8 ys8.length c8)).toArray) (load_qu Q8_y18.out) ?_)
        | (refine wpList_load_v (by rfl) 34 (.tmp 11) rfl ⟨g7, 0, none⟩ rfl (.agg (enX y0.x a8 ac8).toArray) (load_en0 E8_y18.out) ?_)
      refine (HRE.out A8 c8 ys8 a8 ac8 y18 (HO.out.step B_y18.out) L8_y18.out P8_y18.out HY8.out).mono ?_
      rintro e y19 ⟨v14, ys14, rfl, hys14, hL14, hb⟩
      have B_y19 : Hid (Below w.heap.size w y19) := Lib.hid (stepB B_y18.out hb)
      have Q_y19 : Hid (BK 26 y19 gQ (quC s n (.slice A l.length c))) := Lib.hid (Q_y18.out.step hb)
      have L8_y19 : Hid (EI y19 y19.heap.size A8 ys8) := Lib.hid (LI.step L8_y18.out hb)
      have P8_y19 : Hid (PL y19 y19.heap.size a8 y0.x.m.props) := Lib.hid (GL.step P8_y18.out hb)
      have E8_y19 : Hid (BK 34 y19 g7 (enX y0.x a8 ac8)) := Lib.hid (E8_y18.out.step hb)
      have Q8_y19 : Hid (BK 26 y19 g8 (quC s n (.slice A8 ys8.length c8))) := Lib.hid (Q8_y18.out.step hb)
      clear B_y18 Q_y18 L8_y18 P8_y18 E8_y18 Q8_y18
      obtain ⟨A14, c14, rfl, hc14, hen14⟩ := LN.of gE_len hL14
      have HY14 := Lib.hid hys14
      have L14_y19 : Hid (EI y19 y19.heap.size A14 ys14) := Lib.hid hen14.1
      clear hL14 hys14 hc14 hen14
      clear hb
      go_upto_region 18 with first
        | (refine S2.wpList_store_all (by rfl) 26 (.tmp 14) (.tmp 114) rfl rfl (y19.heap.size) rfl (quC s n (.slice A14 ys14.length c14)) rfl 26 _ (BK.new y19 _ _) quSize rfl (ones rfl) ?_; intro y20 hM hP; have hb : Below y19.heap.size y19 y20 := hP.below (S2.below_new y19 _) (Nat.le_refl _); have B_y20 : Hid (Below w.heap.size w y20) := Lib.hid (stepB B_y19.out hb); have Q_y20 : Hid (BK 26 y20 gQ (quC s n (.slice A l.length c))) := Lib.hid (Q_y19.out.step hb); have L8_y20 : Hid (EI y20 y20.heap.size A8 ys8) := Lib.hid (LI.step L8_y19.out hb); have P8_y20 : Hid (PL y20 y20.heap.size a8 y0.x.m.props) := Lib.hid (GL.step P8_y19.out hb); have E8_y20 : Hid (BK 34 y20 g7 (enX y0.x a8 ac8)) := Lib.hid (E8_y19.out.step hb); have Q8_y20 : Hid (BK 26 y20 g8 (quC s n (.slice A8 ys8.length c8))) := Lib.hid (Q8_y19.out.step hb); have L14_y20 : Hid (EI y20 y20.heap.size A14 ys14) := Lib.hid (LI.step L14_y19.out hb); have Q14_y20 : Hid (BK 26 y20 (y19.heap.size) (quC s n (.slice A14 ys14.length c14))) := Lib.hid hM; clear hM hP hb B_y19 Q_y19 L8_y19 P8_y19 E8_y19 Q8_y19 L14_y19)
      obtain ⟨gQ14, hgQ14⟩ : ∃ gQ14, gQ14 = y19.heap.size := ⟨_, rfl⟩
      rw [← hgQ14] at Q14_y20
      try rw [← hgQ14]
      clear hgQ14
      go_wp2_with first
        | (refine wpList_load_v (by rfl) 26 (.tmp 12) rfl ⟨g8, 0, none⟩ rfl (.agg (quC s n (.slice A8 ys8.length c8)).toArray) (load_qu Q8_y20.out) ?_)
      refine (HVA.out A8 c8 ys8 y20 L8_y20.out HC8.out HY8.out).mono ?_
      rintro e y21 ⟨rfl, hb⟩
      have B_y21 : Hid (Below w.heap.size w y21) := Lib.hid (stepB B_y20.out hb)
      have Q_y21 : Hid (BK 26 y21 gQ (quC s n (.slice A l.length c))) := Lib.hid (Q_y20.out.step hb)
      have L8_y21 : Hid (EI y21 y21.heap.size A8 ys8) := Lib.hid (LI.step L8_y20.out hb)
      have P8_y21 : Hid (PL y21 y21.heap.size a8 y0.x.m.props) := Lib.hid (GL.step P8_y20.out hb)
      have E8_y21 : Hid (BK 34 y21 g7 (enX y0.x a8 ac8)) := Lib.hid (E8_y20.out.step hb)
      have Q8_y21 : Hid (BK 26 y21 g8 (quC s n (.slice A8 ys8.length c8))) := Lib.hid (Q8_y20.out.step hb)
      have L14_y21 : Hid (EI y21 y21.heap.size A14 ys14) := Lib.hid (LI.step L14_y20.out hb)
      have Q14_y21 : Hid (BK 26 y21 gQ14 (quC s n (.slice A14 ys14.length c14))) := Lib.hid (Q14_y20.out.step hb)
      clear B_y20 Q_y20 L8_y20 P8_y20 E8_y20 Q8_y20 L14_y20 Q14_y20
      clear hb
      go_wp2_with first
        | (refine wpList_load_v (by rfl) 26 (.tmp 14) rfl ⟨gQ14, 0, none⟩ rfl (.agg (quC s n (.slice A14 ys14.length c14)).toArray) (load_qu Q14_y21.out) ?_)
        | (refine wpList_load_v (by rfl) 26 (.tmp 2) rfl ⟨gQ, 0, none⟩ rfl (.agg (quC s n (.slice A l.length c)).toArray) (load_qu Q_y21.out) ?_)
      refine (HSA.out A14 c14 ys14 y21 L14_y21.out (HS.out.step B_y21.out) HY14.out).mono ?_
      rintro e y22 ⟨rfl, hb⟩
      have B_y22 : Hid (Below w.heap.size w y22) := Lib.hid (stepB B_y21.out hb)
      have Q_y22 : Hid (BK 26 y22 gQ (quC s n (.slice A l.length c))) := Lib.hid (Q_y21.out.step hb)
      have L8_y22 : Hid (EI y22 y22.heap.size A8 ys8) := Lib.hid (LI.step L8_y21.out hb)
      have P8_y22 : Hid (PL y22 y22.heap.size a8 y0.x.m.props) := Lib.hid (GL.step P8_y21.out hb)
      have E8_y22 : Hid (BK 34 y22 g7 (enX y0.x a8 ac8)) := Lib.hid (E8_y21.out.step hb)
      have Q8_y22 : Hid (BK 26 y22 g8 (quC s n (.slice A8 ys8.length c8))) := Lib.hid (Q8_y21.out.step hb)
      have L14_y22 : Hid (EI y22 y22.heap.size A14 ys14) := Lib.hid (LI.step L14_y21.out hb)
      have Q14_y22 : Hid (BK 26 y22 gQ14 (quC s n (.slice A14 ys14.length c14))) := Lib.hid (Q14_y21.out.step hb)
      clear B_y21 Q_y21 L8_y21 P8_y21 E8_y21 Q8_y21 L14_y21 Q14_y21
      clear hb
      go_wp2_with fail
      refine (HEX.out y22 (HO.out.step B_y22.out)).mono ?_
      rintro e y23 ⟨rfl, hb⟩
      have B_y23 : Hid (Below w.heap.size w y23) := Lib.hid (stepB B_y22.out hb)
      have Q_y23 : Hid (BK 26 y23 gQ (quC s n (.slice A l.length c))) := Lib.hid (Q_y22.out.step hb)
      have L8_y23 : Hid (EI y23 y23.heap.size A8 ys8) := Lib.hid (LI.step L8_y22.out hb)
      have P8_y23 : Hid (PL y23 y23.heap.size a8 y0.x.m.props) := Lib.hid (GL.step P8_y22.out hb)
      have E8_y23 : Hid (BK 34 y23 g7 (enX y0.x a8 ac8)) := Lib.hid (E8_y22.out.step hb)
      have Q8_y23 : Hid (BK 26 y23 g8 (quC s n (.slice A8 ys8.length c8))) := Lib.hid (Q8_y22.out.step hb)
      have L14_y23 : Hid (EI y23 y23.heap.size A14 ys14) := Lib.hid (LI.step L14_y22.out hb)
      have Q14_y23 : Hid (BK 26 y23 gQ14 (quC s n (.slice A14 ys14.length c14))) := Lib.hid (Q14_y22.out.step hb)
      clear B_y22 Q_y22 L8_y22 P8_y22 E8_y22 Q8_y22 L14_y22 Q14_y22
      clear hb
      go_wp2
      go_ret
      exact ⟨rfl, B_y23.out⟩

end Go.Proofs.YtjhojpghllnoiaaDoor
