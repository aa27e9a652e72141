/-
  QueueExpires answers true, walked. Conditions: the queue reads as data; the texts fit; the library's bound on short texts holds a number.
-/
import Derived.Test.YtjhojpghllnoiaaDoorQaV
import Derived.Test.YtjhojpghllnoiaaDoorQaL
import Derived.Test.YtjhojpghllnoiaaDoorQaO
namespace Go.Proofs.YtjhojpghllnoiaaDoor
open Go.RowKit
open S2 (BK Put get_ops)

theorem neqSp (x : Sp) (w : World) : Sem.run Tryd.prog (binOp .neq 23 (.agg (spC x).toArray) (.agg (spC x).toArray)) w = .ok (.bool false) w := by
  obtain ⟨n, m, t, c, d⟩ := x
  have u3 := Tryd.underlying9
  have a3 := Tryd.isAgg9
  have z3 := Tryd.sizeOf9
  have u4 := Tryd.underlying3
  have a4 := Tryd.isAgg3
  have z4 := Tryd.sizeOf3
  have hS : Tryd.prog.underlying 23 = some (.struct (Tryd.prog.fieldsOf 23)) := by kernel_rfl
  have hp : Tryd.prog.stoodInHeld 23 = false := by kernel_rfl
  have h1 := str_dec n n
  have h2 := str_dec d d
  show Sem.run Tryd.prog (binOp .neq 23 (.agg #[.string n, .int .i64 m, .int .i64 t, .int .i64 c, .string d]) (.agg #[.string n, .int .i64 m, .int .i64 t, .int .i64 c, .string d])) w = _
  rw [run_neq_struct, show (10000 : Nat) = 9999 + 1 from rfl, run_equalIn_agg w 9999 23 _ _ hS hp]
  simp only [Program.fieldsOf, Tryd.underlying23]
  go_simp
/-- the expired ones among the first entries, the others among them -/
def gN (s : Sp) (now : Int) (l : List En) (j : Nat) : Nat := (goneQ s now (l.take j)).length
def lN (s : Sp) (now : Int) (l : List En) (j : Nat) : Nat := (leftQ s now (l.take j)).length
theorem gN_all (s : Sp) (now : Int) (l : List En) : gN s now l l.length = (goneQ s now l).length := by unfold gN; rw [List.take_length]
theorem lN_all (s : Sp) (now : Int) (l : List En) : lN s now l l.length = (leftQ s now l).length := by unfold lN; rw [List.take_length]
theorem gN_at {s : Sp} {now : Int} {l : List En} {j : Nat} {e : En} (h : l[j]? = some e) (hp : expX s.ttl e.r e.m now = true) : (goneQ s now l)[gN s now l j]? = some e ∧ gN s now l (j + 1) = gN s now l j + 1 ∧ lN s now l (j + 1) = lN s now l j := by
  refine ⟨fil_at _ h hp, ?_, ?_⟩
  · have := fil_succ (fun x => expX s.ttl x.r x.m now) h
    simp only [hp, if_true] at this
    exact this
  · have := fil_succ (fun x => !expX s.ttl x.r x.m now) h
    simp only [lN, leftQ]
    simpa [hp] using this
theorem lN_at {s : Sp} {now : Int} {l : List En} {j : Nat} {e : En} (h : l[j]? = some e) (hp : expX s.ttl e.r e.m now = false) : (leftQ s now l)[lN s now l j]? = some e ∧ gN s now l (j + 1) = gN s now l j ∧ lN s now l (j + 1) = lN s now l j + 1 := by
  refine ⟨fil_at (fun x => !expX s.ttl x.r x.m now) h (by simp [hp]), ?_, ?_⟩
  · have := fil_succ (fun x => expX s.ttl x.r x.m now) h
    simp only [gN, goneQ]
    simpa [hp] using this
  · have := fil_succ (fun x => !expX s.ttl x.r x.m now) h
    simp only [lN, leftQ]
    simpa [hp] using this
theorem gone_ne {s : Sp} {now : Int} {l : List En} {i : Nat} {e z : En} (hz : (goneQ s now l)[i]? = some z) (hp : expX s.ttl e.r e.m now = false) : decide (z = e) = false := decide_eq_false (fun h => by
  subst h
  have := (List.mem_filter.1 (List.mem_of_getElem? hz)).2
  simp only [hp] at this
  cases this)
theorem map_at {ys : List EE} {L : List En} (h : ys.map EE.x = L) {i : Nat} {z : En} (hz : L[i]? = some z) : ∃ y, ys[i]? = some y ∧ y.x = z := by
  subst h
  rw [List.getElem?_map] at hz
  cases hy : ys[i]? with
  | none => rw [hy] at hz; cases hz
  | some y => rw [hy] at hz; cases hz; exact ⟨y, rfl, rfl⟩

set_option maxRecDepth 20000 in
set_option maxHeartbeats 16000000 in
theorem queueExpires_walk (s : Sp) (n : Int) (A : Option Addr) (c : Nat) (l : List EE) (now later : Int) (w : World) (hw : S1.Okw w) (hz : s.name.size ≤ 9223372036854775807 ∧ s.dead.size ≤ 9223372036854775807) (hsl : EI w w.heap.size A l) (hc : l.length ≤ c) (hzp : ∀ y ∈ l, (y.x.m.topic.size ≤ 9223372036854775807 ∧ y.x.m.frm.size ≤ 9223372036854775807 ∧ ∀ z ∈ y.x.m.props, z.1.size ≤ 9223372036854775807) ∧ y.x.m.props.length ≤ 4398046511104) :
    Calls Tryd.prog 6 #[quV s n (.slice A l.length c), .int .i64 now, .int .i64 later] w fun e w' => e = .returned (.bool true) ∧ Below w.heap.size w w' := by
  have HO := Lib.hid hw
  have HS := Lib.hid hsl
  have HEX := Lib.hid (fun w1 h1 => exHoldsQ_any w1 h1)
  have HSM := Lib.hid (fun w1 h1 => small_any s n A c l w1 hz h1 hc (fun y hy => (hzp y hy).1))
  generalize hsm : decide (l.length ≤ 60 ∧ validR s n (l.map EE.x) = 0) = sm at HSM
  unfold quV at HSM ⊢
  have HSMD := Lib.hid hsm
  have HPP : Hid (∀ y ∈ l, y.x.m.props.length ≤ 4398046511104) := Lib.hid (fun y hy => (hzp y hy).2)
  clear hw hz hsl hc hzp hsm
  go_enter Tryd.func6, Tryd.ntmps6
  go_upto_region 1 with fail
  refine name_world (C := fun w1 => Code.wp _ _ _ _ w1) (w.alloc (.cells (quC s n (.slice A l.length c)).toArray 26)) ?_
  intro w1 hw1
  have hb1 : Below w.heap.size w w1 := by rw [hw1]; exact S2.below_new w _
  have Q_w1 : Hid (BK 26 w1 w.heap.size (quC s n (.slice A l.length c))) := Lib.hid (by rw [hw1]; exact BK.new w _ _)
  have B_w1 := Lib.hid hb1
  clear hw1 hb1
  obtain ⟨gQ, hgQ⟩ : ∃ g, g = w.heap.size := ⟨_, rfl⟩
  rw [← hgQ] at Q_w1
  try rw [← hgQ]
  clear hgQ
  go_wp2_with first
    | (refine wpList_load_v (by rfl) 26 (.tmp 3) rfl ⟨gQ, 0, none⟩ rfl (.agg (quC s n (.slice A l.length c)).toArray) (load_qu Q_w1.out) ?_)
  refine (HSM.out w1 (HS.out.step B_w1.out)).mono ?_
  rintro e y1 ⟨rfl, hb⟩
  have B_y1 : Hid (Below w.heap.size w y1) := Lib.hid (stepB B_w1.out hb)
  have Q_y1 : Hid (BK 26 y1 gQ (quC s n (.slice A l.length c))) := Lib.hid (Q_w1.out.step hb)
  clear B_w1 Q_w1
  clear hb
  cases sm with
  | false =>
    clear HSMD HPP
    go_wp2_with fail
    refine (HEX.out y1 (HO.out.step B_y1.out)).mono ?_
    rintro e y2 ⟨rfl, hb⟩
    have B_y2 : Hid (Below w.heap.size w y2) := Lib.hid (stepB B_y1.out hb)
    have Q_y2 : Hid (BK 26 y2 gQ (quC s n (.slice A l.length c))) := Lib.hid (Q_y1.out.step hb)
    clear B_y1 Q_y1
    clear hb
    go_wp2
    go_ret
    exact ⟨rfl, B_y2.out⟩
  | true =>
    by_cases hnl : later < now
    · have q1 : decide (later < now) = true := decide_eq_true hnl
      clear HSMD HPP
      go_wp2_with fail
      refine (HEX.out y1 (HO.out.step B_y1.out)).mono ?_
      rintro e y3 ⟨rfl, hb⟩
      have B_y3 : Hid (Below w.heap.size w y3) := Lib.hid (stepB B_y1.out hb)
      have Q_y3 : Hid (BK 26 y3 gQ (quC s n (.slice A l.length c))) := Lib.hid (Q_y1.out.step hb)
      clear B_y1 Q_y1
      clear hb
      go_wp2
      go_ret
      exact ⟨rfl, B_y3.out⟩
    obtain ⟨hl6, hval⟩ := of_decide_eq_true HSMD.out
    clear HSMD HSM
    obtain ⟨v1, v2, v3, v4, v5, v6⟩ := validR_parts hval
    have HL6 := Lib.hid hl6
    have hpp := HPP.out
    have htt := (specR_parts v1).2.2.1
    have har : ∀ y ∈ l, 0 ≤ y.x.r ∧ y.x.r ≤ 1099511627776 := fun y hy => (entR_parts (v4 _ (List.mem_map_of_mem hy))).2.1
    have hx1 := fun w1 h1 => qExpire_any s n A c l now w1 h1 (by omega) hpp htt har
    have hx3 := fun w1 h1 => qExpire_any s n A c l later w1 h1 (by omega) hpp htt har
    have hx2 : ∀ (D : Option Addr) (d : Nat) (ys : List EE) (w1 : World), EI w1 w1.heap.size D ys → ys.map EE.x = leftQ s now (l.map EE.x) → Calls Tryd.prog 14 #[quV s n (.slice D ys.length d), .int .i64 now] w1 (RetX s n [] (leftQ s now (l.map EE.x)) w1) := fun D d ys w1 h1 h2 => by
      have hm : ∀ y ∈ ys, y.x ∈ l.map EE.x := fun y hy => (List.mem_filter.1 (by have := List.mem_map_of_mem (f := EE.x) hy; rw [h2] at this; exact this)).1
      have hlen : ys.length ≤ 60 := by rw [len_map h2]; exact Nat.le_trans (List.length_filter_le _ _) (by rw [List.length_map]; exact hl6)
      have h := qExpire_any s n D d ys now w1 h1 (by omega) (fun y hy => by obtain ⟨z, hz, e⟩ := List.mem_map.1 (hm y hy); rw [← e]; exact hpp z hz) htt (fun y hy => (entR_parts (v4 _ (hm y hy))).2.1)
      rw [h2, gone_left, left_left] at h
      exact h
    have hsam : ∀ (D : Option Addr) (d : Nat) (ys : List EE) (D' : Option Addr) (d' : Nat) (zs : List EE) (w1 : World), EI w1 w1.heap.size D ys → EI w1 w1.heap.size D' zs → ys.map EE.x = leftQ s now (l.map EE.x) → zs.map EE.x = leftQ s now (l.map EE.x) → Calls Tryd.prog 16 #[quV s n (.slice D ys.length d), quV s n (.slice D' zs.length d')] w1 fun e w' => e = .returned (.bool true) ∧ Below w1.heap.size w1 w' := fun D d ys D' d' zs w1 h1 h2 h3 h4 => by
      have hm : ∀ y ∈ ys, y.x ∈ l.map EE.x := fun y hy => (List.mem_filter.1 (by have := List.mem_map_of_mem (f := EE.x) hy; rw [h3] at this; exact this)).1
      have hlen : ys.length ≤ 60 := by rw [len_map h3]; exact Nat.le_trans (List.length_filter_le _ _) (by rw [List.length_map]; exact hl6)
      have h := rSameQ_any s s n n D d ys D' d' zs w1 h1 h2 (by omega) (fun y hy => by obtain ⟨z, hz, e⟩ := List.mem_map.1 (hm y hy); rw [← e]; exact hpp z hz)
      rw [decide_eq_true (p := s = s ∧ n = n ∧ ys.map EE.x = zs.map EE.x) ⟨rfl, rfl, by rw [h3, h4]⟩] at h
      exact h
    have HMO : Hid ((goneQ s now (l.map EE.x)).length ≤ (goneQ s later (l.map EE.x)).length) := Lib.hid (gone_more (by omega))
    unfold RetX quV at hx1 hx2 hx3
    unfold quV at hsam
    have HX1 := Lib.hid hx1
    have HX2 := Lib.hid hx2
    have HX3 := Lib.hid hx3
    have HSA := Lib.hid hsam
    have q1 : decide (later < now) = false := decide_eq_false hnl
    clear hx1 hx2 hx3 hsam hpp htt har v1 v2 v3 v4 v5 v6 hval hl6 hnl
    go_upto_region 3 with fail
    clear q1
    go_wp2_with first
      | (refine wpList_load_v (by rfl) 26 (.tmp 3) rfl ⟨gQ, 0, none⟩ rfl (.agg (quC s n (.slice A l.length c)).toArray) (load_qu Q_y1.out) ?_)
    refine (HX1.out y1 (HS.out.step B_y1.out)).mono ?_
    rintro e y4 ⟨A1f, c1f, fs1, A1, c1, es1, rfl, hfs, hes, hx1, hx2, hx3, hx4, hb⟩
    have B_y4 : Hid (Below w.heap.size w y4) := Lib.hid (stepB B_y1.out hb)
    have Q_y4 : Hid (BK 26 y4 gQ (quC s n (.slice A l.length c))) := Lib.hid (Q_y1.out.step hb)
    clear B_y1 Q_y1
    have HG1 := Lib.hid hfs
    have HL1 := Lib.hid hes
    have G1_y4 : Hid (EI y4 y4.heap.size A1f fs1) := Lib.hid hx3.1
    have L1_y4 : Hid (EI y4 y4.heap.size A1 es1) := Lib.hid hx4.1
    clear hfs hes hx1 hx2 hx3 hx4
    clear hb
    go_upto_region 4 with first
      | (refine S2.wpList_store_all (by rfl) 26 (.tmp 8) (.tmp 31) rfl rfl (y4.heap.size) rfl (quC s n (.slice A1 es1.length c1)) rfl 26 _ (BK.new y4 _ _) quSize rfl (ones rfl) ?_; intro y5 hM hP; have hb : Below y4.heap.size y4 y5 := hP.below (S2.below_new y4 _) (Nat.le_refl _); have B_y5 : Hid (Below w.heap.size w y5) := Lib.hid (stepB B_y4.out hb); have Q_y5 : Hid (BK 26 y5 gQ (quC s n (.slice A l.length c))) := Lib.hid (Q_y4.out.step hb); have G1_y5 : Hid (EI y5 y5.heap.size A1f fs1) := Lib.hid (LI.step G1_y4.out hb); have L1_y5 : Hid (EI y5 y5.heap.size A1 es1) := Lib.hid (LI.step L1_y4.out hb); have Q1_y5 : Hid (BK 26 y5 (y4.heap.size) (quC s n (.slice A1 es1.length c1))) := Lib.hid hM; clear hM hP hb B_y4 Q_y4 G1_y4 L1_y4)
    obtain ⟨gQ1, hgQ1⟩ : ∃ gQ1, gQ1 = y4.heap.size := ⟨_, rfl⟩
    rw [← hgQ1] at Q1_y5
    try rw [← hgQ1]
    clear hgQ1
    go_wp2_with first
      | (refine wpList_load_v (by rfl) 26 (.tmp 8) rfl ⟨gQ1, 0, none⟩ rfl (.agg (quC s n (.slice A1 es1.length c1)).toArray) (load_qu Q1_y5.out) ?_)
    refine (HX2.out A1 c1 es1 y5 L1_y5.out HL1.out).mono ?_
    rintro e y6 ⟨A2f, c2f, fs2, A2, c2, es2, rfl, hfs, hes, hx1, hx2, hx3, hx4, hb⟩
    have B_y6 : Hid (Below w.heap.size w y6) := Lib.hid (stepB B_y5.out hb)
    have Q_y6 : Hid (BK 26 y6 gQ (quC s n (.slice A l.length c))) := Lib.hid (Q_y5.out.step hb)
    have G1_y6 : Hid (EI y6 y6.heap.size A1f fs1) := Lib.hid (LI.step G1_y5.out hb)
    have L1_y6 : Hid (EI y6 y6.heap.size A1 es1) := Lib.hid (LI.step L1_y5.out hb)
    have Q1_y6 : Hid (BK 26 y6 gQ1 (quC s n (.slice A1 es1.length c1))) := Lib.hid (Q1_y5.out.step hb)
    clear B_y5 Q_y5 G1_y5 L1_y5 Q1_y5
    have HG2 := Lib.hid hfs
    have HL2 := Lib.hid hes
    have G2_y6 : Hid (EI y6 y6.heap.size A2f fs2) := Lib.hid hx3.1
    have L2_y6 : Hid (EI y6 y6.heap.size A2 es2) := Lib.hid hx4.1
    clear hfs hes hx1 hx2 hx3 hx4
    clear hb
    go_upto_region 5 with first
      | (refine S2.wpList_store_all (by rfl) 26 (.tmp 10) (.tmp 37) rfl rfl (y6.heap.size) rfl (quC s n (.slice A2 es2.length c2)) rfl 26 _ (BK.new y6 _ _) quSize rfl (ones rfl) ?_; intro y7 hM hP; have hb : Below y6.heap.size y6 y7 := hP.below (S2.below_new y6 _) (Nat.le_refl _); have B_y7 : Hid (Below w.heap.size w y7) := Lib.hid (stepB B_y6.out hb); have Q_y7 : Hid (BK 26 y7 gQ (quC s n (.slice A l.length c))) := Lib.hid (Q_y6.out.step hb); have G1_y7 : Hid (EI y7 y7.heap.size A1f fs1) := Lib.hid (LI.step G1_y6.out hb); have L1_y7 : Hid (EI y7 y7.heap.size A1 es1) := Lib.hid (LI.step L1_y6.out hb); have Q1_y7 : Hid (BK 26 y7 gQ1 (quC s n (.slice A1 es1.length c1))) := Lib.hid (Q1_y6.out.step hb); have G2_y7 : Hid (EI y7 y7.heap.size A2f fs2) := Lib.hid (LI.step G2_y6.out hb); have L2_y7 : Hid (EI y7 y7.heap.size A2 es2) := Lib.hid (LI.step L2_y6.out hb); have Q2_y7 : Hid (BK 26 y7 (y6.heap.size) (quC s n (.slice A2 es2.length c2))) := Lib.hid hM; clear hM hP hb B_y6 Q_y6 G1_y6 L1_y6 Q1_y6 G2_y6 L2_y6)
    obtain ⟨gQ2, hgQ2⟩ : ∃ gQ2, gQ2 = y6.heap.size := ⟨_, rfl⟩
    rw [← hgQ2] at Q2_y7
    try rw [← hgQ2]
    clear hgQ2
    go_wp2_with first
      | (refine wpList_load_v (by rfl) 26 (.tmp 3) rfl ⟨gQ, 0, none⟩ rfl (.agg (quC s n (.slice A l.length c)).toArray) (load_qu Q_y7.out) ?_)
    refine (HX3.out y7 (HS.out.step B_y7.out)).mono ?_
    rintro e y8 ⟨A3f, c3f, fs3, A3, c3, es3, rfl, hfs, hes, hx1, hx2, hx3, hx4, hb⟩
    have B_y8 : Hid (Below w.heap.size w y8) := Lib.hid (stepB B_y7.out hb)
    have Q_y8 : Hid (BK 26 y8 gQ (quC s n (.slice A l.length c))) := Lib.hid (Q_y7.out.step hb)
    have G1_y8 : Hid (EI y8 y8.heap.size A1f fs1) := Lib.hid (LI.step G1_y7.out hb)
    have L1_y8 : Hid (EI y8 y8.heap.size A1 es1) := Lib.hid (LI.step L1_y7.out hb)
    have Q1_y8 : Hid (BK 26 y8 gQ1 (quC s n (.slice A1 es1.length c1))) := Lib.hid (Q1_y7.out.step hb)
    have G2_y8 : Hid (EI y8 y8.heap.size A2f fs2) := Lib.hid (LI.step G2_y7.out hb)
    have L2_y8 : Hid (EI y8 y8.heap.size A2 es2) := Lib.hid (LI.step L2_y7.out hb)
    have Q2_y8 : Hid (BK 26 y8 gQ2 (quC s n (.slice A2 es2.length c2))) := Lib.hid (Q2_y7.out.step hb)
    clear B_y7 Q_y7 G1_y7 L1_y7 Q1_y7 G2_y7 L2_y7 Q2_y7
    have HG3 := Lib.hid hfs
    have HL3 := Lib.hid hes
    have G3_y8 : Hid (EI y8 y8.heap.size A3f fs3) := Lib.hid hx3.1
    have L3_y8 : Hid (EI y8 y8.heap.size A3 es3) := Lib.hid hx4.1
    clear hfs hes hx1 hx2 hx3 hx4
    clear hb
    go_upto_region 6 with first
      | (refine S2.wpList_store_all (by rfl) 26 (.tmp 12) (.tmp 43) rfl rfl (y8.heap.size) rfl (quC s n (.slice A3 es3.length c3)) rfl 26 _ (BK.new y8 _ _) quSize rfl (ones rfl) ?_; intro y9 hM hP; have hb : Below y8.heap.size y8 y9 := hP.below (S2.below_new y8 _) (Nat.le_refl _); have B_y9 : Hid (Below w.heap.size w y9) := Lib.hid (stepB B_y8.out hb); have Q_y9 : Hid (BK 26 y9 gQ (quC s n (.slice A l.length c))) := Lib.hid (Q_y8.out.step hb); have G1_y9 : Hid (EI y9 y9.heap.size A1f fs1) := Lib.hid (LI.step G1_y8.out hb); have L1_y9 : Hid (EI y9 y9.heap.size A1 es1) := Lib.hid (LI.step L1_y8.out hb); have Q1_y9 : Hid (BK 26 y9 gQ1 (quC s n (.slice A1 es1.length c1))) := Lib.hid (Q1_y8.out.step hb); have G2_y9 : Hid (EI y9 y9.heap.size A2f fs2) := Lib.hid (LI.step G2_y8.out hb); have L2_y9 : Hid (EI y9 y9.heap.size A2 es2) := Lib.hid (LI.step L2_y8.out hb); have Q2_y9 : Hid (BK 26 y9 gQ2 (quC s n (.slice A2 es2.length c2))) := Lib.hid (Q2_y8.out.step hb); have G3_y9 : Hid (EI y9 y9.heap.size A3f fs3) := Lib.hid (LI.step G3_y8.out hb); have L3_y9 : Hid (EI y9 y9.heap.size A3 es3) := Lib.hid (LI.step L3_y8.out hb); have Q3_y9 : Hid (BK 26 y9 (y8.heap.size) (quC s n (.slice A3 es3.length c3))) := Lib.hid hM; clear hM hP hb B_y8 Q_y8 G1_y8 L1_y8 Q1_y8 G2_y8 L2_y8 Q2_y8 G3_y8 L3_y8)
    obtain ⟨gQ3, hgQ3⟩ : ∃ gQ3, gQ3 = y8.heap.size := ⟨_, rfl⟩
    rw [← hgQ3] at Q3_y9
    try rw [← hgQ3]
    clear hgQ3
    clear G2_y9 G3_y9 L3_y9 Q3_y9
    have z2 := len_map HG2.out
    have z3 : fs1.length ≤ fs3.length := by rw [len_map HG1.out, len_map HG3.out]; exact HMO.out
    have q1 : decide ((fs2.length : Int) > 0) = false := decide_eq_false (by simp only [List.length_nil] at z2; omega)
    have q2 : decide ((0 : Int) < (fs2.length : Int)) = false := decide_eq_false (by simp only [List.length_nil] at z2; omega)
    have q3 : ¬ 0 < fs2.length := by simp only [List.length_nil] at z2; omega
    have q4 : decide (0 < fs2.length) = false := decide_eq_false q3
    have q5 : decide ((fs3.length : Int) < (fs1.length : Int)) = false := decide_eq_false (by omega)
    have q6 : ¬ (fs3.length < fs1.length) := by omega
    have q7 : decide (fs3.length < fs1.length) = false := decide_eq_false q6
    have hne := neqSp s
    have hgd := guardSp
    have HSPV : Hid (spV s = .agg (spC s).toArray) := Lib.hid rfl
    clear z2 z3
    go_wp2_with first
      | (refine wpList_load_v (by rfl) 26 (.tmp 10) rfl ⟨gQ2, 0, none⟩ rfl (.agg (quC s n (.slice A2 es2.length c2)).toArray) (load_qu Q2_y9.out) ?_)
      | (refine wpList_load_v (by rfl) 26 (.tmp 8) rfl ⟨gQ1, 0, none⟩ rfl (.agg (quC s n (.slice A1 es1.length c1)).toArray) (load_qu Q1_y9.out) ?_)
    refine (HSA.out A2 c2 es2 A1 c1 es1 y9 L2_y9.out L1_y9.out HL2.out HL1.out).mono ?_
    rintro e y10 ⟨rfl, hb⟩
    have B_y10 : Hid (Below w.heap.size w y10) := Lib.hid (stepB B_y9.out hb)
    have Q_y10 : Hid (BK 26 y10 gQ (quC s n (.slice A l.length c))) := Lib.hid (Q_y9.out.step hb)
    have G1_y10 : Hid (EI y10 y10.heap.size A1f fs1) := Lib.hid (LI.step G1_y9.out hb)
    have L1_y10 : Hid (EI y10 y10.heap.size A1 es1) := Lib.hid (LI.step L1_y9.out hb)
    have Q1_y10 : Hid (BK 26 y10 gQ1 (quC s n (.slice A1 es1.length c1))) := Lib.hid (Q1_y9.out.step hb)
    have L2_y10 : Hid (EI y10 y10.heap.size A2 es2) := Lib.hid (LI.step L2_y9.out hb)
    have Q2_y10 : Hid (BK 26 y10 gQ2 (quC s n (.slice A2 es2.length c2))) := Lib.hid (Q2_y9.out.step hb)
    clear B_y9 Q_y9 G1_y9 L1_y9 Q1_y9 L2_y9 Q2_y9
    clear hb
    have d5 := Q1_y10.out.cell 5 rfl
    have u5q := Q_y10.out.cell 5 rfl
    go_upto_region 9 with first
      | (refine wpList_load_v (by rfl) 23 (.tmp 61) rfl ⟨gQ1, 0, none⟩ rfl (.agg (spC s).toArray) (load_qsp Q1_y10.out) ?_)
      | (refine wpList_load_v (by rfl) 23 (.tmp 63) rfl ⟨gQ, 0, none⟩ rfl (.agg (spC s).toArray) (load_qsp Q_y10.out) ?_)
    clear d5 u5q q1 q2 q3 q4 q5 q6 q7 hne hgd
    clear L2_y10 Q2_y10
    clear HX1 HX2 HX3 HSA HMO
    have d6 := Q_y10.out.cell 6 rfl
    go_wp2_with fail
    clear d6
    have KB := B_y10
    have KQ := Q_y10
    have KQ1 := Q1_y10
    have KG1 := G1_y10
    have KL1 := L1_y10
    have C_y10 : Hid (Below y10.heap.size y10 y10) := Lib.hid (Below.refl _ _)
    go_loopg [77, 13, 14] l.length (fun g v u t wr => ∃ j i k : Nat, j + g = l.length ∧ v = .int .i64 j ∧ u = .int .i64 i ∧ t = .int .i64 k ∧ i = gN s now (l.map EE.x) j ∧ k = lN s now (l.map EE.x) j ∧ Below y10.heap.size y10 wr)
    case atStart => exact ⟨0, 0, 0, by omega, rfl, rfl, rfl, rfl, rfl, Below.refl _ _⟩
    case round =>
      obtain ⟨j, i, k, hjg, rfl, rfl, rfl, hi, hk, hbb⟩ := hrel
      have C_wr := Lib.hid hbb
      have HJ := Lib.hid hjg
      have HI := Lib.hid hi
      have HK := Lib.hid hk
      clear hbb hi hk
      cases gk with
      | zero =>
        obtain rfl : j = l.length := by omega
        have z1 : i = fs1.length := by have h := HI.out; rw [← List.length_map (f := EE.x), gN_all] at h; rw [h, len_map HG1.out]
        have z2 : k = es1.length := by have h := HK.out; rw [← List.length_map (f := EE.x), lN_all] at h; rw [h, len_map HL1.out]
        have q1 : ((i : Int) == (fs1.length : Int)) = true := by rw [z1]; simp
        have q2 : ((k : Int) == (es1.length : Int)) = true := by rw [z2]; simp
        have q3 : (i == fs1.length) = true := by rw [z1]; simp
        have q4 : (k == es1.length) = true := by rw [z2]; simp
        clear z1 z2 hjg
        have d6 := (KQ1.out.step C_wr.out).cell 6 rfl
        have B_wr : Hid (Below w.heap.size w wr) := Lib.hid (stepB KB.out C_wr.out)
        go_wp2_with fail
        refine (HEX.out wr (HO.out.step B_wr.out)).mono ?_
        rintro e y11 ⟨rfl, hb⟩
        have C_y11 : Hid (Below y10.heap.size y10 y11) := Lib.hid (stepB C_wr.out hb)
        have B_y11 : Hid (Below w.heap.size w y11) := Lib.hid (stepB B_wr.out hb)
        clear C_wr B_wr
        clear hb
        go_wp2
        go_ret
        exact ⟨rfl, B_y11.out⟩
      | succ g =>
        have hlt : j < l.length := by omega
        have e3 : decide ((j : Int) < (l.length : Int)) = true := decide_eq_true (by omega)
        obtain ⟨y, hy⟩ : ∃ y, l[j]? = some y := ⟨_, List.getElem?_eq_getElem hlt⟩
        have HY1 : Hid ((l.map EE.x)[j]? = some y.x) := Lib.hid (by rw [List.getElem?_map, hy]; rfl)
        obtain ⟨b, o, hA3, hbB, hcl, hpl⟩ := (HS.out.step (stepB KB.out C_wr.out)).at_ hy
        have HLD := Lib.hid (load_ent hcl)
        unfold enW enV at HLD
        have P_wr : Hid (PL wr wr.heap.size y.a y.x.m.props) := Lib.hid hpl
        have HPY : Hid (y.x.m.props.length ≤ 4398046511104) := Lib.hid (HPP.out y (List.mem_of_getElem? hy))
        subst hA3
        have j1 : (0 : Int) ≤ (j : Int) := by omega
        have j2 : (j : Int) < (l.length : Int) := by omega
        have hlk : j ≤ 1000000 := by have := HL6.out; omega
        clear hcl hpl hbB hy hjg
        go_upto_region 12 with first
          | (refine wpList_load_v (by rfl) 34 _ rfl ⟨b, o + j * 12, none⟩ (by simp [Act.eval, Act.put]) _ HLD.out ?_)
          | (refine S2.wpList_store_all (by rfl) 34 (.tmp 16) (.tmp 80) rfl rfl (wr.heap.size) rfl (gE y) rfl 34 (enX En.zero none 0) (BK.new wr _ _) enSize rfl (ones rfl) ?_; intro y12 hM hP; have hb : Below wr.heap.size wr y12 := hP.below (S2.below_new wr _) (Nat.le_refl _); have C_y12 : Hid (Below y10.heap.size y10 y12) := Lib.hid (stepB C_wr.out hb); have P_y12 : Hid (PL y12 y12.heap.size y.a y.x.m.props) := Lib.hid (GL.step P_wr.out hb); have V_y12 : Hid (BK 34 y12 (wr.heap.size) (gE y)) := Lib.hid hM; clear hM hP hb C_wr P_wr)
        obtain ⟨gv, hgv⟩ : ∃ b, b = wr.heap.size := ⟨_, rfl⟩
        rw [← hgv] at V_y12
        try rw [← hgv]
        clear hgv HLD e3 j1 j2 hlk hlt
        cases hex : expX s.ttl y.x.r y.x.m now with
        | true =>
          obtain ⟨t1, t2, t3⟩ := gN_at HY1.out hex
          rw [← HI.out] at t1 t2
          rw [← HK.out] at t3
          have HT2 := Lib.hid t2
          have HT3 := Lib.hid t3
          obtain ⟨z, hz, hzx⟩ := map_at HG1.out t1
          clear t1 t2 t3 hex
          obtain ⟨zb, zo, zA, _, _, zp⟩ := (KG1.out.step C_y12.out).at_ hz
          have zLD : Hid (∀ w', Below y10.heap.size y10 w' → (loadVar 34 ⟨zb, zo + i * 12, none⟩).run Tryd.prog w' = .ok (.agg (gE z).toArray) w') := Lib.hid (fun w' h' => by
            obtain ⟨p', o2, hA', _, hcl', _⟩ := LI.at_ (KG1.out.step h') hz
            rw [zA] at hA'
            simp only [Option.some.injEq, Addr.mk.injEq, and_true] at hA'
            obtain ⟨rfl, rfl⟩ := hA'
            exact load_ent hcl')
          have zn : i < fs1.length := (List.getElem?_eq_some_iff.1 hz).1
          have zn1 : decide ((i : Int) < (fs1.length : Int)) = true := decide_eq_true (by omega)
          have zn2 : (i : Int) < (fs1.length : Int) := by omega
          have zn3 : (0 : Int) ≤ (i : Int) := by omega
          have zlen : fs1.length ≤ 60 := by have h1 := Nat.le_trans (List.length_filter_le _ _ : (goneQ s now (l.map EE.x)).length ≤ _) (by rw [List.length_map]; exact HL6.out : (l.map EE.x).length ≤ 60); rw [len_map HG1.out]; exact h1
          have zn4 : i ≤ 1000000 := by omega
          subst zA
          have zpp : z.x.m.props.length ≤ 4398046511104 := by rw [hzx]; exact HPY.out
          have zd : decide (z.x = y.x) = true := decide_eq_true hzx
          have HWI : Hid (i ≤ 1000 ∧ j ≤ 1000) := Lib.hid (by have := HJ.out; have := HL6.out; omega)
          clear hz hzx zn
          have zC := fun w1 h1 h2 => rSameE_any z.x y.x z.a y.a z.c y.c w1 h1 h2 zpp
          rw [zd] at zC
          unfold enW enV at zC
          have zCC := Lib.hid zC
          clear zC zd zpp
          have zP_y12 : Hid (PL y12 y12.heap.size z.a z.x.m.props) := Lib.hid zp
          clear zp
          obtain ⟨y13, hy13⟩ : ∃ y13, y13 = World.drew y12 := ⟨_, rfl⟩
          have hbD : Below y12.heap.size y12 y13 := by rw [hy13]; exact (Below.refl _ _).drew
          have C_y13 : Hid (Below y10.heap.size y10 y13) := Lib.hid (stepB C_y12.out hbD)
          have P_y13 : Hid (PL y13 y13.heap.size y.a y.x.m.props) := Lib.hid (GL.step P_y12.out hbD)
          have V_y13 : Hid (BK 34 y13 gv (gE y)) := Lib.hid (V_y12.out.step hbD)
          have zP_y13 : Hid (PL y13 y13.heap.size z.a z.x.m.props) := Lib.hid (GL.step zP_y12.out hbD)
          clear C_y12 P_y12 V_y12 zP_y12
          have hbd : (fun w' => BK 34 w' gv (gE y) ∧ Below y10.heap.size y10 w') (World.drew y12) := by rw [← hy13]; exact ⟨V_y13.out, C_y13.out⟩
          have hSD : (fun w' => BK 34 w' gv (gE y) ∧ Below y10.heap.size y10 w') y13 := ⟨V_y13.out, C_y13.out⟩
          have HWD := Lib.hid hy13
          clear hy13 hbD
          refine wp_region_held_drew (S := fun w' => BK 34 w' gv (gE y) ∧ Below y10.heap.size y10 w') (by kernel_rfl) hbd (fun hHeld => ?_)
          rw [← HWD.out]
          clear hHeld
          have hHeld := hSD
          clear hSD hbd HWD
          refine wpAnyH_take (i := 0) (v := (.int .i64 (i : Int))) (get_ops _ _ _ rfl) (by kernel_rfl) (by kernel_rfl) (by kernel_rfl) (fun _ _ _ h => h) (Or.inl ⟨by rfl, fun wS hSw => by (try dsimp only at hSw); go_simp⟩) hHeld ?_
          try simp only [Act.put, List.setIfInBounds_toArray, List.set_cons_zero, List.set_cons_succ]
          refine wpAnyH_take (i := 1) (v := (.slice (some ⟨zb, zo, none⟩) fs1.length c1f)) (get_ops _ _ _ rfl) (by kernel_rfl) (by kernel_rfl) (by kernel_rfl) (fun _ _ _ h => h) (Or.inl ⟨by rfl, fun wS hSw => by (try dsimp only at hSw); go_simp⟩) hHeld ?_
          try simp only [Act.put, List.setIfInBounds_toArray, List.set_cons_zero, List.set_cons_succ]
          refine wpAnyH_take (i := 2) (v := (.int .i64 (fs1.length : Int))) (get_ops _ _ _ rfl) (by kernel_rfl) (by kernel_rfl) (by kernel_rfl) (fun _ _ _ h => h) (Or.inl ⟨by rfl, fun wS hSw => by (try dsimp only at hSw); go_simp⟩) hHeld ?_
          try simp only [Act.put, List.setIfInBounds_toArray, List.set_cons_zero, List.set_cons_succ]
          refine wpAnyH_take (i := 3) (v := (.bool true)) (get_ops _ _ _ rfl) (by kernel_rfl) (by kernel_rfl) (by kernel_rfl) (fun _ _ _ h => h) (Or.inl ⟨by rfl, fun wS hSw => by (try dsimp only at hSw); go_simp⟩) hHeld ?_
          try simp only [Act.put, List.setIfInBounds_toArray, List.set_cons_zero, List.set_cons_succ]
          refine wpAnyH_take (i := 4) (v := (.bool true)) (get_ops _ _ _ rfl) (by kernel_rfl) (by kernel_rfl) (by kernel_rfl) (fun _ _ _ h => h) (Or.inl ⟨by rfl, fun wS hSw => by (try dsimp only at hSw); go_simp⟩) hHeld ?_
          try simp only [Act.put, List.setIfInBounds_toArray, List.set_cons_zero, List.set_cons_succ]
          refine wpAnyH_take (i := 5) (v := (.slice (some ⟨zb, zo, none⟩) fs1.length c1f)) (get_ops _ _ _ rfl) (by kernel_rfl) (by kernel_rfl) (by kernel_rfl) (fun _ _ _ h => h) (Or.inl ⟨by rfl, fun wS hSw => by (try dsimp only at hSw); go_simp⟩) hHeld ?_
          try simp only [Act.put, List.setIfInBounds_toArray, List.set_cons_zero, List.set_cons_succ]
          refine wpAnyH_take (i := 6) (v := (.int .i64 (i : Int))) (get_ops _ _ _ rfl) (by kernel_rfl) (by kernel_rfl) (by kernel_rfl) (fun _ _ _ h => h) (Or.inl ⟨by rfl, fun wS hSw => by (try dsimp only at hSw); go_simp⟩) hHeld ?_
          try simp only [Act.put, List.setIfInBounds_toArray, List.set_cons_zero, List.set_cons_succ]
          refine wpAnyH_take (i := 7) (v := (.pointer (some ⟨zb, zo + i * 12, none⟩))) (get_ops _ _ _ rfl) (by kernel_rfl) (by kernel_rfl) (by kernel_rfl) (fun _ _ _ h => h) (Or.inl ⟨by rfl, fun wS hSw => by (try dsimp only at hSw); go_simp⟩) hHeld ?_
          try simp only [Act.put, List.setIfInBounds_toArray, List.set_cons_zero, List.set_cons_succ]
          refine wpAnyH_take (i := 8) (v := (.agg (gE z).toArray)) (get_ops _ _ _ rfl) (by kernel_rfl) (by kernel_rfl) (by kernel_rfl) (fun _ _ _ h => h) (Or.inl ⟨by rfl, fun wS hSw => by (try dsimp only at hSw); exact exec_load 34 _ rfl ⟨zb, zo + i * 12, none⟩ (by go_simp) _ (zLD.out wS hSw.2)⟩) hHeld ?_
          try simp only [Act.put, List.setIfInBounds_toArray, List.set_cons_zero, List.set_cons_succ]
          refine wpAnyH_take (i := 9) (v := (.agg (gE y).toArray)) (get_ops _ _ _ rfl) (by kernel_rfl) (by kernel_rfl) (by kernel_rfl) (fun _ _ _ h => h) (Or.inl ⟨by rfl, fun wS hSw => by (try dsimp only at hSw); exact exec_load 34 _ rfl ⟨gv, 0, none⟩ (by go_simp) _ (load_en0 hSw.1)⟩) hHeld ?_
          try simp only [Act.put, List.setIfInBounds_toArray, List.set_cons_zero, List.set_cons_succ]
          refine wpAnyH_ready (rs := [10]) (by kernel_rfl) (by simp) ?_
          refine (AllReadyH.cons (get_ops _ _ _ rfl) (fun K hK => ?_) AllReadyH.nil)
          go_simp
          refine (zCC.out y13 zP_y13.out P_y13.out).mono ?_
          rintro e y14 ⟨rfl, hb⟩
          have C_y14 : Hid (Below y10.heap.size y10 y14) := Lib.hid (stepB C_y13.out hb)
          have P_y14 : Hid (PL y14 y14.heap.size y.a y.x.m.props) := Lib.hid (GL.step P_y13.out hb)
          have V_y14 : Hid (BK 34 y14 gv (gE y)) := Lib.hid (V_y13.out.step hb)
          have zP_y14 : Hid (PL y14 y14.heap.size z.a z.x.m.props) := Lib.hid (GL.step zP_y13.out hb)
          clear C_y13 P_y13 V_y13 zP_y13
          clear hHeld hb
          go_wp2_with fail
          refine hK.out _ _ ⟨V_y14.out, C_y14.out⟩ (fun hHeld => ?_)
          clear hK K
          try simp only [Act.put, List.setIfInBounds_toArray, List.set_cons_zero, List.set_cons_succ]
          refine wpAnyH_take (i := 11) (v := (.bool true)) (get_ops _ _ _ rfl) (by kernel_rfl) (by kernel_rfl) (by kernel_rfl) (fun _ _ _ h => h) (Or.inl ⟨by rfl, fun wS hSw => by (try dsimp only at hSw); go_simp⟩) hHeld ?_
          try simp only [Act.put, List.setIfInBounds_toArray, List.set_cons_zero, List.set_cons_succ]
          refine wpAnyH_done (by kernel_rfl) ?_ _
          clear zn1 zn2 zn3 zlen zn4
          have w1a := HWI.out.1
          have w1b := HWI.out.2
          go_wp2
          go_roundg g
          case measure => omega
          case rel => exact ⟨j + 1, i + 1, k, by have := HJ.out; omega, by go_num, (by have := HWI.out; go_num), rfl, by rw [HT2.out], by rw [HT3.out], C_y14.out⟩
        | false =>
          obtain ⟨t1, t2, t3⟩ := lN_at HY1.out hex
          rw [← HK.out] at t1 t3
          rw [← HI.out] at t2
          have HT2 := Lib.hid t2
          have HT3 := Lib.hid t3
          have HEX2 := Lib.hid hex
          obtain ⟨q, hq, hqx⟩ := map_at HL1.out t1
          have HQQ := Lib.hid hq
          have HQX := Lib.hid hqx
          clear t1 t2 t3 hex hq hqx
          have HWI : Hid (k ≤ 1000 ∧ j ≤ 1000 ∧ i ≤ 1000) := Lib.hid (by have h1 := HJ.out; have h2 := HL6.out; have h3 := HI.out; have h4 : gN s now (l.map EE.x) j ≤ 60 := Nat.le_trans (List.length_filter_le _ _) (by rw [List.length_take, List.length_map]; omega); have h5 := HK.out; have h6 : lN s now (l.map EE.x) j ≤ 60 := Nat.le_trans (List.length_filter_le _ _) (by rw [List.length_take, List.length_map]; omega); omega)
          by_cases hig : i < fs1.length
          · obtain ⟨z, hz⟩ : ∃ z, fs1[i]? = some z := ⟨_, List.getElem?_eq_getElem hig⟩
            have hzg : (goneQ s now (l.map EE.x))[i]? = some z.x := by rw [← HG1.out, List.getElem?_map, hz]; rfl
            have zd := gone_ne hzg HEX2.out
            have zpp : z.x.m.props.length ≤ 4398046511104 := by obtain ⟨u, hu, e⟩ := List.mem_map.1 (List.mem_filter.1 (List.mem_of_getElem? hzg)).1; rw [← e]; exact HPP.out u hu
            clear hzg hig
            obtain ⟨zb, zo, zA, _, _, zp⟩ := (KG1.out.step C_y12.out).at_ hz
            have zLD : Hid (∀ w', Below y10.heap.size y10 w' → (loadVar 34 ⟨zb, zo + i * 12, none⟩).run Tryd.prog w' = .ok (.agg (gE z).toArray) w') := Lib.hid (fun w' h' => by
              obtain ⟨p', o2, hA', _, hcl', _⟩ := LI.at_ (KG1.out.step h') hz
              rw [zA] at hA'
              simp only [Option.some.injEq, Addr.mk.injEq, and_true] at hA'
              obtain ⟨rfl, rfl⟩ := hA'
              exact load_ent hcl')
            have zn : i < fs1.length := (List.getElem?_eq_some_iff.1 hz).1
            have zn1 : decide ((i : Int) < (fs1.length : Int)) = true := decide_eq_true (by omega)
            have zn2 : (i : Int) < (fs1.length : Int) := by omega
            have zn3 : (0 : Int) ≤ (i : Int) := by omega
            have zlen : fs1.length ≤ 60 := by have h1 := Nat.le_trans (List.length_filter_le _ _ : (goneQ s now (l.map EE.x)).length ≤ _) (by rw [List.length_map]; exact HL6.out : (l.map EE.x).length ≤ 60); rw [len_map HG1.out]; exact h1
            have zn4 : i ≤ 1000000 := by omega
            subst zA
            clear hz zn
            have zC := fun w1 h1 h2 => rSameE_any z.x y.x z.a y.a z.c y.c w1 h1 h2 zpp
            rw [zd] at zC
            unfold enW enV at zC
            have zCC := Lib.hid zC
            clear zC zd zpp
            have zP_y12 : Hid (PL y12 y12.heap.size z.a z.x.m.props) := Lib.hid zp
            clear zp
            obtain ⟨y14, hy14⟩ : ∃ y14, y14 = World.drew y12 := ⟨_, rfl⟩
            have hbD : Below y12.heap.size y12 y14 := by rw [hy14]; exact (Below.refl _ _).drew
            have C_y14 : Hid (Below y10.heap.size y10 y14) := Lib.hid (stepB C_y12.out hbD)
            have P_y14 : Hid (PL y14 y14.heap.size y.a y.x.m.props) := Lib.hid (GL.step P_y12.out hbD)
            have V_y14 : Hid (BK 34 y14 gv (gE y)) := Lib.hid (V_y12.out.step hbD)
            have zP_y14 : Hid (PL y14 y14.heap.size z.a z.x.m.props) := Lib.hid (GL.step zP_y12.out hbD)
            clear C_y12 P_y12 V_y12 zP_y12
            have hbd : (fun w' => BK 34 w' gv (gE y) ∧ Below y10.heap.size y10 w') (World.drew y12) := by rw [← hy14]; exact ⟨V_y14.out, C_y14.out⟩
            have hSD : (fun w' => BK 34 w' gv (gE y) ∧ Below y10.heap.size y10 w') y14 := ⟨V_y14.out, C_y14.out⟩
            have HWD := Lib.hid hy14
            clear hy14 hbD
            refine wp_region_held_drew (S := fun w' => BK 34 w' gv (gE y) ∧ Below y10.heap.size y10 w') (by kernel_rfl) hbd (fun hHeld => ?_)
            rw [← HWD.out]
            clear hHeld
            have hHeld := hSD
            clear hSD hbd HWD
            refine wpAnyH_take (i := 0) (v := (.int .i64 (i : Int))) (get_ops _ _ _ rfl) (by kernel_rfl) (by kernel_rfl) (by kernel_rfl) (fun _ _ _ h => h) (Or.inl ⟨by rfl, fun wS hSw => by (try dsimp only at hSw); go_simp⟩) hHeld ?_
            try simp only [Act.put, List.setIfInBounds_toArray, List.set_cons_zero, List.set_cons_succ]
            refine wpAnyH_take (i := 1) (v := (.slice (some ⟨zb, zo, none⟩) fs1.length c1f)) (get_ops _ _ _ rfl) (by kernel_rfl) (by kernel_rfl) (by kernel_rfl) (fun _ _ _ h => h) (Or.inl ⟨by rfl, fun wS hSw => by (try dsimp only at hSw); go_simp⟩) hHeld ?_
            try simp only [Act.put, List.setIfInBounds_toArray, List.set_cons_zero, List.set_cons_succ]
            refine wpAnyH_take (i := 2) (v := (.int .i64 (fs1.length : Int))) (get_ops _ _ _ rfl) (by kernel_rfl) (by kernel_rfl) (by kernel_rfl) (fun _ _ _ h => h) (Or.inl ⟨by rfl, fun wS hSw => by (try dsimp only at hSw); go_simp⟩) hHeld ?_
            try simp only [Act.put, List.setIfInBounds_toArray, List.set_cons_zero, List.set_cons_succ]
            refine wpAnyH_take (i := 3) (v := (.bool true)) (get_ops _ _ _ rfl) (by kernel_rfl) (by kernel_rfl) (by kernel_rfl) (fun _ _ _ h => h) (Or.inl ⟨by rfl, fun wS hSw => by (try dsimp only at hSw); go_simp⟩) hHeld ?_
            try simp only [Act.put, List.setIfInBounds_toArray, List.set_cons_zero, List.set_cons_succ]
            refine wpAnyH_take (i := 4) (v := (.bool true)) (get_ops _ _ _ rfl) (by kernel_rfl) (by kernel_rfl) (by kernel_rfl) (fun _ _ _ h => h) (Or.inl ⟨by rfl, fun wS hSw => by (try dsimp only at hSw); go_simp⟩) hHeld ?_
            try simp only [Act.put, List.setIfInBounds_toArray, List.set_cons_zero, List.set_cons_succ]
            refine wpAnyH_take (i := 5) (v := (.slice (some ⟨zb, zo, none⟩) fs1.length c1f)) (get_ops _ _ _ rfl) (by kernel_rfl) (by kernel_rfl) (by kernel_rfl) (fun _ _ _ h => h) (Or.inl ⟨by rfl, fun wS hSw => by (try dsimp only at hSw); go_simp⟩) hHeld ?_
            try simp only [Act.put, List.setIfInBounds_toArray, List.set_cons_zero, List.set_cons_succ]
            refine wpAnyH_take (i := 6) (v := (.int .i64 (i : Int))) (get_ops _ _ _ rfl) (by kernel_rfl) (by kernel_rfl) (by kernel_rfl) (fun _ _ _ h => h) (Or.inl ⟨by rfl, fun wS hSw => by (try dsimp only at hSw); go_simp⟩) hHeld ?_
            try simp only [Act.put, List.setIfInBounds_toArray, List.set_cons_zero, List.set_cons_succ]
            refine wpAnyH_take (i := 7) (v := (.pointer (some ⟨zb, zo + i * 12, none⟩))) (get_ops _ _ _ rfl) (by kernel_rfl) (by kernel_rfl) (by kernel_rfl) (fun _ _ _ h => h) (Or.inl ⟨by rfl, fun wS hSw => by (try dsimp only at hSw); go_simp⟩) hHeld ?_
            try simp only [Act.put, List.setIfInBounds_toArray, List.set_cons_zero, List.set_cons_succ]
            refine wpAnyH_take (i := 8) (v := (.agg (gE z).toArray)) (get_ops _ _ _ rfl) (by kernel_rfl) (by kernel_rfl) (by kernel_rfl) (fun _ _ _ h => h) (Or.inl ⟨by rfl, fun wS hSw => by (try dsimp only at hSw); exact exec_load 34 _ rfl ⟨zb, zo + i * 12, none⟩ (by go_simp) _ (zLD.out wS hSw.2)⟩) hHeld ?_
            try simp only [Act.put, List.setIfInBounds_toArray, List.set_cons_zero, List.set_cons_succ]
            refine wpAnyH_take (i := 9) (v := (.agg (gE y).toArray)) (get_ops _ _ _ rfl) (by kernel_rfl) (by kernel_rfl) (by kernel_rfl) (fun _ _ _ h => h) (Or.inl ⟨by rfl, fun wS hSw => by (try dsimp only at hSw); exact exec_load 34 _ rfl ⟨gv, 0, none⟩ (by go_simp) _ (load_en0 hSw.1)⟩) hHeld ?_
            try simp only [Act.put, List.setIfInBounds_toArray, List.set_cons_zero, List.set_cons_succ]
            refine wpAnyH_ready (rs := [10]) (by kernel_rfl) (by simp) ?_
            refine (AllReadyH.cons (get_ops _ _ _ rfl) (fun K hK => ?_) AllReadyH.nil)
            go_simp
            refine (zCC.out y14 zP_y14.out P_y14.out).mono ?_
            rintro e y15 ⟨rfl, hb⟩
            have C_y15 : Hid (Below y10.heap.size y10 y15) := Lib.hid (stepB C_y14.out hb)
            have P_y15 : Hid (PL y15 y15.heap.size y.a y.x.m.props) := Lib.hid (GL.step P_y14.out hb)
            have V_y15 : Hid (BK 34 y15 gv (gE y)) := Lib.hid (V_y14.out.step hb)
            have zP_y15 : Hid (PL y15 y15.heap.size z.a z.x.m.props) := Lib.hid (GL.step zP_y14.out hb)
            clear C_y14 P_y14 V_y14 zP_y14
            clear hHeld hb
            go_wp2_with fail
            refine hK.out _ _ ⟨V_y15.out, C_y15.out⟩ (fun hHeld => ?_)
            clear hK K
            try simp only [Act.put, List.setIfInBounds_toArray, List.set_cons_zero, List.set_cons_succ]
            refine wpAnyH_take (i := 11) (v := (.bool false)) (get_ops _ _ _ rfl) (by kernel_rfl) (by kernel_rfl) (by kernel_rfl) (fun _ _ _ h => h) (Or.inl ⟨by rfl, fun wS hSw => by (try dsimp only at hSw); go_simp⟩) hHeld ?_
            try simp only [Act.put, List.setIfInBounds_toArray, List.set_cons_zero, List.set_cons_succ]
            refine wpAnyH_done (by kernel_rfl) ?_ _
            clear zn1 zn2 zn3 zlen zn4
            clear zP_y15
            go_upto_region 14 with fail
            have hq := HQQ.out
            obtain ⟨qb, qo, qA, _, _, qp⟩ := (KL1.out.step C_y15.out).at_ hq
            have qLD : Hid (∀ w', Below y10.heap.size y10 w' → (loadVar 34 ⟨qb, qo + k * 12, none⟩).run Tryd.prog w' = .ok (.agg (gE q).toArray) w') := Lib.hid (fun w' h' => by
              obtain ⟨p', o2, hA', _, hcl', _⟩ := LI.at_ (KL1.out.step h') hq
              rw [qA] at hA'
              simp only [Option.some.injEq, Addr.mk.injEq, and_true] at hA'
              obtain ⟨rfl, rfl⟩ := hA'
              exact load_ent hcl')
            have qn : k < es1.length := (List.getElem?_eq_some_iff.1 hq).1
            have qn1 : decide ((k : Int) < (es1.length : Int)) = true := decide_eq_true (by omega)
            have qn2 : (k : Int) < (es1.length : Int) := by omega
            have qn3 : (0 : Int) ≤ (k : Int) := by omega
            have qlen : es1.length ≤ 60 := by have h1 := Nat.le_trans (List.length_filter_le _ _ : (leftQ s now (l.map EE.x)).length ≤ _) (by rw [List.length_map]; exact HL6.out : (l.map EE.x).length ≤ 60); rw [len_map HL1.out]; exact h1
            have qn4 : k ≤ 1000000 := by omega
            subst qA
            have qpp : q.x.m.props.length ≤ 4398046511104 := by rw [HQX.out]; exact HPY.out
            have qd : decide (q.x = y.x) = true := decide_eq_true HQX.out
            clear hq qn
            have qC := fun w1 h1 h2 => rSameE_any q.x y.x q.a y.a q.c y.c w1 h1 h2 qpp
            rw [qd] at qC
            unfold enW enV at qC
            have qCC := Lib.hid qC
            clear qC qd qpp
            have qP_y15 : Hid (PL y15 y15.heap.size q.a q.x.m.props) := Lib.hid qp
            clear qp
            obtain ⟨y16, hy16⟩ : ∃ y16, y16 = World.drew y15 := ⟨_, rfl⟩
            have hbD : Below y15.heap.size y15 y16 := by rw [hy16]; exact (Below.refl _ _).drew
            have C_y16 : Hid (Below y10.heap.size y10 y16) := Lib.hid (stepB C_y15.out hbD)
            have P_y16 : Hid (PL y16 y16.heap.size y.a y.x.m.props) := Lib.hid (GL.step P_y15.out hbD)
            have V_y16 : Hid (BK 34 y16 gv (gE y)) := Lib.hid (V_y15.out.step hbD)
            have qP_y16 : Hid (PL y16 y16.heap.size q.a q.x.m.props) := Lib.hid (GL.step qP_y15.out hbD)
            clear C_y15 P_y15 V_y15 qP_y15
            have hbd : (fun w' => BK 34 w' gv (gE y) ∧ Below y10.heap.size y10 w') (World.drew y15) := by rw [← hy16]; exact ⟨V_y16.out, C_y16.out⟩
            have hSD : (fun w' => BK 34 w' gv (gE y) ∧ Below y10.heap.size y10 w') y16 := ⟨V_y16.out, C_y16.out⟩
            have HWD := Lib.hid hy16
            clear hy16 hbD
            refine wp_region_held_drew (S := fun w' => BK 34 w' gv (gE y) ∧ Below y10.heap.size y10 w') (by kernel_rfl) hbd (fun hHeld => ?_)
            rw [← HWD.out]
            clear hHeld
            have hHeld := hSD
            clear hSD hbd HWD
            refine wpAnyH_take (i := 0) (v := (.int .i64 (k : Int))) (get_ops _ _ _ rfl) (by kernel_rfl) (by kernel_rfl) (by kernel_rfl) (fun _ _ _ h => h) (Or.inl ⟨by rfl, fun wS hSw => by (try dsimp only at hSw); go_simp⟩) hHeld ?_
            try simp only [Act.put, List.setIfInBounds_toArray, List.set_cons_zero, List.set_cons_succ]
            refine wpAnyH_take (i := 1) (v := (.pointer (some ⟨gQ1, 6, none⟩))) (get_ops _ _ _ rfl) (by kernel_rfl) (by kernel_rfl) (by kernel_rfl) (fun _ _ _ h => h) (Or.inl ⟨by rfl, fun wS hSw => by (try dsimp only at hSw); go_simp⟩) hHeld ?_
            try simp only [Act.put, List.setIfInBounds_toArray, List.set_cons_zero, List.set_cons_succ]
            refine wpAnyH_take (i := 2) (v := (.slice (some ⟨qb, qo, none⟩) es1.length c1)) (get_ops _ _ _ rfl) (by kernel_rfl) (by kernel_rfl) (by kernel_rfl) (fun _ _ _ h => h) (Or.inl ⟨by rfl, fun wS hSw => by (try dsimp only at hSw); have cS := (KQ1.out.step hSw.2).cell 6 rfl; clear hSw; go_simp⟩) hHeld ?_
            try simp only [Act.put, List.setIfInBounds_toArray, List.set_cons_zero, List.set_cons_succ]
            refine wpAnyH_take (i := 3) (v := (.int .i64 (es1.length : Int))) (get_ops _ _ _ rfl) (by kernel_rfl) (by kernel_rfl) (by kernel_rfl) (fun _ _ _ h => h) (Or.inl ⟨by rfl, fun wS hSw => by (try dsimp only at hSw); go_simp⟩) hHeld ?_
            try simp only [Act.put, List.setIfInBounds_toArray, List.set_cons_zero, List.set_cons_succ]
            refine wpAnyH_take (i := 4) (v := (.bool true)) (get_ops _ _ _ rfl) (by kernel_rfl) (by kernel_rfl) (by kernel_rfl) (fun _ _ _ h => h) (Or.inl ⟨by rfl, fun wS hSw => by (try dsimp only at hSw); go_simp⟩) hHeld ?_
            try simp only [Act.put, List.setIfInBounds_toArray, List.set_cons_zero, List.set_cons_succ]
            refine wpAnyH_take (i := 5) (v := (.bool true)) (get_ops _ _ _ rfl) (by kernel_rfl) (by kernel_rfl) (by kernel_rfl) (fun _ _ _ h => h) (Or.inl ⟨by rfl, fun wS hSw => by (try dsimp only at hSw); go_simp⟩) hHeld ?_
            try simp only [Act.put, List.setIfInBounds_toArray, List.set_cons_zero, List.set_cons_succ]
            refine wpAnyH_take (i := 6) (v := (.pointer (some ⟨gQ1, 6, none⟩))) (get_ops _ _ _ rfl) (by kernel_rfl) (by kernel_rfl) (by kernel_rfl) (fun _ _ _ h => h) (Or.inl ⟨by rfl, fun wS hSw => by (try dsimp only at hSw); go_simp⟩) hHeld ?_
            try simp only [Act.put, List.setIfInBounds_toArray, List.set_cons_zero, List.set_cons_succ]
            refine wpAnyH_take (i := 7) (v := (.slice (some ⟨qb, qo, none⟩) es1.length c1)) (get_ops _ _ _ rfl) (by kernel_rfl) (by kernel_rfl) (by kernel_rfl) (fun _ _ _ h => h) (Or.inl ⟨by rfl, fun wS hSw => by (try dsimp only at hSw); have cS := (KQ1.out.step hSw.2).cell 6 rfl; clear hSw; go_simp⟩) hHeld ?_
            try simp only [Act.put, List.setIfInBounds_toArray, List.set_cons_zero, List.set_cons_succ]
            refine wpAnyH_take (i := 8) (v := (.int .i64 (k : Int))) (get_ops _ _ _ rfl) (by kernel_rfl) (by kernel_rfl) (by kernel_rfl) (fun _ _ _ h => h) (Or.inl ⟨by rfl, fun wS hSw => by (try dsimp only at hSw); go_simp⟩) hHeld ?_
            try simp only [Act.put, List.setIfInBounds_toArray, List.set_cons_zero, List.set_cons_succ]
            refine wpAnyH_take (i := 9) (v := (.pointer (some ⟨qb, qo + k * 12, none⟩))) (get_ops _ _ _ rfl) (by kernel_rfl) (by kernel_rfl) (by kernel_rfl) (fun _ _ _ h => h) (Or.inl ⟨by rfl, fun wS hSw => by (try dsimp only at hSw); go_simp⟩) hHeld ?_
            try simp only [Act.put, List.setIfInBounds_toArray, List.set_cons_zero, List.set_cons_succ]
            refine wpAnyH_take (i := 10) (v := (.agg (gE q).toArray)) (get_ops _ _ _ rfl) (by kernel_rfl) (by kernel_rfl) (by kernel_rfl) (fun _ _ _ h => h) (Or.inl ⟨by rfl, fun wS hSw => by (try dsimp only at hSw); exact exec_load 34 _ rfl ⟨qb, qo + k * 12, none⟩ (by go_simp) _ (qLD.out wS hSw.2)⟩) hHeld ?_
            try simp only [Act.put, List.setIfInBounds_toArray, List.set_cons_zero, List.set_cons_succ]
            refine wpAnyH_take (i := 11) (v := (.agg (gE y).toArray)) (get_ops _ _ _ rfl) (by kernel_rfl) (by kernel_rfl) (by kernel_rfl) (fun _ _ _ h => h) (Or.inl ⟨by rfl, fun wS hSw => by (try dsimp only at hSw); exact exec_load 34 _ rfl ⟨gv, 0, none⟩ (by go_simp) _ (load_en0 hSw.1)⟩) hHeld ?_
            try simp only [Act.put, List.setIfInBounds_toArray, List.set_cons_zero, List.set_cons_succ]
            refine wpAnyH_ready (rs := [12]) (by kernel_rfl) (by simp) ?_
            refine (AllReadyH.cons (get_ops _ _ _ rfl) (fun K hK => ?_) AllReadyH.nil)
            go_simp
            refine (qCC.out y16 qP_y16.out P_y16.out).mono ?_
            rintro e y17 ⟨rfl, hb⟩
            have C_y17 : Hid (Below y10.heap.size y10 y17) := Lib.hid (stepB C_y16.out hb)
            have P_y17 : Hid (PL y17 y17.heap.size y.a y.x.m.props) := Lib.hid (GL.step P_y16.out hb)
            have V_y17 : Hid (BK 34 y17 gv (gE y)) := Lib.hid (V_y16.out.step hb)
            have qP_y17 : Hid (PL y17 y17.heap.size q.a q.x.m.props) := Lib.hid (GL.step qP_y16.out hb)
            clear C_y16 P_y16 V_y16 qP_y16
            clear hHeld hb
            go_wp2_with fail
            refine hK.out _ _ ⟨V_y17.out, C_y17.out⟩ (fun hHeld => ?_)
            clear hK K
            try simp only [Act.put, List.setIfInBounds_toArray, List.set_cons_zero, List.set_cons_succ]
            refine wpAnyH_take (i := 13) (v := (.bool true)) (get_ops _ _ _ rfl) (by kernel_rfl) (by kernel_rfl) (by kernel_rfl) (fun _ _ _ h => h) (Or.inl ⟨by rfl, fun wS hSw => by (try dsimp only at hSw); go_simp⟩) hHeld ?_
            try simp only [Act.put, List.setIfInBounds_toArray, List.set_cons_zero, List.set_cons_succ]
            refine wpAnyH_done (by kernel_rfl) ?_ _
            clear qn1 qn2 qn3 qlen qn4
            have w1a := HWI.out.1
            have w1b := HWI.out.2.1
            go_wp2
            go_roundg g
            case measure => omega
            case rel => exact ⟨j + 1, i, k + 1, by have := HJ.out; omega, by go_num, rfl, (by have := HWI.out; go_num), by rw [HT2.out], by rw [HT3.out], C_y17.out⟩
          · have q1 : decide ((i : Int) < (fs1.length : Int)) = false := decide_eq_false (by omega)
            obtain ⟨y15, hy15⟩ : ∃ y15, y15 = World.drew y12 := ⟨_, rfl⟩
            have hbD : Below y12.heap.size y12 y15 := by rw [hy15]; exact (Below.refl _ _).drew
            have C_y15 : Hid (Below y10.heap.size y10 y15) := Lib.hid (stepB C_y12.out hbD)
            have P_y15 : Hid (PL y15 y15.heap.size y.a y.x.m.props) := Lib.hid (GL.step P_y12.out hbD)
            have V_y15 : Hid (BK 34 y15 gv (gE y)) := Lib.hid (V_y12.out.step hbD)
            clear C_y12 P_y12 V_y12
            have hbd : (fun w' => BK 34 w' gv (gE y) ∧ Below y10.heap.size y10 w') (World.drew y12) := by rw [← hy15]; exact ⟨V_y15.out, C_y15.out⟩
            have hSD : (fun w' => BK 34 w' gv (gE y) ∧ Below y10.heap.size y10 w') y15 := ⟨V_y15.out, C_y15.out⟩
            have HWD := Lib.hid hy15
            clear hy15 hbD
            refine wp_region_held_drew (S := fun w' => BK 34 w' gv (gE y) ∧ Below y10.heap.size y10 w') (by kernel_rfl) hbd (fun hHeld => ?_)
            rw [← HWD.out]
            clear hHeld
            have hHeld := hSD
            clear hSD hbd HWD
            refine wpAnyH_take (i := 0) (v := (.int .i64 (i : Int))) (get_ops _ _ _ rfl) (by kernel_rfl) (by kernel_rfl) (by kernel_rfl) (fun _ _ _ h => h) (Or.inl ⟨by rfl, fun wS hSw => by (try dsimp only at hSw); go_simp⟩) hHeld ?_
            try simp only [Act.put, List.setIfInBounds_toArray, List.set_cons_zero, List.set_cons_succ]
            refine wpAnyH_take (i := 1) (v := (.slice A1f fs1.length c1f)) (get_ops _ _ _ rfl) (by kernel_rfl) (by kernel_rfl) (by kernel_rfl) (fun _ _ _ h => h) (Or.inl ⟨by rfl, fun wS hSw => by (try dsimp only at hSw); go_simp⟩) hHeld ?_
            try simp only [Act.put, List.setIfInBounds_toArray, List.set_cons_zero, List.set_cons_succ]
            refine wpAnyH_take (i := 2) (v := (.int .i64 (fs1.length : Int))) (get_ops _ _ _ rfl) (by kernel_rfl) (by kernel_rfl) (by kernel_rfl) (fun _ _ _ h => h) (Or.inl ⟨by rfl, fun wS hSw => by (try dsimp only at hSw); go_simp⟩) hHeld ?_
            try simp only [Act.put, List.setIfInBounds_toArray, List.set_cons_zero, List.set_cons_succ]
            refine wpAnyH_take (i := 3) (v := (.bool false)) (get_ops _ _ _ rfl) (by kernel_rfl) (by kernel_rfl) (by kernel_rfl) (fun _ _ _ h => h) (Or.inl ⟨by rfl, fun wS hSw => by (try dsimp only at hSw); go_simp⟩) hHeld ?_
            try simp only [Act.put, List.setIfInBounds_toArray, List.set_cons_zero, List.set_cons_succ]
            refine wpAnyH_take (i := 4) (v := (.bool false)) (get_ops _ _ _ rfl) (by kernel_rfl) (by kernel_rfl) (by kernel_rfl) (fun _ _ _ h => h) (Or.inl ⟨by rfl, fun wS hSw => by (try dsimp only at hSw); go_simp⟩) hHeld ?_
            try simp only [Act.put, List.setIfInBounds_toArray, List.set_cons_zero, List.set_cons_succ]
            refine wpAnyH_take (i := 5) (v := undef) (get_ops _ _ _ rfl) (by kernel_rfl) (by kernel_rfl) (by kernel_rfl) (fun _ _ _ h => h) (Or.inr ⟨by rfl, rfl⟩) hHeld ?_
            try simp only [Act.put, List.setIfInBounds_toArray, List.set_cons_zero, List.set_cons_succ]
            refine wpAnyH_take (i := 6) (v := undef) (get_ops _ _ _ rfl) (by kernel_rfl) (by kernel_rfl) (by kernel_rfl) (fun _ _ _ h => h) (Or.inr ⟨by rfl, rfl⟩) hHeld ?_
            try simp only [Act.put, List.setIfInBounds_toArray, List.set_cons_zero, List.set_cons_succ]
            refine wpAnyH_take (i := 7) (v := undef) (get_ops _ _ _ rfl) (by kernel_rfl) (by kernel_rfl) (by kernel_rfl) (fun _ _ _ h => h) (Or.inr ⟨by rfl, rfl⟩) hHeld ?_
            try simp only [Act.put, List.setIfInBounds_toArray, List.set_cons_zero, List.set_cons_succ]
            refine wpAnyH_take (i := 8) (v := undef) (get_ops _ _ _ rfl) (by kernel_rfl) (by kernel_rfl) (by kernel_rfl) (fun _ _ _ h => h) (Or.inr ⟨by rfl, rfl⟩) hHeld ?_
            try simp only [Act.put, List.setIfInBounds_toArray, List.set_cons_zero, List.set_cons_succ]
            refine wpAnyH_take (i := 9) (v := undef) (get_ops _ _ _ rfl) (by kernel_rfl) (by kernel_rfl) (by kernel_rfl) (fun _ _ _ h => h) (Or.inr ⟨by rfl, rfl⟩) hHeld ?_
            try simp only [Act.put, List.setIfInBounds_toArray, List.set_cons_zero, List.set_cons_succ]
            refine wpAnyH_take (i := 10) (v := undef) (get_ops _ _ _ rfl) (by kernel_rfl) (by kernel_rfl) (by kernel_rfl) (fun _ _ _ h => h) (Or.inr ⟨by rfl, rfl⟩) hHeld ?_
            try simp only [Act.put, List.setIfInBounds_toArray, List.set_cons_zero, List.set_cons_succ]
            refine wpAnyH_take (i := 11) (v := (.bool false)) (get_ops _ _ _ rfl) (by kernel_rfl) (by kernel_rfl) (by kernel_rfl) (fun _ _ _ h => h) (Or.inl ⟨by rfl, fun wS hSw => by (try dsimp only at hSw); go_simp⟩) hHeld ?_
            try simp only [Act.put, List.setIfInBounds_toArray, List.set_cons_zero, List.set_cons_succ]
            refine wpAnyH_done (by kernel_rfl) ?_ _
            clear q1 hig
            go_upto_region 14 with fail
            have hq := HQQ.out
            obtain ⟨qb, qo, qA, _, _, qp⟩ := (KL1.out.step C_y15.out).at_ hq
            have qLD : Hid (∀ w', Below y10.heap.size y10 w' → (loadVar 34 ⟨qb, qo + k * 12, none⟩).run Tryd.prog w' = .ok (.agg (gE q).toArray) w') := Lib.hid (fun w' h' => by
              obtain ⟨p', o2, hA', _, hcl', _⟩ := LI.at_ (KL1.out.step h') hq
              rw [qA] at hA'
              simp only [Option.some.injEq, Addr.mk.injEq, and_true] at hA'
              obtain ⟨rfl, rfl⟩ := hA'
              exact load_ent hcl')
            have qn : k < es1.length := (List.getElem?_eq_some_iff.1 hq).1
            have qn1 : decide ((k : Int) < (es1.length : Int)) = true := decide_eq_true (by omega)
            have qn2 : (k : Int) < (es1.length : Int) := by omega
            have qn3 : (0 : Int) ≤ (k : Int) := by omega
            have qlen : es1.length ≤ 60 := by have h1 := Nat.le_trans (List.length_filter_le _ _ : (leftQ s now (l.map EE.x)).length ≤ _) (by rw [List.length_map]; exact HL6.out : (l.map EE.x).length ≤ 60); rw [len_map HL1.out]; exact h1
            have qn4 : k ≤ 1000000 := by omega
            subst qA
            have qpp : q.x.m.props.length ≤ 4398046511104 := by rw [HQX.out]; exact HPY.out
            have qd : decide (q.x = y.x) = true := decide_eq_true HQX.out
            clear hq qn
            have qC := fun w1 h1 h2 => rSameE_any q.x y.x q.a y.a q.c y.c w1 h1 h2 qpp
            rw [qd] at qC
            unfold enW enV at qC
            have qCC := Lib.hid qC
            clear qC qd qpp
            have qP_y15 : Hid (PL y15 y15.heap.size q.a q.x.m.props) := Lib.hid qp
            clear qp
            obtain ⟨y16, hy16⟩ : ∃ y16, y16 = World.drew y15 := ⟨_, rfl⟩
            have hbD : Below y15.heap.size y15 y16 := by rw [hy16]; exact (Below.refl _ _).drew
            have C_y16 : Hid (Below y10.heap.size y10 y16) := Lib.hid (stepB C_y15.out hbD)
            have P_y16 : Hid (PL y16 y16.heap.size y.a y.x.m.props) := Lib.hid (GL.step P_y15.out hbD)
            have V_y16 : Hid (BK 34 y16 gv (gE y)) := Lib.hid (V_y15.out.step hbD)
            have qP_y16 : Hid (PL y16 y16.heap.size q.a q.x.m.props) := Lib.hid (GL.step qP_y15.out hbD)
            clear C_y15 P_y15 V_y15 qP_y15
            have hbd : (fun w' => BK 34 w' gv (gE y) ∧ Below y10.heap.size y10 w') (World.drew y15) := by rw [← hy16]; exact ⟨V_y16.out, C_y16.out⟩
            have hSD : (fun w' => BK 34 w' gv (gE y) ∧ Below y10.heap.size y10 w') y16 := ⟨V_y16.out, C_y16.out⟩
            have HWD := Lib.hid hy16
            clear hy16 hbD
            refine wp_region_held_drew (S := fun w' => BK 34 w' gv (gE y) ∧ Below y10.heap.size y10 w') (by kernel_rfl) hbd (fun hHeld => ?_)
            rw [← HWD.out]
            clear hHeld
            have hHeld := hSD
            clear hSD hbd HWD
            refine wpAnyH_take (i := 0) (v := (.int .i64 (k : Int))) (get_ops _ _ _ rfl) (by kernel_rfl) (by kernel_rfl) (by kernel_rfl) (fun _ _ _ h => h) (Or.inl ⟨by rfl, fun wS hSw => by (try dsimp only at hSw); go_simp⟩) hHeld ?_
            try simp only [Act.put, List.setIfInBounds_toArray, List.set_cons_zero, List.set_cons_succ]
            refine wpAnyH_take (i := 1) (v := (.pointer (some ⟨gQ1, 6, none⟩))) (get_ops _ _ _ rfl) (by kernel_rfl) (by kernel_rfl) (by kernel_rfl) (fun _ _ _ h => h) (Or.inl ⟨by rfl, fun wS hSw => by (try dsimp only at hSw); go_simp⟩) hHeld ?_
            try simp only [Act.put, List.setIfInBounds_toArray, List.set_cons_zero, List.set_cons_succ]
            refine wpAnyH_take (i := 2) (v := (.slice (some ⟨qb, qo, none⟩) es1.length c1)) (get_ops _ _ _ rfl) (by kernel_rfl) (by kernel_rfl) (by kernel_rfl) (fun _ _ _ h => h) (Or.inl ⟨by rfl, fun wS hSw => by (try dsimp only at hSw); have cS := (KQ1.out.step hSw.2).cell 6 rfl; clear hSw; go_simp⟩) hHeld ?_
            try simp only [Act.put, List.setIfInBounds_toArray, List.set_cons_zero, List.set_cons_succ]
            refine wpAnyH_take (i := 3) (v := (.int .i64 (es1.length : Int))) (get_ops _ _ _ rfl) (by kernel_rfl) (by kernel_rfl) (by kernel_rfl) (fun _ _ _ h => h) (Or.inl ⟨by rfl, fun wS hSw => by (try dsimp only at hSw); go_simp⟩) hHeld ?_
            try simp only [Act.put, List.setIfInBounds_toArray, List.set_cons_zero, List.set_cons_succ]
            refine wpAnyH_take (i := 4) (v := (.bool true)) (get_ops _ _ _ rfl) (by kernel_rfl) (by kernel_rfl) (by kernel_rfl) (fun _ _ _ h => h) (Or.inl ⟨by rfl, fun wS hSw => by (try dsimp only at hSw); go_simp⟩) hHeld ?_
            try simp only [Act.put, List.setIfInBounds_toArray, List.set_cons_zero, List.set_cons_succ]
            refine wpAnyH_take (i := 5) (v := (.bool true)) (get_ops _ _ _ rfl) (by kernel_rfl) (by kernel_rfl) (by kernel_rfl) (fun _ _ _ h => h) (Or.inl ⟨by rfl, fun wS hSw => by (try dsimp only at hSw); go_simp⟩) hHeld ?_
            try simp only [Act.put, List.setIfInBounds_toArray, List.set_cons_zero, List.set_cons_succ]
            refine wpAnyH_take (i := 6) (v := (.pointer (some ⟨gQ1, 6, none⟩))) (get_ops _ _ _ rfl) (by kernel_rfl) (by kernel_rfl) (by kernel_rfl) (fun _ _ _ h => h) (Or.inl ⟨by rfl, fun wS hSw => by (try dsimp only at hSw); go_simp⟩) hHeld ?_
            try simp only [Act.put, List.setIfInBounds_toArray, List.set_cons_zero, List.set_cons_succ]
            refine wpAnyH_take (i := 7) (v := (.slice (some ⟨qb, qo, none⟩) es1.length c1)) (get_ops _ _ _ rfl) (by kernel_rfl) (by kernel_rfl) (by kernel_rfl) (fun _ _ _ h => h) (Or.inl ⟨by rfl, fun wS hSw => by (try dsimp only at hSw); have cS := (KQ1.out.step hSw.2).cell 6 rfl; clear hSw; go_simp⟩) hHeld ?_
            try simp only [Act.put, List.setIfInBounds_toArray, List.set_cons_zero, List.set_cons_succ]
            refine wpAnyH_take (i := 8) (v := (.int .i64 (k : Int))) (get_ops _ _ _ rfl) (by kernel_rfl) (by kernel_rfl) (by kernel_rfl) (fun _ _ _ h => h) (Or.inl ⟨by rfl, fun wS hSw => by (try dsimp only at hSw); go_simp⟩) hHeld ?_
            try simp only [Act.put, List.setIfInBounds_toArray, List.set_cons_zero, List.set_cons_succ]
            refine wpAnyH_take (i := 9) (v := (.pointer (some ⟨qb, qo + k * 12, none⟩))) (get_ops _ _ _ rfl) (by kernel_rfl) (by kernel_rfl) (by kernel_rfl) (fun _ _ _ h => h) (Or.inl ⟨by rfl, fun wS hSw => by (try dsimp only at hSw); go_simp⟩) hHeld ?_
            try simp only [Act.put, List.setIfInBounds_toArray, List.set_cons_zero, List.set_cons_succ]
            refine wpAnyH_take (i := 10) (v := (.agg (gE q).toArray)) (get_ops _ _ _ rfl) (by kernel_rfl) (by kernel_rfl) (by kernel_rfl) (fun _ _ _ h => h) (Or.inl ⟨by rfl, fun wS hSw => by (try dsimp only at hSw); exact exec_load 34 _ rfl ⟨qb, qo + k * 12, none⟩ (by go_simp) _ (qLD.out wS hSw.2)⟩) hHeld ?_
            try simp only [Act.put, List.setIfInBounds_toArray, List.set_cons_zero, List.set_cons_succ]
            refine wpAnyH_take (i := 11) (v := (.agg (gE y).toArray)) (get_ops _ _ _ rfl) (by kernel_rfl) (by kernel_rfl) (by kernel_rfl) (fun _ _ _ h => h) (Or.inl ⟨by rfl, fun wS hSw => by (try dsimp only at hSw); exact exec_load 34 _ rfl ⟨gv, 0, none⟩ (by go_simp) _ (load_en0 hSw.1)⟩) hHeld ?_
            try simp only [Act.put, List.setIfInBounds_toArray, List.set_cons_zero, List.set_cons_succ]
            refine wpAnyH_ready (rs := [12]) (by kernel_rfl) (by simp) ?_
            refine (AllReadyH.cons (get_ops _ _ _ rfl) (fun K hK => ?_) AllReadyH.nil)
            go_simp
            refine (qCC.out y16 qP_y16.out P_y16.out).mono ?_
            rintro e y17 ⟨rfl, hb⟩
            have C_y17 : Hid (Below y10.heap.size y10 y17) := Lib.hid (stepB C_y16.out hb)
            have P_y17 : Hid (PL y17 y17.heap.size y.a y.x.m.props) := Lib.hid (GL.step P_y16.out hb)
            have V_y17 : Hid (BK 34 y17 gv (gE y)) := Lib.hid (V_y16.out.step hb)
            have qP_y17 : Hid (PL y17 y17.heap.size q.a q.x.m.props) := Lib.hid (GL.step qP_y16.out hb)
            clear C_y16 P_y16 V_y16 qP_y16
            clear hHeld hb
            go_wp2_with fail
            refine hK.out _ _ ⟨V_y17.out, C_y17.out⟩ (fun hHeld => ?_)
            clear hK K
            try simp only [Act.put, List.setIfInBounds_toArray, List.set_cons_zero, List.set_cons_succ]
            refine wpAnyH_take (i := 13) (v := (.bool true)) (get_ops _ _ _ rfl) (by kernel_rfl) (by kernel_rfl) (by kernel_rfl) (fun _ _ _ h => h) (Or.inl ⟨by rfl, fun wS hSw => by (try dsimp only at hSw); go_simp⟩) hHeld ?_
            try simp only [Act.put, List.setIfInBounds_toArray, List.set_cons_zero, List.set_cons_succ]
            refine wpAnyH_done (by kernel_rfl) ?_ _
            clear qn1 qn2 qn3 qlen qn4
            have w1a := HWI.out.1
            have w1b := HWI.out.2.1
            go_wp2
            go_roundg g
            case measure => omega
            case rel => exact ⟨j + 1, i, k + 1, by have := HJ.out; omega, by go_num, rfl, (by have := HWI.out; go_num), by rw [HT2.out], by rw [HT3.out], C_y17.out⟩

end Go.Proofs.YtjhojpghllnoiaaDoor
