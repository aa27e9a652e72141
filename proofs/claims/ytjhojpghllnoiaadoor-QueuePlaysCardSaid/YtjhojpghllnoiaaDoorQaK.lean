/-
  What SameEntry, SameEntries and Same of brokerref25 answer: whether entries, lists and queues are equal. Conditions: the lists read as data; few entries, with few properties.
  What Valid of queue answers: the first error of a queue; it keeps the numbers that it has met in a map of its own. Conditions: the list reads as data; few entries; the library's bound on short texts holds a number.
  The example of the chapter of queue as plain data, and what each of its calls answers; message of brokerlaw25. Conditions: the lists read as data; the library's bound on short texts holds a number.
-/
import Derived.Test.YtjhojpghllnoiaaDoorQaH
import Derived.Laws.StructEq
import Derived.Maps.Own
import Derived.Maps.OwnOps
import Derived.Maps.Views
namespace Go.Proofs.YtjhojpghllnoiaaDoor
open Go.RowKit
open S2 (BK Put get_ops)

instance : DecidableEq En := fun a b => decidable_of_decidable_of_iff (p := a.k = b.k ∧ a.r = b.r ∧ a.t = b.t ∧ a.m = b.m) ⟨fun h => by
  obtain ⟨k, r, t, m⟩ := a
  obtain ⟨k', r', t', m'⟩ := b
  obtain ⟨h1, h2, h3, h4⟩ := h
  simp only at h1 h2 h3 h4
  rw [h1, h2, h3, h4], fun h => by rw [h]; exact ⟨rfl, rfl, rfl, rfl⟩⟩
instance : DecidableEq Sp := fun a b => decidable_of_decidable_of_iff (p := a.name = b.name ∧ a.max = b.max ∧ a.ttl = b.ttl ∧ a.att = b.att ∧ a.dead = b.dead) ⟨fun h => by
  obtain ⟨n, m, t, c, d⟩ := a
  obtain ⟨n', m', t', c', d'⟩ := b
  obtain ⟨h1, h2, h3, h4, h5⟩ := h
  simp only at h1 h2 h3 h4 h5
  rw [h1, h2, h3, h4, h5], fun h => by rw [h]; exact ⟨rfl, rfl, rfl, rfl, rfl⟩⟩
theorem eqSpA (n : ByteArray) (m t c : Int) (d n' : ByteArray) (m' t' c' : Int) (d' : ByteArray) (w : World) : Sem.run Tryd.prog (binOp .eql 23 (.agg #[.string n, .int .i64 m, .int .i64 t, .int .i64 c, .string d]) (.agg #[.string n', .int .i64 m', .int .i64 t', .int .i64 c', .string d'])) w = .ok (.bool (decide ((⟨n, m, t, c, d⟩ : Sp) = ⟨n', m', t', c', d'⟩))) w := by
  have u3 := Tryd.underlying9
  have a3 := Tryd.isAgg9
  have z3 := Tryd.sizeOf9
  have u4 := Tryd.underlying3
  have a4 := Tryd.isAgg3
  have z4 := Tryd.sizeOf3
  have hS : Tryd.prog.underlying 23 = some (.struct (Tryd.prog.fieldsOf 23)) := by kernel_rfl
  have hp : Tryd.prog.stoodInHeld 23 = false := by kernel_rfl
  have h1 := str_dec n n'
  have h2 := str_dec d d'
  rw [run_eql_struct, show (10000 : Nat) = 9999 + 1 from rfl, run_equalIn_agg w 9999 23 _ _ hS hp]
  simp only [Program.fieldsOf, Tryd.underlying23]
  by_cases hn : n = n'
  · by_cases hk : m = m'
    · by_cases ht : t = t'
      · by_cases hc : c = c'
        · by_cases hd : d = d'
          · subst hn hk ht hc hd
            go_simp
          · go_simp
        · go_simp
      · go_simp
    · go_simp
  · go_simp
theorem eqSp (x y : Sp) (w : World) : Sem.run Tryd.prog (binOp .eql 23 (.agg (spC x).toArray) (.agg (spC y).toArray)) w = .ok (.bool (decide (x = y))) w := eqSpA _ _ _ _ _ _ _ _ _ _ w
theorem guardSp (op : BinOp) (x y : Operand) (xs ys : Array Value) (w : World) : Sem.run Tryd.prog (eqGuard op 23 x y (.agg xs) (.agg ys)) w = .ok () w := run_eqGuard_agg w op _ x y xs ys (by kernel_rfl)

set_option maxRecDepth 20000 in
set_option maxHeartbeats 8000000 in
theorem rSameE_any (x y : En) (a b : Option Addr) (c d : Nat) (w : World) (hx : PL w w.heap.size a x.m.props) (hy : PL w w.heap.size b y.m.props) (hn : x.m.props.length ≤ 4398046511104) :
    Calls Tryd.prog 19 #[enW x a c, enW y b d] w fun e w' => e = .returned (.bool (decide (x = y))) ∧ Below w.heap.size w w' := by
  have HM := Lib.hid (fun w1 h1 h2 => rSame_any x.m y.m a b c d w1 h1 h2 (by omega))
  have HX := Lib.hid hx
  have HY := Lib.hid hy
  obtain ⟨V, hV⟩ : ∃ V, decide (x = y) = V := ⟨_, rfl⟩
  rw [hV]
  have HN0 : Hid (x.k ≠ y.k → V = false) := Lib.hid (fun h => by rw [← hV]; exact decide_eq_false (fun e => h (by rw [e])))
  have HN1 : Hid (x.r ≠ y.r → V = false) := Lib.hid (fun h => by rw [← hV]; exact decide_eq_false (fun e => h (by rw [e])))
  have HN2 : Hid (x.t ≠ y.t → V = false) := Lib.hid (fun h => by rw [← hV]; exact decide_eq_false (fun e => h (by rw [e])))
  have HN3 : Hid (x.k = y.k → x.r = y.r → x.t = y.t → sameM x.m y.m = V) := Lib.hid (fun h1 h2 h3 => by
    obtain ⟨k, r, t, m⟩ := x
    obtain ⟨k', r', t', m'⟩ := y
    simp only at h1 h2 h3
    subst h1 h2 h3
    rw [← hV]
    unfold sameM
    by_cases h : m = m'
    · subst h; simp
    · rw [decide_eq_false h, decide_eq_false (fun e => h (by injection e))])
  clear hV hx hy hn
  unfold enW enV
  unfold msgV at HM
  go_enter Tryd.func19, Tryd.ntmps19
  go_upto_region 1 with fail
  refine name_world (C := fun w1 => Code.wp _ _ _ _ w1) ((w.alloc (.cells (enX x a c).toArray 34)).alloc (.cells (enX y b d).toArray 34)) ?_
  intro w1 hw1
  have hb1 : Below w.heap.size w w1 := by rw [hw1]; exact stepB (S2.below_new w _) (S2.below_new _ _)
  obtain ⟨t1, t2, hs0, hB0⟩ := S2.two_laid (v1 := enX x a c) (v2 := enX y b d) hw1
  clear hw1
  have x0 := t1.cell 0 rfl
  have x1 := t1.cell 1 rfl
  have x2 := t1.cell 2 rfl
  have y0 := t2.cell 0 rfl
  have y1 := t2.cell 1 rfl
  have y2 := t2.cell 2 rfl
  have T1 := Lib.hid t1
  have T2 := Lib.hid t2
  have HB := Lib.hid hb1
  clear t1 t2 hs0 hB0 hb1
  by_cases h0 : x.k ≠ y.k
  · obtain rfl := HN0.out h0
    have q0 : (x.k == y.k) = false := by simp [h0]
    clear h0
    go_wp2
    go_ret
    exact ⟨rfl, HB.out⟩
  replace h0 := Decidable.not_not.1 h0
  have q0 : (x.k == y.k) = true := by simp [h0]
  by_cases h1 : x.r ≠ y.r
  · obtain rfl := HN1.out h1
    have q1 : (x.r == y.r) = false := by simp [h1]
    clear h0 h1
    go_wp2
    go_ret
    exact ⟨rfl, HB.out⟩
  replace h1 := Decidable.not_not.1 h1
  have q1 : (x.r == y.r) = true := by simp [h1]
  by_cases h2 : x.t ≠ y.t
  · obtain rfl := HN2.out h2
    have q2 : (x.t == y.t) = false := by simp [h2]
    clear h0 h1 h2
    go_wp2
    go_ret
    exact ⟨rfl, HB.out⟩
  replace h2 := Decidable.not_not.1 h2
  have q2 : (x.t == y.t) = true := by simp [h2]
  have hq := HN3.out h0 h1 h2
  rw [hq] at HM
  clear h0 h1 h2 hq
  have HL1 := Lib.hid (load_en_msg T1.out)
  have HL2 := Lib.hid (load_en_msg T2.out)
  unfold msgV at HL1 HL2
  go_wp2_with first
    | (refine wpList_load_v (by rfl) 32 (.tmp 25) rfl ⟨w.heap.size, 3, none⟩ (by first | rfl | go_simp) _ HL1.out ?_)
    | (refine wpList_load_v (by rfl) 32 (.tmp 27) rfl ⟨w.heap.size + 1, 3, none⟩ (by first | rfl | go_simp) _ HL2.out ?_)
  refine (HM.out w1 (GL.step HX.out HB.out) (GL.step HY.out HB.out)).mono ?_
  rintro e w2 ⟨rfl, hb⟩
  have HB2 := Lib.hid (stepB HB.out hb)
  clear hb
  go_wp2
  go_ret
  exact ⟨rfl, HB2.out⟩

set_option maxRecDepth 20000 in
set_option maxHeartbeats 16000000 in
theorem rSameL_any (A : Option Addr) (c : Nat) (xs : List EE) (A' : Option Addr) (c' : Nat) (ys : List EE) (w : World) (hx : EI w w.heap.size A xs) (hy : EI w w.heap.size A' ys) (hn : xs.length ≤ 1000000) (hp : ∀ x ∈ xs, x.x.m.props.length ≤ 4398046511104) :
    Calls Tryd.prog 27 #[.slice A xs.length c, .slice A' ys.length c'] w fun e w' => e = .returned (.bool (decide (xs.map EE.x = ys.map EE.x))) ∧ Below w.heap.size w w' := by
  have HSM := Lib.hid (fun (x y : EE) (w1 : World) (h1 : PL w1 w1.heap.size x.a x.x.m.props) (h2 : PL w1 w1.heap.size y.a y.x.m.props) (h3 : x.x.m.props.length ≤ 4398046511104) => rSameE_any x.x y.x x.a y.a x.c y.c w1 h1 h2 h3)
  have HX := Lib.hid hx
  have HY := Lib.hid hy
  have HP := Lib.hid hp
  clear hx hy hp
  by_cases hl : xs.length ≠ ys.length
  · have q1 : ((xs.length : Int) != (ys.length : Int)) = true := by simp; omega
    have q1' : (xs.length != ys.length) = true := by simp; omega
    have HV : Hid (decide (xs.map EE.x = ys.map EE.x) = false) := Lib.hid (decide_eq_false (fun e => hl (by have := congrArg List.length e; simpa using this)))
    rw [HV.out]
    clear hl
    go_enter Tryd.func27, Tryd.ntmps27
    go_wp2
    go_ret
    exact ⟨rfl, Below.refl _ _⟩
  replace hl := Decidable.not_not.1 hl
  have q1 : ((xs.length : Int) != (ys.length : Int)) = false := by simp; omega
  have q1' : (xs.length != ys.length) = false := by simp; omega
  obtain ⟨V, hV⟩ : ∃ V, decide (xs.map EE.x = ys.map EE.x) = V := ⟨_, rfl⟩
  have HV := Lib.hid hV
  have HL := Lib.hid hl
  rw [hV]
  clear hV hl
  unfold enW enV at HSM
  go_enter Tryd.func27, Tryd.ntmps27
  go_wp2_with fail
  go_loopg [14] xs.length (fun g v wr => ∃ k : Nat, k + g = xs.length ∧ v = .int .i64 k ∧ (xs.map EE.x).take k = (ys.map EE.x).take k ∧ Below w.heap.size w wr)
  case atStart => exact ⟨0, by omega, rfl, rfl, Below.refl _ _⟩
  case round =>
    obtain ⟨k, hkg, rfl, htk, hb0⟩ := hrel
    have B_wr := Lib.hid hb0
    have HK := Lib.hid hkg
    have HT := Lib.hid htk
    clear hb0 htk
    cases gk with
    | zero =>
      obtain rfl : k = xs.length := by omega
      have h1 := HT.out
      rw [List.take_of_length_le (by simp), List.take_of_length_le (by simp; have := HL.out; omega)] at h1
      obtain rfl : V = true := by rw [← HV.out, decide_eq_true h1]
      clear hkg q1 q1' h1
      go_wp2
      go_ret
      exact ⟨rfl, B_wr.out⟩
    | succ g =>
      have hlt : k < xs.length := by omega
      have e3 : decide ((k : Int) < (xs.length : Int)) = true := decide_eq_true (by omega)
      obtain ⟨x, hx⟩ : ∃ x, xs[k]? = some x := ⟨_, List.getElem?_eq_getElem hlt⟩
      obtain ⟨y, hy⟩ : ∃ y, ys[k]? = some y := ⟨_, List.getElem?_eq_getElem (by have := HL.out; omega)⟩
      have HX1 : Hid ((xs.map EE.x)[k]? = some x.x) := Lib.hid (by rw [List.getElem?_map, hx]; rfl)
      have HY1 : Hid ((ys.map EE.x)[k]? = some y.x) := Lib.hid (by rw [List.getElem?_map, hy]; rfl)
      have HYK := Lib.hid hy
      obtain ⟨b, o, hA3, hbB, hc, hpl⟩ := (HX.out.step B_wr.out).at_ hx
      obtain ⟨b', o', hB3, hbB', hc', hpl'⟩ := (HY.out.step B_wr.out).at_ hy
      obtain ⟨bE, hbE⟩ : ∃ z, decide (x.x = y.x) = z := ⟨_, rfl⟩
      have hcal := fun w1 h1 h2 => HSM.out x y w1 h1 h2 (HP.out _ (List.mem_of_getElem? hx))
      rw [hbE] at hcal
      have HC1 := Lib.hid hcal
      have HBE := Lib.hid hbE
      have HLD := Lib.hid (load_ent hc)
      unfold enW enV at HLD
      have P_wr : Hid (PL wr wr.heap.size x.a x.x.m.props) := Lib.hid hpl
      have R_wr : Hid (PL wr wr.heap.size y.a y.x.m.props) := Lib.hid hpl'
      subst hA3 hB3
      have HLY : Hid (∀ w', Below w.heap.size w w' → (loadVar 34 ⟨b', o' + k * 12, none⟩).run Tryd.prog w' = .ok (enW y.x y.a y.c) w') := Lib.hid (fun w' h' => by
        obtain ⟨p', o2, hA', _, hcl', _⟩ := LI.at_ (HY.out.step h') HYK.out
        simp only [Option.some.injEq, Addr.mk.injEq, and_true] at hA'
        obtain ⟨rfl, rfl⟩ := hA'
        exact load_ent hcl')
      have j1 : (0 : Int) ≤ (k : Int) := by omega
      have j2 : (k : Int) < (xs.length : Int) := by omega
      have j3 : (k : Int) < (ys.length : Int) := by have := HL.out; omega
      have hlk : k ≤ 1000000 := by omega
      clear hx hy hc hc' hpl hpl' hbB hbB' hkg HSM hbE hcal q1 q1'
      go_upto_region 6 with first
        | (refine wpList_load_v (by rfl) 34 _ rfl ⟨b, o + k * 12, none⟩ (by simp [Act.eval, Act.put]) _ HLD.out ?_)
        | (refine S2.wpList_store_all (by rfl) 34 (.tmp 6) (.tmp 18) rfl rfl wr.heap.size rfl (gE x) rfl 34 (enX En.zero none 0) (BK.new wr _ _) enSize rfl (gE_one _) ?_; intro u1 hM hP; have V_u1 : Hid (BK 34 u1 wr.heap.size (gE x)) := Lib.hid hM; have hb : Below wr.heap.size wr u1 := hP.below (S2.below_new wr _) (Nat.le_refl _); have B_u1 := Lib.hid (stepB B_wr.out hb); have P_u1 : Hid (PL u1 u1.heap.size x.a x.x.m.props) := Lib.hid (GL.step P_wr.out hb); have R_u1 : Hid (PL u1 u1.heap.size y.a y.x.m.props) := Lib.hid (GL.step R_wr.out hb); clear hM hP hb HLD)
      obtain ⟨gv, hgv⟩ : ∃ b, b = wr.heap.size := ⟨_, rfl⟩
      rw [← hgv] at V_u1
      try rw [← hgv]
      clear hgv P_wr R_wr B_wr
      obtain ⟨v1, hv1⟩ : ∃ v1, v1 = World.drew u1 := ⟨_, rfl⟩
      have hbD : Below u1.heap.size u1 v1 := by rw [hv1]; exact (Below.refl _ _).drew
      have B_v1 : Hid (Below w.heap.size w v1) := Lib.hid (stepB B_u1.out hbD)
      have V_v1 : Hid (BK 34 v1 gv (gE x)) := Lib.hid (V_u1.out.step hbD)
      have P_v1 : Hid (PL v1 v1.heap.size x.a x.x.m.props) := Lib.hid (GL.step P_u1.out hbD)
      have R_v1 : Hid (PL v1 v1.heap.size y.a y.x.m.props) := Lib.hid (GL.step R_u1.out hbD)
      clear B_u1 V_u1 P_u1 R_u1
      have hbd : (fun w' => BK 34 w' gv (gE x) ∧ Below w.heap.size w w') (World.drew u1) := by rw [← hv1]; exact ⟨V_v1.out, B_v1.out⟩
      have hSD : (fun w' => BK 34 w' gv (gE x) ∧ Below w.heap.size w w') v1 := ⟨V_v1.out, B_v1.out⟩
      have HWD := Lib.hid hv1
      clear hv1 hbD
      refine wp_region_held_drew (S := fun w' => BK 34 w' gv (gE x) ∧ Below w.heap.size w w') (by kernel_rfl) hbd (fun hHeld => ?_)
      rw [← HWD.out]
      clear hHeld
      have hHeld := hSD
      clear hSD hbd HWD
      refine wpAnyH_take (i := 0) (v := (.agg (enX x.x x.a x.c).toArray)) (get_ops _ _ _ rfl) (by kernel_rfl) (by kernel_rfl) (by kernel_rfl) (fun _ _ _ h => h) (Or.inl ⟨by rfl, fun wS hSw => by (try dsimp only at hSw); exact exec_load 34 _ rfl ⟨gv, 0, none⟩ (by go_simp) _ (load_en0 hSw.1)⟩) hHeld ?_
      try simp only [Act.put, List.setIfInBounds_toArray, List.set_cons_zero, List.set_cons_succ]
      refine wpAnyH_take (i := 1) (v := (.slice (some ⟨b', o', none⟩) ys.length c')) (get_ops _ _ _ rfl) (by kernel_rfl) (by kernel_rfl) (by kernel_rfl) (fun _ _ _ h => h) (Or.inl ⟨by rfl, fun wS hSw => by (try dsimp only at hSw); go_simp⟩) hHeld ?_
      try simp only [Act.put, List.setIfInBounds_toArray, List.set_cons_zero, List.set_cons_succ]
      refine wpAnyH_take (i := 2) (v := (.int .i64 (k : Int))) (get_ops _ _ _ rfl) (by kernel_rfl) (by kernel_rfl) (by kernel_rfl) (fun _ _ _ h => h) (Or.inl ⟨by rfl, fun wS hSw => by (try dsimp only at hSw); go_simp⟩) hHeld ?_
      try simp only [Act.put, List.setIfInBounds_toArray, List.set_cons_zero, List.set_cons_succ]
      refine wpAnyH_take (i := 3) (v := (.pointer (some ⟨b', o' + k * 12, none⟩))) (get_ops _ _ _ rfl) (by kernel_rfl) (by kernel_rfl) (by kernel_rfl) (fun _ _ _ h => h) (Or.inl ⟨by rfl, fun wS hSw => by (try dsimp only at hSw); go_simp⟩) hHeld ?_
      try simp only [Act.put, List.setIfInBounds_toArray, List.set_cons_zero, List.set_cons_succ]
      refine wpAnyH_take (i := 4) (v := (.agg (enX y.x y.a y.c).toArray)) (get_ops _ _ _ rfl) (by kernel_rfl) (by kernel_rfl) (by kernel_rfl) (fun _ _ _ h => h) (Or.inl ⟨by rfl, fun wS hSw => by (try dsimp only at hSw); exact exec_load 34 _ rfl ⟨b', o' + k * 12, none⟩ (by go_simp) _ (HLY.out wS hSw.2)⟩) hHeld ?_
      try simp only [Act.put, List.setIfInBounds_toArray, List.set_cons_zero, List.set_cons_succ]
      refine wpAnyH_ready (rs := [5]) (by kernel_rfl) (by simp) ?_
      refine (AllReadyH.cons (get_ops _ _ _ rfl) (fun K hK => ?_) AllReadyH.nil)
      go_simp
      refine (HC1.out v1 P_v1.out R_v1.out).mono ?_
      rintro e v2 ⟨rfl, hb⟩
      have B_v2 : Hid (Below w.heap.size w v2) := Lib.hid (stepB B_v1.out hb)
      have V_v2 : Hid (BK 34 v2 gv (gE x)) := Lib.hid (V_v1.out.step hb)
      have P_v2 : Hid (PL v2 v2.heap.size x.a x.x.m.props) := Lib.hid (GL.step P_v1.out hb)
      have R_v2 : Hid (PL v2 v2.heap.size y.a y.x.m.props) := Lib.hid (GL.step R_v1.out hb)
      clear B_v1 V_v1 P_v1 R_v1
      clear hHeld hb
      go_wp2_with fail
      refine hK.out _ _ ⟨V_v2.out, B_v2.out⟩ (fun hHeld => ?_)
      clear hK K
      try simp only [Act.put, List.setIfInBounds_toArray, List.set_cons_zero, List.set_cons_succ]
      refine wpAnyH_take (i := 6) (v := (.bool (!bE))) (get_ops _ _ _ rfl) (by kernel_rfl) (by kernel_rfl) (by kernel_rfl) (fun _ _ _ h => h) (Or.inl ⟨by rfl, fun wS hSw => by (try dsimp only at hSw); go_simp⟩) hHeld ?_
      try simp only [Act.put, List.setIfInBounds_toArray, List.set_cons_zero, List.set_cons_succ]
      refine wpAnyH_done (by kernel_rfl) ?_ _
      cases bE with
      | false =>
        obtain rfl : V = false := by rw [← HV.out]; exact decide_eq_false (fun e => by have h9 := HX1.out; rw [e, HY1.out] at h9; exact (of_decide_eq_false HBE.out) (Option.some.inj h9).symm)
        go_wp2
        go_ret
        exact ⟨rfl, B_v2.out⟩
      | true =>
        go_wp2
        go_roundg g
        case measure => omega
        case rel => exact ⟨k + 1, by have := HK.out; omega, by go_num, by rw [List.take_add_one, List.take_add_one, HT.out, HX1.out, HY1.out, of_decide_eq_true HBE.out], B_v2.out⟩

set_option maxRecDepth 20000 in
set_option maxHeartbeats 8000000 in
theorem rSameQ_any (s s' : Sp) (n n' : Int) (A : Option Addr) (c : Nat) (xs : List EE) (A' : Option Addr) (c' : Nat) (ys : List EE) (w : World) (hx : EI w w.heap.size A xs) (hy : EI w w.heap.size A' ys) (hn : xs.length ≤ 1000000) (hp : ∀ x ∈ xs, x.x.m.props.length ≤ 4398046511104) :
    Calls Tryd.prog 16 #[quV s n (.slice A xs.length c), quV s' n' (.slice A' ys.length c')] w fun e w' => e = .returned (.bool (decide (s = s' ∧ n = n' ∧ xs.map EE.x = ys.map EE.x))) ∧ Below w.heap.size w w' := by
  have HSL := Lib.hid (fun w1 h1 h2 => rSameL_any A c xs A' c' ys w1 h1 h2 hn hp)
  have HX := Lib.hid hx
  have HY := Lib.hid hy
  have heq := eqSp s s'
  have hgd := guardSp
  obtain ⟨V, hV⟩ : ∃ V, decide (s = s' ∧ n = n' ∧ xs.map EE.x = ys.map EE.x) = V := ⟨_, rfl⟩
  rw [hV]
  have HN0 : Hid (s ≠ s' → V = false) := Lib.hid (fun h => by rw [← hV]; exact decide_eq_false (fun e => h e.1))
  have HN1 : Hid (n ≠ n' → V = false) := Lib.hid (fun h => by rw [← hV]; exact decide_eq_false (fun e => h e.2.1))
  have HN3 : Hid (s = s' → n = n' → decide (xs.map EE.x = ys.map EE.x) = V) := Lib.hid (fun h1 h2 => by rw [← hV]; simp [h1, h2])
  clear hV hx hy hn hp
  unfold quV
  go_enter Tryd.func16, Tryd.ntmps16
  go_upto_region 1 with fail
  refine name_world (C := fun w1 => Code.wp _ _ _ _ w1) ((w.alloc (.cells (quC s n (.slice A xs.length c)).toArray 26)).alloc (.cells (quC s' n' (.slice A' ys.length c')).toArray 26)) ?_
  intro w1 hw1
  have hb1 : Below w.heap.size w w1 := by rw [hw1]; exact stepB (S2.below_new w _) (S2.below_new _ _)
  have t1 : BK 26 w1 w.heap.size (quC s n (.slice A xs.length c)) := by rw [hw1]; exact BK.alloc (BK.new w _ _) _
  have t2 : BK 26 w1 (w.heap.size + 1) (quC s' n' (.slice A' ys.length c')) := by rw [hw1]; exact bk_new1 w _ _ _
  clear hw1
  have x5 := t1.cell 5 rfl
  have x6 := t1.cell 6 rfl
  have y5 := t2.cell 5 rfl
  have y6 := t2.cell 6 rfl
  have HL1 := Lib.hid (load_qsp t1)
  have HL2 := Lib.hid (load_qsp t2)
  have HB := Lib.hid hb1
  have HS1 : Hid (spV s = .agg (spC s).toArray) := Lib.hid rfl
  have HS2 : Hid (spV s' = .agg (spC s').toArray) := Lib.hid rfl
  rw [HS1.out] at HL1
  rw [HS2.out] at HL2
  clear t1 t2 hb1
  by_cases h0 : s ≠ s'
  · obtain rfl := HN0.out h0
    rw [decide_eq_false h0] at heq
    clear h0
    go_wp2_with first
      | (refine wpList_load_v (by rfl) 23 (.tmp 5) rfl ⟨w.heap.size, 0, none⟩ (by first | rfl | go_simp) _ HL1.out ?_)
      | (refine wpList_load_v (by rfl) 23 (.tmp 7) rfl ⟨w.heap.size + 1, 0, none⟩ (by first | rfl | go_simp) _ HL2.out ?_)
    go_ret
    exact ⟨rfl, HB.out⟩
  replace h0 := Decidable.not_not.1 h0
  rw [decide_eq_true h0] at heq
  by_cases h1 : n ≠ n'
  · obtain rfl := HN1.out h1
    have q1 : (n == n') = false := by simp [h1]
    clear h0 h1
    go_wp2_with first
      | (refine wpList_load_v (by rfl) 23 (.tmp 5) rfl ⟨w.heap.size, 0, none⟩ (by first | rfl | go_simp) _ HL1.out ?_)
      | (refine wpList_load_v (by rfl) 23 (.tmp 7) rfl ⟨w.heap.size + 1, 0, none⟩ (by first | rfl | go_simp) _ HL2.out ?_)
    go_ret
    exact ⟨rfl, HB.out⟩
  replace h1 := Decidable.not_not.1 h1
  have q1 : (n == n') = true := by simp [h1]
  have hq := HN3.out h0 h1
  rw [hq] at HSL
  clear h0 h1 hq
  go_wp2_with first
    | (refine wpList_load_v (by rfl) 23 (.tmp 5) rfl ⟨w.heap.size, 0, none⟩ (by first | rfl | go_simp) _ HL1.out ?_)
    | (refine wpList_load_v (by rfl) 23 (.tmp 7) rfl ⟨w.heap.size + 1, 0, none⟩ (by first | rfl | go_simp) _ HL2.out ?_)
  refine (HSL.out w1 (HX.out.step HB.out) (HY.out.step HB.out)).mono ?_
  rintro e w2 ⟨rfl, hb⟩
  have HB2 := Lib.hid (stepB HB.out hb)
  clear hb
  go_wp2
  go_ret
  exact ⟨rfl, HB2.out⟩
end Go.Proofs.YtjhojpghllnoiaaDoor
namespace Go.Proofs.YtjhojpghllnoiaaDoor
open Go.RowKit
open S2 (BK Put get_ops)

/-! ### A map of truth values -/
def boolElem : Value → Option (DataW Unit × List MemPlace)
  | .bool x => some (.lit (.bool x), [])
  | _ => none
/-- a map of the call's own that holds the numbers of these entries -/
def MapB (w : World) (b n : Nat) (L : List En) : Prop := ∃ D : DataW Unit, w.ownsMap Tryd.prog 3 boolElem b n D ∧ Maps.IsMap D ∧ ∀ z : Int, D.atKey (.int .i64 z) (.lit (.bool false)) = .lit (.bool (hasQ L z))
theorem MapB.step {w w' : World} {b n : Nat} {L : List En} (h : MapB w b n L) (hb : Below w.heap.size w w') : MapB w' b n L := by
  obtain ⟨D, ho, hm, hat⟩ := h
  have hlt := ho.lt
  obtain ⟨es, clock, h1, F, h2, h3⟩ := ho
  exact ⟨D, ⟨es, clock, (hb.block _ hlt).trans h1, F, h2, h3⟩, hm, hat⟩
theorem MapB.lt {w : World} {b n : Nat} {L : List En} (h : MapB w b n L) : b < w.heap.size := by
  obtain ⟨D, ho, _⟩ := h
  exact ho.lt
theorem MapB.made (w : World) : MapB (w.alloc (.map #[] 0)) w.heap.size 0 [] := ⟨_, World.ownsMap_made _ _ _ _, ⟨_, rfl⟩, fun _ => rfl⟩
theorem hasQ_snoc (L : List En) (x : En) (z : Int) : hasQ (L ++ [x]) z = (hasQ L z || decide (x.k = z)) := by
  unfold hasQ
  rw [List.any_append]
  simp
theorem wpList_look_b {ops : Array Oper} {rest : List Oper} {o : Oper} {a : Act} {Q : Exit → Act → World → Prop} (w : World) (hg : o.guard = none) (m x : Operand) (hop : o.op = Op.lookup 71 m x false)
    (b n : Nat) (L : List En) (hm : a.eval m = .map (some b)) (h : MapB w b n L) (z : Int) (hx : a.eval x = .int .i64 z) (hz : (Lit.int .i64 z).wf = true)
    (hK : wpList Tryd.prog ops Q rest (a.put o.dst (.bool (hasQ L z))) w) : wpList Tryd.prog ops Q (o :: rest) a w := by
  refine wpList_plain hg fun K' hK' => ?_
  obtain ⟨D, ho, _, hat⟩ := h
  obtain ⟨v, ps, hrun, hv⟩ := ho.lookup (Maps.int_keyed Tryd.underlying3) Tryd.underlying71 (z := .bool false) (Tryd.zeroValue4 w) (zd := .lit (.bool false)) (zp := []) rfl (Maps.keyOf_int_mk Tryd.underlying3 hz)
  rw [hat] at hv
  cases v <;> simp [boolElem] at hv
  rename_i y
  obtain ⟨h1, h2⟩ := hv
  subst h1
  unfold Oper.wp
  simp [execOp, hop, hm, hx, hrun, Result.andThen]
  exact hK' _ _ hK
theorem wpList_upd_b {ops : Array Oper} {rest : List Oper} {o : Oper} {a : Act} {Q : Exit → Act → World → Prop} (w : World) (hg : o.guard = none) (m x v : Operand) (hop : o.op = Op.mapUpdate 71 m x v)
    (b n : Nat) (L : List En) (hm : a.eval m = .map (some b)) (h : MapB w b n L) (y : En) (hx : a.eval x = .int .i64 y.k) (hv : a.eval v = .bool true) (hz : (Lit.int .i64 y.k).wf = true) (hn : n < maxLen)
    (hK : ∀ w', MapB w' b (n + 1) (L ++ [y]) → w.grownBy w' (some b) → wpList Tryd.prog ops Q rest (a.put o.dst undef) w') : wpList Tryd.prog ops Q (o :: rest) a w := by
  obtain ⟨D, ho, hmp, hat⟩ := h
  refine wpList_mapUpdate_own w hg m x v _ hop _ _ (Maps.int_keyed Tryd.underlying3) Tryd.underlying71 boolElem b n D hm ho hn _ _ (.int .i64 y.k) hx hv (Maps.keyOf_int_mk Tryd.underlying3 hz) _ [] rfl ?_
  intro w' h1 h2
  refine hK w' ⟨_, h1, hmp.put _ _, fun z => ?_⟩ h2
  rw [hasQ_snoc]
  by_cases he : y.k = z
  · subst he
    rw [Maps.atKey_put_same hmp (by trivial)]
    simp
  · rw [Maps.atKey_put_other (fun e => he (by injection e with _ e; exact e.symm)), hat, decide_eq_false he, Bool.or_false]

/-! ### Valid -/
def afterR (pre : List En) (x : En) : Bool := match pre.getLast? with
  | some p => precR p x
  | none => true
def vloop (n : Int) : List En → List En → Int
  | _, [] => 0
  | pre, x :: r => if entR x n ≠ 0 then entR x n else if hasQ pre x.k = true then 26 else if afterR pre x = false then 22 else vloop n (pre ++ [x]) r
/-- the first error of a queue -/
def validR (s : Sp) (n : Int) (l : List En) : Int := if specR s ≠ 0 then (specR s : Nat) else if inR n 1 1099511627776 = false then 1 else if 4352 < (l.length : Int) then 5 else vloop n [] l
theorem afterR_take {L : List En} {k : Nat} {x : En} (h : L[k]? = some x) (y : En) : afterR (L.take (k + 1)) y = precR x y := by
  unfold afterR
  rw [List.take_add_one, h]
  simp

set_option maxRecDepth 20000 in
set_option maxHeartbeats 16000000 in
theorem qValid_any (s : Sp) (n : Int) (A : Option Addr) (c : Nat) (l : List EE) (w : World) (hw : S1.Okw w) (hsl : EI w w.heap.size A l) (hz : s.name.size ≤ 9223372036854775807 ∧ s.dead.size ≤ 9223372036854775807) (hn : l.length ≤ 1000000) :
    Calls Tryd.prog 22 #[quV s n (.slice A l.length c)] w fun e w' => e = .returned (.int .i64 (validR s n (l.map EE.x))) ∧ Below w.heap.size w w' := by
  have HC := Lib.hid (fun w1 => qCheck_any s w1 hz)
  have HT := Lib.hid (fun w1 => qWithin_any n 1 1099511627776 w1)
  have HE := Lib.hid (fun (x : EE) w1 (hw1 : S1.Okw w1) (h1 : PL w1 w1.heap.size x.a x.x.m.props) (hn1 : 1 ≤ n ∧ n ≤ 1099511627776) => qEntry_any x.x x.a x.c n w1 hn1 h1 hw1)
  have HPR := Lib.hid (fun (x y : EE) w1 => qPrec_any x.x y.x x.a y.a x.c y.c w1)
  have HO := Lib.hid hw
  have HS := Lib.hid hsl
  obtain ⟨R, hR⟩ : ∃ R, validR s n (l.map EE.x) = R := ⟨_, rfl⟩
  rw [hR]
  unfold validR at hR
  rw [List.length_map] at hR
  obtain ⟨L, hL⟩ : ∃ L, l.map EE.x = L := ⟨_, rfl⟩
  have HLL : Hid (L.length = l.length) := Lib.hid (by rw [← hL, List.length_map])
  have HLA : Hid (∀ (k : Nat) (x : EE), l[k]? = some x → L[k]? = some x.x) := Lib.hid (fun k x h => by rw [← hL, List.getElem?_map, h]; rfl)
  rw [hL] at hR
  obtain ⟨ck, hck⟩ : ∃ b, specR s = b := ⟨_, rfl⟩
  obtain ⟨b1, hb1⟩ : ∃ b, inR n 1 1099511627776 = b := ⟨_, rfl⟩
  have HNR : Hid (b1 = true → 1 ≤ n ∧ n ≤ 1099511627776) := Lib.hid (fun h => inR_iff.1 (hb1.trans h))
  rw [hck] at HC hR
  rw [hb1] at HT hR
  have HR := Lib.hid hR
  clear hR hL hck hb1 hsl hw hz
  have HSV : Hid (spV s = .agg (spC s).toArray) := Lib.hid rfl
  rw [HSV.out] at HC
  unfold enW enV at HE HPR
  unfold quV
  have hmm := @run_makeMap Tryd.prog
  go_enter Tryd.func22, Tryd.ntmps22
  go_upto_region 1 with fail
  refine name_world (C := fun w1 => Code.wp _ _ _ _ w1) (w.alloc (.cells (quC s n (.slice A l.length c)).toArray 26)) ?_
  intro w1 hw1
  have hb1 : Below w.heap.size w w1 := by rw [hw1]; exact S2.below_new w _
  have Q_w1 : Hid (BK 26 w1 w.heap.size (quC s n (.slice A l.length c))) := Lib.hid (by rw [hw1]; exact BK.new w _ _)
  have B_w1 := Lib.hid hb1
  clear hw1 hb1
  have HL1 := Lib.hid (load_qsp Q_w1.out)
  rw [HSV.out] at HL1
  go_wp2_with first
    | (refine wpList_load_v (by rfl) 23 _ rfl ⟨w.heap.size, 0, none⟩ (by first | rfl | go_simp) _ HL1.out ?_)
  refine (HC.out w1).mono ?_
  rintro e w2 ⟨rfl, hb⟩
  have B_w2 := Lib.hid (stepB B_w1.out hb)
  have Q_w2 := Lib.hid (Q_w1.out.step hb)
  clear hb HL1
  by_cases h0 : ck ≠ 0
  · have q0 : ((ck : Int) != 0) = true := by simp; omega
    obtain rfl : R = (ck : Int) := by rw [← HR.out, if_pos h0]
    clear h0
    go_wp2
    go_ret
    exact ⟨rfl, B_w2.out⟩
  replace h0 := Decidable.not_not.1 h0
  subst h0
  have d5 := Q_w2.out.cell 5 rfl
  go_wp2_with fail
  refine (HT.out w2).mono ?_
  rintro e w3 ⟨rfl, hb⟩
  have B_w3 := Lib.hid (stepB B_w2.out hb)
  have Q_w3 := Lib.hid (Q_w2.out.step hb)
  clear hb d5
  cases b1 with
  | false =>
    obtain rfl : R = 1 := by rw [← HR.out]; simp
    go_wp2
    go_ret
    exact ⟨rfl, B_w3.out⟩
  | true =>
  have HN1 := Lib.hid (HNR.out (by trivial))
  have d6 := Q_w3.out.cell 6 rfl
  by_cases h1 : 4352 < (l.length : Int)
  · have q1 : decide (4352 < (l.length : Int)) = true := decide_eq_true h1
    have q2 : decide ((l.length : Int) > 4352) = true := decide_eq_true h1
    obtain rfl : R = 5 := by rw [← HR.out]; simp [h1]
    clear h1
    go_wp2
    go_ret
    exact ⟨rfl, B_w3.out⟩
  have q1 : decide (4352 < (l.length : Int)) = false := decide_eq_false h1
  have q2 : decide ((l.length : Int) > 4352) = false := decide_eq_false h1
  have HRV : Hid (R = vloop n (L.take 0) (L.drop 0)) := Lib.hid (by have h9 := HR.out; rw [← h9]; simp [h1])
  clear h1 HR
  go_upto_region 9 with fail
  refine name_world (C := fun w1 => Code.wp _ _ _ _ w1) (w3.alloc (.map #[] 0)) ?_
  intro w4 hw4
  have hb4 : Below w3.heap.size w3 w4 := by rw [hw4]; exact S2.below_new w3 _
  obtain ⟨mb, hmb⟩ : ∃ b, b = w3.heap.size := ⟨_, rfl⟩
  have M_w4 : Hid (MapB w4 mb 0 (L.take 0)) := Lib.hid (by rw [hw4, hmb]; exact MapB.made w3)
  have B_w4 := Lib.hid (stepB B_w3.out hb4)
  have Q_w4 := Lib.hid (Q_w3.out.step hb4)
  have HMQ : Hid (w.heap.size < mb) := Lib.hid (by rw [hmb]; exact Q_w3.out.lt)
  rw [← hmb]
  clear hw4 hb4 hmm hmb d6 q1 q2
  have d6 := Q_w4.out.cell 6 rfl
  go_wp2_with fail
  clear d6
  go_loopg [28] l.length (fun g v wr => ∃ (k : Nat), k + g = l.length ∧ v = .int .i64 k ∧ R = vloop n (L.take k) (L.drop k) ∧ MapB wr mb k (L.take k) ∧ BK 26 wr w.heap.size (quC s n (.slice A l.length c)) ∧ Below w.heap.size w wr)
  case atStart => exact ⟨0, by omega, rfl, HRV.out, M_w4.out, Q_w4.out, B_w4.out⟩
  case round =>
    obtain ⟨k, hkg, rfl, hrv, hmap, hq, hb0⟩ := hrel
    have HRK := Lib.hid hrv
    have M_wr := Lib.hid hmap
    have Q_wr := Lib.hid hq
    have B_wr := Lib.hid hb0
    have HK := Lib.hid hkg
    clear hrv hmap hq hb0
    cases gk with
    | zero =>
      obtain rfl : k = l.length := by omega
      obtain rfl : R = 0 := by rw [HRK.out, ← HLL.out, List.drop_length]; rfl
      clear hkg
      go_wp2
      go_ret
      exact ⟨rfl, B_wr.out⟩
    | succ gk =>
      have hlt : k < l.length := by omega
      have e3 : decide ((k : Int) < (l.length : Int)) = true := decide_eq_true (by omega)
      obtain ⟨x, hx⟩ : ∃ x, l[k]? = some x := ⟨_, List.getElem?_eq_getElem hlt⟩
      obtain ⟨b, o, hA, hbB, hc, hpl⟩ := (HS.out.step B_wr.out).at_ hx
      have HLD := Lib.hid (load_ent hc)
      unfold enW enV at HLD
      have HXK := Lib.hid hx
      have HLX := Lib.hid (HLA.out k x hx)
      have HPL : Hid (PL wr wr.heap.size x.a x.x.m.props) := Lib.hid hpl
      have HRN : Hid (R = if entR x.x n ≠ 0 then entR x.x n else if hasQ (L.take k) x.x.k = true then 26 else if afterR (L.take k) x.x = false then 22 else vloop n (L.take (k + 1)) (L.drop (k + 1))) := Lib.hid (by
        rw [HRK.out, dropE HLX.out, List.take_add_one, HLX.out]
        rfl)
      have HEP := Lib.hid (fun (h : entR x.x n = 0) => (entR_parts h).1)
      have HEX := Lib.hid (fun w1 h1 h2 => HE.out x w1 h1 h2 HN1.out)
      generalize hek : entR x.x n = ek at *
      subst hA
      have j1 : (0 : Int) ≤ (k : Int) := by omega
      have j2 : (k : Int) < (l.length : Int) := by omega
      have hlk : k ≤ 1000000 := by omega
      clear hx hc hpl hbB hkg HRK hek
      go_upto_region 12 with first
        | (refine wpList_load_v (by rfl) 34 _ rfl ⟨b, o + k * 12, none⟩ (by simp [Act.eval, Act.put]) _ HLD.out ?_)
        | (refine S2.wpList_store_all (by rfl) 34 (.tmp 6) (.tmp 32) rfl rfl wr.heap.size rfl (gE x) rfl 34 (enX En.zero none 0) (BK.new wr _ _) enSize rfl (gE_one _) ?_; intro x2 hM hP; have V_x2 : Hid (BK 34 x2 wr.heap.size (gE x)) := Lib.hid hM; have hb : Below wr.heap.size wr x2 := hP.below (S2.below_new wr _) (Nat.le_refl _); have M_x2 := Lib.hid (M_wr.out.step hb); have Q_x2 := Lib.hid (Q_wr.out.step hb); have B_x2 := Lib.hid (stepB B_wr.out hb); have P_x2 : Hid (PL x2 x2.heap.size x.a x.x.m.props) := Lib.hid (GL.step HPL.out hb); clear hM hP hb HPL HLD)
      have HVQ : Hid (mb < wr.heap.size ∧ w.heap.size < wr.heap.size) := Lib.hid ⟨M_wr.out.lt, Q_wr.out.lt⟩
      obtain ⟨gv, hgv⟩ : ∃ b, b = wr.heap.size := ⟨_, rfl⟩
      rw [← hgv] at V_x2 HVQ
      try rw [← hgv]
      clear hgv M_wr Q_wr B_wr
      have d5 := Q_x2.out.cell 5 rfl
      have HLV := Lib.hid (load_en0 (x := x.x) (a := x.a) (c := x.c) V_x2.out)
      unfold enW enV at HLV
      go_wp2_with first
        | (refine wpList_load_v (by rfl) 34 _ rfl ⟨gv, 0, none⟩ (by first | rfl | go_simp) _ HLV.out ?_)
      refine (HEX.out x2 (HO.out.step B_x2.out) P_x2.out).mono ?_
      rintro e x3 ⟨rfl, hb⟩
      have V_x3 := Lib.hid (V_x2.out.step hb)
      have M_x3 := Lib.hid (M_x2.out.step hb)
      have Q_x3 := Lib.hid (Q_x2.out.step hb)
      have B_x3 := Lib.hid (stepB B_x2.out hb)
      clear hb d5 HLV V_x2 M_x2 Q_x2 B_x2 P_x2 HEX
      by_cases h0 : ek ≠ 0
      · have q0 : (ek != 0) = true := by simp [h0]
        obtain rfl : R = ek := by rw [HRN.out, if_pos h0]
        clear h0
        go_wp2
        go_ret
        exact ⟨rfl, B_x3.out⟩
      replace h0 := Decidable.not_not.1 h0
      have HKB := Lib.hid (HEP.out h0)
      subst h0
      have HWF : Hid ((Lit.int .i64 x.x.k).wf = true) := Lib.hid (WalkArith.wf_i64 (by have := HKB.out; have := HN1.out; omega))
      have v0 : x3.cell? ⟨gv, 0, none⟩ = some (.int .i64 x.x.k) := V_x3.out.cell 0 rfl
      cases hbh : hasQ (L.take k) x.x.k with
      | true =>
        obtain rfl : R = 26 := by rw [HRN.out]; simp [hbh]
        go_wp2_with first
          | (at_lookup; refine wpList_look_b _ rfl _ _ rfl mb k (L.take k) rfl M_x3.out x.x.k rfl HWF.out ?_; rw [hbh])
        go_ret
        exact ⟨rfl, B_x3.out⟩
      | false =>
      have HRA : Hid (R = if afterR (L.take k) x.x = false then 22 else vloop n (L.take (k + 1)) (L.drop (k + 1))) := Lib.hid (by rw [HRN.out]; simp [hbh])
      have HTK : Hid (L.take k ++ [x.x] = L.take (k + 1)) := Lib.hid (by rw [List.take_add_one, HLX.out]; rfl)
      have q6 := Q_x3.out.cell 6 rfl
      go_upto_region 17 with first
        | (at_lookup; refine wpList_look_b _ rfl _ _ rfl mb k (L.take k) rfl M_x3.out x.x.k rfl HWF.out ?_; rw [hbh])
      clear hbh q6 v0 HRN
      have HLS : Hid (∀ w', Below w.heap.size w w' → ∀ (kp : Nat) (y : EE), l[kp]? = some y → (loadVar 34 ⟨b, o + kp * 12, none⟩).run Tryd.prog w' = .ok (enW y.x y.a y.c) w') := Lib.hid (fun w' h' kp y hy => by
        obtain ⟨p', o', hA', _, hcl', _⟩ := LI.at_ (HS.out.step h') hy
        simp only [Option.some.injEq, Addr.mk.injEq, and_true] at hA'
        obtain ⟨rfl, rfl⟩ := hA'
        exact load_ent hcl')
      by_cases hk0 : k = 0
      · subst hk0
        have HRB : Hid (R = vloop n (L.take (0 + 1)) (L.drop (0 + 1))) := Lib.hid (by rw [HRA.out]; simp [afterR])
        clear HRA
        obtain ⟨r1, hr1⟩ : ∃ r1, r1 = World.drew x3 := ⟨_, rfl⟩
        have hbD : Below x3.heap.size x3 r1 := by rw [hr1]; exact (Below.refl _ _).drew
        have B_r1 : Hid (Below w.heap.size w r1) := Lib.hid (stepB B_x3.out hbD)
        have Q_r1 : Hid (BK 26 r1 w.heap.size (quC s n (.slice (some ⟨b, o, none⟩) l.length c))) := Lib.hid (Q_x3.out.step hbD)
        have V_r1 : Hid (BK 34 r1 gv (gE x)) := Lib.hid (V_x3.out.step hbD)
        have M_r1 : Hid (MapB r1 mb 0 (L.take 0)) := Lib.hid (M_x3.out.step hbD)
        clear B_x3 Q_x3 V_x3 M_x3
        have hbd : (fun w' => BK 34 w' gv (gE x)) (World.drew x3) := by rw [← hr1]; exact V_r1.out
        have hSD : (fun w' => BK 34 w' gv (gE x)) r1 := V_r1.out
        have HWD := Lib.hid hr1
        clear hr1 hbD
        refine wp_region_held_drew (S := fun w' => BK 34 w' gv (gE x)) (by kernel_rfl) hbd (fun hHeld => ?_)
        rw [← HWD.out]
        clear hHeld
        have hHeld := hSD
        clear hSD hbd HWD
        refine wpAnyH_take (i := 0) (v := .int .i64 0) (get_ops _ _ _ rfl) (by kernel_rfl) (by kernel_rfl) (by kernel_rfl) (fun _ _ _ h => h) (Or.inl ⟨by rfl, fun wS hSw => by (try dsimp only at hSw); go_simp⟩) hHeld ?_
        try simp only [Act.put, List.setIfInBounds_toArray, List.set_cons_zero, List.set_cons_succ]
        refine wpAnyH_take (i := 1) (v := .bool false) (get_ops _ _ _ rfl) (by kernel_rfl) (by kernel_rfl) (by kernel_rfl) (fun _ _ _ h => h) (Or.inl ⟨by rfl, fun wS hSw => by (try dsimp only at hSw); go_simp⟩) hHeld ?_
        try simp only [Act.put, List.setIfInBounds_toArray, List.set_cons_zero, List.set_cons_succ]
        refine wpAnyH_take (i := 2) (v := .bool false) (get_ops _ _ _ rfl) (by kernel_rfl) (by kernel_rfl) (by kernel_rfl) (fun _ _ _ h => h) (Or.inl ⟨by rfl, fun wS hSw => by (try dsimp only at hSw); go_simp⟩) hHeld ?_
        try simp only [Act.put, List.setIfInBounds_toArray, List.set_cons_zero, List.set_cons_succ]
        refine wpAnyH_take (i := 3) (v := undef) (get_ops _ _ _ rfl) (by kernel_rfl) (by kernel_rfl) (by kernel_rfl) (fun _ _ _ h => h) (Or.inr ⟨by rfl, rfl⟩) hHeld ?_
        try simp only [Act.put, List.setIfInBounds_toArray, List.set_cons_zero, List.set_cons_succ]
        refine wpAnyH_take (i := 4) (v := undef) (get_ops _ _ _ rfl) (by kernel_rfl) (by kernel_rfl) (by kernel_rfl) (fun _ _ _ h => h) (Or.inr ⟨by rfl, rfl⟩) hHeld ?_
        try simp only [Act.put, List.setIfInBounds_toArray, List.set_cons_zero, List.set_cons_succ]
        refine wpAnyH_take (i := 5) (v := undef) (get_ops _ _ _ rfl) (by kernel_rfl) (by kernel_rfl) (by kernel_rfl) (fun _ _ _ h => h) (Or.inr ⟨by rfl, rfl⟩) hHeld ?_
        try simp only [Act.put, List.setIfInBounds_toArray, List.set_cons_zero, List.set_cons_succ]
        refine wpAnyH_take (i := 6) (v := undef) (get_ops _ _ _ rfl) (by kernel_rfl) (by kernel_rfl) (by kernel_rfl) (fun _ _ _ h => h) (Or.inr ⟨by rfl, rfl⟩) hHeld ?_
        try simp only [Act.put, List.setIfInBounds_toArray, List.set_cons_zero, List.set_cons_succ]
        refine wpAnyH_take (i := 7) (v := undef) (get_ops _ _ _ rfl) (by kernel_rfl) (by kernel_rfl) (by kernel_rfl) (fun _ _ _ h => h) (Or.inr ⟨by rfl, rfl⟩) hHeld ?_
        try simp only [Act.put, List.setIfInBounds_toArray, List.set_cons_zero, List.set_cons_succ]
        refine wpAnyH_take (i := 8) (v := undef) (get_ops _ _ _ rfl) (by kernel_rfl) (by kernel_rfl) (by kernel_rfl) (fun _ _ _ h => h) (Or.inr ⟨by rfl, rfl⟩) hHeld ?_
        try simp only [Act.put, List.setIfInBounds_toArray, List.set_cons_zero, List.set_cons_succ]
        refine wpAnyH_take (i := 9) (v := undef) (get_ops _ _ _ rfl) (by kernel_rfl) (by kernel_rfl) (by kernel_rfl) (fun _ _ _ h => h) (Or.inr ⟨by rfl, rfl⟩) hHeld ?_
        try simp only [Act.put, List.setIfInBounds_toArray, List.set_cons_zero, List.set_cons_succ]
        refine wpAnyH_take (i := 10) (v := undef) (get_ops _ _ _ rfl) (by kernel_rfl) (by kernel_rfl) (by kernel_rfl) (fun _ _ _ h => h) (Or.inr ⟨by rfl, rfl⟩) hHeld ?_
        try simp only [Act.put, List.setIfInBounds_toArray, List.set_cons_zero, List.set_cons_succ]
        refine wpAnyH_take (i := 11) (v := undef) (get_ops _ _ _ rfl) (by kernel_rfl) (by kernel_rfl) (by kernel_rfl) (fun _ _ _ h => h) (Or.inr ⟨by rfl, rfl⟩) hHeld ?_
        try simp only [Act.put, List.setIfInBounds_toArray, List.set_cons_zero, List.set_cons_succ]
        refine wpAnyH_take (i := 12) (v := .bool false) (get_ops _ _ _ rfl) (by kernel_rfl) (by kernel_rfl) (by kernel_rfl) (fun _ _ _ h => h) (Or.inl ⟨by rfl, fun wS hSw => by (try dsimp only at hSw); go_simp⟩) hHeld ?_
        try simp only [Act.put, List.setIfInBounds_toArray, List.set_cons_zero, List.set_cons_succ]
        refine wpAnyH_take (i := 13) (v := .bool false) (get_ops _ _ _ rfl) (by kernel_rfl) (by kernel_rfl) (by kernel_rfl) (fun _ _ _ h => h) (Or.inl ⟨by rfl, fun wS hSw => by (try dsimp only at hSw); go_simp⟩) hHeld ?_
        try simp only [Act.put, List.setIfInBounds_toArray, List.set_cons_zero, List.set_cons_succ]
        refine wpAnyH_done (by kernel_rfl) ?_ _
        have v0 : r1.cell? ⟨gv, 0, none⟩ = some (.int .i64 x.x.k) := V_r1.out.cell 0 rfl
        go_wp2_with first
          | (at_mapUpdate; refine wpList_upd_b _ rfl _ _ _ rfl mb 0 (L.take 0) rfl M_r1.out x.x rfl rfl HWF.out (by unfold maxLen; omega) ?_; intro x9 hm9 hg9; rw [HTK.out] at hm9; have M_9 := Lib.hid hm9; have Q_9 := Lib.hid (BK.grow Q_r1.out hg9 (fun e => by injection e with e; have := HMQ.out; omega)); have B_9 := Lib.hid (Below.grown B_r1.out hg9 B_r1.out.size (fun j hj => by injection hj with hj; have := HMQ.out; omega)); clear hm9 hg9)
        go_roundg gk
        case measure => omega
        case rel => exact ⟨0 + 1, by have := HK.out; omega, by go_num, HRB.out, M_9.out, Q_9.out, B_9.out⟩
      · obtain ⟨kp, hkp⟩ : ∃ kp, k = kp + 1 := ⟨k - 1, by omega⟩
        obtain ⟨y, hy⟩ : ∃ y, l[kp]? = some y := ⟨_, List.getElem?_eq_getElem (by omega)⟩
        have HLY := Lib.hid (fun w' h' => HLS.out w' h' kp y hy)
        obtain ⟨bp, hbp⟩ : ∃ b, precR y.x x.x = b := ⟨_, rfl⟩
        have HRB : Hid (R = if bp = false then 22 else vloop n (L.take (k + 1)) (L.drop (k + 1))) := Lib.hid (by
          have h8 := HRA.out
          rw [hkp, afterR_take (HLA.out kp y hy), hbp, ← hkp] at h8
          exact h8)
        have HPB := Lib.hid (fun w1 => HPR.out y x w1)
        rw [hbp] at HPB
        have HKW : Hid (IntKind.i64.wrap ((k : Int) - 1) = (kp : Int) ∧ wrap64 ((k : Int) - 1) = (kp : Int)) := Lib.hid ⟨by rw [IntKind.wrap_i64]; omega, by rw [wrap64_id _ (by omega) (by omega)]; omega⟩
        have e5 : decide ((k : Int) > 0) = true := decide_eq_true (by omega)
        have e6 : decide ((0 : Int) < (k : Int)) = true := decide_eq_true (by omega)
        have e7 : (0 : Int) ≤ (kp : Int) := by omega
        have e8 : (kp : Int) < (l.length : Int) := by omega
        have HE58 := Lib.hid (And.intro e5 (And.intro e6 (And.intro e7 e8)))
        have HK0 : Hid (0 < k) := Lib.hid (by omega)
        clear HRA hy hbp hkp hk0
        obtain ⟨t1, ht1⟩ : ∃ t1, t1 = World.drew x3 := ⟨_, rfl⟩
        have hbD : Below x3.heap.size x3 t1 := by rw [ht1]; exact (Below.refl _ _).drew
        have B_t1 : Hid (Below w.heap.size w t1) := Lib.hid (stepB B_x3.out hbD)
        have Q_t1 : Hid (BK 26 t1 w.heap.size (quC s n (.slice (some ⟨b, o, none⟩) l.length c))) := Lib.hid (Q_x3.out.step hbD)
        have V_t1 : Hid (BK 34 t1 gv (gE x)) := Lib.hid (V_x3.out.step hbD)
        have M_t1 : Hid (MapB t1 mb k (L.take k)) := Lib.hid (M_x3.out.step hbD)
        clear B_x3 Q_x3 V_x3 M_x3
        have hbd : (fun w' => BK 26 w' w.heap.size (quC s n (.slice (some ⟨b, o, none⟩) l.length c)) ∧ BK 34 w' gv (gE x) ∧ Below w.heap.size w w') (World.drew x3) := by rw [← ht1]; exact ⟨Q_t1.out, V_t1.out, B_t1.out⟩
        have hSD : (fun w' => BK 26 w' w.heap.size (quC s n (.slice (some ⟨b, o, none⟩) l.length c)) ∧ BK 34 w' gv (gE x) ∧ Below w.heap.size w w') t1 := ⟨Q_t1.out, V_t1.out, B_t1.out⟩
        have HWD := Lib.hid ht1
        clear ht1 hbD
        refine wp_region_held_drew (S := fun w' => BK 26 w' w.heap.size (quC s n (.slice (some ⟨b, o, none⟩) l.length c)) ∧ BK 34 w' gv (gE x) ∧ Below w.heap.size w w') (by kernel_rfl) hbd (fun hHeld => ?_)
        rw [← HWD.out]
        clear hHeld
        have hHeld := hSD
        clear hSD hbd HWD
        refine wpAnyH_take (i := 0) (v := .int .i64 (k : Int)) (get_ops _ _ _ rfl) (by kernel_rfl) (by kernel_rfl) (by kernel_rfl) (fun _ _ _ h => h) (Or.inl ⟨by rfl, fun wS hSw => by (try dsimp only at hSw); go_simp⟩) hHeld ?_
        try simp only [Act.put, List.setIfInBounds_toArray, List.set_cons_zero, List.set_cons_succ]
        refine wpAnyH_take (i := 1) (v := .bool true) (get_ops _ _ _ rfl) (by kernel_rfl) (by kernel_rfl) (by kernel_rfl) (fun _ _ _ h => h) (Or.inl ⟨by rfl, fun wS hSw => by (try dsimp only at hSw); have h9 := HK0.out; clear hSw; go_simp; first | done | exact h9⟩) hHeld ?_
        try simp only [Act.put, List.setIfInBounds_toArray, List.set_cons_zero, List.set_cons_succ]
        refine wpAnyH_take (i := 2) (v := .bool true) (get_ops _ _ _ rfl) (by kernel_rfl) (by kernel_rfl) (by kernel_rfl) (fun _ _ _ h => h) (Or.inl ⟨by rfl, fun wS hSw => by (try dsimp only at hSw); go_simp⟩) hHeld ?_
        try simp only [Act.put, List.setIfInBounds_toArray, List.set_cons_zero, List.set_cons_succ]
        refine wpAnyH_take (i := 3) (v := .pointer (some ⟨w.heap.size, 6, none⟩)) (get_ops _ _ _ rfl) (by kernel_rfl) (by kernel_rfl) (by kernel_rfl) (fun _ _ _ h => h) (Or.inl ⟨by rfl, fun wS hSw => by (try dsimp only at hSw); go_simp⟩) hHeld ?_
        try simp only [Act.put, List.setIfInBounds_toArray, List.set_cons_zero, List.set_cons_succ]
        refine wpAnyH_take (i := 4) (v := .slice (some ⟨b, o, none⟩) l.length c) (get_ops _ _ _ rfl) (by kernel_rfl) (by kernel_rfl) (by kernel_rfl) (fun _ _ _ h => h) (Or.inl ⟨by rfl, fun wS hSw => by (try dsimp only at hSw); have cS : wS.cell? ⟨w.heap.size, 6, none⟩ = some (.slice (some ⟨b, o, none⟩) l.length c) := hSw.1.cell 6 rfl; clear hSw; go_simp⟩) hHeld ?_
        try simp only [Act.put, List.setIfInBounds_toArray, List.set_cons_zero, List.set_cons_succ]
        refine wpAnyH_take (i := 5) (v := .int .i64 (k : Int)) (get_ops _ _ _ rfl) (by kernel_rfl) (by kernel_rfl) (by kernel_rfl) (fun _ _ _ h => h) (Or.inl ⟨by rfl, fun wS hSw => by (try dsimp only at hSw); go_simp⟩) hHeld ?_
        try simp only [Act.put, List.setIfInBounds_toArray, List.set_cons_zero, List.set_cons_succ]
        refine wpAnyH_take (i := 6) (v := .int .i64 (kp : Int)) (get_ops _ _ _ rfl) (by kernel_rfl) (by kernel_rfl) (by kernel_rfl) (fun _ _ _ h => h) (Or.inl ⟨by rfl, fun wS hSw => by (try dsimp only at hSw); have h5 := HKW.out; obtain ⟨h5, h6⟩ := h5; clear hSw; go_simp⟩) hHeld ?_
        try simp only [Act.put, List.setIfInBounds_toArray, List.set_cons_zero, List.set_cons_succ]
        refine wpAnyH_take (i := 7) (v := .pointer (some ⟨b, o + kp * 12, none⟩)) (get_ops _ _ _ rfl) (by kernel_rfl) (by kernel_rfl) (by kernel_rfl) (fun _ _ _ h => h) (Or.inl ⟨by rfl, fun wS hSw => by (try dsimp only at hSw); clear hSw; go_simp⟩) hHeld ?_
        try simp only [Act.put, List.setIfInBounds_toArray, List.set_cons_zero, List.set_cons_succ]
        refine wpAnyH_take (i := 8) (v := (.agg (enX y.x y.a y.c).toArray)) (get_ops _ _ _ rfl) (by kernel_rfl) (by kernel_rfl) (by kernel_rfl) (fun _ _ _ h => h) (Or.inl ⟨by rfl, fun wS hSw => by (try dsimp only at hSw); exact exec_load 34 _ rfl ⟨b, o + kp * 12, none⟩ (by go_simp) _ (HLY.out wS hSw.2.2)⟩) hHeld ?_
        try simp only [Act.put, List.setIfInBounds_toArray, List.set_cons_zero, List.set_cons_succ]
        refine wpAnyH_take (i := 9) (v := (.agg (enX x.x x.a x.c).toArray)) (get_ops _ _ _ rfl) (by kernel_rfl) (by kernel_rfl) (by kernel_rfl) (fun _ _ _ h => h) (Or.inl ⟨by rfl, fun wS hSw => by (try dsimp only at hSw); exact exec_load 34 _ rfl ⟨gv, 0, none⟩ (by go_simp) _ (load_en0 hSw.2.1)⟩) hHeld ?_
        try simp only [Act.put, List.setIfInBounds_toArray, List.set_cons_zero, List.set_cons_succ]
        refine wpAnyH_ready (rs := [10]) (by kernel_rfl) (by simp) ?_
        refine (AllReadyH.cons (get_ops _ _ _ rfl) (fun K hK => ?_) AllReadyH.nil)
        go_simp
        refine (HPB.out t1).mono ?_
        rintro e t2 ⟨rfl, hb⟩
        have B_t2 : Hid (Below w.heap.size w t2) := Lib.hid (stepB B_t1.out hb)
        have Q_t2 : Hid (BK 26 t2 w.heap.size (quC s n (.slice (some ⟨b, o, none⟩) l.length c))) := Lib.hid (Q_t1.out.step hb)
        have V_t2 : Hid (BK 34 t2 gv (gE x)) := Lib.hid (V_t1.out.step hb)
        have M_t2 : Hid (MapB t2 mb k (L.take k)) := Lib.hid (M_t1.out.step hb)
        clear B_t1 Q_t1 V_t1 M_t1
        clear hHeld hb
        go_wp2_with fail
        refine hK.out _ _ ⟨Q_t2.out, V_t2.out, B_t2.out⟩ (fun hHeld => ?_)
        clear hK K
        try simp only [Act.put, List.setIfInBounds_toArray, List.set_cons_zero, List.set_cons_succ]
        refine wpAnyH_take (i := 11) (v := .bool (!bp)) (get_ops _ _ _ rfl) (by kernel_rfl) (by kernel_rfl) (by kernel_rfl) (fun _ _ _ h => h) (Or.inl ⟨by rfl, fun wS hSw => by (try dsimp only at hSw); go_simp⟩) hHeld ?_
        try simp only [Act.put, List.setIfInBounds_toArray, List.set_cons_zero, List.set_cons_succ]
        refine wpAnyH_take (i := 12) (v := .bool (!bp)) (get_ops _ _ _ rfl) (by kernel_rfl) (by kernel_rfl) (by kernel_rfl) (fun _ _ _ h => h) (Or.inl ⟨by rfl, fun wS hSw => by (try dsimp only at hSw); go_simp⟩) hHeld ?_
        try simp only [Act.put, List.setIfInBounds_toArray, List.set_cons_zero, List.set_cons_succ]
        refine wpAnyH_take (i := 13) (v := .bool (!bp)) (get_ops _ _ _ rfl) (by kernel_rfl) (by kernel_rfl) (by kernel_rfl) (fun _ _ _ h => h) (Or.inl ⟨by rfl, fun wS hSw => by (try dsimp only at hSw); go_simp⟩) hHeld ?_
        try simp only [Act.put, List.setIfInBounds_toArray, List.set_cons_zero, List.set_cons_succ]
        refine wpAnyH_done (by kernel_rfl) ?_ _
        cases bp with
        | false =>
          obtain rfl : R = 22 := by rw [HRB.out]; rfl
          go_wp2
          go_ret
          exact ⟨rfl, B_t2.out⟩
        | true =>
          replace HRB : Hid (R = vloop n (L.take (k + 1)) (L.drop (k + 1))) := Lib.hid (by rw [HRB.out]; rfl)
          have v0 : t2.cell? ⟨gv, 0, none⟩ = some (.int .i64 x.x.k) := V_t2.out.cell 0 rfl
          go_wp2_with first
            | (at_mapUpdate; refine wpList_upd_b _ rfl _ _ _ rfl mb k (L.take k) rfl M_t2.out x.x rfl rfl HWF.out (by unfold maxLen; omega) ?_; intro x9 hm9 hg9; rw [HTK.out] at hm9; have M_9 := Lib.hid hm9; have Q_9 := Lib.hid (BK.grow Q_t2.out hg9 (fun e => by injection e with e; have := HMQ.out; omega)); have B_9 := Lib.hid (Below.grown B_t2.out hg9 B_t2.out.size (fun j hj => by injection hj with hj; have := HMQ.out; omega)); clear hm9 hg9)
          go_roundg gk
          case measure => omega
          case rel => exact ⟨k + 1, by have := HK.out; omega, by go_num, HRB.out, M_9.out, Q_9.out, B_9.out⟩

end Go.Proofs.YtjhojpghllnoiaaDoor
namespace Go.Proofs.YtjhojpghllnoiaaDoor
open Go.RowKit
open S2 (BK Put get_ops)

def mq (p : Int) : Msg := ⟨⟨#[116]⟩, ⟨#[]⟩, 0, false, p, 0, ⟨#[]⟩, 0, []⟩
def sq : Sp := ⟨⟨#[113]⟩, 2, 10, 0, ⟨#[]⟩⟩
def x1 : En := ⟨1, 5, 0, mq 0⟩
def x2 : En := ⟨2, 5, 0, mq 4⟩
set_option maxRecDepth 20000 in
set_option maxHeartbeats 4000000 in
theorem message_any (p : Int) (w : World) : Calls Tryd.prog 21 #[.int .i64 p] w fun e w' => e = .returned (.agg (msgC (mq p) none 0).toArray) ∧ Below w.heap.size w w' := by
  go_enter Tryd.func21, Tryd.ntmps21
  go_upto_region 1 with fail
  refine name_world (C := fun w1 => Code.wp _ _ _ _ w1) (w.alloc (.cells (msgC Msg.zero none 0).toArray 32)) ?_
  intro w1 hw1
  have hb1 : Below w.heap.size w w1 := by rw [hw1]; exact S2.below_new w _
  have Z_w1 : Hid (BK 32 w1 w.heap.size (msgC Msg.zero none 0)) := Lib.hid (by rw [hw1]; exact BK.new w _ _)
  have B_w1 := Lib.hid hb1
  clear hw1 hb1
  go_wp2_with first
    | (refine S2.wpList_store_all (by rfl) 32 (.tmp 2) (.tmp 4) rfl rfl w.heap.size rfl (msgC (mq p) none 0) rfl 32 _ Z_w1.out msgSize rfl (msgC_one _ _ _) ?_; intro we hM hP; have ME := Lib.hid hM; have PE := Lib.hid hP; clear hM hP)
  exact bodyPost_ret (v := .agg (msgC (mq p) none 0).toArray) (S2.res_cell rfl _ _ w.heap.size 32 (msgC (mq p) none 0) _ rfl ME.out Tryd.underlying32 rfl msgSize) rfl ⟨rfl, PE.out.below B_w1.out (Nat.le_refl _)⟩

theorem ex_ins1 : insQ [] (pushE 1 5 (mq 0)) = [x1] := by rfl
theorem ex_b : precR x1 x2 = false := by decide +kernel
theorem ex_ins3 : insQ [x1] x2 = [x2, x1] := by
  unfold insQ posQ
  rw [List.takeWhile_cons_of_neg (by rw [ex_b]; decide)]
  rfl
theorem ex_ins2 : insQ [x1] (pushE 2 5 (mq 4)) = [x2, x1] := ex_ins3
theorem ex_k1 : pushK sq 1 0 (mq 0) 5 = 0 := by decide +kernel
theorem ex_k2 : pushK sq 2 1 (mq 4) 5 = 0 := by decide +kernel
theorem ex_k3 : pushK sq 3 2 (mq 9) 5 = 6 := by decide +kernel
theorem ex_s1 : SortQ [x1] := List.pairwise_singleton _ _
theorem ex_s2 : SortQ [x2, x1] := by
  refine List.Pairwise.cons (fun a ha => ?_) ex_s1
  simp at ha
  subst ha
  decide +kernel
theorem ex_r1 : retK 3 [x1] x2 = 0 := by decide +kernel
theorem ex_r2 : retK 3 [x2, x1] x2 = 7 := by decide +kernel
theorem ex_e1 : expX sq.ttl x1.r x1.m 15 = true ∧ expX sq.ttl x2.r x2.m 15 = true := by decide +kernel
theorem ex_e2 : expX sq.ttl x1.r x1.m 14 = false ∧ expX sq.ttl x2.r x2.m 14 = false := by decide +kernel
theorem ex_g15 : goneQ sq 15 [x2, x1] = [x2, x1] := by
  unfold goneQ
  rw [List.filter_cons, List.filter_cons, ex_e1.1, ex_e1.2]
  rfl
theorem ex_l15 : leftQ sq 15 [x2, x1] = [] := by
  unfold leftQ
  rw [List.filter_cons, List.filter_cons, ex_e1.1, ex_e1.2]
  rfl
theorem ex_g14 : goneQ sq 14 [x2, x1] = [] := by
  unfold goneQ
  rw [List.filter_cons, List.filter_cons, ex_e2.1, ex_e2.2]
  rfl
theorem ex_l14 : leftQ sq 14 [x2, x1] = [x2, x1] := by
  unfold leftQ
  rw [List.filter_cons, List.filter_cons, ex_e2.1, ex_e2.2]
  rfl
theorem ex_v : validR sq 3 [x2, x1] = 0 := by decide +kernel
theorem ex_c : specR sq = 0 := by decide +kernel
theorem len_map {ys : List EE} {L : List En} (h : ys.map EE.x = L) : ys.length = L.length := by rw [← h, List.length_map]
theorem props0 {ys : List EE} {L : List En} (h : ys.map EE.x = L) (hL : ∀ x ∈ L, x.m.props.length ≤ 4398046511104) : ∀ y ∈ ys, y.x.m.props.length ≤ 4398046511104 := fun y hy => hL y.x (by rw [← h]; exact List.mem_map_of_mem hy)
theorem ex_p1 : ∀ x ∈ [x1], x.m.props.length ≤ 4398046511104 := fun x hx => by simp at hx; subst hx; exact Nat.zero_le _
theorem ex_p2 : ∀ x ∈ [x2, x1], x.m.props.length ≤ 4398046511104 := fun x hx => by
  simp at hx
  rcases hx with rfl | rfl <;> exact Nat.zero_le _
theorem ex_t2 {ys : List EE} (h : ys.map EE.x = [x2, x1]) : ∀ y ∈ ys, 0 ≤ y.x.r ∧ y.x.r ≤ 1099511627776 := fun y hy => by
  have h1 : y.x ∈ [x2, x1] := by rw [← h]; exact List.mem_map_of_mem hy
  simp at h1
  rcases h1 with h1 | h1 <;> rw [h1] <;> exact ⟨by decide, by decide⟩

theorem exNew (w : World) : Calls Tryd.prog 17 #[spV sq] w (RetQ sq 1 [] 0 w) := by
  have h := qNew_any sq w ⟨by decide, by decide⟩
  rw [ex_c] at h
  exact h
theorem exPush1 (A : Option Addr) (c : Nat) (ys : List EE) (w : World) (hw : S1.Okw w) (hys : ys.map EE.x = []) : Calls Tryd.prog 11 #[quV sq 1 (.slice A ys.length c), msgV (mq 0) none 0, .int .i64 5] w (RetQ sq 2 [x1] 0 w) := by
  have h0 : ys = [] := List.map_eq_nil_iff.1 hys
  subst h0
  have h := qPush_any sq 1 A c [] (mq 0) none 0 5 w hw (LI.nil _ _ _) (GL.nil _ _ _) List.Pairwise.nil (by decide) (fun y hy => by cases hy) (by decide)
  rw [show (([] : List EE).length) = 0 from rfl, ex_k1, show (([] : List EE).map EE.x) = [] from rfl, ex_ins1] at h
  exact h
theorem exPush2 (A : Option Addr) (c : Nat) (ys : List EE) (w : World) (hw : S1.Okw w) (hsl : EI w w.heap.size A ys) (hys : ys.map EE.x = [x1]) : Calls Tryd.prog 11 #[quV sq 2 (.slice A ys.length c), msgV (mq 4) none 0, .int .i64 5] w (RetQ sq 3 [x2, x1] 0 w) := by
  have h := qPush_any sq 2 A c ys (mq 4) none 0 5 w hw hsl (GL.nil _ _ _) (by rw [hys]; exact ex_s1) (by rw [len_map hys]; decide) (props0 hys ex_p1) (by decide)
  rw [hys, ex_ins2] at h
  have hk : pushK sq 2 ys.length (mq 4) 5 = 0 := by rw [len_map hys]; exact ex_k2
  rw [hk] at h
  exact h
theorem exPush3 (A : Option Addr) (c : Nat) (ys : List EE) (w : World) (hw : S1.Okw w) (hsl : EI w w.heap.size A ys) (hys : ys.map EE.x = [x2, x1]) : Calls Tryd.prog 11 #[quV sq 3 (.slice A ys.length c), msgV (mq 9) none 0, .int .i64 5] w (RetQ Sp.zero 0 [] 6 w) := by
  have h := qPush_any sq 3 A c ys (mq 9) none 0 5 w hw hsl (GL.nil _ _ _) (by rw [hys]; exact ex_s2) (by rw [len_map hys]; decide) (props0 hys ex_p2) (by decide)
  have hk : pushK sq 3 ys.length (mq 9) 5 = 6 := by rw [len_map hys]; exact ex_k3
  rw [hk] at h
  exact h
theorem exPop (A : Option Addr) (c : Nat) (ys : List EE) (w : World) (hsl : EI w w.heap.size A ys) (hc : ys.length ≤ c) (hys : ys.map EE.x = [x2, x1]) : Calls Tryd.prog 15 #[quV sq 3 (.slice A ys.length c)] w (RetP sq 3 x2 [x1] w) := by
  obtain ⟨y, r, rfl⟩ : ∃ y r, ys = y :: r := by
    cases ys with
    | nil => cases hys
    | cons y r => exact ⟨y, r, rfl⟩
  have hy : y.x = x2 := by simp at hys; exact hys.1
  have h := qPop_any sq 3 A c (y :: r) y w hsl rfl hc (by rw [len_map hys]; decide) (props0 hys ex_p2)
  rw [hys, hy] at h
  exact h
theorem exRet1 (A : Option Addr) (c : Nat) (ys : List EE) (a : Option Addr) (ac : Nat) (w : World) (hw : S1.Okw w) (hsl : EI w w.heap.size A ys) (hx : PL w w.heap.size a x2.m.props) (hys : ys.map EE.x = [x1]) : Calls Tryd.prog 13 #[quV sq 3 (.slice A ys.length c), enW x2 a ac] w (RetQ sq 3 [x2, x1] 0 w) := by
  have h := qReturn_any sq 3 A c ys x2 a ac w hw hsl hx (by rw [hys]; exact ex_s1) (by rw [len_map hys]; decide) (props0 hys ex_p1) (by decide)
  rw [hys, ex_ins3, ex_r1] at h
  exact h
theorem exRet2 (A : Option Addr) (c : Nat) (ys : List EE) (a : Option Addr) (ac : Nat) (w : World) (hw : S1.Okw w) (hsl : EI w w.heap.size A ys) (hx : PL w w.heap.size a x2.m.props) (hys : ys.map EE.x = [x2, x1]) : Calls Tryd.prog 13 #[quV sq 3 (.slice A ys.length c), enW x2 a ac] w (RetQ Sp.zero 0 [] 7 w) := by
  have h := qReturn_any sq 3 A c ys x2 a ac w hw hsl hx (by rw [hys]; exact ex_s2) (by rw [len_map hys]; decide) (props0 hys ex_p2) (by decide)
  rw [hys, ex_r2] at h
  exact h
theorem exExp15 (A : Option Addr) (c : Nat) (ys : List EE) (w : World) (hsl : EI w w.heap.size A ys) (hys : ys.map EE.x = [x2, x1]) : Calls Tryd.prog 14 #[quV sq 3 (.slice A ys.length c), .int .i64 15] w (RetX sq 3 [x2, x1] [] w) := by
  have h := qExpire_any sq 3 A c ys 15 w hsl (by rw [len_map hys]; decide) (props0 hys ex_p2) (by decide) (ex_t2 hys)
  rw [hys, ex_g15, ex_l15] at h
  exact h
theorem exExp14 (A : Option Addr) (c : Nat) (ys : List EE) (w : World) (hsl : EI w w.heap.size A ys) (hys : ys.map EE.x = [x2, x1]) : Calls Tryd.prog 14 #[quV sq 3 (.slice A ys.length c), .int .i64 14] w (RetX sq 3 [] [x2, x1] w) := by
  have h := qExpire_any sq 3 A c ys 14 w hsl (by rw [len_map hys]; decide) (props0 hys ex_p2) (by decide) (ex_t2 hys)
  rw [hys, ex_g14, ex_l14] at h
  exact h
theorem exSame (A : Option Addr) (c : Nat) (xs : List EE) (A' : Option Addr) (c' : Nat) (ys : List EE) (w : World) (hx : EI w w.heap.size A xs) (hy : EI w w.heap.size A' ys) (hxs : xs.map EE.x = [x2, x1]) (hys : ys.map EE.x = [x2, x1]) : Calls Tryd.prog 16 #[quV sq 3 (.slice A xs.length c), quV sq 3 (.slice A' ys.length c')] w fun e w' => e = .returned (.bool true) ∧ Below w.heap.size w w' := by
  have h := rSameQ_any sq sq 3 3 A c xs A' c' ys w hx hy (by rw [len_map hxs]; decide) (props0 hxs ex_p2)
  rw [decide_eq_true ⟨rfl, rfl, hxs.trans hys.symm⟩] at h
  exact h
theorem exValid (A : Option Addr) (c : Nat) (ys : List EE) (w : World) (hw : S1.Okw w) (hsl : EI w w.heap.size A ys) (hys : ys.map EE.x = [x2, x1]) : Calls Tryd.prog 22 #[quV sq 3 (.slice A ys.length c)] w fun e w' => e = .returned (.int .i64 0) ∧ Below w.heap.size w w' := by
  have h := qValid_any sq 3 A c ys w hw hsl ⟨by decide, by decide⟩ (by rw [len_map hys]; decide)
  rw [hys, ex_v] at h
  exact h
end Go.Proofs.YtjhojpghllnoiaaDoor
