/-
  What Check of queue and of brokerref25, isName, expired and Reason of dead and of its reference answer. Conditions: instants and times to live within their ranges; texts fit.
-/
import Derived.Test.YtjhojpghllnoiaaDoorDzP
import Derived.Test.YtjhojpghllnoiaaDoorLx
import Derived.Test.YtjhojpghllnoiaaDoorTopic
import Derived.Test.YtjhojpghllnoiaaDoorCheck
import Derived.Test.YtjhojpghllnoiaaDoorSame
namespace Go.Proofs.YtjhojpghllnoiaaDoor
open Go.RowKit
open S2 (BK Put)

theorem bk_new1 (w : World) (o : Obj) (T : TypeId) (vs : List Value) : BK T ((w.alloc o).alloc (.cells vs.toArray T)) (w.heap.size + 1) vs := by
  have h := BK.new (w.alloc o) T vs
  have e : (w.alloc o).heap.size = w.heap.size + 1 := by simp
  rwa [e] at h
theorem rName_b (s : ByteArray) (w : World) (hs : s.size ≤ 9223372036854775807) : Calls Tryd.prog 42 #[.string s] w fun e w' => e = .returned (.bool (S1.T.nameL s.data.toList)) ∧ Below w.heap.size w w' :=
  (S1.rName_any s w hs).mono fun _ _ h => ⟨h.1, by rw [← h.2]; exact Below.refl _ _⟩
/-- a queue's description -/
structure Sp where
  name : ByteArray
  max : Int
  ttl : Int
  att : Int
  dead : ByteArray
abbrev spC (s : Sp) : List Value := [.string s.name, .int .i64 s.max, .int .i64 s.ttl, .int .i64 s.att, .string s.dead]
def spV (s : Sp) : Value := .agg (spC s).toArray
abbrev enC (k r t : Int) (m : Msg) (a : Option Addr) (c : Nat) : List Value := [.int .i64 k, .int .i64 r, .int .i64 t, .string m.topic, .string m.payload, .int .i64 m.level, .bool m.retain, .int .i64 m.prio, .int .i64 m.exps, .string m.frm, .int .i64 m.seq, .slice a m.props.length c]
def enV (k r t : Int) (m : Msg) (a : Option Addr) (c : Nat) : Value := .agg (enC k r t m a c).toArray
theorem enC_msg (k r t : Int) (m : Msg) (a : Option Addr) (c : Nat) : ((enC k r t m a c).drop 3).take 9 = msgC m a c := rfl
/-- the message of an entry in a block of its own -/
theorem load_en_msg {w : World} {g : Nat} {k r t : Int} {m : Msg} {a : Option Addr} {c : Nat} (h : BK 34 w g (enC k r t m a c)) : (loadVar 32 ⟨g, 3, none⟩).run Tryd.prog w = .ok (msgV m a c) w :=
  run_load_cells w g 3 (msgC m a c) 32 _ (fun i v hv => by
    refine h.cell (3 + i) ?_
    rw [← enC_msg k r t, List.getElem?_take] at hv
    split at hv
    · rwa [List.getElem?_drop] at hv
    · cases hv) Tryd.underlying32 rfl msgSize
theorem load_en {w : World} {g : Nat} {k r t : Int} {m : Msg} {a : Option Addr} {c : Nat} (h : BK 34 w g (enC k r t m a c)) : (loadVar 34 ⟨g, 0, none⟩).run Tryd.prog w = .ok (enV k r t m a c) w := S2.run_load_all h Tryd.underlying34 rfl (by kernel_rfl)
theorem load_sp {w : World} {g : Nat} {s : Sp} (h : BK 23 w g (spC s)) : (loadVar 23 ⟨g, 0, none⟩).run Tryd.prog w = .ok (spV s) w := S2.run_load_all h Tryd.underlying23 rfl (by kernel_rfl)
/-- the first error of a description -/
def inR (n a b : Int) : Bool := decide (a ≤ n) && decide (n ≤ b)
def specR (s : Sp) : Nat := if nameR s.name = false then 11 else if inR s.max 1 256 = false ∨ inR s.ttl 0 1099511627776 = false ∨ inR s.att 0 1099511627776 = false then 1 else if s.dead ≠ ⟨#[]⟩ ∧ nameR s.dead = false then 11 else 0
theorem inR_iff {n a b : Int} : inR n a b = true ↔ a ≤ n ∧ n ≤ b := by unfold inR; simp
theorem specR_parts {s : Sp} (h : specR s = 0) : nameR s.name = true ∧ (1 ≤ s.max ∧ s.max ≤ 256) ∧ (0 ≤ s.ttl ∧ s.ttl ≤ 1099511627776) ∧ (0 ≤ s.att ∧ s.att ≤ 1099511627776) := by
  unfold specR at h
  split at h
  · cases h
  rename_i h1
  split at h
  · cases h
  rename_i h2
  have h3 : ∀ b : Bool, ¬ b = false → b = true := fun b hb => by cases b <;> simp_all
  exact ⟨h3 _ h1, inR_iff.1 (h3 _ fun e => h2 (.inl e)), inR_iff.1 (h3 _ fun e => h2 (.inr (.inl e))), inR_iff.1 (h3 _ fun e => h2 (.inr (.inr e)))⟩
theorem specR_name (s : ByteArray) : specR ⟨s, 1, 0, 0, ⟨#[]⟩⟩ = if nameR s = true then 0 else 11 := by
  unfold specR
  cases nameR s <;> simp [inR]
def expX (ttl arr : Int) (m : Msg) (now : Int) : Bool := (decide (ttl ≠ 0) && decide (arr + ttl ≤ now)) || expiredR m now
def reasonR (s : Sp) (arr att : Int) (m : Msg) (now : Int) : Int := if s.att ≠ 0 ∧ s.att ≤ att then 4 else if expX s.ttl arr m now = true then 2 else 0

theorem qWithin_any (n a b : Int) (w : World) : Calls Tryd.prog 29 #[.int .i64 n, .int .i64 a, .int .i64 b] w fun e w' => e = .returned (.bool (inR n a b)) ∧ Below w.heap.size w w' := by
  unfold inR
  have g1 : ∀ x y : Int, decide (x ≥ y) = decide (y ≤ x) := fun _ _ => rfl
  cases h1 : decide (a ≤ n)
  all_goals
    cases h2 : decide (n ≤ b)
    all_goals
      go_enter Tryd.func29, Tryd.ntmps29
      go_wp2
      go_ret
      exact ⟨rfl, Below.refl _ _⟩

theorem rIn_any (n a b : Int) (w : World) : Calls Tryd.prog 31 #[.int .i64 n, .int .i64 a, .int .i64 b] w fun e w' => e = .returned (.bool (inR n a b)) ∧ Below w.heap.size w w' := by
  unfold inR
  have g1 : ∀ x y : Int, decide (x ≥ y) = decide (y ≤ x) := fun _ _ => rfl
  cases h1 : decide (a ≤ n)
  all_goals
    cases h2 : decide (n ≤ b)
    all_goals
      go_enter Tryd.func31, Tryd.ntmps31
      go_wp2
      go_ret
      exact ⟨rfl, Below.refl _ _⟩

set_option maxHeartbeats 2000000 in
theorem qCheck_any (s : Sp) (w : World) (hz : s.name.size ≤ 9223372036854775807 ∧ s.dead.size ≤ 9223372036854775807) : Calls Tryd.prog 40 #[spV s] w fun e w' => e = .returned (.int .i64 (specR s : Nat)) ∧ Below w.heap.size w w' := by
  obtain ⟨sn, sm, st, sa, sd⟩ := s
  have HN := Lib.hid (fun w1 => S1.tName_any sn w1)
  have HD := Lib.hid (fun w1 => S1.tName_any sd w1)
  have HM := Lib.hid (fun w1 => qWithin_any sm 1 256 w1)
  have HT := Lib.hid (fun w1 => qWithin_any st 0 1099511627776 w1)
  have HA := Lib.hid (fun w1 => qWithin_any sa 0 1099511627776 w1)
  obtain ⟨R, hR⟩ : ∃ R, specR ⟨sn, sm, st, sa, sd⟩ = R := ⟨_, rfl⟩
  rw [hR]
  unfold specR nameR at hR
  simp only at hR
  obtain ⟨b1, hb1⟩ : ∃ b, S1.T.nameL sn.data.toList = b := ⟨_, rfl⟩
  obtain ⟨b2, hb2⟩ : ∃ b, inR sm 1 256 = b := ⟨_, rfl⟩
  obtain ⟨b3, hb3⟩ : ∃ b, inR st 0 1099511627776 = b := ⟨_, rfl⟩
  obtain ⟨b4, hb4⟩ : ∃ b, inR sa 0 1099511627776 = b := ⟨_, rfl⟩
  obtain ⟨b5, hb5⟩ : ∃ b, S1.T.nameL sd.data.toList = b := ⟨_, rfl⟩
  rw [hb1, hb2, hb3, hb4, hb5] at hR
  rw [hb1] at HN
  rw [hb2] at HM
  rw [hb3] at HT
  rw [hb4] at HA
  rw [hb5] at HD
  have hde : sd = ⟨#[]⟩ → sd.toList.isEmpty = true := fun h => str_none h
  have hdn : sd ≠ ⟨#[]⟩ → sd.toList.isEmpty = false := fun h => str_some h
  have HDE := Lib.hid hde
  have HDN := Lib.hid hdn
  have HR := Lib.hid hR
  clear hb1 hb2 hb3 hb4 hb5 hz hR hde hdn
  unfold spV spC
  go_enter Tryd.func40, Tryd.ntmps40
  go_upto_region 1 with fail
  refine name_world (C := fun w1 => Code.wp _ _ _ _ w1) (w.alloc (.cells (spC ⟨sn, sm, st, sa, sd⟩).toArray 23)) ?_
  intro w1 hw1
  have hb1 : Below w.heap.size w w1 := by rw [hw1]; exact S2.below_new w _
  have V_w1 : Hid (BK 23 w1 w.heap.size (spC ⟨sn, sm, st, sa, sd⟩)) := Lib.hid (by rw [hw1]; exact BK.new w _ _)
  have B_w1 := Lib.hid hb1
  clear hw1 hb1
  have d0 := V_w1.out.cell 0 rfl
  go_wp2_with fail
  refine (HN.out w1).mono ?_
  rintro e w2 ⟨rfl, hb⟩
  have V_w2 : Hid (BK 23 w2 w.heap.size (spC ⟨sn, sm, st, sa, sd⟩)) := Lib.hid (V_w1.out.step hb)
  have B_w2 := Lib.hid (stepB B_w1.out hb)
  clear hb d0
  have d1 := V_w2.out.cell 1 rfl
  cases b1 with
  | false =>
    obtain rfl : R = 11 := by rw [← HR.out]; simp
    go_wp2
    go_ret
    exact ⟨rfl, B_w2.out⟩
  | true =>
    go_wp2_with fail
    refine (HM.out w2).mono ?_
    rintro e w3 ⟨rfl, hb⟩
    have V_w3 : Hid (BK 23 w3 w.heap.size (spC ⟨sn, sm, st, sa, sd⟩)) := Lib.hid (V_w2.out.step hb)
    have B_w3 := Lib.hid (stepB B_w2.out hb)
    clear hb d1
    have d2 := V_w3.out.cell 2 rfl
    cases b2 with
    | false =>
      obtain rfl : R = 1 := by rw [← HR.out]; simp
      go_wp2
      go_ret
      exact ⟨rfl, B_w3.out⟩
    | true =>
      go_wp2_with fail
      refine (HT.out w3).mono ?_
      rintro e w4 ⟨rfl, hb⟩
      have V_w4 : Hid (BK 23 w4 w.heap.size (spC ⟨sn, sm, st, sa, sd⟩)) := Lib.hid (V_w3.out.step hb)
      have B_w4 := Lib.hid (stepB B_w3.out hb)
      clear hb d2
      have d3 := V_w4.out.cell 3 rfl
      cases b3 with
      | false =>
        obtain rfl : R = 1 := by rw [← HR.out]; simp
        go_wp2
        go_ret
        exact ⟨rfl, B_w4.out⟩
      | true =>
        go_wp2_with fail
        refine (HA.out w4).mono ?_
        rintro e w5 ⟨rfl, hb⟩
        have V_w5 : Hid (BK 23 w5 w.heap.size (spC ⟨sn, sm, st, sa, sd⟩)) := Lib.hid (V_w4.out.step hb)
        have B_w5 := Lib.hid (stepB B_w4.out hb)
        clear hb d3
        have d4 := V_w5.out.cell 4 rfl
        cases b4 with
        | false =>
          obtain rfl : R = 1 := by rw [← HR.out]; simp
          go_wp2
          go_ret
          exact ⟨rfl, B_w5.out⟩
        | true =>
          by_cases he : sd = ⟨#[]⟩
          · have q1 := HDE.out he
            have q2 : R = 0 := by rw [← HR.out]; simp [he]
            clear he
            subst q2
            go_wp2
            go_ret
            exact ⟨rfl, B_w5.out⟩
          have q1 := HDN.out he
          have HE := Lib.hid he
          clear he
          go_wp2_with fail
          refine (HD.out w5).mono ?_
          rintro e w6 ⟨rfl, hb⟩
          have V_w6 : Hid (BK 23 w6 w.heap.size (spC ⟨sn, sm, st, sa, sd⟩)) := Lib.hid (V_w5.out.step hb)
          have B_w6 := Lib.hid (stepB B_w5.out hb)
          clear hb
          cases b5 with
          | false =>
            obtain rfl : R = 11 := by rw [← HR.out]; simp [HE.out]
            go_wp2
            go_ret
            exact ⟨rfl, B_w6.out⟩
          | true =>
            obtain rfl : R = 0 := by rw [← HR.out]; simp
            go_wp2
            go_ret
            exact ⟨rfl, B_w6.out⟩

set_option maxHeartbeats 2000000 in
theorem rqCheck_any (s : Sp) (w : World) (hz : s.name.size ≤ 9223372036854775807 ∧ s.dead.size ≤ 9223372036854775807) : Calls Tryd.prog 20 #[spV s] w fun e w' => e = .returned (.int .i64 (specR s : Nat)) ∧ Below w.heap.size w w' := by
  obtain ⟨sn, sm, st, sa, sd⟩ := s
  have HN := Lib.hid (fun w1 => rName_b sn w1 hz.1)
  have HD := Lib.hid (fun w1 => rName_b sd w1 hz.2)
  have HM := Lib.hid (fun w1 => rIn_any sm 1 256 w1)
  have HT := Lib.hid (fun w1 => rIn_any st 0 1099511627776 w1)
  have HA := Lib.hid (fun w1 => rIn_any sa 0 1099511627776 w1)
  obtain ⟨R, hR⟩ : ∃ R, specR ⟨sn, sm, st, sa, sd⟩ = R := ⟨_, rfl⟩
  rw [hR]
  unfold specR nameR at hR
  simp only at hR
  obtain ⟨b1, hb1⟩ : ∃ b, S1.T.nameL sn.data.toList = b := ⟨_, rfl⟩
  obtain ⟨b2, hb2⟩ : ∃ b, inR sm 1 256 = b := ⟨_, rfl⟩
  obtain ⟨b3, hb3⟩ : ∃ b, inR st 0 1099511627776 = b := ⟨_, rfl⟩
  obtain ⟨b4, hb4⟩ : ∃ b, inR sa 0 1099511627776 = b := ⟨_, rfl⟩
  obtain ⟨b5, hb5⟩ : ∃ b, S1.T.nameL sd.data.toList = b := ⟨_, rfl⟩
  rw [hb1, hb2, hb3, hb4, hb5] at hR
  rw [hb1] at HN
  rw [hb2] at HM
  rw [hb3] at HT
  rw [hb4] at HA
  rw [hb5] at HD
  have hde : sd = ⟨#[]⟩ → sd.toList.isEmpty = true := fun h => str_none h
  have hdn : sd ≠ ⟨#[]⟩ → sd.toList.isEmpty = false := fun h => str_some h
  have HDE := Lib.hid hde
  have HDN := Lib.hid hdn
  have HR := Lib.hid hR
  clear hb1 hb2 hb3 hb4 hb5 hz hR hde hdn
  unfold spV spC
  go_enter Tryd.func20, Tryd.ntmps20
  go_upto_region 1 with fail
  refine name_world (C := fun w1 => Code.wp _ _ _ _ w1) (w.alloc (.cells (spC ⟨sn, sm, st, sa, sd⟩).toArray 23)) ?_
  intro w1 hw1
  have hb1 : Below w.heap.size w w1 := by rw [hw1]; exact S2.below_new w _
  have V_w1 : Hid (BK 23 w1 w.heap.size (spC ⟨sn, sm, st, sa, sd⟩)) := Lib.hid (by rw [hw1]; exact BK.new w _ _)
  have B_w1 := Lib.hid hb1
  clear hw1 hb1
  have d0 := V_w1.out.cell 0 rfl
  go_wp2_with fail
  refine (HN.out w1).mono ?_
  rintro e w2 ⟨rfl, hb⟩
  have V_w2 : Hid (BK 23 w2 w.heap.size (spC ⟨sn, sm, st, sa, sd⟩)) := Lib.hid (V_w1.out.step hb)
  have B_w2 := Lib.hid (stepB B_w1.out hb)
  clear hb d0
  have d1 := V_w2.out.cell 1 rfl
  cases b1 with
  | false =>
    obtain rfl : R = 11 := by rw [← HR.out]; simp
    go_wp2
    go_ret
    exact ⟨rfl, B_w2.out⟩
  | true =>
    go_wp2_with fail
    refine (HM.out w2).mono ?_
    rintro e w3 ⟨rfl, hb⟩
    have V_w3 : Hid (BK 23 w3 w.heap.size (spC ⟨sn, sm, st, sa, sd⟩)) := Lib.hid (V_w2.out.step hb)
    have B_w3 := Lib.hid (stepB B_w2.out hb)
    clear hb d1
    have d2 := V_w3.out.cell 2 rfl
    cases b2 with
    | false =>
      obtain rfl : R = 1 := by rw [← HR.out]; simp
      go_wp2
      go_ret
      exact ⟨rfl, B_w3.out⟩
    | true =>
      go_wp2_with fail
      refine (HT.out w3).mono ?_
      rintro e w4 ⟨rfl, hb⟩
      have V_w4 : Hid (BK 23 w4 w.heap.size (spC ⟨sn, sm, st, sa, sd⟩)) := Lib.hid (V_w3.out.step hb)
      have B_w4 := Lib.hid (stepB B_w3.out hb)
      clear hb d2
      have d3 := V_w4.out.cell 3 rfl
      cases b3 with
      | false =>
        obtain rfl : R = 1 := by rw [← HR.out]; simp
        go_wp2
        go_ret
        exact ⟨rfl, B_w4.out⟩
      | true =>
        go_wp2_with fail
        refine (HA.out w4).mono ?_
        rintro e w5 ⟨rfl, hb⟩
        have V_w5 : Hid (BK 23 w5 w.heap.size (spC ⟨sn, sm, st, sa, sd⟩)) := Lib.hid (V_w4.out.step hb)
        have B_w5 := Lib.hid (stepB B_w4.out hb)
        clear hb d3
        have d4 := V_w5.out.cell 4 rfl
        cases b4 with
        | false =>
          obtain rfl : R = 1 := by rw [← HR.out]; simp
          go_wp2
          go_ret
          exact ⟨rfl, B_w5.out⟩
        | true =>
          by_cases he : sd = ⟨#[]⟩
          · have q1 := HDE.out he
            have q2 : R = 0 := by rw [← HR.out]; simp [he]
            clear he
            subst q2
            go_wp2
            go_ret
            exact ⟨rfl, B_w5.out⟩
          have q1 := HDN.out he
          have HE := Lib.hid he
          clear he
          go_wp2_with fail
          refine (HD.out w5).mono ?_
          rintro e w6 ⟨rfl, hb⟩
          have V_w6 : Hid (BK 23 w6 w.heap.size (spC ⟨sn, sm, st, sa, sd⟩)) := Lib.hid (V_w5.out.step hb)
          have B_w6 := Lib.hid (stepB B_w5.out hb)
          clear hb
          cases b5 with
          | false =>
            obtain rfl : R = 11 := by rw [← HR.out]; simp [HE.out]
            go_wp2
            go_ret
            exact ⟨rfl, B_w6.out⟩
          | true =>
            obtain rfl : R = 0 := by rw [← HR.out]; simp
            go_wp2
            go_ret
            exact ⟨rfl, B_w6.out⟩

set_option maxHeartbeats 2000000 in
theorem rqExpired_any (s : Sp) (k r t : Int) (m : Msg) (a : Option Addr) (c : Nat) (now : Int) (w : World) (hs : 0 ≤ s.ttl ∧ s.ttl ≤ 1099511627776) (ha : 0 ≤ r ∧ r ≤ 1099511627776) :
    Calls Tryd.prog 48 #[spV s, enV k r t m a c, .int .i64 now] w fun e w' => e = .returned (.bool (expX s.ttl r m now)) ∧ Below w.heap.size w w' := by
  have HX := Lib.hid (fun w1 => rExpired_any m a c now w1)
  obtain ⟨sn, sm, st, sa, sd⟩ := s
  simp only at hs ⊢
  have hw : wrap64 (r + st) = r + st := wrap64_id _ (by omega) (by omega)
  have g1 : ∀ x y : Int, decide (x ≥ y) = decide (y ≤ x) := fun _ _ => rfl
  obtain ⟨R, hR⟩ : ∃ R, expX st r m now = R := ⟨_, rfl⟩
  rw [hR]
  unfold expX at hR
  obtain ⟨b1, hb1⟩ : ∃ b, expiredR m now = b := ⟨_, rfl⟩
  rw [hb1] at HX hR
  have HR := Lib.hid hR
  clear hs ha hR hb1
  unfold spV spC enV enC
  simp only
  unfold msgV at HX
  go_enter Tryd.func48, Tryd.ntmps48
  go_upto_region 1 with fail
  refine name_world (C := fun w1 => Code.wp _ _ _ _ w1) ((w.alloc (.cells (spC ⟨sn, sm, st, sa, sd⟩).toArray 23)).alloc (.cells (enC k r t m a c).toArray 34)) ?_
  intro w1 hw1
  have hb1 : Below w.heap.size w w1 := by rw [hw1]; exact stepB (S2.below_new w _) (S2.below_new _ _)
  have V_w1 : Hid (BK 23 w1 w.heap.size (spC ⟨sn, sm, st, sa, sd⟩)) := Lib.hid (by rw [hw1]; exact BK.alloc (BK.new w _ _) _)
  have E_w1 : Hid (BK 34 w1 (w.heap.size + 1) (enC k r t m a c)) := Lib.hid (by rw [hw1]; exact bk_new1 w _ _ _)
  have B_w1 := Lib.hid hb1
  clear hw1 hb1
  have d0 := V_w1.out.cell 2 rfl
  have d1 := E_w1.out.cell 1 rfl
  have HLM := Lib.hid (load_en_msg E_w1.out)
  unfold msgV at HLM
  by_cases h0 : st = 0
  · have q0 : (st != 0) = false := by rw [h0]; rfl
    obtain rfl : R = b1 := by rw [← HR.out, h0]; simp
    clear h0 hw
    go_wp2_with first
      | (refine wpList_load_v (by rfl) 32 _ rfl ⟨w.heap.size + 1, 3, none⟩ (by first | rfl | go_simp) _ HLM.out ?_)
    refine (HX.out w1).mono ?_
    rintro e w2 ⟨rfl, hb⟩
    have B_w2 := Lib.hid (stepB B_w1.out hb)
    clear hb d0 d1
    go_wp2
    go_ret
    exact ⟨rfl, B_w2.out⟩
  have q0 : (st != 0) = true := by simp [h0]
  by_cases h1 : r + st ≤ now
  · have q1 : decide (r + st ≤ now) = true := decide_eq_true h1
    obtain rfl : R = true := by rw [← HR.out]; simp [h0, h1]
    clear h0 h1
    go_wp2
    go_ret
    exact ⟨rfl, B_w1.out⟩
  have q1 : decide (r + st ≤ now) = false := decide_eq_false h1
  obtain rfl : R = b1 := by rw [← HR.out]; simp [h0, h1]
  clear h0 h1
  go_wp2_with first
    | (refine wpList_load_v (by rfl) 32 _ rfl ⟨w.heap.size + 1, 3, none⟩ (by first | rfl | go_simp) _ HLM.out ?_)
  refine (HX.out w1).mono ?_
  rintro e w2 ⟨rfl, hb⟩
  have B_w2 := Lib.hid (stepB B_w1.out hb)
  clear hb d0 d1
  go_wp2
  go_ret
  exact ⟨rfl, B_w2.out⟩

end Go.Proofs.YtjhojpghllnoiaaDoor
