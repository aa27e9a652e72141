/-
  The walks of SlowPushes, SlowExpires and SlowEvicts. Conditions: the lists and the message read as data; their texts and lists fit a machine.
-/
import Derived.Test.YtgnbiicfabldbabSi
namespace Go.Proofs.Ytgnbiicfabldbab
open Go.RowKit
open S2 (BK Put)

/-- the lists and texts of a message fit a machine -/
def MOk (m : Msg) : Prop := m.props.length ≤ 4398046511104 ∧ m.payload.size ≤ 140737488355328
theorem push_mem {q : List Msg} {m : Msg} {mx pol : Int} {R : List Msg × List Msg × Bool} (h : pushR q m mx pol = R) : (∀ x ∈ R.1, x ∈ q ∨ x = m) ∧ (∀ x ∈ R.2.1, x ∈ q ∨ x = m) ∧ R.1.length ≤ q.length + 1 ∧ R.2.1.length ≤ 1 := by
  subst h
  unfold pushR
  split
  · exact ⟨(fun x hx => by simpa using hx), (fun x hx => by cases hx), by simp, by simp⟩
  · split
    · refine ⟨fun x hx => ?_, fun x hx => Or.inl (List.mem_of_mem_take hx), by simp <;> omega, by simp <;> omega⟩
      rcases List.mem_append.1 hx with hx | hx
      · exact Or.inl (List.mem_of_mem_drop hx)
      · exact Or.inr (by simpa using hx)
    · exact ⟨fun x hx => Or.inl hx, (fun x hx => Or.inr (by simpa using hx)), by simp, by simp⟩
theorem ok_of {L : List Msg} {ys : List ME} (h : ys.map ME.m = L) (hL : ∀ x ∈ L, MOk x) : ∀ y ∈ ys, y.m.props.length ≤ 4398046511104 := fun y hy => (hL y.m (by rw [← h]; exact List.mem_map_of_mem hy)).1
theorem len_of {L : List Msg} {ys : List ME} (h : ys.map ME.m = L) : ys.length = L.length := by rw [← h]; simp
/-- Same answers true for lists of equal content -/
theorem same_true (A : Option Addr) (c : Nat) (ys : List ME) (A' : Option Addr) (c' : Nat) (zs : List ME) (w : World) (L : List Msg) (hy : ys.map ME.m = L) (hz : zs.map ME.m = L) (h1 : MI w w.heap.size A ys) (h2 : MI w w.heap.size A' zs) (hl : L.length ≤ 100000) (hL : ∀ x ∈ L, MOk x) :
    Calls Try.prog 13 #[.slice A ys.length c, .slice A' zs.length c'] w fun e w' => e = .returned (.bool true) ∧ Below w.heap.size w w' := by
  have := rSameQ_any A c ys A' c' zs w h1 h2 (by rw [len_of hy]; exact hl) (ok_of hy hL)
  rwa [decide_eq_true (by rw [hy, hz])] at this

set_option maxRecDepth 20000 in
set_option maxHeartbeats 8000000 in
theorem slowPushes_walk17 (A : Option Addr) (c : Nat) (xs : List ME) (m : Msg) (am : Option Addr) (cm : Nat) (mx pol : Int) (w : World) (sl : MI w w.heap.size A xs) (hc : xs.length ≤ c) (hd : ∀ x ∈ xs, MOk x.m) (slm : PL w w.heap.size am m.props) (hdm : MOk m) :
    Calls Try.prog 3 #[.slice A xs.length c, msgV m am cm, .int .i64 mx, .int .i64 pol] w fun e w' => e = .returned (.bool true) ∧ Below w.heap.size w w' := by
  have HS := Lib.hid sl
  have HC := Lib.hid hc
  have HD := Lib.hid hd
  have HM := Lib.hid slm
  have HDM := Lib.hid hdm
  obtain ⟨R, hR⟩ : ∃ R, pushR (xs.map ME.m) m mx pol = R := ⟨_, rfl⟩
  have HP := Lib.hid (fun w1 h1 h2 (hf : xs.length ≤ 300) => sPush_any A c xs m am cm mx pol w1 h1 h2 hc (by omega) (fun x hx => (hd x hx).1) hdm.1)
  have HQ := Lib.hid (fun w1 h1 h2 (hf : xs.length ≤ 300) => rPushQ_any A c xs m am cm mx pol w1 h1 h2 hc (by omega))
  rw [hR] at HP HQ
  have HPM := Lib.hid (push_mem hR)
  have HR := Lib.hid hR
  clear sl hc hd slm hdm hR
  unfold msgV at HP HQ ⊢
  go_enter Try.func3, Try.ntmps3
  go_upto_region 1 with fail
  refine name_world (C := fun w1 => Code.wp _ _ _ _ w1) (w.alloc (.cells (msgC m am cm).toArray 25)) ?_
  intro w1 hw1
  have hb1 : Below w.heap.size w w1 := by rw [hw1]; exact S2.below_new w _
  have V_w1 : Hid (BK 25 w1 w.heap.size (msgC m am cm)) := Lib.hid (by rw [hw1]; exact BK.new w _ _)
  have B_w1 := Lib.hid hb1
  clear hw1 hb1
  by_cases hf : xs.length ≤ 300
  case neg =>
    have q1 : decide ((xs.length : Int) ≤ 300) = false := decide_eq_false (by omega)
    go_wp2_with fail
    refine (few_any A xs.length c w1).mono ?_
    rintro e w2 ⟨rfl, hb⟩
    have B_w2 := Lib.hid (stepB B_w1.out hb)
    clear hb B_w1 V_w1
    go_wp2_with fail
    refine (awake17_any w2).mono ?_
    rintro e w3 ⟨rfl, hb⟩
    have B_w3 := Lib.hid (stepB B_w2.out hb)
    clear hb B_w2
    go_wp2
    go_ret
    exact ⟨rfl, B_w3.out⟩
  have q1 : decide ((xs.length : Int) ≤ 300) = true := decide_eq_true (by omega)
  have HF := Lib.hid hf
  go_wp2_with fail
  refine (few_any A xs.length c w1).mono ?_
  rintro e w2 ⟨rfl, hb⟩
  have B_w2 := Lib.hid (stepB B_w1.out hb)
  have V_w2 := Lib.hid (V_w1.out.step hb)
  clear hb B_w1 V_w1
  go_wp2_with first
    | (refine wpList_load_v (by rfl) 25 (.tmp 5) rfl ⟨w.heap.size, 0, none⟩ rfl (.agg #[.string m.topic, .string m.payload, .int .i64 m.level, .bool m.retain, .int .i64 m.prio, .int .i64 m.exps, .string m.frm, .int .i64 m.seq, .slice am m.props.length cm]) (S2.run_load_all V_w2.out Try.underlying25 rfl msgSize) ?_)
  refine (HP.out w2 (HS.out.step B_w2.out) (GL.step HM.out B_w2.out) HF.out).mono ?_
  rintro e w3 ⟨A1, c1, ys, A2, c2, zs, rfl, hys, hzs, _, _, hl1, hl2, hb⟩
  have B_w3 := Lib.hid (stepB B_w2.out hb)
  have V_w3 := Lib.hid (V_w2.out.step hb)
  have Y_w3 := Lib.hid hl1
  have Z_w3 := Lib.hid hl2
  have HY := Lib.hid hys
  have HZ := Lib.hid hzs
  clear hb hl1 hl2 hys hzs B_w2 V_w2 HP
  go_wp2_with first
    | (refine wpList_load_v (by rfl) 25 (.tmp 5) rfl ⟨w.heap.size, 0, none⟩ rfl (.agg #[.string m.topic, .string m.payload, .int .i64 m.level, .bool m.retain, .int .i64 m.prio, .int .i64 m.exps, .string m.frm, .int .i64 m.seq, .slice am m.props.length cm]) (S2.run_load_all V_w3.out Try.underlying25 rfl msgSize) ?_)
  refine (HQ.out w3 (HS.out.step B_w3.out) (GL.step HM.out B_w3.out) HF.out).mono ?_
  rintro e w4 ⟨A3, c3, us, A4, c4, vs, rfl, hus, hvs, _, _, hl1, hl2, hb⟩
  have B_w4 := Lib.hid (stepB B_w3.out hb)
  have Y_w4 := Lib.hid (Y_w3.out.step hb)
  have Z_w4 := Lib.hid (Z_w3.out.step hb)
  have U_w4 := Lib.hid hl1
  have W_w4 := Lib.hid hl2
  have HU := Lib.hid hus
  have HV := Lib.hid hvs
  clear hb hl1 hl2 hus hvs B_w3 V_w3 Y_w3 Z_w3 HQ
  have HOK : Hid ((∀ x ∈ R.1, MOk x) ∧ (∀ x ∈ R.2.1, MOk x)) := Lib.hid (by
    have hq : ∀ x ∈ xs.map ME.m, MOk x := fun x hx => by
      obtain ⟨y, hy, rfl⟩ := List.mem_map.1 hx
      exact HD.out y hy
    exact ⟨fun x hx => (HPM.out.1 x hx).elim (hq x) (fun e => e ▸ HDM.out), fun x hx => (HPM.out.2.1 x hx).elim (hq x) (fun e => e ▸ HDM.out)⟩)
  have HLN : Hid (R.1.length ≤ 100000 ∧ R.2.1.length ≤ 100000) := Lib.hid (by have h1 := HPM.out.2.2.1; have h2 := HPM.out.2.2.2; rw [List.length_map] at h1; have := HF.out; omega)
  generalize R.2.2 = rb
  have q2 : (rb == rb) = true := by simp
  go_wp2_with fail
  refine (awake17_any w4).mono ?_
  rintro e w5 ⟨rfl, hb⟩
  have B_w5 := Lib.hid (stepB B_w4.out hb)
  have Y_w5 := Lib.hid (Y_w4.out.step hb)
  have Z_w5 := Lib.hid (Z_w4.out.step hb)
  have U_w5 := Lib.hid (U_w4.out.step hb)
  have W_w5 := Lib.hid (W_w4.out.step hb)
  clear hb B_w4 Y_w4 Z_w4 U_w4 W_w4
  go_wp2_with fail
  refine (same_true A1 c1 ys A3 c3 us w5 R.1 HY.out HU.out Y_w5.out U_w5.out HLN.out.1 HOK.out.1).mono ?_
  rintro e w6 ⟨rfl, hb⟩
  have B_w6 := Lib.hid (stepB B_w5.out hb)
  have Z_w6 := Lib.hid (Z_w5.out.step hb)
  have W_w6 := Lib.hid (W_w5.out.step hb)
  clear hb B_w5 Y_w5 Z_w5 U_w5 W_w5
  go_wp2_with fail
  refine (same_true A2 c2 zs A4 c4 vs w6 R.2.1 HZ.out HV.out Z_w6.out W_w6.out HLN.out.2 HOK.out.2).mono ?_
  rintro e w7 ⟨rfl, hb⟩
  have B_w7 := Lib.hid (stepB B_w6.out hb)
  clear hb B_w6 Z_w6 W_w6
  go_wp2
  go_ret
  exact ⟨rfl, B_w7.out⟩

theorem evict_facts {q : List Msg} {m : Msg} {mx pol : Int} {R : List Msg × List Msg × Bool} {n : Nat} (h : pushR q m mx pol = R) (hn : q.length = n) : (decide ((n : Int) < mx) = true → R.2.2 = false ∧ R.2.1.length = 0 ∧ R.1.length = n + 1) ∧ (decide ((n : Int) < mx) = false → R.2.2 = (pol == 3) ∧ R.2.1.length = 1 ∧ R.1.length = n) := by
  subst h hn
  unfold pushR
  refine ⟨fun h => ?_, fun h => ?_⟩
  · rw [if_pos (of_decide_eq_true h)]; exact ⟨rfl, rfl, by simp⟩
  · have h1 := of_decide_eq_false h
    rw [if_neg h1]
    split
    · next h2 =>
      obtain ⟨rfl, h3⟩ := h2
      exact ⟨rfl, by simp; omega, by simp; omega⟩
    · exact ⟨rfl, rfl, rfl⟩
set_option maxRecDepth 20000 in
set_option maxHeartbeats 8000000 in
theorem slowEvicts_walk17 (A : Option Addr) (c : Nat) (xs : List ME) (m : Msg) (am : Option Addr) (cm : Nat) (mx pol : Int) (w : World) (sl : MI w w.heap.size A xs) (hc : xs.length ≤ c) (hd : ∀ x ∈ xs, MOk x.m) (slm : PL w w.heap.size am m.props) (hdm : MOk m) :
    Calls Try.prog 8 #[.slice A xs.length c, msgV m am cm, .int .i64 mx, .int .i64 pol] w fun e w' => e = .returned (.bool true) ∧ Below w.heap.size w w' := by
  have HS := Lib.hid sl
  have HC := Lib.hid hc
  have HD := Lib.hid hd
  have HM := Lib.hid slm
  have HDM := Lib.hid hdm
  obtain ⟨R, hR⟩ : ∃ R, pushR (xs.map ME.m) m mx pol = R := ⟨_, rfl⟩
  have HP := Lib.hid (fun w1 h1 h2 (hf : xs.length ≤ 300) => sPush_any A c xs m am cm mx pol w1 h1 h2 hc (by omega) (fun x hx => (hd x hx).1) hdm.1)
  have HQ := Lib.hid (fun w1 h1 h2 (hf : xs.length ≤ 300) => rPushQ_any A c xs m am cm mx pol w1 h1 h2 hc (by omega))
  rw [hR] at HP HQ
  have HPM := Lib.hid (push_mem hR)
  have HR := Lib.hid hR
  clear sl hc hd slm hdm hR
  unfold msgV at HP HQ ⊢
  go_enter Try.func8, Try.ntmps8
  go_upto_region 1 with fail
  refine name_world (C := fun w1 => Code.wp _ _ _ _ w1) (w.alloc (.cells (msgC m am cm).toArray 25)) ?_
  intro w1 hw1
  have hb1 : Below w.heap.size w w1 := by rw [hw1]; exact S2.below_new w _
  have V_w1 : Hid (BK 25 w1 w.heap.size (msgC m am cm)) := Lib.hid (by rw [hw1]; exact BK.new w _ _)
  have B_w1 := Lib.hid hb1
  clear hw1 hb1
  by_cases hf : xs.length ≤ 300
  case neg =>
    have q1 : decide ((xs.length : Int) ≤ 300) = false := decide_eq_false (by omega)
    go_wp2_with fail
    refine (few_any A xs.length c w1).mono ?_
    rintro e w2 ⟨rfl, hb⟩
    have B_w2 := Lib.hid (stepB B_w1.out hb)
    clear hb B_w1 V_w1
    go_wp2_with fail
    refine (awake17_any w2).mono ?_
    rintro e w3 ⟨rfl, hb⟩
    have B_w3 := Lib.hid (stepB B_w2.out hb)
    clear hb B_w2
    go_wp2
    go_ret
    exact ⟨rfl, B_w3.out⟩
  have q1 : decide ((xs.length : Int) ≤ 300) = true := decide_eq_true (by omega)
  have HF := Lib.hid hf
  go_wp2_with fail
  refine (few_any A xs.length c w1).mono ?_
  rintro e w2 ⟨rfl, hb⟩
  have B_w2 := Lib.hid (stepB B_w1.out hb)
  have V_w2 := Lib.hid (V_w1.out.step hb)
  clear hb B_w1 V_w1
  go_wp2_with first
    | (refine wpList_load_v (by rfl) 25 (.tmp 5) rfl ⟨w.heap.size, 0, none⟩ rfl (.agg #[.string m.topic, .string m.payload, .int .i64 m.level, .bool m.retain, .int .i64 m.prio, .int .i64 m.exps, .string m.frm, .int .i64 m.seq, .slice am m.props.length cm]) (S2.run_load_all V_w2.out Try.underlying25 rfl msgSize) ?_)
  refine (HP.out w2 (HS.out.step B_w2.out) (GL.step HM.out B_w2.out) HF.out).mono ?_
  rintro e w3 ⟨A1, c1, ys, A2, c2, zs, rfl, hys, hzs, _, _, hl1, hl2, hb⟩
  have B_w3 := Lib.hid (stepB B_w2.out hb)
  have V_w3 := Lib.hid (V_w2.out.step hb)
  have Y_w3 := Lib.hid hl1
  have Z_w3 := Lib.hid hl2
  have HY := Lib.hid hys
  have HZ := Lib.hid hzs
  clear hb hl1 hl2 hys hzs B_w2 V_w2 HP
  have q2 : decide ((mx : Int) ≤ (xs.length : Int)) = !decide ((xs.length : Int) < mx) := by
    by_cases h : (xs.length : Int) < mx
    · rw [decide_eq_true h, decide_eq_false (by omega)]; rfl
    · rw [decide_eq_false h, decide_eq_true (by omega)]; rfl
  have HE : Hid ((decide ((xs.length : Int) < mx) = true → R.2.2 = false ∧ R.2.1.length = 0 ∧ R.1.length = xs.length + 1) ∧ (decide ((xs.length : Int) < mx) = false → R.2.2 = (pol == 3) ∧ R.2.1.length = 1 ∧ R.1.length = xs.length)) := Lib.hid (evict_facts (by have := HR.out; exact this) (by simp))
  have hly := len_of HY.out
  have hlz := len_of HZ.out
  have hf := HF.out
  generalize R.2.2 = rb at HE ⊢
  generalize R.1.length = n1 at HE hly
  generalize R.2.1.length = n2 at HE hlz
  rw [hly, hlz]
  clear hly hlz
  generalize hbm : decide ((xs.length : Int) < mx) = bm at q2 HE ⊢
  cases bm with
  | true =>
    obtain ⟨rfl, rfl, rfl⟩ := HE.out.1 rfl
    clear HE
    go_wp2_with fail
    refine (awake17_any w3).mono ?_
    rintro e w5 ⟨rfl, hb⟩
    have B_w5 := Lib.hid (stepB B_w3.out hb)
    clear hb
    go_wp2
    go_ret
    exact ⟨rfl, B_w5.out⟩
  | false =>
    obtain ⟨rfl, rfl, rfl⟩ := HE.out.2 rfl
    clear HE
    obtain ⟨bp, hbp⟩ : ∃ b, (pol == 3) = b := ⟨_, rfl⟩
    rw [hbp]
    go_wp2_with fail
    refine (awake17_any w3).mono ?_
    rintro e w5 ⟨rfl, hb⟩
    have B_w5 := Lib.hid (stepB B_w3.out hb)
    clear hb
    cases bp
    · go_wp2
      go_ret
      exact ⟨rfl, B_w5.out⟩
    · go_wp2
      go_ret
      exact ⟨rfl, B_w5.out⟩

set_option maxRecDepth 20000 in
set_option maxHeartbeats 8000000 in
theorem slowExpires_walk17 (A : Option Addr) (c : Nat) (xs : List ME) (now : Int) (w : World) (sl : MI w w.heap.size A xs) (_hc : xs.length ≤ c) (hd : ∀ x ∈ xs, MOk x.m) :
    Calls Try.prog 4 #[.slice A xs.length c, .int .i64 now] w fun e w' => e = .returned (.bool true) ∧ Below w.heap.size w w' := by
  have HS := Lib.hid sl
  have HD := Lib.hid hd
  obtain ⟨F, hF⟩ : ∃ F, freshR now (xs.map ME.m) = F := ⟨_, rfl⟩
  obtain ⟨G, hG⟩ : ∃ G, goneR now (xs.map ME.m) = G := ⟨_, rfl⟩
  have HP := Lib.hid (fun w1 h1 (hf : xs.length ≤ 300) => sExpire_any A c xs now w1 h1 (by omega) (fun x hx => (hd x hx).1))
  have HQ := Lib.hid (fun w1 h1 (hf : xs.length ≤ 300) => rExpireQ_any A c xs now w1 h1 (by omega) (fun x hx => (hd x hx).1))
  rw [hF, hG] at HP HQ
  have HOK : Hid ((∀ x ∈ F, MOk x) ∧ (∀ x ∈ G, MOk x)) := Lib.hid (by
    have hq : ∀ x ∈ xs.map ME.m, MOk x := fun x hx => by
      obtain ⟨y, hy, rfl⟩ := List.mem_map.1 hx
      exact hd y hy
    rw [← hF, ← hG]
    exact ⟨fun x hx => hq x (List.mem_filter.1 hx).1, fun x hx => hq x (List.mem_filter.1 hx).1⟩)
  have HLN : Hid (F.length ≤ xs.length ∧ G.length ≤ xs.length) := Lib.hid (by
    rw [← hF, ← hG]
    have h1 := List.length_filter_le (fun m => !expiredR m now) (xs.map ME.m)
    have h2 := List.length_filter_le (fun m => expiredR m now) (xs.map ME.m)
    rw [List.length_map] at h1 h2
    exact ⟨h1, h2⟩)
  clear sl hd hF hG
  go_enter Try.func4, Try.ntmps4
  by_cases hf : xs.length ≤ 300
  case neg =>
    have q1 : decide ((xs.length : Int) ≤ 300) = false := decide_eq_false (by omega)
    go_wp2_with fail
    refine (few_any A xs.length c w).mono ?_
    rintro e w2 ⟨rfl, hb⟩
    have B_w2 := Lib.hid (hb)
    clear hb
    go_wp2_with fail
    refine (awake17_any w2).mono ?_
    rintro e w3 ⟨rfl, hb⟩
    have B_w3 := Lib.hid (stepB B_w2.out hb)
    clear hb B_w2
    go_wp2
    go_ret
    exact ⟨rfl, B_w3.out⟩
  have q1 : decide ((xs.length : Int) ≤ 300) = true := decide_eq_true (by omega)
  have HF := Lib.hid hf
  go_wp2_with fail
  refine (few_any A xs.length c w).mono ?_
  rintro e w2 ⟨rfl, hb⟩
  have B_w2 := Lib.hid hb
  clear hb
  go_wp2_with fail
  refine (HP.out w2 (HS.out.step B_w2.out) HF.out).mono ?_
  rintro e w3 ⟨A1, c1, ys, A2, c2, zs, rfl, hys, hzs, _, _, hl1, hl2, hb⟩
  have B_w3 := Lib.hid (stepB B_w2.out hb)
  have Y_w3 := Lib.hid hl1
  have Z_w3 := Lib.hid hl2
  have HY := Lib.hid hys
  have HZ := Lib.hid hzs
  clear hb hl1 hl2 hys hzs B_w2 HP
  go_wp2_with fail
  refine (HQ.out w3 (HS.out.step B_w3.out) HF.out).mono ?_
  rintro e w4 ⟨A3, c3, us, A4, c4, vs, rfl, hus, hvs, _, _, hl1, hl2, hb⟩
  have B_w4 := Lib.hid (stepB B_w3.out hb)
  have Y_w4 := Lib.hid (Y_w3.out.step hb)
  have Z_w4 := Lib.hid (Z_w3.out.step hb)
  have U_w4 := Lib.hid hl1
  have W_w4 := Lib.hid hl2
  have HU := Lib.hid hus
  have HV := Lib.hid hvs
  clear hb hl1 hl2 hus hvs B_w3 Y_w3 Z_w3 HQ
  go_wp2_with fail
  refine (awake17_any w4).mono ?_
  rintro e w5 ⟨rfl, hb⟩
  have B_w5 := Lib.hid (stepB B_w4.out hb)
  have Y_w5 := Lib.hid (Y_w4.out.step hb)
  have Z_w5 := Lib.hid (Z_w4.out.step hb)
  have U_w5 := Lib.hid (U_w4.out.step hb)
  have W_w5 := Lib.hid (W_w4.out.step hb)
  clear hb B_w4 Y_w4 Z_w4 U_w4 W_w4
  go_wp2_with fail
  refine (same_true A1 c1 ys A3 c3 us w5 F HY.out HU.out Y_w5.out U_w5.out (by have := HLN.out.1; have := HF.out; omega) HOK.out.1).mono ?_
  rintro e w6 ⟨rfl, hb⟩
  have B_w6 := Lib.hid (stepB B_w5.out hb)
  have Z_w6 := Lib.hid (Z_w5.out.step hb)
  have W_w6 := Lib.hid (W_w5.out.step hb)
  clear hb B_w5 Y_w5 Z_w5 U_w5 W_w5
  go_wp2_with fail
  refine (same_true A2 c2 zs A4 c4 vs w6 G HZ.out HV.out Z_w6.out W_w6.out (by have := HLN.out.2; have := HF.out; omega) HOK.out.2).mono ?_
  rintro e w7 ⟨rfl, hb⟩
  have B_w7 := Lib.hid (stepB B_w6.out hb)
  clear hb B_w6 Z_w6 W_w6
  go_wp2
  go_ret
  exact ⟨rfl, B_w7.out⟩

end Go.Proofs.Ytgnbiicfabldbab
