/-
  The walks of SlowPops and SlowBytes. Conditions: the lists read as data; their texts and lists fit a machine.
-/
import Derived.Test.YtgnbiicfabldbabSj
namespace Go.Proofs.Ytgnbiicfabldbab
open Go.RowKit
open S2 (BK Put)

def popR (q : List Msg) (now : Int) : Msg × Bool × List Msg × List Msg := if atR q now < q.length then ((q[atR q now]?).getD Msg.zero, true, q.drop (atR q now + 1), q.take (atR q now)) else (Msg.zero, false, [], q)
theorem pop_eq {q : List Msg} {now : Int} {m : Msg} {b : Bool} {ys zs : List ME} (h : (atR q now < q.length ∧ b = true ∧ q[atR q now]? = some m ∧ ys.map ME.m = q.drop (atR q now + 1) ∧ zs.map ME.m = q.take (atR q now)) ∨ (q.length ≤ atR q now ∧ b = false ∧ m = Msg.zero ∧ ys = [] ∧ zs.map ME.m = q)) :
    m = (popR q now).1 ∧ b = (popR q now).2.1 ∧ ys.map ME.m = (popR q now).2.2.1 ∧ zs.map ME.m = (popR q now).2.2.2 := by
  unfold popR
  rcases h with ⟨h1, rfl, h2, h3, h4⟩ | ⟨h1, rfl, rfl, rfl, h4⟩
  · rw [if_pos h1, h2]; exact ⟨rfl, rfl, h3, h4⟩
  · rw [if_neg (by omega)]; exact ⟨rfl, rfl, rfl, h4⟩
theorem pop_all {q : List Msg} {now : Int} {R : Msg × Bool × List Msg × List Msg} (h : popR q now = R) : (R.2.1 = true → R.2.2.2 ++ [R.1] ++ R.2.2.1 = q) ∧ (R.2.1 = false → R.2.2.2 ++ R.2.2.1 = q) ∧ R.2.2.1.length ≤ q.length ∧ R.2.2.2.length ≤ q.length ∧ (∀ x ∈ R.2.2.1, x ∈ q) ∧ (∀ x ∈ R.2.2.2, x ∈ q) ∧ (R.1 ∈ q ∨ R.1 = Msg.zero) := by
  subst h
  unfold popR
  split
  · next h1 =>
    have e1 : q[atR q now]? = some q[atR q now] := List.getElem?_eq_getElem h1
    rw [e1]
    refine ⟨fun _ => ?_, (fun h => by cases h), by simp <;> omega, by simp <;> omega, fun x hx => List.mem_of_mem_drop hx, fun x hx => List.mem_of_mem_take hx, Or.inl (List.getElem_mem h1)⟩
    show q.take (atR q now) ++ [q[atR q now]] ++ q.drop (atR q now + 1) = q
    rw [List.append_assoc, List.singleton_append, ← List.drop_eq_getElem_cons h1, List.take_append_drop]
  · exact ⟨(fun h => by cases h), fun _ => by simp, by simp, by simp, (fun x hx => by cases hx), fun x hx => hx, Or.inr rfl⟩
/-- append where it is wanted -/
theorem wpList_appGw {P : Program} {α : Type} {g : α → List Value} {k : Nat} {e : TypeId} {ops : Array Oper} {rest : List Oper} {o : Oper} {a : Act} {Q : Exit → Act → World → Prop} (hk0 : 0 < k) (wr : World) (hgd : Region.wanted o (yielded ops a.tmps) = true) (s x : Operand) (t tx : TypeId)
    (ho : o.op = .call { callee := .builtin .append, args := #[s, x], argTypes := #[t, tx] }) (z : Value) (bytes : Nat) (ht : P.underlying t = some (.slice e))
    (hi : (P.info? e).map (fun i => (i.zero, i.size, i.bytes)) = some (some z, k, bytes)) (hzs : z.cells.size = k) (hby : 0 < bytes) (B : Nat) (v : Value) (xs ys : List α) (hs : a.eval s = v) (hown : OwnG e g k wr B v xs)
    (vx : Value) (hx : a.eval x = vx) (hsrc : Src P k tx vx ys.length (ys.flatMap g) wr) (w0 : World) (hb : Below B w0 wr) (hB : B ≤ wr.heap.size) (hn : (xs.length + ys.length) * bytes ≤ 140737488355328)
    (h : ∀ v' w', OwnG e g k w' B v' (xs ++ ys) → Below B w0 w' → B ≤ w'.heap.size → wpList P ops Q rest (a.put o.dst v') w') : wpList P ops Q (o :: rest) a wr :=
  S2.wpList_wanted hgd fun K hK => oper_appG hk0 s x t tx ho z bytes ht hi hzs hby B v xs ys vx hs hown hx hsrc hB hn (fun v' w' h1 hgr _ => hK _ _ (h v' w' h1 (Below.grow hb hown hgr hB (Nat.le_refl _)) (by have := hgr.size; omega)))

set_option maxRecDepth 20000 in
set_option maxHeartbeats 8000000 in
theorem slowPops_walk17 (A : Option Addr) (c : Nat) (xs : List ME) (now : Int) (w : World) (sl : MI w w.heap.size A xs) (hc : xs.length ≤ c) (hd : ∀ x ∈ xs, MOk x.m) :
    Calls Try.prog 5 #[.slice A xs.length c, .int .i64 now] w fun e w' => e = .returned (.bool true) ∧ Below w.heap.size w w' := by
  have HS := Lib.hid sl
  obtain ⟨R, hR⟩ : ∃ R, popR (xs.map ME.m) now = R := ⟨_, rfl⟩
  have hpe := fun (m : Msg) (b : Bool) (ys zs : List ME) h => pop_eq (q := xs.map ME.m) (now := now) (m := m) (b := b) (ys := ys) (zs := zs) h
  rw [hR] at hpe
  have HPE := Lib.hid hpe
  have HP := Lib.hid (fun w1 h1 (hf : xs.length ≤ 300) => sPop_any A c xs now w1 h1 hc (by omega) (fun x hx => (hd x hx).1))
  have HQ := Lib.hid (fun w1 h1 (hf : xs.length ≤ 300) => rPopQ_any A c xs now w1 h1 hc (by omega))
  have hall := pop_all hR
  have hq : ∀ x ∈ xs.map ME.m, MOk x := fun x hx => by
    obtain ⟨y, hy, rfl⟩ := List.mem_map.1 hx
    exact hd y hy
  have HOK : Hid ((∀ x ∈ R.2.2.1, MOk x) ∧ (∀ x ∈ R.2.2.2, MOk x) ∧ MOk R.1) := Lib.hid ⟨fun x hx => hq x (hall.2.2.2.2.1 x hx), fun x hx => hq x (hall.2.2.2.2.2.1 x hx), hall.2.2.2.2.2.2.elim (hq R.1) (fun e => by rw [e]; exact ⟨by decide, by decide⟩)⟩
  have HAL : Hid ((R.2.1 = true → R.2.2.2 ++ [R.1] ++ R.2.2.1 = xs.map ME.m) ∧ (R.2.1 = false → R.2.2.2 ++ R.2.2.1 = xs.map ME.m)) := Lib.hid ⟨hall.1, hall.2.1⟩
  have HLN : Hid (R.2.2.1.length ≤ xs.length ∧ R.2.2.2.length ≤ xs.length) := Lib.hid ⟨by have := hall.2.2.1; rwa [List.length_map] at this, by have := hall.2.2.2.1; rwa [List.length_map] at this⟩
  have HQX := Lib.hid hq
  clear sl hc hd hR hpe hall hq
  go_enter Try.func5, Try.ntmps5
  by_cases hf : xs.length ≤ 300
  case neg =>
    have q1 : decide ((xs.length : Int) ≤ 300) = false := decide_eq_false (by omega)
    go_wp2_with fail
    refine (few_any A xs.length c w).mono ?_
    rintro e w2 ⟨rfl, hb⟩
    have B_w2 := Lib.hid (hb)
    clear hb
    go_wp2_with fail
    refine (awake17_any w2).mono ?_
    rintro e w3 ⟨rfl, hb⟩
    have B_w3 := Lib.hid (stepB B_w2.out hb)
    clear hb B_w2
    go_wp2
    go_ret
    exact ⟨rfl, B_w3.out⟩
  have q1 : decide ((xs.length : Int) ≤ 300) = true := decide_eq_true (by omega)
  have HF := Lib.hid hf
  go_wp2_with fail
  refine (few_any A xs.length c w).mono ?_
  rintro e w2 ⟨rfl, hb⟩
  have B_w2 := Lib.hid hb
  clear hb
  go_wp2_with fail
  refine (HP.out w2 (HS.out.step B_w2.out) HF.out).mono ?_
  rintro e w3 ⟨m1, am1, cm1, A1, c1, ys, A2, c2, zs, b1, rfl, hcs, _, _, hpl, hl1, hl2, hb⟩
  obtain ⟨rfl, rfl, hys, hzs⟩ := HPE.out m1 b1 ys zs hcs
  have B_w3 := Lib.hid (stepB B_w2.out hb)
  have Y_w3 := Lib.hid hl1
  have Z_w3 := Lib.hid hl2
  have P_w3 := Lib.hid hpl
  have HY := Lib.hid hys
  have HZ := Lib.hid hzs
  clear hb hl1 hl2 hys hzs hpl hcs B_w2 HP
  go_upto_region 4 with first
    | (refine S2.wpList_store_all (by rfl) 25 (.tmp 5) (.tmp 22) rfl rfl w3.heap.size rfl (msgC R.1 am1 cm1) rfl 25 (msgC Msg.zero none 0) (BK.new w3 _ _) msgSize rfl (msgC_one _ _ _) ?_; intro w4 hM hP; have M5_w4 : Hid (BK 25 w4 w3.heap.size (msgC R.1 am1 cm1)) := Lib.hid hM; have hb : Below w3.heap.size w3 w4 := hP.below (S2.below_new w3 _) (Nat.le_refl _); have B_w4 := Lib.hid (stepB B_w3.out hb); have Y_w4 := Lib.hid (LI.step Y_w3.out hb); have Z_w4 := Lib.hid (LI.step Z_w3.out hb); have P_w4 := Lib.hid (GL.step P_w3.out hb); clear hM hP hb B_w3 Y_w3 Z_w3 P_w3)
  go_wp2_with fail
  refine (HQ.out w4 (HS.out.step B_w4.out) HF.out).mono ?_
  rintro e w5 ⟨m2, am2, cm2, A3, c3, us, A4, c4, vs, b2, rfl, hcs, _, _, hpl, hl1, hl2, hb⟩
  obtain ⟨rfl, rfl, hus, hvs⟩ := HPE.out m2 b2 us vs hcs
  have U_w5 := Lib.hid hl1
  have W_w5 := Lib.hid hl2
  have Q_w5 := Lib.hid hpl
  have HU := Lib.hid hus
  have HV := Lib.hid hvs
  have B_w5 := Lib.hid (stepB B_w4.out hb)
  have Y_w5 := Lib.hid (LI.step Y_w4.out hb)
  have Z_w5 := Lib.hid (LI.step Z_w4.out hb)
  have P_w5 := Lib.hid (GL.step P_w4.out hb)
  have M5_w5 := Lib.hid (BK.step M5_w4.out hb)
  clear hb B_w4 Y_w4 Z_w4 P_w4 M5_w4
  clear hl1 hl2 hus hvs hpl hcs HQ HPE
  go_upto_region 5 with first
    | (refine S2.wpList_store_all (by rfl) 25 (.tmp 9) (.tmp 30) rfl rfl w5.heap.size rfl (msgC R.1 am2 cm2) rfl 25 (msgC Msg.zero none 0) (BK.new w5 _ _) msgSize rfl (msgC_one _ _ _) ?_; intro w6 hM hP; have M9_w6 : Hid (BK 25 w6 w5.heap.size (msgC R.1 am2 cm2)) := Lib.hid hM; have hb : Below w5.heap.size w5 w6 := hP.below (S2.below_new w5 _) (Nat.le_refl _); have B_w6 := Lib.hid (stepB B_w5.out hb); have Y_w6 := Lib.hid (LI.step Y_w5.out hb); have Z_w6 := Lib.hid (LI.step Z_w5.out hb); have P_w6 := Lib.hid (GL.step P_w5.out hb); have M5_w6 := Lib.hid (BK.step M5_w5.out hb); have U_w6 := Lib.hid (LI.step U_w5.out hb); have W_w6 := Lib.hid (LI.step W_w5.out hb); have Q_w6 := Lib.hid (GL.step Q_w5.out hb); clear hM hP hb B_w5 Y_w5 Z_w5 P_w5 M5_w5 U_w5 W_w5 Q_w5)
  obtain ⟨m0, b0, L1, L2⟩ := R
  dsimp only at HY HZ HU HV HOK HAL HLN M5_w6 M9_w6 P_w6 Q_w6 ⊢
  have hsm : sameM m0 m0 = true := decide_eq_true rfl
  have HSM := Lib.hid (rSame_any m0 m0 am1 am2 cm1 cm2)
  rw [hsm] at HSM
  have q2 : (b0 != b0) = false := by simp
  clear hsm
  go_wp2_with first
    | (refine wpList_load_v (by rfl) 25 (.tmp 5) rfl ⟨w3.heap.size, 0, none⟩ rfl (msgV m0 am1 cm1) (S2.run_load_all M5_w6.out Try.underlying25 rfl msgSize) ?_)
    | (refine wpList_load_v (by rfl) 25 (.tmp 9) rfl ⟨w5.heap.size, 0, none⟩ rfl (msgV m0 am2 cm2) (S2.run_load_all M9_w6.out Try.underlying25 rfl msgSize) ?_)
  refine (HSM.out w6 P_w6.out Q_w6.out (by have := HOK.out.2.2.1; omega)).mono ?_
  rintro e w7 ⟨rfl, hb⟩
  have B_w7 := Lib.hid (stepB B_w6.out hb)
  have Y_w7 := Lib.hid (LI.step Y_w6.out hb)
  have Z_w7 := Lib.hid (LI.step Z_w6.out hb)
  have P_w7 := Lib.hid (GL.step P_w6.out hb)
  have M5_w7 := Lib.hid (BK.step M5_w6.out hb)
  have U_w7 := Lib.hid (LI.step U_w6.out hb)
  have W_w7 := Lib.hid (LI.step W_w6.out hb)
  clear hb B_w6 Y_w6 Z_w6 P_w6 M5_w6 U_w6 W_w6
  clear M9_w6 Q_w6 HSM
  go_wp2_with fail
  refine (same_true A1 c1 ys A3 c3 us w7 L1 HY.out HU.out Y_w7.out U_w7.out (by have := HLN.out.1; have := HF.out; omega) HOK.out.1).mono ?_
  rintro e w8 ⟨rfl, hb⟩
  have B_w8 := Lib.hid (stepB B_w7.out hb)
  have Y_w8 := Lib.hid (LI.step Y_w7.out hb)
  have Z_w8 := Lib.hid (LI.step Z_w7.out hb)
  have P_w8 := Lib.hid (GL.step P_w7.out hb)
  have M5_w8 := Lib.hid (BK.step M5_w7.out hb)
  have W_w8 := Lib.hid (LI.step W_w7.out hb)
  clear hb B_w7 Y_w7 Z_w7 P_w7 M5_w7 W_w7
  clear U_w7
  go_wp2_with fail
  refine (same_true A2 c2 zs A4 c4 vs w8 L2 HZ.out HV.out Z_w8.out W_w8.out (by have := HLN.out.2; have := HF.out; omega) HOK.out.2.1).mono ?_
  rintro e w9 ⟨rfl, hb⟩
  have B_w9 := Lib.hid (stepB B_w8.out hb)
  have Y_w9 := Lib.hid (LI.step Y_w8.out hb)
  have Z_w9 := Lib.hid (LI.step Z_w8.out hb)
  have P_w9 := Lib.hid (GL.step P_w8.out hb)
  have M5_w9 := Lib.hid (BK.step M5_w8.out hb)
  clear hb B_w8 Y_w8 Z_w8 P_w8 M5_w8
  clear W_w8
  have hlz : zs.length ≤ 300 := by rw [len_of HZ.out]; have := HLN.out.2; have := HF.out; omega
  have hly : ys.length ≤ 300 := by rw [len_of HY.out]; have := HLN.out.1; have := HF.out; omega
  have HLZ := Lib.hid (And.intro hlz hly)
  have HMW : Hid (w3.heap.size < w9.heap.size) := Lib.hid M5_w9.out.lt
  clear hlz hly
  go_upto_region 8 with (at_builtin; refine wpList_appG (g := gM) (k := 9) (e := 25) (by decide) (w9.alloc (.cells #[] 25)) rfl _ _ 22 22 rfl (.agg (msgC Msg.zero none 0).toArray) 112 Try.underlying22 msgInfo rfl (by decide) w9.heap.size _ [] zs rfl (OwnG.made w9 0 #[] w9.heap.size (Nat.le_refl _) (by decide) rfl) _ rfl (GL.src gM_len gM_one (Z_w9.out.1.step (S2.below_new w9 _)) Try.underlying22 c2) w9 (S2.below_new w9 _) (by simp) (by have := HLZ.out; simp; omega) ?_; intro v10 w10 hown10 hb10 hs10)
  have O_w10 : Hid (OwnM w10 w9.heap.size v10 zs) := Lib.hid (by simpa using hown10)
  have C_w10 := Lib.hid hb10
  have M5_w10 := Lib.hid (BK.step M5_w9.out hb10)
  clear hown10 hb10 hs10 M5_w9
  cases b0 with
  | true =>
    go_wp2_with first
      | (refine wpList_load_v (by rfl) 25 (.tmp 5) rfl ⟨w3.heap.size, 0, none⟩ rfl (.agg #[.string m0.topic, .string m0.payload, .int .i64 m0.level, .bool m0.retain, .int .i64 m0.prio, .int .i64 m0.exps, .string m0.frm, .int .i64 m0.seq, .slice am1 m0.props.length cm1]) (S2.run_load_all M5_w10.out Try.underlying25 rfl msgSize) ?_)
      | (at_builtin; refine wpList_app1 gM_len gM_one (by decide) w10 rfl _ _ 22 rfl (.agg (msgC Msg.zero none 0).toArray) 112 Try.underlying22 msgInfo rfl (by decide) w9.heap.size v10 zs (⟨m0, am1, cm1⟩ : ME) (by rfl) O_w10.out (by rfl) w9 C_w10.out C_w10.out.size (by have := HLZ.out; omega) ?_; intro v11 w11 hown11 hb11 hs11)
    have O_w11 := Lib.hid hown11
    have C_w11 := Lib.hid hb11
    clear hown11 hb11 hs11 O_w10 C_w10 M5_w10
    go_wp2_with fail
    refine (awake17_any w11).mono ?_
    rintro e w12 ⟨rfl, hb⟩
    have O_w12 := Lib.hid (OwnG.step O_w11.out hb)
    have C_w12 : Hid (Below w9.heap.size w9 w12) := Lib.hid (stepB C_w11.out hb)
    clear hb O_w11 C_w11
    go_wp2_with (at_builtin; refine wpList_appGw (g := gM) (k := 9) (e := 25) (by decide) w12 (by rfl) _ _ 22 22 rfl (.agg (msgC Msg.zero none 0).toArray) 112 Try.underlying22 msgInfo rfl (by decide) w9.heap.size _ (zs ++ [(⟨m0, am1, cm1⟩ : ME)]) ys rfl O_w12.out _ rfl (GL.src gM_len gM_one (Y_w9.out.1.step C_w12.out) Try.underlying22 c1) w9 C_w12.out C_w12.out.size (by have := HLZ.out; simp; omega) ?_; intro v13 w13 hown13 hb13 hs13)
    obtain ⟨A13, c13, hv13, hc13, hgl13⟩ := OwnG.ret gM_len hown13
    subst hv13
    have C_w13 := Lib.hid hb13
    have D_w13 : Hid (MI w13 w13.heap.size A13 (zs ++ [(⟨m0, am1, cm1⟩ : ME)] ++ ys)) := Lib.hid ⟨hgl13, (fun x hx => by
        rcases List.mem_append.1 hx with hx | hx
        · rcases List.mem_append.1 hx with hx | hx
          · exact (Z_w9.out.2 x hx).step C_w13.out
          · simp at hx; subst hx; exact GL.step P_w9.out C_w13.out
        · exact (Y_w9.out.2 x hx).step C_w13.out)⟩
    have hall : (zs ++ [(⟨m0, am1, cm1⟩ : ME)] ++ ys).map ME.m = xs.map ME.m := by
      rw [← HAL.out.1 (by simp), ← HY.out, ← HZ.out]; simp
    have HFIN := Lib.hid (same_true A13 c13 (zs ++ [(⟨m0, am1, cm1⟩ : ME)] ++ ys) A c xs w13 (xs.map ME.m) hall rfl D_w13.out (HS.out.step (stepB B_w9.out C_w13.out)) (by rw [List.length_map]; have := HF.out; omega) HQX.out)
    clear hown13 hb13 hs13 hc13 hgl13 hall
    generalize zs ++ [(⟨m0, am1, cm1⟩ : ME)] ++ ys = ls at HFIN ⊢
    go_wp2_with fail
    refine HFIN.out.mono ?_
    rintro e w14 ⟨rfl, hb⟩
    have B_w14 := Lib.hid (stepB (stepB B_w9.out C_w13.out) hb)
    clear hb
    go_wp2
    go_ret
    exact ⟨rfl, B_w14.out⟩
  | false =>
    go_wp2_with fail
    refine (awake17_any w10).mono ?_
    rintro e w12 ⟨rfl, hb⟩
    have O_w12 := Lib.hid (OwnG.step O_w10.out hb)
    have C_w12 : Hid (Below w9.heap.size w9 w12) := Lib.hid (stepB C_w10.out hb)
    clear hb O_w10 C_w10
    go_wp2_with (at_builtin; refine wpList_appGw (g := gM) (k := 9) (e := 25) (by decide) w12 (by rfl) _ _ 22 22 rfl (.agg (msgC Msg.zero none 0).toArray) 112 Try.underlying22 msgInfo rfl (by decide) w9.heap.size _ (zs) ys rfl O_w12.out _ rfl (GL.src gM_len gM_one (Y_w9.out.1.step C_w12.out) Try.underlying22 c1) w9 C_w12.out C_w12.out.size (by have := HLZ.out; simp; omega) ?_; intro v13 w13 hown13 hb13 hs13)
    obtain ⟨A13, c13, hv13, hc13, hgl13⟩ := OwnG.ret gM_len hown13
    subst hv13
    have C_w13 := Lib.hid hb13
    have D_w13 : Hid (MI w13 w13.heap.size A13 (zs ++ ys)) := Lib.hid ⟨hgl13, (fun x hx => by
        rcases List.mem_append.1 hx with hx | hx
        · exact (Z_w9.out.2 x hx).step C_w13.out
        · exact (Y_w9.out.2 x hx).step C_w13.out)⟩
    have hall : (zs ++ ys).map ME.m = xs.map ME.m := by
      rw [← HAL.out.2 (by simp), ← HY.out, ← HZ.out]; simp
    have HFIN := Lib.hid (same_true A13 c13 (zs ++ ys) A c xs w13 (xs.map ME.m) hall rfl D_w13.out (HS.out.step (stepB B_w9.out C_w13.out)) (by rw [List.length_map]; have := HF.out; omega) HQX.out)
    clear hown13 hb13 hs13 hc13 hgl13 hall
    generalize zs ++ ys = ls at HFIN ⊢
    go_wp2_with fail
    refine HFIN.out.mono ?_
    rintro e w14 ⟨rfl, hb⟩
    have B_w14 := Lib.hid (stepB (stepB B_w9.out C_w13.out) hb)
    clear hb
    go_wp2
    go_ret
    exact ⟨rfl, B_w14.out⟩
end Go.Proofs.Ytgnbiicfabldbab
