/-
  What Expire and Bytes of slow answer. Conditions: the lists read as data; few messages, with few properties.
-/
import Derived.Test.YtgnbiicfabldbabSb0
namespace Go.Proofs.Ytgnbiicfabldbab
open Go.RowKit
open S2 (BK Put)

set_option maxRecDepth 20000 in
set_option maxHeartbeats 4000000 in
theorem sExpire_any (A : Option Addr) (c : Nat) (xs : List ME) (now : Int) (w : World) (hsl : MI w w.heap.size A xs) (hn : xs.length ≤ 100000) (hp : ∀ x ∈ xs, x.m.props.length ≤ 4398046511104) :
    Calls Try.prog 14 #[.slice A xs.length c, .int .i64 now] w (RetEx (freshR now (xs.map ME.m)) (goneR now (xs.map ME.m)) w) := by
  have HE := Lib.hid (fun m a c w1 => expired_any m a c now w1)
  have HM := Lib.hid (fun m a c w1 h hl => sCloneMessage_any m a c w1 h hl)
  have HS := Lib.hid hsl
  have HP := Lib.hid hp
  clear hsl hp
  go_enter Try.func14, Try.ntmps14
  go_wp2_with fail
  go_loopg [6, 7, 12] xs.length (fun g u6 u7 v wr => ∃ (k : Nat) (fs es : List ME), k + g = xs.length ∧ v = .int .i64 k ∧ fs.map ME.m = freshR now ((xs.map ME.m).take k) ∧ es.map ME.m = goneR now ((xs.map ME.m).take k) ∧ fs.length ≤ k ∧ es.length ≤ k ∧ Two 25 gM 9 ME.a mps w.heap.size wr u6 fs u7 es ∧ Below w.heap.size w wr)
  case atStart => exact ⟨0, [], [], by omega, rfl, rfl, rfl, Nat.le_refl _, Nat.le_refl _, Two.nil, Below.refl _ _⟩
  case round =>
    obtain ⟨k, fs, es, hkg, rfl, hfs, hes, hfl, hel, htw, hb0⟩ := hrel
    have HF := Lib.hid hfs
    have HES := Lib.hid hes
    have HFL := Lib.hid hfl
    have HEL := Lib.hid hel
    have HT := Lib.hid htw
    have HB0 := Lib.hid hb0
    have HK := Lib.hid hkg
    clear hfs hes hfl hel htw hb0
    cases gk with
    | zero =>
      obtain rfl : k = xs.length := by omega
      obtain ⟨A1, c1, A2, c2, rfl, rfl, hc1, hc2, hl1, hl2⟩ := HT.out.ret gM_len
      have HL := Lib.hid (And.intro hc1 (And.intro hc2 (And.intro hl1 hl2)))
      clear hkg hc1 hc2 hl1 hl2
      go_wp2
      go_ret2
      have e9 : (xs.map ME.m).take xs.length = xs.map ME.m := List.take_of_length_le (by simp)
      exact ⟨A1, c1, fs, A2, c2, es, rfl, by rw [HF.out, e9], by rw [HES.out, e9], HL.out.1, HL.out.2.1, HL.out.2.2.1, HL.out.2.2.2, HB0.out⟩
    | succ gk =>
      have hlt : k < xs.length := by omega
      have e3 : decide ((k : Int) < (xs.length : Int)) = true := decide_eq_true (by omega)
      obtain ⟨x, hx⟩ : ∃ x, xs[k]? = some x := ⟨_, List.getElem?_eq_getElem hlt⟩
      obtain ⟨b, o, hA, hbB, hc, hpl⟩ := (HS.out.step HB0.out).at_ hx
      have HLD := Lib.hid (load_msg hc)
      have HXM : Hid ((xs.map ME.m)[k]? = some x.m) := Lib.hid (by rw [List.getElem?_map, hx]; rfl)
      have HPX := Lib.hid (HP.out x (List.mem_of_getElem? hx))
      have HPL : Hid (PL wr wr.heap.size x.a x.m.props) := Lib.hid hpl
      obtain ⟨bE, hbE⟩ : ∃ b, expiredR x.m now = b := ⟨_, rfl⟩
      have HEX := HE.out x.m x.a x.c
      rw [hbE] at HEX
      have HCE := Lib.hid HEX
      have HBE := Lib.hid hbE
      subst hA
      have j1 : (0 : Int) ≤ (k : Int) := by omega
      have j2 : (k : Int) < (xs.length : Int) := by omega
      have hlk : k ≤ 100000 := by omega
      clear hx hc hpl hbB hkg hbE HEX
      go_wp2_with first
        | (refine wpList_load_v (by rfl) 25 _ rfl ⟨b, o + k * 9, none⟩ (by simp [Act.eval, Act.put]) _ HLD.out ?_)
        | (refine S2.wpList_store_all (by rfl) 25 (.tmp 9) (.tmp 15) rfl rfl wr.heap.size rfl (gM x) rfl 25 (msgC Msg.zero none 0) (BK.new wr _ _) msgSize rfl (gM_one _) ?_; intro w2 hM hP; have V_w2 : Hid (BK 25 w2 wr.heap.size (gM x)) := Lib.hid hM; have hb : Below wr.heap.size wr w2 := hP.below (S2.below_new wr _) (Nat.le_refl _); have T_w2 := Lib.hid (HT.out.step hb); have B_w2 := Lib.hid (stepB HB0.out hb); have P_w2 : Hid (PL w2 w2.heap.size x.a x.m.props) := Lib.hid (GL.step HPL.out hb); clear hM hP hb HT HPL HB0 HLD)
        | (refine wpList_load_v (by rfl) 25 (.tmp 9) rfl ⟨wr.heap.size, 0, none⟩ rfl (msgV x.m x.a x.c) (S2.run_load_all V_w2.out Try.underlying25 rfl msgSize) ?_)
      refine (HCE.out w2).mono ?_
      rintro e w3 ⟨rfl, hb⟩
      have V_w3 := Lib.hid (V_w2.out.step hb)
      have T_w3 := Lib.hid (T_w2.out.step hb)
      have B_w3 := Lib.hid (stepB B_w2.out hb)
      have P_w3 : Hid (PL w3 w3.heap.size x.a x.m.props) := Lib.hid (GL.step P_w2.out hb)
      have CM := Lib.hid (HM.out x.m x.a x.c w3 P_w3.out HPX.out)
      clear hb V_w2 T_w2 B_w2 P_w2 HCE
      cases bE with
      | false =>
        go_wp2_with first
          | (refine wpList_load_v (by rfl) 25 (.tmp 9) rfl ⟨wr.heap.size, 0, none⟩ rfl (msgV x.m x.a x.c) (S2.run_load_all V_w3.out Try.underlying25 rfl msgSize) ?_)
        refine CM.out.mono ?_
        rintro e w4 ⟨a4, c4, rfl, hpl4, hnew4, hb4⟩
        have T_w4 := Lib.hid (T_w3.out.step hb4)
        have P_w4 := Lib.hid hpl4
        have N_w4 := Lib.hid hnew4
        have B_w4 := Lib.hid (stepB B_w3.out hb4)
        have HO1 : Hid (∀ n, u6.ownBlock = some n → n < w3.heap.size) := Lib.hid (fun n e => (own_lt T_w3.out.a n e).2)
        have HO2 : Hid (∀ n, u7.ownBlock = some n → n < w3.heap.size) := Lib.hid (fun n e => (own_lt T_w3.out.b n e).2)
        clear hpl4 hnew4 hb4 T_w3 B_w3 V_w3 P_w3 CM
        simp only [msgV]
        go_wp2_with first
          | (at_builtin; refine wpList_two gM_len gM_one (by decide) w4 rfl _ _ 22 rfl (.agg (msgC Msg.zero none 0).toArray) 112 Try.underlying22 msgInfo rfl (⟨x.m, a4, c4⟩ : ME) rfl (T_w4.out.symm) (by rfl) P_w4.out (fun b o e _ => ⟨fun e2 => by have := N_w4.out b o e; have := HO2.out b e2; omega, fun e2 => by have := N_w4.out b o e; have := HO1.out b e2; omega⟩) w B_w4.out B_w4.out.size (by have := HFL.out; omega) (by decide) ?_; intro v5 w5 ht5 hb5 hs5)
        have T_w5 := Lib.hid ht5.symm
        have B_w5 := Lib.hid hb5
        clear ht5 hb5 hs5
        go_roundg gk
        case measure => omega
        case rel => exact ⟨k + 1, fs ++ [⟨x.m, a4, c4⟩], es, by have := HK.out; omega, by go_num, by rw [List.map_append, HF.out, List.take_add_one, HXM.out]; simp [freshR, HBE.out], by rw [HES.out, List.take_add_one, HXM.out]; simp [goneR, HBE.out], by have := HFL.out; simp <;> omega, by have := HEL.out; simp <;> omega, T_w5.out, B_w5.out⟩
      | true =>
        go_wp2_with first
          | (refine wpList_load_v (by rfl) 25 (.tmp 9) rfl ⟨wr.heap.size, 0, none⟩ rfl (msgV x.m x.a x.c) (S2.run_load_all V_w3.out Try.underlying25 rfl msgSize) ?_)
        refine CM.out.mono ?_
        rintro e w4 ⟨a4, c4, rfl, hpl4, hnew4, hb4⟩
        have T_w4 := Lib.hid (T_w3.out.step hb4)
        have P_w4 := Lib.hid hpl4
        have N_w4 := Lib.hid hnew4
        have B_w4 := Lib.hid (stepB B_w3.out hb4)
        have HO1 : Hid (∀ n, u6.ownBlock = some n → n < w3.heap.size) := Lib.hid (fun n e => (own_lt T_w3.out.a n e).2)
        have HO2 : Hid (∀ n, u7.ownBlock = some n → n < w3.heap.size) := Lib.hid (fun n e => (own_lt T_w3.out.b n e).2)
        clear hpl4 hnew4 hb4 T_w3 B_w3 V_w3 P_w3 CM
        simp only [msgV]
        go_wp2_with first
          | (at_builtin; refine wpList_two gM_len gM_one (by decide) w4 rfl _ _ 22 rfl (.agg (msgC Msg.zero none 0).toArray) 112 Try.underlying22 msgInfo rfl (⟨x.m, a4, c4⟩ : ME) rfl (T_w4.out) (by rfl) P_w4.out (fun b o e _ => ⟨fun e2 => by have := N_w4.out b o e; have := HO1.out b e2; omega, fun e2 => by have := N_w4.out b o e; have := HO2.out b e2; omega⟩) w B_w4.out B_w4.out.size (by have := HEL.out; omega) (by decide) ?_; intro v5 w5 ht5 hb5 hs5)
        have T_w5 := Lib.hid ht5
        have B_w5 := Lib.hid hb5
        clear ht5 hb5 hs5
        go_roundg gk
        case measure => omega
        case rel => exact ⟨k + 1, fs, es ++ [⟨x.m, a4, c4⟩], by have := HK.out; omega, by go_num, by rw [HF.out, List.take_add_one, HXM.out]; simp [freshR, HBE.out], by rw [List.map_append, HES.out, List.take_add_one, HXM.out]; simp [goneR, HBE.out], by have := HFL.out; simp <;> omega, by have := HEL.out; simp <;> omega, T_w5.out, B_w5.out⟩

theorem bytesR_le {l : List Msg} (h : ∀ m ∈ l, m.payload.size ≤ 140737488355328) : bytesR l ≤ l.length * 140737488355328 := by
  unfold bytesR
  induction l with
  | nil => simp
  | cons x l ih =>
    have h1 := h x (by simp)
    have h2 := ih (fun y hy => h y (by simp [hy]))
    simp only [List.map_cons, List.sum_cons, List.length_cons, Nat.succ_mul]
    omega
theorem bytesR_app (a b : List Msg) : bytesR (a ++ b) = bytesR a + bytesR b := by unfold bytesR; simp
theorem bytesR_succ {l : List Msg} {k : Nat} {m : Msg} (h : l[k]? = some m) : bytesR (l.take (k + 1)) = bytesR (l.take k) + m.payload.size := by
  rw [List.take_add_one, h, bytesR_app]; simp [bytesR]
set_option maxRecDepth 20000 in
set_option maxHeartbeats 4000000 in
theorem sBytes_any (A : Option Addr) (c : Nat) (xs : List ME) (w : World) (hsl : MI w w.heap.size A xs) (hn : xs.length ≤ 1000) (hz : ∀ x ∈ xs, x.m.payload.size ≤ 140737488355328) :
    Calls Try.prog 19 #[.slice A xs.length c] w fun e w' => e = .returned (.int .i64 (bytesR (xs.map ME.m))) ∧ Below w.heap.size w w' := by
  have HS := Lib.hid hsl
  have HZ : Hid (∀ k, bytesR ((xs.map ME.m).take k) ≤ 1000 * 140737488355328) := Lib.hid (fun k => by
    refine Nat.le_trans (bytesR_le (fun m hm => ?_)) (Nat.mul_le_mul (by simp; omega) (Nat.le_refl _))
    obtain ⟨x, hx, rfl⟩ := List.mem_map.1 (List.mem_of_mem_take hm)
    exact hz x hx)
  clear hsl hz
  go_enter Try.func19, Try.ntmps19
  go_wp2_with fail
  go_loopg [3, 8] xs.length (fun g u v wr => ∃ (k : Nat), k + g = xs.length ∧ v = .int .i64 k ∧ u = .int .i64 (bytesR ((xs.map ME.m).take k)) ∧ Below w.heap.size w wr)
  case atStart => exact ⟨0, by omega, rfl, rfl, Below.refl _ _⟩
  case round =>
    obtain ⟨k, hkg, rfl, rfl, hb0⟩ := hrel
    have HB0 := Lib.hid hb0
    have HK := Lib.hid hkg
    clear hb0
    cases gk with
    | zero =>
      obtain rfl : k = xs.length := by omega
      clear hkg
      have e9 : (xs.map ME.m).take xs.length = xs.map ME.m := List.take_of_length_le (by simp)
      rw [e9]
      go_wp2
      go_ret
      exact ⟨rfl, HB0.out⟩
    | succ gk =>
      have hlt : k < xs.length := by omega
      have e3 : decide ((k : Int) < (xs.length : Int)) = true := decide_eq_true (by omega)
      obtain ⟨x, hx⟩ : ∃ x, xs[k]? = some x := ⟨_, List.getElem?_eq_getElem hlt⟩
      obtain ⟨b, o, hA, hbB, hc, hpl⟩ := (HS.out.step HB0.out).at_ hx
      have HLD := Lib.hid (load_msg hc)
      have hxm : (xs.map ME.m)[k]? = some x.m := by rw [List.getElem?_map, hx]; rfl
      have hsu := bytesR_succ hxm
      have HSU := Lib.hid hsu
      have hz1 := HZ.out k
      have hz2 := HZ.out (k + 1)
      rw [hsu] at hz2
      subst hA
      have j1 : (0 : Int) ≤ (k : Int) := by omega
      have j2 : (k : Int) < (xs.length : Int) := by omega
      generalize bytesR ((xs.map ME.m).take k) = n0 at hz1 hz2 HSU ⊢
      clear hx hc hpl hbB hkg hxm hsu
      go_wp2_with first
        | (refine wpList_load_v (by rfl) 25 _ rfl ⟨b, o + k * 9, none⟩ (by simp [Act.eval, Act.put]) _ HLD.out ?_)
        | (refine S2.wpList_store_all (by rfl) 25 (.tmp 5) (.tmp 11) rfl rfl wr.heap.size rfl (gM x) rfl 25 (msgC Msg.zero none 0) (BK.new wr _ _) msgSize rfl (gM_one _) ?_; intro w2 hM hP; have d1 := hM.cell 1 rfl; have hb : Below wr.heap.size wr w2 := hP.below (S2.below_new wr _) (Nat.le_refl _); have B_w2 := Lib.hid (stepB HB0.out hb); clear hM hP hb HB0 HLD)
      go_roundg gk
      case measure => omega
      case rel => exact ⟨k + 1, by have := HK.out; omega, by go_num, by rw [HSU.out]; go_num, B_w2.out⟩
end Go.Proofs.Ytgnbiicfabldbab
