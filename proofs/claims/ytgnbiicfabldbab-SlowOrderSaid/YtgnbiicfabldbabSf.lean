/-
  What Expire and Bytes of brokerref17 answer. Conditions: the lists read as data; few messages, with few properties.
-/
import Derived.Test.YtgnbiicfabldbabSe
import Derived.Test.YtgnbiicfabldbabSb
namespace Go.Proofs.Ytgnbiicfabldbab
open Go.RowKit
open S2 (BK Put)

set_option maxRecDepth 20000 in
set_option maxHeartbeats 4000000 in
theorem rExpireQ_any (A : Option Addr) (c : Nat) (xs : List ME) (now : Int) (w : World) (hsl : MI w w.heap.size A xs) (hn : xs.length ≤ 100000) (hp : ∀ x ∈ xs, x.m.props.length ≤ 4398046511104) :
    Calls Try.prog 15 #[.slice A xs.length c, .int .i64 now] w (RetEx (freshR now (xs.map ME.m)) (goneR now (xs.map ME.m)) w) := by
  have HE := Lib.hid (fun m a c w1 => rExpired_any m a c now w1)
  have HS := Lib.hid hsl
  have HP := Lib.hid hp
  clear hsl hp
  go_enter Try.func15, Try.ntmps15
  go_wp2_with fail
  go_loopg [6, 7, 8] xs.length (fun g u6 u7 v wr => ∃ (k : Nat) (fs es : List ME), k + g = xs.length ∧ v = .int .i64 k ∧ fs.map ME.m = freshR now ((xs.map ME.m).take k) ∧ es.map ME.m = goneR now ((xs.map ME.m).take k) ∧ fs.length ≤ k ∧ es.length ≤ k ∧ Two 25 gM 9 ME.a mps w.heap.size wr u6 fs u7 es ∧ Below w.heap.size w wr)
  case atStart => exact ⟨0, [], [], by omega, rfl, rfl, rfl, Nat.le_refl _, Nat.le_refl _, Two.nil, Below.refl _ _⟩
  case round =>
    obtain ⟨k, fs, es, hkg, rfl, hfs, hes, hfl, hel, htw, hb0⟩ := hrel
    have HF := Lib.hid hfs
    have HES := Lib.hid hes
    have HFL := Lib.hid hfl
    have HEL := Lib.hid hel
    have HT := Lib.hid htw
    have HB0 := Lib.hid hb0
    have HK := Lib.hid hkg
    clear hfs hes hfl hel htw hb0
    cases gk with
    | zero =>
      obtain rfl : k = xs.length := by omega
      obtain ⟨A1, c1, A2, c2, rfl, rfl, hc1, hc2, hl1, hl2⟩ := HT.out.ret gM_len
      have HL := Lib.hid (And.intro hc1 (And.intro hc2 (And.intro hl1 hl2)))
      clear hkg hc1 hc2 hl1 hl2
      go_wp2
      go_ret2
      have e9 : (xs.map ME.m).take xs.length = xs.map ME.m := List.take_of_length_le (by simp)
      exact ⟨A1, c1, fs, A2, c2, es, rfl, by rw [HF.out, e9], by rw [HES.out, e9], HL.out.1, HL.out.2.1, HL.out.2.2.1, HL.out.2.2.2, HB0.out⟩
    | succ gk =>
      have hlt : k < xs.length := by omega
      have e3 : decide ((k : Int) < (xs.length : Int)) = true := decide_eq_true (by omega)
      obtain ⟨x, hx⟩ : ∃ x, xs[k]? = some x := ⟨_, List.getElem?_eq_getElem hlt⟩
      obtain ⟨b, o, hA, hbB, hc, hpl⟩ := (HS.out.step HB0.out).at_ hx
      have HLD := Lib.hid (load_msg hc)
      have HXM : Hid ((xs.map ME.m)[k]? = some x.m) := Lib.hid (by rw [List.getElem?_map, hx]; rfl)
      have HPX := Lib.hid (HP.out x (List.mem_of_getElem? hx))
      have HPL : Hid (PL wr wr.heap.size x.a x.m.props) := Lib.hid hpl
      obtain ⟨bE, hbE⟩ : ∃ b, expiredR x.m now = b := ⟨_, rfl⟩
      have HEX := HE.out x.m x.a x.c
      rw [hbE] at HEX
      have HCE := Lib.hid HEX
      have HBE := Lib.hid hbE
      subst hA
      have j1 : (0 : Int) ≤ (k : Int) := by omega
      have j2 : (k : Int) < (xs.length : Int) := by omega
      have hlk : k ≤ 100000 := by omega
      have HPW : Hid (PL w w.heap.size x.a x.m.props) := Lib.hid (HS.out.2 x (List.mem_of_getElem? hx))
      have C_wr : Hid (b < wr.heap.size ∧ ∀ i v, (gM x)[i]? = some v → wr.cell? ⟨b, o + k * 9 + i, none⟩ = some v) := Lib.hid ⟨hbB, hc⟩
      clear hx hc hpl hbB hkg hbE HEX
      go_wp2_with first
        | (refine wpList_load_v (by rfl) 25 _ rfl ⟨b, o + k * 9, none⟩ (by go_simp) _ HLD.out ?_)
      refine (HCE.out wr).mono ?_
      rintro e w3 ⟨rfl, hb⟩
      have T_w3 := Lib.hid (HT.out.step hb)
      have B_w3 := Lib.hid (stepB HB0.out hb)
      have HLD3 := Lib.hid (load_msg (cells_stepM C_wr.out.2 hb C_wr.out.1))
      clear hb HT HB0 HCE HLD C_wr
      simp only [msgV] at HLD3
      cases bE with
      | false =>
        go_wp2_with first
          | (refine wpList_load_v (by rfl) 25 _ rfl ⟨b, o + k * 9, none⟩ (by go_simp) _ HLD3.out ?_)
          | (at_builtin; refine wpList_two gM_len gM_one (by decide) w3 rfl _ _ 22 rfl (.agg (msgC Msg.zero none 0).toArray) 112 Try.underlying22 msgInfo rfl x rfl (T_w3.out.symm) (by rfl) (GL.step HPW.out B_w3.out) (fun b o e hn => ⟨fun e2 => by have := PL.lt HPW.out hn b o e; have := (own_lt (T_w3.out.symm).a b e2).1; omega, fun e2 => by have := PL.lt HPW.out hn b o e; have := (own_lt (T_w3.out.symm).b b e2).1; omega⟩) w B_w3.out B_w3.out.size (by have := HFL.out; omega) (by decide) ?_; intro v5 w5 ht5 hb5 hs5)
        have T_w5 := Lib.hid ht5.symm
        have B_w5 := Lib.hid hb5
        clear ht5 hb5 hs5
        go_roundg gk
        case measure => omega
        case rel => exact ⟨k + 1, fs ++ [x], es, by have := HK.out; omega, by go_num, by rw [List.map_append, HF.out, List.take_add_one, HXM.out]; simp [freshR, HBE.out], by rw [HES.out, List.take_add_one, HXM.out]; simp [goneR, HBE.out], by have := HFL.out; simp <;> omega, by have := HEL.out; simp <;> omega, T_w5.out, B_w5.out⟩
      | true =>
        go_wp2_with first
          | (refine wpList_load_v (by rfl) 25 _ rfl ⟨b, o + k * 9, none⟩ (by go_simp) _ HLD3.out ?_)
          | (at_builtin; refine wpList_two gM_len gM_one (by decide) w3 rfl _ _ 22 rfl (.agg (msgC Msg.zero none 0).toArray) 112 Try.underlying22 msgInfo rfl x rfl (T_w3.out) (by rfl) (GL.step HPW.out B_w3.out) (fun b o e hn => ⟨fun e2 => by have := PL.lt HPW.out hn b o e; have := (own_lt (T_w3.out).a b e2).1; omega, fun e2 => by have := PL.lt HPW.out hn b o e; have := (own_lt (T_w3.out).b b e2).1; omega⟩) w B_w3.out B_w3.out.size (by have := HEL.out; omega) (by decide) ?_; intro v5 w5 ht5 hb5 hs5)
        have T_w5 := Lib.hid ht5
        have B_w5 := Lib.hid hb5
        clear ht5 hb5 hs5
        go_roundg gk
        case measure => omega
        case rel => exact ⟨k + 1, fs, es ++ [x], by have := HK.out; omega, by go_num, by rw [HF.out, List.take_add_one, HXM.out]; simp [freshR, HBE.out], by rw [List.map_append, HES.out, List.take_add_one, HXM.out]; simp [goneR, HBE.out], by have := HFL.out; simp <;> omega, by have := HEL.out; simp <;> omega, T_w5.out, B_w5.out⟩
set_option maxRecDepth 20000 in
set_option maxHeartbeats 4000000 in
theorem rBytesQ_any (A : Option Addr) (c : Nat) (xs : List ME) (w : World) (hsl : MI w w.heap.size A xs) (hn : xs.length ≤ 1000) (hz : ∀ x ∈ xs, x.m.payload.size ≤ 140737488355328) :
    Calls Try.prog 20 #[.slice A xs.length c] w fun e w' => e = .returned (.int .i64 (bytesR (xs.map ME.m))) ∧ Below w.heap.size w w' := by
  have HS := Lib.hid hsl
  have HZ : Hid (∀ k, bytesR ((xs.map ME.m).take k) ≤ 1000 * 140737488355328) := Lib.hid (fun k => by
    refine Nat.le_trans (bytesR_le (fun m hm => ?_)) (Nat.mul_le_mul (by simp; omega) (Nat.le_refl _))
    obtain ⟨x, hx, rfl⟩ := List.mem_map.1 (List.mem_of_mem_take hm)
    exact hz x hx)
  clear hsl hz
  go_enter Try.func20, Try.ntmps20
  go_wp2_with fail
  go_loopg [3, 4] xs.length (fun g u v wr => ∃ (k : Nat), k + g = xs.length ∧ v = .int .i64 k ∧ u = .int .i64 (bytesR ((xs.map ME.m).take k)) ∧ Below w.heap.size w wr)
  case atStart => exact ⟨0, by omega, rfl, rfl, Below.refl _ _⟩
  case round =>
    obtain ⟨k, hkg, rfl, rfl, hb0⟩ := hrel
    have HB0 := Lib.hid hb0
    have HK := Lib.hid hkg
    clear hb0
    cases gk with
    | zero =>
      obtain rfl : k = xs.length := by omega
      clear hkg
      have e9 : (xs.map ME.m).take xs.length = xs.map ME.m := List.take_of_length_le (by simp)
      rw [e9]
      go_wp2
      go_ret
      exact ⟨rfl, HB0.out⟩
    | succ gk =>
      have hlt : k < xs.length := by omega
      have e3 : decide ((k : Int) < (xs.length : Int)) = true := decide_eq_true (by omega)
      obtain ⟨x, hx⟩ : ∃ x, xs[k]? = some x := ⟨_, List.getElem?_eq_getElem hlt⟩
      obtain ⟨b, o, hA, hbB, hc, hpl⟩ := (HS.out.step HB0.out).at_ hx
      have d1 : wr.cell? ⟨b, o + k * 9 + 1, none⟩ = some (.string x.m.payload) := hc 1 _ rfl
      have hxm : (xs.map ME.m)[k]? = some x.m := by rw [List.getElem?_map, hx]; rfl
      have hsu := bytesR_succ hxm
      have HSU := Lib.hid hsu
      have hz1 := HZ.out k
      have hz2 := HZ.out (k + 1)
      rw [hsu] at hz2
      subst hA
      have j1 : (0 : Int) ≤ (k : Int) := by omega
      have j2 : (k : Int) < (xs.length : Int) := by omega
      generalize bytesR ((xs.map ME.m).take k) = n0 at hz1 hz2 HSU ⊢
      clear hx hc hpl hbB hkg hxm hsu
      go_wp2_with fail
      go_roundg gk
      case measure => omega
      case rel => exact ⟨k + 1, by have := HK.out; omega, by go_num, by rw [HSU.out]; go_num, HB0.out⟩
end Go.Proofs.Ytgnbiicfabldbab
