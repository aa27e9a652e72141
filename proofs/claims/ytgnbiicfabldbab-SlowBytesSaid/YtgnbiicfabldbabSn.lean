/-
  The walk of SlowBytes. Conditions: the lists read as data; their texts and lists fit a machine.
-/
import Derived.Test.YtgnbiicfabldbabSk
namespace Go.Proofs.Ytgnbiicfabldbab
open Go.RowKit
open S2 (BK Put)

set_option maxRecDepth 20000 in
set_option maxHeartbeats 8000000 in
theorem slowBytes_walk17 (A : Option Addr) (c : Nat) (xs : List ME) (A' : Option Addr) (c' : Nat) (ys : List ME) (w : World) (sl : MI w w.heap.size A xs) (_hc : xs.length ≤ c) (hd : ∀ x ∈ xs, MOk x.m) (sl' : MI w w.heap.size A' ys) (_hc' : ys.length ≤ c') (hd' : ∀ x ∈ ys, MOk x.m) :
    Calls Try.prog 6 #[.slice A xs.length c, .slice A' ys.length c'] w fun e w' => e = .returned (.bool true) ∧ Below w.heap.size w w' := by
  have HS := Lib.hid sl
  have HT := Lib.hid sl'
  have HD := Lib.hid hd
  have HE := Lib.hid hd'
  clear sl sl' hd hd'
  go_enter Try.func6, Try.ntmps6
  by_cases hf : xs.length ≤ 300
  case neg =>
    have q1 : decide ((xs.length : Int) ≤ 300) = false := decide_eq_false (by omega)
    go_wp2_with fail
    refine (few_any A xs.length c w).mono ?_
    rintro e w2 ⟨rfl, hb⟩
    have B_w2 := Lib.hid (hb)
    clear hb
    go_wp2_with fail
    refine (awake17_any w2).mono ?_
    rintro e w9 ⟨rfl, hb⟩
    have B_w9 := Lib.hid (stepB B_w2.out hb)
    clear hb
    go_wp2
    go_ret
    exact ⟨rfl, B_w9.out⟩
  have q1 : decide ((xs.length : Int) ≤ 300) = true := decide_eq_true (by omega)
  by_cases hg : ys.length ≤ 300
  case neg =>
    have q2 : decide ((ys.length : Int) ≤ 300) = false := decide_eq_false (by omega)
    go_wp2_with fail
    refine (few_any A xs.length c w).mono ?_
    rintro e w2 ⟨rfl, hb⟩
    have B_w2 := Lib.hid (hb)
    clear hb
    go_wp2_with fail
    refine (few_any A' ys.length c' w2).mono ?_
    rintro e w3 ⟨rfl, hb⟩
    have B_w3 := Lib.hid (stepB B_w2.out hb)
    clear hb B_w2
    go_wp2_with fail
    refine (awake17_any w3).mono ?_
    rintro e w9 ⟨rfl, hb⟩
    have B_w9 := Lib.hid (stepB B_w3.out hb)
    clear hb
    go_wp2
    go_ret
    exact ⟨rfl, B_w9.out⟩
  have q2 : decide ((ys.length : Int) ≤ 300) = true := decide_eq_true (by omega)
  have HF := Lib.hid (And.intro hf hg)
  go_wp2_with fail
  refine (few_any A xs.length c w).mono ?_
  rintro e w2 ⟨rfl, hb⟩
  have B_w2 := Lib.hid (hb)
  clear hb
  go_wp2_with fail
  refine (few_any A' ys.length c' w2).mono ?_
  rintro e w3 ⟨rfl, hb⟩
  have B_w3 := Lib.hid (stepB B_w2.out hb)
  clear hb B_w2

  have S_w3 := Lib.hid (HS.out.step B_w3.out)
  have T_w3 := Lib.hid (HT.out.step B_w3.out)
  go_upto_region 4 with first
    | (at_builtin; refine wpList_appG (g := gM) (k := 9) (e := 25) (by decide) (w3.alloc (.cells #[] 25)) rfl _ _ 22 22 rfl (.agg (msgC Msg.zero none 0).toArray) 112 Try.underlying22 msgInfo rfl (by decide) w3.heap.size _ [] xs rfl (OwnG.made w3 0 #[] w3.heap.size (Nat.le_refl _) (by decide) rfl) _ rfl (GL.src gM_len gM_one (S_w3.out.1.step (S2.below_new w3 _)) Try.underlying22 c) w3 (S2.below_new w3 _) (by simp) (by have := HF.out; simp; omega) ?_; intro v4 w4 hown4 hb4 hs4; have O_w4 : Hid (OwnM w4 w3.heap.size v4 xs) := Lib.hid (by simpa using hown4); have C_w4 := Lib.hid hb4; clear hown4 hb4 hs4)
    | (at_builtin; refine wpList_appG (g := gM) (k := 9) (e := 25) (by decide) w4 rfl _ _ 22 22 rfl (.agg (msgC Msg.zero none 0).toArray) 112 Try.underlying22 msgInfo rfl (by decide) w3.heap.size _ xs ys rfl O_w4.out _ rfl (GL.src gM_len gM_one (T_w3.out.1.step C_w4.out) Try.underlying22 c') w3 C_w4.out C_w4.out.size (by have := HF.out; omega) ?_; intro v5 w5 hown5 hb5 hs5)
  obtain ⟨A5, c5, hv5, hc5, hgl5⟩ := OwnG.ret gM_len hown5
  subst hv5
  have D_w5 : Hid (MI w5 w5.heap.size A5 (xs ++ ys)) := Lib.hid ⟨hgl5, fun x hx => by
    rcases List.mem_append.1 hx with hx | hx
    · exact (S_w3.out.2 x hx).step hb5
    · exact (T_w3.out.2 x hx).step hb5⟩
  have S_w5 := Lib.hid (S_w3.out.step hb5)
  have T_w5 := Lib.hid (T_w3.out.step hb5)
  have B_w5 := Lib.hid (stepB B_w3.out hb5)
  have HLL : Hid ((xs ++ ys).length = xs.length + ys.length) := Lib.hid (by simp)
  have HBA : Hid (((bytesR ((xs ++ ys).map ME.m) : Nat) : Int) = (bytesR (xs.map ME.m) : Int) + (bytesR (ys.map ME.m) : Int)) := Lib.hid (by rw [List.map_append, bytesR_app]; simp)
  have HDA : Hid (∀ x ∈ xs ++ ys, x.m.payload.size ≤ 140737488355328) := Lib.hid (fun x hx => by
    rcases List.mem_append.1 hx with hx | hx
    · exact (HD.out x hx).2
    · exact (HE.out x hx).2)
  have H1 := Lib.hid (fun w1 h => sBytes_any A c xs w1 h (by have := HF.out; omega) (fun x hx => (HD.out x hx).2))
  have H2 := Lib.hid (fun w1 h => sBytes_any A' c' ys w1 h (by have := HF.out; omega) (fun x hx => (HE.out x hx).2))
  have H3 := Lib.hid (fun w1 h => sBytes_any A5 c5 (xs ++ ys) w1 h (by have := HF.out; have := HLL.out; omega) HDA.out)
  have H4 := Lib.hid (fun w1 h => rBytesQ_any A c xs w1 h (by have := HF.out; omega) (fun x hx => (HD.out x hx).2))
  have hb1 : bytesR (xs.map ME.m) ≤ 300 * 140737488355328 := Nat.le_trans (bytesR_le (fun m hm => by obtain ⟨x, hx, rfl⟩ := List.mem_map.1 hm; exact (HD.out x hx).2)) (Nat.mul_le_mul (by simp; exact HF.out.1) (Nat.le_refl _))
  have hb2 : bytesR (ys.map ME.m) ≤ 300 * 140737488355328 := Nat.le_trans (bytesR_le (fun m hm => by obtain ⟨x, hx, rfl⟩ := List.mem_map.1 hm; exact (HE.out x hx).2)) (Nat.mul_le_mul (by simp; exact HF.out.2) (Nat.le_refl _))
  rw [HBA.out] at H3
  generalize bytesR (xs.map ME.m) = n1 at H1 H3 H4 hb1 HBA
  generalize bytesR (ys.map ME.m) = n2 at H2 H3 hb2 HBA
  have HBB := Lib.hid (And.intro hb1 hb2)
  clear hown5 hb5 hs5 hc5 hgl5 O_w4 C_w4 S_w3 T_w3 B_w3 HBA HDA hb1 hb2 hf hg
  generalize xs ++ ys = ls at D_w5 H3 HLL ⊢
  have q3 : ((n1 : Int) == (n1 : Int)) = true := by simp
  have q4 : IntKind.i64.wrap ((n1 : Int) + (n2 : Int)) = (n1 : Int) + (n2 : Int) := S2.wrap_i64_id _ (by have := HBB.out; omega) (by have := HBB.out; omega)
  have q5 : (((n1 : Int) + (n2 : Int)) == ((n1 : Int) + (n2 : Int))) = true := by simp
  go_wp2_with fail
  refine (awake17_any w5).mono ?_
  rintro e w6 ⟨rfl, hb⟩
  have B_w6 := Lib.hid (stepB B_w5.out hb)
  have S_w6 := Lib.hid (LI.step S_w5.out hb)
  have T_w6 := Lib.hid (LI.step T_w5.out hb)
  have D_w6 := Lib.hid (LI.step D_w5.out hb)
  clear hb B_w5 S_w5 T_w5 D_w5
  go_wp2_with fail
  refine (H1.out w6 S_w6.out).mono ?_
  rintro e w7 ⟨rfl, hb⟩
  have B_w7 := Lib.hid (stepB B_w6.out hb)
  have S_w7 := Lib.hid (LI.step S_w6.out hb)
  have T_w7 := Lib.hid (LI.step T_w6.out hb)
  have D_w7 := Lib.hid (LI.step D_w6.out hb)
  clear hb B_w6 S_w6 T_w6 D_w6
  go_wp2_with fail
  refine (H4.out w7 S_w7.out).mono ?_
  rintro e w8 ⟨rfl, hb⟩
  have B_w8 := Lib.hid (stepB B_w7.out hb)
  have S_w8 := Lib.hid (LI.step S_w7.out hb)
  have T_w8 := Lib.hid (LI.step T_w7.out hb)
  have D_w8 := Lib.hid (LI.step D_w7.out hb)
  clear hb B_w7 S_w7 T_w7 D_w7
  go_wp2_with fail
  refine (H3.out w8 D_w8.out).mono ?_
  rintro e w9 ⟨rfl, hb⟩
  have B_w9 := Lib.hid (stepB B_w8.out hb)
  have S_w9 := Lib.hid (LI.step S_w8.out hb)
  have T_w9 := Lib.hid (LI.step T_w8.out hb)
  clear hb B_w8 S_w8 T_w8
  clear D_w8
  go_wp2_with fail
  refine (H1.out w9 S_w9.out).mono ?_
  rintro e w10 ⟨rfl, hb⟩
  have B_w10 := Lib.hid (stepB B_w9.out hb)
  have T_w10 := Lib.hid (LI.step T_w9.out hb)
  clear hb B_w9 T_w9
  clear S_w9
  go_wp2_with fail
  refine (H2.out w10 T_w10.out).mono ?_
  rintro e w11 ⟨rfl, hb⟩
  have B_w11 := Lib.hid (stepB B_w10.out hb)
  clear hb B_w10
  clear T_w10
  go_wp2
  go_ret
  exact ⟨rfl, B_w11.out⟩
end Go.Proofs.Ytgnbiicfabldbab
