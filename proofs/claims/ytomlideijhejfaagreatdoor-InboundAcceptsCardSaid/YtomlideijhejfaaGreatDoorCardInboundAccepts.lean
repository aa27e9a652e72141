/-
  The walk of InboundAccepts: it answers true. Conditions: the inbox and the packet read as data; the packet's lists and texts fit a machine; the library's bound on short texts holds a number.
  PROVED: InboundAccepts answers true for every text (each of its 2 arguments).
  Conditions: those that the row prints (the tables of package unicode/utf8 read as the program's text lays them; each argument has at most 2^47 bytes). The tie of the tables is given, over a pruned copy of the project.
-/
import Derived.Test.YtomlideijhejfaaGreatDoorNi
import Derived.Test.YtomlideijhejfaaGreatDoorCards
import Derived.Test.YtomlideijhejfaaGreatDoorTie
import Derived.Test.YtomlideijhejfaaGreatDoorOpenPw
import Derived.ProofKit
import Derived.OpenShut
import Derived.Deep.DeepHandedRow
import Derived.Lib.LaidTab
import Derived.Lay
import Derived.LaidOnce
import Derived.SizedLaws
import Derived.Carry
import Derived.SevenTiedAt
namespace Go.Proofs.YtomlideijhejfaaGreatDoor
open Go.RowKit
open S2 (BK Put)

set_option maxRecDepth 20000 in
set_option maxHeartbeats 8000000 in
theorem inboundAccepts_walk (A : Option Addr) (c : Nat) (X : List Int) (p : Pkt) (a : PA) (w : World) (hok : S1.Okw w) (hsl : S2.IL w w.heap.size A X) (hxc : X.length ≤ c) (hX : X.length ≤ 9223372036854775807) (hp : PIn w p a) (hb : BigZ p) :
    Calls Tryz.prog 3 #[S2.xv A c X, pkV p a] w fun e w' => e = .returned (.bool true) ∧ Below w.heap.size w w' := by
  have HOK := Lib.hid hok
  have HA := Lib.hid (fun w1 h => awake15_any w1 h)
  have HR := Lib.hid (fun w1 h => nrCheck_any A c X w1 h hX)
  have HS := Lib.hid hsl
  have HPI := Lib.hid hp
  by_cases hz : S2.ckI X 0 = 0
  case neg =>
    have q1 : (S2.ckI X 0 != 0) = true := by simp [hz]
    generalize S2.ckI X 0 = z at HR q1
    clear hz hok hsl hX hxc hp hb
    unfold pkV
    go_enter Tryz.func3, Tryz.ntmps3
    go_upto_region 1 with fail
    refine name_world (C := fun w1 => Code.wp _ _ _ _ w1) ((w.alloc (.cells [.slice A X.length c].toArray 24)).alloc (.cells (pkC p a).toArray 33)) ?_
    intro w1 hw1
    obtain ⟨hB0, t1, t2⟩ := two hw1
    have T_w1 : Hid (BK 24 w1 w.heap.size [.slice A X.length c]) := Lib.hid t1
    have K_w1 : Hid (BK 33 w1 (w.heap.size + 1) (pkC p a)) := Lib.hid t2
    have B_w1 : Hid (Below w.heap.size w w1) := Lib.hid hB0
    have L_w1 : Hid (S2.IL w1 w1.heap.size A X) := Lib.hid (CL.step HS.out hB0)
    have P_w1 := Lib.hid (HPI.out.step hB0)
    clear hw1 HS t1 t2 hB0 HPI
    go_wp2_with first
      | (refine wpList_load_v (by rfl) 24 (.tmp 2) rfl ⟨w.heap.size, 0, none⟩ rfl (S2.xv A c X) (S2.run_load_all T_w1.out Tryz.underlying24 rfl S2.boxSize) ?_)
    refine (HR.out w1 L_w1.out).mono ?_
    rintro e v1 ⟨rfl, hb⟩
    have T_v1 : Hid (BK 24 v1 w.heap.size [.slice A X.length c]) := Lib.hid (T_w1.out.step hb)
    have K_v1 : Hid (BK 33 v1 (w.heap.size + 1) (pkC p a)) := Lib.hid (K_w1.out.step hb)
    have B_v1 : Hid (Below w.heap.size w v1) := Lib.hid (stepB B_w1.out hb)
    have L_v1 : Hid (S2.IL v1 v1.heap.size A X) := Lib.hid (CL.step L_w1.out hb)
    have P_v1 : Hid (PIn v1 p a) := Lib.hid (P_w1.out.step hb)
    clear T_w1 K_w1 B_w1 L_w1 P_w1
    clear hb
    go_wp2_with fail
    refine (HA.out v1 (HOK.out.step B_v1.out)).mono ?_
    rintro e v2 ⟨rfl, hb⟩
    have T_v2 : Hid (BK 24 v2 w.heap.size [.slice A X.length c]) := Lib.hid (T_v1.out.step hb)
    have K_v2 : Hid (BK 33 v2 (w.heap.size + 1) (pkC p a)) := Lib.hid (K_v1.out.step hb)
    have B_v2 : Hid (Below w.heap.size w v2) := Lib.hid (stepB B_v1.out hb)
    have L_v2 : Hid (S2.IL v2 v2.heap.size A X) := Lib.hid (CL.step L_v1.out hb)
    have P_v2 : Hid (PIn v2 p a) := Lib.hid (P_v1.out.step hb)
    clear T_v1 K_v1 B_v1 L_v1 P_v1
    clear hb
    go_wp2_with fail
    go_ret
    exact ⟨rfl, B_v2.out⟩
  have hm : X.length ≤ 100000 := by have := (S2.ck_ok.1 hz).1; omega
  obtain ⟨⟨Y, d, ks, f⟩, hr⟩ : ∃ r, naccR X p = r := ⟨_, rfl⟩
  obtain ⟨hYl, hbare⟩ := acc_facts hr
  have H1 : Hid (∀ w1, S1.Okw w1 → S2.IL w1 w1.heap.size A X → PIn w1 p a → Calls Tryz.prog 9 #[S2.xv A c X, pkV p a] w1 (RetNa (Y, d, ks, f) w1)) := Lib.hid (fun w1 h0 h h2 => by have := nAccept_any A c X p a w1 h0 h hz h2 hb.sz hb.tx; rw [hr] at this; exact this)
  have H2 : Hid (∀ w1, S2.IL w1 w1.heap.size A X → PIn w1 p a → Calls Tryz.prog 10 #[S2.xv A c X, pkV p a] w1 (RetNt A X (Y, d, ks, f) w1)) := Lib.hid (fun w1 h h2 => by have := nrAccept_any A c X p a w1 h hxc (by omega) h2 hb; rw [hr] at this; exact this)
  have HP := Lib.hid (fun A1 A2 c1 c2 w1 h1 h2 => packets15_any A1 A2 c1 c2 ks w1 h1 h2 hbare)
  have HSM := Lib.hid (fun A1 A2 c1 c2 w1 hs ht => isame_self A1 A2 c1 c2 Y (by omega) w1 hs ht)
  rw [hz] at HR
  have q1 : ((0 : Int) != 0) = false := rfl
  have q3 : (f == f) = true := by simp
  have q4 : (d == d) = true := by cases d <;> rfl
  clear hz hok hsl hX hxc hp hb hm hr hYl hbare
  unfold pkV at H1 H2 ⊢
  go_enter Tryz.func3, Tryz.ntmps3
  go_upto_region 1 with fail
  refine name_world (C := fun w1 => Code.wp _ _ _ _ w1) ((w.alloc (.cells [.slice A X.length c].toArray 24)).alloc (.cells (pkC p a).toArray 33)) ?_
  intro w1 hw1
  obtain ⟨hB0, t1, t2⟩ := two hw1
  have T_w1 : Hid (BK 24 w1 w.heap.size [.slice A X.length c]) := Lib.hid t1
  have K_w1 : Hid (BK 33 w1 (w.heap.size + 1) (pkC p a)) := Lib.hid t2
  have B_w1 : Hid (Below w.heap.size w w1) := Lib.hid hB0
  have L_w1 : Hid (S2.IL w1 w1.heap.size A X) := Lib.hid (CL.step HS.out hB0)
  have P_w1 := Lib.hid (HPI.out.step hB0)
  clear hw1 HS t1 t2 hB0 HPI
  go_wp2_with first
    | (refine wpList_load_v (by rfl) 24 (.tmp 2) rfl ⟨w.heap.size, 0, none⟩ rfl (S2.xv A c X) (S2.run_load_all T_w1.out Tryz.underlying24 rfl S2.boxSize) ?_)
  refine (HR.out w1 L_w1.out).mono ?_
  rintro e v1 ⟨rfl, hb⟩
  have T_v1 : Hid (BK 24 v1 w.heap.size [.slice A X.length c]) := Lib.hid (T_w1.out.step hb)
  have K_v1 : Hid (BK 33 v1 (w.heap.size + 1) (pkC p a)) := Lib.hid (K_w1.out.step hb)
  have B_v1 : Hid (Below w.heap.size w v1) := Lib.hid (stepB B_w1.out hb)
  have L_v1 : Hid (S2.IL v1 v1.heap.size A X) := Lib.hid (CL.step L_w1.out hb)
  have P_v1 : Hid (PIn v1 p a) := Lib.hid (P_w1.out.step hb)
  clear T_w1 K_w1 B_w1 L_w1 P_w1
  clear hb
  clear HR
  go_wp2_with first
    | (refine wpList_load_v (by rfl) 24 (.tmp 2) rfl ⟨w.heap.size, 0, none⟩ rfl (S2.xv A c X) (S2.run_load_all T_v1.out Tryz.underlying24 rfl S2.boxSize) ?_)
    | (refine wpList_load_v (by rfl) 33 (.tmp 3) rfl ⟨(w.heap.size + 1), 0, none⟩ rfl (.agg (pkC p a).toArray) (S2.run_load_all K_v1.out Tryz.underlying33 rfl info33) ?_)
  refine (H1.out v1 (HOK.out.step B_v1.out) L_v1.out P_v1.out).mono ?_
  rintro e v2 ⟨A1, c1, D1, e1, rfl, _, hl, _, hk, _, hb⟩
  have T_v2 : Hid (BK 24 v2 w.heap.size [.slice A X.length c]) := Lib.hid (T_v1.out.step hb)
  have K_v2 : Hid (BK 33 v2 (w.heap.size + 1) (pkC p a)) := Lib.hid (K_v1.out.step hb)
  have B_v2 : Hid (Below w.heap.size w v2) := Lib.hid (stepB B_v1.out hb)
  have L_v2 : Hid (S2.IL v2 v2.heap.size A X) := Lib.hid (CL.step L_v1.out hb)
  have P_v2 : Hid (PIn v2 p a) := Lib.hid (P_v1.out.step hb)
  clear T_v1 K_v1 B_v1 L_v1 P_v1
  have L1_v2 : Hid (S2.IL v2 v2.heap.size A1 Y) := Lib.hid (hl)
  have N1_v2 : Hid (NK v2 D1 ks) := Lib.hid (hk)
  clear hb
  clear hl hk H1
  go_wp2_with first
    | (refine S2.wpList_store_all (by rfl) 24 (.tmp 5) (.tmp 21) rfl rfl (v2.heap.size) rfl [.slice A1 Y.length c1] rfl 24 [.slice none 0 0] (BK.new v2 _ _) S2.boxSize rfl (onesB rfl) ?_; intro v3 hM hP; have hb : Below v2.heap.size v2 v3 := hP.below (S2.below_new v2 _) (Nat.le_refl _); have T_v3 : Hid (BK 24 v3 w.heap.size [.slice A X.length c]) := Lib.hid (T_v2.out.step hb); have K_v3 : Hid (BK 33 v3 (w.heap.size + 1) (pkC p a)) := Lib.hid (K_v2.out.step hb); have B_v3 : Hid (Below w.heap.size w v3) := Lib.hid (stepB B_v2.out hb); have L_v3 : Hid (S2.IL v3 v3.heap.size A X) := Lib.hid (CL.step L_v2.out hb); have P_v3 : Hid (PIn v3 p a) := Lib.hid (P_v2.out.step hb); have L1_v3 : Hid (S2.IL v3 v3.heap.size A1 Y) := Lib.hid (CL.step L1_v2.out hb); have N1_v3 : Hid (NK v3 D1 ks) := Lib.hid (N1_v2.out.step hb); have U_v3 : Hid (BK 24 v3 (v2.heap.size) [.slice A1 Y.length c1]) := Lib.hid hM; clear hM hP hb T_v2 K_v2 B_v2 L_v2 P_v2 L1_v2 N1_v2)
    | (refine wpList_load_v (by rfl) 24 (.tmp 2) rfl ⟨w.heap.size, 0, none⟩ rfl (S2.xv A c X) (S2.run_load_all T_v3.out Tryz.underlying24 rfl S2.boxSize) ?_)
    | (refine wpList_load_v (by rfl) 33 (.tmp 3) rfl ⟨(w.heap.size + 1), 0, none⟩ rfl (.agg (pkC p a).toArray) (S2.run_load_all K_v3.out Tryz.underlying33 rfl info33) ?_)
  refine (H2.out v3 L_v3.out P_v3.out).mono ?_
  rintro e v4 ⟨A2, c2, D2, e2, rfl, _, hl, _, hk, _, hb⟩
  have T_v4 : Hid (BK 24 v4 w.heap.size [.slice A X.length c]) := Lib.hid (T_v3.out.step hb)
  have K_v4 : Hid (BK 33 v4 (w.heap.size + 1) (pkC p a)) := Lib.hid (K_v3.out.step hb)
  have B_v4 : Hid (Below w.heap.size w v4) := Lib.hid (stepB B_v3.out hb)
  have L_v4 : Hid (S2.IL v4 v4.heap.size A X) := Lib.hid (CL.step L_v3.out hb)
  have P_v4 : Hid (PIn v4 p a) := Lib.hid (P_v3.out.step hb)
  have L1_v4 : Hid (S2.IL v4 v4.heap.size A1 Y) := Lib.hid (CL.step L1_v3.out hb)
  have N1_v4 : Hid (NK v4 D1 ks) := Lib.hid (N1_v3.out.step hb)
  have U_v4 : Hid (BK 24 v4 (v2.heap.size) [.slice A1 Y.length c1]) := Lib.hid (U_v3.out.step hb)
  clear T_v3 K_v3 B_v3 L_v3 P_v3 L1_v3 N1_v3 U_v3
  have L2_v4 : Hid (S2.IL v4 v4.heap.size A2 Y) := Lib.hid (hl)
  have N2_v4 : Hid (NK v4 D2 ks) := Lib.hid (hk)
  clear hb
  clear hl hk H2
  go_wp2_with first
    | (refine S2.wpList_store_all (by rfl) 24 (.tmp 9) (.tmp 29) rfl rfl (v4.heap.size) rfl [.slice A2 Y.length c2] rfl 24 [.slice none 0 0] (BK.new v4 _ _) S2.boxSize rfl (onesB rfl) ?_; intro v5 hM hP; have hb : Below v4.heap.size v4 v5 := hP.below (S2.below_new v4 _) (Nat.le_refl _); have T_v5 : Hid (BK 24 v5 w.heap.size [.slice A X.length c]) := Lib.hid (T_v4.out.step hb); have K_v5 : Hid (BK 33 v5 (w.heap.size + 1) (pkC p a)) := Lib.hid (K_v4.out.step hb); have B_v5 : Hid (Below w.heap.size w v5) := Lib.hid (stepB B_v4.out hb); have L_v5 : Hid (S2.IL v5 v5.heap.size A X) := Lib.hid (CL.step L_v4.out hb); have P_v5 : Hid (PIn v5 p a) := Lib.hid (P_v4.out.step hb); have L1_v5 : Hid (S2.IL v5 v5.heap.size A1 Y) := Lib.hid (CL.step L1_v4.out hb); have N1_v5 : Hid (NK v5 D1 ks) := Lib.hid (N1_v4.out.step hb); have U_v5 : Hid (BK 24 v5 (v2.heap.size) [.slice A1 Y.length c1]) := Lib.hid (U_v4.out.step hb); have L2_v5 : Hid (S2.IL v5 v5.heap.size A2 Y) := Lib.hid (CL.step L2_v4.out hb); have N2_v5 : Hid (NK v5 D2 ks) := Lib.hid (N2_v4.out.step hb); have V_v5 : Hid (BK 24 v5 (v4.heap.size) [.slice A2 Y.length c2]) := Lib.hid hM; clear hM hP hb T_v4 K_v4 B_v4 L_v4 P_v4 L1_v4 N1_v4 U_v4 L2_v4 N2_v4)
  refine (HA.out v5 (HOK.out.step B_v5.out)).mono ?_
  rintro e v6 ⟨rfl, hb⟩
  have T_v6 : Hid (BK 24 v6 w.heap.size [.slice A X.length c]) := Lib.hid (T_v5.out.step hb)
  have K_v6 : Hid (BK 33 v6 (w.heap.size + 1) (pkC p a)) := Lib.hid (K_v5.out.step hb)
  have B_v6 : Hid (Below w.heap.size w v6) := Lib.hid (stepB B_v5.out hb)
  have L_v6 : Hid (S2.IL v6 v6.heap.size A X) := Lib.hid (CL.step L_v5.out hb)
  have P_v6 : Hid (PIn v6 p a) := Lib.hid (P_v5.out.step hb)
  have L1_v6 : Hid (S2.IL v6 v6.heap.size A1 Y) := Lib.hid (CL.step L1_v5.out hb)
  have N1_v6 : Hid (NK v6 D1 ks) := Lib.hid (N1_v5.out.step hb)
  have U_v6 : Hid (BK 24 v6 (v2.heap.size) [.slice A1 Y.length c1]) := Lib.hid (U_v5.out.step hb)
  have L2_v6 : Hid (S2.IL v6 v6.heap.size A2 Y) := Lib.hid (CL.step L2_v5.out hb)
  have N2_v6 : Hid (NK v6 D2 ks) := Lib.hid (N2_v5.out.step hb)
  have V_v6 : Hid (BK 24 v6 (v4.heap.size) [.slice A2 Y.length c2]) := Lib.hid (V_v5.out.step hb)
  clear T_v5 K_v5 B_v5 L_v5 P_v5 L1_v5 N1_v5 U_v5 L2_v5 N2_v5 V_v5
  clear hb
  clear HA
  go_wp2_with first
    | (refine wpList_load_v (by rfl) 24 (.tmp 5) rfl ⟨v2.heap.size, 0, none⟩ rfl (S2.xv A1 c1 Y) (S2.run_load_all U_v6.out Tryz.underlying24 rfl S2.boxSize) ?_)
    | (refine wpList_load_v (by rfl) 24 (.tmp 9) rfl ⟨v4.heap.size, 0, none⟩ rfl (S2.xv A2 c2 Y) (S2.run_load_all V_v6.out Tryz.underlying24 rfl S2.boxSize) ?_)
  refine (HSM.out A1 A2 c1 c2 v6 L1_v6.out L2_v6.out).mono ?_
  rintro e v7 ⟨rfl, hb⟩
  have T_v7 : Hid (BK 24 v7 w.heap.size [.slice A X.length c]) := Lib.hid (T_v6.out.step hb)
  have K_v7 : Hid (BK 33 v7 (w.heap.size + 1) (pkC p a)) := Lib.hid (K_v6.out.step hb)
  have B_v7 : Hid (Below w.heap.size w v7) := Lib.hid (stepB B_v6.out hb)
  have L_v7 : Hid (S2.IL v7 v7.heap.size A X) := Lib.hid (CL.step L_v6.out hb)
  have P_v7 : Hid (PIn v7 p a) := Lib.hid (P_v6.out.step hb)
  have L1_v7 : Hid (S2.IL v7 v7.heap.size A1 Y) := Lib.hid (CL.step L1_v6.out hb)
  have N1_v7 : Hid (NK v7 D1 ks) := Lib.hid (N1_v6.out.step hb)
  have U_v7 : Hid (BK 24 v7 (v2.heap.size) [.slice A1 Y.length c1]) := Lib.hid (U_v6.out.step hb)
  have L2_v7 : Hid (S2.IL v7 v7.heap.size A2 Y) := Lib.hid (CL.step L2_v6.out hb)
  have N2_v7 : Hid (NK v7 D2 ks) := Lib.hid (N2_v6.out.step hb)
  have V_v7 : Hid (BK 24 v7 (v4.heap.size) [.slice A2 Y.length c2]) := Lib.hid (V_v6.out.step hb)
  clear T_v6 K_v6 B_v6 L_v6 P_v6 L1_v6 N1_v6 U_v6 L2_v6 N2_v6 V_v6
  clear hb
  go_wp2_with fail
  refine (HP.out D1 D2 e1 e2 v7 N1_v7.out N2_v7.out).mono ?_
  rintro e v8 ⟨rfl, hb⟩
  have T_v8 : Hid (BK 24 v8 w.heap.size [.slice A X.length c]) := Lib.hid (T_v7.out.step hb)
  have K_v8 : Hid (BK 33 v8 (w.heap.size + 1) (pkC p a)) := Lib.hid (K_v7.out.step hb)
  have B_v8 : Hid (Below w.heap.size w v8) := Lib.hid (stepB B_v7.out hb)
  have L_v8 : Hid (S2.IL v8 v8.heap.size A X) := Lib.hid (CL.step L_v7.out hb)
  have P_v8 : Hid (PIn v8 p a) := Lib.hid (P_v7.out.step hb)
  have L1_v8 : Hid (S2.IL v8 v8.heap.size A1 Y) := Lib.hid (CL.step L1_v7.out hb)
  have N1_v8 : Hid (NK v8 D1 ks) := Lib.hid (N1_v7.out.step hb)
  have U_v8 : Hid (BK 24 v8 (v2.heap.size) [.slice A1 Y.length c1]) := Lib.hid (U_v7.out.step hb)
  have L2_v8 : Hid (S2.IL v8 v8.heap.size A2 Y) := Lib.hid (CL.step L2_v7.out hb)
  have N2_v8 : Hid (NK v8 D2 ks) := Lib.hid (N2_v7.out.step hb)
  have V_v8 : Hid (BK 24 v8 (v4.heap.size) [.slice A2 Y.length c2]) := Lib.hid (V_v7.out.step hb)
  clear T_v7 K_v7 B_v7 L_v7 P_v7 L1_v7 N1_v7 U_v7 L2_v7 N2_v7 V_v7
  clear hb
  go_wp2_with fail
  go_ret
  exact ⟨rfl, B_v8.out⟩
end Go.Proofs.YtomlideijhejfaaGreatDoor
namespace Go.Proofs.YtomlideijhejfaaGreatDoor.inboundAccepts
open Go.ChangeShapes Go.WideShapes Go.ChangeAt Go.WideMaps Go.WideElems Go.RowKit
open Go.ChangeMaps (open_string shut_string)

theorem own : ownKnob Tryz.prog.godebug = none := by kernel_rfl
theorem okw {W : World} (h : W.ShapedOpen Tryz.prog) : S1.Okw W := Tryz.laysM220.s1_3 W h

set_option maxRecDepth 100000 in
theorem contract (H : Type) (enc : TypeId × Value → H) (W : World) (base : Nat) (args : Array Value) (ds gs : List (DataW H)) (before : List MemPlace)
    (hval : ∀ (j : Nat) t v, Tryz.f3.params[j]? = some t → args[j]? = some v → Value.okWide Tryz.prog W .any base t v)
    (hW : DataW.Whole enc Tryz.prog Tryz.f3.params.toList Rows.inboundAcceptsSpec.vars false W args.toList ds gs before)
    (hsz : (DataW.weightsEach Tryz.prog (Tryz.f3.params.toList ++ (OpenSpec.ofChange Rows.inboundAcceptsSpec).bare.plain.varTypes Tryz.prog) (ds ++ gs)).all (· ≤ reachBytes) = true)
    (hsh : W.ShapedOpen Tryz.prog) :
    Calls Tryz.prog 3 args W fun e W' => ∃ v, e = .returned v ∧ Rows.inboundAcceptsSpec.post enc Tryz.prog Tryz.f3 false true false false W args v W' := by
  have hW' := hW
  obtain ⟨p, q, hA0, hV, rfl, hfz, hnd⟩ := hW
  have hA : DataW.TrodAll enc Tryz.prog W 0 (fun _ => true) true Tryz.f3.params.toList args.toList ds p := hA0
  rw [Tryz.params3] at hA hval
  obtain ⟨v0, vs0, d0, ds0, p0, q0, hargs, rfl, rfl, h0, r0⟩ := trodAll_cons hA
  obtain ⟨v1, vs1, d1, ds1, p1, q1, rfl, rfl, rfl, h1, r1⟩ := trodAll_cons r0
  obtain ⟨rfl, rfl, rfl⟩ := trodAll_nil r1
  obtain rfl : args = #[v0, v1] := by cases args; simp_all
  obtain ⟨rfl, rfl⟩ := trodVars_none hV
  have h0k := h0
  obtain ⟨A0, c0, X0, rfl, sl0, hc0, hX0⟩ := open_inb (hval 0 24 v0 rfl rfl) h0
  have h1k := h1
  obtain ⟨m1, a1, rfl, sl1, bz1⟩ := open_pktw (hval 1 33 v1 rfl rfl) h1
  have wz1 := bz1 (WB.of hsz (j := 1) rfl rfl)
  clear hA0
  simp only [List.append_nil] at hW'
  have hrb := reachBytes_lt
  have hlt : ∀ x ∈ p0 ++ p1, x.block < W.heap.size := fun x hx => by simpa using hW'.lt x (by simpa using hx)
  refine (inboundAccepts_walk A0 c0 X0 m1 a1 W (okw hsh) sl0 hc0 hX0 sl1 wz1).mono fun e W' ⟨he, hb⟩ => ?_
  subst he
  have e1 : Rows.inboundAcceptsSpec.fn H ([d0, d1] ++ []) = { results := [.lit (.bool true)], args := [d0, d1] } := rfl
  refine ⟨_, rfl, _, _, _, [], p0 ++ p1, [], by simpa using hW', ?_, ?_, ?_, hb.frame _, fun h => by cases h⟩
  · exact trodAll_cons_mk (shut_bool Tryz.underlying4 _) trodAll_mk0
  · rw [e1]
    simpa using trodAll_cons_mk (Below.trod laidOutAll (by kernel_rfl) (of_decide_eq_true (by kernel_rfl)) h0k hb (fun x hx => hlt x (by simp [hx]))) (trodAll_cons_mk (Below.trod laidOutAll (by kernel_rfl) (of_decide_eq_true (by kernel_rfl)) h1k hb (fun x hx => hlt x (by simp [hx]))) (trodAll_mk0))
  · rfl

theorem laid_met (os : Os) : laidMet Tryz.prog Rows.inboundAcceptsRow.laid ((World.laidAll Tryz.prog os Rows.inboundAcceptsRow.laid).forCall (fun _ _ => 0) ⟨#[], #[.agg #[.slice none 0 0], (pkV Pkt.zero PA.zero)], []⟩).memory :=
  laidMet_laidAll _ (by kernel_rfl) (by kernel_rfl)
theorem reads (os : Os) {H : Type} (enc : TypeId × Value → H) : ∃ places, DataW.whole enc Tryz.prog ((World.laidAll Tryz.prog os Rows.inboundAcceptsRow.laid).forCall (fun _ _ => 0) ⟨#[], #[.agg #[.slice none 0 0], (pkV Pkt.zero PA.zero)], []⟩).memory Tryz.f3.params.toList Rows.inboundAcceptsSpec.vars false #[Value.agg #[.slice none 0 0], (pkV Pkt.zero PA.zero)].toList 8 = some ([.agg [.nil], .agg [.lit (.int .i64 0), .lit (.int .i64 0), .lit (.bool false), .agg [.lit (.string []), .lit (.string []), .lit (.int .i64 0), .lit (.bool false), .lit (.int .i64 0), .lit (.int .i64 0), .lit (.string []), .lit (.int .i64 0), .nil], .lit (.string []), .lit (.string []), .lit (.bool false), .lit (.int .i64 0), .lit (.int .i64 0), .lit (.int .i64 0), .agg [.lit (.bool false), .lit (.int .i64 0), .agg [.lit (.string []), .lit (.string []), .lit (.int .i64 0), .lit (.bool false), .lit (.int .i64 0), .lit (.int .i64 0), .lit (.string []), .lit (.int .i64 0), .nil]], .lit (.bool false), .lit (.int .i64 0), .nil, .nil, .nil]], [], places) :=
  ⟨[], by kernel_rfl⟩

set_option maxRecDepth 100000 in
theorem lifted (os : Os) (started : os.Started) (H : Type) (enc : TypeId × Value → H) (F : Stop.Interp) :
    ReturnsInHanded {} Tryz.checked os 3 .any ((OpenSpec.ofChange Rows.inboundAcceptsSpec).preRow enc Tryz.prog Tryz.f3 Rows.inboundAcceptsRow.domain false Rows.inboundAcceptsRow.laid) (((OpenSpec.ofChange Rows.inboundAcceptsSpec).at F).post enc Tryz.prog Tryz.f3 false true false false) := by
  obtain ⟨places, hx⟩ := reads os enc
  refine returnsInHanded_of_row (C := Tryz.checked) (s := (OpenSpec.ofChange Rows.inboundAcceptsSpec)) own started (by kernel_rfl) Tryz.func3
    (witness_row_at (enc := enc) (C := Tryz.checked) false (World.laidAll Tryz.prog os Rows.inboundAcceptsRow.laid) #[.agg #[.slice none 0 0], (pkV Pkt.zero PA.zero)] (World.laidAll_os _ _ _) (by kernel_rfl) (by kernel_rfl) (by kernel_rfl)
      (OpenSpec.preRow_of_cond 8 hx (by kernel_rfl) (fun k hk => by cases hk) (by kernel_rfl) (laid_met os))) ?_
  intro W base args ds gs before hval hW _ _ hsz _ hsh _
  exact contract H enc W base args ds gs before hval hW hsz hsh

theorem said : Rows.InboundAcceptsSaid :=
  OpenClaim.holds_of_cond 3 Tryz.f3 rfl rfl rfl rfl rfl rfl rfl ⟨rfl, rfl, rfl, rfl, rfl⟩ rfl rfl rfl rfl rfl (by kernel_rfl) Tryz.func3 (by kernel_rfl)
    (of_decide_eq_true (by kernel_rfl)) (by unfold Func.isWrapper; first | (rw [if_pos (by decide +kernel)]; kernel_rfl) | (rw [if_neg (by decide +kernel)]; exact ⟨rfl, rfl⟩))
    (fun os started H enc _ F => by rw [OpenClaim.pre_eq_preRow]; exact lifted os started H enc F)

theorem plain (f : FuncId) (fn : Func) (hf : Tryz.pinned.checked.prog.funcNamed "broker/brokerlaw15.InboundAccepts" = some f) (hfn : Tryz.pinned.checked.prog.funcs[f]? = some fn) :
    false = Tryz.pinned.checked.prog.looks [] ∧ ∀ (j : Nat) t, fn.params[j]? = some t → Tryz.pinned.checked.prog.wantsStandIn t = false := by
  obtain rfl : f = 3 := Option.some.inj ((show Tryz.prog.funcNamed "broker/brokerlaw15.InboundAccepts" = some 3 by kernel_rfl).symm.trans hf) |>.symm
  obtain rfl : fn = Tryz.f3 := (Option.some.inj (Tryz.func3.symm.trans hfn)).symm
  refine ⟨by kernel_rfl, fun j t ht => ?_⟩
  rw [Tryz.params3] at ht
  have hm : t ∈ [24, 33] := by simpa using Array.mem_of_getElem? ht
  simp only [List.mem_cons, List.not_mem_nil, or_false] at hm
  rcases hm with rfl | rfl
  · exact (show Tryz.prog.wantsStandIn 24 = false by kernel_rfl)
  · exact (show Tryz.prog.wantsStandIn 33 = false by kernel_rfl)

theorem card : Rows.InboundAcceptsCardSaid :=
  Claim7.holds_tied_plain_at .later [] _ _ _ _ said (fun _ h => by cases h) (by kernel_rfl) (fun _ h => by cases h) inboundAccepts_row_tie rfl ⟨rfl, rfl⟩ (by kernel_rfl) rfl plain (by kernel_rfl)
end Go.Proofs.YtomlideijhejfaaGreatDoor.inboundAccepts
