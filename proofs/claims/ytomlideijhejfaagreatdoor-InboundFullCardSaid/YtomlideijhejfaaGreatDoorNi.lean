/-
 What answer and Accept of brokerref15 answer. Conditions: the inbox and the packet read as data; few identifiers; the packet's lists and texts fit a machine.
 What packets of brokerlaw15 answers for equal answers, and what its step answers: the specification's inbox, whether the message is delivered, and that the program agrees. Conditions: the inbox and the packet read as data; the inbox is valid; the packet's lists and texts fit a machine; the library's bound on short texts holds a number.
-/
import Derived.Test.YtomlideijhejfaaGreatDoorNf
import Derived.Test.YtomlideijhejfaaGreatDoorIdI
import Derived.Test.YtomlideijhejfaaGreatDoorCheckS
import Derived.Test.YtomlideijhejfaaGreatDoorSamR
namespace Go.Proofs.YtomlideijhejfaaGreatDoor
open Go.RowKit
open S2 (BK Put)

set_option maxRecDepth 20000 in
set_option maxHeartbeats 4000000 in
theorem nrAnswer_any (k n : Int) (w : World) : Calls Tryz.prog 24 #[.int .i64 k, .int .i64 n] w fun e w' => ∃ A c, e = .returned (.slice A 1 c) ∧ NK w' A [plainP k n] ∧ NewA w.heap.size A ∧ Below w.heap.size w w' := by
 go_enter Tryz.func24, Tryz.ntmps24
 go_wp2_with fail
 go_ret
 exact ⟨some ⟨w.heap.size, 0, none⟩, 1, rfl, NK.one (BK.new w _ (pkC (plainP k n) PA.zero)), fun b o e => by simp only [Option.some.injEq, Addr.mk.injEq, and_true] at e; omega, S2.below_new w _⟩

/-- an inbox, a truth value, packets and a code that a call answers, the list new or that of the inbox that came in -/
def RetNt (A0 : Option Addr) (X0 : List Int) (r : List Int × Bool × List Pkt × Int) (W : World) (e : Ending) (w' : World) : Prop := ∃ A c A3 c3, e = .returned (.tuple #[S2.xv A c r.1, .bool r.2.1, .slice A3 r.2.2.1.length c3, .int .i64 r.2.2.2]) ∧ r.1.length ≤ c ∧ S2.IL w' w'.heap.size A r.1 ∧ S2.Fr W A0 X0 A r.1 ∧ NK w' A3 r.2.2.1 ∧ NewA W.heap.size A3 ∧ Below W.heap.size W w'
theorem lev_of {p : Pkt} (hk : p.kind = 3) (hc : checkP p = 0) : 0 ≤ p.msg.level ∧ p.msg.level ≤ 2 := by
 unfold checkP at hc
 rw [if_neg (by omega)] at hc
 split at hc
 · omega
 · unfold bodyR at hc
   rw [if_neg (by omega), if_neg (by omega), if_pos hk] at hc
   unfold pubR at hc
   split at hc
   · omega
   · next h => exact check_level (by simpa using h)
theorem ans0 {p : Pkt} (hk : p.kind = 3) (hl : p.msg.level = 0) : ansL p = [] := by
 have h : ansK p = 0 := by unfold ansK; simp [hk, hl]
 unfold ansL; rw [if_pos h]
theorem ans1 {p : Pkt} (hk : p.kind = 3) (hl : p.msg.level = 1) : ansL p = [plainP 4 p.id] := by
 have h : ansK p = 4 := by unfold ansK; simp [hk, hl]
 unfold ansL; rw [if_neg (by rw [h]; decide), ansP_eq (by rw [h]; decide), h]
theorem ans2 {p : Pkt} (hk : p.kind = 3) (hl : p.msg.level = 2) : ansL p = [plainP 5 p.id] := by
 have h : ansK p = 5 := by unfold ansK; simp [hk, hl]
 unfold ansL; rw [if_neg (by rw [h]; decide), ansP_eq (by rw [h]; decide), h]

set_option maxRecDepth 20000 in
set_option maxHeartbeats 8000000 in
theorem nrAccept_any (A : Option Addr) (c : Nat) (X : List Int) (p : Pkt) (a : PA) (w : World) (hsl : S2.IL w w.heap.size A X) (hxc : X.length ≤ c) (hm : X.length ≤ 1000000) (hp : PIn w p a) (hb : BigZ p) :
 Calls Tryz.prog 10 #[S2.xv A c X, pkV p a] w (RetNt A X (naccR X p) w) := by
 have HW : Hid (∀ w1, S2.IL w1 w1.heap.size A X → Calls Tryz.prog 25 #[.slice A X.length c, .int .i64 p.id] w1 (RetIN (S2.insI X p.id) w1)) := Lib.hid (fun w1 h1 => (S2.nrWith_any A c X p.id w1 h1 hxc hm).mono fun _ _ h => retIN h)
 have HH := Lib.hid (fun w1 h1 => nrHas_any A c X p.id w1 h1 (by omega))
 have HA4 := Lib.hid (fun w1 => nrAnswer_any 4 p.id w1)
 have HA5 := Lib.hid (fun w1 => nrAnswer_any 5 p.id w1)
 have HK := Lib.hid (fun w1 h1 => rCheck6_any p a w1 h1 hb)
 have HS := Lib.hid hsl
 have HXC := Lib.hid hxc
 have HP := Lib.hid hp
 have HOF := Lib.hid (fun g hg => S2.Off.lt (g := g) hsl hg)
 obtain ⟨R, hR⟩ : ∃ R, naccR X p = R := ⟨_, rfl⟩
 rw [hR]
 have HC := Lib.hid (nacc_cases hR)
 obtain ⟨z, hzz⟩ : ∃ z : Int, (checkP p : Int) = z := ⟨_, rfl⟩
 rw [hzz] at HK HC
 have HZ : Hid (checkP p ≠ 0 ↔ z ≠ 0) := Lib.hid (by omega)
 clear hR hsl hm hp hb hzz hxc
 unfold pkV at HK ⊢
 go_enter Tryz.func10, Tryz.ntmps10
 go_upto_region 1 with fail
 refine name_world (C := fun w1 => Code.wp _ _ _ _ w1) (((w.alloc (.cells [.slice A X.length c].toArray 24)).alloc (.cells (pkC p a).toArray 33)).alloc (.cells [.slice none 0 0].toArray 24)) ?_
 intro w1 hw1
 obtain ⟨hB0, t1, t2, t3⟩ := three hw1
 have T_w1 : Hid (BK 24 w1 w.heap.size [.slice A X.length c]) := Lib.hid t1
 have K_w1 : Hid (BK 33 w1 (w.heap.size + 1) (pkC p a)) := Lib.hid t2
 have R_w1 : Hid (BK 24 w1 (w.heap.size + 1 + 1) [.slice none 0 0]) := Lib.hid t3
 have B_w1 := Lib.hid hB0
 have S_w1 : Hid (S2.IL w1 w1.heap.size A X) := Lib.hid (CL.step HS.out hB0)
 have P_w1 := Lib.hid (HP.out.step hB0)
 clear hw1 t1 t2 t3 hB0 HS HP
 have d0 := K_w1.out.cell 0 (pkc0 p a)
 by_cases hk : p.kind = 3
 case neg =>
  have q1 : (p.kind != 3) = true := by simp [hk]
  have HR : Hid (([], false, [], 10) = R) := Lib.hid (HC.out.1 hk)
  clear hk HC HA4 HA5 HW HH HK HZ HOF
  go_wp2_with first
   | (refine S2.wpList_store_all (by rfl) 24 (.tmp 4) (.tmp 12) rfl rfl (w.heap.size + 1 + 1) rfl [.slice none 0 0] rfl 24 [.slice none 0 0] R_w1.out S2.boxSize rfl (onesB rfl) ?_; intro wf hM hP; have R_wf := Lib.hid hM; have B_wf := Lib.hid (hP.below B_w1.out (by omega)); clear hM hP)
  rw [← HR.out]
  exact bodyPost_ret (v := .tuple #[S2.xv none 0 [], .bool false, .slice none 0 0, .int .i64 10]) (nres4 rfl _ _ (w.heap.size + 1 + 1) 24 [.slice none 0 0] _ _ _ _ rfl rfl rfl rfl R_wf.out Tryz.underlying24 rfl S2.boxSize) rfl ⟨none, 0, none, 0, rfl, Nat.le_refl _, CL.nil _ _ _, .inl rfl, NK.nil _ _, NewA.nil _, B_wf.out⟩
 have q1 : (p.kind != 3) = false := by simp [hk]
 go_wp2_with first
  | (refine wpList_load_v (by rfl) 33 (.tmp 3) rfl ⟨w.heap.size + 1, 0, none⟩ rfl (.agg (pkC p a).toArray) (S2.run_load_all K_w1.out Tryz.underlying33 rfl info33) ?_)
 refine (HK.out w1 P_w1.out).mono ?_
 rintro e w2 ⟨rfl, hb⟩
 have T_w2 := Lib.hid (T_w1.out.step hb)
 have K_w2 := Lib.hid (K_w1.out.step hb)
 have R_w2 := Lib.hid (R_w1.out.step hb)
 have B_w2 := Lib.hid (stepB B_w1.out hb)
 have S_w2 : Hid (S2.IL w2 w2.heap.size A X) := Lib.hid (CL.step S_w1.out hb)
 clear hb d0 T_w1 K_w1 R_w1 B_w1 S_w1 HK q1 P_w1
 by_cases hc : z = 0
 case neg =>
  have q2 : (z != 0) = true := by simp [hc]
  have HR : Hid (([], false, [], z) = R) := Lib.hid (HC.out.2.1 hk (HZ.out.2 hc))
  clear hk hc HC HA4 HA5 HW HH HZ HOF
  go_wp2_with first
   | (refine S2.wpList_store_all (by rfl) 24 (.tmp 4) (.tmp 17) rfl rfl (w.heap.size + 1 + 1) rfl [.slice none 0 0] rfl 24 [.slice none 0 0] R_w2.out S2.boxSize rfl (onesB rfl) ?_; intro wf hM hP; have R_wf := Lib.hid hM; have B_wf := Lib.hid (hP.below B_w2.out (by omega)); clear hM hP)
  rw [← HR.out]
  exact bodyPost_ret (v := .tuple #[S2.xv none 0 [], .bool false, .slice none 0 0, .int .i64 z]) (nres4 rfl _ _ (w.heap.size + 1 + 1) 24 [.slice none 0 0] _ _ _ _ rfl rfl rfl rfl R_wf.out Tryz.underlying24 rfl S2.boxSize) rfl ⟨none, 0, none, 0, rfl, Nat.le_refl _, CL.nil _ _ _, .inl rfl, NK.nil _ _, NewA.nil _, B_wf.out⟩
 have hc0 : checkP p = 0 := by
  have := HZ.out
  by_cases h : checkP p = 0
  · exact h
  · exact absurd hc (this.1 h)
 subst hc
 have d5 := K_w2.out.cell 5 (pkc5 p a)
 have hlv := lev_of hk hc0
 by_cases hl0 : p.msg.level = 0
 case pos =>
  have q3 : (p.msg.level == 0) = true := by simp [hl0]
  have HR : Hid ((X, true, [], 0) = R) := Lib.hid (by rw [← HC.out.2.2.1 hk hc0 (by omega), ans0 hk hl0])
  clear hk hc0 hl0 hlv HC HW HH HZ HA4 HA5
  go_wp2_with first
   | (refine wpList_load_v (by rfl) 24 (.tmp 2) rfl ⟨w.heap.size, 0, none⟩ rfl (S2.xv A c X) (S2.run_load_all T_w2.out Tryz.underlying24 rfl S2.boxSize) ?_)
   | (refine S2.wpList_store_all (by rfl) 24 (.tmp 4) (.tmp 24) rfl rfl (w.heap.size + 1 + 1) rfl [.slice A X.length c] rfl 24 [.slice none 0 0] R_w2.out S2.boxSize rfl (onesB rfl) ?_; intro wf hM hP; have R_wf := Lib.hid hM; have B_wf := Lib.hid (hP.below B_w2.out (by omega)); have S_wf := Lib.hid (S2.IL.put S_w2.out hP (HOF.out _ (by omega))); clear hM hP)
  rw [← HR.out]
  exact bodyPost_ret (v := .tuple #[S2.xv A c X, .bool true, .slice none 0 0, .int .i64 0]) (nres4 rfl _ _ (w.heap.size + 1 + 1) 24 [.slice A X.length c] _ _ _ _ rfl rfl rfl rfl R_wf.out Tryz.underlying24 rfl S2.boxSize) rfl ⟨A, c, none, 0, rfl, HXC.out, S_wf.out, .inr (.inl ⟨rfl, fun h => h⟩), NK.nil _ _, NewA.nil _, B_wf.out⟩
 have q3 : (p.msg.level == 0) = false := by simp [hl0]
 by_cases hl1 : p.msg.level = 1
 case pos =>
  have q4 : (p.msg.level == 1) = true := by simp [hl1]
  have HR : Hid ((X, true, [plainP 4 p.id], 0) = R) := Lib.hid (by rw [← HC.out.2.2.1 hk hc0 (by omega), ans1 hk hl1])
  generalize plainP 4 p.id = kq at HA4 HR
  clear hk hc0 hl0 hl1 hlv HC HW HH HZ HA5
  go_upto_region 10 with fail
  clear d5 q3 q4
  obtain ⟨x1, hx1⟩ : ∃ x1, x1 = World.drew w2 := ⟨_, rfl⟩
  have hbD : Below w2.heap.size w2 x1 := by rw [hx1]; exact (Below.refl _ _).drew
  have T_x1 : Hid (BK 24 x1 w.heap.size [.slice A X.length c]) := Lib.hid (T_w2.out.step hbD)
  have K_x1 : Hid (BK 33 x1 (w.heap.size + 1) (pkC p a)) := Lib.hid (K_w2.out.step hbD)
  have R_x1 : Hid (BK 24 x1 (w.heap.size + 1 + 1) [.slice none 0 0]) := Lib.hid (R_w2.out.step hbD)
  have B_x1 : Hid (Below w.heap.size w x1) := Lib.hid (stepB B_w2.out hbD)
  have S_x1 : Hid (S2.IL x1 x1.heap.size A X) := Lib.hid (CL.step S_w2.out hbD)
  clear T_w2 K_w2 R_w2 B_w2 S_w2
  have hbd : (fun w' => BK 24 w' w.heap.size [.slice A X.length c] ∧ BK 33 w' (w.heap.size + 1) (pkC p a)) (World.drew w2) := by rw [← hx1]; exact ⟨T_x1.out, K_x1.out⟩
  have hSD : (fun w' => BK 24 w' w.heap.size [.slice A X.length c] ∧ BK 33 w' (w.heap.size + 1) (pkC p a)) x1 := ⟨T_x1.out, K_x1.out⟩
  have HWD := Lib.hid hx1
  clear hx1 hbD
  refine wp_region_held_drew (S := fun w' => BK 24 w' w.heap.size [.slice A X.length c] ∧ BK 33 w' (w.heap.size + 1) (pkC p a)) (by kernel_rfl) hbd (fun hHeld => ?_)
  rw [← HWD.out]
  clear hHeld
  have hHeld := hSD
  clear hSD hbd HWD
  refine tkA (i := 0) (v := (S2.xv A c X)) (y := Or.inl ⟨by rfl, fun wS hSw => by (try dsimp only at hSw); exact exec_load 24 _ rfl ⟨w.heap.size, 0, none⟩ (by go_simp) _ (S2.run_load_all hSw.1 Tryz.underlying24 rfl S2.boxSize)⟩) (s := hHeld) (h := ?_)
  refine tkA (i := 1) (v := .pointer (some ⟨w.heap.size + 1, 1, none⟩)) (y := Or.inl ⟨by rfl, fun wS hSw => by (try dsimp only at hSw); go_simp⟩) (s := hHeld) (h := ?_)
  refine tkA (i := 2) (v := .int .i64 p.id) (y := Or.inl ⟨by rfl, fun wS hSw => by (try dsimp only at hSw); have cS : wS.cell? ⟨w.heap.size + 1, 1, none⟩ = some (.int .i64 p.id) := hSw.2.cell 1 (pkc1 p a); clear hSw; go_simp⟩) (s := hHeld) (h := ?_)
  refine wpAnyH_ready (rs := [3]) (by kernel_rfl) (by simp) ?_
  refine (AllReadyH.cons (get_ops _ _ _ rfl) (fun K hK => ?_) AllReadyH.nil)
  go_simp
  have hq9 := R_x1.out.lt
  refine (HA4.out x1).mono ?_
  rintro e x2 ⟨A6, c6, rfl, hk6, hn6, hb⟩
  have HN6 : Hid (NewA (w.heap.size + 1 + 1 + 1) A6) := Lib.hid (hn6.more (by omega))
  clear hn6 hq9
  have T_x2 : Hid (BK 24 x2 w.heap.size [.slice A X.length c]) := Lib.hid (T_x1.out.step hb)
  have K_x2 : Hid (BK 33 x2 (w.heap.size + 1) (pkC p a)) := Lib.hid (K_x1.out.step hb)
  have R_x2 : Hid (BK 24 x2 (w.heap.size + 1 + 1) [.slice none 0 0]) := Lib.hid (R_x1.out.step hb)
  have B_x2 : Hid (Below w.heap.size w x2) := Lib.hid (stepB B_x1.out hb)
  have S_x2 : Hid (S2.IL x2 x2.heap.size A X) := Lib.hid (CL.step S_x1.out hb)
  clear T_x1 K_x1 R_x1 B_x1 S_x1
  have N_x2 : Hid (NK x2 A6 [kq]) := Lib.hid hk6
  clear hHeld hb hk6
  go_wp2_with fail
  refine hK.out _ _ ⟨T_x2.out, K_x2.out⟩ (fun hHeld => ?_)
  clear hK K
  try simp only [Act.put, List.setIfInBounds_toArray, List.set_cons_zero, List.set_cons_succ]
  refine wpAnyH_ready (rs := [4]) (by kernel_rfl) (by simp) ?_
  refine (AllReadyH.cons (get_ops _ _ _ rfl) (fun K hK => ?_) AllReadyH.nil)
  refine S2.wp_store_all 24 _ _ rfl rfl (w.heap.size + 1 + 1) (by go_simp) [.slice A X.length c] (by first | rfl | go_simp) 24 [.slice none 0 0] R_x2.out S2.boxSize rfl (onesB rfl) ?_
  intro x3 hM hP
  have R_x3 : Hid (BK 24 x3 (w.heap.size + 1 + 1) [.slice A X.length c]) := Lib.hid (hM)
  have T_x3 : Hid (BK 24 x3 w.heap.size [.slice A X.length c]) := Lib.hid (hP.other T_x2.out (by omega))
  have K_x3 : Hid (BK 33 x3 (w.heap.size + 1) (pkC p a)) := Lib.hid (hP.other K_x2.out (by omega))
  have B_x3 : Hid (Below w.heap.size w x3) := Lib.hid (hP.below B_x2.out (by omega))
  have S_x3 : Hid (S2.IL x3 x3.heap.size A X) := Lib.hid (S2.IL.put S_x2.out hP (HOF.out _ (by omega)))
  have N_x3 : Hid (NK x3 A6 [kq]) := Lib.hid (N_x2.out.put hP (HN6.out.ne (by omega)))
  clear T_x2 K_x2 R_x2 B_x2 S_x2 N_x2
  clear hM hP hHeld
  refine hK.out _ _ ⟨T_x3.out, K_x3.out⟩ (fun hHeld => ?_)
  clear hK K
  try simp only [Act.put, List.setIfInBounds_toArray, List.set_cons_zero, List.set_cons_succ]
  refine tkA (i := 5) (v := .bool true) (y := Or.inl ⟨by rfl, fun wS hSw => by (try dsimp only at hSw); go_simp⟩) (s := hHeld) (h := ?_)
  refine tkA (i := 6) (v := .slice A6 1 c6) (y := Or.inl ⟨by rfl, fun wS hSw => by (try dsimp only at hSw); go_simp⟩) (s := hHeld) (h := ?_)
  refine tkA (i := 7) (v := .int .i64 0) (y := Or.inl ⟨by rfl, fun wS hSw => by (try dsimp only at hSw); go_simp⟩) (s := hHeld) (h := ?_)
  refine wpAnyH_done (by kernel_rfl) ?_ _
  go_wp2_with fail
  rw [← HR.out]
  exact bodyPost_ret (v := .tuple #[S2.xv A c X, .bool true, .slice A6 1 c6, .int .i64 0]) (nres4 rfl _ _ (w.heap.size + 1 + 1) 24 [.slice A X.length c] _ _ _ _ rfl rfl rfl rfl R_x3.out Tryz.underlying24 rfl S2.boxSize) rfl ⟨A, c, A6, c6, rfl, HXC.out, S_x3.out, .inr (.inl ⟨rfl, fun h => h⟩), N_x3.out, HN6.out.more (by omega), B_x3.out⟩
 have q4 : (p.msg.level == 1) = false := by simp [hl1]
 have hl2 : p.msg.level = 2 := by omega
 have d1 := K_w2.out.cell 1 (pkc1 p a)
 go_wp2_with first
  | (refine wpList_load_v (by rfl) 24 (.tmp 2) rfl ⟨w.heap.size, 0, none⟩ rfl (S2.xv A c X) (S2.run_load_all T_w2.out Tryz.underlying24 rfl S2.boxSize) ?_)
 refine (HH.out w2 S_w2.out).mono ?_
 rintro e w3 ⟨rfl, hb⟩
 have T_w3 := Lib.hid (T_w2.out.step hb)
 have K_w3 := Lib.hid (K_w2.out.step hb)
 have R_w3 := Lib.hid (R_w2.out.step hb)
 have B_w3 := Lib.hid (stepB B_w2.out hb)
 have S_w3 : Hid (S2.IL w3 w3.heap.size A X) := Lib.hid (CL.step S_w2.out hb)
 clear hb d5 d1 T_w2 K_w2 R_w2 B_w2 S_w2 HH q3 q4
 by_cases hin : p.id ∈ X
 case pos =>
  have q5 : decide (p.id ∈ X) = true := decide_eq_true hin
  have HR : Hid ((X, false, [plainP 5 p.id], 0) = R) := Lib.hid (by rw [← HC.out.2.2.2.2 hk hc0 hl2 (fun h => h.1 hin), ans2 hk hl2, q5]; unfold S2.withI; rw [if_pos hin]; rfl)
  generalize plainP 5 p.id = kq at HA5 HR
  rw [q5]
  clear hk hc0 hl0 hl1 hl2 hlv HC HW HZ HA4 q5 hin
  go_upto_region 12 with fail
  obtain ⟨x1, hx1⟩ : ∃ x1, x1 = World.drew w3 := ⟨_, rfl⟩
  have hbD : Below w3.heap.size w3 x1 := by rw [hx1]; exact (Below.refl _ _).drew
  have T_x1 : Hid (BK 24 x1 w.heap.size [.slice A X.length c]) := Lib.hid (T_w3.out.step hbD)
  have K_x1 : Hid (BK 33 x1 (w.heap.size + 1) (pkC p a)) := Lib.hid (K_w3.out.step hbD)
  have R_x1 : Hid (BK 24 x1 (w.heap.size + 1 + 1) [.slice none 0 0]) := Lib.hid (R_w3.out.step hbD)
  have B_x1 : Hid (Below w.heap.size w x1) := Lib.hid (stepB B_w3.out hbD)
  have S_x1 : Hid (S2.IL x1 x1.heap.size A X) := Lib.hid (CL.step S_w3.out hbD)
  clear T_w3 K_w3 R_w3 B_w3 S_w3
  have hbd : (fun w' => BK 24 w' w.heap.size [.slice A X.length c] ∧ BK 33 w' (w.heap.size + 1) (pkC p a)) (World.drew w3) := by rw [← hx1]; exact ⟨T_x1.out, K_x1.out⟩
  have hSD : (fun w' => BK 24 w' w.heap.size [.slice A X.length c] ∧ BK 33 w' (w.heap.size + 1) (pkC p a)) x1 := ⟨T_x1.out, K_x1.out⟩
  have HWD := Lib.hid hx1
  clear hx1 hbD
  refine wp_region_held_drew (S := fun w' => BK 24 w' w.heap.size [.slice A X.length c] ∧ BK 33 w' (w.heap.size + 1) (pkC p a)) (by kernel_rfl) hbd (fun hHeld => ?_)
  rw [← HWD.out]
  clear hHeld
  have hHeld := hSD
  clear hSD hbd HWD
  refine tkA (i := 0) (v := (S2.xv A c X)) (y := Or.inl ⟨by rfl, fun wS hSw => by (try dsimp only at hSw); exact exec_load 24 _ rfl ⟨w.heap.size, 0, none⟩ (by go_simp) _ (S2.run_load_all hSw.1 Tryz.underlying24 rfl S2.boxSize)⟩) (s := hHeld) (h := ?_)
  refine tkA (i := 1) (v := .pointer (some ⟨w.heap.size + 1, 1, none⟩)) (y := Or.inl ⟨by rfl, fun wS hSw => by (try dsimp only at hSw); go_simp⟩) (s := hHeld) (h := ?_)
  refine tkA (i := 2) (v := .int .i64 p.id) (y := Or.inl ⟨by rfl, fun wS hSw => by (try dsimp only at hSw); have cS : wS.cell? ⟨w.heap.size + 1, 1, none⟩ = some (.int .i64 p.id) := hSw.2.cell 1 (pkc1 p a); clear hSw; go_simp⟩) (s := hHeld) (h := ?_)
  refine wpAnyH_ready (rs := [3]) (by kernel_rfl) (by simp) ?_
  refine (AllReadyH.cons (get_ops _ _ _ rfl) (fun K hK => ?_) AllReadyH.nil)
  go_simp
  have hq9 := R_x1.out.lt
  refine (HA5.out x1).mono ?_
  rintro e x2 ⟨A6, c6, rfl, hk6, hn6, hb⟩
  have HN6 : Hid (NewA (w.heap.size + 1 + 1 + 1) A6) := Lib.hid (hn6.more (by omega))
  clear hn6 hq9
  have T_x2 : Hid (BK 24 x2 w.heap.size [.slice A X.length c]) := Lib.hid (T_x1.out.step hb)
  have K_x2 : Hid (BK 33 x2 (w.heap.size + 1) (pkC p a)) := Lib.hid (K_x1.out.step hb)
  have R_x2 : Hid (BK 24 x2 (w.heap.size + 1 + 1) [.slice none 0 0]) := Lib.hid (R_x1.out.step hb)
  have B_x2 : Hid (Below w.heap.size w x2) := Lib.hid (stepB B_x1.out hb)
  have S_x2 : Hid (S2.IL x2 x2.heap.size A X) := Lib.hid (CL.step S_x1.out hb)
  clear T_x1 K_x1 R_x1 B_x1 S_x1
  have N_x2 : Hid (NK x2 A6 [kq]) := Lib.hid hk6
  clear hHeld hb hk6
  go_wp2_with fail
  refine hK.out _ _ ⟨T_x2.out, K_x2.out⟩ (fun hHeld => ?_)
  clear hK K
  try simp only [Act.put, List.setIfInBounds_toArray, List.set_cons_zero, List.set_cons_succ]
  refine wpAnyH_ready (rs := [4]) (by kernel_rfl) (by simp) ?_
  refine (AllReadyH.cons (get_ops _ _ _ rfl) (fun K hK => ?_) AllReadyH.nil)
  refine S2.wp_store_all 24 _ _ rfl rfl (w.heap.size + 1 + 1) (by go_simp) [.slice A X.length c] (by first | rfl | go_simp) 24 [.slice none 0 0] R_x2.out S2.boxSize rfl (onesB rfl) ?_
  intro x3 hM hP
  have R_x3 : Hid (BK 24 x3 (w.heap.size + 1 + 1) [.slice A X.length c]) := Lib.hid (hM)
  have T_x3 : Hid (BK 24 x3 w.heap.size [.slice A X.length c]) := Lib.hid (hP.other T_x2.out (by omega))
  have K_x3 : Hid (BK 33 x3 (w.heap.size + 1) (pkC p a)) := Lib.hid (hP.other K_x2.out (by omega))
  have B_x3 : Hid (Below w.heap.size w x3) := Lib.hid (hP.below B_x2.out (by omega))
  have S_x3 : Hid (S2.IL x3 x3.heap.size A X) := Lib.hid (S2.IL.put S_x2.out hP (HOF.out _ (by omega)))
  have N_x3 : Hid (NK x3 A6 [kq]) := Lib.hid (N_x2.out.put hP (HN6.out.ne (by omega)))
  clear T_x2 K_x2 R_x2 B_x2 S_x2 N_x2
  clear hM hP hHeld
  refine hK.out _ _ ⟨T_x3.out, K_x3.out⟩ (fun hHeld => ?_)
  clear hK K
  try simp only [Act.put, List.setIfInBounds_toArray, List.set_cons_zero, List.set_cons_succ]
  refine tkA (i := 5) (v := .bool false) (y := Or.inl ⟨by rfl, fun wS hSw => by (try dsimp only at hSw); go_simp⟩) (s := hHeld) (h := ?_)
  refine tkA (i := 6) (v := .slice A6 1 c6) (y := Or.inl ⟨by rfl, fun wS hSw => by (try dsimp only at hSw); go_simp⟩) (s := hHeld) (h := ?_)
  refine tkA (i := 7) (v := .int .i64 0) (y := Or.inl ⟨by rfl, fun wS hSw => by (try dsimp only at hSw); go_simp⟩) (s := hHeld) (h := ?_)
  refine wpAnyH_done (by kernel_rfl) ?_ _
  go_wp2_with fail
  rw [← HR.out]
  exact bodyPost_ret (v := .tuple #[S2.xv A c X, .bool false, .slice A6 1 c6, .int .i64 0]) (nres4 rfl _ _ (w.heap.size + 1 + 1) 24 [.slice A X.length c] _ _ _ _ rfl rfl rfl rfl R_x3.out Tryz.underlying24 rfl S2.boxSize) rfl ⟨A, c, A6, c6, rfl, HXC.out, S_x3.out, .inr (.inl ⟨rfl, fun h => h⟩), N_x3.out, HN6.out.more (by omega), B_x3.out⟩
 have q5 : decide (p.id ∈ X) = false := decide_eq_false hin
 rw [q5]
 have d0 := T_w3.out.cell 0 rfl
 by_cases hf : 32 ≤ X.length
 case pos =>
  have q6 : decide ((32 : Int) ≤ (X.length : Int)) = true := decide_eq_true (by omega)
  have HR : Hid (([], false, [], 6) = R) := Lib.hid (HC.out.2.2.2.1 hk hc0 hl2 hin hf)
  clear hk hc0 hl0 hl1 hl2 hlv hf HC HW HZ HA4 HA5 q5 hin HOF
  go_wp2_with first
   | (refine S2.wpList_store_all (by rfl) 24 (.tmp 4) (.tmp 43) rfl rfl (w.heap.size + 1 + 1) rfl [.slice none 0 0] rfl 24 [.slice none 0 0] R_w3.out S2.boxSize rfl (onesB rfl) ?_; intro wf hM hP; have R_wf := Lib.hid hM; have B_wf := Lib.hid (hP.below B_w3.out (by omega)); clear hM hP)
  rw [← HR.out]
  exact bodyPost_ret (v := .tuple #[S2.xv none 0 [], .bool false, .slice none 0 0, .int .i64 6]) (nres4 rfl _ _ (w.heap.size + 1 + 1) 24 [.slice none 0 0] _ _ _ _ rfl rfl rfl rfl R_wf.out Tryz.underlying24 rfl S2.boxSize) rfl ⟨none, 0, none, 0, rfl, Nat.le_refl _, CL.nil _ _ _, .inl rfl, NK.nil _ _, NewA.nil _, B_wf.out⟩
 have q6 : decide ((32 : Int) ≤ (X.length : Int)) = false := decide_eq_false (by omega)
 have HR : Hid ((S2.insI X p.id, true, [plainP 5 p.id], 0) = R) := Lib.hid (by rw [← HC.out.2.2.2.2 hk hc0 hl2 (fun h => hf h.2), ans2 hk hl2, q5]; unfold S2.withI; rw [if_neg hin]; rfl)
 generalize plainP 5 p.id = kq at HA5 HR
 generalize S2.insI X p.id = D at HW HR
 clear hk hc0 hl0 hl1 hl2 hlv hf HC HZ HA4 q5 hin
 go_upto_region 15 with fail
 clear d0 q6
 obtain ⟨x1, hx1⟩ : ∃ x1, x1 = World.drew w3 := ⟨_, rfl⟩
 have hbD : Below w3.heap.size w3 x1 := by rw [hx1]; exact (Below.refl _ _).drew
 have T_x1 : Hid (BK 24 x1 w.heap.size [.slice A X.length c]) := Lib.hid (T_w3.out.step hbD)
 have K_x1 : Hid (BK 33 x1 (w.heap.size + 1) (pkC p a)) := Lib.hid (K_w3.out.step hbD)
 have R_x1 : Hid (BK 24 x1 (w.heap.size + 1 + 1) [.slice none 0 0]) := Lib.hid (R_w3.out.step hbD)
 have B_x1 : Hid (Below w.heap.size w x1) := Lib.hid (stepB B_w3.out hbD)
 have S_x1 : Hid (S2.IL x1 x1.heap.size A X) := Lib.hid (CL.step S_w3.out hbD)
 clear T_w3 K_w3 R_w3 B_w3 S_w3
 have hbd : (fun w' => BK 24 w' w.heap.size [.slice A X.length c] ∧ BK 33 w' (w.heap.size + 1) (pkC p a)) (World.drew w3) := by rw [← hx1]; exact ⟨T_x1.out, K_x1.out⟩
 have hSD : (fun w' => BK 24 w' w.heap.size [.slice A X.length c] ∧ BK 33 w' (w.heap.size + 1) (pkC p a)) x1 := ⟨T_x1.out, K_x1.out⟩
 have HWD := Lib.hid hx1
 clear hx1 hbD
 refine wp_region_held_drew (S := fun w' => BK 24 w' w.heap.size [.slice A X.length c] ∧ BK 33 w' (w.heap.size + 1) (pkC p a)) (by kernel_rfl) hbd (fun hHeld => ?_)
 rw [← HWD.out]
 clear hHeld
 have hHeld := hSD
 clear hSD hbd HWD
 refine tkA (i := 0) (v := .pointer (some ⟨w.heap.size, 0, none⟩)) (y := Or.inl ⟨by rfl, fun wS hSw => by (try dsimp only at hSw); go_simp⟩) (s := hHeld) (h := ?_)
 refine tkA (i := 1) (v := .slice A X.length c) (y := Or.inl ⟨by rfl, fun wS hSw => by (try dsimp only at hSw); have cS : wS.cell? ⟨w.heap.size, 0, none⟩ = some (.slice A X.length c) := hSw.1.cell 0 rfl; clear hSw; go_simp⟩) (s := hHeld) (h := ?_)
 refine tkA (i := 2) (v := .pointer (some ⟨w.heap.size + 1, 1, none⟩)) (y := Or.inl ⟨by rfl, fun wS hSw => by (try dsimp only at hSw); go_simp⟩) (s := hHeld) (h := ?_)
 refine tkA (i := 3) (v := .int .i64 p.id) (y := Or.inl ⟨by rfl, fun wS hSw => by (try dsimp only at hSw); have cS : wS.cell? ⟨w.heap.size + 1, 1, none⟩ = some (.int .i64 p.id) := hSw.2.cell 1 (pkc1 p a); clear hSw; go_simp⟩) (s := hHeld) (h := ?_)
 refine tkA (i := 6) (v := .pointer (some ⟨w.heap.size + 1, 1, none⟩)) (y := Or.inl ⟨by rfl, fun wS hSw => by (try dsimp only at hSw); go_simp⟩) (s := hHeld) (h := ?_)
 refine tkA (i := 7) (v := .int .i64 p.id) (y := Or.inl ⟨by rfl, fun wS hSw => by (try dsimp only at hSw); have cS : wS.cell? ⟨w.heap.size + 1, 1, none⟩ = some (.int .i64 p.id) := hSw.2.cell 1 (pkc1 p a); clear hSw; go_simp⟩) (s := hHeld) (h := ?_)
 refine wpAnyH_ready (rs := [4]) (by kernel_rfl) (by simp) ?_
 refine (AllReadyH.cons (get_ops _ _ _ rfl) (fun K hK => ?_) AllReadyH.nil)
 go_simp
 have hq9 := R_x1.out.lt
 refine (HW.out x1 S_x1.out).mono ?_
 rintro e x2 ⟨A5, c5, rfl, hc5, hl5, hn5, hb⟩
 have HC5 := Lib.hid hc5
 have HN5 : Hid (NewA (w.heap.size + 1 + 1 + 1) A5) := Lib.hid (hn5.more (by omega))
 clear hc5 hn5 hq9
 have T_x2 : Hid (BK 24 x2 w.heap.size [.slice A X.length c]) := Lib.hid (T_x1.out.step hb)
 have K_x2 : Hid (BK 33 x2 (w.heap.size + 1) (pkC p a)) := Lib.hid (K_x1.out.step hb)
 have R_x2 : Hid (BK 24 x2 (w.heap.size + 1 + 1) [.slice none 0 0]) := Lib.hid (R_x1.out.step hb)
 have B_x2 : Hid (Below w.heap.size w x2) := Lib.hid (stepB B_x1.out hb)
 have S_x2 : Hid (S2.IL x2 x2.heap.size A X) := Lib.hid (CL.step S_x1.out hb)
 clear T_x1 K_x1 R_x1 B_x1 S_x1
 have L_x2 : Hid (S2.IL x2 x2.heap.size A5 D) := Lib.hid hl5
 clear hHeld hb hl5
 go_wp2_with fail
 refine hK.out _ _ ⟨T_x2.out, K_x2.out⟩ (fun hHeld => ?_)
 clear hK K
 try simp only [Act.put, List.setIfInBounds_toArray, List.set_cons_zero, List.set_cons_succ]
 refine tkA (i := 5) (v := .agg #[.slice A5 D.length c5]) (y := Or.inl ⟨by rfl, fun wS hSw => by (try dsimp only at hSw); go_simp⟩) (s := hHeld) (h := ?_)
 refine wpAnyH_ready (rs := [8]) (by kernel_rfl) (by simp) ?_
 refine (AllReadyH.cons (get_ops _ _ _ rfl) (fun K hK => ?_) AllReadyH.nil)
 go_simp
 have hq9 := R_x2.out.lt
 refine (HA5.out x2).mono ?_
 rintro e x3 ⟨A6, c6, rfl, hk6, hn6, hb⟩
 have HN6 : Hid (NewA (w.heap.size + 1 + 1 + 1) A6) := Lib.hid (hn6.more (by omega))
 clear hn6 hq9
 have T_x3 : Hid (BK 24 x3 w.heap.size [.slice A X.length c]) := Lib.hid (T_x2.out.step hb)
 have K_x3 : Hid (BK 33 x3 (w.heap.size + 1) (pkC p a)) := Lib.hid (K_x2.out.step hb)
 have R_x3 : Hid (BK 24 x3 (w.heap.size + 1 + 1) [.slice none 0 0]) := Lib.hid (R_x2.out.step hb)
 have B_x3 : Hid (Below w.heap.size w x3) := Lib.hid (stepB B_x2.out hb)
 have S_x3 : Hid (S2.IL x3 x3.heap.size A X) := Lib.hid (CL.step S_x2.out hb)
 have L_x3 : Hid (S2.IL x3 x3.heap.size A5 D) := Lib.hid (CL.step L_x2.out hb)
 clear T_x2 K_x2 R_x2 B_x2 S_x2 L_x2
 have N_x3 : Hid (NK x3 A6 [kq]) := Lib.hid hk6
 clear hHeld hb hk6
 go_wp2_with fail
 refine hK.out _ _ ⟨T_x3.out, K_x3.out⟩ (fun hHeld => ?_)
 clear hK K
 try simp only [Act.put, List.setIfInBounds_toArray, List.set_cons_zero, List.set_cons_succ]
 refine wpAnyH_ready (rs := [9]) (by kernel_rfl) (by simp) ?_
 refine (AllReadyH.cons (get_ops _ _ _ rfl) (fun K hK => ?_) AllReadyH.nil)
 refine S2.wp_store_all 24 _ _ rfl rfl (w.heap.size + 1 + 1) (by go_simp) [.slice A5 D.length c5] (by first | rfl | go_simp) 24 [.slice none 0 0] R_x3.out S2.boxSize rfl (onesB rfl) ?_
 intro x4 hM hP
 have R_x4 : Hid (BK 24 x4 (w.heap.size + 1 + 1) [.slice A5 D.length c5]) := Lib.hid (hM)
 have T_x4 : Hid (BK 24 x4 w.heap.size [.slice A X.length c]) := Lib.hid (hP.other T_x3.out (by omega))
 have K_x4 : Hid (BK 33 x4 (w.heap.size + 1) (pkC p a)) := Lib.hid (hP.other K_x3.out (by omega))
 have B_x4 : Hid (Below w.heap.size w x4) := Lib.hid (hP.below B_x3.out (by omega))
 have S_x4 : Hid (S2.IL x4 x4.heap.size A X) := Lib.hid (S2.IL.put S_x3.out hP (HOF.out _ (by omega)))
 have L_x4 : Hid (S2.IL x4 x4.heap.size A5 D) := Lib.hid (ILp L_x3.out hP (HN5.out.ne (by omega)))
 have N_x4 : Hid (NK x4 A6 [kq]) := Lib.hid (N_x3.out.put hP (HN6.out.ne (by omega)))
 clear T_x3 K_x3 R_x3 B_x3 S_x3 L_x3 N_x3
 clear hM hP hHeld
 refine hK.out _ _ ⟨T_x4.out, K_x4.out⟩ (fun hHeld => ?_)
 clear hK K
 try simp only [Act.put, List.setIfInBounds_toArray, List.set_cons_zero, List.set_cons_succ]
 refine tkA (i := 10) (v := .bool true) (y := Or.inl ⟨by rfl, fun wS hSw => by (try dsimp only at hSw); go_simp⟩) (s := hHeld) (h := ?_)
 refine tkA (i := 11) (v := .slice A6 1 c6) (y := Or.inl ⟨by rfl, fun wS hSw => by (try dsimp only at hSw); go_simp⟩) (s := hHeld) (h := ?_)
 refine tkA (i := 12) (v := .int .i64 0) (y := Or.inl ⟨by rfl, fun wS hSw => by (try dsimp only at hSw); go_simp⟩) (s := hHeld) (h := ?_)
 refine wpAnyH_done (by kernel_rfl) ?_ _
 go_wp2_with fail
 rw [← HR.out]
 exact bodyPost_ret (v := .tuple #[S2.xv A5 c5 D, .bool true, .slice A6 1 c6, .int .i64 0]) (nres4 rfl _ _ (w.heap.size + 1 + 1) 24 [.slice A5 D.length c5] _ _ _ _ rfl rfl rfl rfl R_x4.out Tryz.underlying24 rfl S2.boxSize) rfl ⟨A5, c5, A6, c6, rfl, HC5.out, L_x4.out, .inr (.inr (HN5.out.more (by omega))), N_x4.out, HN6.out.more (by omega), B_x4.out⟩
end Go.Proofs.YtomlideijhejfaaGreatDoor
namespace Go.Proofs.YtomlideijhejfaaGreatDoor
open Go.RowKit
open S2 (BK Put)

/-- a packet without lists -/
def Bare (q : Pkt) : Prop := q.msg.props = [] ∧ q.wmsg.props = [] ∧ q.subs = [] ∧ q.filters = [] ∧ q.codes = []
theorem bare_plain (k n : Int) : Bare (plainP k n) := ⟨rfl, rfl, rfl, rfl, rfl⟩
theorem bare_zero : Bare Pkt.zero := ⟨rfl, rfl, rfl, rfl, rfl⟩
theorem psame_bare {q : Pkt} (h : Bare q) (w : World) : Calls Tryz.prog 27 #[pkV q PA.zero, pkV q PA.zero] w fun e w' => e = .returned (.bool true) ∧ Below w.heap.size w w' := by
 obtain ⟨h1, h2, h3, h4, h5⟩ := h
 have := rSameP_any q q PA.zero PA.zero w (pin0 w h1 h2 h3 h4 h5) (pin0 w h1 h2 h3 h4 h5) (psz0 h1 h2 h3 h4 h5) (psz0 h1 h2 h3 h4 h5)
 rw [show sameP q q = true by simp [sameP]] at this
 exact this
theorem isame_self (A A' : Option Addr) (c c' : Nat) (X : List Int) (hX : X.length ≤ 1000000) (w : World) (hs : S2.IL w w.heap.size A X) (ht : S2.IL w w.heap.size A' X) :
 Calls Tryz.prog 11 #[S2.xv A c X, S2.xv A' c' X] w fun e w' => e = .returned (.bool true) ∧ Below w.heap.size w w' := by
 have := nrSame_any A A' c c' X X w hs ht (by omega) (by omega)
 rw [decide_eq_true rfl] at this
 exact this

set_option maxRecDepth 20000 in
set_option maxHeartbeats 4000000 in
theorem packets15_any (A A' : Option Addr) (c c' : Nat) (l : List Pkt) (w : World) (h1 : NK w A l) (h2 : NK w A' l) (hp : ∀ q ∈ l, Bare q) :
 Calls Tryz.prog 12 #[.slice A l.length c, .slice A' l.length c'] w fun e w' => e = .returned (.bool true) ∧ Below w.heap.size w w' := by
 have q0 : ((l.length : Int) != (l.length : Int)) = false := by simp
 have HS1 := Lib.hid h1
 have HS2 := Lib.hid h2
 have HP := Lib.hid (fun q hq w1 => psame_bare (hp q hq) w1)
 clear h1 h2 hp
 go_enter Tryz.func12, Tryz.ntmps12
 go_wp2_with fail
 go_loopg [5] l.length (fun g v wr => ∃ k : Nat, k + g = l.length ∧ v = .int .i64 k ∧ Below w.heap.size w wr)
 case atStart => exact ⟨0, by omega, rfl, Below.refl _ _⟩
 case round =>
  obtain ⟨k, hkg, rfl, hb0⟩ := hrel
  have HB := Lib.hid hb0
  have HK := Lib.hid hkg
  clear hb0
  cases gk with
  | zero =>
   obtain rfl : k = l.length := by omega
   have e3 : decide ((l.length : Int) < (l.length : Int)) = false := decide_eq_false (by omega)
   clear hkg
   go_wp2
   go_ret
   exact ⟨rfl, HB.out⟩
  | succ g =>
   have hl1 := HS1.out.1
   obtain rfl : k = 0 := by omega
   obtain ⟨q, rfl⟩ : ∃ q, l = [q] := by
    match l, hkg with
    | [q], _ => exact ⟨q, rfl⟩
    | q :: r :: s, _ => simp at hl1
    | [], h => simp at h
   obtain ⟨g1, rfl, hg1⟩ := (HS1.out.step HB.out).2 q (List.mem_singleton.2 rfl)
   obtain ⟨g2, rfl, hg2⟩ := (HS2.out.step HB.out).2 q (List.mem_singleton.2 rfl)
   have HQ := Lib.hid (HP.out q (List.mem_singleton.2 rfl))
   have M_wr : Hid (BK 33 wr g1 (pkC q PA.zero)) := Lib.hid hg1
   have E_wr : Hid (BK 33 wr g2 (pkC q PA.zero)) := Lib.hid hg2
   have B_wr : Hid (Below w.heap.size w wr) := HB
   have e3 : decide (((0 : Nat) : Int) < (([q] : List Pkt).length : Int)) = true := decide_eq_true (by simp)
   obtain rfl : g = 0 := by simp at hkg; omega
   clear hg1 hg2 hl1 hkg HS1 HS2 HP HB
   unfold pkV at HQ
   go_upto_region 6 with fail
   obtain ⟨x1, hx1⟩ : ∃ x1, x1 = World.drew wr := ⟨_, rfl⟩
   have hbD : Below wr.heap.size wr x1 := by rw [hx1]; exact (Below.refl _ _).drew
   have M_x1 : Hid (BK 33 x1 g1 (pkC q PA.zero)) := Lib.hid (M_wr.out.step hbD)
   have E_x1 : Hid (BK 33 x1 g2 (pkC q PA.zero)) := Lib.hid (E_wr.out.step hbD)
   have B_x1 : Hid (Below w.heap.size w x1) := Lib.hid (stepB B_wr.out hbD)
   clear M_wr E_wr B_wr
   have hbd : (fun w' => BK 33 w' g1 (pkC q PA.zero) ∧ BK 33 w' g2 (pkC q PA.zero)) (World.drew wr) := by rw [← hx1]; exact ⟨M_x1.out, E_x1.out⟩
   have hSD : (fun w' => BK 33 w' g1 (pkC q PA.zero) ∧ BK 33 w' g2 (pkC q PA.zero)) x1 := ⟨M_x1.out, E_x1.out⟩
   have HWD := Lib.hid hx1
   clear hx1 hbD
   refine wp_region_held_drew (S := fun w' => BK 33 w' g1 (pkC q PA.zero) ∧ BK 33 w' g2 (pkC q PA.zero)) (by kernel_rfl) hbd (fun hHeld => ?_)
   rw [← HWD.out]
   clear hHeld
   have hHeld := hSD
   clear hSD hbd HWD
   refine tkA (i := 0) (v := .slice (some ⟨g1, 0, none⟩) 1 c) (y := Or.inl ⟨by rfl, fun wS hSw => by (try dsimp only at hSw); go_simp⟩) (s := hHeld) (h := ?_)
   refine tkA (i := 1) (v := .int .i64 0) (y := Or.inl ⟨by rfl, fun wS hSw => by (try dsimp only at hSw); go_simp⟩) (s := hHeld) (h := ?_)
   refine tkA (i := 2) (v := .pointer (some ⟨g1, 0, none⟩)) (y := Or.inl ⟨by rfl, fun wS hSw => by (try dsimp only at hSw); go_simp⟩) (s := hHeld) (h := ?_)
   refine tkA (i := 3) (v := .agg (pkC q PA.zero).toArray) (y := Or.inl ⟨by rfl, fun wS hSw => by (try dsimp only at hSw); exact exec_load 33 _ rfl ⟨g1, 0, none⟩ (by go_simp) _ (S2.run_load_all hSw.1 Tryz.underlying33 rfl info33)⟩) (s := hHeld) (h := ?_)
   refine tkA (i := 4) (v := .slice (some ⟨g2, 0, none⟩) 1 c') (y := Or.inl ⟨by rfl, fun wS hSw => by (try dsimp only at hSw); go_simp⟩) (s := hHeld) (h := ?_)
   refine tkA (i := 5) (v := .int .i64 0) (y := Or.inl ⟨by rfl, fun wS hSw => by (try dsimp only at hSw); go_simp⟩) (s := hHeld) (h := ?_)
   refine tkA (i := 6) (v := .pointer (some ⟨g2, 0, none⟩)) (y := Or.inl ⟨by rfl, fun wS hSw => by (try dsimp only at hSw); go_simp⟩) (s := hHeld) (h := ?_)
   refine tkA (i := 7) (v := .agg (pkC q PA.zero).toArray) (y := Or.inl ⟨by rfl, fun wS hSw => by (try dsimp only at hSw); exact exec_load 33 _ rfl ⟨g2, 0, none⟩ (by go_simp) _ (S2.run_load_all hSw.2 Tryz.underlying33 rfl info33)⟩) (s := hHeld) (h := ?_)
   refine wpAnyH_ready (rs := [8]) (by kernel_rfl) (by simp) ?_
   refine (AllReadyH.cons (get_ops _ _ _ rfl) (fun K hK => ?_) AllReadyH.nil)
   go_simp
   refine (HQ.out x1).mono ?_
   rintro e x2 ⟨rfl, hb⟩
   have M_x2 : Hid (BK 33 x2 g1 (pkC q PA.zero)) := Lib.hid (M_x1.out.step hb)
   have E_x2 : Hid (BK 33 x2 g2 (pkC q PA.zero)) := Lib.hid (E_x1.out.step hb)
   have B_x2 : Hid (Below w.heap.size w x2) := Lib.hid (stepB B_x1.out hb)
   clear M_x1 E_x1 B_x1
   clear hHeld hb
   go_wp2_with fail
   refine hK.out _ _ ⟨M_x2.out, E_x2.out⟩ (fun hHeld => ?_)
   clear hK K
   try simp only [Act.put, List.setIfInBounds_toArray, List.set_cons_zero, List.set_cons_succ]
   refine tkA (i := 9) (v := .bool false) (y := Or.inl ⟨by rfl, fun wS hSw => by (try dsimp only at hSw); go_simp⟩) (s := hHeld) (h := ?_)
   refine wpAnyH_done (by kernel_rfl) ?_ _
   go_wp2_with fail
   go_roundg 0
   case measure => omega
   case rel => exact ⟨1, by simp, rfl, B_x2.out⟩

/-- the results: a struct in a block of its own, and two values -/
theorem nres3 {P : Program} {fn : Func} {p q r : Tmp} {ty : TypeId} (h : fn.results = #[.cell p ty, .tmp q, .tmp r]) (tmps : Array Value) (w : World) (g : Nat) (t : TypeId) (vs : List Value) (d : TypeDesc) (v u : Value)
 (hp : tmps.getD p undef = .pointer (some ⟨g, 0, none⟩)) (hq : tmps.getD q undef = v) (hr : tmps.getD r undef = u) (hg : BK t w g vs)
 (hu : P.underlying ty = some d) (hd : (match d with | .struct _ | .array _ _ => true | _ => false) = true) (hi : (P.info? ty).map (·.size) = some vs.length) :
 (results fn tmps).run P w = .ok (.tuple #[.agg vs.toArray, v, u]) w := by
 have hp' : tmps[p]?.getD undef = .pointer (some ⟨g, 0, none⟩) := by simpa using hp
 have hq' : tmps[q]?.getD undef = v := by simpa using hq
 have hr' : tmps[r]?.getD undef = u := by simpa using hr
 simp [results, h, hp', hq', hr', asAddr, S2.run_load_all hg hu hd hi]
def stepR (X : List Int) (p : Pkt) : List Int × Bool :=
 if p.kind = 6 then (if (nrelR X p.kind p.id).2.2 ≠ 0 then (X, false) else ((nrelR X p.kind p.id).1, false)) else (if (naccR X p).2.2.2 ≠ 0 then (X, false) else ((naccR X p).1, (naccR X p).2.1))
/-- an inbox, whether the message is delivered, and that program and specification agree -/
def RetSt (A0 : Option Addr) (X0 : List Int) (r : List Int × Bool) (W : World) (e : Ending) (w' : World) : Prop := ∃ A c, e = .returned (.tuple #[S2.xv A c r.1, .bool r.2, .bool true]) ∧ r.1.length ≤ c ∧ S2.IL w' w'.heap.size A r.1 ∧ S2.Fr W A0 X0 A r.1 ∧ Below W.heap.size W w'
theorem rel_len {X : List Int} {k n : Int} {Y : List Int} {q : Pkt} {f : Int} (h : nrelR X k n = (Y, q, f)) : Y.length ≤ X.length ∧ Bare q := by
 unfold nrelR at h
 split at h
 · obtain ⟨rfl, rfl, rfl⟩ : [] = Y ∧ Pkt.zero = q ∧ (10 : Int) = f := by simpa using h
   exact ⟨by simp, bare_zero⟩
 · split at h
   · obtain ⟨rfl, rfl, rfl⟩ : [] = Y ∧ Pkt.zero = q ∧ (15 : Int) = f := by simpa using h
     exact ⟨by simp, bare_zero⟩
   · obtain ⟨rfl, rfl, rfl⟩ : S2.delI X n = Y ∧ plainP 7 n = q ∧ (0 : Int) = f := by simpa using h
     exact ⟨S2.del_len X n, bare_plain _ _⟩
theorem bare_ans {p q : Pkt} (h : q ∈ ansL p) : Bare q := by
 unfold ansL at h
 split at h
 · cases h
 · next h0 =>
   rw [List.mem_singleton] at h
   rw [h, ansP_eq h0]
   exact bare_plain _ _
theorem acc_facts {X : List Int} {p : Pkt} {Y : List Int} {d : Bool} {ks : List Pkt} {f : Int} (h : naccR X p = (Y, d, ks, f)) : Y.length ≤ X.length + 1 ∧ ∀ q ∈ ks, Bare q := by
 unfold naccR at h
 split at h
 · obtain ⟨rfl, _, rfl, _⟩ : [] = Y ∧ false = d ∧ [] = ks ∧ (10 : Int) = f := by simpa using h
   exact ⟨by simp, fun q hq => by cases hq⟩
 split at h
 · obtain ⟨rfl, _, rfl, _⟩ : [] = Y ∧ false = d ∧ [] = ks ∧ (checkP p : Int) = f := by simpa using h
   exact ⟨by simp, fun q hq => by cases hq⟩
 split at h
 · obtain ⟨rfl, _, rfl, _⟩ : X = Y ∧ true = d ∧ ansL p = ks ∧ (0 : Int) = f := by simpa using h
   exact ⟨by omega, fun q hq => bare_ans hq⟩
 split at h
 · obtain ⟨rfl, _, rfl, _⟩ : [] = Y ∧ false = d ∧ [] = ks ∧ (6 : Int) = f := by simpa using h
   exact ⟨by simp, fun q hq => by cases hq⟩
 · have h1 := congrArg Prod.fst h
   have h2 := congrArg (fun r => r.2.2.1) h
   dsimp only at h1 h2
   subst h1 h2
   refine ⟨?_, fun q hq => bare_ans hq⟩
   unfold S2.withI
   split
   · omega
   · rw [S2.ins_len]; omega
theorem BigZ.sz {p : Pkt} (h : BigZ p) : PSz p := h.1.sz
theorem BigZ.tx {p : Pkt} (h : BigZ p) : PTx p := h.1.tx

set_option maxRecDepth 20000 in
set_option maxHeartbeats 8000000 in
theorem step15_any (A : Option Addr) (c : Nat) (X : List Int) (p : Pkt) (a : PA) (w : World) (hok : S1.Okw w) (hsl : S2.IL w w.heap.size A X) (hxc : X.length ≤ c) (hv : S2.ckI X 0 = 0) (hp : PIn w p a) (hb : BigZ p) :
 Calls Tryz.prog 13 #[S2.xv A c X, pkV p a] w (RetSt A X (stepR X p) w) := by
 have hm : X.length ≤ 100000 := by have := (S2.ck_ok.1 hv).1; omega
 have hup := (S2.ck_ok.1 hv).2.1
 have HOF := Lib.hid (fun g hg => S2.Off.lt (g := g) hsl hg)
 have HS := Lib.hid hsl
 have HPI := Lib.hid hp
 have HXC := Lib.hid hxc
 have HOK := Lib.hid hok
 unfold stepR
 by_cases hk : p.kind = 6
 · rw [if_pos hk]
   obtain ⟨⟨Y, q, f⟩, hr⟩ : ∃ r, nrelR X p.kind p.id = r := ⟨_, rfl⟩
   rw [hr]
   dsimp only
   obtain ⟨hYl, hbare⟩ := rel_len hr
   have H1 : Hid (∀ w1, S2.IL w1 w1.heap.size A X → Calls Tryz.prog 16 #[S2.xv A c X, pkV p a] w1 (RetNr (Y, q, f) w1)) := Lib.hid (fun w1 h => by have := nRelease_any A c X p a w1 h (by omega) hup; rw [hr] at this; exact this)
   have H2 : Hid (∀ w1, S2.IL w1 w1.heap.size A X → Calls Tryz.prog 28 #[S2.xv A c X, pkV p a] w1 (RetNs A X (Y, q, f) w1)) := Lib.hid (fun w1 h => by have := nrRelease_any A c X p a w1 h (by omega); rw [hr] at this; exact this)
   have HP := Lib.hid (fun w1 => psame_bare hbare w1)
   have HSM := Lib.hid (fun A1 A2 c1 c2 w1 hs ht => isame_self A1 A2 c1 c2 Y (by omega) w1 hs ht)
   have q1 : (p.kind == 6) = true := by simp [hk]
   obtain ⟨R, hR⟩ : ∃ R, (if f ≠ 0 then (X, false) else (Y, false)) = R := ⟨_, rfl⟩
   rw [hR]
   have HRR := Lib.hid hR
   clear hR
   clear hk hr hYl hbare hm hup hv hok hsl hxc hp hb
   unfold pkV at H1 H2 HP ⊢
   go_enter Tryz.func13, Tryz.ntmps13
   go_upto_region 1 with fail
   refine name_world (C := fun w1 => Code.wp _ _ _ _ w1) (((w.alloc (.cells [.slice A X.length c].toArray 24)).alloc (.cells (pkC p a).toArray 33)).alloc (.cells [.slice none 0 0].toArray 24)) ?_
   intro w1 hw1
   obtain ⟨hB0, t1, t2, t3⟩ := three hw1
   have T_w1 : Hid (BK 24 w1 w.heap.size [.slice A X.length c]) := Lib.hid t1
   have K_w1 : Hid (BK 33 w1 (w.heap.size + 1) (pkC p a)) := Lib.hid t2
   have F_w1 : Hid (BK 24 w1 (w.heap.size + 1 + 1) [.slice none 0 0]) := Lib.hid t3
   have B_w1 := Lib.hid hB0
   have L_w1 : Hid (S2.IL w1 w1.heap.size A X) := Lib.hid (CL.step HS.out hB0)
   have P_w1 := Lib.hid (HPI.out.step hB0)
   clear hw1 t1 t2 t3 hB0 HS HPI
   have d0 := K_w1.out.cell 0 (pkc0 p a)
   go_wp2_with first
    | (refine wpList_load_v (by rfl) 24 (.tmp 2) rfl ⟨w.heap.size, 0, none⟩ rfl (S2.xv A c X) (S2.run_load_all T_w1.out Tryz.underlying24 rfl S2.boxSize) ?_)
    | (refine wpList_load_v (by rfl) 33 (.tmp 3) rfl ⟨(w.heap.size + 1), 0, none⟩ rfl (.agg (pkC p a).toArray) (S2.run_load_all K_w1.out Tryz.underlying33 rfl info33) ?_)
   have ZS1 : Hid (w.heap.size + 1 + 1 < w1.heap.size) := Lib.hid F_w1.out.lt
   refine (H1.out w1 L_w1.out).mono ?_
   rintro e v1 ⟨A1, c1, rfl, _, hl, hn1, hb⟩
   have T_v1 : Hid (BK 24 v1 w.heap.size [.slice A X.length c]) := Lib.hid (T_w1.out.step hb)
   have K_v1 : Hid (BK 33 v1 (w.heap.size + 1) (pkC p a)) := Lib.hid (K_w1.out.step hb)
   have F_v1 : Hid (BK 24 v1 (w.heap.size + 1 + 1) [.slice none 0 0]) := Lib.hid (F_w1.out.step hb)
   have B_v1 : Hid (Below w.heap.size w v1) := Lib.hid (stepB B_w1.out hb)
   have L_v1 : Hid (S2.IL v1 v1.heap.size A X) := Lib.hid (CL.step L_w1.out hb)
   have P_v1 : Hid (PIn v1 p a) := Lib.hid (P_w1.out.step hb)
   clear T_w1 K_w1 F_w1 B_w1 L_w1 P_w1
   have L1_v1 : Hid (S2.IL v1 v1.heap.size A1 Y) := Lib.hid (hl)
   clear hb
   have ZN1 : Hid (∀ b o, A1 = some ⟨b, o, none⟩ → w.heap.size + 1 + 1 < b) := Lib.hid (fun b o e => by have := hn1 b o e; have := ZS1.out; omega)
   clear hl hn1 H1
   have ZGa : Hid (w.heap.size + 1 + 1 < v1.heap.size) := Lib.hid F_v1.out.lt
   have ZaT : Hid (w.heap.size < v1.heap.size) := Lib.hid T_v1.out.lt
   have ZaK : Hid ((w.heap.size + 1) < v1.heap.size) := Lib.hid K_v1.out.lt
   have ZaF : Hid ((w.heap.size + 1 + 1) < v1.heap.size) := Lib.hid F_v1.out.lt
   have ZaB : Hid (w.heap.size ≤ v1.heap.size) := Lib.hid B_v1.out.size
   have ZaL : Hid (∀ b o, A = some ⟨b, o, none⟩ → 0 < (X).length → b < v1.heap.size) := Lib.hid (fun b o e hn => S2.IL.lt L_v1.out b o e hn)
   have ZaL1 : Hid (∀ b o, A1 = some ⟨b, o, none⟩ → 0 < (Y).length → b < v1.heap.size) := Lib.hid (fun b o e hn => S2.IL.lt L1_v1.out b o e hn)
   go_wp2_with first
    | (refine S2.wpList_store_all (by rfl) 24 (.tmp 7) (.tmp 28) rfl rfl (v1.heap.size) rfl [.slice A1 Y.length c1] rfl 24 [.slice none 0 0] (BK.alloc (BK.new v1 _ _) _) S2.boxSize rfl (onesB rfl) ?_; intro v2 hM hP; have hb : Below v1.heap.size v1 v2 := hP.below (stepB (S2.below_new v1 _) (S2.below_new _ _)) (Nat.le_refl _); have T_v2 : Hid (BK 24 v2 w.heap.size [.slice A X.length c]) := Lib.hid (T_v1.out.step hb); have K_v2 : Hid (BK 33 v2 (w.heap.size + 1) (pkC p a)) := Lib.hid (K_v1.out.step hb); have F_v2 : Hid (BK 24 v2 (w.heap.size + 1 + 1) [.slice none 0 0]) := Lib.hid (F_v1.out.step hb); have B_v2 : Hid (Below w.heap.size w v2) := Lib.hid (stepB B_v1.out hb); have L_v2 : Hid (S2.IL v2 v2.heap.size A X) := Lib.hid (CL.step L_v1.out hb); have P_v2 : Hid (PIn v2 p a) := Lib.hid (P_v1.out.step hb); have L1_v2 : Hid (S2.IL v2 v2.heap.size A1 Y) := Lib.hid (CL.step L1_v1.out hb); have U_v2 : Hid (BK 24 v2 (v1.heap.size) [.slice A1 Y.length c1]) := Lib.hid hM; have Q_v2 : Hid (BK 33 v2 (v1.heap.size + 1) (pkC Pkt.zero PA.zero)) := Lib.hid (hP.other (zpnew v1) (by omega)); clear hM hP hb T_v1 K_v1 F_v1 B_v1 L_v1 P_v1 L1_v1)
    | (refine S2.wpList_store_all (by rfl) 33 (.tmp 8) (.tmp 29) rfl rfl ((v1.heap.size + 1)) rfl (pkC q PA.zero) rfl 33 (pkC Pkt.zero PA.zero) Q_v2.out info33 rfl (onesB rfl) ?_; intro v3 hM hP; have Q_v3 : Hid (BK 33 v3 ((v1.heap.size + 1)) (pkC q PA.zero)) := Lib.hid hM; have T_v3 : Hid (BK 24 v3 w.heap.size [.slice A X.length c]) := Lib.hid (hP.other T_v2.out (by have := ZaT.out; omega)); have K_v3 : Hid (BK 33 v3 (w.heap.size + 1) (pkC p a)) := Lib.hid (hP.other K_v2.out (by have := ZaK.out; omega)); have F_v3 : Hid (BK 24 v3 (w.heap.size + 1 + 1) [.slice none 0 0]) := Lib.hid (hP.other F_v2.out (by have := ZaF.out; omega)); have B_v3 : Hid (Below w.heap.size w v3) := Lib.hid (hP.below B_v2.out (by have := ZaB.out; omega)); have L_v3 : Hid (S2.IL v3 v3.heap.size A X) := Lib.hid (S2.IL.put L_v2.out hP (fun b o e hn => by have := ZaL.out b o e hn; omega)); have L1_v3 : Hid (S2.IL v3 v3.heap.size A1 Y) := Lib.hid (S2.IL.put L1_v2.out hP (fun b o e hn => by have := ZaL1.out b o e hn; omega)); have U_v3 : Hid (BK 24 v3 (v1.heap.size) [.slice A1 Y.length c1]) := Lib.hid (hP.other U_v2.out (by omega)); clear hM hP T_v2 K_v2 F_v2 B_v2 L_v2 P_v2 L1_v2 U_v2 Q_v2)
    | (refine wpList_load_v (by rfl) 24 (.tmp 2) rfl ⟨w.heap.size, 0, none⟩ rfl (S2.xv A c X) (S2.run_load_all T_v3.out Tryz.underlying24 rfl S2.boxSize) ?_)
    | (refine wpList_load_v (by rfl) 33 (.tmp 3) rfl ⟨(w.heap.size + 1), 0, none⟩ rfl (.agg (pkC p a).toArray) (S2.run_load_all K_v3.out Tryz.underlying33 rfl info33) ?_)
   have ZS2 : Hid (w.heap.size + 1 + 1 < v3.heap.size) := Lib.hid F_v3.out.lt
   have ZB2 : Hid (w.heap.size ≤ v3.heap.size) := Lib.hid B_v3.out.size
   refine (H2.out v3 L_v3.out).mono ?_
   rintro e v4 ⟨A2, c2, rfl, hc2, hl, hfr2, hb⟩
   have T_v4 : Hid (BK 24 v4 w.heap.size [.slice A X.length c]) := Lib.hid (T_v3.out.step hb)
   have K_v4 : Hid (BK 33 v4 (w.heap.size + 1) (pkC p a)) := Lib.hid (K_v3.out.step hb)
   have F_v4 : Hid (BK 24 v4 (w.heap.size + 1 + 1) [.slice none 0 0]) := Lib.hid (F_v3.out.step hb)
   have B_v4 : Hid (Below w.heap.size w v4) := Lib.hid (stepB B_v3.out hb)
   have L_v4 : Hid (S2.IL v4 v4.heap.size A X) := Lib.hid (CL.step L_v3.out hb)
   have L1_v4 : Hid (S2.IL v4 v4.heap.size A1 Y) := Lib.hid (CL.step L1_v3.out hb)
   have U_v4 : Hid (BK 24 v4 (v1.heap.size) [.slice A1 Y.length c1]) := Lib.hid (U_v3.out.step hb)
   have Q_v4 : Hid (BK 33 v4 ((v1.heap.size + 1)) (pkC q PA.zero)) := Lib.hid (Q_v3.out.step hb)
   clear T_v3 K_v3 F_v3 B_v3 L_v3 L1_v3 U_v3 Q_v3
   have L2_v4 : Hid (S2.IL v4 v4.heap.size A2 Y) := Lib.hid (hl)
   clear hb
   have HC2 := Lib.hid hc2
   have HF2 := Lib.hid (fr_more hfr2 ZB2.out)
   have OF2 : Hid (S2.Off (w.heap.size + 1 + 1) A2 Y) := Lib.hid ((HOF.out _ (by omega)).fr hfr2 ZS2.out)
   clear hl hfr2 hc2 H2
   have ZGb : Hid (w.heap.size + 1 + 1 < v4.heap.size) := Lib.hid F_v4.out.lt
   have ZbT : Hid (w.heap.size < v4.heap.size) := Lib.hid T_v4.out.lt
   have ZbK : Hid ((w.heap.size + 1) < v4.heap.size) := Lib.hid K_v4.out.lt
   have ZbF : Hid ((w.heap.size + 1 + 1) < v4.heap.size) := Lib.hid F_v4.out.lt
   have ZbB : Hid (w.heap.size ≤ v4.heap.size) := Lib.hid B_v4.out.size
   have ZbL : Hid (∀ b o, A = some ⟨b, o, none⟩ → 0 < (X).length → b < v4.heap.size) := Lib.hid (fun b o e hn => S2.IL.lt L_v4.out b o e hn)
   have ZbL1 : Hid (∀ b o, A1 = some ⟨b, o, none⟩ → 0 < (Y).length → b < v4.heap.size) := Lib.hid (fun b o e hn => S2.IL.lt L1_v4.out b o e hn)
   have ZbU : Hid ((v1.heap.size) < v4.heap.size) := Lib.hid U_v4.out.lt
   have ZbQ : Hid (((v1.heap.size + 1)) < v4.heap.size) := Lib.hid Q_v4.out.lt
   have ZbL2 : Hid (∀ b o, A2 = some ⟨b, o, none⟩ → 0 < (Y).length → b < v4.heap.size) := Lib.hid (fun b o e hn => S2.IL.lt L2_v4.out b o e hn)
   go_upto_region 4 with first
    | (refine S2.wpList_store_all (by rfl) 24 (.tmp 10) (.tmp 35) rfl rfl (v4.heap.size) rfl [.slice A2 Y.length c2] rfl 24 [.slice none 0 0] (BK.alloc (BK.new v4 _ _) _) S2.boxSize rfl (onesB rfl) ?_; intro v5 hM hP; have hb : Below v4.heap.size v4 v5 := hP.below (stepB (S2.below_new v4 _) (S2.below_new _ _)) (Nat.le_refl _); have T_v5 : Hid (BK 24 v5 w.heap.size [.slice A X.length c]) := Lib.hid (T_v4.out.step hb); have K_v5 : Hid (BK 33 v5 (w.heap.size + 1) (pkC p a)) := Lib.hid (K_v4.out.step hb); have F_v5 : Hid (BK 24 v5 (w.heap.size + 1 + 1) [.slice none 0 0]) := Lib.hid (F_v4.out.step hb); have B_v5 : Hid (Below w.heap.size w v5) := Lib.hid (stepB B_v4.out hb); have L_v5 : Hid (S2.IL v5 v5.heap.size A X) := Lib.hid (CL.step L_v4.out hb); have L1_v5 : Hid (S2.IL v5 v5.heap.size A1 Y) := Lib.hid (CL.step L1_v4.out hb); have U_v5 : Hid (BK 24 v5 (v1.heap.size) [.slice A1 Y.length c1]) := Lib.hid (U_v4.out.step hb); have Q_v5 : Hid (BK 33 v5 ((v1.heap.size + 1)) (pkC q PA.zero)) := Lib.hid (Q_v4.out.step hb); have L2_v5 : Hid (S2.IL v5 v5.heap.size A2 Y) := Lib.hid (CL.step L2_v4.out hb); have V_v5 : Hid (BK 24 v5 (v4.heap.size) [.slice A2 Y.length c2]) := Lib.hid hM; have R_v5 : Hid (BK 33 v5 (v4.heap.size + 1) (pkC Pkt.zero PA.zero)) := Lib.hid (hP.other (zpnew v4) (by omega)); clear hM hP hb T_v4 K_v4 F_v4 B_v4 L_v4 L1_v4 U_v4 Q_v4 L2_v4)
    | (refine S2.wpList_store_all (by rfl) 33 (.tmp 11) (.tmp 36) rfl rfl ((v4.heap.size + 1)) rfl (pkC q PA.zero) rfl 33 (pkC Pkt.zero PA.zero) R_v5.out info33 rfl (onesB rfl) ?_; intro v6 hM hP; have R_v6 : Hid (BK 33 v6 ((v4.heap.size + 1)) (pkC q PA.zero)) := Lib.hid hM; have T_v6 : Hid (BK 24 v6 w.heap.size [.slice A X.length c]) := Lib.hid (hP.other T_v5.out (by have := ZbT.out; omega)); have K_v6 : Hid (BK 33 v6 (w.heap.size + 1) (pkC p a)) := Lib.hid (hP.other K_v5.out (by have := ZbK.out; omega)); have F_v6 : Hid (BK 24 v6 (w.heap.size + 1 + 1) [.slice none 0 0]) := Lib.hid (hP.other F_v5.out (by have := ZbF.out; omega)); have B_v6 : Hid (Below w.heap.size w v6) := Lib.hid (hP.below B_v5.out (by have := ZbB.out; omega)); have L_v6 : Hid (S2.IL v6 v6.heap.size A X) := Lib.hid (S2.IL.put L_v5.out hP (fun b o e hn => by have := ZbL.out b o e hn; omega)); have L1_v6 : Hid (S2.IL v6 v6.heap.size A1 Y) := Lib.hid (S2.IL.put L1_v5.out hP (fun b o e hn => by have := ZbL1.out b o e hn; omega)); have U_v6 : Hid (BK 24 v6 (v1.heap.size) [.slice A1 Y.length c1]) := Lib.hid (hP.other U_v5.out (by have := ZbU.out; omega)); have Q_v6 : Hid (BK 33 v6 ((v1.heap.size + 1)) (pkC q PA.zero)) := Lib.hid (hP.other Q_v5.out (by have := ZbQ.out; omega)); have L2_v6 : Hid (S2.IL v6 v6.heap.size A2 Y) := Lib.hid (S2.IL.put L2_v5.out hP (fun b o e hn => by have := ZbL2.out b o e hn; omega)); have V_v6 : Hid (BK 24 v6 (v4.heap.size) [.slice A2 Y.length c2]) := Lib.hid (hP.other V_v5.out (by omega)); clear hM hP T_v5 K_v5 F_v5 B_v5 L_v5 L1_v5 U_v5 Q_v5 L2_v5 V_v5 R_v5)
   clear d0 q1
   by_cases hf : f ≠ 0
   · obtain rfl : (X, false) = R := by have := HRR.out; rwa [if_pos hf] at this
     clear HRR
     have q2 : (f != 0) = true := by simpa using hf
     have q3 : (f == f) = true := by simp
     clear hf HP HSM
     go_wp2_with first
      | (refine wpList_load_v (by rfl) 24 (.tmp 2) rfl ⟨w.heap.size, 0, none⟩ rfl (S2.xv A c X) (S2.run_load_all T_v6.out Tryz.underlying24 rfl S2.boxSize) ?_)
      | (refine S2.wpList_store_all (by rfl) 24 (.tmp 4) (.tmp 40) rfl rfl (w.heap.size + 1 + 1) rfl [.slice A X.length c] rfl 24 [.slice none 0 0] F_v6.out S2.boxSize rfl (onesB rfl) ?_; intro v7 hM hP; have F_v7 := Lib.hid hM; have B_v7 := Lib.hid (hP.below B_v6.out (by omega)); have L_v7 := Lib.hid (S2.IL.put L_v6.out hP (HOF.out _ (by omega))); clear hM hP)
     exact bodyPost_ret (v := .tuple #[S2.xv A c X, .bool false, .bool true]) (nres3 rfl _ _ (w.heap.size + 1 + 1) 24 [.slice A X.length c] _ _ _ rfl rfl rfl F_v7.out Tryz.underlying24 rfl S2.boxSize) rfl ⟨A, c, rfl, HXC.out, L_v7.out, .inr (.inl ⟨rfl, fun h => h⟩), B_v7.out⟩
   · obtain rfl : (Y, false) = R := by have := HRR.out; rwa [if_neg hf] at this
     have hf0 : f = 0 := by simpa using hf
     clear HRR
     subst hf0
     clear hf
     go_upto_region 6 with fail
     obtain ⟨v7, hv7⟩ : ∃ v7, v7 = World.drew v6 := ⟨_, rfl⟩
     have hbD : Below v6.heap.size v6 v7 := by rw [hv7]; exact (Below.refl _ _).drew
     have T_v7 : Hid (BK 24 v7 w.heap.size [.slice A X.length c]) := Lib.hid (T_v6.out.step hbD)
     have K_v7 : Hid (BK 33 v7 (w.heap.size + 1) (pkC p a)) := Lib.hid (K_v6.out.step hbD)
     have F_v7 : Hid (BK 24 v7 (w.heap.size + 1 + 1) [.slice none 0 0]) := Lib.hid (F_v6.out.step hbD)
     have B_v7 : Hid (Below w.heap.size w v7) := Lib.hid (stepB B_v6.out hbD)
     have L_v7 : Hid (S2.IL v7 v7.heap.size A X) := Lib.hid (CL.step L_v6.out hbD)
     have L1_v7 : Hid (S2.IL v7 v7.heap.size A1 Y) := Lib.hid (CL.step L1_v6.out hbD)
     have U_v7 : Hid (BK 24 v7 (v1.heap.size) [.slice A1 Y.length c1]) := Lib.hid (U_v6.out.step hbD)
     have Q_v7 : Hid (BK 33 v7 ((v1.heap.size + 1)) (pkC q PA.zero)) := Lib.hid (Q_v6.out.step hbD)
     have L2_v7 : Hid (S2.IL v7 v7.heap.size A2 Y) := Lib.hid (CL.step L2_v6.out hbD)
     have V_v7 : Hid (BK 24 v7 (v4.heap.size) [.slice A2 Y.length c2]) := Lib.hid (V_v6.out.step hbD)
     have R_v7 : Hid (BK 33 v7 ((v4.heap.size + 1)) (pkC q PA.zero)) := Lib.hid (R_v6.out.step hbD)
     clear T_v6 K_v6 F_v6 B_v6 L_v6 L1_v6 U_v6 Q_v6 L2_v6 V_v6 R_v6
     have hbd : (fun w' => BK 24 w' (v1.heap.size) [.slice A1 Y.length c1] ∧ BK 33 w' ((v1.heap.size + 1)) (pkC q PA.zero) ∧ BK 24 w' (v4.heap.size) [.slice A2 Y.length c2] ∧ BK 33 w' ((v4.heap.size + 1)) (pkC q PA.zero)) (World.drew v6) := by rw [← hv7]; exact ⟨U_v7.out, Q_v7.out, V_v7.out, R_v7.out⟩
     have hSD : (fun w' => BK 24 w' (v1.heap.size) [.slice A1 Y.length c1] ∧ BK 33 w' ((v1.heap.size + 1)) (pkC q PA.zero) ∧ BK 24 w' (v4.heap.size) [.slice A2 Y.length c2] ∧ BK 33 w' ((v4.heap.size + 1)) (pkC q PA.zero)) v7 := ⟨U_v7.out, Q_v7.out, V_v7.out, R_v7.out⟩
     have HWD := Lib.hid hv7
     clear hv7 hbD
     refine wp_region_held_drew (S := fun w' => BK 24 w' (v1.heap.size) [.slice A1 Y.length c1] ∧ BK 33 w' ((v1.heap.size + 1)) (pkC q PA.zero) ∧ BK 24 w' (v4.heap.size) [.slice A2 Y.length c2] ∧ BK 33 w' ((v4.heap.size + 1)) (pkC q PA.zero)) (by kernel_rfl) hbd (fun hHeld => ?_)
     rw [← HWD.out]
     clear hHeld
     have hHeld := hSD
     clear hSD hbd HWD
     refine tkA (i := 0) (v := (S2.xv A2 c2 Y)) (y := Or.inl ⟨by rfl, fun wS hSw => by (try dsimp only at hSw); exact exec_load 24 _ rfl ⟨v4.heap.size, 0, none⟩ (by go_simp) _ (S2.run_load_all hSw.2.2.1 Tryz.underlying24 rfl S2.boxSize)⟩) (s := hHeld) (h := ?_)
     refine tkA (i := 1) (v := .int .i64 0) (y := Or.inl ⟨by rfl, fun wS hSw => by (try dsimp only at hSw); go_simp⟩) (s := hHeld) (h := ?_)
     refine tkA (i := 2) (v := .int .i64 0) (y := Or.inl ⟨by rfl, fun wS hSw => by (try dsimp only at hSw); go_simp⟩) (s := hHeld) (h := ?_)
     refine tkA (i := 3) (v := .bool true) (y := Or.inl ⟨by rfl, fun wS hSw => by (try dsimp only at hSw); go_simp⟩) (s := hHeld) (h := ?_)
     refine tkA (i := 4) (v := .bool true) (y := Or.inl ⟨by rfl, fun wS hSw => by (try dsimp only at hSw); go_simp⟩) (s := hHeld) (h := ?_)
     refine tkA (i := 5) (v := (S2.xv A1 c1 Y)) (y := Or.inl ⟨by rfl, fun wS hSw => by (try dsimp only at hSw); exact exec_load 24 _ rfl ⟨v1.heap.size, 0, none⟩ (by go_simp) _ (S2.run_load_all hSw.1 Tryz.underlying24 rfl S2.boxSize)⟩) (s := hHeld) (h := ?_)
     refine tkA (i := 6) (v := (S2.xv A2 c2 Y)) (y := Or.inl ⟨by rfl, fun wS hSw => by (try dsimp only at hSw); exact exec_load 24 _ rfl ⟨v4.heap.size, 0, none⟩ (by go_simp) _ (S2.run_load_all hSw.2.2.1 Tryz.underlying24 rfl S2.boxSize)⟩) (s := hHeld) (h := ?_)
     refine wpAnyH_ready (rs := [7]) (by kernel_rfl) (by simp) ?_
     refine (AllReadyH.cons (get_ops _ _ _ rfl) (fun K hK => ?_) AllReadyH.nil)
     go_simp
     refine (HSM.out A1 A2 c1 c2 v7 L1_v7.out L2_v7.out).mono ?_
     rintro e v8 ⟨rfl, hb⟩
     have T_v8 : Hid (BK 24 v8 w.heap.size [.slice A X.length c]) := Lib.hid (T_v7.out.step hb)
     have K_v8 : Hid (BK 33 v8 (w.heap.size + 1) (pkC p a)) := Lib.hid (K_v7.out.step hb)
     have F_v8 : Hid (BK 24 v8 (w.heap.size + 1 + 1) [.slice none 0 0]) := Lib.hid (F_v7.out.step hb)
     have B_v8 : Hid (Below w.heap.size w v8) := Lib.hid (stepB B_v7.out hb)
     have L_v8 : Hid (S2.IL v8 v8.heap.size A X) := Lib.hid (CL.step L_v7.out hb)
     have L1_v8 : Hid (S2.IL v8 v8.heap.size A1 Y) := Lib.hid (CL.step L1_v7.out hb)
     have U_v8 : Hid (BK 24 v8 (v1.heap.size) [.slice A1 Y.length c1]) := Lib.hid (U_v7.out.step hb)
     have Q_v8 : Hid (BK 33 v8 ((v1.heap.size + 1)) (pkC q PA.zero)) := Lib.hid (Q_v7.out.step hb)
     have L2_v8 : Hid (S2.IL v8 v8.heap.size A2 Y) := Lib.hid (CL.step L2_v7.out hb)
     have V_v8 : Hid (BK 24 v8 (v4.heap.size) [.slice A2 Y.length c2]) := Lib.hid (V_v7.out.step hb)
     have R_v8 : Hid (BK 33 v8 ((v4.heap.size + 1)) (pkC q PA.zero)) := Lib.hid (R_v7.out.step hb)
     clear T_v7 K_v7 F_v7 B_v7 L_v7 L1_v7 U_v7 Q_v7 L2_v7 V_v7 R_v7
     clear hHeld hb
     go_wp2_with fail
     refine hK.out _ _ ⟨U_v8.out, Q_v8.out, V_v8.out, R_v8.out⟩ (fun hHeld => ?_)
     clear hK K
     try simp only [Act.put, List.setIfInBounds_toArray, List.set_cons_zero, List.set_cons_succ]
     refine tkA (i := 8) (v := .bool true) (y := Or.inl ⟨by rfl, fun wS hSw => by (try dsimp only at hSw); go_simp⟩) (s := hHeld) (h := ?_)
     refine tkA (i := 9) (v := .bool true) (y := Or.inl ⟨by rfl, fun wS hSw => by (try dsimp only at hSw); go_simp⟩) (s := hHeld) (h := ?_)
     refine tkA (i := 10) (v := (.agg (pkC q PA.zero).toArray)) (y := Or.inl ⟨by rfl, fun wS hSw => by (try dsimp only at hSw); exact exec_load 33 _ rfl ⟨v1.heap.size + 1, 0, none⟩ (by go_simp) _ (S2.run_load_all hSw.2.1 Tryz.underlying33 rfl info33)⟩) (s := hHeld) (h := ?_)
     refine tkA (i := 11) (v := (.agg (pkC q PA.zero).toArray)) (y := Or.inl ⟨by rfl, fun wS hSw => by (try dsimp only at hSw); exact exec_load 33 _ rfl ⟨v4.heap.size + 1, 0, none⟩ (by go_simp) _ (S2.run_load_all hSw.2.2.2 Tryz.underlying33 rfl info33)⟩) (s := hHeld) (h := ?_)
     refine wpAnyH_ready (rs := [12]) (by kernel_rfl) (by simp) ?_
     refine (AllReadyH.cons (get_ops _ _ _ rfl) (fun K hK => ?_) AllReadyH.nil)
     go_simp
     refine (HP.out v8).mono ?_
     rintro e v9 ⟨rfl, hb⟩
     have T_v9 : Hid (BK 24 v9 w.heap.size [.slice A X.length c]) := Lib.hid (T_v8.out.step hb)
     have K_v9 : Hid (BK 33 v9 (w.heap.size + 1) (pkC p a)) := Lib.hid (K_v8.out.step hb)
     have F_v9 : Hid (BK 24 v9 (w.heap.size + 1 + 1) [.slice none 0 0]) := Lib.hid (F_v8.out.step hb)
     have B_v9 : Hid (Below w.heap.size w v9) := Lib.hid (stepB B_v8.out hb)
     have L_v9 : Hid (S2.IL v9 v9.heap.size A X) := Lib.hid (CL.step L_v8.out hb)
     have L1_v9 : Hid (S2.IL v9 v9.heap.size A1 Y) := Lib.hid (CL.step L1_v8.out hb)
     have U_v9 : Hid (BK 24 v9 (v1.heap.size) [.slice A1 Y.length c1]) := Lib.hid (U_v8.out.step hb)
     have Q_v9 : Hid (BK 33 v9 ((v1.heap.size + 1)) (pkC q PA.zero)) := Lib.hid (Q_v8.out.step hb)
     have L2_v9 : Hid (S2.IL v9 v9.heap.size A2 Y) := Lib.hid (CL.step L2_v8.out hb)
     have V_v9 : Hid (BK 24 v9 (v4.heap.size) [.slice A2 Y.length c2]) := Lib.hid (V_v8.out.step hb)
     have R_v9 : Hid (BK 33 v9 ((v4.heap.size + 1)) (pkC q PA.zero)) := Lib.hid (R_v8.out.step hb)
     clear T_v8 K_v8 F_v8 B_v8 L_v8 L1_v8 U_v8 Q_v8 L2_v8 V_v8 R_v8
     clear hHeld hb
     go_wp2_with fail
     refine hK.out _ _ ⟨U_v9.out, Q_v9.out, V_v9.out, R_v9.out⟩ (fun hHeld => ?_)
     clear hK K
     try simp only [Act.put, List.setIfInBounds_toArray, List.set_cons_zero, List.set_cons_succ]
     refine tkA (i := 13) (v := .bool true) (y := Or.inl ⟨by rfl, fun wS hSw => by (try dsimp only at hSw); go_simp⟩) (s := hHeld) (h := ?_)
     refine wpAnyH_ready (rs := [14]) (by kernel_rfl) (by simp) ?_
     refine (AllReadyH.cons (get_ops _ _ _ rfl) (fun K hK => ?_) AllReadyH.nil)
     refine S2.wp_store_all 24 _ _ rfl rfl (w.heap.size + 1 + 1) (by go_simp) [.slice A2 Y.length c2] (by first | rfl | go_simp) 24 [.slice none 0 0] F_v9.out S2.boxSize rfl (onesB rfl) ?_
     intro v10 hM hP
     have F_v10 : Hid (BK 24 v10 (w.heap.size + 1 + 1) [.slice A2 Y.length c2]) := Lib.hid (hM)
     have T_v10 : Hid (BK 24 v10 w.heap.size [.slice A X.length c]) := Lib.hid (hP.other T_v9.out (by omega))
     have K_v10 : Hid (BK 33 v10 (w.heap.size + 1) (pkC p a)) := Lib.hid (hP.other K_v9.out (by omega))
     have B_v10 : Hid (Below w.heap.size w v10) := Lib.hid (hP.below B_v9.out (by omega))
     have L_v10 : Hid (S2.IL v10 v10.heap.size A X) := Lib.hid (S2.IL.put L_v9.out hP (HOF.out _ (by omega)))
     have L1_v10 : Hid (S2.IL v10 v10.heap.size A1 Y) := Lib.hid (S2.IL.put L1_v9.out hP (fun b o e _ => by have := ZN1.out b o e; omega))
     have U_v10 : Hid (BK 24 v10 (v1.heap.size) [.slice A1 Y.length c1]) := Lib.hid (hP.other U_v9.out (by have := ZGa.out; omega))
     have Q_v10 : Hid (BK 33 v10 ((v1.heap.size + 1)) (pkC q PA.zero)) := Lib.hid (hP.other Q_v9.out (by have := ZGa.out; omega))
     have L2_v10 : Hid (S2.IL v10 v10.heap.size A2 Y) := Lib.hid (S2.IL.put L2_v9.out hP OF2.out)
     have V_v10 : Hid (BK 24 v10 (v4.heap.size) [.slice A2 Y.length c2]) := Lib.hid (hP.other V_v9.out (by have := ZGb.out; omega))
     have R_v10 : Hid (BK 33 v10 ((v4.heap.size + 1)) (pkC q PA.zero)) := Lib.hid (hP.other R_v9.out (by have := ZGb.out; omega))
     clear T_v9 K_v9 F_v9 B_v9 L_v9 L1_v9 U_v9 Q_v9 L2_v9 V_v9 R_v9
     clear hM hP hHeld
     refine hK.out _ _ ⟨U_v10.out, Q_v10.out, V_v10.out, R_v10.out⟩ (fun hHeld => ?_)
     clear hK K
     try simp only [Act.put, List.setIfInBounds_toArray, List.set_cons_zero, List.set_cons_succ]
     refine tkA (i := 15) (v := .bool false) (y := Or.inl ⟨by rfl, fun wS hSw => by (try dsimp only at hSw); go_simp⟩) (s := hHeld) (h := ?_)
     refine tkA (i := 16) (v := .bool true) (y := Or.inl ⟨by rfl, fun wS hSw => by (try dsimp only at hSw); go_simp⟩) (s := hHeld) (h := ?_)
     refine wpAnyH_done (by kernel_rfl) ?_ _
     go_wp2_with fail
     exact bodyPost_ret (v := .tuple #[S2.xv A2 c2 Y, .bool false, .bool true]) (nres3 rfl _ _ (w.heap.size + 1 + 1) 24 [.slice A2 Y.length c2] _ _ _ rfl rfl rfl F_v10.out Tryz.underlying24 rfl S2.boxSize) rfl ⟨A2, c2, rfl, HC2.out, L2_v10.out, HF2.out, B_v10.out⟩
 · rw [if_neg hk]
   obtain ⟨⟨Y, d, ks, f⟩, hr⟩ : ∃ r, naccR X p = r := ⟨_, rfl⟩
   rw [hr]
   dsimp only
   obtain ⟨hYl, hbare⟩ := acc_facts hr
   have H1 : Hid (∀ w1, S1.Okw w1 → S2.IL w1 w1.heap.size A X → PIn w1 p a → Calls Tryz.prog 9 #[S2.xv A c X, pkV p a] w1 (RetNa (Y, d, ks, f) w1)) := Lib.hid (fun w1 h0 h h2 => by have := nAccept_any A c X p a w1 h0 h hv h2 hb.sz hb.tx; rw [hr] at this; exact this)
   have H2 : Hid (∀ w1, S2.IL w1 w1.heap.size A X → PIn w1 p a → Calls Tryz.prog 10 #[S2.xv A c X, pkV p a] w1 (RetNt A X (Y, d, ks, f) w1)) := Lib.hid (fun w1 h h2 => by have := nrAccept_any A c X p a w1 h hxc (by omega) h2 hb; rw [hr] at this; exact this)
   have HP := Lib.hid (fun A1 A2 c1 c2 w1 h1 h2 => packets15_any A1 A2 c1 c2 ks w1 h1 h2 hbare)
   have HSM := Lib.hid (fun A1 A2 c1 c2 w1 hs ht => isame_self A1 A2 c1 c2 Y (by omega) w1 hs ht)
   have q1 : (p.kind == 6) = false := by simp [hk]
   obtain ⟨R, hR⟩ : ∃ R, (if f ≠ 0 then (X, false) else (Y, d)) = R := ⟨_, rfl⟩
   rw [hR]
   have HRR := Lib.hid hR
   clear hR
   clear hk hr hYl hbare hm hup hv hok hsl hxc hp hb
   unfold pkV at H1 H2 ⊢
   go_enter Tryz.func13, Tryz.ntmps13
   go_upto_region 1 with fail
   refine name_world (C := fun w1 => Code.wp _ _ _ _ w1) (((w.alloc (.cells [.slice A X.length c].toArray 24)).alloc (.cells (pkC p a).toArray 33)).alloc (.cells [.slice none 0 0].toArray 24)) ?_
   intro w1 hw1
   obtain ⟨hB0, t1, t2, t3⟩ := three hw1
   have T_w1 : Hid (BK 24 w1 w.heap.size [.slice A X.length c]) := Lib.hid t1
   have K_w1 : Hid (BK 33 w1 (w.heap.size + 1) (pkC p a)) := Lib.hid t2
   have F_w1 : Hid (BK 24 w1 (w.heap.size + 1 + 1) [.slice none 0 0]) := Lib.hid t3
   have B_w1 := Lib.hid hB0
   have L_w1 : Hid (S2.IL w1 w1.heap.size A X) := Lib.hid (CL.step HS.out hB0)
   have P_w1 := Lib.hid (HPI.out.step hB0)
   clear hw1 t1 t2 t3 hB0 HS HPI
   have d0 := K_w1.out.cell 0 (pkc0 p a)
   go_wp2_with first
    | (refine wpList_load_v (by rfl) 24 (.tmp 2) rfl ⟨w.heap.size, 0, none⟩ rfl (S2.xv A c X) (S2.run_load_all T_w1.out Tryz.underlying24 rfl S2.boxSize) ?_)
    | (refine wpList_load_v (by rfl) 33 (.tmp 3) rfl ⟨(w.heap.size + 1), 0, none⟩ rfl (.agg (pkC p a).toArray) (S2.run_load_all K_w1.out Tryz.underlying33 rfl info33) ?_)
   have ZS1 : Hid (w.heap.size + 1 + 1 < w1.heap.size) := Lib.hid F_w1.out.lt
   refine (H1.out w1 (HOK.out.step B_w1.out) L_w1.out P_w1.out).mono ?_
   rintro e v1 ⟨A1, c1, D1, e1, rfl, _, hl, hn1, hk, hnk, hb⟩
   have T_v1 : Hid (BK 24 v1 w.heap.size [.slice A X.length c]) := Lib.hid (T_w1.out.step hb)
   have K_v1 : Hid (BK 33 v1 (w.heap.size + 1) (pkC p a)) := Lib.hid (K_w1.out.step hb)
   have F_v1 : Hid (BK 24 v1 (w.heap.size + 1 + 1) [.slice none 0 0]) := Lib.hid (F_w1.out.step hb)
   have B_v1 : Hid (Below w.heap.size w v1) := Lib.hid (stepB B_w1.out hb)
   have L_v1 : Hid (S2.IL v1 v1.heap.size A X) := Lib.hid (CL.step L_w1.out hb)
   have P_v1 : Hid (PIn v1 p a) := Lib.hid (P_w1.out.step hb)
   clear T_w1 K_w1 F_w1 B_w1 L_w1 P_w1
   have L1_v1 : Hid (S2.IL v1 v1.heap.size A1 Y) := Lib.hid (hl)
   have N1_v1 : Hid (NK v1 D1 ks) := Lib.hid (hk)
   clear hb
   have ZN1 : Hid (∀ b o, A1 = some ⟨b, o, none⟩ → w.heap.size + 1 + 1 < b) := Lib.hid (fun b o e => by have := hn1 b o e; have := ZS1.out; omega)
   have ZN1k : Hid (∀ b o, D1 = some ⟨b, o, none⟩ → w.heap.size + 1 + 1 < b) := Lib.hid (fun b o e => by have := hnk b o e; have := ZS1.out; omega)
   clear hl hn1 hk hnk H1
   have ZGa : Hid (w.heap.size + 1 + 1 < v1.heap.size) := Lib.hid F_v1.out.lt
   go_wp2_with first
    | (refine S2.wpList_store_all (by rfl) 24 (.tmp 13) (.tmp 62) rfl rfl (v1.heap.size) rfl [.slice A1 Y.length c1] rfl 24 [.slice none 0 0] (BK.new v1 _ _) S2.boxSize rfl (onesB rfl) ?_; intro v2 hM hP; have hb : Below v1.heap.size v1 v2 := hP.below (S2.below_new v1 _) (Nat.le_refl _); have T_v2 : Hid (BK 24 v2 w.heap.size [.slice A X.length c]) := Lib.hid (T_v1.out.step hb); have K_v2 : Hid (BK 33 v2 (w.heap.size + 1) (pkC p a)) := Lib.hid (K_v1.out.step hb); have F_v2 : Hid (BK 24 v2 (w.heap.size + 1 + 1) [.slice none 0 0]) := Lib.hid (F_v1.out.step hb); have B_v2 : Hid (Below w.heap.size w v2) := Lib.hid (stepB B_v1.out hb); have L_v2 : Hid (S2.IL v2 v2.heap.size A X) := Lib.hid (CL.step L_v1.out hb); have P_v2 : Hid (PIn v2 p a) := Lib.hid (P_v1.out.step hb); have L1_v2 : Hid (S2.IL v2 v2.heap.size A1 Y) := Lib.hid (CL.step L1_v1.out hb); have N1_v2 : Hid (NK v2 D1 ks) := Lib.hid (N1_v1.out.step hb); have U_v2 : Hid (BK 24 v2 (v1.heap.size) [.slice A1 Y.length c1]) := Lib.hid hM; clear hM hP hb T_v1 K_v1 F_v1 B_v1 L_v1 P_v1 L1_v1 N1_v1)
    | (refine wpList_load_v (by rfl) 24 (.tmp 2) rfl ⟨w.heap.size, 0, none⟩ rfl (S2.xv A c X) (S2.run_load_all T_v2.out Tryz.underlying24 rfl S2.boxSize) ?_)
    | (refine wpList_load_v (by rfl) 33 (.tmp 3) rfl ⟨(w.heap.size + 1), 0, none⟩ rfl (.agg (pkC p a).toArray) (S2.run_load_all K_v2.out Tryz.underlying33 rfl info33) ?_)
   have ZS2 : Hid (w.heap.size + 1 + 1 < v2.heap.size) := Lib.hid F_v2.out.lt
   have ZB2 : Hid (w.heap.size ≤ v2.heap.size) := Lib.hid B_v2.out.size
   refine (H2.out v2 L_v2.out P_v2.out).mono ?_
   rintro e v3 ⟨A2, c2, D2, e2, rfl, hc2, hl, hfr2, hk, hnk, hb⟩
   have T_v3 : Hid (BK 24 v3 w.heap.size [.slice A X.length c]) := Lib.hid (T_v2.out.step hb)
   have K_v3 : Hid (BK 33 v3 (w.heap.size + 1) (pkC p a)) := Lib.hid (K_v2.out.step hb)
   have F_v3 : Hid (BK 24 v3 (w.heap.size + 1 + 1) [.slice none 0 0]) := Lib.hid (F_v2.out.step hb)
   have B_v3 : Hid (Below w.heap.size w v3) := Lib.hid (stepB B_v2.out hb)
   have L_v3 : Hid (S2.IL v3 v3.heap.size A X) := Lib.hid (CL.step L_v2.out hb)
   have P_v3 : Hid (PIn v3 p a) := Lib.hid (P_v2.out.step hb)
   have L1_v3 : Hid (S2.IL v3 v3.heap.size A1 Y) := Lib.hid (CL.step L1_v2.out hb)
   have N1_v3 : Hid (NK v3 D1 ks) := Lib.hid (N1_v2.out.step hb)
   have U_v3 : Hid (BK 24 v3 (v1.heap.size) [.slice A1 Y.length c1]) := Lib.hid (U_v2.out.step hb)
   clear T_v2 K_v2 F_v2 B_v2 L_v2 P_v2 L1_v2 N1_v2 U_v2
   have L2_v3 : Hid (S2.IL v3 v3.heap.size A2 Y) := Lib.hid (hl)
   have N2_v3 : Hid (NK v3 D2 ks) := Lib.hid (hk)
   clear hb
   have HC2 := Lib.hid hc2
   have HF2 := Lib.hid (fr_more hfr2 ZB2.out)
   have OF2 : Hid (S2.Off (w.heap.size + 1 + 1) A2 Y) := Lib.hid ((HOF.out _ (by omega)).fr hfr2 ZS2.out)
   have ZN2k : Hid (∀ b o, D2 = some ⟨b, o, none⟩ → w.heap.size + 1 + 1 < b) := Lib.hid (fun b o e => by have := hnk b o e; have := ZS2.out; omega)
   clear hl hfr2 hc2 hk hnk H2
   have ZGb : Hid (w.heap.size + 1 + 1 < v3.heap.size) := Lib.hid F_v3.out.lt
   go_upto_region 9 with first
    | (refine S2.wpList_store_all (by rfl) 24 (.tmp 17) (.tmp 70) rfl rfl (v3.heap.size) rfl [.slice A2 Y.length c2] rfl 24 [.slice none 0 0] (BK.new v3 _ _) S2.boxSize rfl (onesB rfl) ?_; intro v4 hM hP; have hb : Below v3.heap.size v3 v4 := hP.below (S2.below_new v3 _) (Nat.le_refl _); have T_v4 : Hid (BK 24 v4 w.heap.size [.slice A X.length c]) := Lib.hid (T_v3.out.step hb); have K_v4 : Hid (BK 33 v4 (w.heap.size + 1) (pkC p a)) := Lib.hid (K_v3.out.step hb); have F_v4 : Hid (BK 24 v4 (w.heap.size + 1 + 1) [.slice none 0 0]) := Lib.hid (F_v3.out.step hb); have B_v4 : Hid (Below w.heap.size w v4) := Lib.hid (stepB B_v3.out hb); have L_v4 : Hid (S2.IL v4 v4.heap.size A X) := Lib.hid (CL.step L_v3.out hb); have P_v4 : Hid (PIn v4 p a) := Lib.hid (P_v3.out.step hb); have L1_v4 : Hid (S2.IL v4 v4.heap.size A1 Y) := Lib.hid (CL.step L1_v3.out hb); have N1_v4 : Hid (NK v4 D1 ks) := Lib.hid (N1_v3.out.step hb); have U_v4 : Hid (BK 24 v4 (v1.heap.size) [.slice A1 Y.length c1]) := Lib.hid (U_v3.out.step hb); have L2_v4 : Hid (S2.IL v4 v4.heap.size A2 Y) := Lib.hid (CL.step L2_v3.out hb); have N2_v4 : Hid (NK v4 D2 ks) := Lib.hid (N2_v3.out.step hb); have V_v4 : Hid (BK 24 v4 (v3.heap.size) [.slice A2 Y.length c2]) := Lib.hid hM; clear hM hP hb T_v3 K_v3 F_v3 B_v3 L_v3 P_v3 L1_v3 N1_v3 U_v3 L2_v3 N2_v3)
   clear d0 q1
   by_cases hf : f ≠ 0
   · obtain rfl : (X, false) = R := by have := HRR.out; rwa [if_pos hf] at this
     clear HRR
     have q2 : (f != 0) = true := by simpa using hf
     have q3 : (f == f) = true := by simp
     clear hf HP HSM
     go_wp2_with first
      | (refine wpList_load_v (by rfl) 24 (.tmp 2) rfl ⟨w.heap.size, 0, none⟩ rfl (S2.xv A c X) (S2.run_load_all T_v4.out Tryz.underlying24 rfl S2.boxSize) ?_)
      | (refine S2.wpList_store_all (by rfl) 24 (.tmp 4) (.tmp 76) rfl rfl (w.heap.size + 1 + 1) rfl [.slice A X.length c] rfl 24 [.slice none 0 0] F_v4.out S2.boxSize rfl (onesB rfl) ?_; intro v5 hM hP; have F_v5 := Lib.hid hM; have B_v5 := Lib.hid (hP.below B_v4.out (by omega)); have L_v5 := Lib.hid (S2.IL.put L_v4.out hP (HOF.out _ (by omega))); clear hM hP)
     exact bodyPost_ret (v := .tuple #[S2.xv A c X, .bool false, .bool true]) (nres3 rfl _ _ (w.heap.size + 1 + 1) 24 [.slice A X.length c] _ _ _ rfl rfl rfl F_v5.out Tryz.underlying24 rfl S2.boxSize) rfl ⟨A, c, rfl, HXC.out, L_v5.out, .inr (.inl ⟨rfl, fun h => h⟩), B_v5.out⟩
   · obtain rfl : (Y, d) = R := by have := HRR.out; rwa [if_neg hf] at this
     have hf0 : f = 0 := by simpa using hf
     clear HRR
     subst hf0
     clear hf
     go_upto_region 11 with fail
     obtain ⟨v5, hv5⟩ : ∃ v5, v5 = World.drew v4 := ⟨_, rfl⟩
     have hbD : Below v4.heap.size v4 v5 := by rw [hv5]; exact (Below.refl _ _).drew
     have T_v5 : Hid (BK 24 v5 w.heap.size [.slice A X.length c]) := Lib.hid (T_v4.out.step hbD)
     have K_v5 : Hid (BK 33 v5 (w.heap.size + 1) (pkC p a)) := Lib.hid (K_v4.out.step hbD)
     have F_v5 : Hid (BK 24 v5 (w.heap.size + 1 + 1) [.slice none 0 0]) := Lib.hid (F_v4.out.step hbD)
     have B_v5 : Hid (Below w.heap.size w v5) := Lib.hid (stepB B_v4.out hbD)
     have L_v5 : Hid (S2.IL v5 v5.heap.size A X) := Lib.hid (CL.step L_v4.out hbD)
     have P_v5 : Hid (PIn v5 p a) := Lib.hid (P_v4.out.step hbD)
     have L1_v5 : Hid (S2.IL v5 v5.heap.size A1 Y) := Lib.hid (CL.step L1_v4.out hbD)
     have N1_v5 : Hid (NK v5 D1 ks) := Lib.hid (N1_v4.out.step hbD)
     have U_v5 : Hid (BK 24 v5 (v1.heap.size) [.slice A1 Y.length c1]) := Lib.hid (U_v4.out.step hbD)
     have L2_v5 : Hid (S2.IL v5 v5.heap.size A2 Y) := Lib.hid (CL.step L2_v4.out hbD)
     have N2_v5 : Hid (NK v5 D2 ks) := Lib.hid (N2_v4.out.step hbD)
     have V_v5 : Hid (BK 24 v5 (v3.heap.size) [.slice A2 Y.length c2]) := Lib.hid (V_v4.out.step hbD)
     clear T_v4 K_v4 F_v4 B_v4 L_v4 P_v4 L1_v4 N1_v4 U_v4 L2_v4 N2_v4 V_v4
     have hbd : (fun w' => BK 24 w' (v1.heap.size) [.slice A1 Y.length c1] ∧ BK 24 w' (v3.heap.size) [.slice A2 Y.length c2]) (World.drew v4) := by rw [← hv5]; exact ⟨U_v5.out, V_v5.out⟩
     have hSD : (fun w' => BK 24 w' (v1.heap.size) [.slice A1 Y.length c1] ∧ BK 24 w' (v3.heap.size) [.slice A2 Y.length c2]) v5 := ⟨U_v5.out, V_v5.out⟩
     have HWD := Lib.hid hv5
     clear hv5 hbD
     refine wp_region_held_drew (S := fun w' => BK 24 w' (v1.heap.size) [.slice A1 Y.length c1] ∧ BK 24 w' (v3.heap.size) [.slice A2 Y.length c2]) (by kernel_rfl) hbd (fun hHeld => ?_)
     rw [← HWD.out]
     clear hHeld
     have hHeld := hSD
     clear hSD hbd HWD
     refine tkA (i := 0) (v := (S2.xv A2 c2 Y)) (y := Or.inl ⟨by rfl, fun wS hSw => by (try dsimp only at hSw); exact exec_load 24 _ rfl ⟨v3.heap.size, 0, none⟩ (by go_simp) _ (S2.run_load_all hSw.2 Tryz.underlying24 rfl S2.boxSize)⟩) (s := hHeld) (h := ?_)
     refine tkA (i := 1) (v := .bool d) (y := Or.inl ⟨by rfl, fun wS hSw => by (try dsimp only at hSw); go_simp⟩) (s := hHeld) (h := ?_)
     refine tkA (i := 2) (v := .int .i64 0) (y := Or.inl ⟨by rfl, fun wS hSw => by (try dsimp only at hSw); go_simp⟩) (s := hHeld) (h := ?_)
     refine tkA (i := 3) (v := .int .i64 0) (y := Or.inl ⟨by rfl, fun wS hSw => by (try dsimp only at hSw); go_simp⟩) (s := hHeld) (h := ?_)
     refine tkA (i := 4) (v := .bool true) (y := Or.inl ⟨by rfl, fun wS hSw => by (try dsimp only at hSw); go_simp⟩) (s := hHeld) (h := ?_)
     refine tkA (i := 5) (v := .bool true) (y := Or.inl ⟨by rfl, fun wS hSw => by (try dsimp only at hSw); go_simp⟩) (s := hHeld) (h := ?_)
     refine tkA (i := 6) (v := .bool d) (y := Or.inl ⟨by rfl, fun wS hSw => by (try dsimp only at hSw); go_simp⟩) (s := hHeld) (h := ?_)
     refine tkA (i := 7) (v := .bool d) (y := Or.inl ⟨by rfl, fun wS hSw => by (try dsimp only at hSw); go_simp⟩) (s := hHeld) (h := ?_)
     refine tkA (i := 8) (v := .bool true) (y := Or.inl ⟨by rfl, fun wS hSw => by (try dsimp only at hSw); go_simp⟩) (s := hHeld) (h := ?_)
     refine tkA (i := 9) (v := .bool true) (y := Or.inl ⟨by rfl, fun wS hSw => by (try dsimp only at hSw); go_simp⟩) (s := hHeld) (h := ?_)
     refine tkA (i := 10) (v := .bool true) (y := Or.inl ⟨by rfl, fun wS hSw => by (try dsimp only at hSw); go_simp⟩) (s := hHeld) (h := ?_)
     refine tkA (i := 11) (v := (S2.xv A1 c1 Y)) (y := Or.inl ⟨by rfl, fun wS hSw => by (try dsimp only at hSw); exact exec_load 24 _ rfl ⟨v1.heap.size, 0, none⟩ (by go_simp) _ (S2.run_load_all hSw.1 Tryz.underlying24 rfl S2.boxSize)⟩) (s := hHeld) (h := ?_)
     refine tkA (i := 12) (v := (S2.xv A2 c2 Y)) (y := Or.inl ⟨by rfl, fun wS hSw => by (try dsimp only at hSw); exact exec_load 24 _ rfl ⟨v3.heap.size, 0, none⟩ (by go_simp) _ (S2.run_load_all hSw.2 Tryz.underlying24 rfl S2.boxSize)⟩) (s := hHeld) (h := ?_)
     refine wpAnyH_ready (rs := [13]) (by kernel_rfl) (by simp) ?_
     refine (AllReadyH.cons (get_ops _ _ _ rfl) (fun K hK => ?_) AllReadyH.nil)
     go_simp
     refine (HSM.out A1 A2 c1 c2 v5 L1_v5.out L2_v5.out).mono ?_
     rintro e v6 ⟨rfl, hb⟩
     have T_v6 : Hid (BK 24 v6 w.heap.size [.slice A X.length c]) := Lib.hid (T_v5.out.step hb)
     have K_v6 : Hid (BK 33 v6 (w.heap.size + 1) (pkC p a)) := Lib.hid (K_v5.out.step hb)
     have F_v6 : Hid (BK 24 v6 (w.heap.size + 1 + 1) [.slice none 0 0]) := Lib.hid (F_v5.out.step hb)
     have B_v6 : Hid (Below w.heap.size w v6) := Lib.hid (stepB B_v5.out hb)
     have L_v6 : Hid (S2.IL v6 v6.heap.size A X) := Lib.hid (CL.step L_v5.out hb)
     have P_v6 : Hid (PIn v6 p a) := Lib.hid (P_v5.out.step hb)
     have L1_v6 : Hid (S2.IL v6 v6.heap.size A1 Y) := Lib.hid (CL.step L1_v5.out hb)
     have N1_v6 : Hid (NK v6 D1 ks) := Lib.hid (N1_v5.out.step hb)
     have U_v6 : Hid (BK 24 v6 (v1.heap.size) [.slice A1 Y.length c1]) := Lib.hid (U_v5.out.step hb)
     have L2_v6 : Hid (S2.IL v6 v6.heap.size A2 Y) := Lib.hid (CL.step L2_v5.out hb)
     have N2_v6 : Hid (NK v6 D2 ks) := Lib.hid (N2_v5.out.step hb)
     have V_v6 : Hid (BK 24 v6 (v3.heap.size) [.slice A2 Y.length c2]) := Lib.hid (V_v5.out.step hb)
     clear T_v5 K_v5 F_v5 B_v5 L_v5 P_v5 L1_v5 N1_v5 U_v5 L2_v5 N2_v5 V_v5
     clear hHeld hb
     go_wp2_with fail
     refine hK.out _ _ ⟨U_v6.out, V_v6.out⟩ (fun hHeld => ?_)
     clear hK K
     try simp only [Act.put, List.setIfInBounds_toArray, List.set_cons_zero, List.set_cons_succ]
     refine tkA (i := 14) (v := .bool true) (y := Or.inl ⟨by rfl, fun wS hSw => by (try dsimp only at hSw); go_simp⟩) (s := hHeld) (h := ?_)
     refine tkA (i := 15) (v := .bool true) (y := Or.inl ⟨by rfl, fun wS hSw => by (try dsimp only at hSw); go_simp⟩) (s := hHeld) (h := ?_)
     refine tkA (i := 16) (v := .slice D1 ks.length e1) (y := Or.inl ⟨by rfl, fun wS hSw => by (try dsimp only at hSw); go_simp⟩) (s := hHeld) (h := ?_)
     refine tkA (i := 17) (v := .slice D2 ks.length e2) (y := Or.inl ⟨by rfl, fun wS hSw => by (try dsimp only at hSw); go_simp⟩) (s := hHeld) (h := ?_)
     refine wpAnyH_ready (rs := [18]) (by kernel_rfl) (by simp) ?_
     refine (AllReadyH.cons (get_ops _ _ _ rfl) (fun K hK => ?_) AllReadyH.nil)
     go_simp
     refine (HP.out D1 D2 e1 e2 v6 N1_v6.out N2_v6.out).mono ?_
     rintro e v7 ⟨rfl, hb⟩
     have T_v7 : Hid (BK 24 v7 w.heap.size [.slice A X.length c]) := Lib.hid (T_v6.out.step hb)
     have K_v7 : Hid (BK 33 v7 (w.heap.size + 1) (pkC p a)) := Lib.hid (K_v6.out.step hb)
     have F_v7 : Hid (BK 24 v7 (w.heap.size + 1 + 1) [.slice none 0 0]) := Lib.hid (F_v6.out.step hb)
     have B_v7 : Hid (Below w.heap.size w v7) := Lib.hid (stepB B_v6.out hb)
     have L_v7 : Hid (S2.IL v7 v7.heap.size A X) := Lib.hid (CL.step L_v6.out hb)
     have P_v7 : Hid (PIn v7 p a) := Lib.hid (P_v6.out.step hb)
     have L1_v7 : Hid (S2.IL v7 v7.heap.size A1 Y) := Lib.hid (CL.step L1_v6.out hb)
     have N1_v7 : Hid (NK v7 D1 ks) := Lib.hid (N1_v6.out.step hb)
     have U_v7 : Hid (BK 24 v7 (v1.heap.size) [.slice A1 Y.length c1]) := Lib.hid (U_v6.out.step hb)
     have L2_v7 : Hid (S2.IL v7 v7.heap.size A2 Y) := Lib.hid (CL.step L2_v6.out hb)
     have N2_v7 : Hid (NK v7 D2 ks) := Lib.hid (N2_v6.out.step hb)
     have V_v7 : Hid (BK 24 v7 (v3.heap.size) [.slice A2 Y.length c2]) := Lib.hid (V_v6.out.step hb)
     clear T_v6 K_v6 F_v6 B_v6 L_v6 P_v6 L1_v6 N1_v6 U_v6 L2_v6 N2_v6 V_v6
     clear hHeld hb
     go_wp2_with fail
     refine hK.out _ _ ⟨U_v7.out, V_v7.out⟩ (fun hHeld => ?_)
     clear hK K
     try simp only [Act.put, List.setIfInBounds_toArray, List.set_cons_zero, List.set_cons_succ]
     refine tkA (i := 19) (v := .bool true) (y := Or.inl ⟨by rfl, fun wS hSw => by (try dsimp only at hSw); go_simp⟩) (s := hHeld) (h := ?_)
     refine wpAnyH_ready (rs := [20]) (by kernel_rfl) (by simp) ?_
     refine (AllReadyH.cons (get_ops _ _ _ rfl) (fun K hK => ?_) AllReadyH.nil)
     refine S2.wp_store_all 24 _ _ rfl rfl (w.heap.size + 1 + 1) (by go_simp) [.slice A2 Y.length c2] (by first | rfl | go_simp) 24 [.slice none 0 0] F_v7.out S2.boxSize rfl (onesB rfl) ?_
     intro v8 hM hP
     have F_v8 : Hid (BK 24 v8 (w.heap.size + 1 + 1) [.slice A2 Y.length c2]) := Lib.hid (hM)
     have T_v8 : Hid (BK 24 v8 w.heap.size [.slice A X.length c]) := Lib.hid (hP.other T_v7.out (by omega))
     have K_v8 : Hid (BK 33 v8 (w.heap.size + 1) (pkC p a)) := Lib.hid (hP.other K_v7.out (by omega))
     have B_v8 : Hid (Below w.heap.size w v8) := Lib.hid (hP.below B_v7.out (by omega))
     have L_v8 : Hid (S2.IL v8 v8.heap.size A X) := Lib.hid (S2.IL.put L_v7.out hP (HOF.out _ (by omega)))
     have L1_v8 : Hid (S2.IL v8 v8.heap.size A1 Y) := Lib.hid (S2.IL.put L1_v7.out hP (fun b o e _ => by have := ZN1.out b o e; omega))
     have N1_v8 : Hid (NK v8 D1 ks) := Lib.hid (NK.put N1_v7.out hP (fun b o e => by have := ZN1k.out b o e; omega))
     have U_v8 : Hid (BK 24 v8 (v1.heap.size) [.slice A1 Y.length c1]) := Lib.hid (hP.other U_v7.out (by have := ZGa.out; omega))
     have L2_v8 : Hid (S2.IL v8 v8.heap.size A2 Y) := Lib.hid (S2.IL.put L2_v7.out hP OF2.out)
     have N2_v8 : Hid (NK v8 D2 ks) := Lib.hid (NK.put N2_v7.out hP (fun b o e => by have := ZN2k.out b o e; omega))
     have V_v8 : Hid (BK 24 v8 (v3.heap.size) [.slice A2 Y.length c2]) := Lib.hid (hP.other V_v7.out (by have := ZGb.out; omega))
     clear T_v7 K_v7 F_v7 B_v7 L_v7 P_v7 L1_v7 N1_v7 U_v7 L2_v7 N2_v7 V_v7
     clear hM hP hHeld
     refine hK.out _ _ ⟨U_v8.out, V_v8.out⟩ (fun hHeld => ?_)
     clear hK K
     try simp only [Act.put, List.setIfInBounds_toArray, List.set_cons_zero, List.set_cons_succ]
     refine tkA (i := 21) (v := .bool d) (y := Or.inl ⟨by rfl, fun wS hSw => by (try dsimp only at hSw); go_simp⟩) (s := hHeld) (h := ?_)
     refine tkA (i := 22) (v := .bool true) (y := Or.inl ⟨by rfl, fun wS hSw => by (try dsimp only at hSw); go_simp⟩) (s := hHeld) (h := ?_)
     refine wpAnyH_done (by kernel_rfl) ?_ _
     go_wp2_with fail
     exact bodyPost_ret (v := .tuple #[S2.xv A2 c2 Y, .bool d, .bool true]) (nres3 rfl _ _ (w.heap.size + 1 + 1) 24 [.slice A2 Y.length c2] _ _ _ rfl rfl rfl F_v8.out Tryz.underlying24 rfl S2.boxSize) rfl ⟨A2, c2, rfl, HC2.out, L2_v8.out, HF2.out, B_v8.out⟩
end Go.Proofs.YtomlideijhejfaaGreatDoor
