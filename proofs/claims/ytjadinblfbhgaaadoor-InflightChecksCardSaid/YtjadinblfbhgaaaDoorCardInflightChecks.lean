/-
  InflightChecks answers true, walked: Check of the program and of the specification answer alike, New too. Conditions: the window reads as data; the library's bound on short texts holds a number.
  PROVED: InflightChecks answers true for every text (each of its 2 arguments).
  Conditions: those that the row prints (the tables of package unicode/utf8 read as the program's text lays them; each argument has at most 2^47 bytes). The tie of the tables is given, over a pruned copy of the project.
-/
import Derived.Test.YtjadinblfbhgaaaDoorVl
import Derived.Test.YtjadinblfbhgaaaDoorVw
import Derived.Test.YtjadinblfbhgaaaDoorCards
import Derived.Test.YtjadinblfbhgaaaDoorTie
import Derived.Test.YtjadinblfbhgaaaDoorOpenWn
import Derived.ProofKit
import Derived.OpenShut
import Derived.Deep.DeepHandedRow
import Derived.Lib.LaidTab
import Derived.Lay
import Derived.LaidOnce
import Derived.SizedLaws
import Derived.Carry
import Derived.SevenTiedAt
namespace Go.Proofs.YtjadinblfbhgaaaDoor
open Go.RowKit
open S2 (BK Put)

set_option maxRecDepth 50000 in
set_option maxHeartbeats 16000000 in
theorem inflightChecks_walk (L : Int) (A : Option Addr) (c : Nat) (xs : List FE) (A2 : Option Addr) (c2 : Nat) (X : List Int) (l n : Int) (w : World) (hok : S1.Okw w) (hw : WOk w A c xs A2 c2 X) (hXl : X.length ≤ 9223372036854775807) (hnl : xs.length ≤ 9223372036854775807)
    (hid : ∀ x ∈ xs, -9223372036854775808 ≤ x.f.id ∧ x.f.id ≤ 9223372036854775807) (hXb : ∀ x ∈ X, -9223372036854775808 ≤ x ∧ x ≤ 9223372036854775807) (ht : ∀ x ∈ xs, x.f.m.topic.size ≤ 9223372036854775807 ∧ x.f.m.frm.size ≤ 9223372036854775807 ∧ ∀ y ∈ x.f.m.props, y.1.size ≤ 9223372036854775807) :
    Calls Tryd.prog 3 #[wv L A c xs A2 c2 X l, .int .i64 n] w fun e w' => e = .returned (.bool true) ∧ Below w.heap.size w w' := by
  have HC1 : Hid (∀ w1, S1.Okw w1 → WOk w1 A c xs A2 c2 X → Calls Tryd.prog 7 #[wv L A c xs A2 c2 X l] w1 fun e w' => e = .returned (.int .i64 (winR (L, xs.map FE.f, X, l))) ∧ Below w1.heap.size w1 w') := Lib.hid (fun w1 ho h => wcheck_any L A c xs A2 c2 X l w1 ho h hXl hnl hid hXb)
  have HC2 : Hid (∀ w1, WOk w1 A c xs A2 c2 X → Calls Tryd.prog 8 #[wv L A c xs A2 c2 X l] w1 fun e w' => e = .returned (.int .i64 (winR (L, xs.map FE.f, X, l))) ∧ Below w1.heap.size w1 w') := Lib.hid (fun w1 h => rwcheck_any L A c xs A2 c2 X l w1 h hXl hnl ht)
  have HN1 := Lib.hid (fun w1 => new_any n w1)
  have HN2 := Lib.hid (fun w1 => rnew_any n w1)
  have HS := Lib.hid (fun w1 => rwsame0_any (limR n) w1)
  have HA := Lib.hid (fun w1 ho => awake14_any w1 ho)
  generalize winR (L, xs.map FE.f, X, l) = z at HC1 HC2
  generalize limR n = r at HN1 HN2 HS
  have HW := Lib.hid hw
  have HO := Lib.hid hok
  clear hw hok hid hXb ht
  go_enter Tryd.func3, Tryd.ntmps3
  go_upto_region 1 with fail
  refine name_world (C := fun w1 => Code.wp _ _ _ _ w1) (w.alloc (.cells (wcs L A c xs A2 c2 X l).toArray 27)) ?_
  intro w1 hw1
  have hb1 : Below w.heap.size w w1 := by rw [hw1]; exact S2.below_new w _
  have T_w1 : Hid (BK 27 w1 w.heap.size (wcs L A c xs A2 c2 X l)) := Lib.hid (by rw [hw1]; exact BK.new w _ _)
  have B_w1 : Hid (Below w.heap.size w w1) := Lib.hid hb1
  have O_w1 : Hid (WOk w1 A c xs A2 c2 X) := Lib.hid (HW.out.step hb1)
  have K_w1 : Hid (S1.Okw w1) := Lib.hid (HO.out.step hb1)
  clear hb1 hw1
  obtain ⟨v1, hv1⟩ : ∃ v1, v1 = World.drew w1 := ⟨_, rfl⟩
  have hbD : Below w1.heap.size w1 v1 := by rw [hv1]; exact (Below.refl _ _).drew
  have B_v1 : Hid (Below w.heap.size w v1) := Lib.hid (stepB B_w1.out hbD)
  have T_v1 : Hid (BK 27 v1 w.heap.size (wcs L A c xs A2 c2 X l)) := Lib.hid (BK.step T_w1.out hbD)
  have O_v1 : Hid (WOk v1 A c xs A2 c2 X) := Lib.hid (WOk.step O_w1.out hbD)
  have K_v1 : Hid (S1.Okw v1) := Lib.hid (S1.Okw.step K_w1.out hbD)
  clear B_w1 T_w1 O_w1 K_w1
  have hbd : (fun w' => BK 27 w' w.heap.size (wcs L A c xs A2 c2 X l)) (World.drew w1) := by rw [← hv1]; exact T_v1.out
  have hSD : (fun w' => BK 27 w' w.heap.size (wcs L A c xs A2 c2 X l)) v1 := T_v1.out
  have HWD := Lib.hid hv1
  clear hv1 hbD
  refine wp_region_held_drew (S := fun w' => BK 27 w' w.heap.size (wcs L A c xs A2 c2 X l)) (by kernel_rfl) hbd (fun hHeld => ?_)
  rw [← HWD.out]
  clear hHeld
  have hHeld := hSD
  clear hSD hbd HWD
  refine wpAnyH_ready (rs := [0]) (by kernel_rfl) (by simp) ?_
  refine (AllReadyH.cons (get_ops _ _ _ rfl) (fun K hK => ?_) AllReadyH.nil)
  go_simp
  refine (HA.out v1 K_v1.out).mono ?_
  rintro e v2 ⟨rfl, hb⟩
  have B_v2 : Hid (Below w.heap.size w v2) := Lib.hid (stepB B_v1.out hb)
  have T_v2 : Hid (BK 27 v2 w.heap.size (wcs L A c xs A2 c2 X l)) := Lib.hid (BK.step T_v1.out hb)
  have O_v2 : Hid (WOk v2 A c xs A2 c2 X) := Lib.hid (WOk.step O_v1.out hb)
  have K_v2 : Hid (S1.Okw v2) := Lib.hid (S1.Okw.step K_v1.out hb)
  clear B_v1 T_v1 O_v1 K_v1
  clear hHeld hb
  go_wp2_with fail
  refine hK.out _ _ T_v2.out (fun hHeld => ?_)
  clear hK K
  try simp only [Act.put, List.setIfInBounds_toArray, List.set_cons_zero, List.set_cons_succ]
  refine wpAnyH_take (i := 1) (v := .bool true) (get_ops _ _ _ rfl) (by kernel_rfl) (by kernel_rfl) (by kernel_rfl) (fun _ _ _ h => h) (Or.inl ⟨by rfl, fun wS hSw => by (try dsimp only at hSw); go_simp⟩) hHeld ?_
  try simp only [Act.put, List.setIfInBounds_toArray, List.set_cons_zero, List.set_cons_succ]
  refine wpAnyH_take (i := 2) (v := (wv L A c xs A2 c2 X l)) (get_ops _ _ _ rfl) (by kernel_rfl) (by kernel_rfl) (by kernel_rfl) (fun _ _ _ h => h) (Or.inl ⟨by rfl, fun wS hSw => by (try dsimp only at hSw); exact exec_load 27 _ rfl ⟨w.heap.size, 0, none⟩ (by go_simp) _ (S2.run_load_all hSw Tryd.underlying27 rfl winSize)⟩) hHeld ?_
  try simp only [Act.put, List.setIfInBounds_toArray, List.set_cons_zero, List.set_cons_succ]
  refine wpAnyH_take (i := 4) (v := (wv L A c xs A2 c2 X l)) (get_ops _ _ _ rfl) (by kernel_rfl) (by kernel_rfl) (by kernel_rfl) (fun _ _ _ h => h) (Or.inl ⟨by rfl, fun wS hSw => by (try dsimp only at hSw); exact exec_load 27 _ rfl ⟨w.heap.size, 0, none⟩ (by go_simp) _ (S2.run_load_all hSw Tryd.underlying27 rfl winSize)⟩) hHeld ?_
  try simp only [Act.put, List.setIfInBounds_toArray, List.set_cons_zero, List.set_cons_succ]
  refine wpAnyH_ready (rs := [3]) (by kernel_rfl) (by simp) ?_
  refine (AllReadyH.cons (get_ops _ _ _ rfl) (fun K hK => ?_) AllReadyH.nil)
  go_simp
  refine (HC1.out v2 K_v2.out O_v2.out).mono ?_
  rintro e v3 ⟨rfl, hb⟩
  have B_v3 : Hid (Below w.heap.size w v3) := Lib.hid (stepB B_v2.out hb)
  have T_v3 : Hid (BK 27 v3 w.heap.size (wcs L A c xs A2 c2 X l)) := Lib.hid (BK.step T_v2.out hb)
  have O_v3 : Hid (WOk v3 A c xs A2 c2 X) := Lib.hid (WOk.step O_v2.out hb)
  have K_v3 : Hid (S1.Okw v3) := Lib.hid (S1.Okw.step K_v2.out hb)
  clear B_v2 T_v2 O_v2 K_v2
  clear hHeld hb
  go_wp2_with fail
  refine hK.out _ _ T_v3.out (fun hHeld => ?_)
  clear hK K
  try simp only [Act.put, List.setIfInBounds_toArray, List.set_cons_zero, List.set_cons_succ]
  refine wpAnyH_ready (rs := [5]) (by kernel_rfl) (by simp) ?_
  refine (AllReadyH.cons (get_ops _ _ _ rfl) (fun K hK => ?_) AllReadyH.nil)
  go_simp
  refine (HC2.out v3 O_v3.out).mono ?_
  rintro e v4 ⟨rfl, hb⟩
  have B_v4 : Hid (Below w.heap.size w v4) := Lib.hid (stepB B_v3.out hb)
  have T_v4 : Hid (BK 27 v4 w.heap.size (wcs L A c xs A2 c2 X l)) := Lib.hid (BK.step T_v3.out hb)
  have O_v4 : Hid (WOk v4 A c xs A2 c2 X) := Lib.hid (WOk.step O_v3.out hb)
  have K_v4 : Hid (S1.Okw v4) := Lib.hid (S1.Okw.step K_v3.out hb)
  clear B_v3 T_v3 O_v3 K_v3
  clear hHeld hb
  go_wp2_with fail
  refine hK.out _ _ T_v4.out (fun hHeld => ?_)
  clear hK K
  try simp only [Act.put, List.setIfInBounds_toArray, List.set_cons_zero, List.set_cons_succ]
  refine wpAnyH_take (i := 6) (v := .bool true) (get_ops _ _ _ rfl) (by kernel_rfl) (by kernel_rfl) (by kernel_rfl) (fun _ _ _ h => h) (Or.inl ⟨by rfl, fun wS hSw => by (try dsimp only at hSw); go_simp⟩) hHeld ?_
  try simp only [Act.put, List.setIfInBounds_toArray, List.set_cons_zero, List.set_cons_succ]
  refine wpAnyH_take (i := 7) (v := .bool true) (get_ops _ _ _ rfl) (by kernel_rfl) (by kernel_rfl) (by kernel_rfl) (fun _ _ _ h => h) (Or.inl ⟨by rfl, fun wS hSw => by (try dsimp only at hSw); go_simp⟩) hHeld ?_
  try simp only [Act.put, List.setIfInBounds_toArray, List.set_cons_zero, List.set_cons_succ]
  refine wpAnyH_take (i := 8) (v := .bool true) (get_ops _ _ _ rfl) (by kernel_rfl) (by kernel_rfl) (by kernel_rfl) (fun _ _ _ h => h) (Or.inl ⟨by rfl, fun wS hSw => by (try dsimp only at hSw); go_simp⟩) hHeld ?_
  try simp only [Act.put, List.setIfInBounds_toArray, List.set_cons_zero, List.set_cons_succ]
  refine wpAnyH_take (i := 9) (v := .int .i64 n) (get_ops _ _ _ rfl) (by kernel_rfl) (by kernel_rfl) (by kernel_rfl) (fun _ _ _ h => h) (Or.inl ⟨by rfl, fun wS hSw => by (try dsimp only at hSw); go_simp⟩) hHeld ?_
  try simp only [Act.put, List.setIfInBounds_toArray, List.set_cons_zero, List.set_cons_succ]
  refine wpAnyH_take (i := 11) (v := .int .i64 n) (get_ops _ _ _ rfl) (by kernel_rfl) (by kernel_rfl) (by kernel_rfl) (fun _ _ _ h => h) (Or.inl ⟨by rfl, fun wS hSw => by (try dsimp only at hSw); go_simp⟩) hHeld ?_
  try simp only [Act.put, List.setIfInBounds_toArray, List.set_cons_zero, List.set_cons_succ]
  refine wpAnyH_ready (rs := [10]) (by kernel_rfl) (by simp) ?_
  refine (AllReadyH.cons (get_ops _ _ _ rfl) (fun K hK => ?_) AllReadyH.nil)
  go_simp
  refine (HN1.out v4).mono ?_
  rintro e v5 ⟨rfl, hb⟩
  have B_v5 : Hid (Below w.heap.size w v5) := Lib.hid (stepB B_v4.out hb)
  have T_v5 : Hid (BK 27 v5 w.heap.size (wcs L A c xs A2 c2 X l)) := Lib.hid (BK.step T_v4.out hb)
  have O_v5 : Hid (WOk v5 A c xs A2 c2 X) := Lib.hid (WOk.step O_v4.out hb)
  have K_v5 : Hid (S1.Okw v5) := Lib.hid (S1.Okw.step K_v4.out hb)
  clear B_v4 T_v4 O_v4 K_v4
  clear hHeld hb
  go_wp2_with fail
  refine hK.out _ _ T_v5.out (fun hHeld => ?_)
  clear hK K
  try simp only [Act.put, List.setIfInBounds_toArray, List.set_cons_zero, List.set_cons_succ]
  refine wpAnyH_ready (rs := [12]) (by kernel_rfl) (by simp) ?_
  refine (AllReadyH.cons (get_ops _ _ _ rfl) (fun K hK => ?_) AllReadyH.nil)
  go_simp
  refine (HN2.out v5).mono ?_
  rintro e v6 ⟨rfl, hb⟩
  have B_v6 : Hid (Below w.heap.size w v6) := Lib.hid (stepB B_v5.out hb)
  have T_v6 : Hid (BK 27 v6 w.heap.size (wcs L A c xs A2 c2 X l)) := Lib.hid (BK.step T_v5.out hb)
  have O_v6 : Hid (WOk v6 A c xs A2 c2 X) := Lib.hid (WOk.step O_v5.out hb)
  have K_v6 : Hid (S1.Okw v6) := Lib.hid (S1.Okw.step K_v5.out hb)
  clear B_v5 T_v5 O_v5 K_v5
  clear hHeld hb
  go_wp2_with fail
  refine hK.out _ _ T_v6.out (fun hHeld => ?_)
  clear hK K
  try simp only [Act.put, List.setIfInBounds_toArray, List.set_cons_zero, List.set_cons_succ]
  refine wpAnyH_ready (rs := [13]) (by kernel_rfl) (by simp) ?_
  refine (AllReadyH.cons (get_ops _ _ _ rfl) (fun K hK => ?_) AllReadyH.nil)
  go_simp
  refine (HS.out v6).mono ?_
  rintro e v7 ⟨rfl, hb⟩
  have B_v7 : Hid (Below w.heap.size w v7) := Lib.hid (stepB B_v6.out hb)
  have T_v7 : Hid (BK 27 v7 w.heap.size (wcs L A c xs A2 c2 X l)) := Lib.hid (BK.step T_v6.out hb)
  have O_v7 : Hid (WOk v7 A c xs A2 c2 X) := Lib.hid (WOk.step O_v6.out hb)
  have K_v7 : Hid (S1.Okw v7) := Lib.hid (S1.Okw.step K_v6.out hb)
  clear B_v6 T_v6 O_v6 K_v6
  clear hHeld hb
  go_wp2_with fail
  refine hK.out _ _ T_v7.out (fun hHeld => ?_)
  clear hK K
  try simp only [Act.put, List.setIfInBounds_toArray, List.set_cons_zero, List.set_cons_succ]
  refine wpAnyH_take (i := 14) (v := .bool true) (get_ops _ _ _ rfl) (by kernel_rfl) (by kernel_rfl) (by kernel_rfl) (fun _ _ _ h => h) (Or.inl ⟨by rfl, fun wS hSw => by (try dsimp only at hSw); go_simp⟩) hHeld ?_
  try simp only [Act.put, List.setIfInBounds_toArray, List.set_cons_zero, List.set_cons_succ]
  refine wpAnyH_take (i := 15) (v := .bool true) (get_ops _ _ _ rfl) (by kernel_rfl) (by kernel_rfl) (by kernel_rfl) (fun _ _ _ h => h) (Or.inl ⟨by rfl, fun wS hSw => by (try dsimp only at hSw); go_simp⟩) hHeld ?_
  try simp only [Act.put, List.setIfInBounds_toArray, List.set_cons_zero, List.set_cons_succ]
  refine wpAnyH_done (by kernel_rfl) ?_ _
  go_wp2
  go_ret
  exact ⟨rfl, B_v7.out⟩
end Go.Proofs.YtjadinblfbhgaaaDoor
namespace Go.Proofs.YtjadinblfbhgaaaDoor.inflightChecks
open Go.ChangeShapes Go.WideShapes Go.ChangeAt Go.WideMaps Go.WideElems Go.RowKit
open Go.ChangeMaps (open_string shut_string)

theorem own : ownKnob Tryd.prog.godebug = none := by kernel_rfl
theorem okw {W : World} (h : W.ShapedOpen Tryd.prog) : S1.Okw W := Tryd.laysM143.s1_3 W h

set_option maxRecDepth 100000 in
theorem contract (H : Type) (enc : TypeId × Value → H) (W : World) (base : Nat) (args : Array Value) (ds gs : List (DataW H)) (before : List MemPlace)
    (hval : ∀ (j : Nat) t v, Tryd.f3.params[j]? = some t → args[j]? = some v → Value.okWide Tryd.prog W .any base t v)
    (hW : DataW.Whole enc Tryd.prog Tryd.f3.params.toList Rows.inflightChecksSpec.vars false W args.toList ds gs before)
    (hsz : (DataW.weightsEach Tryd.prog (Tryd.f3.params.toList ++ (OpenSpec.ofChange Rows.inflightChecksSpec).bare.plain.varTypes Tryd.prog) (ds ++ gs)).all (· ≤ reachBytes) = true)
    (hsh : W.ShapedOpen Tryd.prog) :
    Calls Tryd.prog 3 args W fun e W' => ∃ v, e = .returned v ∧ Rows.inflightChecksSpec.post enc Tryd.prog Tryd.f3 false true false false W args v W' := by
  have hW' := hW
  obtain ⟨p, q, hA0, hV, rfl, hfz, hnd⟩ := hW
  have hA : DataW.TrodAll enc Tryd.prog W 0 (fun _ => true) true Tryd.f3.params.toList args.toList ds p := hA0
  rw [Tryd.params3] at hA hval
  obtain ⟨v0, vs0, d0, ds0, p0, q0, hargs, rfl, rfl, h0, r0⟩ := trodAll_cons hA
  obtain ⟨v1, vs1, d1, ds1, p1, q1, rfl, rfl, rfl, h1, r1⟩ := trodAll_cons r0
  obtain ⟨rfl, rfl, rfl⟩ := trodAll_nil r1
  obtain rfl : args = #[v0, v1] := by cases args; simp_all
  obtain ⟨rfl, rfl⟩ := trodVars_none hV
  have h0k := h0
  obtain ⟨L0, A0, c0, xs0, B0, e0, X0, l0, rfl, ok0, hXl0, hnl0, fo0, hXb0⟩ := open_win (hval 0 27 v0 rfl rfl) h0
  obtain ⟨n1, rfl, rfl, rfl, wn1⟩ := open_int Tryd.underlying3 (hval 1 3 v1 rfl rfl) h1
  clear hA0
  simp only [List.append_nil] at hW'
  have hrb := reachBytes_lt
  have hlt : ∀ x ∈ p0, x.block < W.heap.size := fun x hx => by simpa using hW'.lt x (by simpa using hx)
  refine (inflightChecks_walk L0 A0 c0 xs0 B0 e0 X0 l0 n1 W (okw hsh) ok0 hXl0 hnl0 (fun x hx => (fo0 x hx).1) hXb0 (fun x hx => (fo0 x hx).2)).mono fun e W' ⟨he, hb⟩ => ?_
  subst he
  have e1 : Rows.inflightChecksSpec.fn H ([d0, .lit (.int .i64 n1)] ++ []) = { results := [.lit (.bool true)], args := [d0, .lit (.int .i64 n1)] } := rfl
  refine ⟨_, rfl, _, _, _, [], p0, [], by simpa using hW', ?_, ?_, ?_, hb.frame _, fun h => by cases h⟩
  · exact trodAll_cons_mk (shut_bool Tryd.underlying4 _) trodAll_mk0
  · rw [e1]
    simpa using trodAll_cons_mk (Below.trod laidOutAll (by kernel_rfl) (of_decide_eq_true (by kernel_rfl)) h0k hb (fun x hx => hlt x (by simp [hx]))) (trodAll_cons_mk (shut_int Tryd.underlying3 wn1) (trodAll_mk0))
  · rfl

theorem laid_met (os : Os) : laidMet Tryd.prog Rows.inflightChecksRow.laid ((World.laidAll Tryd.prog os Rows.inflightChecksRow.laid).forCall (fun _ _ => 0) ⟨#[], #[.agg #[.int .i64 0, .slice none 0 0, .slice none 0 0, .int .i64 0], .int .i64 0], []⟩).memory :=
  laidMet_laidAll _ (by kernel_rfl) (by kernel_rfl)
theorem reads (os : Os) {H : Type} (enc : TypeId × Value → H) : ∃ places, DataW.whole enc Tryd.prog ((World.laidAll Tryd.prog os Rows.inflightChecksRow.laid).forCall (fun _ _ => 0) ⟨#[], #[.agg #[.int .i64 0, .slice none 0 0, .slice none 0 0, .int .i64 0], .int .i64 0], []⟩).memory Tryd.f3.params.toList Rows.inflightChecksSpec.vars false #[Value.agg #[.int .i64 0, .slice none 0 0, .slice none 0 0, .int .i64 0], Value.int .i64 0].toList 8 = some ([.agg [.lit (.int .i64 0), .nil, .agg [.nil, .lit (.int .i64 0)]], .lit (.int .i64 0)], [], places) :=
  ⟨[], by kernel_rfl⟩

set_option maxRecDepth 100000 in
theorem lifted (os : Os) (started : os.Started) (H : Type) (enc : TypeId × Value → H) (F : Stop.Interp) :
    ReturnsInHanded {} Tryd.checked os 3 .any ((OpenSpec.ofChange Rows.inflightChecksSpec).preRow enc Tryd.prog Tryd.f3 Rows.inflightChecksRow.domain false Rows.inflightChecksRow.laid) (((OpenSpec.ofChange Rows.inflightChecksSpec).at F).post enc Tryd.prog Tryd.f3 false true false false) := by
  obtain ⟨places, hx⟩ := reads os enc
  refine returnsInHanded_of_row (C := Tryd.checked) (s := (OpenSpec.ofChange Rows.inflightChecksSpec)) own started (by kernel_rfl) Tryd.func3
    (witness_row_at (enc := enc) (C := Tryd.checked) false (World.laidAll Tryd.prog os Rows.inflightChecksRow.laid) #[.agg #[.int .i64 0, .slice none 0 0, .slice none 0 0, .int .i64 0], .int .i64 0] (World.laidAll_os _ _ _) (by kernel_rfl) (by kernel_rfl) (by kernel_rfl)
      (OpenSpec.preRow_of_cond 8 hx (by kernel_rfl) (fun k hk => by cases hk) (by kernel_rfl) (laid_met os))) ?_
  intro W base args ds gs before hval hW _ _ hsz _ hsh _
  exact contract H enc W base args ds gs before hval hW hsz hsh

theorem said : Rows.InflightChecksSaid :=
  OpenClaim.holds_of_cond 3 Tryd.f3 rfl rfl rfl rfl rfl rfl rfl ⟨rfl, rfl, rfl, rfl, rfl⟩ rfl rfl rfl rfl rfl (by kernel_rfl) Tryd.func3 (by kernel_rfl)
    (of_decide_eq_true (by kernel_rfl)) (by unfold Func.isWrapper; first | (rw [if_pos (by decide +kernel)]; kernel_rfl) | (rw [if_neg (by decide +kernel)]; exact ⟨rfl, rfl⟩))
    (fun os started H enc _ F => by rw [OpenClaim.pre_eq_preRow]; exact lifted os started H enc F)

theorem plain (f : FuncId) (fn : Func) (hf : Tryd.pinned.checked.prog.funcNamed "broker/brokerlaw14.InflightChecks" = some f) (hfn : Tryd.pinned.checked.prog.funcs[f]? = some fn) :
    false = Tryd.pinned.checked.prog.looks [] ∧ ∀ (j : Nat) t, fn.params[j]? = some t → Tryd.pinned.checked.prog.wantsStandIn t = false := by
  obtain rfl : f = 3 := Option.some.inj ((show Tryd.prog.funcNamed "broker/brokerlaw14.InflightChecks" = some 3 by kernel_rfl).symm.trans hf) |>.symm
  obtain rfl : fn = Tryd.f3 := (Option.some.inj (Tryd.func3.symm.trans hfn)).symm
  refine ⟨by kernel_rfl, fun j t ht => ?_⟩
  rw [Tryd.params3] at ht
  have hm : t ∈ [27, 3] := by simpa using Array.mem_of_getElem? ht
  simp only [List.mem_cons, List.not_mem_nil, or_false] at hm
  rcases hm with rfl | rfl
  · exact (show Tryd.prog.wantsStandIn 27 = false by kernel_rfl)
  · exact (show Tryd.prog.wantsStandIn 3 = false by kernel_rfl)

theorem card : Rows.InflightChecksCardSaid :=
  Claim7.holds_tied_plain_at .later [] _ _ _ _ said (fun _ h => by cases h) (by kernel_rfl) (fun _ h => by cases h) inflightChecks_row_tie rfl ⟨rfl, rfl⟩ (by kernel_rfl) rfl plain (by kernel_rfl)
end Go.Proofs.YtjadinblfbhgaaaDoor.inflightChecks
