/-
  PacketChecks answers true, walked: Check of the program and of the specification answer alike. Conditions: the tables of package unicode/utf8 are there; the packet reads as data.
  PROVED: PacketChecks answers true for every text.
  Conditions: those that the row prints (the tables of package unicode/utf8 read as the program's text lays them; each argument has at most 2^47 bytes). The tie of the tables is given, over a pruned copy of the project.
-/
import Derived.Test.YtjlmlaekogahpaaGreatDoorCheckS
import Derived.Test.YtjlmlaekogahpaaGreatDoorAwake6
import Derived.Test.YtjlmlaekogahpaaGreatDoorCards
import Derived.Test.YtjlmlaekogahpaaGreatDoorTie
import Derived.Test.YtjlmlaekogahpaaGreatDoorOpenPk
import Derived.ProofKit
import Derived.OpenShut
import Derived.Deep.DeepHandedRow
import Derived.Lib.LaidTab
import Derived.Lay
import Derived.LaidOnce
import Derived.SizedLaws
import Derived.Carry
import Derived.SevenTiedAt
namespace Go.Proofs.YtjlmlaekogahpaaGreatDoor
open Go.RowKit

set_option maxRecDepth 50000 in
set_option maxHeartbeats 16000000 in
theorem packetChecks_walk (p : Pkt) (a : PA) (w : World) (hw : S1.Okw w) (hp : PIn w p a) :
    Calls Tryz.prog 3 #[pkV p a] w fun e w' => e = .returned (.bool true) ∧ Below w.heap.size w w' := by
  have HA : Hid (∀ w, PIn w p a → Calls Tryz.prog 10 #[pkV p a] w (SomeB (SmallZ p) w)) := Lib.hid (fun w h => small6z_any p a w h)
  have C1 : Hid (SmallZ p → ∀ w, S1.Okw w → PIn w p a → Calls Tryz.prog 12 #[pkV p a] w fun e w' => e = .returned (.int .i64 (checkP p)) ∧ Below w.heap.size w w') := Lib.hid (fun s w h1 h2 => check6_any p a w h1 h2 s.1.sz s.1.tx)
  have C2 : Hid (SmallZ p → ∀ w, PIn w p a → Calls Tryz.prog 13 #[pkV p a] w fun e w' => e = .returned (.int .i64 (checkP p)) ∧ Below w.heap.size w w') := Lib.hid (fun s w h => rCheck6_any p a w h s)
  generalize checkP p = c at C1 C2
  unfold pkV at *
  obtain ⟨w1, hw1⟩ : ∃ w1, w1 = w.alloc (.cells (pkC p a).toArray 31) := ⟨_, rfl⟩
  have hb1 : Below w.heap.size w w1 := by rw [hw1]; exact (Below.refl _ _).alloc (Nat.le_refl _) _
  have hm1 : MT 31 w1 w.heap.size (pkC p a) := by rw [hw1]; exact MT.new w _ _
  have HBw1 := Lib.hid hb1
  have HQw1 := Lib.hid hm1
  have HPw1 := Lib.hid (hp.step hb1)
  have HW1 := Lib.hid hw1
  have HW := Lib.hid hw
  clear hw hp hb1 hm1 hw1
  go_enter Tryz.func3, Tryz.ntmps3
  go_upto_region 1 with fail
  rw [← HW1.out]
  go_wp2_with (refine wpList_load_all (by rfl) 31 (.tmp 1) rfl (w.heap.size) rfl 31 _ (0, 0) _ HQw1.out Tryz.underlying31 rfl info33 ?_)
  refine (HA.out w1 HPw1.out).mono ?_
  rintro e w2 ⟨s, rfl, hs, hb⟩
  have HS := Lib.hid hs
  clear hs
  have HBw2 : Hid (Below w.heap.size w w2) := Lib.hid (stepB HBw1.out hb)
  have HQw2 : Hid (MT 31 w2 w.heap.size (pkC p a)) := Lib.hid (MT.step HQw1.out hb)
  have HPw2 : Hid (PIn w2 p a) := Lib.hid (PIn.step HPw1.out hb)
  clear HBw1 HQw1 HPw1
  clear hb
  cases s with
  | false =>
    go_wp2_with fail
    refine (awake6_any w2 (HW.out.step HBw2.out)).mono ?_
    rintro e we ⟨rfl, hb⟩
    have HBe := Lib.hid (stepB HBw2.out hb)
    clear hb
    go_wp2_with fail
    go_ret
    exact ⟨rfl, HBe.out⟩
  | true =>
    have D1 := Lib.hid (C1.out (HS.out rfl))
    have D2 := Lib.hid (C2.out (HS.out rfl))
    clear C1 C2 HS HA
    go_upto_region 3 with fail
    obtain ⟨v1, hv1⟩ : ∃ v1, v1 = World.drew w2 := ⟨_, rfl⟩
    have hbD : Below w2.heap.size w2 v1 := by rw [hv1]; exact (Below.refl _ _).drew
    have HBv1 : Hid (Below w.heap.size w v1) := Lib.hid (stepB HBw2.out hbD)
    have HQv1 : Hid (MT 31 v1 w.heap.size (pkC p a)) := Lib.hid (MT.step HQw2.out hbD)
    have HPv1 : Hid (PIn v1 p a) := Lib.hid (PIn.step HPw2.out hbD)
    clear HBw2 HQw2 HPw2
    have hbd : (fun w' => MT 31 w' w.heap.size (pkC p a)) (World.drew w2) := by rw [← hv1]; exact HQv1.out
    have hSD : (fun w' => MT 31 w' w.heap.size (pkC p a)) v1 := HQv1.out
    have HWD := Lib.hid hv1
    clear hv1 hbD
    refine wp_region_held_drew (S := fun w' => MT 31 w' w.heap.size (pkC p a)) (by kernel_rfl) hbd (fun hHeld => ?_)
    rw [← HWD.out]
    clear hHeld
    have hHeld := hSD
    clear hSD hbd HWD
    refine wpAnyH_take (i := 0) (v := .agg (pkC p a).toArray) (get_ops _ _ _ rfl) (by kernel_rfl) (by kernel_rfl) (by kernel_rfl) (fun _ _ _ h => h) (Or.inl ⟨by rfl, fun wS hSw => by (try dsimp only at hSw); exact exec_load 31 _ rfl ⟨w.heap.size, 0, none⟩ (by go_simp) _ (run_loadVar_row wS w.heap.size 31 31 _ (0, 0) _ hSw Tryz.underlying31 rfl info33)⟩) hHeld ?_
    try simp only [Act.put, List.setIfInBounds_toArray, List.set_cons_zero, List.set_cons_succ]
    refine wpAnyH_take (i := 2) (v := .agg (pkC p a).toArray) (get_ops _ _ _ rfl) (by kernel_rfl) (by kernel_rfl) (by kernel_rfl) (fun _ _ _ h => h) (Or.inl ⟨by rfl, fun wS hSw => by (try dsimp only at hSw); exact exec_load 31 _ rfl ⟨w.heap.size, 0, none⟩ (by go_simp) _ (run_loadVar_row wS w.heap.size 31 31 _ (0, 0) _ hSw Tryz.underlying31 rfl info33)⟩) hHeld ?_
    try simp only [Act.put, List.setIfInBounds_toArray, List.set_cons_zero, List.set_cons_succ]
    refine wpAnyH_ready (rs := [1]) (by kernel_rfl) (by simp) ?_
    refine (AllReadyH.cons (get_ops _ _ _ rfl) (fun K hK => ?_) AllReadyH.nil)
    go_simp
    go_at_call 12
    refine (D1.out v1 (HW.out.step HBv1.out) HPv1.out).mono ?_
    rintro e v2 ⟨rfl, hb⟩
    have HBv2 : Hid (Below w.heap.size w v2) := Lib.hid (stepB HBv1.out hb)
    have HQv2 : Hid (MT 31 v2 w.heap.size (pkC p a)) := Lib.hid (MT.step HQv1.out hb)
    have HPv2 : Hid (PIn v2 p a) := Lib.hid (PIn.step HPv1.out hb)
    clear HBv1 HQv1 HPv1
    clear hHeld hb
    go_wp2_with fail
    refine hK.out _ _ HQv2.out (fun hHeld => ?_)
    clear hK K
    try simp only [Act.put, List.setIfInBounds_toArray, List.set_cons_zero, List.set_cons_succ]
    refine wpAnyH_ready (rs := [3]) (by kernel_rfl) (by simp) ?_
    refine (AllReadyH.cons (get_ops _ _ _ rfl) (fun K hK => ?_) AllReadyH.nil)
    go_simp
    go_at_call 13
    refine (D2.out v2 HPv2.out).mono ?_
    rintro e v3 ⟨rfl, hb⟩
    have HBv3 : Hid (Below w.heap.size w v3) := Lib.hid (stepB HBv2.out hb)
    have HQv3 : Hid (MT 31 v3 w.heap.size (pkC p a)) := Lib.hid (MT.step HQv2.out hb)
    have HPv3 : Hid (PIn v3 p a) := Lib.hid (PIn.step HPv2.out hb)
    clear HBv2 HQv2 HPv2
    clear hHeld hb
    go_wp2_with fail
    refine hK.out _ _ HQv3.out (fun hHeld => ?_)
    clear hK K
    try simp only [Act.put, List.setIfInBounds_toArray, List.set_cons_zero, List.set_cons_succ]
    refine wpAnyH_take (i := 4) (v := .bool true) (get_ops _ _ _ rfl) (by kernel_rfl) (by kernel_rfl) (by kernel_rfl) (fun _ _ _ h => h) (Or.inl ⟨by rfl, fun wS hSw => by (try dsimp only at hSw); go_simp⟩) hHeld ?_
    try simp only [Act.put, List.setIfInBounds_toArray, List.set_cons_zero, List.set_cons_succ]
    refine wpAnyH_take (i := 5) (v := .bool true) (get_ops _ _ _ rfl) (by kernel_rfl) (by kernel_rfl) (by kernel_rfl) (fun _ _ _ h => h) (Or.inl ⟨by rfl, fun wS hSw => by (try dsimp only at hSw); go_simp⟩) hHeld ?_
    try simp only [Act.put, List.setIfInBounds_toArray, List.set_cons_zero, List.set_cons_succ]
    refine wpAnyH_ready (rs := [6]) (by kernel_rfl) (by simp) ?_
    refine (AllReadyH.cons (get_ops _ _ _ rfl) (fun K hK => ?_) AllReadyH.nil)
    go_simp
    go_at_call 11
    refine (awake6_any v3 (HW.out.step HBv3.out)).mono ?_
    rintro e v4 ⟨rfl, hb⟩
    have HBv4 : Hid (Below w.heap.size w v4) := Lib.hid (stepB HBv3.out hb)
    have HQv4 : Hid (MT 31 v4 w.heap.size (pkC p a)) := Lib.hid (MT.step HQv3.out hb)
    have HPv4 : Hid (PIn v4 p a) := Lib.hid (PIn.step HPv3.out hb)
    clear HBv3 HQv3 HPv3
    clear hHeld hb
    go_wp2_with fail
    refine hK.out _ _ HQv4.out (fun hHeld => ?_)
    clear hK K
    try simp only [Act.put, List.setIfInBounds_toArray, List.set_cons_zero, List.set_cons_succ]
    refine wpAnyH_take (i := 7) (v := .bool true) (get_ops _ _ _ rfl) (by kernel_rfl) (by kernel_rfl) (by kernel_rfl) (fun _ _ _ h => h) (Or.inl ⟨by rfl, fun wS hSw => by (try dsimp only at hSw); go_simp⟩) hHeld ?_
    try simp only [Act.put, List.setIfInBounds_toArray, List.set_cons_zero, List.set_cons_succ]
    refine wpAnyH_take (i := 8) (v := .bool true) (get_ops _ _ _ rfl) (by kernel_rfl) (by kernel_rfl) (by kernel_rfl) (fun _ _ _ h => h) (Or.inl ⟨by rfl, fun wS hSw => by (try dsimp only at hSw); go_simp⟩) hHeld ?_
    try simp only [Act.put, List.setIfInBounds_toArray, List.set_cons_zero, List.set_cons_succ]
    refine wpAnyH_done (by kernel_rfl) ?_ _
    go_wp2
    go_ret
    exact ⟨rfl, HBv4.out⟩

end Go.Proofs.YtjlmlaekogahpaaGreatDoor
namespace Go.Proofs.YtjlmlaekogahpaaGreatDoor.packetChecks
open Go.ChangeShapes Go.WideShapes Go.ChangeAt Go.WideMaps Go.WideElems Go.RowKit
open Go.ChangeMaps (open_string shut_string)

theorem own : ownKnob Tryz.prog.godebug = none := by kernel_rfl
theorem okw {W : World} (h : W.ShapedOpen Tryz.prog) : S1.Okw W := Tryz.laysM146.s1_3 W h

set_option maxRecDepth 100000 in
theorem contract (H : Type) (enc : TypeId × Value → H) (W : World) (base : Nat) (args : Array Value) (ds gs : List (DataW H)) (before : List MemPlace)
    (hval : ∀ (j : Nat) t v, Tryz.f3.params[j]? = some t → args[j]? = some v → Value.okWide Tryz.prog W .any base t v)
    (hW : DataW.Whole enc Tryz.prog Tryz.f3.params.toList Rows.packetChecksSpec.vars false W args.toList ds gs before)
    (hsz : (DataW.weightsEach Tryz.prog (Tryz.f3.params.toList ++ (OpenSpec.ofChange Rows.packetChecksSpec).bare.plain.varTypes Tryz.prog) (ds ++ gs)).all (· ≤ reachBytes) = true)
    (hsh : W.ShapedOpen Tryz.prog) :
    Calls Tryz.prog 3 args W fun e W' => ∃ v, e = .returned v ∧ Rows.packetChecksSpec.post enc Tryz.prog Tryz.f3 false true false false W args v W' := by
  have hW' := hW
  obtain ⟨p, q, hA0, hV, rfl, hfz, hnd⟩ := hW
  have hA : DataW.TrodAll enc Tryz.prog W 0 (fun _ => true) true Tryz.f3.params.toList args.toList ds p := hA0
  rw [Tryz.params3] at hA hval
  obtain ⟨v0, vs0, d0, ds0, p0, q0, hargs, rfl, rfl, h0, r0⟩ := trodAll_cons hA
  obtain ⟨rfl, rfl, rfl⟩ := trodAll_nil r0
  obtain rfl : args = #[v0] := by cases args; simp_all
  obtain ⟨rfl, rfl⟩ := trodVars_none hV
  have h0k := h0
  obtain ⟨m0, a0, rfl, sl0⟩ := open_pkt (hval 0 31 v0 rfl rfl) h0
  clear hA0
  simp only [List.append_nil] at hW'
  have hrb := reachBytes_lt
  have hlt : ∀ x ∈ p0, x.block < W.heap.size := fun x hx => by simpa using hW'.lt x (by simpa using hx)
  refine (packetChecks_walk m0 a0 W (okw hsh) sl0).mono fun e W' ⟨he, hb⟩ => ?_
  subst he
  have e1 : Rows.packetChecksSpec.fn H ([d0] ++ []) = { results := [.lit (.bool true)], args := [d0] } := rfl
  refine ⟨_, rfl, _, _, _, [], p0, [], by simpa using hW', ?_, ?_, ?_, hb.frame _, fun h => by cases h⟩
  · exact trodAll_cons_mk (shut_bool Tryz.underlying4 _) trodAll_mk0
  · rw [e1]
    simpa using trodAll_cons_mk (Below.trod laidOutAll (by kernel_rfl) (of_decide_eq_true (by kernel_rfl)) h0k hb (fun x hx => hlt x (by simp [hx]))) (trodAll_mk0)
  · rfl

theorem laid_met (os : Os) : laidMet Tryz.prog Rows.packetChecksRow.laid ((World.laidAll Tryz.prog os Rows.packetChecksRow.laid).forCall (fun _ _ => 0) ⟨#[], #[(pkV Pkt.zero PA.zero)], []⟩).memory :=
  laidMet_laidAll _ (by kernel_rfl) (by kernel_rfl)
theorem reads (os : Os) {H : Type} (enc : TypeId × Value → H) : ∃ places, DataW.whole enc Tryz.prog ((World.laidAll Tryz.prog os Rows.packetChecksRow.laid).forCall (fun _ _ => 0) ⟨#[], #[(pkV Pkt.zero PA.zero)], []⟩).memory Tryz.f3.params.toList Rows.packetChecksSpec.vars false #[(pkV Pkt.zero PA.zero)].toList 8 = some ([.agg [.lit (.int .i64 0), .lit (.int .i64 0), .lit (.bool false), .agg [.lit (.string []), .lit (.string []), .lit (.int .i64 0), .lit (.bool false), .lit (.int .i64 0), .lit (.int .i64 0), .lit (.string []), .lit (.int .i64 0), .nil], .lit (.string []), .lit (.string []), .lit (.bool false), .lit (.int .i64 0), .lit (.int .i64 0), .lit (.int .i64 0), .agg [.lit (.bool false), .lit (.int .i64 0), .agg [.lit (.string []), .lit (.string []), .lit (.int .i64 0), .lit (.bool false), .lit (.int .i64 0), .lit (.int .i64 0), .lit (.string []), .lit (.int .i64 0), .nil]], .lit (.bool false), .lit (.int .i64 0), .nil, .nil, .nil]], [], places) :=
  ⟨[], by kernel_rfl⟩

set_option maxRecDepth 100000 in
theorem lifted (os : Os) (started : os.Started) (H : Type) (enc : TypeId × Value → H) (F : Stop.Interp) :
    ReturnsInHanded {} Tryz.checked os 3 .any ((OpenSpec.ofChange Rows.packetChecksSpec).preRow enc Tryz.prog Tryz.f3 Rows.packetChecksRow.domain false Rows.packetChecksRow.laid) (((OpenSpec.ofChange Rows.packetChecksSpec).at F).post enc Tryz.prog Tryz.f3 false true false false) := by
  obtain ⟨places, hx⟩ := reads os enc
  refine returnsInHanded_of_row (C := Tryz.checked) (s := (OpenSpec.ofChange Rows.packetChecksSpec)) own started (by kernel_rfl) Tryz.func3
    (witness_row_at (enc := enc) (C := Tryz.checked) false (World.laidAll Tryz.prog os Rows.packetChecksRow.laid) #[(pkV Pkt.zero PA.zero)] (World.laidAll_os _ _ _) (by kernel_rfl) (by kernel_rfl) (by kernel_rfl)
      (OpenSpec.preRow_of_cond 8 hx (by kernel_rfl) (fun k hk => by cases hk) (by kernel_rfl) (laid_met os))) ?_
  intro W base args ds gs before hval hW _ _ hsz _ hsh _
  exact contract H enc W base args ds gs before hval hW hsz hsh

theorem said : Rows.PacketChecksSaid :=
  OpenClaim.holds_of_cond 3 Tryz.f3 rfl rfl rfl rfl rfl rfl rfl ⟨rfl, rfl, rfl, rfl, rfl⟩ rfl rfl rfl rfl rfl (by kernel_rfl) Tryz.func3 (by kernel_rfl)
    (of_decide_eq_true (by kernel_rfl)) (by unfold Func.isWrapper; first | (rw [if_pos (by decide +kernel)]; kernel_rfl) | (rw [if_neg (by decide +kernel)]; exact ⟨rfl, rfl⟩))
    (fun os started H enc _ F => by rw [OpenClaim.pre_eq_preRow]; exact lifted os started H enc F)

theorem plain (f : FuncId) (fn : Func) (hf : Tryz.pinned.checked.prog.funcNamed "broker/brokerlaw06.PacketChecks" = some f) (hfn : Tryz.pinned.checked.prog.funcs[f]? = some fn) :
    true = Tryz.pinned.checked.prog.looks [] ∧ ∀ (j : Nat) t, fn.params[j]? = some t → Tryz.pinned.checked.prog.wantsStandIn t = false := by
  obtain rfl : f = 3 := Option.some.inj ((show Tryz.prog.funcNamed "broker/brokerlaw06.PacketChecks" = some 3 by kernel_rfl).symm.trans hf) |>.symm
  obtain rfl : fn = Tryz.f3 := (Option.some.inj (Tryz.func3.symm.trans hfn)).symm
  refine ⟨by kernel_rfl, fun j t ht => ?_⟩
  rw [Tryz.params3] at ht
  have hm : t ∈ [31] := by simpa using Array.mem_of_getElem? ht
  simp only [List.mem_cons, List.not_mem_nil, or_false] at hm
  subst hm
  exact (show Tryz.prog.wantsStandIn 31 = false by kernel_rfl)

theorem card : Rows.PacketChecksCardSaid :=
  Claim7.holds_tied_plain_at .later [] _ _ _ _ said (fun _ h => by cases h) (by kernel_rfl) (fun _ h => by cases h) packetChecks_row_tie rfl ⟨rfl, rfl⟩ (by kernel_rfl) rfl plain (by kernel_rfl)
end Go.Proofs.YtjlmlaekogahpaaGreatDoor.packetChecks
