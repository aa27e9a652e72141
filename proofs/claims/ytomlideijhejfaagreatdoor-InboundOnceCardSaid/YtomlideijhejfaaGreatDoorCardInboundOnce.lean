/-
  The walk of InboundRuns: it answers true. Conditions: the packets read as data; their lists and texts fit a machine; the library's bound on short texts holds a number.
  The walk of InboundOnce: it answers true. Conditions: the inbox and the packets read as data; the packets' lists and texts fit a machine; the library's bound on short texts holds a number.
  PROVED: InboundOnce answers true for every text (each of its 4 arguments).
  Conditions: those that the row prints (the tables of package unicode/utf8 read as the program's text lays them; each argument has at most 2^47 bytes). The tie of the tables is given, over a pruned copy of the project.
-/
import Derived.Test.YtomlideijhejfaaGreatDoorNi
import Derived.Test.YtomlideijhejfaaGreatDoorCards
import Derived.Test.YtomlideijhejfaaGreatDoorTie
import Derived.Test.YtomlideijhejfaaGreatDoorOpenPw
import Derived.Carry
import Derived.Deep.DeepHandedRow
import Derived.LaidOnce
import Derived.Lay
import Derived.Lib.LaidTab
import Derived.OpenShut
import Derived.ProofKit
import Derived.SevenTiedAt
import Derived.SizedLaws
namespace Go.Proofs.YtomlideijhejfaaGreatDoor
open Go.RowKit
open S2 (BK Put)

theorem id_of {p : Pkt} (hk : p.kind = 3) (hc : checkP p = 0) (hl : p.msg.level = 2) : 1 ≤ p.id ∧ p.id ≤ 65535 := by
 unfold checkP at hc
 rw [if_neg (by omega)] at hc
 split at hc
 · omega
 · unfold bodyR at hc
   rw [if_neg (by omega), if_neg (by omega), if_pos hk] at hc
   unfold pubR at hc
   split at hc
   · omega
   · rw [if_pos (by omega)] at hc
     unfold idR at hc
     split at hc
     · omega
     · omega
theorem del_ok {X : List Int} {n : Int} (hv : S2.ckI X 0 = 0) : S2.ckI (S2.delI X n) 0 = 0 := by
 have h := S2.ck_ok.1 hv
 exact S2.ck_ok.2 ⟨Nat.le_trans (S2.del_len X n) h.1, S2.del_up h.2.1, h.2.2⟩
theorem acc_ok {X : List Int} {p : Pkt} (hv : S2.ckI X 0 = 0) : S2.ckI (naccR X p).1 0 = 0 := by
 have h := S2.ck_ok.1 hv
 have h0 : S2.ckI [] 0 = 0 := by decide
 unfold naccR
 by_cases h1 : p.kind ≠ 3
 · rw [if_pos h1]; exact h0
 rw [if_neg h1]
 by_cases h2 : checkP p ≠ 0
 · rw [if_pos h2]; exact h0
 rw [if_neg h2]
 by_cases h3 : p.msg.level ≠ 2
 · rw [if_pos h3]; exact hv
 rw [if_neg h3]
 by_cases h4 : p.id ∉ X ∧ 32 ≤ X.length
 · rw [if_pos h4]; exact h0
 rw [if_neg h4]
 dsimp only
 unfold S2.withI
 by_cases h5 : p.id ∈ X
 · rw [if_pos h5]; exact hv
 rw [if_neg h5]
 have hid := id_of (by simpa using h1) (by simpa using h2) (by simpa using h3)
 refine S2.ck_ok.2 ⟨?_, S2.ins_up h.2.1 (by omega) hid.2 h5, h.2.2⟩
 rw [S2.ins_len]
 have : ¬ 32 ≤ X.length := fun h6 => h4 ⟨h5, h6⟩
 omega
theorem step_ok {X : List Int} {p : Pkt} (hv : S2.ckI X 0 = 0) : S2.ckI (stepR X p).1 0 = 0 := by
 unfold stepR
 by_cases hk : p.kind = 6
 · rw [if_pos hk]
   by_cases h1 : (nrelR X p.kind p.id).2.2 ≠ 0
   · rw [if_pos h1]; exact hv
   · rw [if_neg h1]
     unfold nrelR at h1 ⊢
     rw [if_neg (by simpa using hk)] at h1 ⊢
     by_cases h2 : p.id < 1 ∨ 65535 < p.id
     · rw [if_pos h2] at h1; simp at h1
     · rw [if_neg h2]; exact del_ok hv
 · rw [if_neg hk]
   by_cases h1 : (naccR X p).2.2.2 ≠ 0
   · rw [if_pos h1]; exact hv
   · rw [if_neg h1]; exact acc_ok hv
theorem KL.cells {w : World} {B : Nat} {A : Option Addr} {xs : List (Pkt × PA)} (h : KL w B A xs) {j : Nat} {x : Pkt × PA} (hx : xs[j]? = some x) :
 ∃ b o, A = some ⟨b, o, none⟩ ∧ b < B ∧ (∀ i v, (gK x)[i]? = some v → w.cell? ⟨b, o + j * 34 + i, none⟩ = some v) ∧ PInB w B x.1 x.2 := by
 obtain ⟨b, o, e, hb, hc⟩ := h.1 (Nat.lt_of_le_of_lt (Nat.zero_le _) (List.getElem?_eq_some_iff.1 hx).1)
 exact ⟨b, o, e, hb, fun i v hv => hc j x i v hx hv, h.2 x (List.mem_of_getElem? hx)⟩
theorem load_pkc {w : World} {b o : Nat} {x : Pkt × PA} (hc : ∀ i v, (gK x)[i]? = some v → w.cell? ⟨b, o + i, none⟩ = some v) : (loadVar 33 ⟨b, o, none⟩).run Tryz.prog w = .ok (.agg (pkC x.1 x.2).toArray) w :=
 run_load_cells w b o (gK x) 33 _ hc Tryz.underlying33 rfl info33
theorem cells_stepK {L : List Value} {w w' : World} {b k : Nat} (h : ∀ j v, L[j]? = some v → w.cell? ⟨b, k + j, none⟩ = some v) (hb : Below w.heap.size w w') : ∀ j v, L[j]? = some v → w'.cell? ⟨b, k + j, none⟩ = some v := fun j v hv => by
 have h1 := h j v hv
 have hl : b < w.heap.size := World.block_lt_of_cell? w ⟨b, k + j, none⟩ h1
 rw [hb.cell hl]; exact h1

/-- what holds between two packets: the inbox in its variable, block g -/
structure InvR (W w : World) (g : Nat) (A : Option Addr) (c : Nat) (X : List Int) : Prop where
 t : BK 24 w g [.slice A X.length c]
 b : Below W.heap.size W w
 l : S2.IL w w.heap.size A X
 c : X.length ≤ c
 v : S2.ckI X 0 = 0
 f : S2.Off g A X
theorem InvR.step {W w w' : World} {g : Nat} {A : Option Addr} {c : Nat} {X : List Int} (h : InvR W w g A c X) (hb : Below w.heap.size w w') : InvR W w' g A c X := ⟨h.t.step hb, stepB h.b hb, CL.step h.l hb, h.c, h.v, h.f⟩

set_option maxRecDepth 20000 in
set_option maxHeartbeats 8000000 in
theorem inboundRuns_walk (A : Option Addr) (c : Nat) (xs : List (Pkt × PA)) (w : World) (hok : S1.Okw w) (hks : KL w w.heap.size A xs) (hn : xs.length ≤ 140737488355328) (hbz : ∀ x ∈ xs, BigZ x.1) :
 Calls Tryz.prog 4 #[.slice A xs.length c] w fun e w' => e = .returned (.bool true) ∧ Below w.heap.size w w' := by
 have HOK := Lib.hid hok
 have HA := Lib.hid (fun w1 h => awake15_any w1 h)
 have HK := Lib.hid hks
 have HZ := Lib.hid hbz
 have HN := Lib.hid hn
 clear hok hks hbz hn
 go_enter Tryz.func4, Tryz.ntmps4
 go_upto_region 2 with fail
 refine name_world (C := fun w1 => Code.wp _ _ _ _ w1) (w.alloc (.cells [.slice none 0 0].toArray 24)) ?_
 intro w1 hw1
 have HI1 : Hid (InvR w w1 w.heap.size none 0 []) := Lib.hid ⟨by rw [hw1]; exact BK.new _ _ _, by rw [hw1]; exact S2.below_new _ _, CL.nil _ _ _, Nat.le_refl _, by decide, fun b o e => by cases e⟩
 clear hw1
 go_wp2_with fail
 go_loopg [4] xs.length (fun g v wr => ∃ (k : Nat) (A1 : Option Addr) (c1 : Nat) (X : List Int), k + g = xs.length ∧ k ≤ 60 ∧ v = .int .i64 k ∧ InvR w wr w.heap.size A1 c1 X)
 case atStart => exact ⟨0, none, 0, [], by omega, by omega, rfl, HI1.out⟩
 case round =>
  clear HI1
  obtain ⟨k, A1, c1, X, hkg, hk60, rfl, hinv⟩ := hrel
  have HG := Lib.hid hkg
  have HI := Lib.hid hinv
  clear hinv
  have EX : Hid (∀ wy, Below wr.heap.size wr wy → Below w.heap.size w wy) := Lib.hid (fun wy h => stepB HI.out.b h)
  cases gk with
  | zero =>
   obtain rfl : k = xs.length := by omega
   have e1 : decide ((xs.length : Int) < (xs.length : Int)) = false := decide_eq_false (by omega)
   clear hkg hk60
   go_wp2_with fail
   refine (HA.out wr (HOK.out.step HI.out.b)).mono ?_
   rintro e w2 ⟨rfl, hb⟩
   have B_w2 := Lib.hid (EX.out w2 hb)
   clear hb
   go_wp2
   go_ret
   exact ⟨rfl, B_w2.out⟩
  | succ g =>
   have hlt : k < xs.length := by omega
   have e1 : decide ((k : Int) < (xs.length : Int)) = true := decide_eq_true (by omega)
   by_cases h60 : k = 60
   · subst h60
     have e2 : decide (((60 : Nat) : Int) < 60) = false := by decide
     have e1' : decide (60 < xs.length) = true := decide_eq_true hlt
     have e1s : decide ((60 : Int) < (xs.length : Int)) = true := decide_eq_true (by omega)
     clear hkg hk60 hlt
     go_wp2_with fail
     refine (HA.out wr (HOK.out.step HI.out.b)).mono ?_
     rintro e w2 ⟨rfl, hb⟩
     have B_w2 := Lib.hid (EX.out w2 hb)
     clear hb
     go_wp2
     go_ret
     exact ⟨rfl, B_w2.out⟩
   have e2 : decide ((k : Int) < 60) = true := decide_eq_true (by omega)
   have e1' : decide (k < xs.length) = true := decide_eq_true hlt
   have HK60 : Hid (k < 60) := Lib.hid (by omega)
   obtain ⟨z, hz⟩ : ∃ z, xs[k]? = some z := ⟨_, List.getElem?_eq_getElem hlt⟩
   obtain ⟨b, o, hA, hbB, hc, hpi⟩ := (HK.out.step HI.out.b).cells hz
   subst hA
   have HST := Lib.hid (fun w1 h0 h1 h2 => step15_any A1 c1 X z.1 z.2 w1 h0 h1 HI.out.c HI.out.v h2 (HZ.out z (List.mem_of_getElem? hz)))
   have HVY : Hid (S2.ckI (stepR X z.1).1 0 = 0) := Lib.hid (step_ok HI.out.v)
   generalize stepR X z.1 = r at HST HVY
   obtain ⟨Y, d⟩ := r
   dsimp only at HVY
   have I_wr : Hid (InvR w wr w.heap.size A1 c1 X) := HI
   have C_wr : Hid (∀ i v, (gK z)[i]? = some v → wr.cell? ⟨b, o + k * 34 + i, none⟩ = some v) := Lib.hid hc
   have P_wr : Hid (PIn wr z.1 z.2) := Lib.hid hpi.pin
   have T_wr : Hid (BK 24 wr w.heap.size [.slice A1 X.length c1]) := Lib.hid HI.out.t
   have HBL : Hid (b < wr.heap.size) := Lib.hid hbB
   have HGB : Hid (w.heap.size < wr.heap.size) := Lib.hid HI.out.t.lt
   have j1 : (0 : Int) ≤ (k : Int) := by omega
   have j2 : (k : Int) < (xs.length : Int) := by omega
   have hk6 : k < 60 := by omega
   clear hz hc hpi hbB hkg hk60 h60 hlt HI EX
   unfold pkV at HST
   go_upto_region 5 with fail
   have B_wr : Hid (Below w.heap.size w wr) := Lib.hid I_wr.out.b
   have G_wr : Hid (wr.heap.size ≤ wr.heap.size) := Lib.hid (Nat.le_refl _)
   obtain ⟨h1, hh1⟩ : ∃ h1, h1 = World.drew wr := ⟨_, rfl⟩
   have hbD : Below wr.heap.size wr h1 := by rw [hh1]; exact (Below.refl _ _).drew
   have I_h1 : Hid (InvR w h1 w.heap.size A1 c1 X) := Lib.hid (InvR.step I_wr.out hbD)
   have T_h1 : Hid (BK 24 h1 w.heap.size [.slice A1 X.length c1]) := Lib.hid (T_wr.out.step hbD)
   have C_h1 : Hid (∀ i v, (gK z)[i]? = some v → h1.cell? ⟨b, o + k * 34 + i, none⟩ = some v) := Lib.hid (cells_stepK C_wr.out hbD)
   have P_h1 : Hid (PIn h1 z.1 z.2) := Lib.hid (P_wr.out.step hbD)
   have B_h1 : Hid (Below w.heap.size w h1) := Lib.hid (stepB B_wr.out hbD)
   have G_h1 : Hid (wr.heap.size ≤ h1.heap.size) := Lib.hid (Nat.le_trans G_wr.out hbD.size)
   clear I_wr T_wr C_wr P_wr B_wr G_wr
   have hbd : (fun w' => BK 24 w' w.heap.size [.slice A1 X.length c1] ∧ ∀ i v, (gK z)[i]? = some v → w'.cell? ⟨b, o + k * 34 + i, none⟩ = some v) (World.drew wr) := by rw [← hh1]; exact ⟨T_h1.out, C_h1.out⟩
   have hSD : (fun w' => BK 24 w' w.heap.size [.slice A1 X.length c1] ∧ ∀ i v, (gK z)[i]? = some v → w'.cell? ⟨b, o + k * 34 + i, none⟩ = some v) h1 := ⟨T_h1.out, C_h1.out⟩
   have HWD := Lib.hid hh1
   clear hh1 hbD
   refine wp_region_held_drew (S := fun w' => BK 24 w' w.heap.size [.slice A1 X.length c1] ∧ ∀ i v, (gK z)[i]? = some v → w'.cell? ⟨b, o + k * 34 + i, none⟩ = some v) (by kernel_rfl) hbd (fun hHeld => ?_)
   rw [← HWD.out]
   clear hHeld
   have hHeld := hSD
   clear hSD hbd HWD
   refine tkA (i := 0) (v := (S2.xv A1 c1 X)) (y := Or.inl ⟨by rfl, fun wS hSw => by (try dsimp only at hSw); exact exec_load 24 _ rfl ⟨w.heap.size, 0, none⟩ (by go_simp) _ (S2.run_load_all hSw.1 Tryz.underlying24 rfl S2.boxSize)⟩) (s := hHeld) (h := ?_)
   refine tkA (i := 1) (v := .slice (some ⟨b, o, none⟩) xs.length c) (y := Or.inl ⟨by rfl, fun wS hSw => by (try dsimp only at hSw); go_simp⟩) (s := hHeld) (h := ?_)
   refine tkA (i := 2) (v := .int .i64 (k : Int)) (y := Or.inl ⟨by rfl, fun wS hSw => by (try dsimp only at hSw); go_simp⟩) (s := hHeld) (h := ?_)
   refine tkA (i := 3) (v := .pointer (some ⟨b, o + k * 34, none⟩)) (y := Or.inl ⟨by rfl, fun wS hSw => by (try dsimp only at hSw); go_simp⟩) (s := hHeld) (h := ?_)
   refine tkA (i := 4) (v := .agg (pkC z.1 z.2).toArray) (y := Or.inl ⟨by rfl, fun wS hSw => by (try dsimp only at hSw); exact exec_load 33 _ rfl ⟨b, o + k * 34, none⟩ (by go_simp) _ (load_pkc hSw.2)⟩) (s := hHeld) (h := ?_)
   refine wpAnyH_ready (rs := [5, 10]) (by kernel_rfl) (by simp) ?_
   refine (AllReadyH.cons (get_ops _ _ _ rfl) (fun K hK => ?_) (AllReadyH.cons (get_ops _ _ _ rfl) (fun K hK => ?_) AllReadyH.nil))
   · go_simp
     refine (HST.out h1 (HOK.out.step B_h1.out) I_h1.out.l P_h1.out).mono ?_
     rintro e h2 ⟨A2, c2, rfl, hc2, hl2, hfr2, hb⟩
     have HC2 := Lib.hid hc2
     have HOB : Hid (S2.Off w.heap.size A2 Y) := Lib.hid (I_h1.out.f.fr hfr2 T_h1.out.lt)
     have I_h2 : Hid (InvR w h2 w.heap.size A1 c1 X) := Lib.hid (InvR.step I_h1.out hb)
     have T_h2 : Hid (BK 24 h2 w.heap.size [.slice A1 X.length c1]) := Lib.hid (T_h1.out.step hb)
     have C_h2 : Hid (∀ i v, (gK z)[i]? = some v → h2.cell? ⟨b, o + k * 34 + i, none⟩ = some v) := Lib.hid (cells_stepK C_h1.out hb)
     have P_h2 : Hid (PIn h2 z.1 z.2) := Lib.hid (P_h1.out.step hb)
     have B_h2 : Hid (Below w.heap.size w h2) := Lib.hid (stepB B_h1.out hb)
     have G_h2 : Hid (wr.heap.size ≤ h2.heap.size) := Lib.hid (Nat.le_trans G_h1.out hb.size)
     clear I_h1 T_h1 C_h1 P_h1 B_h1 G_h1
     have L_h2 : Hid (S2.IL h2 h2.heap.size A2 Y) := Lib.hid hl2
     clear hHeld hb hl2 hfr2 hc2
     go_wp2_with fail
     refine hK.out _ _ ⟨T_h2.out, C_h2.out⟩ (fun hHeld => ?_)
     clear hK K
     try simp only [Act.put, List.setIfInBounds_toArray, List.set_cons_zero, List.set_cons_succ]
     refine tkA (i := 6) (v := .tuple #[S2.xv A2 c2 Y, .bool d, .bool true]) (y := Or.inl ⟨by rfl, fun wS hSw => by (try dsimp only at hSw); go_simp⟩) (s := hHeld) (h := ?_)
     refine tkA (i := 7) (v := (S2.xv A2 c2 Y)) (y := Or.inl ⟨by rfl, fun wS hSw => by (try dsimp only at hSw); go_simp⟩) (s := hHeld) (h := ?_)
     refine tkA (i := 8) (v := .bool d) (y := Or.inl ⟨by rfl, fun wS hSw => by (try dsimp only at hSw); go_simp⟩) (s := hHeld) (h := ?_)
     refine tkA (i := 9) (v := .bool true) (y := Or.inl ⟨by rfl, fun wS hSw => by (try dsimp only at hSw); go_simp⟩) (s := hHeld) (h := ?_)
     refine wpAnyH_ready (rs := [10]) (by kernel_rfl) (by simp) ?_
     refine (AllReadyH.cons (get_ops _ _ _ rfl) (fun K hK => ?_) AllReadyH.nil)
     go_simp
     obtain ⟨gv, hgv⟩ : ∃ gv, gv = h2.heap.size := ⟨_, rfl⟩
     obtain ⟨h3, hh3⟩ : ∃ h3, h3 = h2.alloc (.cells ([.slice none 0 0] : List Value).toArray 24) := ⟨_, rfl⟩
     have hb : Below h2.heap.size h2 h3 := by rw [hh3]; exact S2.below_new _ _
     have hN : BK 24 h3 gv [.slice none 0 0] := by rw [hh3, hgv]; exact BK.new _ _ _
     have HGV : Hid (w.heap.size < gv) := Lib.hid (by rw [hgv]; exact T_h2.out.lt)
     have HBV : Hid (b < gv) := Lib.hid (by rw [hgv]; have := G_h2.out; have := HBL.out; omega)
     have HOV : Hid (S2.Off gv A2 Y) := Lib.hid (S2.Off.lt L_h2.out (by rw [hgv]; exact Nat.le_refl _))
     have I_h3 : Hid (InvR w h3 w.heap.size A1 c1 X) := Lib.hid (InvR.step I_h2.out hb)
     have T_h3 : Hid (BK 24 h3 w.heap.size [.slice A1 X.length c1]) := Lib.hid (T_h2.out.step hb)
     have C_h3 : Hid (∀ i v, (gK z)[i]? = some v → h3.cell? ⟨b, o + k * 34 + i, none⟩ = some v) := Lib.hid (cells_stepK C_h2.out hb)
     have P_h3 : Hid (PIn h3 z.1 z.2) := Lib.hid (P_h2.out.step hb)
     have B_h3 : Hid (Below w.heap.size w h3) := Lib.hid (stepB B_h2.out hb)
     have G_h3 : Hid (wr.heap.size ≤ h3.heap.size) := Lib.hid (Nat.le_trans G_h2.out hb.size)
     have L_h3 : Hid (S2.IL h3 h3.heap.size A2 Y) := Lib.hid (CL.step L_h2.out hb)
     clear I_h2 T_h2 C_h2 P_h2 B_h2 G_h2 L_h2
     have V_h3 := Lib.hid hN
     try rw [← hh3]
     try rw [← hgv]
     clear hHeld hb hN hh3 hgv
     refine hK.out _ _ ⟨T_h3.out, C_h3.out⟩ (fun hHeld => ?_)
     clear hK K
     try simp only [Act.put, List.setIfInBounds_toArray, List.set_cons_zero, List.set_cons_succ]
     refine wpAnyH_ready (rs := [11]) (by kernel_rfl) (by simp) ?_
     refine (AllReadyH.cons (get_ops _ _ _ rfl) (fun K hK => ?_) AllReadyH.nil)
     refine S2.wp_store_all 24 _ _ rfl rfl gv (by go_simp) [.slice A2 Y.length c2] (by first | rfl | go_simp) 24 [.slice none 0 0] V_h3.out S2.boxSize rfl (onesB rfl) ?_
     intro h4 hM hP
     have V_h4 : Hid (BK 24 h4 gv [.slice A2 Y.length c2]) := Lib.hid (hM)
     have T_h4 : Hid (BK 24 h4 w.heap.size [.slice A1 X.length c1]) := Lib.hid (hP.other T_h3.out (by have := HGV.out; omega))
     have C_h4 : Hid (∀ i v, (gK z)[i]? = some v → h4.cell? ⟨b, o + k * 34 + i, none⟩ = some v) := Lib.hid (fun j v hv => (hP.cell (p := ⟨b, o + k * 34 + j, none⟩) (by have := HBV.out; show b ≠ gv; omega)).trans (C_h3.out j v hv))
     have B_h4 : Hid (Below w.heap.size w h4) := Lib.hid (hP.below B_h3.out (by have := HGV.out; omega))
     have G_h4 : Hid (wr.heap.size ≤ h4.heap.size) := Lib.hid ((by rw [hP.size]; exact G_h3.out))
     have L_h4 : Hid (S2.IL h4 h4.heap.size A2 Y) := Lib.hid (S2.IL.put L_h3.out hP HOV.out)
     clear I_h3 T_h3 C_h3 P_h3 B_h3 G_h3 L_h3 V_h3
     clear hM hP hHeld
     refine hK.out _ _ ⟨T_h4.out, C_h4.out⟩ (fun hHeld => ?_)
     clear hK K
     try simp only [Act.put, List.setIfInBounds_toArray, List.set_cons_zero, List.set_cons_succ]
     refine tkA (i := 12) (v := .bool d) (y := Or.inl ⟨by rfl, fun wS hSw => by (try dsimp only at hSw); go_simp⟩) (s := hHeld) (h := ?_)
     refine tkA (i := 13) (v := .bool true) (y := Or.inl ⟨by rfl, fun wS hSw => by (try dsimp only at hSw); go_simp⟩) (s := hHeld) (h := ?_)
     refine wpAnyH_done (by kernel_rfl) ?_ _
     clear C_h4 G_h4
     go_wp2_with first
      | (refine wpList_load_v (by rfl) 24 (.tmp 5) rfl ⟨gv, 0, none⟩ rfl (S2.xv A2 c2 Y) (S2.run_load_all V_h4.out Tryz.underlying24 rfl S2.boxSize) ?_)
     refine (S2.nCheck_any A2 c2 Y h4 L_h4.out (by have := (S2.ck_ok.1 HVY.out).1; omega)).mono ?_
     rintro e q1 ⟨rfl, hb⟩
     have T_q1 : Hid (BK 24 q1 w.heap.size [.slice A1 X.length c1]) := Lib.hid (T_h4.out.step hb)
     have B_q1 : Hid (Below w.heap.size w q1) := Lib.hid (stepB B_h4.out hb)
     have L_q1 : Hid (S2.IL q1 q1.heap.size A2 Y) := Lib.hid (CL.step L_h4.out hb)
     have V_q1 : Hid (BK 24 q1 gv [.slice A2 Y.length c2]) := Lib.hid (V_h4.out.step hb)
     clear T_h4 B_h4 L_h4 V_h4
     clear hb
     rw [HVY.out]
     go_wp2_with first
      | (refine wpList_load_v (by rfl) 24 (.tmp 5) rfl ⟨gv, 0, none⟩ rfl (S2.xv A2 c2 Y) (S2.run_load_all V_q1.out Tryz.underlying24 rfl S2.boxSize) ?_)
      | (refine S2.wpList_store_all (by rfl) 24 (.tmp 3) (.tmp 35) rfl rfl w.heap.size rfl [.slice A2 Y.length c2] rfl 24 [.slice A1 X.length c1] T_q1.out S2.boxSize rfl (onesB rfl) ?_; intro qf hM hP; have T_qf := Lib.hid hM; have B_qf := Lib.hid (hP.below B_q1.out (Nat.le_refl _)); have L_qf := Lib.hid (S2.IL.put L_q1.out hP HOB.out); clear hM hP)
     go_roundg g
     case measure => omega
     case rel => exact ⟨k + 1, A2, c2, Y, by have := HG.out; omega, by have := HK60.out; omega, by go_num, ⟨T_qf.out, B_qf.out, L_qf.out, HC2.out, HVY.out, HOB.out⟩⟩
   · go_simp
     obtain ⟨gv, hgv⟩ : ∃ gv, gv = h1.heap.size := ⟨_, rfl⟩
     obtain ⟨h2, hh2⟩ : ∃ h2, h2 = h1.alloc (.cells ([.slice none 0 0] : List Value).toArray 24) := ⟨_, rfl⟩
     have hb : Below h1.heap.size h1 h2 := by rw [hh2]; exact S2.below_new _ _
     have hN : BK 24 h2 gv [.slice none 0 0] := by rw [hh2, hgv]; exact BK.new _ _ _
     have HGV : Hid (w.heap.size < gv) := Lib.hid (by rw [hgv]; exact T_h1.out.lt)
     have HBV : Hid (b < gv) := Lib.hid (by rw [hgv]; have := G_h1.out; have := HBL.out; omega)
     have HOA : Hid (S2.Off gv A1 X) := Lib.hid (S2.Off.lt I_h1.out.l (by rw [hgv]; exact Nat.le_refl _))
     have I_h2 : Hid (InvR w h2 w.heap.size A1 c1 X) := Lib.hid (InvR.step I_h1.out hb)
     have T_h2 : Hid (BK 24 h2 w.heap.size [.slice A1 X.length c1]) := Lib.hid (T_h1.out.step hb)
     have C_h2 : Hid (∀ i v, (gK z)[i]? = some v → h2.cell? ⟨b, o + k * 34 + i, none⟩ = some v) := Lib.hid (cells_stepK C_h1.out hb)
     have P_h2 : Hid (PIn h2 z.1 z.2) := Lib.hid (P_h1.out.step hb)
     have B_h2 : Hid (Below w.heap.size w h2) := Lib.hid (stepB B_h1.out hb)
     have G_h2 : Hid (wr.heap.size ≤ h2.heap.size) := Lib.hid (Nat.le_trans G_h1.out hb.size)
     clear I_h1 T_h1 C_h1 P_h1 B_h1 G_h1
     have V_h2 := Lib.hid hN
     try rw [← hh2]
     try rw [← hgv]
     clear hHeld hb hN hh2 hgv
     refine hK.out _ _ ⟨T_h2.out, C_h2.out⟩ (fun hHeld => ?_)
     clear hK K
     try simp only [Act.put, List.setIfInBounds_toArray, List.set_cons_zero, List.set_cons_succ]
     refine wpAnyH_ready (rs := [5]) (by kernel_rfl) (by simp) ?_
     refine (AllReadyH.cons (get_ops _ _ _ rfl) (fun K hK => ?_) AllReadyH.nil)
     go_simp
     refine (HST.out h2 (HOK.out.step B_h2.out) I_h2.out.l P_h2.out).mono ?_
     rintro e h3 ⟨A2, c2, rfl, hc2, hl2, hfr2, hb⟩
     have HC2 := Lib.hid hc2
     have HOB : Hid (S2.Off w.heap.size A2 Y) := Lib.hid (I_h2.out.f.fr hfr2 T_h2.out.lt)
     have HOV : Hid (S2.Off gv A2 Y) := Lib.hid (HOA.out.fr hfr2 V_h2.out.lt)
     have I_h3 : Hid (InvR w h3 w.heap.size A1 c1 X) := Lib.hid (InvR.step I_h2.out hb)
     have T_h3 : Hid (BK 24 h3 w.heap.size [.slice A1 X.length c1]) := Lib.hid (T_h2.out.step hb)
     have C_h3 : Hid (∀ i v, (gK z)[i]? = some v → h3.cell? ⟨b, o + k * 34 + i, none⟩ = some v) := Lib.hid (cells_stepK C_h2.out hb)
     have P_h3 : Hid (PIn h3 z.1 z.2) := Lib.hid (P_h2.out.step hb)
     have B_h3 : Hid (Below w.heap.size w h3) := Lib.hid (stepB B_h2.out hb)
     have G_h3 : Hid (wr.heap.size ≤ h3.heap.size) := Lib.hid (Nat.le_trans G_h2.out hb.size)
     have V_h3 : Hid (BK 24 h3 gv [.slice none 0 0]) := Lib.hid (V_h2.out.step hb)
     clear I_h2 T_h2 C_h2 P_h2 B_h2 G_h2 V_h2
     have L_h3 : Hid (S2.IL h3 h3.heap.size A2 Y) := Lib.hid hl2
     clear hHeld hb hl2 hfr2 hc2
     go_wp2_with fail
     refine hK.out _ _ ⟨T_h3.out, C_h3.out⟩ (fun hHeld => ?_)
     clear hK K
     try simp only [Act.put, List.setIfInBounds_toArray, List.set_cons_zero, List.set_cons_succ]
     refine tkA (i := 6) (v := .tuple #[S2.xv A2 c2 Y, .bool d, .bool true]) (y := Or.inl ⟨by rfl, fun wS hSw => by (try dsimp only at hSw); go_simp⟩) (s := hHeld) (h := ?_)
     refine tkA (i := 7) (v := (S2.xv A2 c2 Y)) (y := Or.inl ⟨by rfl, fun wS hSw => by (try dsimp only at hSw); go_simp⟩) (s := hHeld) (h := ?_)
     refine tkA (i := 8) (v := .bool d) (y := Or.inl ⟨by rfl, fun wS hSw => by (try dsimp only at hSw); go_simp⟩) (s := hHeld) (h := ?_)
     refine tkA (i := 9) (v := .bool true) (y := Or.inl ⟨by rfl, fun wS hSw => by (try dsimp only at hSw); go_simp⟩) (s := hHeld) (h := ?_)
     refine wpAnyH_ready (rs := [11]) (by kernel_rfl) (by simp) ?_
     refine (AllReadyH.cons (get_ops _ _ _ rfl) (fun K hK => ?_) AllReadyH.nil)
     refine S2.wp_store_all 24 _ _ rfl rfl gv (by go_simp) [.slice A2 Y.length c2] (by first | rfl | go_simp) 24 [.slice none 0 0] V_h3.out S2.boxSize rfl (onesB rfl) ?_
     intro h4 hM hP
     have V_h4 : Hid (BK 24 h4 gv [.slice A2 Y.length c2]) := Lib.hid (hM)
     have T_h4 : Hid (BK 24 h4 w.heap.size [.slice A1 X.length c1]) := Lib.hid (hP.other T_h3.out (by have := HGV.out; omega))
     have C_h4 : Hid (∀ i v, (gK z)[i]? = some v → h4.cell? ⟨b, o + k * 34 + i, none⟩ = some v) := Lib.hid (fun j v hv => (hP.cell (p := ⟨b, o + k * 34 + j, none⟩) (by have := HBV.out; show b ≠ gv; omega)).trans (C_h3.out j v hv))
     have B_h4 : Hid (Below w.heap.size w h4) := Lib.hid (hP.below B_h3.out (by have := HGV.out; omega))
     have G_h4 : Hid (wr.heap.size ≤ h4.heap.size) := Lib.hid ((by rw [hP.size]; exact G_h3.out))
     have L_h4 : Hid (S2.IL h4 h4.heap.size A2 Y) := Lib.hid (S2.IL.put L_h3.out hP HOV.out)
     clear I_h3 T_h3 C_h3 P_h3 B_h3 G_h3 V_h3 L_h3
     clear hM hP hHeld
     refine hK.out _ _ ⟨T_h4.out, C_h4.out⟩ (fun hHeld => ?_)
     clear hK K
     try simp only [Act.put, List.setIfInBounds_toArray, List.set_cons_zero, List.set_cons_succ]
     refine tkA (i := 12) (v := .bool d) (y := Or.inl ⟨by rfl, fun wS hSw => by (try dsimp only at hSw); go_simp⟩) (s := hHeld) (h := ?_)
     refine tkA (i := 13) (v := .bool true) (y := Or.inl ⟨by rfl, fun wS hSw => by (try dsimp only at hSw); go_simp⟩) (s := hHeld) (h := ?_)
     refine wpAnyH_done (by kernel_rfl) ?_ _
     clear C_h4 G_h4
     go_wp2_with first
      | (refine wpList_load_v (by rfl) 24 (.tmp 5) rfl ⟨gv, 0, none⟩ rfl (S2.xv A2 c2 Y) (S2.run_load_all V_h4.out Tryz.underlying24 rfl S2.boxSize) ?_)
     refine (S2.nCheck_any A2 c2 Y h4 L_h4.out (by have := (S2.ck_ok.1 HVY.out).1; omega)).mono ?_
     rintro e q1 ⟨rfl, hb⟩
     have T_q1 : Hid (BK 24 q1 w.heap.size [.slice A1 X.length c1]) := Lib.hid (T_h4.out.step hb)
     have B_q1 : Hid (Below w.heap.size w q1) := Lib.hid (stepB B_h4.out hb)
     have V_q1 : Hid (BK 24 q1 gv [.slice A2 Y.length c2]) := Lib.hid (V_h4.out.step hb)
     have L_q1 : Hid (S2.IL q1 q1.heap.size A2 Y) := Lib.hid (CL.step L_h4.out hb)
     clear T_h4 B_h4 V_h4 L_h4
     clear hb
     rw [HVY.out]
     go_wp2_with first
      | (refine wpList_load_v (by rfl) 24 (.tmp 5) rfl ⟨gv, 0, none⟩ rfl (S2.xv A2 c2 Y) (S2.run_load_all V_q1.out Tryz.underlying24 rfl S2.boxSize) ?_)
      | (refine S2.wpList_store_all (by rfl) 24 (.tmp 3) (.tmp 35) rfl rfl w.heap.size rfl [.slice A2 Y.length c2] rfl 24 [.slice A1 X.length c1] T_q1.out S2.boxSize rfl (onesB rfl) ?_; intro qf hM hP; have T_qf := Lib.hid hM; have B_qf := Lib.hid (hP.below B_q1.out (Nat.le_refl _)); have L_qf := Lib.hid (S2.IL.put L_q1.out hP HOB.out); clear hM hP)
     go_roundg g
     case measure => omega
     case rel => exact ⟨k + 1, A2, c2, Y, by have := HG.out; omega, by have := HK60.out; omega, by go_num, ⟨T_qf.out, B_qf.out, L_qf.out, HC2.out, HVY.out, HOB.out⟩⟩
end Go.Proofs.YtomlideijhejfaaGreatDoor
namespace Go.Proofs.YtomlideijhejfaaGreatDoor
open Go.RowKit
open S2 (BK Put)

theorem acc_zero {X : List Int} {p : Pkt} {Y : List Int} {d : Bool} {ks : List Pkt} (h : naccR X p = (Y, d, ks, 0)) : p.kind = 3 ∧ checkP p = 0 ∧ (p.msg.level = 2 → p.id ∉ X → X.length < 32) := by
 have hc := nacc_cases h
 by_cases h1 : p.kind = 3
 · by_cases h2 : checkP p = 0
   · refine ⟨h1, h2, fun h3 h4 => ?_⟩
     by_cases h5 : 32 ≤ X.length
     · have := congrArg (fun r => r.2.2.2) (hc.2.2.2.1 h1 h2 h3 h4 h5)
       simp at this
     · omega
   · have := congrArg (fun r => r.2.2.2) (hc.2.1 h1 h2)
     dsimp only at this
     omega
 · have := congrArg (fun r => r.2.2.2) (hc.1 h1)
   simp at this
theorem once_acc {X : List Int} {p : Pkt} (hk : p.kind = 3) (hc : checkP p = 0) (hl : p.msg.level = 2) (h : p.id ∈ X ∨ X.length < 32) : naccR X p = (S2.withI X p.id, !decide (p.id ∈ X), [plainP 5 p.id], 0) := by
 have h2 := (nacc_cases (X := X) (p := p) rfl).2.2.2.2 hk hc hl (fun h3 => by rcases h with h | h; exact h3.1 h; omega)
 rw [← h2, ans2 hk hl]
theorem with_mem (X : List Int) (n : Int) : n ∈ S2.withI X n := by
 unfold S2.withI
 split
 · assumption
 · exact (S2.ins_mem X n n).2 (.inl rfl)
theorem step_keep {X : List Int} {z : Pkt} {n : Int} (h : n ∈ X) (hz : z.id ≠ n) : n ∈ (stepR X z).1 := by
 unfold stepR
 by_cases hk : z.kind = 6
 · rw [if_pos hk]
   by_cases h1 : (nrelR X z.kind z.id).2.2 ≠ 0
   · rw [if_pos h1]; exact h
   · rw [if_neg h1]
     unfold nrelR at h1 ⊢
     rw [if_neg (by simpa using hk)] at h1 ⊢
     by_cases h2 : z.id < 1 ∨ 65535 < z.id
     · rw [if_pos h2] at h1; simp at h1
     · rw [if_neg h2]; exact (S2.del_mem X z.id n).2 ⟨h, fun e => hz e.symm⟩
 · rw [if_neg hk]
   by_cases h1 : (naccR X z).2.2.2 ≠ 0
   · rw [if_pos h1]; exact h
   · rw [if_neg h1]
     obtain ⟨⟨Y, d, ks, f⟩, hr⟩ : ∃ r, naccR X z = r := ⟨_, rfl⟩
     rw [hr] at h1 ⊢
     have hf : f = 0 := by simpa using h1
     subst hf
     obtain ⟨g1, g2, g3⟩ := acc_zero hr
     by_cases hl : z.msg.level = 2
     · by_cases hm : z.id ∈ X
       · rw [once_acc g1 g2 hl (.inl hm)] at hr
         have := congrArg Prod.fst hr
         dsimp only at this ⊢
         rw [← this]; unfold S2.withI; rw [if_pos hm]; exact h
       · rw [once_acc g1 g2 hl (.inr (g3 hl hm))] at hr
         have := congrArg Prod.fst hr
         dsimp only at this ⊢
         rw [← this]; unfold S2.withI; rw [if_neg hm]; exact (S2.ins_mem X z.id n).2 (.inr h)
     · have := congrArg Prod.fst ((nacc_cases hr).2.2.1 g1 g2 hl)
       dsimp only at this ⊢
       rw [← this]; exact h
/-- what holds between two repetitions -/
def OnceI (k : Nat) (X : List Int) (n dv : Int) : Prop := (k = 0 ∧ n ∉ X ∧ X.length < 32 ∧ dv = 0) ∨ (0 < k ∧ n ∈ X ∧ dv = 1)

set_option maxRecDepth 20000 in
set_option maxHeartbeats 16000000 in
theorem inboundOnce_walk (A : Option Addr) (c : Nat) (X : List Int) (p : Pkt) (a : PA) (Ao : Option Addr) (co : Nat) (os : List (Pkt × PA)) (y : Nat) (w : World) (hok : S1.Okw w) (hsl : S2.IL w w.heap.size A X) (hxc : X.length ≤ c) (hX : X.length ≤ 9223372036854775807) (hp : PIn w p a) (hb : BigZ p) (hks : KL w w.heap.size Ao os) (hn : os.length ≤ 140737488355328) (hbz : ∀ x ∈ os, BigZ x.1) (hy : y ≤ 255) :
 Calls Tryz.prog 5 #[S2.xv A c X, pkV p a, .slice Ao os.length co, .int .u8 (y : Int)] w fun e w' => e = .returned (.bool true) ∧ Below w.heap.size w w' := by
 have HOK := Lib.hid hok
 have HA := Lib.hid (fun w1 h => awake15_any w1 h)
 have HR := Lib.hid (fun w1 h => nrCheck_any A c X w1 h hX)
 have HS := Lib.hid hsl
 have HPI := Lib.hid hp
 have HXC := Lib.hid hxc
 have HOF := Lib.hid (fun g hg => S2.Off.lt (g := g) hsl hg)
 have HKL := Lib.hid hks
 have HN := Lib.hid hn
 have HBZ := Lib.hid hbz
 have HY := Lib.hid hy
 have HB := Lib.hid hb
 by_cases hz : S2.ckI X 0 = 0
 case neg =>
  have q1 : (S2.ckI X 0 != 0) = true := by simp [hz]
  generalize S2.ckI X 0 = z at HR q1
  clear hz hok hsl hX hxc hp hb hks hn hbz hy HB HOF HXC HKL HN HBZ HY
  unfold pkV
  go_enter Tryz.func5, Tryz.ntmps5
  go_upto_region 1 with fail
  refine name_world (C := fun w1 => Code.wp _ _ _ _ w1) ((w.alloc (.cells [.slice A X.length c].toArray 24)).alloc (.cells (pkC p a).toArray 33)) ?_
  intro w1 hw1
  obtain ⟨hB0, t1, t2⟩ := two hw1
  have T_w1 : Hid (BK 24 w1 w.heap.size [.slice A X.length c]) := Lib.hid t1
  have K_w1 : Hid (BK 33 w1 (w.heap.size + 1) (pkC p a)) := Lib.hid t2
  have B_w1 : Hid (Below w.heap.size w w1) := Lib.hid hB0
  have L_w1 : Hid (S2.IL w1 w1.heap.size A X) := Lib.hid (CL.step HS.out hB0)
  clear hw1 HS t1 t2 hB0
  go_wp2_with first
   | (refine wpList_load_v (by rfl) 24 (.tmp 4) rfl ⟨w.heap.size, 0, none⟩ rfl (S2.xv A c X) (S2.run_load_all T_w1.out Tryz.underlying24 rfl S2.boxSize) ?_)
  refine (HR.out w1 L_w1.out).mono ?_
  rintro e v1 ⟨rfl, hb⟩
  have T_v1 : Hid (BK 24 v1 w.heap.size [.slice A X.length c]) := Lib.hid (T_w1.out.step hb)
  have K_v1 : Hid (BK 33 v1 (w.heap.size + 1) (pkC p a)) := Lib.hid (K_w1.out.step hb)
  have B_v1 : Hid (Below w.heap.size w v1) := Lib.hid (stepB B_w1.out hb)
  have L_v1 : Hid (S2.IL v1 v1.heap.size A X) := Lib.hid (CL.step L_w1.out hb)
  clear T_w1 K_w1 B_w1 L_w1
  clear hb
  go_wp2_with fail
  refine (HA.out v1 (HOK.out.step B_v1.out)).mono ?_
  rintro e v52 ⟨rfl, hb⟩
  have T_v52 : Hid (BK 24 v52 w.heap.size [.slice A X.length c]) := Lib.hid (T_v1.out.step hb)
  have K_v52 : Hid (BK 33 v52 (w.heap.size + 1) (pkC p a)) := Lib.hid (K_v1.out.step hb)
  have B_v52 : Hid (Below w.heap.size w v52) := Lib.hid (stepB B_v1.out hb)
  have L_v52 : Hid (S2.IL v52 v52.heap.size A X) := Lib.hid (CL.step L_v1.out hb)
  clear T_v1 K_v1 B_v1 L_v1
  clear hb
  go_wp2_with fail
  go_ret
  exact ⟨rfl, B_v52.out⟩
 have hm : X.length ≤ 100000 := by have := (S2.ck_ok.1 hz).1; omega
 have HV := Lib.hid hz
 obtain ⟨⟨Y, d, ks, f⟩, hr⟩ : ∃ r, naccR X p = r := ⟨_, rfl⟩
 have H2 : Hid (∀ w1, S2.IL w1 w1.heap.size A X → PIn w1 p a → Calls Tryz.prog 10 #[S2.xv A c X, pkV p a] w1 (RetNt A X (Y, d, ks, f) w1)) := Lib.hid (fun w1 h h2 => by have := nrAccept_any A c X p a w1 h hxc (by omega) h2 hb; rw [hr] at this; exact this)
 have HH := Lib.hid (fun w1 h1 => nrHas_any A c X p.id w1 h1 (by omega))
 have HZF : Hid (f = 0 → p.kind = 3 ∧ checkP p = 0 ∧ (p.msg.level = 2 → p.id ∉ X → X.length < 32)) := Lib.hid (fun h0 => by subst h0; exact acc_zero hr)
 rw [hz] at HR
 have q1 : ((0 : Int) != 0) = false := rfl
 clear hz hok hsl hX hxc hp hb hm hr hks hn hbz hy
 unfold pkV at H2 ⊢
 go_enter Tryz.func5, Tryz.ntmps5
 go_upto_region 1 with fail
 refine name_world (C := fun w1 => Code.wp _ _ _ _ w1) ((w.alloc (.cells [.slice A X.length c].toArray 24)).alloc (.cells (pkC p a).toArray 33)) ?_
 intro w1 hw1
 obtain ⟨hB0, t1, t2⟩ := two hw1
 have T_w1 : Hid (BK 24 w1 w.heap.size [.slice A X.length c]) := Lib.hid t1
 have K_w1 : Hid (BK 33 w1 (w.heap.size + 1) (pkC p a)) := Lib.hid t2
 have B_w1 : Hid (Below w.heap.size w w1) := Lib.hid hB0
 have L_w1 : Hid (S2.IL w1 w1.heap.size A X) := Lib.hid (CL.step HS.out hB0)
 clear hw1 HS t1 t2 hB0
 go_wp2_with first
  | (refine wpList_load_v (by rfl) 24 (.tmp 4) rfl ⟨w.heap.size, 0, none⟩ rfl (S2.xv A c X) (S2.run_load_all T_w1.out Tryz.underlying24 rfl S2.boxSize) ?_)
 refine (HR.out w1 L_w1.out).mono ?_
 rintro e v1 ⟨rfl, hb⟩
 have T_v1 : Hid (BK 24 v1 w.heap.size [.slice A X.length c]) := Lib.hid (T_w1.out.step hb)
 have K_v1 : Hid (BK 33 v1 (w.heap.size + 1) (pkC p a)) := Lib.hid (K_w1.out.step hb)
 have B_v1 : Hid (Below w.heap.size w v1) := Lib.hid (stepB B_w1.out hb)
 have L_v1 : Hid (S2.IL v1 v1.heap.size A X) := Lib.hid (CL.step L_w1.out hb)
 clear T_w1 K_w1 B_w1 L_w1
 clear hb
 clear HR
 go_wp2_with first
  | (refine wpList_load_v (by rfl) 24 (.tmp 4) rfl ⟨w.heap.size, 0, none⟩ rfl (S2.xv A c X) (S2.run_load_all T_v1.out Tryz.underlying24 rfl S2.boxSize) ?_)
  | (refine wpList_load_v (by rfl) 33 (.tmp 5) rfl ⟨(w.heap.size + 1), 0, none⟩ rfl (.agg (pkC p a).toArray) (S2.run_load_all K_v1.out Tryz.underlying33 rfl info33) ?_)
 refine (H2.out v1 L_v1.out (HPI.out.step B_v1.out)).mono ?_
 rintro e v2 ⟨A2, c2, D2, e2, rfl, _, _, _, _, _, hb⟩
 have T_v2 : Hid (BK 24 v2 w.heap.size [.slice A X.length c]) := Lib.hid (T_v1.out.step hb)
 have K_v2 : Hid (BK 33 v2 (w.heap.size + 1) (pkC p a)) := Lib.hid (K_v1.out.step hb)
 have B_v2 : Hid (Below w.heap.size w v2) := Lib.hid (stepB B_v1.out hb)
 have L_v2 : Hid (S2.IL v2 v2.heap.size A X) := Lib.hid (CL.step L_v1.out hb)
 clear T_v1 K_v1 B_v1 L_v1
 clear hb
 clear H2
 go_upto_region 4 with first
  | (refine S2.wpList_store_all (by rfl) 24 (.tmp 9) (.tmp 36) rfl rfl (v2.heap.size) rfl [.slice A2 Y.length c2] rfl 24 [.slice none 0 0] (BK.new v2 _ _) S2.boxSize rfl (onesB rfl) ?_; intro v3 hM hP; have hb : Below v2.heap.size v2 v3 := hP.below (S2.below_new v2 _) (Nat.le_refl _); have T_v3 : Hid (BK 24 v3 w.heap.size [.slice A X.length c]) := Lib.hid (T_v2.out.step hb); have K_v3 : Hid (BK 33 v3 (w.heap.size + 1) (pkC p a)) := Lib.hid (K_v2.out.step hb); have B_v3 : Hid (Below w.heap.size w v3) := Lib.hid (stepB B_v2.out hb); have L_v3 : Hid (S2.IL v3 v3.heap.size A X) := Lib.hid (CL.step L_v2.out hb); have Q_v3 : Hid (BK 24 v3 (v2.heap.size) [.slice A2 Y.length c2]) := Lib.hid hM; clear hM hP hb T_v2 K_v2 B_v2 L_v2)
 have d5 := K_v3.out.cell 5 (pkc5 p a)
 have d1 := K_v3.out.cell 1 (pkc1 p a)
 by_cases hf : f = 0
 case neg =>
  have q2 : (f != 0) = true := by simp [hf]
  clear hf HZF HH
  go_wp2_with fail
  refine (HA.out v3 (HOK.out.step B_v3.out)).mono ?_
  rintro e v54 ⟨rfl, hb⟩
  have T_v54 : Hid (BK 24 v54 w.heap.size [.slice A X.length c]) := Lib.hid (T_v3.out.step hb)
  have K_v54 : Hid (BK 33 v54 (w.heap.size + 1) (pkC p a)) := Lib.hid (K_v3.out.step hb)
  have B_v54 : Hid (Below w.heap.size w v54) := Lib.hid (stepB B_v3.out hb)
  have L_v54 : Hid (S2.IL v54 v54.heap.size A X) := Lib.hid (CL.step L_v3.out hb)
  have Q_v54 : Hid (BK 24 v54 (v2.heap.size) [.slice A2 Y.length c2]) := Lib.hid (Q_v3.out.step hb)
  clear T_v3 K_v3 B_v3 L_v3 Q_v3
  clear hb
  go_wp2_with fail
  go_ret
  exact ⟨rfl, B_v54.out⟩
 subst hf
 obtain ⟨hk, hc0, hfull⟩ := HZF.out rfl
 clear HZF
 by_cases hl : p.msg.level = 2
 case neg =>
  have q3 : (p.msg.level != 2) = true := by simp [hl]
  clear hl hk hc0 hfull HH
  go_wp2_with fail
  refine (HA.out v3 (HOK.out.step B_v3.out)).mono ?_
  rintro e v54 ⟨rfl, hb⟩
  have T_v54 : Hid (BK 24 v54 w.heap.size [.slice A X.length c]) := Lib.hid (T_v3.out.step hb)
  have K_v54 : Hid (BK 33 v54 (w.heap.size + 1) (pkC p a)) := Lib.hid (K_v3.out.step hb)
  have B_v54 : Hid (Below w.heap.size w v54) := Lib.hid (stepB B_v3.out hb)
  have L_v54 : Hid (S2.IL v54 v54.heap.size A X) := Lib.hid (CL.step L_v3.out hb)
  have Q_v54 : Hid (BK 24 v54 (v2.heap.size) [.slice A2 Y.length c2]) := Lib.hid (Q_v3.out.step hb)
  clear T_v3 K_v3 B_v3 L_v3 Q_v3
  clear hb
  go_wp2_with fail
  go_ret
  exact ⟨rfl, B_v54.out⟩
 have q3 : (p.msg.level != 2) = false := by simp [hl]
 go_wp2_with first
  | (refine wpList_load_v (by rfl) 24 (.tmp 4) rfl ⟨w.heap.size, 0, none⟩ rfl (S2.xv A c X) (S2.run_load_all T_v3.out Tryz.underlying24 rfl S2.boxSize) ?_)
 refine (HH.out v3 L_v3.out).mono ?_
 rintro e v4 ⟨rfl, hb⟩
 have T_v4 : Hid (BK 24 v4 w.heap.size [.slice A X.length c]) := Lib.hid (T_v3.out.step hb)
 have K_v4 : Hid (BK 33 v4 (w.heap.size + 1) (pkC p a)) := Lib.hid (K_v3.out.step hb)
 have B_v4 : Hid (Below w.heap.size w v4) := Lib.hid (stepB B_v3.out hb)
 have L_v4 : Hid (S2.IL v4 v4.heap.size A X) := Lib.hid (CL.step L_v3.out hb)
 have Q_v4 : Hid (BK 24 v4 (v2.heap.size) [.slice A2 Y.length c2]) := Lib.hid (Q_v3.out.step hb)
 clear T_v3 K_v3 B_v3 L_v3 Q_v3
 clear hb
 clear d5 d1 HH q3
 by_cases hin : p.id ∈ X
 case pos =>
  have q4 : decide (p.id ∈ X) = true := decide_eq_true hin
  rw [q4]
  clear hin hl hk hc0 hfull q4
  go_wp2_with fail
  refine (HA.out v4 (HOK.out.step B_v4.out)).mono ?_
  rintro e v55 ⟨rfl, hb⟩
  have T_v55 : Hid (BK 24 v55 w.heap.size [.slice A X.length c]) := Lib.hid (T_v4.out.step hb)
  have K_v55 : Hid (BK 33 v55 (w.heap.size + 1) (pkC p a)) := Lib.hid (K_v4.out.step hb)
  have B_v55 : Hid (Below w.heap.size w v55) := Lib.hid (stepB B_v4.out hb)
  have L_v55 : Hid (S2.IL v55 v55.heap.size A X) := Lib.hid (CL.step L_v4.out hb)
  have Q_v55 : Hid (BK 24 v55 (v2.heap.size) [.slice A2 Y.length c2]) := Lib.hid (Q_v4.out.step hb)
  clear T_v4 K_v4 B_v4 L_v4 Q_v4
  clear hb
  go_wp2_with fail
  go_ret
  exact ⟨rfl, B_v55.out⟩
 have q4 : decide (p.id ∈ X) = false := decide_eq_false hin
 rw [q4]
 have HACC : Hid (∀ A1 c1 X1, S2.ckI X1 0 = 0 → (p.id ∈ X1 ∨ X1.length < 32) → ∀ w1, S1.Okw w1 → S2.IL w1 w1.heap.size A1 X1 → PIn w1 p a → Calls Tryz.prog 9 #[S2.xv A1 c1 X1, .agg (pkC p a).toArray] w1 (RetNa (S2.withI X1 p.id, !decide (p.id ∈ X1), [plainP 5 p.id], 0) w1)) := Lib.hid (fun A1 c1 X1 hv hm w1 h0 h1 h2 => by have := nAccept_any A1 c1 X1 p a w1 h0 h1 hv h2 HB.out.sz HB.out.tx; rw [once_acc hk hc0 hl hm] at this; exact this)
 have HREL : Hid (∀ A1 c1 X1, S2.ckI X1 0 = 0 → ∀ w1, S2.IL w1 w1.heap.size A1 X1 → Calls Tryz.prog 16 #[S2.xv A1 c1 X1, .agg (pkC (plainP 6 p.id) PA.zero).toArray] w1 (RetNr (S2.delI X1 p.id, plainP 7 p.id, 0) w1)) := Lib.hid (fun A1 c1 X1 hv w1 h1 => by
  have := nRelease_any A1 c1 X1 (plainP 6 p.id) PA.zero w1 h1 (by have := (S2.ck_ok.1 hv).1; omega) (S2.ck_ok.1 hv).2.1
  have hid := id_of hk hc0 hl
  have e : nrelR X1 (plainP 6 p.id).kind (plainP 6 p.id).id = (S2.delI X1 p.id, plainP 7 p.id, 0) := by
   show nrelR X1 6 p.id = _
   unfold nrelR
   rw [if_neg (by decide), if_neg (by omega)]
  rw [e] at this
  exact this)
 have HAOK : Hid (∀ X1, S2.ckI X1 0 = 0 → (p.id ∈ X1 ∨ X1.length < 32) → S2.ckI (S2.withI X1 p.id) 0 = 0) := Lib.hid (fun X1 hv hm => by have := acc_ok (p := p) hv; rw [once_acc hk hc0 hl hm] at this; exact this)
 have HST0 : Hid (OnceI 0 X p.id 0) := Lib.hid (.inl ⟨rfl, hin, hfull hl hin, rfl⟩)
 obtain ⟨M, hM⟩ : ∃ M : Nat, M = y % 21 := ⟨_, rfl⟩
 have hM20 : M ≤ 20 := by omega
 have cw : wrap64 (y : Int) = (y : Int) := S2.wrap64_id _ (by omega) (by have := HY.out; omega)
 have cw2 : IntKind.i64.wrap (y : Int) = (y : Int) := S2.wrap_i64_id _ (by omega) (by have := HY.out; omega)
 have cm : Int.tmod (y : Int) 21 = (M : Int) := by rw [Int.tmod_eq_emod_of_nonneg (by omega)]; omega
 clear hin hl hk hc0 hfull q4 hM
 have HINV : Hid (InvR w v4 w.heap.size A c X) := Lib.hid ⟨T_v4.out, B_v4.out, L_v4.out, HXC.out, HV.out, HOF.out _ (Nat.le_refl _)⟩
 have KI := K_v4
 clear T_v4 K_v4 B_v4 L_v4 Q_v4 HV HOF HXC
 go_upto_region 8 with fail
 go_loopg [13, 14] (M + 1) (fun g u13 v wr => ∃ (k : Nat) (dv : Int) (A1 : Option Addr) (c1 : Nat) (X1 : List Int), k + g = M + 1 ∧ v = .int .i64 k ∧ u13 = .int .i64 dv ∧ OnceI k X1 p.id dv ∧ InvR w wr w.heap.size A1 c1 X1 ∧ BK 33 wr (w.heap.size + 1) (pkC p a))
 case atStart => exact ⟨0, 0, A, c, X, by omega, rfl, rfl, HST0.out, HINV.out, KI.out⟩
 case round =>
  clear HST0 HINV KI
  obtain ⟨k, dv, A1, c1, X1, hkg, rfl, rfl, hoi, hinv, hkb⟩ := hrel
  have HG := Lib.hid hkg
  have T_wr : Hid (BK 24 wr w.heap.size [.slice A1 X1.length c1]) := Lib.hid hinv.t
  have K_wr : Hid (BK 33 wr (w.heap.size + 1) (pkC p a)) := Lib.hid hkb
  have B_wr : Hid (Below w.heap.size w wr) := Lib.hid hinv.b
  have L_wr : Hid (S2.IL wr wr.heap.size A1 X1) := Lib.hid hinv.l
  have HV1 := Lib.hid hinv.v
  have HF1 := Lib.hid hinv.f
  clear hinv hkb
  cases gk with
  | zero =>
   obtain rfl : k = M + 1 := by omega
   obtain ⟨hin1, rfl⟩ : p.id ∈ X1 ∧ dv = 1 := by
    rcases hoi with ⟨h, _⟩ | ⟨_, h1, h2⟩
    · omega
    · exact ⟨h1, h2⟩
   have hlt := (S2.del_lt X1 p.id).2 hin1
   have hl32 := (S2.ck_ok.1 HV1.out).1
   have HRE := Lib.hid (fun w1 h1 => HREL.out A1 c1 X1 HV1.out w1 h1)
   have HAC : Hid (∀ A5 c5 w1, S1.Okw w1 → S2.IL w1 w1.heap.size A5 (S2.delI X1 p.id) → PIn w1 p a → Calls Tryz.prog 9 #[S2.xv A5 c5 (S2.delI X1 p.id), .agg (pkC p a).toArray] w1 (RetNa (S2.withI (S2.delI X1 p.id) p.id, true, [plainP 5 p.id], 0) w1)) := Lib.hid (fun A5 c5 w1 h0 h1 h2 => by
    have := HACC.out A5 c5 (S2.delI X1 p.id) (del_ok HV1.out) (.inr (by omega)) w1 h0 h1 h2
    rw [show decide (p.id ∈ S2.delI X1 p.id) = false from decide_eq_false (fun h => ((S2.del_mem X1 p.id p.id).1 h).2 rfl)] at this
    exact this)
   generalize S2.delI X1 p.id = D at HRE HAC
   generalize S2.withI D p.id = E at HAC
   generalize plainP 7 p.id = q7 at HRE
   have e1 : decide (((M + 1 : Nat) : Int) ≤ (M : Int)) = false := decide_eq_false (by omega)
   have e1' : decide (M + 1 ≤ M) = false := decide_eq_false (by omega)
   have HZT : Hid (w.heap.size + 1 < wr.heap.size) := Lib.hid K_wr.out.lt
   have d1 := K_wr.out.cell 1 (pkc1 p a)
   clear hkg hoi hin1 hlt hl32 HACC HREL HAOK
   go_wp2_with first
    | (refine wpList_load_v (by rfl) 24 (.tmp 4) rfl ⟨w.heap.size, 0, none⟩ rfl (S2.xv A1 c1 X1) (S2.run_load_all T_wr.out Tryz.underlying24 rfl S2.boxSize) ?_)
   refine (HRE.out wr L_wr.out).mono ?_
   rintro e h1 ⟨A5, c5, rfl, _, hl5, hn5, hb⟩
   have T_h1 : Hid (BK 24 h1 w.heap.size [.slice A1 X1.length c1]) := Lib.hid (T_wr.out.step hb)
   have K_h1 : Hid (BK 33 h1 (w.heap.size + 1) (pkC p a)) := Lib.hid (K_wr.out.step hb)
   have B_h1 : Hid (Below w.heap.size w h1) := Lib.hid (stepB B_wr.out hb)
   have L_h1 : Hid (S2.IL h1 h1.heap.size A1 X1) := Lib.hid (CL.step L_wr.out hb)
   clear T_wr K_wr B_wr L_wr
   clear hb
   have HN5 : Hid (NewA (w.heap.size + 1 + 1) A5) := Lib.hid (hn5.more HZT.out)
   have D_h1 : Hid (S2.IL h1 h1.heap.size A5 D) := Lib.hid (hl5)
   clear hl5 hn5 d1 HRE
   have HG22 : Hid (w.heap.size + 1 < h1.heap.size) := Lib.hid K_h1.out.lt
   have HL22 : Hid (S2.Off h1.heap.size A5 D) := Lib.hid (S2.Off.lt D_h1.out (Nat.le_refl _))
   go_wp2_with first
    | (refine S2.wpList_store_all (by rfl) 24 (.tmp 4) (.tmp 136) rfl rfl w.heap.size rfl [.slice A5 D.length c5] rfl 24 [.slice A1 X1.length c1] (BK.alloc T_h1.out _) S2.boxSize rfl (onesB rfl) ?_; intro hx hM hP; have T_hx : Hid (BK 24 hx w.heap.size [.slice A5 D.length c5]) := Lib.hid hM; have K_hx : Hid (BK 33 hx (w.heap.size + 1) (pkC p a)) := Lib.hid (hP.other (BK.alloc K_h1.out _) (by omega)); have Z_hx : Hid (BK 33 hx h1.heap.size (pkC Pkt.zero PA.zero)) := Lib.hid (hP.other (znew h1) (by have := HG22.out; omega)); have B_hx : Hid (Below w.heap.size w hx) := Lib.hid (hP.below (stepB B_h1.out (S2.below_new h1 _)) (Nat.le_refl _)); have D_hx : Hid (S2.IL hx hx.heap.size A5 D) := Lib.hid (ILp (CL.step D_h1.out (S2.below_new h1 _)) hP (HN5.out.ne (by omega))); clear hM hP)
    | (refine S2.wpList_store_all (by rfl) 33 (.tmp 22) (.tmp 137) rfl rfl h1.heap.size rfl (pkC q7 PA.zero) rfl 33 (pkC Pkt.zero PA.zero) Z_hx.out info33 rfl (onesB rfl) ?_; intro hz hM hP; have T_hz : Hid (BK 24 hz w.heap.size [.slice A5 D.length c5]) := Lib.hid (hP.other T_hx.out (by have := HG22.out; omega)); have K_hz : Hid (BK 33 hz (w.heap.size + 1) (pkC p a)) := Lib.hid (hP.other K_hx.out (by have := HG22.out; omega)); have B_hz : Hid (Below w.heap.size w hz) := Lib.hid (hP.below B_hx.out (by have := HG22.out; omega)); have D_hz : Hid (S2.IL hz hz.heap.size A5 D) := Lib.hid (S2.IL.put D_hx.out hP HL22.out); clear hM hP)
    | (refine wpList_load_v (by rfl) 24 (.tmp 4) rfl ⟨w.heap.size, 0, none⟩ rfl (S2.xv A5 c5 D) (S2.run_load_all T_hz.out Tryz.underlying24 rfl S2.boxSize) ?_)
    | (refine wpList_load_v (by rfl) 33 (.tmp 5) rfl ⟨(w.heap.size + 1), 0, none⟩ rfl (.agg (pkC p a).toArray) (S2.run_load_all K_hz.out Tryz.underlying33 rfl info33) ?_)
   refine (HAC.out A5 c5 hz (HOK.out.step B_hz.out) D_hz.out (HPI.out.step B_hz.out)).mono ?_
   rintro e h2 ⟨A6, c6, D6, e6, rfl, _, _, _, _, _, hb⟩
   have T_h2 : Hid (BK 24 h2 w.heap.size [.slice A5 D.length c5]) := Lib.hid (T_hz.out.step hb)
   have K_h2 : Hid (BK 33 h2 (w.heap.size + 1) (pkC p a)) := Lib.hid (K_hz.out.step hb)
   have B_h2 : Hid (Below w.heap.size w h2) := Lib.hid (stepB B_hz.out hb)
   have D_h2 : Hid (S2.IL h2 h2.heap.size A5 D) := Lib.hid (CL.step D_hz.out hb)
   clear T_hz K_hz B_hz D_hz
   clear hb
   clear HAC
   go_wp2_with first
    | (refine S2.wpList_store_all (by rfl) 24 (.tmp 24) (.tmp 143) rfl rfl (h2.heap.size) rfl [.slice A6 E.length c6] rfl 24 [.slice none 0 0] (BK.new h2 _ _) S2.boxSize rfl (onesB rfl) ?_; intro h3 hM hP; have hb : Below h2.heap.size h2 h3 := hP.below (S2.below_new h2 _) (Nat.le_refl _); have T_h3 : Hid (BK 24 h3 w.heap.size [.slice A5 D.length c5]) := Lib.hid (T_h2.out.step hb); have K_h3 : Hid (BK 33 h3 (w.heap.size + 1) (pkC p a)) := Lib.hid (K_h2.out.step hb); have B_h3 : Hid (Below w.heap.size w h3) := Lib.hid (stepB B_h2.out hb); have D_h3 : Hid (S2.IL h3 h3.heap.size A5 D) := Lib.hid (CL.step D_h2.out hb); have U_h3 : Hid (BK 24 h3 (h2.heap.size) [.slice A6 E.length c6]) := Lib.hid hM; clear hM hP hb T_h2 K_h2 B_h2 D_h2)
   refine (HA.out h3 (HOK.out.step B_h3.out)).mono ?_
   rintro e h4 ⟨rfl, hb⟩
   have T_h4 : Hid (BK 24 h4 w.heap.size [.slice A5 D.length c5]) := Lib.hid (T_h3.out.step hb)
   have K_h4 : Hid (BK 33 h4 (w.heap.size + 1) (pkC p a)) := Lib.hid (K_h3.out.step hb)
   have B_h4 : Hid (Below w.heap.size w h4) := Lib.hid (stepB B_h3.out hb)
   have D_h4 : Hid (S2.IL h4 h4.heap.size A5 D) := Lib.hid (CL.step D_h3.out hb)
   have U_h4 : Hid (BK 24 h4 (h2.heap.size) [.slice A6 E.length c6]) := Lib.hid (U_h3.out.step hb)
   clear T_h3 K_h3 B_h3 D_h3 U_h3
   clear hb
   go_wp2_with fail
   go_ret
   exact ⟨rfl, B_h4.out⟩
  | succ g =>
   have hkM : k ≤ M := by omega
   have e1 : decide ((k : Int) ≤ (M : Int)) = true := decide_eq_true (by omega)
   have e1' : decide (k ≤ M) = true := decide_eq_true hkM
   have e40 : decide ((k : Int) < 40) = true := decide_eq_true (by omega)
   have e40' : decide (k < 40) = true := decide_eq_true (by omega)
   have hk40 : k < 40 := by omega
   have hmem : p.id ∈ X1 ∨ X1.length < 32 := by
    rcases hoi with ⟨_, _, h, _⟩ | ⟨_, h, _⟩
    · exact .inr h
    · exact .inl h
   have HAC := Lib.hid (fun w1 h0 h1 h2 => HACC.out A1 c1 X1 HV1.out hmem w1 h0 h1 h2)
   have HVY := Lib.hid (HAOK.out X1 HV1.out hmem)
   have HMY := Lib.hid (with_mem X1 p.id)
   have hdd : (!decide (p.id ∈ X1)) = true ∧ dv = 0 ∨ (!decide (p.id ∈ X1)) = false ∧ dv = 1 := by
    rcases hoi with ⟨_, h, _, h2⟩ | ⟨_, h, h2⟩
    · exact .inl ⟨by rw [decide_eq_false h]; rfl, h2⟩
    · exact .inr ⟨by rw [decide_eq_true h]; rfl, h2⟩
   generalize (!decide (p.id ∈ X1)) = d at HAC hdd
   generalize S2.withI X1 p.id = Y at HAC HVY HMY
   clear hmem hoi hkg hkM HACC HREL HAOK
   have HDD := Lib.hid hdd
   clear hdd
   go_wp2_with first
    | (refine wpList_load_v (by rfl) 24 (.tmp 4) rfl ⟨w.heap.size, 0, none⟩ rfl (S2.xv A1 c1 X1) (S2.run_load_all T_wr.out Tryz.underlying24 rfl S2.boxSize) ?_)
    | (refine wpList_load_v (by rfl) 33 (.tmp 5) rfl ⟨(w.heap.size + 1), 0, none⟩ rfl (.agg (pkC p a).toArray) (S2.run_load_all K_wr.out Tryz.underlying33 rfl info33) ?_)
   have HZ0 : Hid (w.heap.size < wr.heap.size) := Lib.hid T_wr.out.lt
   refine (HAC.out wr (HOK.out.step B_wr.out) L_wr.out (HPI.out.step B_wr.out)).mono ?_
   rintro e h1 ⟨A2, c2, D2, e2, rfl, hc2, hl2, hn2, hk2, _, hb⟩
   have T_h1 : Hid (BK 24 h1 w.heap.size [.slice A1 X1.length c1]) := Lib.hid (T_wr.out.step hb)
   have K_h1 : Hid (BK 33 h1 (w.heap.size + 1) (pkC p a)) := Lib.hid (K_wr.out.step hb)
   have B_h1 : Hid (Below w.heap.size w h1) := Lib.hid (stepB B_wr.out hb)
   have L_h1 : Hid (S2.IL h1 h1.heap.size A1 X1) := Lib.hid (CL.step L_wr.out hb)
   clear T_wr K_wr B_wr L_wr
   clear hb
   have Y_h1 : Hid (S2.IL h1 h1.heap.size A2 Y) := Lib.hid (hl2)
   have HC2 := Lib.hid hc2
   have HOB : Hid (S2.Off w.heap.size A2 Y) := Lib.hid (fun b o e _ => by have := hn2 b o e; have := HZ0.out; omega)
   obtain ⟨gl, rfl, hgl⟩ := hk2.2 _ (List.mem_singleton.2 rfl)
   have N_h1 : Hid (BK 33 h1 gl (pkC (plainP 5 p.id) PA.zero)) := Lib.hid (hgl)
   clear hl2 hc2 hn2 hk2 hgl HAC
   go_upto_region 11 with first
    | (refine S2.wpList_store_all (by rfl) 24 (.tmp 15) (.tmp 66) rfl rfl (h1.heap.size) rfl [.slice A2 Y.length c2] rfl 24 [.slice none 0 0] (BK.new h1 _ _) S2.boxSize rfl (onesB rfl) ?_; intro h2 hM hP; have hb : Below h1.heap.size h1 h2 := hP.below (S2.below_new h1 _) (Nat.le_refl _); have T_h2 : Hid (BK 24 h2 w.heap.size [.slice A1 X1.length c1]) := Lib.hid (T_h1.out.step hb); have K_h2 : Hid (BK 33 h2 (w.heap.size + 1) (pkC p a)) := Lib.hid (K_h1.out.step hb); have B_h2 : Hid (Below w.heap.size w h2) := Lib.hid (stepB B_h1.out hb); have L_h2 : Hid (S2.IL h2 h2.heap.size A1 X1) := Lib.hid (CL.step L_h1.out hb); have Y_h2 : Hid (S2.IL h2 h2.heap.size A2 Y) := Lib.hid (CL.step Y_h1.out hb); have N_h2 : Hid (BK 33 h2 gl (pkC (plainP 5 p.id) PA.zero)) := Lib.hid (N_h1.out.step hb); have U_h2 : Hid (BK 24 h2 (h1.heap.size) [.slice A2 Y.length c2]) := Lib.hid hM; clear hM hP hb T_h1 K_h1 B_h1 L_h1 Y_h1 N_h1)
   obtain ⟨k1, hk1⟩ : ∃ k1, k1 = World.drew h2 := ⟨_, rfl⟩
   have hbD : Below h2.heap.size h2 k1 := by rw [hk1]; exact (Below.refl _ _).drew
   have T_k1 : Hid (BK 24 k1 w.heap.size [.slice A1 X1.length c1]) := Lib.hid (T_h2.out.step hbD)
   have K_k1 : Hid (BK 33 k1 (w.heap.size + 1) (pkC p a)) := Lib.hid (K_h2.out.step hbD)
   have B_k1 : Hid (Below w.heap.size w k1) := Lib.hid (stepB B_h2.out hbD)
   have L_k1 : Hid (S2.IL k1 k1.heap.size A1 X1) := Lib.hid (CL.step L_h2.out hbD)
   have Y_k1 : Hid (S2.IL k1 k1.heap.size A2 Y) := Lib.hid (CL.step Y_h2.out hbD)
   have N_k1 : Hid (BK 33 k1 gl (pkC (plainP 5 p.id) PA.zero)) := Lib.hid (N_h2.out.step hbD)
   have U_k1 : Hid (BK 24 k1 (h1.heap.size) [.slice A2 Y.length c2]) := Lib.hid (U_h2.out.step hbD)
   clear T_h2 K_h2 B_h2 L_h2 Y_h2 N_h2 U_h2
   have hbd : (fun w' => BK 33 w' gl (pkC (plainP 5 p.id) PA.zero) ∧ BK 33 w' (w.heap.size + 1) (pkC p a)) (World.drew h2) := by rw [← hk1]; exact ⟨N_k1.out, K_k1.out⟩
   have hSD : (fun w' => BK 33 w' gl (pkC (plainP 5 p.id) PA.zero) ∧ BK 33 w' (w.heap.size + 1) (pkC p a)) k1 := ⟨N_k1.out, K_k1.out⟩
   have HWD := Lib.hid hk1
   clear hk1 hbD
   refine wp_region_held_drew (S := fun w' => BK 33 w' gl (pkC (plainP 5 p.id) PA.zero) ∧ BK 33 w' (w.heap.size + 1) (pkC p a)) (by kernel_rfl) hbd (fun hHeld => ?_)
   rw [← HWD.out]
   clear hHeld
   have hHeld := hSD
   clear hSD hbd HWD
   refine tkA (i := 0) (v := .int .i64 0) (y := Or.inl ⟨by rfl, fun wS hSw => by (try dsimp only at hSw); go_simp⟩) (s := hHeld) (h := ?_)
   refine tkA (i := 1) (v := .bool false) (y := Or.inl ⟨by rfl, fun wS hSw => by (try dsimp only at hSw); go_simp⟩) (s := hHeld) (h := ?_)
   refine tkA (i := 2) (v := .bool false) (y := Or.inl ⟨by rfl, fun wS hSw => by (try dsimp only at hSw); go_simp⟩) (s := hHeld) (h := ?_)
   refine tkA (i := 3) (v := .slice (some ⟨gl, 0, none⟩) 1 e2) (y := Or.inl ⟨by rfl, fun wS hSw => by (try dsimp only at hSw); go_simp⟩) (s := hHeld) (h := ?_)
   refine tkA (i := 4) (v := .int .i64 1) (y := Or.inl ⟨by rfl, fun wS hSw => by (try dsimp only at hSw); go_simp⟩) (s := hHeld) (h := ?_)
   refine tkA (i := 5) (v := .bool false) (y := Or.inl ⟨by rfl, fun wS hSw => by (try dsimp only at hSw); go_simp⟩) (s := hHeld) (h := ?_)
   refine tkA (i := 6) (v := .bool false) (y := Or.inl ⟨by rfl, fun wS hSw => by (try dsimp only at hSw); go_simp⟩) (s := hHeld) (h := ?_)
   refine tkA (i := 7) (v := .bool false) (y := Or.inl ⟨by rfl, fun wS hSw => by (try dsimp only at hSw); go_simp⟩) (s := hHeld) (h := ?_)
   refine tkA (i := 8) (v := .slice (some ⟨gl, 0, none⟩) 1 e2) (y := Or.inl ⟨by rfl, fun wS hSw => by (try dsimp only at hSw); go_simp⟩) (s := hHeld) (h := ?_)
   refine tkA (i := 9) (v := .pointer (some ⟨gl, 0, none⟩)) (y := Or.inl ⟨by rfl, fun wS hSw => by (try dsimp only at hSw); go_simp⟩) (s := hHeld) (h := ?_)
   refine tkA (i := 10) (v := .pointer (some ⟨gl, 0, none⟩)) (y := Or.inl ⟨by rfl, fun wS hSw => by (try dsimp only at hSw); go_simp⟩) (s := hHeld) (h := ?_)
   refine tkA (i := 11) (v := .int .i64 5) (y := Or.inl ⟨by rfl, fun wS hSw => by (try dsimp only at hSw); have cS : wS.cell? ⟨gl, 0, none⟩ = some (.int .i64 5) := hSw.1.cell 0 (pkc0 _ _); clear hSw; go_simp⟩) (s := hHeld) (h := ?_)
   refine tkA (i := 12) (v := .bool false) (y := Or.inl ⟨by rfl, fun wS hSw => by (try dsimp only at hSw); go_simp⟩) (s := hHeld) (h := ?_)
   refine tkA (i := 13) (v := .bool false) (y := Or.inl ⟨by rfl, fun wS hSw => by (try dsimp only at hSw); go_simp⟩) (s := hHeld) (h := ?_)
   refine tkA (i := 14) (v := .bool false) (y := Or.inl ⟨by rfl, fun wS hSw => by (try dsimp only at hSw); go_simp⟩) (s := hHeld) (h := ?_)
   refine tkA (i := 15) (v := .slice (some ⟨gl, 0, none⟩) 1 e2) (y := Or.inl ⟨by rfl, fun wS hSw => by (try dsimp only at hSw); go_simp⟩) (s := hHeld) (h := ?_)
   refine tkA (i := 16) (v := .pointer (some ⟨gl, 0, none⟩)) (y := Or.inl ⟨by rfl, fun wS hSw => by (try dsimp only at hSw); go_simp⟩) (s := hHeld) (h := ?_)
   refine tkA (i := 17) (v := .pointer (some ⟨gl, 1, none⟩)) (y := Or.inl ⟨by rfl, fun wS hSw => by (try dsimp only at hSw); go_simp⟩) (s := hHeld) (h := ?_)
   refine tkA (i := 18) (v := .int .i64 p.id) (y := Or.inl ⟨by rfl, fun wS hSw => by (try dsimp only at hSw); have cS : wS.cell? ⟨gl, 1, none⟩ = some (.int .i64 p.id) := hSw.1.cell 1 (pkc1 _ _); clear hSw; go_simp⟩) (s := hHeld) (h := ?_)
   refine tkA (i := 19) (v := .pointer (some ⟨w.heap.size + 1, 1, none⟩)) (y := Or.inl ⟨by rfl, fun wS hSw => by (try dsimp only at hSw); go_simp⟩) (s := hHeld) (h := ?_)
   refine tkA (i := 20) (v := .int .i64 p.id) (y := Or.inl ⟨by rfl, fun wS hSw => by (try dsimp only at hSw); have cS : wS.cell? ⟨w.heap.size + 1, 1, none⟩ = some (.int .i64 p.id) := hSw.2.cell 1 (pkc1 p a); clear hSw; go_simp⟩) (s := hHeld) (h := ?_)
   refine tkA (i := 21) (v := .bool false) (y := Or.inl ⟨by rfl, fun wS hSw => by (try dsimp only at hSw); go_simp⟩) (s := hHeld) (h := ?_)
   refine tkA (i := 22) (v := .bool false) (y := Or.inl ⟨by rfl, fun wS hSw => by (try dsimp only at hSw); go_simp⟩) (s := hHeld) (h := ?_)
   refine wpAnyH_done (by kernel_rfl) ?_ _
   rcases HDD.out with ⟨rfl, rfl⟩ | ⟨rfl, rfl⟩
   · clear HDD
     clear L_k1
     clear N_k1
     go_upto_region 16 with first
      | (refine wpList_load_v (by rfl) 24 (.tmp 15) rfl ⟨h1.heap.size, 0, none⟩ rfl (S2.xv A2 c2 Y) (S2.run_load_all U_k1.out Tryz.underlying24 rfl S2.boxSize) ?_)
      | (refine S2.wpList_store_all (by rfl) 24 (.tmp 4) (.tmp 96) rfl rfl (w.heap.size) rfl [.slice A2 Y.length c2] rfl 24 [.slice A1 X1.length c1] T_k1.out S2.boxSize rfl (onesB rfl) ?_; intro m1 hM hP; have T_m1 : Hid (BK 24 m1 (w.heap.size) [.slice A2 Y.length c2]) := Lib.hid hM; have K_m1 : Hid (BK 33 m1 (w.heap.size + 1) (pkC p a)) := Lib.hid (hP.other K_k1.out (by omega)); have B_m1 : Hid (Below w.heap.size w m1) := Lib.hid (hP.below B_k1.out (Nat.le_refl _)); have Y_m1 : Hid (S2.IL m1 m1.heap.size A2 Y) := Lib.hid (S2.IL.put Y_k1.out hP HOB.out); clear hM hP T_k1 K_k1 B_k1 Y_k1 U_k1)
     by_cases hlen : k < os.length
     rotate_left
     · have e2 : decide ((k : Int) < (os.length : Int)) = false := decide_eq_false (by omega)
       have e2' : decide (k < os.length) = false := decide_eq_false hlen
       clear hlen
       obtain ⟨r1, hr1⟩ : ∃ r1, r1 = World.drew m1 := ⟨_, rfl⟩
       have hbD : Below m1.heap.size m1 r1 := by rw [hr1]; exact (Below.refl _ _).drew
       have T_r1 : Hid (BK 24 r1 (w.heap.size) [.slice A2 Y.length c2]) := Lib.hid (T_m1.out.step hbD)
       have K_r1 : Hid (BK 33 r1 (w.heap.size + 1) (pkC p a)) := Lib.hid (K_m1.out.step hbD)
       have B_r1 : Hid (Below w.heap.size w r1) := Lib.hid (stepB B_m1.out hbD)
       have Y_r1 : Hid (S2.IL r1 r1.heap.size A2 Y) := Lib.hid (CL.step Y_m1.out hbD)
       clear T_m1 K_m1 B_m1 Y_m1
       have hbd : (fun w' => BK 33 w' (w.heap.size + 1) (pkC p a)) (World.drew m1) := by rw [← hr1]; exact K_r1.out
       have hSD : (fun w' => BK 33 w' (w.heap.size + 1) (pkC p a)) r1 := K_r1.out
       have HWD := Lib.hid hr1
       clear hr1 hbD
       refine wp_region_held_drew (S := fun w' => BK 33 w' (w.heap.size + 1) (pkC p a)) (by kernel_rfl) hbd (fun hHeld => ?_)
       rw [← HWD.out]
       clear hHeld
       have hHeld := hSD
       clear hSD hbd HWD
       refine tkA (i := 0) (v := .int .i64 (k : Int)) (y := Or.inl ⟨by rfl, fun wS hSw => by (try dsimp only at hSw); go_simp⟩) (s := hHeld) (h := ?_)
       refine tkA (i := 1) (v := .slice Ao os.length co) (y := Or.inl ⟨by rfl, fun wS hSw => by (try dsimp only at hSw); go_simp⟩) (s := hHeld) (h := ?_)
       refine tkA (i := 2) (v := .int .i64 (os.length : Int)) (y := Or.inl ⟨by rfl, fun wS hSw => by (try dsimp only at hSw); go_simp⟩) (s := hHeld) (h := ?_)
       refine tkA (i := 3) (v := .bool false) (y := Or.inl ⟨by rfl, fun wS hSw => by (try dsimp only at hSw); go_simp⟩) (s := hHeld) (h := ?_)
       refine tkA (i := 4) (v := .bool false) (y := Or.inl ⟨by rfl, fun wS hSw => by (try dsimp only at hSw); go_simp⟩) (s := hHeld) (h := ?_)
       refine tkA (i := 5) (v := undef) (y := Or.inr ⟨by rfl, rfl⟩) (s := hHeld) (h := ?_)
       refine tkA (i := 6) (v := undef) (y := Or.inr ⟨by rfl, rfl⟩) (s := hHeld) (h := ?_)
       refine tkA (i := 7) (v := .bool false) (y := Or.inl ⟨by rfl, fun wS hSw => by (try dsimp only at hSw); go_simp⟩) (s := hHeld) (h := ?_)
       refine tkA (i := 8) (v := .bool false) (y := Or.inl ⟨by rfl, fun wS hSw => by (try dsimp only at hSw); go_simp⟩) (s := hHeld) (h := ?_)
       refine tkA (i := 9) (v := undef) (y := Or.inr ⟨by rfl, rfl⟩) (s := hHeld) (h := ?_)
       refine tkA (i := 10) (v := undef) (y := Or.inr ⟨by rfl, rfl⟩) (s := hHeld) (h := ?_)
       refine tkA (i := 11) (v := undef) (y := Or.inr ⟨by rfl, rfl⟩) (s := hHeld) (h := ?_)
       refine tkA (i := 12) (v := undef) (y := Or.inr ⟨by rfl, rfl⟩) (s := hHeld) (h := ?_)
       refine tkA (i := 13) (v := undef) (y := Or.inr ⟨by rfl, rfl⟩) (s := hHeld) (h := ?_)
       refine tkA (i := 14) (v := undef) (y := Or.inr ⟨by rfl, rfl⟩) (s := hHeld) (h := ?_)
       refine tkA (i := 15) (v := undef) (y := Or.inr ⟨by rfl, rfl⟩) (s := hHeld) (h := ?_)
       refine tkA (i := 16) (v := undef) (y := Or.inr ⟨by rfl, rfl⟩) (s := hHeld) (h := ?_)
       refine tkA (i := 17) (v := .bool false) (y := Or.inl ⟨by rfl, fun wS hSw => by (try dsimp only at hSw); go_simp⟩) (s := hHeld) (h := ?_)
       refine wpAnyH_done (by kernel_rfl) ?_ _
       go_wp2_with fail
       go_roundg g
       case measure => omega
       case rel => exact ⟨k + 1, 1, A2, c2, Y, by have := HG.out; omega, by go_num, rfl, .inr ⟨by omega, HMY.out, rfl⟩, ⟨T_r1.out, B_r1.out, Y_r1.out, HC2.out, HVY.out, HOB.out⟩, K_r1.out⟩
     have e2 : decide ((k : Int) < (os.length : Int)) = true := decide_eq_true (by omega)
     have e2' : decide (k < os.length) = true := decide_eq_true hlen
     obtain ⟨z, hz⟩ : ∃ z, os[k]? = some z := ⟨_, List.getElem?_eq_getElem hlen⟩
     obtain ⟨b, o, hA, hbB, hc, hpi⟩ := (HKL.out.step B_m1.out).cells hz
     subst hA
     have HST := Lib.hid (fun w1 h0 h1 h2 => step15_any A2 c2 Y z.1 z.2 w1 h0 h1 HC2.out HVY.out h2 (HBZ.out z (List.mem_of_getElem? hz)))
     have HVZ : Hid (S2.ckI (stepR Y z.1).1 0 = 0) := Lib.hid (step_ok HVY.out)
     have HMZ : Hid (z.1.id ≠ p.id → p.id ∈ (stepR Y z.1).1) := Lib.hid (fun h => step_keep HMY.out h)
     generalize stepR Y z.1 = r at HST HVZ HMZ
     obtain ⟨Z, dz⟩ := r
     dsimp only at HVZ HMZ
     unfold pkV at HST
     have C_m1 : Hid (∀ i v, (gK z)[i]? = some v → m1.cell? ⟨b, o + k * 34 + i, none⟩ = some v) := Lib.hid hc
     have P_m1 : Hid (PIn m1 z.1 z.2) := Lib.hid hpi.pin
     have HBL : Hid (b < m1.heap.size) := Lib.hid hbB
     have G_m1 : Hid (m1.heap.size ≤ m1.heap.size) := Lib.hid (Nat.le_refl _)
     have j1 : (0 : Int) ≤ (k : Int) := by omega
     have j2 : (k : Int) < (os.length : Int) := by omega
     clear hz hc hpi hbB hlen
     by_cases hid : z.1.id = p.id
     · have q16 : (z.1.id != p.id) = false := by simp [hid]
       clear hid HST HVZ HMZ
       obtain ⟨r1, hr1⟩ : ∃ r1, r1 = World.drew m1 := ⟨_, rfl⟩
       have hbD : Below m1.heap.size m1 r1 := by rw [hr1]; exact (Below.refl _ _).drew
       have T_r1 : Hid (BK 24 r1 (w.heap.size) [.slice A2 Y.length c2]) := Lib.hid (T_m1.out.step hbD)
       have K_r1 : Hid (BK 33 r1 (w.heap.size + 1) (pkC p a)) := Lib.hid (K_m1.out.step hbD)
       have B_r1 : Hid (Below w.heap.size w r1) := Lib.hid (stepB B_m1.out hbD)
       have Y_r1 : Hid (S2.IL r1 r1.heap.size A2 Y) := Lib.hid (CL.step Y_m1.out hbD)
       have C_r1 : Hid (∀ i v, (gK z)[i]? = some v → r1.cell? ⟨b, o + k * 34 + i, none⟩ = some v) := Lib.hid (cells_stepK C_m1.out hbD)
       have P_r1 : Hid (PIn r1 z.1 z.2) := Lib.hid (P_m1.out.step hbD)
       have G_r1 : Hid (m1.heap.size ≤ r1.heap.size) := Lib.hid (Nat.le_trans G_m1.out hbD.size)
       clear T_m1 K_m1 B_m1 Y_m1 C_m1 P_m1 G_m1
       have hbd : (fun w' => BK 33 w' (w.heap.size + 1) (pkC p a) ∧ ∀ i v, (gK z)[i]? = some v → w'.cell? ⟨b, o + k * 34 + i, none⟩ = some v) (World.drew m1) := by rw [← hr1]; exact ⟨K_r1.out, C_r1.out⟩
       have hSD : (fun w' => BK 33 w' (w.heap.size + 1) (pkC p a) ∧ ∀ i v, (gK z)[i]? = some v → w'.cell? ⟨b, o + k * 34 + i, none⟩ = some v) r1 := ⟨K_r1.out, C_r1.out⟩
       have HWD := Lib.hid hr1
       clear hr1 hbD
       refine wp_region_held_drew (S := fun w' => BK 33 w' (w.heap.size + 1) (pkC p a) ∧ ∀ i v, (gK z)[i]? = some v → w'.cell? ⟨b, o + k * 34 + i, none⟩ = some v) (by kernel_rfl) hbd (fun hHeld => ?_)
       rw [← HWD.out]
       clear hHeld
       have hHeld := hSD
       clear hSD hbd HWD
       refine tkA (i := 0) (v := .int .i64 (k : Int)) (y := Or.inl ⟨by rfl, fun wS hSw => by (try dsimp only at hSw); go_simp⟩) (s := hHeld) (h := ?_)
       refine tkA (i := 1) (v := .slice (some ⟨b, o, none⟩) os.length co) (y := Or.inl ⟨by rfl, fun wS hSw => by (try dsimp only at hSw); go_simp⟩) (s := hHeld) (h := ?_)
       refine tkA (i := 2) (v := .int .i64 (os.length : Int)) (y := Or.inl ⟨by rfl, fun wS hSw => by (try dsimp only at hSw); go_simp⟩) (s := hHeld) (h := ?_)
       refine tkA (i := 3) (v := .bool true) (y := Or.inl ⟨by rfl, fun wS hSw => by (try dsimp only at hSw); go_simp⟩) (s := hHeld) (h := ?_)
       refine tkA (i := 4) (v := .bool true) (y := Or.inl ⟨by rfl, fun wS hSw => by (try dsimp only at hSw); go_simp⟩) (s := hHeld) (h := ?_)
       refine tkA (i := 5) (v := .int .i64 (k : Int)) (y := Or.inl ⟨by rfl, fun wS hSw => by (try dsimp only at hSw); go_simp⟩) (s := hHeld) (h := ?_)
       refine tkA (i := 6) (v := .bool true) (y := Or.inl ⟨by rfl, fun wS hSw => by (try dsimp only at hSw); go_simp⟩) (s := hHeld) (h := ?_)
       refine tkA (i := 7) (v := .bool true) (y := Or.inl ⟨by rfl, fun wS hSw => by (try dsimp only at hSw); go_simp⟩) (s := hHeld) (h := ?_)
       refine tkA (i := 8) (v := .bool true) (y := Or.inl ⟨by rfl, fun wS hSw => by (try dsimp only at hSw); go_simp⟩) (s := hHeld) (h := ?_)
       refine tkA (i := 9) (v := .slice (some ⟨b, o, none⟩) os.length co) (y := Or.inl ⟨by rfl, fun wS hSw => by (try dsimp only at hSw); go_simp⟩) (s := hHeld) (h := ?_)
       refine tkA (i := 10) (v := .int .i64 (k : Int)) (y := Or.inl ⟨by rfl, fun wS hSw => by (try dsimp only at hSw); go_simp⟩) (s := hHeld) (h := ?_)
       refine tkA (i := 11) (v := .pointer (some ⟨b, o + k * 34, none⟩)) (y := Or.inl ⟨by rfl, fun wS hSw => by (try dsimp only at hSw); go_simp⟩) (s := hHeld) (h := ?_)
       refine tkA (i := 12) (v := .pointer (some ⟨b, o + k * 34 + 1, none⟩)) (y := Or.inl ⟨by rfl, fun wS hSw => by (try dsimp only at hSw); go_simp⟩) (s := hHeld) (h := ?_)
       refine tkA (i := 13) (v := .int .i64 z.1.id) (y := Or.inl ⟨by rfl, fun wS hSw => by (try dsimp only at hSw); have cS : wS.cell? ⟨b, o + k * 34 + 1, none⟩ = some (.int .i64 z.1.id) := hSw.2 1 _ rfl; clear hSw; go_simp⟩) (s := hHeld) (h := ?_)
       refine tkA (i := 14) (v := .pointer (some ⟨w.heap.size + 1, 1, none⟩)) (y := Or.inl ⟨by rfl, fun wS hSw => by (try dsimp only at hSw); go_simp⟩) (s := hHeld) (h := ?_)
       refine tkA (i := 15) (v := .int .i64 p.id) (y := Or.inl ⟨by rfl, fun wS hSw => by (try dsimp only at hSw); have cS : wS.cell? ⟨w.heap.size + 1, 1, none⟩ = some (.int .i64 p.id) := hSw.1.cell 1 (pkc1 p a); clear hSw; go_simp⟩) (s := hHeld) (h := ?_)
       refine tkA (i := 16) (v := .bool false) (y := Or.inl ⟨by rfl, fun wS hSw => by (try dsimp only at hSw); go_simp⟩) (s := hHeld) (h := ?_)
       refine tkA (i := 17) (v := .bool false) (y := Or.inl ⟨by rfl, fun wS hSw => by (try dsimp only at hSw); go_simp⟩) (s := hHeld) (h := ?_)
       refine wpAnyH_done (by kernel_rfl) ?_ _
       go_wp2_with fail
       go_roundg g
       case measure => omega
       case rel => exact ⟨k + 1, 1, A2, c2, Y, by have := HG.out; omega, by go_num, rfl, .inr ⟨by omega, HMY.out, rfl⟩, ⟨T_r1.out, B_r1.out, Y_r1.out, HC2.out, HVY.out, HOB.out⟩, K_r1.out⟩
     · have q16 : (z.1.id != p.id) = true := by simp [hid]
       have HMW := Lib.hid (HMZ.out hid)
       clear hid HMZ
       obtain ⟨r1, hr1⟩ : ∃ r1, r1 = World.drew m1 := ⟨_, rfl⟩
       have hbD : Below m1.heap.size m1 r1 := by rw [hr1]; exact (Below.refl _ _).drew
       have T_r1 : Hid (BK 24 r1 (w.heap.size) [.slice A2 Y.length c2]) := Lib.hid (T_m1.out.step hbD)
       have K_r1 : Hid (BK 33 r1 (w.heap.size + 1) (pkC p a)) := Lib.hid (K_m1.out.step hbD)
       have B_r1 : Hid (Below w.heap.size w r1) := Lib.hid (stepB B_m1.out hbD)
       have Y_r1 : Hid (S2.IL r1 r1.heap.size A2 Y) := Lib.hid (CL.step Y_m1.out hbD)
       have C_r1 : Hid (∀ i v, (gK z)[i]? = some v → r1.cell? ⟨b, o + k * 34 + i, none⟩ = some v) := Lib.hid (cells_stepK C_m1.out hbD)
       have P_r1 : Hid (PIn r1 z.1 z.2) := Lib.hid (P_m1.out.step hbD)
       have G_r1 : Hid (m1.heap.size ≤ r1.heap.size) := Lib.hid (Nat.le_trans G_m1.out hbD.size)
       clear T_m1 K_m1 B_m1 Y_m1 C_m1 P_m1 G_m1
       have hbd : (fun w' => BK 33 w' (w.heap.size + 1) (pkC p a) ∧ ∀ i v, (gK z)[i]? = some v → w'.cell? ⟨b, o + k * 34 + i, none⟩ = some v) (World.drew m1) := by rw [← hr1]; exact ⟨K_r1.out, C_r1.out⟩
       have hSD : (fun w' => BK 33 w' (w.heap.size + 1) (pkC p a) ∧ ∀ i v, (gK z)[i]? = some v → w'.cell? ⟨b, o + k * 34 + i, none⟩ = some v) r1 := ⟨K_r1.out, C_r1.out⟩
       have HWD := Lib.hid hr1
       clear hr1 hbD
       refine wp_region_held_drew (S := fun w' => BK 33 w' (w.heap.size + 1) (pkC p a) ∧ ∀ i v, (gK z)[i]? = some v → w'.cell? ⟨b, o + k * 34 + i, none⟩ = some v) (by kernel_rfl) hbd (fun hHeld => ?_)
       rw [← HWD.out]
       clear hHeld
       have hHeld := hSD
       clear hSD hbd HWD
       refine tkA (i := 0) (v := .int .i64 (k : Int)) (y := Or.inl ⟨by rfl, fun wS hSw => by (try dsimp only at hSw); go_simp⟩) (s := hHeld) (h := ?_)
       refine tkA (i := 1) (v := .slice (some ⟨b, o, none⟩) os.length co) (y := Or.inl ⟨by rfl, fun wS hSw => by (try dsimp only at hSw); go_simp⟩) (s := hHeld) (h := ?_)
       refine tkA (i := 2) (v := .int .i64 (os.length : Int)) (y := Or.inl ⟨by rfl, fun wS hSw => by (try dsimp only at hSw); go_simp⟩) (s := hHeld) (h := ?_)
       refine tkA (i := 3) (v := .bool true) (y := Or.inl ⟨by rfl, fun wS hSw => by (try dsimp only at hSw); go_simp⟩) (s := hHeld) (h := ?_)
       refine tkA (i := 4) (v := .bool true) (y := Or.inl ⟨by rfl, fun wS hSw => by (try dsimp only at hSw); go_simp⟩) (s := hHeld) (h := ?_)
       refine tkA (i := 5) (v := .int .i64 (k : Int)) (y := Or.inl ⟨by rfl, fun wS hSw => by (try dsimp only at hSw); go_simp⟩) (s := hHeld) (h := ?_)
       refine tkA (i := 6) (v := .bool true) (y := Or.inl ⟨by rfl, fun wS hSw => by (try dsimp only at hSw); go_simp⟩) (s := hHeld) (h := ?_)
       refine tkA (i := 7) (v := .bool true) (y := Or.inl ⟨by rfl, fun wS hSw => by (try dsimp only at hSw); go_simp⟩) (s := hHeld) (h := ?_)
       refine tkA (i := 8) (v := .bool true) (y := Or.inl ⟨by rfl, fun wS hSw => by (try dsimp only at hSw); go_simp⟩) (s := hHeld) (h := ?_)
       refine tkA (i := 9) (v := .slice (some ⟨b, o, none⟩) os.length co) (y := Or.inl ⟨by rfl, fun wS hSw => by (try dsimp only at hSw); go_simp⟩) (s := hHeld) (h := ?_)
       refine tkA (i := 10) (v := .int .i64 (k : Int)) (y := Or.inl ⟨by rfl, fun wS hSw => by (try dsimp only at hSw); go_simp⟩) (s := hHeld) (h := ?_)
       refine tkA (i := 11) (v := .pointer (some ⟨b, o + k * 34, none⟩)) (y := Or.inl ⟨by rfl, fun wS hSw => by (try dsimp only at hSw); go_simp⟩) (s := hHeld) (h := ?_)
       refine tkA (i := 12) (v := .pointer (some ⟨b, o + k * 34 + 1, none⟩)) (y := Or.inl ⟨by rfl, fun wS hSw => by (try dsimp only at hSw); go_simp⟩) (s := hHeld) (h := ?_)
       refine tkA (i := 13) (v := .int .i64 z.1.id) (y := Or.inl ⟨by rfl, fun wS hSw => by (try dsimp only at hSw); have cS : wS.cell? ⟨b, o + k * 34 + 1, none⟩ = some (.int .i64 z.1.id) := hSw.2 1 _ rfl; clear hSw; go_simp⟩) (s := hHeld) (h := ?_)
       refine tkA (i := 14) (v := .pointer (some ⟨w.heap.size + 1, 1, none⟩)) (y := Or.inl ⟨by rfl, fun wS hSw => by (try dsimp only at hSw); go_simp⟩) (s := hHeld) (h := ?_)
       refine tkA (i := 15) (v := .int .i64 p.id) (y := Or.inl ⟨by rfl, fun wS hSw => by (try dsimp only at hSw); have cS : wS.cell? ⟨w.heap.size + 1, 1, none⟩ = some (.int .i64 p.id) := hSw.1.cell 1 (pkc1 p a); clear hSw; go_simp⟩) (s := hHeld) (h := ?_)
       refine tkA (i := 16) (v := .bool true) (y := Or.inl ⟨by rfl, fun wS hSw => by (try dsimp only at hSw); go_simp⟩) (s := hHeld) (h := ?_)
       refine tkA (i := 17) (v := .bool true) (y := Or.inl ⟨by rfl, fun wS hSw => by (try dsimp only at hSw); go_simp⟩) (s := hHeld) (h := ?_)
       refine wpAnyH_done (by kernel_rfl) ?_ _
       go_upto_region 17 with fail
       obtain ⟨t2, ht2⟩ : ∃ t2, t2 = World.drew r1 := ⟨_, rfl⟩
       have hbD : Below r1.heap.size r1 t2 := by rw [ht2]; exact (Below.refl _ _).drew
       have T_t2 : Hid (BK 24 t2 (w.heap.size) [.slice A2 Y.length c2]) := Lib.hid (T_r1.out.step hbD)
       have K_t2 : Hid (BK 33 t2 (w.heap.size + 1) (pkC p a)) := Lib.hid (K_r1.out.step hbD)
       have B_t2 : Hid (Below w.heap.size w t2) := Lib.hid (stepB B_r1.out hbD)
       have Y_t2 : Hid (S2.IL t2 t2.heap.size A2 Y) := Lib.hid (CL.step Y_r1.out hbD)
       have C_t2 : Hid (∀ i v, (gK z)[i]? = some v → t2.cell? ⟨b, o + k * 34 + i, none⟩ = some v) := Lib.hid (cells_stepK C_r1.out hbD)
       have P_t2 : Hid (PIn t2 z.1 z.2) := Lib.hid (P_r1.out.step hbD)
       have G_t2 : Hid (m1.heap.size ≤ t2.heap.size) := Lib.hid (Nat.le_trans G_r1.out hbD.size)
       clear T_r1 K_r1 B_r1 Y_r1 C_r1 P_r1 G_r1
       have hbd : (fun w' => BK 24 w' (w.heap.size) [.slice A2 Y.length c2] ∧ ∀ i v, (gK z)[i]? = some v → w'.cell? ⟨b, o + k * 34 + i, none⟩ = some v) (World.drew r1) := by rw [← ht2]; exact ⟨T_t2.out, C_t2.out⟩
       have hSD : (fun w' => BK 24 w' (w.heap.size) [.slice A2 Y.length c2] ∧ ∀ i v, (gK z)[i]? = some v → w'.cell? ⟨b, o + k * 34 + i, none⟩ = some v) t2 := ⟨T_t2.out, C_t2.out⟩
       have HWD := Lib.hid ht2
       clear ht2 hbD
       refine wp_region_held_drew (S := fun w' => BK 24 w' (w.heap.size) [.slice A2 Y.length c2] ∧ ∀ i v, (gK z)[i]? = some v → w'.cell? ⟨b, o + k * 34 + i, none⟩ = some v) (by kernel_rfl) hbd (fun hHeld => ?_)
       rw [← HWD.out]
       clear hHeld
       have hHeld := hSD
       clear hSD hbd HWD
       refine tkA (i := 0) (v := (S2.xv A2 c2 Y)) (y := Or.inl ⟨by rfl, fun wS hSw => by (try dsimp only at hSw); exact exec_load 24 _ rfl ⟨w.heap.size, 0, none⟩ (by go_simp) _ (S2.run_load_all hSw.1 Tryz.underlying24 rfl S2.boxSize)⟩) (s := hHeld) (h := ?_)
       refine tkA (i := 1) (v := .slice (some ⟨b, o, none⟩) os.length co) (y := Or.inl ⟨by rfl, fun wS hSw => by (try dsimp only at hSw); go_simp⟩) (s := hHeld) (h := ?_)
       refine tkA (i := 2) (v := .int .i64 (k : Int)) (y := Or.inl ⟨by rfl, fun wS hSw => by (try dsimp only at hSw); go_simp⟩) (s := hHeld) (h := ?_)
       refine tkA (i := 3) (v := .pointer (some ⟨b, o + k * 34, none⟩)) (y := Or.inl ⟨by rfl, fun wS hSw => by (try dsimp only at hSw); go_simp⟩) (s := hHeld) (h := ?_)
       refine tkA (i := 4) (v := .agg (pkC z.1 z.2).toArray) (y := Or.inl ⟨by rfl, fun wS hSw => by (try dsimp only at hSw); exact exec_load 33 _ rfl ⟨b, o + k * 34, none⟩ (by go_simp) _ (load_pkc hSw.2)⟩) (s := hHeld) (h := ?_)
       refine wpAnyH_ready (rs := [5, 10]) (by kernel_rfl) (by simp) ?_
       refine (AllReadyH.cons (get_ops _ _ _ rfl) (fun K hK => ?_) (AllReadyH.cons (get_ops _ _ _ rfl) (fun K hK => ?_) AllReadyH.nil))
       · go_simp
         refine (HST.out t2 (HOK.out.step B_t2.out) Y_t2.out P_t2.out).mono ?_
         rintro e t3 ⟨A3, c3, rfl, hc3, hl3, hfr3, hb⟩
         have HC3 := Lib.hid hc3
         have HOZ : Hid (S2.Off w.heap.size A3 Z) := Lib.hid (HOB.out.fr hfr3 T_t2.out.lt)
         have T_t3 : Hid (BK 24 t3 (w.heap.size) [.slice A2 Y.length c2]) := Lib.hid (T_t2.out.step hb)
         have K_t3 : Hid (BK 33 t3 (w.heap.size + 1) (pkC p a)) := Lib.hid (K_t2.out.step hb)
         have B_t3 : Hid (Below w.heap.size w t3) := Lib.hid (stepB B_t2.out hb)
         have Y_t3 : Hid (S2.IL t3 t3.heap.size A2 Y) := Lib.hid (CL.step Y_t2.out hb)
         have C_t3 : Hid (∀ i v, (gK z)[i]? = some v → t3.cell? ⟨b, o + k * 34 + i, none⟩ = some v) := Lib.hid (cells_stepK C_t2.out hb)
         have P_t3 : Hid (PIn t3 z.1 z.2) := Lib.hid (P_t2.out.step hb)
         have G_t3 : Hid (m1.heap.size ≤ t3.heap.size) := Lib.hid (Nat.le_trans G_t2.out hb.size)
         clear T_t2 K_t2 B_t2 Y_t2 C_t2 P_t2 G_t2
         have X_t3 : Hid (S2.IL t3 t3.heap.size A3 Z) := Lib.hid hl3
         clear hHeld hb hl3 hfr3 hc3
         go_wp2_with fail
         refine hK.out _ _ ⟨T_t3.out, C_t3.out⟩ (fun hHeld => ?_)
         clear hK K
         try simp only [Act.put, List.setIfInBounds_toArray, List.set_cons_zero, List.set_cons_succ]
         refine tkA (i := 6) (v := .tuple #[S2.xv A3 c3 Z, .bool dz, .bool true]) (y := Or.inl ⟨by rfl, fun wS hSw => by (try dsimp only at hSw); go_simp⟩) (s := hHeld) (h := ?_)
         refine tkA (i := 7) (v := (S2.xv A3 c3 Z)) (y := Or.inl ⟨by rfl, fun wS hSw => by (try dsimp only at hSw); go_simp⟩) (s := hHeld) (h := ?_)
         refine tkA (i := 8) (v := .bool dz) (y := Or.inl ⟨by rfl, fun wS hSw => by (try dsimp only at hSw); go_simp⟩) (s := hHeld) (h := ?_)
         refine tkA (i := 9) (v := .bool true) (y := Or.inl ⟨by rfl, fun wS hSw => by (try dsimp only at hSw); go_simp⟩) (s := hHeld) (h := ?_)
         refine wpAnyH_ready (rs := [10]) (by kernel_rfl) (by simp) ?_
         refine (AllReadyH.cons (get_ops _ _ _ rfl) (fun K hK => ?_) AllReadyH.nil)
         go_simp
         obtain ⟨gv, hgv⟩ : ∃ gv, gv = t3.heap.size := ⟨_, rfl⟩
         obtain ⟨t4, ht4⟩ : ∃ t4, t4 = t3.alloc (.cells ([.slice none 0 0] : List Value).toArray 24) := ⟨_, rfl⟩
         have hb : Below t3.heap.size t3 t4 := by rw [ht4]; exact S2.below_new _ _
         have hN : BK 24 t4 gv [.slice none 0 0] := by rw [ht4, hgv]; exact BK.new _ _ _
         have HGV : Hid (w.heap.size + 1 < gv) := Lib.hid (by rw [hgv]; exact K_t3.out.lt)
         have HBV : Hid (b < gv) := Lib.hid (by rw [hgv]; have := G_t3.out; have := HBL.out; omega)
         have HOV : Hid (S2.Off gv A3 Z) := Lib.hid (S2.Off.lt X_t3.out (by rw [hgv]; exact Nat.le_refl _))
         have T_t4 : Hid (BK 24 t4 (w.heap.size) [.slice A2 Y.length c2]) := Lib.hid (T_t3.out.step hb)
         have K_t4 : Hid (BK 33 t4 (w.heap.size + 1) (pkC p a)) := Lib.hid (K_t3.out.step hb)
         have B_t4 : Hid (Below w.heap.size w t4) := Lib.hid (stepB B_t3.out hb)
         have Y_t4 : Hid (S2.IL t4 t4.heap.size A2 Y) := Lib.hid (CL.step Y_t3.out hb)
         have C_t4 : Hid (∀ i v, (gK z)[i]? = some v → t4.cell? ⟨b, o + k * 34 + i, none⟩ = some v) := Lib.hid (cells_stepK C_t3.out hb)
         have P_t4 : Hid (PIn t4 z.1 z.2) := Lib.hid (P_t3.out.step hb)
         have G_t4 : Hid (m1.heap.size ≤ t4.heap.size) := Lib.hid (Nat.le_trans G_t3.out hb.size)
         have X_t4 : Hid (S2.IL t4 t4.heap.size A3 Z) := Lib.hid (CL.step X_t3.out hb)
         clear T_t3 K_t3 B_t3 Y_t3 C_t3 P_t3 G_t3 X_t3
         have V_t4 := Lib.hid hN
         try rw [← ht4]
         try rw [← hgv]
         clear hHeld hb hN ht4 hgv
         refine hK.out _ _ ⟨T_t4.out, C_t4.out⟩ (fun hHeld => ?_)
         clear hK K
         try simp only [Act.put, List.setIfInBounds_toArray, List.set_cons_zero, List.set_cons_succ]
         refine wpAnyH_ready (rs := [11]) (by kernel_rfl) (by simp) ?_
         refine (AllReadyH.cons (get_ops _ _ _ rfl) (fun K hK => ?_) AllReadyH.nil)
         refine S2.wp_store_all 24 _ _ rfl rfl gv (by go_simp) [.slice A3 Z.length c3] (by first | rfl | go_simp) 24 [.slice none 0 0] V_t4.out S2.boxSize rfl (onesB rfl) ?_
         intro t5 hM hP
         have V_t5 : Hid (BK 24 t5 gv [.slice A3 Z.length c3]) := Lib.hid (hM)
         have T_t5 : Hid (BK 24 t5 (w.heap.size) [.slice A2 Y.length c2]) := Lib.hid (hP.other T_t4.out (by have := HGV.out; omega))
         have K_t5 : Hid (BK 33 t5 (w.heap.size + 1) (pkC p a)) := Lib.hid (hP.other K_t4.out (by have := HGV.out; omega))
         have B_t5 : Hid (Below w.heap.size w t5) := Lib.hid (hP.below B_t4.out (by have := HGV.out; omega))
         have C_t5 : Hid (∀ i v, (gK z)[i]? = some v → t5.cell? ⟨b, o + k * 34 + i, none⟩ = some v) := Lib.hid (fun j v hv => (hP.cell (p := ⟨b, o + k * 34 + j, none⟩) (by have := HBV.out; show b ≠ gv; omega)).trans (C_t4.out j v hv))
         have G_t5 : Hid (m1.heap.size ≤ t5.heap.size) := Lib.hid ((by rw [hP.size]; exact G_t4.out))
         have X_t5 : Hid (S2.IL t5 t5.heap.size A3 Z) := Lib.hid (S2.IL.put X_t4.out hP HOV.out)
         clear T_t4 K_t4 B_t4 Y_t4 C_t4 P_t4 G_t4 X_t4 V_t4
         clear hM hP hHeld
         refine hK.out _ _ ⟨T_t5.out, C_t5.out⟩ (fun hHeld => ?_)
         clear hK K
         try simp only [Act.put, List.setIfInBounds_toArray, List.set_cons_zero, List.set_cons_succ]
         refine tkA (i := 12) (v := .bool dz) (y := Or.inl ⟨by rfl, fun wS hSw => by (try dsimp only at hSw); go_simp⟩) (s := hHeld) (h := ?_)
         refine tkA (i := 13) (v := .bool true) (y := Or.inl ⟨by rfl, fun wS hSw => by (try dsimp only at hSw); go_simp⟩) (s := hHeld) (h := ?_)
         refine wpAnyH_done (by kernel_rfl) ?_ _
         clear C_t5 G_t5
         go_wp2_with first
          | (refine wpList_load_v (by rfl) 24 (.tmp 19) rfl ⟨gv, 0, none⟩ rfl (S2.xv A3 c3 Z) (S2.run_load_all V_t5.out Tryz.underlying24 rfl S2.boxSize) ?_)
          | (refine S2.wpList_store_all (by rfl) 24 (.tmp 4) (.tmp 127) rfl rfl w.heap.size rfl [.slice A3 Z.length c3] rfl 24 [.slice A2 Y.length c2] T_t5.out S2.boxSize rfl (onesB rfl) ?_; intro qf hM hP; have T_qf := Lib.hid hM; have K_qf := Lib.hid (hP.other K_t5.out (by omega)); have B_qf := Lib.hid (hP.below B_t5.out (Nat.le_refl _)); have X_qf := Lib.hid (S2.IL.put X_t5.out hP HOZ.out); clear hM hP)
         go_roundg g
         case measure => omega
         case rel => exact ⟨k + 1, 1, A3, c3, Z, by have := HG.out; omega, by go_num, rfl, .inr ⟨by omega, HMW.out, rfl⟩, ⟨T_qf.out, B_qf.out, X_qf.out, HC3.out, HVZ.out, HOZ.out⟩, K_qf.out⟩
       · go_simp
         obtain ⟨gv, hgv⟩ : ∃ gv, gv = t2.heap.size := ⟨_, rfl⟩
         obtain ⟨t3, ht3⟩ : ∃ t3, t3 = t2.alloc (.cells ([.slice none 0 0] : List Value).toArray 24) := ⟨_, rfl⟩
         have hb : Below t2.heap.size t2 t3 := by rw [ht3]; exact S2.below_new _ _
         have hN : BK 24 t3 gv [.slice none 0 0] := by rw [ht3, hgv]; exact BK.new _ _ _
         have HGV : Hid (w.heap.size + 1 < gv) := Lib.hid (by rw [hgv]; exact K_t2.out.lt)
         have HBV : Hid (b < gv) := Lib.hid (by rw [hgv]; have := G_t2.out; have := HBL.out; omega)
         have HOA : Hid (S2.Off gv A2 Y) := Lib.hid (S2.Off.lt Y_t2.out (by rw [hgv]; exact Nat.le_refl _))
         have T_t3 : Hid (BK 24 t3 (w.heap.size) [.slice A2 Y.length c2]) := Lib.hid (T_t2.out.step hb)
         have K_t3 : Hid (BK 33 t3 (w.heap.size + 1) (pkC p a)) := Lib.hid (K_t2.out.step hb)
         have B_t3 : Hid (Below w.heap.size w t3) := Lib.hid (stepB B_t2.out hb)
         have Y_t3 : Hid (S2.IL t3 t3.heap.size A2 Y) := Lib.hid (CL.step Y_t2.out hb)
         have C_t3 : Hid (∀ i v, (gK z)[i]? = some v → t3.cell? ⟨b, o + k * 34 + i, none⟩ = some v) := Lib.hid (cells_stepK C_t2.out hb)
         have P_t3 : Hid (PIn t3 z.1 z.2) := Lib.hid (P_t2.out.step hb)
         have G_t3 : Hid (m1.heap.size ≤ t3.heap.size) := Lib.hid (Nat.le_trans G_t2.out hb.size)
         clear T_t2 K_t2 B_t2 Y_t2 C_t2 P_t2 G_t2
         have V_t3 := Lib.hid hN
         try rw [← ht3]
         try rw [← hgv]
         clear hHeld hb hN ht3 hgv
         refine hK.out _ _ ⟨T_t3.out, C_t3.out⟩ (fun hHeld => ?_)
         clear hK K
         try simp only [Act.put, List.setIfInBounds_toArray, List.set_cons_zero, List.set_cons_succ]
         refine wpAnyH_ready (rs := [5]) (by kernel_rfl) (by simp) ?_
         refine (AllReadyH.cons (get_ops _ _ _ rfl) (fun K hK => ?_) AllReadyH.nil)
         go_simp
         refine (HST.out t3 (HOK.out.step B_t3.out) Y_t3.out P_t3.out).mono ?_
         rintro e t4 ⟨A3, c3, rfl, hc3, hl3, hfr3, hb⟩
         have HC3 := Lib.hid hc3
         have HOZ : Hid (S2.Off w.heap.size A3 Z) := Lib.hid (HOB.out.fr hfr3 T_t3.out.lt)
         have HOV : Hid (S2.Off gv A3 Z) := Lib.hid (HOA.out.fr hfr3 V_t3.out.lt)
         have T_t4 : Hid (BK 24 t4 (w.heap.size) [.slice A2 Y.length c2]) := Lib.hid (T_t3.out.step hb)
         have K_t4 : Hid (BK 33 t4 (w.heap.size + 1) (pkC p a)) := Lib.hid (K_t3.out.step hb)
         have B_t4 : Hid (Below w.heap.size w t4) := Lib.hid (stepB B_t3.out hb)
         have Y_t4 : Hid (S2.IL t4 t4.heap.size A2 Y) := Lib.hid (CL.step Y_t3.out hb)
         have C_t4 : Hid (∀ i v, (gK z)[i]? = some v → t4.cell? ⟨b, o + k * 34 + i, none⟩ = some v) := Lib.hid (cells_stepK C_t3.out hb)
         have P_t4 : Hid (PIn t4 z.1 z.2) := Lib.hid (P_t3.out.step hb)
         have G_t4 : Hid (m1.heap.size ≤ t4.heap.size) := Lib.hid (Nat.le_trans G_t3.out hb.size)
         have V_t4 : Hid (BK 24 t4 gv [.slice none 0 0]) := Lib.hid (V_t3.out.step hb)
         clear T_t3 K_t3 B_t3 Y_t3 C_t3 P_t3 G_t3 V_t3
         have X_t4 : Hid (S2.IL t4 t4.heap.size A3 Z) := Lib.hid hl3
         clear hHeld hb hl3 hfr3 hc3
         go_wp2_with fail
         refine hK.out _ _ ⟨T_t4.out, C_t4.out⟩ (fun hHeld => ?_)
         clear hK K
         try simp only [Act.put, List.setIfInBounds_toArray, List.set_cons_zero, List.set_cons_succ]
         refine tkA (i := 6) (v := .tuple #[S2.xv A3 c3 Z, .bool dz, .bool true]) (y := Or.inl ⟨by rfl, fun wS hSw => by (try dsimp only at hSw); go_simp⟩) (s := hHeld) (h := ?_)
         refine tkA (i := 7) (v := (S2.xv A3 c3 Z)) (y := Or.inl ⟨by rfl, fun wS hSw => by (try dsimp only at hSw); go_simp⟩) (s := hHeld) (h := ?_)
         refine tkA (i := 8) (v := .bool dz) (y := Or.inl ⟨by rfl, fun wS hSw => by (try dsimp only at hSw); go_simp⟩) (s := hHeld) (h := ?_)
         refine tkA (i := 9) (v := .bool true) (y := Or.inl ⟨by rfl, fun wS hSw => by (try dsimp only at hSw); go_simp⟩) (s := hHeld) (h := ?_)
         refine wpAnyH_ready (rs := [11]) (by kernel_rfl) (by simp) ?_
         refine (AllReadyH.cons (get_ops _ _ _ rfl) (fun K hK => ?_) AllReadyH.nil)
         refine S2.wp_store_all 24 _ _ rfl rfl gv (by go_simp) [.slice A3 Z.length c3] (by first | rfl | go_simp) 24 [.slice none 0 0] V_t4.out S2.boxSize rfl (onesB rfl) ?_
         intro t5 hM hP
         have V_t5 : Hid (BK 24 t5 gv [.slice A3 Z.length c3]) := Lib.hid (hM)
         have T_t5 : Hid (BK 24 t5 (w.heap.size) [.slice A2 Y.length c2]) := Lib.hid (hP.other T_t4.out (by have := HGV.out; omega))
         have K_t5 : Hid (BK 33 t5 (w.heap.size + 1) (pkC p a)) := Lib.hid (hP.other K_t4.out (by have := HGV.out; omega))
         have B_t5 : Hid (Below w.heap.size w t5) := Lib.hid (hP.below B_t4.out (by have := HGV.out; omega))
         have C_t5 : Hid (∀ i v, (gK z)[i]? = some v → t5.cell? ⟨b, o + k * 34 + i, none⟩ = some v) := Lib.hid (fun j v hv => (hP.cell (p := ⟨b, o + k * 34 + j, none⟩) (by have := HBV.out; show b ≠ gv; omega)).trans (C_t4.out j v hv))
         have G_t5 : Hid (m1.heap.size ≤ t5.heap.size) := Lib.hid ((by rw [hP.size]; exact G_t4.out))
         have X_t5 : Hid (S2.IL t5 t5.heap.size A3 Z) := Lib.hid (S2.IL.put X_t4.out hP HOV.out)
         clear T_t4 K_t4 B_t4 Y_t4 C_t4 P_t4 G_t4 V_t4 X_t4
         clear hM hP hHeld
         refine hK.out _ _ ⟨T_t5.out, C_t5.out⟩ (fun hHeld => ?_)
         clear hK K
         try simp only [Act.put, List.setIfInBounds_toArray, List.set_cons_zero, List.set_cons_succ]
         refine tkA (i := 12) (v := .bool dz) (y := Or.inl ⟨by rfl, fun wS hSw => by (try dsimp only at hSw); go_simp⟩) (s := hHeld) (h := ?_)
         refine tkA (i := 13) (v := .bool true) (y := Or.inl ⟨by rfl, fun wS hSw => by (try dsimp only at hSw); go_simp⟩) (s := hHeld) (h := ?_)
         refine wpAnyH_done (by kernel_rfl) ?_ _
         clear C_t5 G_t5
         go_wp2_with first
          | (refine wpList_load_v (by rfl) 24 (.tmp 19) rfl ⟨gv, 0, none⟩ rfl (S2.xv A3 c3 Z) (S2.run_load_all V_t5.out Tryz.underlying24 rfl S2.boxSize) ?_)
          | (refine S2.wpList_store_all (by rfl) 24 (.tmp 4) (.tmp 127) rfl rfl w.heap.size rfl [.slice A3 Z.length c3] rfl 24 [.slice A2 Y.length c2] T_t5.out S2.boxSize rfl (onesB rfl) ?_; intro qf hM hP; have T_qf := Lib.hid hM; have K_qf := Lib.hid (hP.other K_t5.out (by omega)); have B_qf := Lib.hid (hP.below B_t5.out (Nat.le_refl _)); have X_qf := Lib.hid (S2.IL.put X_t5.out hP HOZ.out); clear hM hP)
         go_roundg g
         case measure => omega
         case rel => exact ⟨k + 1, 1, A3, c3, Z, by have := HG.out; omega, by go_num, rfl, .inr ⟨by omega, HMW.out, rfl⟩, ⟨T_qf.out, B_qf.out, X_qf.out, HC3.out, HVZ.out, HOZ.out⟩, K_qf.out⟩
   · clear HDD
     clear L_k1
     clear N_k1
     go_upto_region 16 with first
      | (refine wpList_load_v (by rfl) 24 (.tmp 15) rfl ⟨h1.heap.size, 0, none⟩ rfl (S2.xv A2 c2 Y) (S2.run_load_all U_k1.out Tryz.underlying24 rfl S2.boxSize) ?_)
      | (refine S2.wpList_store_all (by rfl) 24 (.tmp 4) (.tmp 96) rfl rfl (w.heap.size) rfl [.slice A2 Y.length c2] rfl 24 [.slice A1 X1.length c1] T_k1.out S2.boxSize rfl (onesB rfl) ?_; intro m1 hM hP; have T_m1 : Hid (BK 24 m1 (w.heap.size) [.slice A2 Y.length c2]) := Lib.hid hM; have K_m1 : Hid (BK 33 m1 (w.heap.size + 1) (pkC p a)) := Lib.hid (hP.other K_k1.out (by omega)); have B_m1 : Hid (Below w.heap.size w m1) := Lib.hid (hP.below B_k1.out (Nat.le_refl _)); have Y_m1 : Hid (S2.IL m1 m1.heap.size A2 Y) := Lib.hid (S2.IL.put Y_k1.out hP HOB.out); clear hM hP T_k1 K_k1 B_k1 Y_k1 U_k1)
     by_cases hlen : k < os.length
     rotate_left
     · have e2 : decide ((k : Int) < (os.length : Int)) = false := decide_eq_false (by omega)
       have e2' : decide (k < os.length) = false := decide_eq_false hlen
       clear hlen
       obtain ⟨r1, hr1⟩ : ∃ r1, r1 = World.drew m1 := ⟨_, rfl⟩
       have hbD : Below m1.heap.size m1 r1 := by rw [hr1]; exact (Below.refl _ _).drew
       have T_r1 : Hid (BK 24 r1 (w.heap.size) [.slice A2 Y.length c2]) := Lib.hid (T_m1.out.step hbD)
       have K_r1 : Hid (BK 33 r1 (w.heap.size + 1) (pkC p a)) := Lib.hid (K_m1.out.step hbD)
       have B_r1 : Hid (Below w.heap.size w r1) := Lib.hid (stepB B_m1.out hbD)
       have Y_r1 : Hid (S2.IL r1 r1.heap.size A2 Y) := Lib.hid (CL.step Y_m1.out hbD)
       clear T_m1 K_m1 B_m1 Y_m1
       have hbd : (fun w' => BK 33 w' (w.heap.size + 1) (pkC p a)) (World.drew m1) := by rw [← hr1]; exact K_r1.out
       have hSD : (fun w' => BK 33 w' (w.heap.size + 1) (pkC p a)) r1 := K_r1.out
       have HWD := Lib.hid hr1
       clear hr1 hbD
       refine wp_region_held_drew (S := fun w' => BK 33 w' (w.heap.size + 1) (pkC p a)) (by kernel_rfl) hbd (fun hHeld => ?_)
       rw [← HWD.out]
       clear hHeld
       have hHeld := hSD
       clear hSD hbd HWD
       refine tkA (i := 0) (v := .int .i64 (k : Int)) (y := Or.inl ⟨by rfl, fun wS hSw => by (try dsimp only at hSw); go_simp⟩) (s := hHeld) (h := ?_)
       refine tkA (i := 1) (v := .slice Ao os.length co) (y := Or.inl ⟨by rfl, fun wS hSw => by (try dsimp only at hSw); go_simp⟩) (s := hHeld) (h := ?_)
       refine tkA (i := 2) (v := .int .i64 (os.length : Int)) (y := Or.inl ⟨by rfl, fun wS hSw => by (try dsimp only at hSw); go_simp⟩) (s := hHeld) (h := ?_)
       refine tkA (i := 3) (v := .bool false) (y := Or.inl ⟨by rfl, fun wS hSw => by (try dsimp only at hSw); go_simp⟩) (s := hHeld) (h := ?_)
       refine tkA (i := 4) (v := .bool false) (y := Or.inl ⟨by rfl, fun wS hSw => by (try dsimp only at hSw); go_simp⟩) (s := hHeld) (h := ?_)
       refine tkA (i := 5) (v := undef) (y := Or.inr ⟨by rfl, rfl⟩) (s := hHeld) (h := ?_)
       refine tkA (i := 6) (v := undef) (y := Or.inr ⟨by rfl, rfl⟩) (s := hHeld) (h := ?_)
       refine tkA (i := 7) (v := .bool false) (y := Or.inl ⟨by rfl, fun wS hSw => by (try dsimp only at hSw); go_simp⟩) (s := hHeld) (h := ?_)
       refine tkA (i := 8) (v := .bool false) (y := Or.inl ⟨by rfl, fun wS hSw => by (try dsimp only at hSw); go_simp⟩) (s := hHeld) (h := ?_)
       refine tkA (i := 9) (v := undef) (y := Or.inr ⟨by rfl, rfl⟩) (s := hHeld) (h := ?_)
       refine tkA (i := 10) (v := undef) (y := Or.inr ⟨by rfl, rfl⟩) (s := hHeld) (h := ?_)
       refine tkA (i := 11) (v := undef) (y := Or.inr ⟨by rfl, rfl⟩) (s := hHeld) (h := ?_)
       refine tkA (i := 12) (v := undef) (y := Or.inr ⟨by rfl, rfl⟩) (s := hHeld) (h := ?_)
       refine tkA (i := 13) (v := undef) (y := Or.inr ⟨by rfl, rfl⟩) (s := hHeld) (h := ?_)
       refine tkA (i := 14) (v := undef) (y := Or.inr ⟨by rfl, rfl⟩) (s := hHeld) (h := ?_)
       refine tkA (i := 15) (v := undef) (y := Or.inr ⟨by rfl, rfl⟩) (s := hHeld) (h := ?_)
       refine tkA (i := 16) (v := undef) (y := Or.inr ⟨by rfl, rfl⟩) (s := hHeld) (h := ?_)
       refine tkA (i := 17) (v := .bool false) (y := Or.inl ⟨by rfl, fun wS hSw => by (try dsimp only at hSw); go_simp⟩) (s := hHeld) (h := ?_)
       refine wpAnyH_done (by kernel_rfl) ?_ _
       go_wp2_with fail
       go_roundg g
       case measure => omega
       case rel => exact ⟨k + 1, 1, A2, c2, Y, by have := HG.out; omega, by go_num, rfl, .inr ⟨by omega, HMY.out, rfl⟩, ⟨T_r1.out, B_r1.out, Y_r1.out, HC2.out, HVY.out, HOB.out⟩, K_r1.out⟩
     have e2 : decide ((k : Int) < (os.length : Int)) = true := decide_eq_true (by omega)
     have e2' : decide (k < os.length) = true := decide_eq_true hlen
     obtain ⟨z, hz⟩ : ∃ z, os[k]? = some z := ⟨_, List.getElem?_eq_getElem hlen⟩
     obtain ⟨b, o, hA, hbB, hc, hpi⟩ := (HKL.out.step B_m1.out).cells hz
     subst hA
     have HST := Lib.hid (fun w1 h0 h1 h2 => step15_any A2 c2 Y z.1 z.2 w1 h0 h1 HC2.out HVY.out h2 (HBZ.out z (List.mem_of_getElem? hz)))
     have HVZ : Hid (S2.ckI (stepR Y z.1).1 0 = 0) := Lib.hid (step_ok HVY.out)
     have HMZ : Hid (z.1.id ≠ p.id → p.id ∈ (stepR Y z.1).1) := Lib.hid (fun h => step_keep HMY.out h)
     generalize stepR Y z.1 = r at HST HVZ HMZ
     obtain ⟨Z, dz⟩ := r
     dsimp only at HVZ HMZ
     unfold pkV at HST
     have C_m1 : Hid (∀ i v, (gK z)[i]? = some v → m1.cell? ⟨b, o + k * 34 + i, none⟩ = some v) := Lib.hid hc
     have P_m1 : Hid (PIn m1 z.1 z.2) := Lib.hid hpi.pin
     have HBL : Hid (b < m1.heap.size) := Lib.hid hbB
     have G_m1 : Hid (m1.heap.size ≤ m1.heap.size) := Lib.hid (Nat.le_refl _)
     have j1 : (0 : Int) ≤ (k : Int) := by omega
     have j2 : (k : Int) < (os.length : Int) := by omega
     clear hz hc hpi hbB hlen
     by_cases hid : z.1.id = p.id
     · have q16 : (z.1.id != p.id) = false := by simp [hid]
       clear hid HST HVZ HMZ
       obtain ⟨r1, hr1⟩ : ∃ r1, r1 = World.drew m1 := ⟨_, rfl⟩
       have hbD : Below m1.heap.size m1 r1 := by rw [hr1]; exact (Below.refl _ _).drew
       have T_r1 : Hid (BK 24 r1 (w.heap.size) [.slice A2 Y.length c2]) := Lib.hid (T_m1.out.step hbD)
       have K_r1 : Hid (BK 33 r1 (w.heap.size + 1) (pkC p a)) := Lib.hid (K_m1.out.step hbD)
       have B_r1 : Hid (Below w.heap.size w r1) := Lib.hid (stepB B_m1.out hbD)
       have Y_r1 : Hid (S2.IL r1 r1.heap.size A2 Y) := Lib.hid (CL.step Y_m1.out hbD)
       have C_r1 : Hid (∀ i v, (gK z)[i]? = some v → r1.cell? ⟨b, o + k * 34 + i, none⟩ = some v) := Lib.hid (cells_stepK C_m1.out hbD)
       have P_r1 : Hid (PIn r1 z.1 z.2) := Lib.hid (P_m1.out.step hbD)
       have G_r1 : Hid (m1.heap.size ≤ r1.heap.size) := Lib.hid (Nat.le_trans G_m1.out hbD.size)
       clear T_m1 K_m1 B_m1 Y_m1 C_m1 P_m1 G_m1
       have hbd : (fun w' => BK 33 w' (w.heap.size + 1) (pkC p a) ∧ ∀ i v, (gK z)[i]? = some v → w'.cell? ⟨b, o + k * 34 + i, none⟩ = some v) (World.drew m1) := by rw [← hr1]; exact ⟨K_r1.out, C_r1.out⟩
       have hSD : (fun w' => BK 33 w' (w.heap.size + 1) (pkC p a) ∧ ∀ i v, (gK z)[i]? = some v → w'.cell? ⟨b, o + k * 34 + i, none⟩ = some v) r1 := ⟨K_r1.out, C_r1.out⟩
       have HWD := Lib.hid hr1
       clear hr1 hbD
       refine wp_region_held_drew (S := fun w' => BK 33 w' (w.heap.size + 1) (pkC p a) ∧ ∀ i v, (gK z)[i]? = some v → w'.cell? ⟨b, o + k * 34 + i, none⟩ = some v) (by kernel_rfl) hbd (fun hHeld => ?_)
       rw [← HWD.out]
       clear hHeld
       have hHeld := hSD
       clear hSD hbd HWD
       refine tkA (i := 0) (v := .int .i64 (k : Int)) (y := Or.inl ⟨by rfl, fun wS hSw => by (try dsimp only at hSw); go_simp⟩) (s := hHeld) (h := ?_)
       refine tkA (i := 1) (v := .slice (some ⟨b, o, none⟩) os.length co) (y := Or.inl ⟨by rfl, fun wS hSw => by (try dsimp only at hSw); go_simp⟩) (s := hHeld) (h := ?_)
       refine tkA (i := 2) (v := .int .i64 (os.length : Int)) (y := Or.inl ⟨by rfl, fun wS hSw => by (try dsimp only at hSw); go_simp⟩) (s := hHeld) (h := ?_)
       refine tkA (i := 3) (v := .bool true) (y := Or.inl ⟨by rfl, fun wS hSw => by (try dsimp only at hSw); go_simp⟩) (s := hHeld) (h := ?_)
       refine tkA (i := 4) (v := .bool true) (y := Or.inl ⟨by rfl, fun wS hSw => by (try dsimp only at hSw); go_simp⟩) (s := hHeld) (h := ?_)
       refine tkA (i := 5) (v := .int .i64 (k : Int)) (y := Or.inl ⟨by rfl, fun wS hSw => by (try dsimp only at hSw); go_simp⟩) (s := hHeld) (h := ?_)
       refine tkA (i := 6) (v := .bool true) (y := Or.inl ⟨by rfl, fun wS hSw => by (try dsimp only at hSw); go_simp⟩) (s := hHeld) (h := ?_)
       refine tkA (i := 7) (v := .bool true) (y := Or.inl ⟨by rfl, fun wS hSw => by (try dsimp only at hSw); go_simp⟩) (s := hHeld) (h := ?_)
       refine tkA (i := 8) (v := .bool true) (y := Or.inl ⟨by rfl, fun wS hSw => by (try dsimp only at hSw); go_simp⟩) (s := hHeld) (h := ?_)
       refine tkA (i := 9) (v := .slice (some ⟨b, o, none⟩) os.length co) (y := Or.inl ⟨by rfl, fun wS hSw => by (try dsimp only at hSw); go_simp⟩) (s := hHeld) (h := ?_)
       refine tkA (i := 10) (v := .int .i64 (k : Int)) (y := Or.inl ⟨by rfl, fun wS hSw => by (try dsimp only at hSw); go_simp⟩) (s := hHeld) (h := ?_)
       refine tkA (i := 11) (v := .pointer (some ⟨b, o + k * 34, none⟩)) (y := Or.inl ⟨by rfl, fun wS hSw => by (try dsimp only at hSw); go_simp⟩) (s := hHeld) (h := ?_)
       refine tkA (i := 12) (v := .pointer (some ⟨b, o + k * 34 + 1, none⟩)) (y := Or.inl ⟨by rfl, fun wS hSw => by (try dsimp only at hSw); go_simp⟩) (s := hHeld) (h := ?_)
       refine tkA (i := 13) (v := .int .i64 z.1.id) (y := Or.inl ⟨by rfl, fun wS hSw => by (try dsimp only at hSw); have cS : wS.cell? ⟨b, o + k * 34 + 1, none⟩ = some (.int .i64 z.1.id) := hSw.2 1 _ rfl; clear hSw; go_simp⟩) (s := hHeld) (h := ?_)
       refine tkA (i := 14) (v := .pointer (some ⟨w.heap.size + 1, 1, none⟩)) (y := Or.inl ⟨by rfl, fun wS hSw => by (try dsimp only at hSw); go_simp⟩) (s := hHeld) (h := ?_)
       refine tkA (i := 15) (v := .int .i64 p.id) (y := Or.inl ⟨by rfl, fun wS hSw => by (try dsimp only at hSw); have cS : wS.cell? ⟨w.heap.size + 1, 1, none⟩ = some (.int .i64 p.id) := hSw.1.cell 1 (pkc1 p a); clear hSw; go_simp⟩) (s := hHeld) (h := ?_)
       refine tkA (i := 16) (v := .bool false) (y := Or.inl ⟨by rfl, fun wS hSw => by (try dsimp only at hSw); go_simp⟩) (s := hHeld) (h := ?_)
       refine tkA (i := 17) (v := .bool false) (y := Or.inl ⟨by rfl, fun wS hSw => by (try dsimp only at hSw); go_simp⟩) (s := hHeld) (h := ?_)
       refine wpAnyH_done (by kernel_rfl) ?_ _
       go_wp2_with fail
       go_roundg g
       case measure => omega
       case rel => exact ⟨k + 1, 1, A2, c2, Y, by have := HG.out; omega, by go_num, rfl, .inr ⟨by omega, HMY.out, rfl⟩, ⟨T_r1.out, B_r1.out, Y_r1.out, HC2.out, HVY.out, HOB.out⟩, K_r1.out⟩
     · have q16 : (z.1.id != p.id) = true := by simp [hid]
       have HMW := Lib.hid (HMZ.out hid)
       clear hid HMZ
       obtain ⟨r1, hr1⟩ : ∃ r1, r1 = World.drew m1 := ⟨_, rfl⟩
       have hbD : Below m1.heap.size m1 r1 := by rw [hr1]; exact (Below.refl _ _).drew
       have T_r1 : Hid (BK 24 r1 (w.heap.size) [.slice A2 Y.length c2]) := Lib.hid (T_m1.out.step hbD)
       have K_r1 : Hid (BK 33 r1 (w.heap.size + 1) (pkC p a)) := Lib.hid (K_m1.out.step hbD)
       have B_r1 : Hid (Below w.heap.size w r1) := Lib.hid (stepB B_m1.out hbD)
       have Y_r1 : Hid (S2.IL r1 r1.heap.size A2 Y) := Lib.hid (CL.step Y_m1.out hbD)
       have C_r1 : Hid (∀ i v, (gK z)[i]? = some v → r1.cell? ⟨b, o + k * 34 + i, none⟩ = some v) := Lib.hid (cells_stepK C_m1.out hbD)
       have P_r1 : Hid (PIn r1 z.1 z.2) := Lib.hid (P_m1.out.step hbD)
       have G_r1 : Hid (m1.heap.size ≤ r1.heap.size) := Lib.hid (Nat.le_trans G_m1.out hbD.size)
       clear T_m1 K_m1 B_m1 Y_m1 C_m1 P_m1 G_m1
       have hbd : (fun w' => BK 33 w' (w.heap.size + 1) (pkC p a) ∧ ∀ i v, (gK z)[i]? = some v → w'.cell? ⟨b, o + k * 34 + i, none⟩ = some v) (World.drew m1) := by rw [← hr1]; exact ⟨K_r1.out, C_r1.out⟩
       have hSD : (fun w' => BK 33 w' (w.heap.size + 1) (pkC p a) ∧ ∀ i v, (gK z)[i]? = some v → w'.cell? ⟨b, o + k * 34 + i, none⟩ = some v) r1 := ⟨K_r1.out, C_r1.out⟩
       have HWD := Lib.hid hr1
       clear hr1 hbD
       refine wp_region_held_drew (S := fun w' => BK 33 w' (w.heap.size + 1) (pkC p a) ∧ ∀ i v, (gK z)[i]? = some v → w'.cell? ⟨b, o + k * 34 + i, none⟩ = some v) (by kernel_rfl) hbd (fun hHeld => ?_)
       rw [← HWD.out]
       clear hHeld
       have hHeld := hSD
       clear hSD hbd HWD
       refine tkA (i := 0) (v := .int .i64 (k : Int)) (y := Or.inl ⟨by rfl, fun wS hSw => by (try dsimp only at hSw); go_simp⟩) (s := hHeld) (h := ?_)
       refine tkA (i := 1) (v := .slice (some ⟨b, o, none⟩) os.length co) (y := Or.inl ⟨by rfl, fun wS hSw => by (try dsimp only at hSw); go_simp⟩) (s := hHeld) (h := ?_)
       refine tkA (i := 2) (v := .int .i64 (os.length : Int)) (y := Or.inl ⟨by rfl, fun wS hSw => by (try dsimp only at hSw); go_simp⟩) (s := hHeld) (h := ?_)
       refine tkA (i := 3) (v := .bool true) (y := Or.inl ⟨by rfl, fun wS hSw => by (try dsimp only at hSw); go_simp⟩) (s := hHeld) (h := ?_)
       refine tkA (i := 4) (v := .bool true) (y := Or.inl ⟨by rfl, fun wS hSw => by (try dsimp only at hSw); go_simp⟩) (s := hHeld) (h := ?_)
       refine tkA (i := 5) (v := .int .i64 (k : Int)) (y := Or.inl ⟨by rfl, fun wS hSw => by (try dsimp only at hSw); go_simp⟩) (s := hHeld) (h := ?_)
       refine tkA (i := 6) (v := .bool true) (y := Or.inl ⟨by rfl, fun wS hSw => by (try dsimp only at hSw); go_simp⟩) (s := hHeld) (h := ?_)
       refine tkA (i := 7) (v := .bool true) (y := Or.inl ⟨by rfl, fun wS hSw => by (try dsimp only at hSw); go_simp⟩) (s := hHeld) (h := ?_)
       refine tkA (i := 8) (v := .bool true) (y := Or.inl ⟨by rfl, fun wS hSw => by (try dsimp only at hSw); go_simp⟩) (s := hHeld) (h := ?_)
       refine tkA (i := 9) (v := .slice (some ⟨b, o, none⟩) os.length co) (y := Or.inl ⟨by rfl, fun wS hSw => by (try dsimp only at hSw); go_simp⟩) (s := hHeld) (h := ?_)
       refine tkA (i := 10) (v := .int .i64 (k : Int)) (y := Or.inl ⟨by rfl, fun wS hSw => by (try dsimp only at hSw); go_simp⟩) (s := hHeld) (h := ?_)
       refine tkA (i := 11) (v := .pointer (some ⟨b, o + k * 34, none⟩)) (y := Or.inl ⟨by rfl, fun wS hSw => by (try dsimp only at hSw); go_simp⟩) (s := hHeld) (h := ?_)
       refine tkA (i := 12) (v := .pointer (some ⟨b, o + k * 34 + 1, none⟩)) (y := Or.inl ⟨by rfl, fun wS hSw => by (try dsimp only at hSw); go_simp⟩) (s := hHeld) (h := ?_)
       refine tkA (i := 13) (v := .int .i64 z.1.id) (y := Or.inl ⟨by rfl, fun wS hSw => by (try dsimp only at hSw); have cS : wS.cell? ⟨b, o + k * 34 + 1, none⟩ = some (.int .i64 z.1.id) := hSw.2 1 _ rfl; clear hSw; go_simp⟩) (s := hHeld) (h := ?_)
       refine tkA (i := 14) (v := .pointer (some ⟨w.heap.size + 1, 1, none⟩)) (y := Or.inl ⟨by rfl, fun wS hSw => by (try dsimp only at hSw); go_simp⟩) (s := hHeld) (h := ?_)
       refine tkA (i := 15) (v := .int .i64 p.id) (y := Or.inl ⟨by rfl, fun wS hSw => by (try dsimp only at hSw); have cS : wS.cell? ⟨w.heap.size + 1, 1, none⟩ = some (.int .i64 p.id) := hSw.1.cell 1 (pkc1 p a); clear hSw; go_simp⟩) (s := hHeld) (h := ?_)
       refine tkA (i := 16) (v := .bool true) (y := Or.inl ⟨by rfl, fun wS hSw => by (try dsimp only at hSw); go_simp⟩) (s := hHeld) (h := ?_)
       refine tkA (i := 17) (v := .bool true) (y := Or.inl ⟨by rfl, fun wS hSw => by (try dsimp only at hSw); go_simp⟩) (s := hHeld) (h := ?_)
       refine wpAnyH_done (by kernel_rfl) ?_ _
       go_upto_region 17 with fail
       obtain ⟨t2, ht2⟩ : ∃ t2, t2 = World.drew r1 := ⟨_, rfl⟩
       have hbD : Below r1.heap.size r1 t2 := by rw [ht2]; exact (Below.refl _ _).drew
       have T_t2 : Hid (BK 24 t2 (w.heap.size) [.slice A2 Y.length c2]) := Lib.hid (T_r1.out.step hbD)
       have K_t2 : Hid (BK 33 t2 (w.heap.size + 1) (pkC p a)) := Lib.hid (K_r1.out.step hbD)
       have B_t2 : Hid (Below w.heap.size w t2) := Lib.hid (stepB B_r1.out hbD)
       have Y_t2 : Hid (S2.IL t2 t2.heap.size A2 Y) := Lib.hid (CL.step Y_r1.out hbD)
       have C_t2 : Hid (∀ i v, (gK z)[i]? = some v → t2.cell? ⟨b, o + k * 34 + i, none⟩ = some v) := Lib.hid (cells_stepK C_r1.out hbD)
       have P_t2 : Hid (PIn t2 z.1 z.2) := Lib.hid (P_r1.out.step hbD)
       have G_t2 : Hid (m1.heap.size ≤ t2.heap.size) := Lib.hid (Nat.le_trans G_r1.out hbD.size)
       clear T_r1 K_r1 B_r1 Y_r1 C_r1 P_r1 G_r1
       have hbd : (fun w' => BK 24 w' (w.heap.size) [.slice A2 Y.length c2] ∧ ∀ i v, (gK z)[i]? = some v → w'.cell? ⟨b, o + k * 34 + i, none⟩ = some v) (World.drew r1) := by rw [← ht2]; exact ⟨T_t2.out, C_t2.out⟩
       have hSD : (fun w' => BK 24 w' (w.heap.size) [.slice A2 Y.length c2] ∧ ∀ i v, (gK z)[i]? = some v → w'.cell? ⟨b, o + k * 34 + i, none⟩ = some v) t2 := ⟨T_t2.out, C_t2.out⟩
       have HWD := Lib.hid ht2
       clear ht2 hbD
       refine wp_region_held_drew (S := fun w' => BK 24 w' (w.heap.size) [.slice A2 Y.length c2] ∧ ∀ i v, (gK z)[i]? = some v → w'.cell? ⟨b, o + k * 34 + i, none⟩ = some v) (by kernel_rfl) hbd (fun hHeld => ?_)
       rw [← HWD.out]
       clear hHeld
       have hHeld := hSD
       clear hSD hbd HWD
       refine tkA (i := 0) (v := (S2.xv A2 c2 Y)) (y := Or.inl ⟨by rfl, fun wS hSw => by (try dsimp only at hSw); exact exec_load 24 _ rfl ⟨w.heap.size, 0, none⟩ (by go_simp) _ (S2.run_load_all hSw.1 Tryz.underlying24 rfl S2.boxSize)⟩) (s := hHeld) (h := ?_)
       refine tkA (i := 1) (v := .slice (some ⟨b, o, none⟩) os.length co) (y := Or.inl ⟨by rfl, fun wS hSw => by (try dsimp only at hSw); go_simp⟩) (s := hHeld) (h := ?_)
       refine tkA (i := 2) (v := .int .i64 (k : Int)) (y := Or.inl ⟨by rfl, fun wS hSw => by (try dsimp only at hSw); go_simp⟩) (s := hHeld) (h := ?_)
       refine tkA (i := 3) (v := .pointer (some ⟨b, o + k * 34, none⟩)) (y := Or.inl ⟨by rfl, fun wS hSw => by (try dsimp only at hSw); go_simp⟩) (s := hHeld) (h := ?_)
       refine tkA (i := 4) (v := .agg (pkC z.1 z.2).toArray) (y := Or.inl ⟨by rfl, fun wS hSw => by (try dsimp only at hSw); exact exec_load 33 _ rfl ⟨b, o + k * 34, none⟩ (by go_simp) _ (load_pkc hSw.2)⟩) (s := hHeld) (h := ?_)
       refine wpAnyH_ready (rs := [5, 10]) (by kernel_rfl) (by simp) ?_
       refine (AllReadyH.cons (get_ops _ _ _ rfl) (fun K hK => ?_) (AllReadyH.cons (get_ops _ _ _ rfl) (fun K hK => ?_) AllReadyH.nil))
       · go_simp
         refine (HST.out t2 (HOK.out.step B_t2.out) Y_t2.out P_t2.out).mono ?_
         rintro e t3 ⟨A3, c3, rfl, hc3, hl3, hfr3, hb⟩
         have HC3 := Lib.hid hc3
         have HOZ : Hid (S2.Off w.heap.size A3 Z) := Lib.hid (HOB.out.fr hfr3 T_t2.out.lt)
         have T_t3 : Hid (BK 24 t3 (w.heap.size) [.slice A2 Y.length c2]) := Lib.hid (T_t2.out.step hb)
         have K_t3 : Hid (BK 33 t3 (w.heap.size + 1) (pkC p a)) := Lib.hid (K_t2.out.step hb)
         have B_t3 : Hid (Below w.heap.size w t3) := Lib.hid (stepB B_t2.out hb)
         have Y_t3 : Hid (S2.IL t3 t3.heap.size A2 Y) := Lib.hid (CL.step Y_t2.out hb)
         have C_t3 : Hid (∀ i v, (gK z)[i]? = some v → t3.cell? ⟨b, o + k * 34 + i, none⟩ = some v) := Lib.hid (cells_stepK C_t2.out hb)
         have P_t3 : Hid (PIn t3 z.1 z.2) := Lib.hid (P_t2.out.step hb)
         have G_t3 : Hid (m1.heap.size ≤ t3.heap.size) := Lib.hid (Nat.le_trans G_t2.out hb.size)
         clear T_t2 K_t2 B_t2 Y_t2 C_t2 P_t2 G_t2
         have X_t3 : Hid (S2.IL t3 t3.heap.size A3 Z) := Lib.hid hl3
         clear hHeld hb hl3 hfr3 hc3
         go_wp2_with fail
         refine hK.out _ _ ⟨T_t3.out, C_t3.out⟩ (fun hHeld => ?_)
         clear hK K
         try simp only [Act.put, List.setIfInBounds_toArray, List.set_cons_zero, List.set_cons_succ]
         refine tkA (i := 6) (v := .tuple #[S2.xv A3 c3 Z, .bool dz, .bool true]) (y := Or.inl ⟨by rfl, fun wS hSw => by (try dsimp only at hSw); go_simp⟩) (s := hHeld) (h := ?_)
         refine tkA (i := 7) (v := (S2.xv A3 c3 Z)) (y := Or.inl ⟨by rfl, fun wS hSw => by (try dsimp only at hSw); go_simp⟩) (s := hHeld) (h := ?_)
         refine tkA (i := 8) (v := .bool dz) (y := Or.inl ⟨by rfl, fun wS hSw => by (try dsimp only at hSw); go_simp⟩) (s := hHeld) (h := ?_)
         refine tkA (i := 9) (v := .bool true) (y := Or.inl ⟨by rfl, fun wS hSw => by (try dsimp only at hSw); go_simp⟩) (s := hHeld) (h := ?_)
         refine wpAnyH_ready (rs := [10]) (by kernel_rfl) (by simp) ?_
         refine (AllReadyH.cons (get_ops _ _ _ rfl) (fun K hK => ?_) AllReadyH.nil)
         go_simp
         obtain ⟨gv, hgv⟩ : ∃ gv, gv = t3.heap.size := ⟨_, rfl⟩
         obtain ⟨t4, ht4⟩ : ∃ t4, t4 = t3.alloc (.cells ([.slice none 0 0] : List Value).toArray 24) := ⟨_, rfl⟩
         have hb : Below t3.heap.size t3 t4 := by rw [ht4]; exact S2.below_new _ _
         have hN : BK 24 t4 gv [.slice none 0 0] := by rw [ht4, hgv]; exact BK.new _ _ _
         have HGV : Hid (w.heap.size + 1 < gv) := Lib.hid (by rw [hgv]; exact K_t3.out.lt)
         have HBV : Hid (b < gv) := Lib.hid (by rw [hgv]; have := G_t3.out; have := HBL.out; omega)
         have HOV : Hid (S2.Off gv A3 Z) := Lib.hid (S2.Off.lt X_t3.out (by rw [hgv]; exact Nat.le_refl _))
         have T_t4 : Hid (BK 24 t4 (w.heap.size) [.slice A2 Y.length c2]) := Lib.hid (T_t3.out.step hb)
         have K_t4 : Hid (BK 33 t4 (w.heap.size + 1) (pkC p a)) := Lib.hid (K_t3.out.step hb)
         have B_t4 : Hid (Below w.heap.size w t4) := Lib.hid (stepB B_t3.out hb)
         have Y_t4 : Hid (S2.IL t4 t4.heap.size A2 Y) := Lib.hid (CL.step Y_t3.out hb)
         have C_t4 : Hid (∀ i v, (gK z)[i]? = some v → t4.cell? ⟨b, o + k * 34 + i, none⟩ = some v) := Lib.hid (cells_stepK C_t3.out hb)
         have P_t4 : Hid (PIn t4 z.1 z.2) := Lib.hid (P_t3.out.step hb)
         have G_t4 : Hid (m1.heap.size ≤ t4.heap.size) := Lib.hid (Nat.le_trans G_t3.out hb.size)
         have X_t4 : Hid (S2.IL t4 t4.heap.size A3 Z) := Lib.hid (CL.step X_t3.out hb)
         clear T_t3 K_t3 B_t3 Y_t3 C_t3 P_t3 G_t3 X_t3
         have V_t4 := Lib.hid hN
         try rw [← ht4]
         try rw [← hgv]
         clear hHeld hb hN ht4 hgv
         refine hK.out _ _ ⟨T_t4.out, C_t4.out⟩ (fun hHeld => ?_)
         clear hK K
         try simp only [Act.put, List.setIfInBounds_toArray, List.set_cons_zero, List.set_cons_succ]
         refine wpAnyH_ready (rs := [11]) (by kernel_rfl) (by simp) ?_
         refine (AllReadyH.cons (get_ops _ _ _ rfl) (fun K hK => ?_) AllReadyH.nil)
         refine S2.wp_store_all 24 _ _ rfl rfl gv (by go_simp) [.slice A3 Z.length c3] (by first | rfl | go_simp) 24 [.slice none 0 0] V_t4.out S2.boxSize rfl (onesB rfl) ?_
         intro t5 hM hP
         have V_t5 : Hid (BK 24 t5 gv [.slice A3 Z.length c3]) := Lib.hid (hM)
         have T_t5 : Hid (BK 24 t5 (w.heap.size) [.slice A2 Y.length c2]) := Lib.hid (hP.other T_t4.out (by have := HGV.out; omega))
         have K_t5 : Hid (BK 33 t5 (w.heap.size + 1) (pkC p a)) := Lib.hid (hP.other K_t4.out (by have := HGV.out; omega))
         have B_t5 : Hid (Below w.heap.size w t5) := Lib.hid (hP.below B_t4.out (by have := HGV.out; omega))
         have C_t5 : Hid (∀ i v, (gK z)[i]? = some v → t5.cell? ⟨b, o + k * 34 + i, none⟩ = some v) := Lib.hid (fun j v hv => (hP.cell (p := ⟨b, o + k * 34 + j, none⟩) (by have := HBV.out; show b ≠ gv; omega)).trans (C_t4.out j v hv))
         have G_t5 : Hid (m1.heap.size ≤ t5.heap.size) := Lib.hid ((by rw [hP.size]; exact G_t4.out))
         have X_t5 : Hid (S2.IL t5 t5.heap.size A3 Z) := Lib.hid (S2.IL.put X_t4.out hP HOV.out)
         clear T_t4 K_t4 B_t4 Y_t4 C_t4 P_t4 G_t4 X_t4 V_t4
         clear hM hP hHeld
         refine hK.out _ _ ⟨T_t5.out, C_t5.out⟩ (fun hHeld => ?_)
         clear hK K
         try simp only [Act.put, List.setIfInBounds_toArray, List.set_cons_zero, List.set_cons_succ]
         refine tkA (i := 12) (v := .bool dz) (y := Or.inl ⟨by rfl, fun wS hSw => by (try dsimp only at hSw); go_simp⟩) (s := hHeld) (h := ?_)
         refine tkA (i := 13) (v := .bool true) (y := Or.inl ⟨by rfl, fun wS hSw => by (try dsimp only at hSw); go_simp⟩) (s := hHeld) (h := ?_)
         refine wpAnyH_done (by kernel_rfl) ?_ _
         clear C_t5 G_t5
         go_wp2_with first
          | (refine wpList_load_v (by rfl) 24 (.tmp 19) rfl ⟨gv, 0, none⟩ rfl (S2.xv A3 c3 Z) (S2.run_load_all V_t5.out Tryz.underlying24 rfl S2.boxSize) ?_)
          | (refine S2.wpList_store_all (by rfl) 24 (.tmp 4) (.tmp 127) rfl rfl w.heap.size rfl [.slice A3 Z.length c3] rfl 24 [.slice A2 Y.length c2] T_t5.out S2.boxSize rfl (onesB rfl) ?_; intro qf hM hP; have T_qf := Lib.hid hM; have K_qf := Lib.hid (hP.other K_t5.out (by omega)); have B_qf := Lib.hid (hP.below B_t5.out (Nat.le_refl _)); have X_qf := Lib.hid (S2.IL.put X_t5.out hP HOZ.out); clear hM hP)
         go_roundg g
         case measure => omega
         case rel => exact ⟨k + 1, 1, A3, c3, Z, by have := HG.out; omega, by go_num, rfl, .inr ⟨by omega, HMW.out, rfl⟩, ⟨T_qf.out, B_qf.out, X_qf.out, HC3.out, HVZ.out, HOZ.out⟩, K_qf.out⟩
       · go_simp
         obtain ⟨gv, hgv⟩ : ∃ gv, gv = t2.heap.size := ⟨_, rfl⟩
         obtain ⟨t3, ht3⟩ : ∃ t3, t3 = t2.alloc (.cells ([.slice none 0 0] : List Value).toArray 24) := ⟨_, rfl⟩
         have hb : Below t2.heap.size t2 t3 := by rw [ht3]; exact S2.below_new _ _
         have hN : BK 24 t3 gv [.slice none 0 0] := by rw [ht3, hgv]; exact BK.new _ _ _
         have HGV : Hid (w.heap.size + 1 < gv) := Lib.hid (by rw [hgv]; exact K_t2.out.lt)
         have HBV : Hid (b < gv) := Lib.hid (by rw [hgv]; have := G_t2.out; have := HBL.out; omega)
         have HOA : Hid (S2.Off gv A2 Y) := Lib.hid (S2.Off.lt Y_t2.out (by rw [hgv]; exact Nat.le_refl _))
         have T_t3 : Hid (BK 24 t3 (w.heap.size) [.slice A2 Y.length c2]) := Lib.hid (T_t2.out.step hb)
         have K_t3 : Hid (BK 33 t3 (w.heap.size + 1) (pkC p a)) := Lib.hid (K_t2.out.step hb)
         have B_t3 : Hid (Below w.heap.size w t3) := Lib.hid (stepB B_t2.out hb)
         have Y_t3 : Hid (S2.IL t3 t3.heap.size A2 Y) := Lib.hid (CL.step Y_t2.out hb)
         have C_t3 : Hid (∀ i v, (gK z)[i]? = some v → t3.cell? ⟨b, o + k * 34 + i, none⟩ = some v) := Lib.hid (cells_stepK C_t2.out hb)
         have P_t3 : Hid (PIn t3 z.1 z.2) := Lib.hid (P_t2.out.step hb)
         have G_t3 : Hid (m1.heap.size ≤ t3.heap.size) := Lib.hid (Nat.le_trans G_t2.out hb.size)
         clear T_t2 K_t2 B_t2 Y_t2 C_t2 P_t2 G_t2
         have V_t3 := Lib.hid hN
         try rw [← ht3]
         try rw [← hgv]
         clear hHeld hb hN ht3 hgv
         refine hK.out _ _ ⟨T_t3.out, C_t3.out⟩ (fun hHeld => ?_)
         clear hK K
         try simp only [Act.put, List.setIfInBounds_toArray, List.set_cons_zero, List.set_cons_succ]
         refine wpAnyH_ready (rs := [5]) (by kernel_rfl) (by simp) ?_
         refine (AllReadyH.cons (get_ops _ _ _ rfl) (fun K hK => ?_) AllReadyH.nil)
         go_simp
         refine (HST.out t3 (HOK.out.step B_t3.out) Y_t3.out P_t3.out).mono ?_
         rintro e t4 ⟨A3, c3, rfl, hc3, hl3, hfr3, hb⟩
         have HC3 := Lib.hid hc3
         have HOZ : Hid (S2.Off w.heap.size A3 Z) := Lib.hid (HOB.out.fr hfr3 T_t3.out.lt)
         have HOV : Hid (S2.Off gv A3 Z) := Lib.hid (HOA.out.fr hfr3 V_t3.out.lt)
         have T_t4 : Hid (BK 24 t4 (w.heap.size) [.slice A2 Y.length c2]) := Lib.hid (T_t3.out.step hb)
         have K_t4 : Hid (BK 33 t4 (w.heap.size + 1) (pkC p a)) := Lib.hid (K_t3.out.step hb)
         have B_t4 : Hid (Below w.heap.size w t4) := Lib.hid (stepB B_t3.out hb)
         have Y_t4 : Hid (S2.IL t4 t4.heap.size A2 Y) := Lib.hid (CL.step Y_t3.out hb)
         have C_t4 : Hid (∀ i v, (gK z)[i]? = some v → t4.cell? ⟨b, o + k * 34 + i, none⟩ = some v) := Lib.hid (cells_stepK C_t3.out hb)
         have P_t4 : Hid (PIn t4 z.1 z.2) := Lib.hid (P_t3.out.step hb)
         have G_t4 : Hid (m1.heap.size ≤ t4.heap.size) := Lib.hid (Nat.le_trans G_t3.out hb.size)
         have V_t4 : Hid (BK 24 t4 gv [.slice none 0 0]) := Lib.hid (V_t3.out.step hb)
         clear T_t3 K_t3 B_t3 Y_t3 C_t3 P_t3 G_t3 V_t3
         have X_t4 : Hid (S2.IL t4 t4.heap.size A3 Z) := Lib.hid hl3
         clear hHeld hb hl3 hfr3 hc3
         go_wp2_with fail
         refine hK.out _ _ ⟨T_t4.out, C_t4.out⟩ (fun hHeld => ?_)
         clear hK K
         try simp only [Act.put, List.setIfInBounds_toArray, List.set_cons_zero, List.set_cons_succ]
         refine tkA (i := 6) (v := .tuple #[S2.xv A3 c3 Z, .bool dz, .bool true]) (y := Or.inl ⟨by rfl, fun wS hSw => by (try dsimp only at hSw); go_simp⟩) (s := hHeld) (h := ?_)
         refine tkA (i := 7) (v := (S2.xv A3 c3 Z)) (y := Or.inl ⟨by rfl, fun wS hSw => by (try dsimp only at hSw); go_simp⟩) (s := hHeld) (h := ?_)
         refine tkA (i := 8) (v := .bool dz) (y := Or.inl ⟨by rfl, fun wS hSw => by (try dsimp only at hSw); go_simp⟩) (s := hHeld) (h := ?_)
         refine tkA (i := 9) (v := .bool true) (y := Or.inl ⟨by rfl, fun wS hSw => by (try dsimp only at hSw); go_simp⟩) (s := hHeld) (h := ?_)
         refine wpAnyH_ready (rs := [11]) (by kernel_rfl) (by simp) ?_
         refine (AllReadyH.cons (get_ops _ _ _ rfl) (fun K hK => ?_) AllReadyH.nil)
         refine S2.wp_store_all 24 _ _ rfl rfl gv (by go_simp) [.slice A3 Z.length c3] (by first | rfl | go_simp) 24 [.slice none 0 0] V_t4.out S2.boxSize rfl (onesB rfl) ?_
         intro t5 hM hP
         have V_t5 : Hid (BK 24 t5 gv [.slice A3 Z.length c3]) := Lib.hid (hM)
         have T_t5 : Hid (BK 24 t5 (w.heap.size) [.slice A2 Y.length c2]) := Lib.hid (hP.other T_t4.out (by have := HGV.out; omega))
         have K_t5 : Hid (BK 33 t5 (w.heap.size + 1) (pkC p a)) := Lib.hid (hP.other K_t4.out (by have := HGV.out; omega))
         have B_t5 : Hid (Below w.heap.size w t5) := Lib.hid (hP.below B_t4.out (by have := HGV.out; omega))
         have C_t5 : Hid (∀ i v, (gK z)[i]? = some v → t5.cell? ⟨b, o + k * 34 + i, none⟩ = some v) := Lib.hid (fun j v hv => (hP.cell (p := ⟨b, o + k * 34 + j, none⟩) (by have := HBV.out; show b ≠ gv; omega)).trans (C_t4.out j v hv))
         have G_t5 : Hid (m1.heap.size ≤ t5.heap.size) := Lib.hid ((by rw [hP.size]; exact G_t4.out))
         have X_t5 : Hid (S2.IL t5 t5.heap.size A3 Z) := Lib.hid (S2.IL.put X_t4.out hP HOV.out)
         clear T_t4 K_t4 B_t4 Y_t4 C_t4 P_t4 G_t4 V_t4 X_t4
         clear hM hP hHeld
         refine hK.out _ _ ⟨T_t5.out, C_t5.out⟩ (fun hHeld => ?_)
         clear hK K
         try simp only [Act.put, List.setIfInBounds_toArray, List.set_cons_zero, List.set_cons_succ]
         refine tkA (i := 12) (v := .bool dz) (y := Or.inl ⟨by rfl, fun wS hSw => by (try dsimp only at hSw); go_simp⟩) (s := hHeld) (h := ?_)
         refine tkA (i := 13) (v := .bool true) (y := Or.inl ⟨by rfl, fun wS hSw => by (try dsimp only at hSw); go_simp⟩) (s := hHeld) (h := ?_)
         refine wpAnyH_done (by kernel_rfl) ?_ _
         clear C_t5 G_t5
         go_wp2_with first
          | (refine wpList_load_v (by rfl) 24 (.tmp 19) rfl ⟨gv, 0, none⟩ rfl (S2.xv A3 c3 Z) (S2.run_load_all V_t5.out Tryz.underlying24 rfl S2.boxSize) ?_)
          | (refine S2.wpList_store_all (by rfl) 24 (.tmp 4) (.tmp 127) rfl rfl w.heap.size rfl [.slice A3 Z.length c3] rfl 24 [.slice A2 Y.length c2] T_t5.out S2.boxSize rfl (onesB rfl) ?_; intro qf hM hP; have T_qf := Lib.hid hM; have K_qf := Lib.hid (hP.other K_t5.out (by omega)); have B_qf := Lib.hid (hP.below B_t5.out (Nat.le_refl _)); have X_qf := Lib.hid (S2.IL.put X_t5.out hP HOZ.out); clear hM hP)
         go_roundg g
         case measure => omega
         case rel => exact ⟨k + 1, 1, A3, c3, Z, by have := HG.out; omega, by go_num, rfl, .inr ⟨by omega, HMW.out, rfl⟩, ⟨T_qf.out, B_qf.out, X_qf.out, HC3.out, HVZ.out, HOZ.out⟩, K_qf.out⟩
end Go.Proofs.YtomlideijhejfaaGreatDoor
namespace Go.Proofs.YtomlideijhejfaaGreatDoor.inboundOnce
open Go.ChangeShapes Go.WideShapes Go.ChangeAt Go.WideMaps Go.WideElems Go.RowKit
open Go.ChangeMaps (open_string shut_string)

theorem own : ownKnob Tryz.prog.godebug = none := by kernel_rfl
theorem okw {W : World} (h : W.ShapedOpen Tryz.prog) : S1.Okw W := Tryz.laysM220.s1_3 W h

set_option maxRecDepth 100000 in
theorem contract (H : Type) (enc : TypeId × Value → H) (W : World) (base : Nat) (args : Array Value) (ds gs : List (DataW H)) (before : List MemPlace)
    (hval : ∀ (j : Nat) t v, Tryz.f5.params[j]? = some t → args[j]? = some v → Value.okWide Tryz.prog W .any base t v)
    (hW : DataW.Whole enc Tryz.prog Tryz.f5.params.toList Rows.inboundOnceSpec.vars false W args.toList ds gs before)
    (hsz : (DataW.weightsEach Tryz.prog (Tryz.f5.params.toList ++ (OpenSpec.ofChange Rows.inboundOnceSpec).bare.plain.varTypes Tryz.prog) (ds ++ gs)).all (· ≤ reachBytes) = true)
    (hsh : W.ShapedOpen Tryz.prog) :
    Calls Tryz.prog 5 args W fun e W' => ∃ v, e = .returned v ∧ Rows.inboundOnceSpec.post enc Tryz.prog Tryz.f5 false true false false W args v W' := by
  have hW' := hW
  obtain ⟨p, q, hA0, hV, rfl, hfz, hnd⟩ := hW
  have hA : DataW.TrodAll enc Tryz.prog W 0 (fun _ => true) true Tryz.f5.params.toList args.toList ds p := hA0
  rw [Tryz.params5] at hA hval
  obtain ⟨v0, vs0, d0, ds0, p0, q0, hargs, rfl, rfl, h0, r0⟩ := trodAll_cons hA
  obtain ⟨v1, vs1, d1, ds1, p1, q1, rfl, rfl, rfl, h1, r1⟩ := trodAll_cons r0
  obtain ⟨v2, vs2, d2, ds2, p2, q2, rfl, rfl, rfl, h2, r2⟩ := trodAll_cons r1
  obtain ⟨v3, vs3, d3, ds3, p3, q3, rfl, rfl, rfl, h3, r3⟩ := trodAll_cons r2
  obtain ⟨rfl, rfl, rfl⟩ := trodAll_nil r3
  obtain rfl : args = #[v0, v1, v2, v3] := by cases args; simp_all
  obtain ⟨rfl, rfl⟩ := trodVars_none hV
  have h0k := h0
  obtain ⟨A0, c0, X0, rfl, sl0, hc0, hX0⟩ := open_inb (hval 0 24 v0 rfl rfl) h0
  have h1k := h1
  obtain ⟨m1, a1, rfl, sl1, bz1⟩ := open_pktw (hval 1 33 v1 rfl rfl) h1
  have wz1 := bz1 (WB.of hsz (j := 1) rfl rfl)
  obtain ⟨a2, n2, c2, rfl⟩ := okWide_slice Tryz.underlying37 (hval 2 37 v2 rfl rfl)
  have h2k := h2
  obtain ⟨fu2, hf2⟩ := h2
  obtain ⟨n3, rfl, rfl, rfl, wn3⟩ := open_int Tryz.underlying5 (hval 3 5 v3 rfl rfl) h3
  have bn3 : 0 ≤ n3 ∧ n3 ≤ 255 := by
    have k1 : IntKind.u8.min = 0 := rfl
    have k2 : IntKind.u8.max = 255 := rfl
    have := wn3
    simp only [Lit.wf, Bool.and_eq_true, decide_eq_true_eq] at this
    omega
  obtain ⟨y3, hy3⟩ : ∃ y : Nat, n3 = (y : Int) := ⟨n3.toNat, by omega⟩
  subst hy3
  have hb3 : y3 ≤ 255 := by omega
  clear hA0
  simp only [List.append_nil] at hW'
  have hrb := reachBytes_lt
  have hlt : ∀ x ∈ p0 ++ p1 ++ p2, x.block < W.heap.size := fun x hx => by simpa using hW'.lt x (by simpa using hx)
  obtain ⟨X2, rfl, sl2, hc2, wz2⟩ := open_pktsw hf2
  have wl2 := wz2 (WB.of hsz (j := 2) rfl rfl)
  refine (inboundOnce_walk A0 c0 X0 m1 a1 a2 c2 X2 y3 W (okw hsh) sl0 hc0 hX0 sl1 wz1 sl2 wl2.1 wl2.2 hb3).mono fun e W' ⟨he, hb⟩ => ?_
  subst he
  have e1 : Rows.inboundOnceSpec.fn H ([d0, d1, d2, .lit (.int .u8 (y3 : Int))] ++ []) = { results := [.lit (.bool true)], args := [d0, d1, d2, .lit (.int .u8 (y3 : Int))] } := rfl
  refine ⟨_, rfl, _, _, _, [], p0 ++ p1 ++ p2, [], by simpa using hW', ?_, ?_, ?_, hb.frame _, fun h => by cases h⟩
  · exact trodAll_cons_mk (shut_bool Tryz.underlying4 _) trodAll_mk0
  · rw [e1]
    simpa using trodAll_cons_mk (Below.trod laidOutAll (by kernel_rfl) (of_decide_eq_true (by kernel_rfl)) h0k hb (fun x hx => hlt x (by simp [hx]))) (trodAll_cons_mk (Below.trod laidOutAll (by kernel_rfl) (of_decide_eq_true (by kernel_rfl)) h1k hb (fun x hx => hlt x (by simp [hx]))) (trodAll_cons_mk (Below.trod laidOutAll (by kernel_rfl) (of_decide_eq_true (by kernel_rfl)) h2k hb (fun x hx => hlt x (by simp [hx]))) (trodAll_cons_mk (shut_int Tryz.underlying5 wn3) (trodAll_mk0))))
  · rfl

theorem laid_met (os : Os) : laidMet Tryz.prog Rows.inboundOnceRow.laid ((World.laidAll Tryz.prog os Rows.inboundOnceRow.laid).forCall (fun _ _ => 0) ⟨#[], #[.agg #[.slice none 0 0], (pkV Pkt.zero PA.zero), .slice none 0 0, .int .u8 0], []⟩).memory :=
  laidMet_laidAll _ (by kernel_rfl) (by kernel_rfl)
theorem reads (os : Os) {H : Type} (enc : TypeId × Value → H) : ∃ places, DataW.whole enc Tryz.prog ((World.laidAll Tryz.prog os Rows.inboundOnceRow.laid).forCall (fun _ _ => 0) ⟨#[], #[.agg #[.slice none 0 0], (pkV Pkt.zero PA.zero), .slice none 0 0, .int .u8 0], []⟩).memory Tryz.f5.params.toList Rows.inboundOnceSpec.vars false #[Value.agg #[.slice none 0 0], (pkV Pkt.zero PA.zero), Value.slice none 0 0, Value.int .u8 0].toList 8 = some ([.agg [.nil], .agg [.lit (.int .i64 0), .lit (.int .i64 0), .lit (.bool false), .agg [.lit (.string []), .lit (.string []), .lit (.int .i64 0), .lit (.bool false), .lit (.int .i64 0), .lit (.int .i64 0), .lit (.string []), .lit (.int .i64 0), .nil], .lit (.string []), .lit (.string []), .lit (.bool false), .lit (.int .i64 0), .lit (.int .i64 0), .lit (.int .i64 0), .agg [.lit (.bool false), .lit (.int .i64 0), .agg [.lit (.string []), .lit (.string []), .lit (.int .i64 0), .lit (.bool false), .lit (.int .i64 0), .lit (.int .i64 0), .lit (.string []), .lit (.int .i64 0), .nil]], .lit (.bool false), .lit (.int .i64 0), .nil, .nil, .nil], .nil, .lit (.int .u8 0)], [], places) :=
  ⟨[], by kernel_rfl⟩

set_option maxRecDepth 100000 in
theorem lifted (os : Os) (started : os.Started) (H : Type) (enc : TypeId × Value → H) (F : Stop.Interp) :
    ReturnsInHanded {} Tryz.checked os 5 .any ((OpenSpec.ofChange Rows.inboundOnceSpec).preRow enc Tryz.prog Tryz.f5 Rows.inboundOnceRow.domain false Rows.inboundOnceRow.laid) (((OpenSpec.ofChange Rows.inboundOnceSpec).at F).post enc Tryz.prog Tryz.f5 false true false false) := by
  obtain ⟨places, hx⟩ := reads os enc
  refine returnsInHanded_of_row (C := Tryz.checked) (s := (OpenSpec.ofChange Rows.inboundOnceSpec)) own started (by kernel_rfl) Tryz.func5
    (witness_row_at (enc := enc) (C := Tryz.checked) false (World.laidAll Tryz.prog os Rows.inboundOnceRow.laid) #[.agg #[.slice none 0 0], (pkV Pkt.zero PA.zero), .slice none 0 0, .int .u8 0] (World.laidAll_os _ _ _) (by kernel_rfl) (by kernel_rfl) (by kernel_rfl)
      (OpenSpec.preRow_of_cond 8 hx (by kernel_rfl) (fun k hk => by cases hk) (by kernel_rfl) (laid_met os))) ?_
  intro W base args ds gs before hval hW _ _ hsz _ hsh _
  exact contract H enc W base args ds gs before hval hW hsz hsh

theorem said : Rows.InboundOnceSaid :=
  OpenClaim.holds_of_cond 5 Tryz.f5 rfl rfl rfl rfl rfl rfl rfl ⟨rfl, rfl, rfl, rfl, rfl⟩ rfl rfl rfl rfl rfl (by kernel_rfl) Tryz.func5 (by kernel_rfl)
    (of_decide_eq_true (by kernel_rfl)) (by unfold Func.isWrapper; first | (rw [if_pos (by decide +kernel)]; kernel_rfl) | (rw [if_neg (by decide +kernel)]; exact ⟨rfl, rfl⟩))
    (fun os started H enc _ F => by rw [OpenClaim.pre_eq_preRow]; exact lifted os started H enc F)

theorem plain (f : FuncId) (fn : Func) (hf : Tryz.pinned.checked.prog.funcNamed "broker/brokerlaw15.InboundOnce" = some f) (hfn : Tryz.pinned.checked.prog.funcs[f]? = some fn) :
    false = Tryz.pinned.checked.prog.looks [] ∧ ∀ (j : Nat) t, fn.params[j]? = some t → Tryz.pinned.checked.prog.wantsStandIn t = false := by
  obtain rfl : f = 5 := Option.some.inj ((show Tryz.prog.funcNamed "broker/brokerlaw15.InboundOnce" = some 5 by kernel_rfl).symm.trans hf) |>.symm
  obtain rfl : fn = Tryz.f5 := (Option.some.inj (Tryz.func5.symm.trans hfn)).symm
  refine ⟨by kernel_rfl, fun j t ht => ?_⟩
  rw [Tryz.params5] at ht
  have hm : t ∈ [24, 33, 37, 5] := by simpa using Array.mem_of_getElem? ht
  simp only [List.mem_cons, List.not_mem_nil, or_false] at hm
  rcases hm with rfl | rfl | rfl | rfl
  · exact (show Tryz.prog.wantsStandIn 24 = false by kernel_rfl)
  · exact (show Tryz.prog.wantsStandIn 33 = false by kernel_rfl)
  · exact (show Tryz.prog.wantsStandIn 37 = false by kernel_rfl)
  · exact (show Tryz.prog.wantsStandIn 5 = false by kernel_rfl)

theorem card : Rows.InboundOnceCardSaid :=
  Claim7.holds_tied_plain_at .later [] _ _ _ _ said (fun _ h => by cases h) (by kernel_rfl) (fun _ h => by cases h) inboundOnce_row_tie rfl ⟨rfl, rfl⟩ (by kernel_rfl) rfl plain (by kernel_rfl)
end Go.Proofs.YtomlideijhejfaaGreatDoor.inboundOnce
