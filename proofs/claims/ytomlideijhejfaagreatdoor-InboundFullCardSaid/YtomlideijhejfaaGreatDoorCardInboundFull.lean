/-
  The walk of InboundRuns: it answers true. Conditions: the packets read as data; their lists and texts fit a machine; the library's bound on short texts holds a number.
  A message that came in by value, opened with the sizes of its lists and texts. Conditions: it reads as data; the weights of what was read are bounded.
  The walk of InboundFull: it answers true. Conditions: the message reads as data; its lists and texts fit a machine; the library's bound on short texts holds a number.
  PROVED: InboundFull answers true for every text (each of its 3 arguments).
  Conditions: those that the row prints (the tables of package unicode/utf8 read as the program's text lays them; each argument has at most 2^47 bytes). The tie of the tables is given, over a pruned copy of the project.
-/
import Derived.Test.YtomlideijhejfaaGreatDoorNi
import Derived.Test.YtomlideijhejfaaGreatDoorOpenPw
import Derived.Test.YtomlideijhejfaaGreatDoorCards
import Derived.Test.YtomlideijhejfaaGreatDoorTie
import Derived.ProofKit
import Derived.OpenShut
import Derived.Deep.DeepHandedRow
import Derived.Lib.LaidTab
import Derived.Lay
import Derived.LaidOnce
import Derived.SizedLaws
import Derived.Carry
import Derived.SevenTiedAt
namespace Go.Proofs.YtomlideijhejfaaGreatDoor
open Go.RowKit
open S2 (BK Put)

theorem id_of {p : Pkt} (hk : p.kind = 3) (hc : checkP p = 0) (hl : p.msg.level = 2) : 1 ≤ p.id ∧ p.id ≤ 65535 := by
 unfold checkP at hc
 rw [if_neg (by omega)] at hc
 split at hc
 · omega
 · unfold bodyR at hc
   rw [if_neg (by omega), if_neg (by omega), if_pos hk] at hc
   unfold pubR at hc
   split at hc
   · omega
   · rw [if_pos (by omega)] at hc
     unfold idR at hc
     split at hc
     · omega
     · omega
theorem del_ok {X : List Int} {n : Int} (hv : S2.ckI X 0 = 0) : S2.ckI (S2.delI X n) 0 = 0 := by
 have h := S2.ck_ok.1 hv
 exact S2.ck_ok.2 ⟨Nat.le_trans (S2.del_len X n) h.1, S2.del_up h.2.1, h.2.2⟩
theorem acc_ok {X : List Int} {p : Pkt} (hv : S2.ckI X 0 = 0) : S2.ckI (naccR X p).1 0 = 0 := by
 have h := S2.ck_ok.1 hv
 have h0 : S2.ckI [] 0 = 0 := by decide
 unfold naccR
 by_cases h1 : p.kind ≠ 3
 · rw [if_pos h1]; exact h0
 rw [if_neg h1]
 by_cases h2 : checkP p ≠ 0
 · rw [if_pos h2]; exact h0
 rw [if_neg h2]
 by_cases h3 : p.msg.level ≠ 2
 · rw [if_pos h3]; exact hv
 rw [if_neg h3]
 by_cases h4 : p.id ∉ X ∧ 32 ≤ X.length
 · rw [if_pos h4]; exact h0
 rw [if_neg h4]
 dsimp only
 unfold S2.withI
 by_cases h5 : p.id ∈ X
 · rw [if_pos h5]; exact hv
 rw [if_neg h5]
 have hid := id_of (by simpa using h1) (by simpa using h2) (by simpa using h3)
 refine S2.ck_ok.2 ⟨?_, S2.ins_up h.2.1 (by omega) hid.2 h5, h.2.2⟩
 rw [S2.ins_len]
 have : ¬ 32 ≤ X.length := fun h6 => h4 ⟨h5, h6⟩
 omega
theorem step_ok {X : List Int} {p : Pkt} (hv : S2.ckI X 0 = 0) : S2.ckI (stepR X p).1 0 = 0 := by
 unfold stepR
 by_cases hk : p.kind = 6
 · rw [if_pos hk]
   by_cases h1 : (nrelR X p.kind p.id).2.2 ≠ 0
   · rw [if_pos h1]; exact hv
   · rw [if_neg h1]
     unfold nrelR at h1 ⊢
     rw [if_neg (by simpa using hk)] at h1 ⊢
     by_cases h2 : p.id < 1 ∨ 65535 < p.id
     · rw [if_pos h2] at h1; simp at h1
     · rw [if_neg h2]; exact del_ok hv
 · rw [if_neg hk]
   by_cases h1 : (naccR X p).2.2.2 ≠ 0
   · rw [if_pos h1]; exact hv
   · rw [if_neg h1]; exact acc_ok hv
theorem KL.cells {w : World} {B : Nat} {A : Option Addr} {xs : List (Pkt × PA)} (h : KL w B A xs) {j : Nat} {x : Pkt × PA} (hx : xs[j]? = some x) :
 ∃ b o, A = some ⟨b, o, none⟩ ∧ b < B ∧ (∀ i v, (gK x)[i]? = some v → w.cell? ⟨b, o + j * 34 + i, none⟩ = some v) ∧ PInB w B x.1 x.2 := by
 obtain ⟨b, o, e, hb, hc⟩ := h.1 (Nat.lt_of_le_of_lt (Nat.zero_le _) (List.getElem?_eq_some_iff.1 hx).1)
 exact ⟨b, o, e, hb, fun i v hv => hc j x i v hx hv, h.2 x (List.mem_of_getElem? hx)⟩
theorem load_pkc {w : World} {b o : Nat} {x : Pkt × PA} (hc : ∀ i v, (gK x)[i]? = some v → w.cell? ⟨b, o + i, none⟩ = some v) : (loadVar 33 ⟨b, o, none⟩).run Tryz.prog w = .ok (.agg (pkC x.1 x.2).toArray) w :=
 run_load_cells w b o (gK x) 33 _ hc Tryz.underlying33 rfl info33
theorem cells_stepK {L : List Value} {w w' : World} {b k : Nat} (h : ∀ j v, L[j]? = some v → w.cell? ⟨b, k + j, none⟩ = some v) (hb : Below w.heap.size w w') : ∀ j v, L[j]? = some v → w'.cell? ⟨b, k + j, none⟩ = some v := fun j v hv => by
 have h1 := h j v hv
 have hl : b < w.heap.size := World.block_lt_of_cell? w ⟨b, k + j, none⟩ h1
 rw [hb.cell hl]; exact h1

/-- what holds between two packets: the inbox in its variable, block g -/
structure InvR (W w : World) (g : Nat) (A : Option Addr) (c : Nat) (X : List Int) : Prop where
 t : BK 24 w g [.slice A X.length c]
 b : Below W.heap.size W w
 l : S2.IL w w.heap.size A X
 c : X.length ≤ c
 v : S2.ckI X 0 = 0
 f : S2.Off g A X
theorem InvR.step {W w w' : World} {g : Nat} {A : Option Addr} {c : Nat} {X : List Int} (h : InvR W w g A c X) (hb : Below w.heap.size w w') : InvR W w' g A c X := ⟨h.t.step hb, stepB h.b hb, CL.step h.l hb, h.c, h.v, h.f⟩

set_option maxRecDepth 20000 in
set_option maxHeartbeats 8000000 in
theorem inboundRuns_walk (A : Option Addr) (c : Nat) (xs : List (Pkt × PA)) (w : World) (hok : S1.Okw w) (hks : KL w w.heap.size A xs) (hn : xs.length ≤ 140737488355328) (hbz : ∀ x ∈ xs, BigZ x.1) :
 Calls Tryz.prog 4 #[.slice A xs.length c] w fun e w' => e = .returned (.bool true) ∧ Below w.heap.size w w' := by
 have HOK := Lib.hid hok
 have HA := Lib.hid (fun w1 h => awake15_any w1 h)
 have HK := Lib.hid hks
 have HZ := Lib.hid hbz
 have HN := Lib.hid hn
 clear hok hks hbz hn
 go_enter Tryz.func4, Tryz.ntmps4
 go_upto_region 2 with fail
 refine name_world (C := fun w1 => Code.wp _ _ _ _ w1) (w.alloc (.cells [.slice none 0 0].toArray 24)) ?_
 intro w1 hw1
 have HI1 : Hid (InvR w w1 w.heap.size none 0 []) := Lib.hid ⟨by rw [hw1]; exact BK.new _ _ _, by rw [hw1]; exact S2.below_new _ _, CL.nil _ _ _, Nat.le_refl _, by decide, fun b o e => by cases e⟩
 clear hw1
 go_wp2_with fail
 go_loopg [4] xs.length (fun g v wr => ∃ (k : Nat) (A1 : Option Addr) (c1 : Nat) (X : List Int), k + g = xs.length ∧ k ≤ 60 ∧ v = .int .i64 k ∧ InvR w wr w.heap.size A1 c1 X)
 case atStart => exact ⟨0, none, 0, [], by omega, by omega, rfl, HI1.out⟩
 case round =>
  clear HI1
  obtain ⟨k, A1, c1, X, hkg, hk60, rfl, hinv⟩ := hrel
  have HG := Lib.hid hkg
  have HI := Lib.hid hinv
  clear hinv
  have EX : Hid (∀ wy, Below wr.heap.size wr wy → Below w.heap.size w wy) := Lib.hid (fun wy h => stepB HI.out.b h)
  cases gk with
  | zero =>
   obtain rfl : k = xs.length := by omega
   have e1 : decide ((xs.length : Int) < (xs.length : Int)) = false := decide_eq_false (by omega)
   clear hkg hk60
   go_wp2_with fail
   refine (HA.out wr (HOK.out.step HI.out.b)).mono ?_
   rintro e w2 ⟨rfl, hb⟩
   have B_w2 := Lib.hid (EX.out w2 hb)
   clear hb
   go_wp2
   go_ret
   exact ⟨rfl, B_w2.out⟩
  | succ g =>
   have hlt : k < xs.length := by omega
   have e1 : decide ((k : Int) < (xs.length : Int)) = true := decide_eq_true (by omega)
   by_cases h60 : k = 60
   · subst h60
     have e2 : decide (((60 : Nat) : Int) < 60) = false := by decide
     have e1' : decide (60 < xs.length) = true := decide_eq_true hlt
     have e1s : decide ((60 : Int) < (xs.length : Int)) = true := decide_eq_true (by omega)
     clear hkg hk60 hlt
     go_wp2_with fail
     refine (HA.out wr (HOK.out.step HI.out.b)).mono ?_
     rintro e w2 ⟨rfl, hb⟩
     have B_w2 := Lib.hid (EX.out w2 hb)
     clear hb
     go_wp2
     go_ret
     exact ⟨rfl, B_w2.out⟩
   have e2 : decide ((k : Int) < 60) = true := decide_eq_true (by omega)
   have e1' : decide (k < xs.length) = true := decide_eq_true hlt
   have HK60 : Hid (k < 60) := Lib.hid (by omega)
   obtain ⟨z, hz⟩ : ∃ z, xs[k]? = some z := ⟨_, List.getElem?_eq_getElem hlt⟩
   obtain ⟨b, o, hA, hbB, hc, hpi⟩ := (HK.out.step HI.out.b).cells hz
   subst hA
   have HST := Lib.hid (fun w1 h0 h1 h2 => step15_any A1 c1 X z.1 z.2 w1 h0 h1 HI.out.c HI.out.v h2 (HZ.out z (List.mem_of_getElem? hz)))
   have HVY : Hid (S2.ckI (stepR X z.1).1 0 = 0) := Lib.hid (step_ok HI.out.v)
   generalize stepR X z.1 = r at HST HVY
   obtain ⟨Y, d⟩ := r
   dsimp only at HVY
   have I_wr : Hid (InvR w wr w.heap.size A1 c1 X) := HI
   have C_wr : Hid (∀ i v, (gK z)[i]? = some v → wr.cell? ⟨b, o + k * 34 + i, none⟩ = some v) := Lib.hid hc
   have P_wr : Hid (PIn wr z.1 z.2) := Lib.hid hpi.pin
   have T_wr : Hid (BK 24 wr w.heap.size [.slice A1 X.length c1]) := Lib.hid HI.out.t
   have HBL : Hid (b < wr.heap.size) := Lib.hid hbB
   have HGB : Hid (w.heap.size < wr.heap.size) := Lib.hid HI.out.t.lt
   have j1 : (0 : Int) ≤ (k : Int) := by omega
   have j2 : (k : Int) < (xs.length : Int) := by omega
   have hk6 : k < 60 := by omega
   clear hz hc hpi hbB hkg hk60 h60 hlt HI EX
   unfold pkV at HST
   go_upto_region 5 with fail
   have B_wr : Hid (Below w.heap.size w wr) := Lib.hid I_wr.out.b
   have G_wr : Hid (wr.heap.size ≤ wr.heap.size) := Lib.hid (Nat.le_refl _)
   obtain ⟨h1, hh1⟩ : ∃ h1, h1 = World.drew wr := ⟨_, rfl⟩
   have hbD : Below wr.heap.size wr h1 := by rw [hh1]; exact (Below.refl _ _).drew
   have I_h1 : Hid (InvR w h1 w.heap.size A1 c1 X) := Lib.hid (InvR.step I_wr.out hbD)
   have T_h1 : Hid (BK 24 h1 w.heap.size [.slice A1 X.length c1]) := Lib.hid (T_wr.out.step hbD)
   have C_h1 : Hid (∀ i v, (gK z)[i]? = some v → h1.cell? ⟨b, o + k * 34 + i, none⟩ = some v) := Lib.hid (cells_stepK C_wr.out hbD)
   have P_h1 : Hid (PIn h1 z.1 z.2) := Lib.hid (P_wr.out.step hbD)
   have B_h1 : Hid (Below w.heap.size w h1) := Lib.hid (stepB B_wr.out hbD)
   have G_h1 : Hid (wr.heap.size ≤ h1.heap.size) := Lib.hid (Nat.le_trans G_wr.out hbD.size)
   clear I_wr T_wr C_wr P_wr B_wr G_wr
   have hbd : (fun w' => BK 24 w' w.heap.size [.slice A1 X.length c1] ∧ ∀ i v, (gK z)[i]? = some v → w'.cell? ⟨b, o + k * 34 + i, none⟩ = some v) (World.drew wr) := by rw [← hh1]; exact ⟨T_h1.out, C_h1.out⟩
   have hSD : (fun w' => BK 24 w' w.heap.size [.slice A1 X.length c1] ∧ ∀ i v, (gK z)[i]? = some v → w'.cell? ⟨b, o + k * 34 + i, none⟩ = some v) h1 := ⟨T_h1.out, C_h1.out⟩
   have HWD := Lib.hid hh1
   clear hh1 hbD
   refine wp_region_held_drew (S := fun w' => BK 24 w' w.heap.size [.slice A1 X.length c1] ∧ ∀ i v, (gK z)[i]? = some v → w'.cell? ⟨b, o + k * 34 + i, none⟩ = some v) (by kernel_rfl) hbd (fun hHeld => ?_)
   rw [← HWD.out]
   clear hHeld
   have hHeld := hSD
   clear hSD hbd HWD
   refine tkA (i := 0) (v := (S2.xv A1 c1 X)) (y := Or.inl ⟨by rfl, fun wS hSw => by (try dsimp only at hSw); exact exec_load 24 _ rfl ⟨w.heap.size, 0, none⟩ (by go_simp) _ (S2.run_load_all hSw.1 Tryz.underlying24 rfl S2.boxSize)⟩) (s := hHeld) (h := ?_)
   refine tkA (i := 1) (v := .slice (some ⟨b, o, none⟩) xs.length c) (y := Or.inl ⟨by rfl, fun wS hSw => by (try dsimp only at hSw); go_simp⟩) (s := hHeld) (h := ?_)
   refine tkA (i := 2) (v := .int .i64 (k : Int)) (y := Or.inl ⟨by rfl, fun wS hSw => by (try dsimp only at hSw); go_simp⟩) (s := hHeld) (h := ?_)
   refine tkA (i := 3) (v := .pointer (some ⟨b, o + k * 34, none⟩)) (y := Or.inl ⟨by rfl, fun wS hSw => by (try dsimp only at hSw); go_simp⟩) (s := hHeld) (h := ?_)
   refine tkA (i := 4) (v := .agg (pkC z.1 z.2).toArray) (y := Or.inl ⟨by rfl, fun wS hSw => by (try dsimp only at hSw); exact exec_load 33 _ rfl ⟨b, o + k * 34, none⟩ (by go_simp) _ (load_pkc hSw.2)⟩) (s := hHeld) (h := ?_)
   refine wpAnyH_ready (rs := [5, 10]) (by kernel_rfl) (by simp) ?_
   refine (AllReadyH.cons (get_ops _ _ _ rfl) (fun K hK => ?_) (AllReadyH.cons (get_ops _ _ _ rfl) (fun K hK => ?_) AllReadyH.nil))
   · go_simp
     refine (HST.out h1 (HOK.out.step B_h1.out) I_h1.out.l P_h1.out).mono ?_
     rintro e h2 ⟨A2, c2, rfl, hc2, hl2, hfr2, hb⟩
     have HC2 := Lib.hid hc2
     have HOB : Hid (S2.Off w.heap.size A2 Y) := Lib.hid (I_h1.out.f.fr hfr2 T_h1.out.lt)
     have I_h2 : Hid (InvR w h2 w.heap.size A1 c1 X) := Lib.hid (InvR.step I_h1.out hb)
     have T_h2 : Hid (BK 24 h2 w.heap.size [.slice A1 X.length c1]) := Lib.hid (T_h1.out.step hb)
     have C_h2 : Hid (∀ i v, (gK z)[i]? = some v → h2.cell? ⟨b, o + k * 34 + i, none⟩ = some v) := Lib.hid (cells_stepK C_h1.out hb)
     have P_h2 : Hid (PIn h2 z.1 z.2) := Lib.hid (P_h1.out.step hb)
     have B_h2 : Hid (Below w.heap.size w h2) := Lib.hid (stepB B_h1.out hb)
     have G_h2 : Hid (wr.heap.size ≤ h2.heap.size) := Lib.hid (Nat.le_trans G_h1.out hb.size)
     clear I_h1 T_h1 C_h1 P_h1 B_h1 G_h1
     have L_h2 : Hid (S2.IL h2 h2.heap.size A2 Y) := Lib.hid hl2
     clear hHeld hb hl2 hfr2 hc2
     go_wp2_with fail
     refine hK.out _ _ ⟨T_h2.out, C_h2.out⟩ (fun hHeld => ?_)
     clear hK K
     try simp only [Act.put, List.setIfInBounds_toArray, List.set_cons_zero, List.set_cons_succ]
     refine tkA (i := 6) (v := .tuple #[S2.xv A2 c2 Y, .bool d, .bool true]) (y := Or.inl ⟨by rfl, fun wS hSw => by (try dsimp only at hSw); go_simp⟩) (s := hHeld) (h := ?_)
     refine tkA (i := 7) (v := (S2.xv A2 c2 Y)) (y := Or.inl ⟨by rfl, fun wS hSw => by (try dsimp only at hSw); go_simp⟩) (s := hHeld) (h := ?_)
     refine tkA (i := 8) (v := .bool d) (y := Or.inl ⟨by rfl, fun wS hSw => by (try dsimp only at hSw); go_simp⟩) (s := hHeld) (h := ?_)
     refine tkA (i := 9) (v := .bool true) (y := Or.inl ⟨by rfl, fun wS hSw => by (try dsimp only at hSw); go_simp⟩) (s := hHeld) (h := ?_)
     refine wpAnyH_ready (rs := [10]) (by kernel_rfl) (by simp) ?_
     refine (AllReadyH.cons (get_ops _ _ _ rfl) (fun K hK => ?_) AllReadyH.nil)
     go_simp
     obtain ⟨gv, hgv⟩ : ∃ gv, gv = h2.heap.size := ⟨_, rfl⟩
     obtain ⟨h3, hh3⟩ : ∃ h3, h3 = h2.alloc (.cells ([.slice none 0 0] : List Value).toArray 24) := ⟨_, rfl⟩
     have hb : Below h2.heap.size h2 h3 := by rw [hh3]; exact S2.below_new _ _
     have hN : BK 24 h3 gv [.slice none 0 0] := by rw [hh3, hgv]; exact BK.new _ _ _
     have HGV : Hid (w.heap.size < gv) := Lib.hid (by rw [hgv]; exact T_h2.out.lt)
     have HBV : Hid (b < gv) := Lib.hid (by rw [hgv]; have := G_h2.out; have := HBL.out; omega)
     have HOV : Hid (S2.Off gv A2 Y) := Lib.hid (S2.Off.lt L_h2.out (by rw [hgv]; exact Nat.le_refl _))
     have I_h3 : Hid (InvR w h3 w.heap.size A1 c1 X) := Lib.hid (InvR.step I_h2.out hb)
     have T_h3 : Hid (BK 24 h3 w.heap.size [.slice A1 X.length c1]) := Lib.hid (T_h2.out.step hb)
     have C_h3 : Hid (∀ i v, (gK z)[i]? = some v → h3.cell? ⟨b, o + k * 34 + i, none⟩ = some v) := Lib.hid (cells_stepK C_h2.out hb)
     have P_h3 : Hid (PIn h3 z.1 z.2) := Lib.hid (P_h2.out.step hb)
     have B_h3 : Hid (Below w.heap.size w h3) := Lib.hid (stepB B_h2.out hb)
     have G_h3 : Hid (wr.heap.size ≤ h3.heap.size) := Lib.hid (Nat.le_trans G_h2.out hb.size)
     have L_h3 : Hid (S2.IL h3 h3.heap.size A2 Y) := Lib.hid (CL.step L_h2.out hb)
     clear I_h2 T_h2 C_h2 P_h2 B_h2 G_h2 L_h2
     have V_h3 := Lib.hid hN
     try rw [← hh3]
     try rw [← hgv]
     clear hHeld hb hN hh3 hgv
     refine hK.out _ _ ⟨T_h3.out, C_h3.out⟩ (fun hHeld => ?_)
     clear hK K
     try simp only [Act.put, List.setIfInBounds_toArray, List.set_cons_zero, List.set_cons_succ]
     refine wpAnyH_ready (rs := [11]) (by kernel_rfl) (by simp) ?_
     refine (AllReadyH.cons (get_ops _ _ _ rfl) (fun K hK => ?_) AllReadyH.nil)
     refine S2.wp_store_all 24 _ _ rfl rfl gv (by go_simp) [.slice A2 Y.length c2] (by first | rfl | go_simp) 24 [.slice none 0 0] V_h3.out S2.boxSize rfl (onesB rfl) ?_
     intro h4 hM hP
     have V_h4 : Hid (BK 24 h4 gv [.slice A2 Y.length c2]) := Lib.hid (hM)
     have T_h4 : Hid (BK 24 h4 w.heap.size [.slice A1 X.length c1]) := Lib.hid (hP.other T_h3.out (by have := HGV.out; omega))
     have C_h4 : Hid (∀ i v, (gK z)[i]? = some v → h4.cell? ⟨b, o + k * 34 + i, none⟩ = some v) := Lib.hid (fun j v hv => (hP.cell (p := ⟨b, o + k * 34 + j, none⟩) (by have := HBV.out; show b ≠ gv; omega)).trans (C_h3.out j v hv))
     have B_h4 : Hid (Below w.heap.size w h4) := Lib.hid (hP.below B_h3.out (by have := HGV.out; omega))
     have G_h4 : Hid (wr.heap.size ≤ h4.heap.size) := Lib.hid ((by rw [hP.size]; exact G_h3.out))
     have L_h4 : Hid (S2.IL h4 h4.heap.size A2 Y) := Lib.hid (S2.IL.put L_h3.out hP HOV.out)
     clear I_h3 T_h3 C_h3 P_h3 B_h3 G_h3 L_h3 V_h3
     clear hM hP hHeld
     refine hK.out _ _ ⟨T_h4.out, C_h4.out⟩ (fun hHeld => ?_)
     clear hK K
     try simp only [Act.put, List.setIfInBounds_toArray, List.set_cons_zero, List.set_cons_succ]
     refine tkA (i := 12) (v := .bool d) (y := Or.inl ⟨by rfl, fun wS hSw => by (try dsimp only at hSw); go_simp⟩) (s := hHeld) (h := ?_)
     refine tkA (i := 13) (v := .bool true) (y := Or.inl ⟨by rfl, fun wS hSw => by (try dsimp only at hSw); go_simp⟩) (s := hHeld) (h := ?_)
     refine wpAnyH_done (by kernel_rfl) ?_ _
     clear C_h4 G_h4
     go_wp2_with first
      | (refine wpList_load_v (by rfl) 24 (.tmp 5) rfl ⟨gv, 0, none⟩ rfl (S2.xv A2 c2 Y) (S2.run_load_all V_h4.out Tryz.underlying24 rfl S2.boxSize) ?_)
     refine (S2.nCheck_any A2 c2 Y h4 L_h4.out (by have := (S2.ck_ok.1 HVY.out).1; omega)).mono ?_
     rintro e q1 ⟨rfl, hb⟩
     have T_q1 : Hid (BK 24 q1 w.heap.size [.slice A1 X.length c1]) := Lib.hid (T_h4.out.step hb)
     have B_q1 : Hid (Below w.heap.size w q1) := Lib.hid (stepB B_h4.out hb)
     have L_q1 : Hid (S2.IL q1 q1.heap.size A2 Y) := Lib.hid (CL.step L_h4.out hb)
     have V_q1 : Hid (BK 24 q1 gv [.slice A2 Y.length c2]) := Lib.hid (V_h4.out.step hb)
     clear T_h4 B_h4 L_h4 V_h4
     clear hb
     rw [HVY.out]
     go_wp2_with first
      | (refine wpList_load_v (by rfl) 24 (.tmp 5) rfl ⟨gv, 0, none⟩ rfl (S2.xv A2 c2 Y) (S2.run_load_all V_q1.out Tryz.underlying24 rfl S2.boxSize) ?_)
      | (refine S2.wpList_store_all (by rfl) 24 (.tmp 3) (.tmp 35) rfl rfl w.heap.size rfl [.slice A2 Y.length c2] rfl 24 [.slice A1 X.length c1] T_q1.out S2.boxSize rfl (onesB rfl) ?_; intro qf hM hP; have T_qf := Lib.hid hM; have B_qf := Lib.hid (hP.below B_q1.out (Nat.le_refl _)); have L_qf := Lib.hid (S2.IL.put L_q1.out hP HOB.out); clear hM hP)
     go_roundg g
     case measure => omega
     case rel => exact ⟨k + 1, A2, c2, Y, by have := HG.out; omega, by have := HK60.out; omega, by go_num, ⟨T_qf.out, B_qf.out, L_qf.out, HC2.out, HVY.out, HOB.out⟩⟩
   · go_simp
     obtain ⟨gv, hgv⟩ : ∃ gv, gv = h1.heap.size := ⟨_, rfl⟩
     obtain ⟨h2, hh2⟩ : ∃ h2, h2 = h1.alloc (.cells ([.slice none 0 0] : List Value).toArray 24) := ⟨_, rfl⟩
     have hb : Below h1.heap.size h1 h2 := by rw [hh2]; exact S2.below_new _ _
     have hN : BK 24 h2 gv [.slice none 0 0] := by rw [hh2, hgv]; exact BK.new _ _ _
     have HGV : Hid (w.heap.size < gv) := Lib.hid (by rw [hgv]; exact T_h1.out.lt)
     have HBV : Hid (b < gv) := Lib.hid (by rw [hgv]; have := G_h1.out; have := HBL.out; omega)
     have HOA : Hid (S2.Off gv A1 X) := Lib.hid (S2.Off.lt I_h1.out.l (by rw [hgv]; exact Nat.le_refl _))
     have I_h2 : Hid (InvR w h2 w.heap.size A1 c1 X) := Lib.hid (InvR.step I_h1.out hb)
     have T_h2 : Hid (BK 24 h2 w.heap.size [.slice A1 X.length c1]) := Lib.hid (T_h1.out.step hb)
     have C_h2 : Hid (∀ i v, (gK z)[i]? = some v → h2.cell? ⟨b, o + k * 34 + i, none⟩ = some v) := Lib.hid (cells_stepK C_h1.out hb)
     have P_h2 : Hid (PIn h2 z.1 z.2) := Lib.hid (P_h1.out.step hb)
     have B_h2 : Hid (Below w.heap.size w h2) := Lib.hid (stepB B_h1.out hb)
     have G_h2 : Hid (wr.heap.size ≤ h2.heap.size) := Lib.hid (Nat.le_trans G_h1.out hb.size)
     clear I_h1 T_h1 C_h1 P_h1 B_h1 G_h1
     have V_h2 := Lib.hid hN
     try rw [← hh2]
     try rw [← hgv]
     clear hHeld hb hN hh2 hgv
     refine hK.out _ _ ⟨T_h2.out, C_h2.out⟩ (fun hHeld => ?_)
     clear hK K
     try simp only [Act.put, List.setIfInBounds_toArray, List.set_cons_zero, List.set_cons_succ]
     refine wpAnyH_ready (rs := [5]) (by kernel_rfl) (by simp) ?_
     refine (AllReadyH.cons (get_ops _ _ _ rfl) (fun K hK => ?_) AllReadyH.nil)
     go_simp
     refine (HST.out h2 (HOK.out.step B_h2.out) I_h2.out.l P_h2.out).mono ?_
     rintro e h3 ⟨A2, c2, rfl, hc2, hl2, hfr2, hb⟩
     have HC2 := Lib.hid hc2
     have HOB : Hid (S2.Off w.heap.size A2 Y) := Lib.hid (I_h2.out.f.fr hfr2 T_h2.out.lt)
     have HOV : Hid (S2.Off gv A2 Y) := Lib.hid (HOA.out.fr hfr2 V_h2.out.lt)
     have I_h3 : Hid (InvR w h3 w.heap.size A1 c1 X) := Lib.hid (InvR.step I_h2.out hb)
     have T_h3 : Hid (BK 24 h3 w.heap.size [.slice A1 X.length c1]) := Lib.hid (T_h2.out.step hb)
     have C_h3 : Hid (∀ i v, (gK z)[i]? = some v → h3.cell? ⟨b, o + k * 34 + i, none⟩ = some v) := Lib.hid (cells_stepK C_h2.out hb)
     have P_h3 : Hid (PIn h3 z.1 z.2) := Lib.hid (P_h2.out.step hb)
     have B_h3 : Hid (Below w.heap.size w h3) := Lib.hid (stepB B_h2.out hb)
     have G_h3 : Hid (wr.heap.size ≤ h3.heap.size) := Lib.hid (Nat.le_trans G_h2.out hb.size)
     have V_h3 : Hid (BK 24 h3 gv [.slice none 0 0]) := Lib.hid (V_h2.out.step hb)
     clear I_h2 T_h2 C_h2 P_h2 B_h2 G_h2 V_h2
     have L_h3 : Hid (S2.IL h3 h3.heap.size A2 Y) := Lib.hid hl2
     clear hHeld hb hl2 hfr2 hc2
     go_wp2_with fail
     refine hK.out _ _ ⟨T_h3.out, C_h3.out⟩ (fun hHeld => ?_)
     clear hK K
     try simp only [Act.put, List.setIfInBounds_toArray, List.set_cons_zero, List.set_cons_succ]
     refine tkA (i := 6) (v := .tuple #[S2.xv A2 c2 Y, .bool d, .bool true]) (y := Or.inl ⟨by rfl, fun wS hSw => by (try dsimp only at hSw); go_simp⟩) (s := hHeld) (h := ?_)
     refine tkA (i := 7) (v := (S2.xv A2 c2 Y)) (y := Or.inl ⟨by rfl, fun wS hSw => by (try dsimp only at hSw); go_simp⟩) (s := hHeld) (h := ?_)
     refine tkA (i := 8) (v := .bool d) (y := Or.inl ⟨by rfl, fun wS hSw => by (try dsimp only at hSw); go_simp⟩) (s := hHeld) (h := ?_)
     refine tkA (i := 9) (v := .bool true) (y := Or.inl ⟨by rfl, fun wS hSw => by (try dsimp only at hSw); go_simp⟩) (s := hHeld) (h := ?_)
     refine wpAnyH_ready (rs := [11]) (by kernel_rfl) (by simp) ?_
     refine (AllReadyH.cons (get_ops _ _ _ rfl) (fun K hK => ?_) AllReadyH.nil)
     refine S2.wp_store_all 24 _ _ rfl rfl gv (by go_simp) [.slice A2 Y.length c2] (by first | rfl | go_simp) 24 [.slice none 0 0] V_h3.out S2.boxSize rfl (onesB rfl) ?_
     intro h4 hM hP
     have V_h4 : Hid (BK 24 h4 gv [.slice A2 Y.length c2]) := Lib.hid (hM)
     have T_h4 : Hid (BK 24 h4 w.heap.size [.slice A1 X.length c1]) := Lib.hid (hP.other T_h3.out (by have := HGV.out; omega))
     have C_h4 : Hid (∀ i v, (gK z)[i]? = some v → h4.cell? ⟨b, o + k * 34 + i, none⟩ = some v) := Lib.hid (fun j v hv => (hP.cell (p := ⟨b, o + k * 34 + j, none⟩) (by have := HBV.out; show b ≠ gv; omega)).trans (C_h3.out j v hv))
     have B_h4 : Hid (Below w.heap.size w h4) := Lib.hid (hP.below B_h3.out (by have := HGV.out; omega))
     have G_h4 : Hid (wr.heap.size ≤ h4.heap.size) := Lib.hid ((by rw [hP.size]; exact G_h3.out))
     have L_h4 : Hid (S2.IL h4 h4.heap.size A2 Y) := Lib.hid (S2.IL.put L_h3.out hP HOV.out)
     clear I_h3 T_h3 C_h3 P_h3 B_h3 G_h3 V_h3 L_h3
     clear hM hP hHeld
     refine hK.out _ _ ⟨T_h4.out, C_h4.out⟩ (fun hHeld => ?_)
     clear hK K
     try simp only [Act.put, List.setIfInBounds_toArray, List.set_cons_zero, List.set_cons_succ]
     refine tkA (i := 12) (v := .bool d) (y := Or.inl ⟨by rfl, fun wS hSw => by (try dsimp only at hSw); go_simp⟩) (s := hHeld) (h := ?_)
     refine tkA (i := 13) (v := .bool true) (y := Or.inl ⟨by rfl, fun wS hSw => by (try dsimp only at hSw); go_simp⟩) (s := hHeld) (h := ?_)
     refine wpAnyH_done (by kernel_rfl) ?_ _
     clear C_h4 G_h4
     go_wp2_with first
      | (refine wpList_load_v (by rfl) 24 (.tmp 5) rfl ⟨gv, 0, none⟩ rfl (S2.xv A2 c2 Y) (S2.run_load_all V_h4.out Tryz.underlying24 rfl S2.boxSize) ?_)
     refine (S2.nCheck_any A2 c2 Y h4 L_h4.out (by have := (S2.ck_ok.1 HVY.out).1; omega)).mono ?_
     rintro e q1 ⟨rfl, hb⟩
     have T_q1 : Hid (BK 24 q1 w.heap.size [.slice A1 X.length c1]) := Lib.hid (T_h4.out.step hb)
     have B_q1 : Hid (Below w.heap.size w q1) := Lib.hid (stepB B_h4.out hb)
     have V_q1 : Hid (BK 24 q1 gv [.slice A2 Y.length c2]) := Lib.hid (V_h4.out.step hb)
     have L_q1 : Hid (S2.IL q1 q1.heap.size A2 Y) := Lib.hid (CL.step L_h4.out hb)
     clear T_h4 B_h4 V_h4 L_h4
     clear hb
     rw [HVY.out]
     go_wp2_with first
      | (refine wpList_load_v (by rfl) 24 (.tmp 5) rfl ⟨gv, 0, none⟩ rfl (S2.xv A2 c2 Y) (S2.run_load_all V_q1.out Tryz.underlying24 rfl S2.boxSize) ?_)
      | (refine S2.wpList_store_all (by rfl) 24 (.tmp 3) (.tmp 35) rfl rfl w.heap.size rfl [.slice A2 Y.length c2] rfl 24 [.slice A1 X.length c1] T_q1.out S2.boxSize rfl (onesB rfl) ?_; intro qf hM hP; have T_qf := Lib.hid hM; have B_qf := Lib.hid (hP.below B_q1.out (Nat.le_refl _)); have L_qf := Lib.hid (S2.IL.put L_q1.out hP HOB.out); clear hM hP)
     go_roundg g
     case measure => omega
     case rel => exact ⟨k + 1, A2, c2, Y, by have := HG.out; omega, by have := HK60.out; omega, by go_num, ⟨T_qf.out, B_qf.out, L_qf.out, HC2.out, HVY.out, HOB.out⟩⟩
end Go.Proofs.YtomlideijhejfaaGreatDoor
namespace Go.Proofs.YtomlideijhejfaaGreatDoor
open Go.Joins Go.ChangeShapes Go.WideShapes Go.ChangeAt Go.WideMaps Go.WideElems Go.RowKit Go.Deep

section
variable {H : Type} {enc : TypeId × Value → H} {W : World}
set_option maxRecDepth 100000 in
theorem open_msgv {r : Reach} {b0 : Nat} {v : Value} {d : DataW H} {p : List MemPlace} (hv : Value.okWide Tryz.prog W r b0 27 v)
    (h : DataW.Trod enc Tryz.prog W 0 (fun _ => true) true 27 v d p) : ∃ (m : Msg) (A : Option Addr) (c : Nat), v = .agg (msgC m A c).toArray ∧ PL W W.heap.size A m.props ∧ MTx m ∧ (WB 27 d → m.props.length ≤ 140737488355328) := by
  obtain ⟨cs, rfl, hsz⟩ := okWide_struct Tryz.underlying27 hv
  obtain ⟨fuel, hf⟩ := h
  obtain ⟨l⟩ := cs
  obtain ⟨m, A, c, rfl, h1, h2, h3⟩ := open_msgcw hf
  exact ⟨m, A, c, rfl, h1, h2, h3⟩
end
end Go.Proofs.YtomlideijhejfaaGreatDoor
namespace Go.Proofs.YtomlideijhejfaaGreatDoor
open Go.RowKit
open S2 (BK Put)

theorem infoMs : (Tryz.prog.info? 27).map (·.size) = some 9 := by kernel_rfl
theorem msgOnes (m : Msg) (A : Option Addr) (c : Nat) : ∀ u ∈ msgC m A c, u.oneCell' = true := onesB rfl
theorem wrapF {a : Int} (h : 0 ≤ a ∧ a ≤ 100000) : wrap64 a = a ∧ IntKind.i64.wrap a = a := ⟨S2.wrap64_id _ (by omega) (by omega), S2.wrap_i64_id _ (by omega) (by omega)⟩
/-- n numbers from F on -/
def idsF (F : Int) (n : Nat) : List Int := (List.range n).map (fun (i : Nat) => F + (i : Int))
theorem ids_succ (F : Int) (n : Nat) : idsF F n ++ [F + (n : Int)] = idsF F (n + 1) := by unfold idsF; rw [List.range_succ, List.map_append]; rfl
theorem ids_len (F : Int) (n : Nat) : (idsF F n).length = n := by simp [idsF]
theorem ids_at (F : Int) {n j : Nat} (h : j < n) : (idsF F n)[j]? = some (F + (j : Int)) := by unfold idsF; rw [List.getElem?_map, List.getElem?_range h]; rfl
theorem ids_mem (F x : Int) (n : Nat) : x ∈ idsF F n ↔ ∃ i : Nat, i < n ∧ x = F + (i : Int) := by
  unfold idsF
  rw [List.mem_map]
  constructor
  · rintro ⟨i, h1, h2⟩; exact ⟨i, List.mem_range.1 h1, h2.symm⟩
  · rintro ⟨i, h1, h2⟩; exact ⟨i, List.mem_range.2 h1, h2.symm⟩
theorem up_app {X : List Int} : ∀ {a x : Int}, S2.upI a X = true → (∀ y ∈ X, y < x) → a < x → x ≤ 65535 → S2.upI a (X ++ [x]) = true := by
  induction X with
  | nil => intro a x _ _ h1 h2; simp [S2.upI, h1, h2]
  | cons z zs ih =>
    intro a x hu hy h1 h2
    simp only [S2.upI, Bool.and_eq_true, decide_eq_true_eq, List.cons_append] at hu ⊢
    exact ⟨hu.1, ih hu.2 (fun y h => hy y (List.mem_cons_of_mem _ h)) (hy z List.mem_cons_self) h2⟩
theorem ids_up {F : Int} (h1 : 1 ≤ F) : ∀ {n : Nat}, F + (n : Int) ≤ 65536 → S2.upI 0 (idsF F n) = true
  | 0, _ => rfl
  | n + 1, h => by
    rw [← ids_succ]
    refine up_app (ids_up h1 (by omega)) (fun y hy => ?_) (by omega) (by omega)
    obtain ⟨i, hi, rfl⟩ := (ids_mem F y n).1 hy
    omega
theorem ids_ok {F : Int} (h1 : 1 ≤ F) (h2 : F ≤ 60000) : S2.ckI (idsF F 32) 0 = 0 := S2.ck_ok.2 ⟨by rw [ids_len]; exact Nat.le_refl _, ids_up h1 (by omega), by decide, by decide⟩
theorem own_setI {w : World} {B b j : Nat} {v : Value} {X : List Int} (h : Own 3 S2.iv w B v X) (hb : b < B) (u : Value) : Own 3 S2.iv (w.setCell ⟨b, j, none⟩ u) B v X := by
  rcases S2.own_row h with ⟨rfl, rfl⟩ | ⟨g, cap, cur, rfl, hbg, hg, hnc, hcm, hcs, ht⟩
  · exact Own.nil _ _
  · exact S2.row_own hbg (hg.other (p := ⟨b, j, none⟩) (by show g ≠ b; omega) u) hnc hcm hcs ht
theorem il_cells {w w' : World} {g b o : Nat} {X : List Int} (h : S2.IL w w.heap.size (some ⟨b, o, none⟩) X) (hc : ∀ p : Addr, p.block ≠ g → w'.cell? p = w.cell? p) (hs : w'.heap.size = w.heap.size) (hb : b ≠ g) : S2.IL w' w'.heap.size (some ⟨b, o, none⟩) X := fun hn => by
  obtain ⟨b9, o9, e9, hb9, hc9⟩ := h hn
  simp only [Option.some.injEq, Addr.mk.injEq, and_true] at e9
  refine ⟨b9, o9, by rw [e9.1, e9.2], by rw [hs]; exact hb9, fun j x hx => (hc _ ?_).trans (hc9 j x hx)⟩
  show b9 ≠ g
  rw [← e9.1]; exact hb
theorem pl_cells {w w' : World} {g : Nat} {A : Option Addr} {X : List PR} (h : PL w w.heap.size A X) (hc : ∀ p : Addr, p.block ≠ g → w'.cell? p = w.cell? p) (hs : w'.heap.size = w.heap.size) (hb : ∀ b9 o9, A = some ⟨b9, o9, none⟩ → 0 < X.length → b9 ≠ g) : PL w' w'.heap.size A X := fun hn => by
  obtain ⟨b9, o9, e9, hb9, hc9⟩ := h hn
  exact ⟨b9, o9, e9, by rw [hs]; exact hb9, fun j x i v hx hv => (hc _ (hb b9 o9 e9 hn)).trans (hc9 j x i v hx hv)⟩
theorem cellJ {w : World} {b o : Nat} {X : List Int} {j : Nat} {x : Int} (h : S2.IL w w.heap.size (some ⟨b, o, none⟩) X) (hx : X[j]? = some x) : w.cell? ⟨b, o + j, none⟩ = some (.int .i64 x) := by
  obtain ⟨b9, o9, e, _, hc⟩ := S2.IL.at_ h hx
  simp only [Option.some.injEq, Addr.mk.injEq, and_true] at e
  rw [e.1, e.2]; exact hc
/-- the packet that is published -/
def fullP (m : Msg) (n : Int) (d : Bool) : Pkt := { Pkt.zero with kind := 3, id := n, dup := d, msg := m }
def fullA (a : Option Addr) (c : Nat) : PA := { PA.zero with m := a, mc := c }
theorem full_used (m : Msg) (n : Int) (d : Bool) : fullP m n d = usedP (fullP m n d) := by simp [fullP, usedP, Pkt.zero]
theorem full_check (m : Msg) (n : Int) (d : Bool) : checkP (fullP m n d) = pubR (fullP m n d) := by
  unfold checkP
  rw [if_neg (by show ¬ ((3 : Int) < 1 ∨ (14 : Int) < 3); omega), if_neg (by rw [Decidable.not_not]; exact full_used m n d)]
  unfold bodyR
  rw [if_neg (by show ¬ ((3 : Int) = 1); omega), if_neg (by show ¬ ((3 : Int) = 2); omega), if_pos (by rfl)]
theorem full_again {m : Msg} {n n2 : Int} {d : Bool} (h : checkP (fullP m n d) = 0) (hl : m.level = 2) (h1 : 1 ≤ n2) (h2 : n2 ≤ 65535) : checkP (fullP m n2 d) = 0 := by
  rw [full_check] at h ⊢
  unfold pubR at h ⊢
  split at h
  · omega
  · next hc =>
    rw [if_neg (show ¬ checkR (fullP m n2 d).msg ≠ 0 from hc), if_pos (show 0 < (fullP m n2 d).msg.level by show 0 < m.level; omega)]
    unfold idR
    rw [if_neg (show ¬ ((fullP m n2 d).id < 1 ∨ 65535 < (fullP m n2 d).id) by show ¬ (n2 < 1 ∨ 65535 < n2); omega)]
theorem full_pin {w : World} {m : Msg} {n : Int} {d : Bool} {a : Option Addr} {c : Nat} (h : PL w w.heap.size a m.props) : PIn w (fullP m n d) (fullA a c) := ⟨h, GL.nil _ _ _, GL.nil _ _ _, CL.nil _ _ _, CL.nil _ _ _⟩
theorem full_big {m : Msg} {n : Int} {d : Bool} (h : MTx m) (hl : m.props.length ≤ 140737488355328) : BigZ (fullP m n d) :=
  ⟨⟨⟨by show m.props.length ≤ _; omega, by show (0 : Nat) ≤ _; omega, by show (0 : Nat) ≤ _; omega, by show (0 : Nat) ≤ _; omega, by show (0 : Nat) ≤ _; omega⟩, ⟨(fun x hx => by cases hx), (fun x hx => by cases hx)⟩⟩, by show (0 : Nat) ≤ _; omega, by show (0 : Nat) ≤ _; omega, h, ⟨by show (0 : Nat) ≤ _; omega, by show (0 : Nat) ≤ _; omega, (fun x hx => by cases hx)⟩⟩

set_option maxRecDepth 20000 in
set_option maxHeartbeats 16000000 in
theorem inboundFull_walk (y : Nat) (m : Msg) (Am : Option Addr) (cm : Nat) (dup : Bool) (w : World) (hok : S1.Okw w) (hy : y ≤ 65535) (hpl : PL w w.heap.size Am m.props) (hmt : MTx m) (hml : m.props.length ≤ 140737488355328) :
    Calls Tryz.prog 6 #[.int .u16 (y : Int), .agg (msgC m Am cm).toArray, .bool dup] w fun e w' => e = .returned (.bool true) ∧ Below w.heap.size w w' := by
  have HOK := Lib.hid hok
  have HA := Lib.hid (fun w1 h => awake15_any w1 h)
  have HPL := Lib.hid hpl
  have HBG : Hid (∀ n d, BigZ (fullP m n d)) := Lib.hid (fun n d => full_big hmt hml)
  obtain ⟨R, hR⟩ : ∃ R : Nat, R = y % 60000 := ⟨_, rfl⟩
  obtain ⟨J, hJ⟩ : ∃ J : Nat, J = y % 32 := ⟨_, rfl⟩
  have HJ : Hid (J < 32) := Lib.hid (by omega)
  obtain ⟨F, hF⟩ : ∃ F : Int, F = 1 + (R : Int) := ⟨_, rfl⟩
  have HF : Hid (1 ≤ F ∧ F ≤ 60000) := Lib.hid (by omega)
  have b1 : (0 : Int) ≤ (y : Int) ∧ (y : Int) ≤ 100000 := by omega
  have b2 : (0 : Int) ≤ 1 + (R : Int) ∧ 1 + (R : Int) ≤ 100000 := by omega
  have cm1 : Int.tmod (y : Int) 60000 = (R : Int) := by rw [Int.tmod_eq_emod_of_nonneg (by omega)]; omega
  have cm2 : Int.tmod (y : Int) 32 = (J : Int) := by rw [Int.tmod_eq_emod_of_nonneg (by omega)]; omega
  have cw : wrap64 (y : Int) = (y : Int) := (wrapF b1).1
  have cw2 : IntKind.i64.wrap (y : Int) = (y : Int) := (wrapF b1).2
  have cf : wrap64 (1 + (R : Int)) = F := (wrapF b2).1.trans hF.symm
  have cf2 : IntKind.i64.wrap (1 + (R : Int)) = F := (wrapF b2).2.trans hF.symm
  clear hok hy hpl hmt hml hR hJ hF b1 b2
  go_enter Tryz.func6, Tryz.ntmps6
  go_upto_region 2 with fail
  refine name_world (C := fun w1 => Code.wp _ _ _ _ w1) ((w.alloc (.cells (msgC m Am cm).toArray 27)).alloc (.cells [.slice none 0 0].toArray 24)) ?_
  intro w1 hw1
  have hsz : w1.heap.size = w.heap.size + 2 := by rw [hw1]; simp
  obtain ⟨hB0, t1, t2⟩ := two hw1
  have M_w1 : Hid (BK 27 w1 w.heap.size (msgC m Am cm)) := Lib.hid t1
  have T_w1 : Hid (BK 24 w1 (w.heap.size + 1) [.slice none 0 0]) := Lib.hid t2
  have B_w1 : Hid (Below w.heap.size w w1) := Lib.hid hB0
  have Z_w1 : Hid (w.heap.size + 2 ≤ w1.heap.size) := Lib.hid (by omega)
  clear hw1 t1 t2 hB0 hsz
  go_wp2_with fail
  go_loopg [8] 32 (fun g v wr => ∃ (k : Nat) (vs : Value), k + g = 32 ∧ v = .int .i64 k ∧ BK 24 wr (w.heap.size + 1) [vs] ∧ BK 27 wr w.heap.size (msgC m Am cm) ∧ Own 3 S2.iv wr (w.heap.size + 2) vs (idsF F k) ∧ Below w.heap.size w wr ∧ w.heap.size + 2 ≤ wr.heap.size)
  case atStart => exact ⟨0, .slice none 0 0, by omega, rfl, T_w1.out, M_w1.out, Own.nil _ _, B_w1.out, Z_w1.out⟩
  case round =>
    clear M_w1 T_w1 B_w1 Z_w1
    obtain ⟨k, vs, hkg, rfl, ht, hmm, hown, hbw, hsz⟩ := hrel
    have HG := Lib.hid hkg
    have T_wr : Hid (BK 24 wr (w.heap.size + 1) [vs]) := Lib.hid ht
    have M_wr : Hid (BK 27 wr w.heap.size (msgC m Am cm)) := Lib.hid hmm
    have B_wr : Hid (Below w.heap.size w wr) := Lib.hid hbw
    have HO := Lib.hid hown
    have HSZ := Lib.hid hsz
    clear ht hmm hown hbw
    cases gk with
    | succ g =>
      have e1 : decide ((k : Int) < 32) = true := decide_eq_true (by omega)
      have e1' : decide (k < 32) = true := decide_eq_true (by omega)
      have hk32 : k < 32 := by omega
      have b3 : 0 ≤ F + (k : Int) ∧ F + (k : Int) ≤ 100000 := by have := HF.out; clear cw cw2 cf cf2 cm1 cm2; omega
      have ck : wrap64 (F + (k : Int)) = F + (k : Int) := (wrapF b3).1
      have ck2 : IntKind.i64.wrap (F + (k : Int)) = F + (k : Int) := (wrapF b3).2
      clear b3
      have d0 := T_wr.out.cell 0 rfl
      have hlk : (idsF F k).length ≤ 1099511627776 := by rw [ids_len]; omega
      have HIS := Lib.hid (ids_succ F k)
      generalize idsF F k = Xk at HO hlk HIS
      obtain ⟨Fk, hFk⟩ : ∃ Fk : Int, Fk = F + (k : Int) := ⟨_, rfl⟩
      rw [← hFk] at ck ck2 HIS
      have ck3 : F + (k : Int) = Fk := hFk.symm
      clear hkg hFk
      go_wp2_with first
        | (at_builtin; refine S2.wpList_appI1 wr rfl _ _ rfl (w.heap.size + 2) vs Xk Fk rfl HO.out rfl wr (Below.refl _ _) hsz hlk ?_; intro v1 w2 hown1 hb1 hB1; obtain ⟨Aq, cq, hvq, _⟩ := hown1.retB; obtain ⟨nq, hnq⟩ : ∃ n, n = (Xk ++ [Fk]).length := ⟨_, rfl⟩; rw [← hnq] at hvq; subst hvq; clear hnq; have T_w2 : Hid (BK 24 w2 (w.heap.size + 1) [vs]) := Lib.hid (T_wr.out.keep (by omega) hb1); have M_w2 : Hid (BK 27 w2 w.heap.size (msgC m Am cm)) := Lib.hid (M_wr.out.keep (by omega) hb1); have B_w2 : Hid (Below w.heap.size w w2) := Lib.hid (B_wr.out.trans (hb1.mono (by omega))); have O_w2 := Lib.hid hown1; have S_w2 := Lib.hid hB1; have d1 := T_w2.out.cell 0 rfl; have f1 := T_w2.out.free 0; clear hown1 hb1 hB1 d0)
      go_roundg g
      case measure => omega
      case rel => exact ⟨k + 1, .slice Aq nq cq, by have := HG.out; omega, by go_num, T_w2.out.set 0 (.slice Aq nq cq), M_w2.out.other (p := ⟨w.heap.size + 1, 0, none⟩) (by show w.heap.size ≠ w.heap.size + 1; omega) _, by rw [← HIS.out]; exact own_setI O_w2.out (by omega) _, B_w2.out.setCell (p := ⟨w.heap.size + 1, 0, none⟩) (by show w.heap.size ≤ w.heap.size + 1; omega) _, by have := S_w2.out; simpa using this⟩
    | zero =>
      obtain rfl : k = 32 := by omega
      have e1 : decide (((32 : Nat) : Int) < 32) = false := by decide
      have hv := ids_ok HF.out.1 HF.out.2
      obtain ⟨A, c, rfl, hc, hsl, _⟩ := HO.out.retB
      have hIL := hsl wr (Nat.le_refl _) (fun _ _ => rfl)
      have h0 : (idsF F 32)[0]? = some F := by rw [ids_at F (by omega)]; simp
      have hj := ids_at F HJ.out
      have hl32 := ids_len F 32
      have hno : F + 32 ∉ idsF F 32 := fun h => by
        obtain ⟨i, hi, e⟩ := (ids_mem F (F + 32) 32).1 h
        omega
      have hyes : F + (J : Int) ∈ idsF F 32 := (ids_mem F _ 32).2 ⟨J, HJ.out, rfl⟩
      obtain ⟨b, o, rfl, hbB, hc0⟩ := S2.IL.at_ hIL h0
      rw [Nat.add_zero] at hc0
      have L_wr : Hid (S2.IL wr wr.heap.size (some ⟨b, o, none⟩) (idsF F 32)) := Lib.hid hIL
      have HV := Lib.hid hv
      have HNO := Lib.hid hno
      have HYES := Lib.hid hyes
      have HL32 := Lib.hid hl32
      have HJX := Lib.hid hj
      have HX0 := Lib.hid h0
      rw [hl32] at T_wr
      obtain ⟨n32, hn32⟩ : ∃ n : Int, n = F + 32 := ⟨_, rfl⟩
      have b4 : 0 ≤ F + 32 ∧ F + 32 ≤ 100000 := by have := HF.out; clear cw cw2 cf cf2 cm1 cm2; omega
      have c32 : wrap64 (F + 32) = n32 := (wrapF b4).1.trans hn32.symm
      have c32b : IntKind.i64.wrap (F + 32) = n32 := (wrapF b4).2.trans hn32.symm
      clear b4
      obtain ⟨nJ, hnJ⟩ : ∃ n : Int, n = F + (J : Int) := ⟨_, rfl⟩
      have HNJ : Hid (1 ≤ nJ ∧ nJ ≤ 65535) := Lib.hid (by have := HF.out; have := HJ.out; omega)
      rw [← hn32] at HNO
      rw [← hnJ] at HYES HJX
      generalize idsF F 32 = X at L_wr HV HNO HYES HL32 HJX HX0
      have P_wr : Hid (PL wr wr.heap.size Am m.props) := Lib.hid (HPL.out.step B_wr.out)
      have HPW := P_wr
      have d0 := T_wr.out.cell 0 rfl
      have dl := M_wr.out.cell 2 rfl
      clear hkg hv hc hsl hIL h0 hj hl32 hno hyes hn32 hnJ HO HPL hsz
      go_upto_region 8 with first
        | (refine wpList_load_v (by rfl) 27 (.tmp 4) rfl ⟨w.heap.size, 0, none⟩ rfl (.agg #[.string m.topic, .string m.payload, .int .i64 m.level, .bool m.retain, .int .i64 m.prio, .int .i64 m.exps, .string m.frm, .int .i64 m.seq, .slice Am m.props.length cm]) (S2.run_load_all M_wr.out Tryz.underlying27 rfl infoMs) ?_)
        | (refine S2.wpList_store_all (by rfl) 33 (.tmp 10) (.tmp 42) rfl rfl (wr.heap.size) rfl (pkC (fullP m n32 dup) (fullA Am cm)) rfl 33 (pkC Pkt.zero PA.zero) (znew wr) info33 rfl (onesB rfl) ?_; intro v1 hM hP; have hb : Below wr.heap.size wr v1 := hP.below (S2.below_new wr _) (Nat.le_refl _); have T_v1 : Hid (BK 24 v1 (w.heap.size + 1) [.slice (some ⟨b, o, none⟩) 32 c]) := Lib.hid (T_wr.out.step hb); have M_v1 : Hid (BK 27 v1 w.heap.size (msgC m Am cm)) := Lib.hid (M_wr.out.step hb); have B_v1 : Hid (Below w.heap.size w v1) := Lib.hid (stepB B_wr.out hb); have L_v1 : Hid (S2.IL v1 v1.heap.size (some ⟨b, o, none⟩) X) := Lib.hid (CL.step L_wr.out hb); have P_v1 : Hid (PL v1 v1.heap.size Am m.props) := Lib.hid (GL.step P_wr.out hb); have Q_v1 : Hid (BK 33 v1 (wr.heap.size) (pkC (fullP m n32 dup) (fullA Am cm))) := Lib.hid hM; clear hM hP hb T_wr M_wr B_wr L_wr P_wr)
      clear d0 dl hc0
      have dl := M_v1.out.cell 2 rfl
      have HGP : Hid (w.heap.size + 1 < wr.heap.size) := Lib.hid (by have := HSZ.out; omega)
      have HBQ0 : Hid (b ≠ wr.heap.size) := Lib.hid (by omega)
      have HPQ0 : Hid (∀ b9 o9, Am = some ⟨b9, o9, none⟩ → 0 < m.props.length → b9 ≠ wr.heap.size) := Lib.hid (fun b9 o9 e9 hn => by obtain ⟨b8, o8, e8, hb8, _⟩ := HPW.out hn; have e3 := e9.symm.trans e8; simp only [Option.some.injEq, Addr.mk.injEq, and_true] at e3; omega)
      clear HPW hbB
      generalize wr.heap.size = gq at HBQ0 HPQ0 HGP HSZ Q_v1 ⊢
      have HBQ : Hid (b ≠ gq) := Lib.hid (HBQ0.out)
      have HPQ : Hid (∀ b9 o9, Am = some ⟨b9, o9, none⟩ → 0 < m.props.length → b9 ≠ gq) := Lib.hid (HPQ0.out)
      by_cases hl0 : m.level = 0
      · have q1 : (m.level == 0) = true := by simp [hl0]
        have g1 := Q_v1.out.cell 1 (pkc1 _ _)
        have g2 : v1.cell? ⟨gq, 2, none⟩ = some (.bool dup) := Q_v1.out.cell 2 rfl
        have f1 := Q_v1.out.free 1
        have f2 := Q_v1.out.free 2
        go_upto_region 10 with fail
        refine name_world (C := fun w9 => Code.wp _ _ _ _ w9) ((v1.setCell ⟨gq, 1, none⟩ (.int .i64 0)).setCell ⟨gq, 2, none⟩ (.bool false)) ?_
        intro ws hws
        have Q_ws : Hid (BK 33 ws gq (pkC (fullP m 0 false) (fullA Am cm))) := Lib.hid (by rw [hws]; exact ((Q_v1.out.set 1 (.int .i64 0)).set 2 (.bool false)))
        have T_ws : Hid (BK 24 ws (w.heap.size + 1) [.slice (some ⟨b, o, none⟩) 32 c]) := Lib.hid (by rw [hws]; exact (T_v1.out.other (p := ⟨gq, 1, none⟩) (by have := HGP.out; show w.heap.size + 1 ≠ gq; omega) _).other (p := ⟨gq, 2, none⟩) (by have := HGP.out; show w.heap.size + 1 ≠ gq; omega) _)
        have M_ws : Hid (BK 27 ws w.heap.size (msgC m Am cm)) := Lib.hid (by rw [hws]; exact (M_v1.out.other (p := ⟨gq, 1, none⟩) (by have := HGP.out; show w.heap.size ≠ gq; omega) _).other (p := ⟨gq, 2, none⟩) (by have := HGP.out; show w.heap.size ≠ gq; omega) _)
        have B_ws : Hid (Below w.heap.size w ws) := Lib.hid (by rw [hws]; exact (B_v1.out.setCell (p := ⟨gq, 1, none⟩) (by have := HGP.out; show w.heap.size ≤ gq; omega) _).setCell (p := ⟨gq, 2, none⟩) (by have := HGP.out; show w.heap.size ≤ gq; omega) _)
        have HCE : Hid (∀ p : Addr, p.block ≠ gq → ws.cell? p = v1.cell? p) := Lib.hid (fun p hp => by rw [hws, S2.set_other _ _ _ _ _ hp, S2.set_other _ _ _ _ _ hp])
        have HSE : Hid (ws.heap.size = v1.heap.size) := Lib.hid (by rw [hws]; simp)
        have L_ws : Hid (S2.IL ws ws.heap.size (some ⟨b, o, none⟩) X) := Lib.hid (il_cells L_v1.out HCE.out HSE.out HBQ.out)
        have P_ws : Hid (PL ws ws.heap.size Am m.props) := Lib.hid (pl_cells P_v1.out HCE.out HSE.out HPQ.out)
        clear hws HCE HSE g1 g2 f1 f2 q1 T_v1 M_v1 B_v1 L_v1 P_v1 Q_v1
        have HCK := Lib.hid (fun w1 (h : PL w1 w1.heap.size Am m.props) => rCheck6_any (fullP m 0 false) (fullA Am cm) w1 (full_pin h) (HBG.out _ _))
        obtain ⟨z, hz⟩ : ∃ z : Int, (checkP (fullP m 0 false) : Int) = z := ⟨_, rfl⟩
        rw [hz] at HCK
        have HZZ : Hid (z = 0 → checkP (fullP m 0 false) = 0) := Lib.hid (fun h => by omega)
        have HACC := Lib.hid (fun w1 h0 h1 (h2 : PL w1 w1.heap.size Am m.props) => nAccept_any (some ⟨b, o, none⟩) c X (fullP m 0 false) (fullA Am cm) w1 h0 h1 HV.out (full_pin h2) (HBG.out _ _).sz (HBG.out _ _).tx)
        have hXl := HL32.out
        clear hz
        unfold pkV at HCK HACC
        simp only [S2.xv] at HACC
        rw [hXl] at HACC
        clear hXl
        go_wp2_with first
          | (refine wpList_load_v (by rfl) 33 (.tmp 10) rfl ⟨gq, 0, none⟩ rfl (.agg (pkC (fullP m 0 false) (fullA Am cm)).toArray) (S2.run_load_all Q_ws.out Tryz.underlying33 rfl info33) ?_)
        refine (HCK.out ws P_ws.out).mono ?_
        rintro e v102 ⟨rfl, hb⟩
        have T_v102 : Hid (BK 24 v102 (w.heap.size + 1) [.slice (some ⟨b, o, none⟩) 32 c]) := Lib.hid (T_ws.out.step hb)
        have M_v102 : Hid (BK 27 v102 w.heap.size (msgC m Am cm)) := Lib.hid (M_ws.out.step hb)
        have B_v102 : Hid (Below w.heap.size w v102) := Lib.hid (stepB B_ws.out hb)
        have L_v102 : Hid (S2.IL v102 v102.heap.size (some ⟨b, o, none⟩) X) := Lib.hid (CL.step L_ws.out hb)
        have P_v102 : Hid (PL v102 v102.heap.size Am m.props) := Lib.hid (GL.step P_ws.out hb)
        have Q_v102 : Hid (BK 33 v102 gq (pkC (fullP m 0 false) (fullA Am cm))) := Lib.hid (Q_ws.out.step hb)
        clear T_ws M_ws B_ws L_ws P_ws Q_ws
        clear hb
        by_cases hz0 : z = 0
        rotate_left
        · have q2 : (z != 0) = true := by simp [hz0]
          clear hz0 HACC HCK HZZ
          go_wp2_with fail
          refine (HA.out v102 (HOK.out.step B_v102.out)).mono ?_
          rintro e v153 ⟨rfl, hb⟩
          have T_v153 : Hid (BK 24 v153 (w.heap.size + 1) [.slice (some ⟨b, o, none⟩) 32 c]) := Lib.hid (T_v102.out.step hb)
          have M_v153 : Hid (BK 27 v153 w.heap.size (msgC m Am cm)) := Lib.hid (M_v102.out.step hb)
          have B_v153 : Hid (Below w.heap.size w v153) := Lib.hid (stepB B_v102.out hb)
          have L_v153 : Hid (S2.IL v153 v153.heap.size (some ⟨b, o, none⟩) X) := Lib.hid (CL.step L_v102.out hb)
          have P_v153 : Hid (PL v153 v153.heap.size Am m.props) := Lib.hid (GL.step P_v102.out hb)
          have Q_v153 : Hid (BK 33 v153 gq (pkC (fullP m 0 false) (fullA Am cm))) := Lib.hid (Q_v102.out.step hb)
          clear T_v102 M_v102 B_v102 L_v102 P_v102 Q_v102
          clear hb
          go_wp2_with fail
          go_ret
          exact ⟨rfl, B_v153.out⟩
        have hr : naccR X (fullP m 0 false) = (X, true, ansL (fullP m 0 false), 0) := ((nacc_cases (X := X) (p := (fullP m 0 false)) rfl).2.2.1 rfl (HZZ.out hz0) (by show m.level ≠ 2; omega)).symm
        rw [hr] at HACC
        subst hz0
        have q3 : (m.level != 2) = true := by simp [hl0]
        clear hr HZZ HCK hl0
        go_wp2_with first
          | (refine wpList_load_v (by rfl) 24 (.tmp 7) rfl ⟨(w.heap.size + 1), 0, none⟩ rfl (.agg #[.slice (some ⟨b, o, none⟩) 32 c]) (S2.run_load_all T_v102.out Tryz.underlying24 rfl S2.boxSize) ?_)
          | (refine wpList_load_v (by rfl) 33 (.tmp 10) rfl ⟨gq, 0, none⟩ rfl (.agg (pkC (fullP m 0 false) (fullA Am cm)).toArray) (S2.run_load_all Q_v102.out Tryz.underlying33 rfl info33) ?_)
        refine (HACC.out v102 (HOK.out.step B_v102.out) L_v102.out P_v102.out).mono ?_
        rintro e v103 ⟨A6, c6, D6, e6, rfl, _, _, _, _, _, hb⟩
        have T_v103 : Hid (BK 24 v103 (w.heap.size + 1) [.slice (some ⟨b, o, none⟩) 32 c]) := Lib.hid (T_v102.out.step hb)
        have M_v103 : Hid (BK 27 v103 w.heap.size (msgC m Am cm)) := Lib.hid (M_v102.out.step hb)
        have B_v103 : Hid (Below w.heap.size w v103) := Lib.hid (stepB B_v102.out hb)
        have L_v103 : Hid (S2.IL v103 v103.heap.size (some ⟨b, o, none⟩) X) := Lib.hid (CL.step L_v102.out hb)
        have P_v103 : Hid (PL v103 v103.heap.size Am m.props) := Lib.hid (GL.step P_v102.out hb)
        have Q_v103 : Hid (BK 33 v103 gq (pkC (fullP m 0 false) (fullA Am cm))) := Lib.hid (Q_v102.out.step hb)
        clear T_v102 M_v102 B_v102 L_v102 P_v102 Q_v102
        clear hb
        have dl2 := M_v103.out.cell 2 rfl
        go_wp2_with first
          | (refine S2.wpList_store_all (by rfl) 24 (.tmp 11) (.tmp 56) rfl rfl (v103.heap.size) rfl [.slice A6 X.length c6] rfl 24 [.slice none 0 0] (BK.new v103 _ _) S2.boxSize rfl (onesB rfl) ?_; intro v104 hM hP; have hb : Below v103.heap.size v103 v104 := hP.below (S2.below_new v103 _) (Nat.le_refl _); have T_v104 : Hid (BK 24 v104 (w.heap.size + 1) [.slice (some ⟨b, o, none⟩) 32 c]) := Lib.hid (T_v103.out.step hb); have M_v104 : Hid (BK 27 v104 w.heap.size (msgC m Am cm)) := Lib.hid (M_v103.out.step hb); have B_v104 : Hid (Below w.heap.size w v104) := Lib.hid (stepB B_v103.out hb); have L_v104 : Hid (S2.IL v104 v104.heap.size (some ⟨b, o, none⟩) X) := Lib.hid (CL.step L_v103.out hb); have P_v104 : Hid (PL v104 v104.heap.size Am m.props) := Lib.hid (GL.step P_v103.out hb); have Q_v104 : Hid (BK 33 v104 gq (pkC (fullP m 0 false) (fullA Am cm))) := Lib.hid (Q_v103.out.step hb); have U_v104 : Hid (BK 24 v104 (v103.heap.size) [.slice A6 X.length c6]) := Lib.hid hM; clear hM hP hb T_v103 M_v103 B_v103 L_v103 P_v103 Q_v103; have dl3 := M_v104.out.cell 2 rfl)
        refine (HA.out v104 (HOK.out.step B_v104.out)).mono ?_
        rintro e v105 ⟨rfl, hb⟩
        have T_v105 : Hid (BK 24 v105 (w.heap.size + 1) [.slice (some ⟨b, o, none⟩) 32 c]) := Lib.hid (T_v104.out.step hb)
        have M_v105 : Hid (BK 27 v105 w.heap.size (msgC m Am cm)) := Lib.hid (M_v104.out.step hb)
        have B_v105 : Hid (Below w.heap.size w v105) := Lib.hid (stepB B_v104.out hb)
        have L_v105 : Hid (S2.IL v105 v105.heap.size (some ⟨b, o, none⟩) X) := Lib.hid (CL.step L_v104.out hb)
        have P_v105 : Hid (PL v105 v105.heap.size Am m.props) := Lib.hid (GL.step P_v104.out hb)
        have Q_v105 : Hid (BK 33 v105 gq (pkC (fullP m 0 false) (fullA Am cm))) := Lib.hid (Q_v104.out.step hb)
        have U_v105 : Hid (BK 24 v105 (v103.heap.size) [.slice A6 X.length c6]) := Lib.hid (U_v104.out.step hb)
        clear T_v104 M_v104 B_v104 L_v104 P_v104 Q_v104 U_v104
        clear hb
        go_wp2_with fail
        go_ret
        exact ⟨rfl, B_v105.out⟩
      have q1 : (m.level == 0) = false := by simp [hl0]
      have HCK := Lib.hid (fun w1 (h : PL w1 w1.heap.size Am m.props) => rCheck6_any (fullP m n32 dup) (fullA Am cm) w1 (full_pin h) (HBG.out _ _))
      obtain ⟨z, hz⟩ : ∃ z : Int, (checkP (fullP m n32 dup) : Int) = z := ⟨_, rfl⟩
      rw [hz] at HCK
      have HZZ : Hid (z = 0 → checkP (fullP m n32 dup) = 0) := Lib.hid (fun h => by omega)
      have HACC := Lib.hid (fun w1 h0 h1 (h2 : PL w1 w1.heap.size Am m.props) => nAccept_any (some ⟨b, o, none⟩) c X (fullP m n32 dup) (fullA Am cm) w1 h0 h1 HV.out (full_pin h2) (HBG.out _ _).sz (HBG.out _ _).tx)
      have hXl := HL32.out
      clear hz
      unfold pkV at HCK HACC
      simp only [S2.xv] at HACC
      rw [hXl] at HACC
      clear hXl
      go_wp2_with first
        | (refine wpList_load_v (by rfl) 33 (.tmp 10) rfl ⟨gq, 0, none⟩ rfl (.agg (pkC (fullP m n32 dup) (fullA Am cm)).toArray) (S2.run_load_all Q_v1.out Tryz.underlying33 rfl info33) ?_)
      refine (HCK.out v1 P_v1.out).mono ?_
      rintro e v202 ⟨rfl, hb⟩
      have T_v202 : Hid (BK 24 v202 (w.heap.size + 1) [.slice (some ⟨b, o, none⟩) 32 c]) := Lib.hid (T_v1.out.step hb)
      have M_v202 : Hid (BK 27 v202 w.heap.size (msgC m Am cm)) := Lib.hid (M_v1.out.step hb)
      have B_v202 : Hid (Below w.heap.size w v202) := Lib.hid (stepB B_v1.out hb)
      have L_v202 : Hid (S2.IL v202 v202.heap.size (some ⟨b, o, none⟩) X) := Lib.hid (CL.step L_v1.out hb)
      have P_v202 : Hid (PL v202 v202.heap.size Am m.props) := Lib.hid (GL.step P_v1.out hb)
      have Q_v202 : Hid (BK 33 v202 gq (pkC (fullP m n32 dup) (fullA Am cm))) := Lib.hid (Q_v1.out.step hb)
      clear T_v1 M_v1 B_v1 L_v1 P_v1 Q_v1
      clear hb
      clear q1
      by_cases hz0 : z = 0
      rotate_left
      · have q2 : (z != 0) = true := by simp [hz0]
        clear hz0 HACC HCK HZZ
        go_wp2_with fail
        refine (HA.out v202 (HOK.out.step B_v202.out)).mono ?_
        rintro e v253 ⟨rfl, hb⟩
        have T_v253 : Hid (BK 24 v253 (w.heap.size + 1) [.slice (some ⟨b, o, none⟩) 32 c]) := Lib.hid (T_v202.out.step hb)
        have M_v253 : Hid (BK 27 v253 w.heap.size (msgC m Am cm)) := Lib.hid (M_v202.out.step hb)
        have B_v253 : Hid (Below w.heap.size w v253) := Lib.hid (stepB B_v202.out hb)
        have L_v253 : Hid (S2.IL v253 v253.heap.size (some ⟨b, o, none⟩) X) := Lib.hid (CL.step L_v202.out hb)
        have P_v253 : Hid (PL v253 v253.heap.size Am m.props) := Lib.hid (GL.step P_v202.out hb)
        have Q_v253 : Hid (BK 33 v253 gq (pkC (fullP m n32 dup) (fullA Am cm))) := Lib.hid (Q_v202.out.step hb)
        clear T_v202 M_v202 B_v202 L_v202 P_v202 Q_v202
        clear hb
        go_wp2_with fail
        go_ret
        exact ⟨rfl, B_v253.out⟩
      have hc0 := HZZ.out hz0
      subst hz0
      clear HZZ HCK
      by_cases hl2 : m.level = 2
      rotate_left
      · have hr : naccR X (fullP m n32 dup) = (X, true, ansL (fullP m n32 dup), 0) := ((nacc_cases (X := X) (p := (fullP m n32 dup)) rfl).2.2.1 rfl hc0 hl2).symm
        rw [hr] at HACC
        have q3 : (m.level != 2) = true := by simp [hl2]
        clear hr hc0 hl2
        go_wp2_with first
          | (refine wpList_load_v (by rfl) 24 (.tmp 7) rfl ⟨(w.heap.size + 1), 0, none⟩ rfl (.agg #[.slice (some ⟨b, o, none⟩) 32 c]) (S2.run_load_all T_v202.out Tryz.underlying24 rfl S2.boxSize) ?_)
          | (refine wpList_load_v (by rfl) 33 (.tmp 10) rfl ⟨gq, 0, none⟩ rfl (.agg (pkC (fullP m n32 dup) (fullA Am cm)).toArray) (S2.run_load_all Q_v202.out Tryz.underlying33 rfl info33) ?_)
        refine (HACC.out v202 (HOK.out.step B_v202.out) L_v202.out P_v202.out).mono ?_
        rintro e v233 ⟨A6, c6, D6, e6, rfl, _, _, _, _, _, hb⟩
        have T_v233 : Hid (BK 24 v233 (w.heap.size + 1) [.slice (some ⟨b, o, none⟩) 32 c]) := Lib.hid (T_v202.out.step hb)
        have M_v233 : Hid (BK 27 v233 w.heap.size (msgC m Am cm)) := Lib.hid (M_v202.out.step hb)
        have B_v233 : Hid (Below w.heap.size w v233) := Lib.hid (stepB B_v202.out hb)
        have L_v233 : Hid (S2.IL v233 v233.heap.size (some ⟨b, o, none⟩) X) := Lib.hid (CL.step L_v202.out hb)
        have P_v233 : Hid (PL v233 v233.heap.size Am m.props) := Lib.hid (GL.step P_v202.out hb)
        have Q_v233 : Hid (BK 33 v233 gq (pkC (fullP m n32 dup) (fullA Am cm))) := Lib.hid (Q_v202.out.step hb)
        clear T_v202 M_v202 B_v202 L_v202 P_v202 Q_v202
        clear hb
        have dl2 := M_v233.out.cell 2 rfl
        go_wp2_with first
          | (refine S2.wpList_store_all (by rfl) 24 (.tmp 11) (.tmp 56) rfl rfl (v233.heap.size) rfl [.slice A6 X.length c6] rfl 24 [.slice none 0 0] (BK.new v233 _ _) S2.boxSize rfl (onesB rfl) ?_; intro v234 hM hP; have hb : Below v233.heap.size v233 v234 := hP.below (S2.below_new v233 _) (Nat.le_refl _); have T_v234 : Hid (BK 24 v234 (w.heap.size + 1) [.slice (some ⟨b, o, none⟩) 32 c]) := Lib.hid (T_v233.out.step hb); have M_v234 : Hid (BK 27 v234 w.heap.size (msgC m Am cm)) := Lib.hid (M_v233.out.step hb); have B_v234 : Hid (Below w.heap.size w v234) := Lib.hid (stepB B_v233.out hb); have L_v234 : Hid (S2.IL v234 v234.heap.size (some ⟨b, o, none⟩) X) := Lib.hid (CL.step L_v233.out hb); have P_v234 : Hid (PL v234 v234.heap.size Am m.props) := Lib.hid (GL.step P_v233.out hb); have Q_v234 : Hid (BK 33 v234 gq (pkC (fullP m n32 dup) (fullA Am cm))) := Lib.hid (Q_v233.out.step hb); have U_v234 : Hid (BK 24 v234 (v233.heap.size) [.slice A6 X.length c6]) := Lib.hid hM; clear hM hP hb T_v233 M_v233 B_v233 L_v233 P_v233 Q_v233; have dl3 := M_v234.out.cell 2 rfl)
        refine (HA.out v234 (HOK.out.step B_v234.out)).mono ?_
        rintro e v235 ⟨rfl, hb⟩
        have T_v235 : Hid (BK 24 v235 (w.heap.size + 1) [.slice (some ⟨b, o, none⟩) 32 c]) := Lib.hid (T_v234.out.step hb)
        have M_v235 : Hid (BK 27 v235 w.heap.size (msgC m Am cm)) := Lib.hid (M_v234.out.step hb)
        have B_v235 : Hid (Below w.heap.size w v235) := Lib.hid (stepB B_v234.out hb)
        have L_v235 : Hid (S2.IL v235 v235.heap.size (some ⟨b, o, none⟩) X) := Lib.hid (CL.step L_v234.out hb)
        have P_v235 : Hid (PL v235 v235.heap.size Am m.props) := Lib.hid (GL.step P_v234.out hb)
        have Q_v235 : Hid (BK 33 v235 gq (pkC (fullP m n32 dup) (fullA Am cm))) := Lib.hid (Q_v234.out.step hb)
        have U_v235 : Hid (BK 24 v235 (v233.heap.size) [.slice A6 X.length c6]) := Lib.hid (U_v234.out.step hb)
        clear T_v234 M_v234 B_v234 L_v234 P_v234 Q_v234 U_v234
        clear hb
        go_wp2_with fail
        go_ret
        exact ⟨rfl, B_v235.out⟩
      have hr : naccR X (fullP m n32 dup) = ([], false, [], 6) := ((nacc_cases (X := X) (p := (fullP m n32 dup)) rfl).2.2.2.1 rfl hc0 hl2 HNO.out (by have := HL32.out; omega)).symm
      rw [hr] at HACC
      have hc2 := full_again hc0 hl2 HNJ.out.1 HNJ.out.2
      have hr2 : naccR X (fullP m nJ dup) = (S2.withI X nJ, !decide (nJ ∈ X), ansL (fullP m nJ dup), 0) := ((nacc_cases (X := X) (p := (fullP m nJ dup)) rfl).2.2.2.2 rfl hc2 hl2 (fun h => h.1 HYES.out)).symm
      rw [decide_eq_true HYES.out] at hr2
      have HAC2 := Lib.hid (fun w1 h0 h1 (h2 : PL w1 w1.heap.size Am m.props) => nAccept_any (some ⟨b, o, none⟩) c X (fullP m nJ dup) (fullA Am cm) w1 h0 h1 HV.out (full_pin h2) (HBG.out _ _).sz (HBG.out _ _).tx)
      rw [hr2] at HAC2
      have hXl := HL32.out
      unfold pkV at HAC2
      simp only [S2.xv] at HAC2
      rw [hXl] at HAC2
      generalize ansL (fullP m nJ dup) = k2 at HAC2
      generalize S2.withI X nJ = Y2 at HAC2
      have q3 : (m.level != 2) = false := by simp [hl2]
      clear hr hr2 hc0 hc2 hl2 hXl
      go_wp2_with first
        | (refine wpList_load_v (by rfl) 24 (.tmp 7) rfl ⟨(w.heap.size + 1), 0, none⟩ rfl (.agg #[.slice (some ⟨b, o, none⟩) 32 c]) (S2.run_load_all T_v202.out Tryz.underlying24 rfl S2.boxSize) ?_)
        | (refine wpList_load_v (by rfl) 33 (.tmp 10) rfl ⟨gq, 0, none⟩ rfl (.agg (pkC (fullP m n32 dup) (fullA Am cm)).toArray) (S2.run_load_all Q_v202.out Tryz.underlying33 rfl info33) ?_)
      refine (HACC.out v202 (HOK.out.step B_v202.out) L_v202.out P_v202.out).mono ?_
      rintro e v203 ⟨A6, c6, D6, e6, rfl, _, _, _, _, _, hb⟩
      have T_v203 : Hid (BK 24 v203 (w.heap.size + 1) [.slice (some ⟨b, o, none⟩) 32 c]) := Lib.hid (T_v202.out.step hb)
      have M_v203 : Hid (BK 27 v203 w.heap.size (msgC m Am cm)) := Lib.hid (M_v202.out.step hb)
      have B_v203 : Hid (Below w.heap.size w v203) := Lib.hid (stepB B_v202.out hb)
      have L_v203 : Hid (S2.IL v203 v203.heap.size (some ⟨b, o, none⟩) X) := Lib.hid (CL.step L_v202.out hb)
      have P_v203 : Hid (PL v203 v203.heap.size Am m.props) := Lib.hid (GL.step P_v202.out hb)
      have Q_v203 : Hid (BK 33 v203 gq (pkC (fullP m n32 dup) (fullA Am cm))) := Lib.hid (Q_v202.out.step hb)
      clear T_v202 M_v202 B_v202 L_v202 P_v202 Q_v202
      clear hb
      clear HACC
      have j1 : (0 : Int) ≤ (J : Int) := by omega
      have j2 : (J : Int) < 32 := by have := HJ.out; omega
      have j3 : decide ((J : Int) < 32) = true := decide_eq_true j2
      have j4 : J < 32 := HJ.out
      go_upto_region 16 with first
        | (refine S2.wpList_store_all (by rfl) 24 (.tmp 11) (.tmp 56) rfl rfl (v203.heap.size) rfl [.slice A6 0 c6] rfl 24 [.slice none 0 0] (BK.new v203 _ _) S2.boxSize rfl (onesB rfl) ?_; intro v204 hM hP; have hb : Below v203.heap.size v203 v204 := hP.below (S2.below_new v203 _) (Nat.le_refl _); have T_v204 : Hid (BK 24 v204 (w.heap.size + 1) [.slice (some ⟨b, o, none⟩) 32 c]) := Lib.hid (T_v203.out.step hb); have M_v204 : Hid (BK 27 v204 w.heap.size (msgC m Am cm)) := Lib.hid (M_v203.out.step hb); have B_v204 : Hid (Below w.heap.size w v204) := Lib.hid (stepB B_v203.out hb); have L_v204 : Hid (S2.IL v204 v204.heap.size (some ⟨b, o, none⟩) X) := Lib.hid (CL.step L_v203.out hb); have P_v204 : Hid (PL v204 v204.heap.size Am m.props) := Lib.hid (GL.step P_v203.out hb); have Q_v204 : Hid (BK 33 v204 gq (pkC (fullP m n32 dup) (fullA Am cm))) := Lib.hid (Q_v203.out.step hb); have U_v204 : Hid (BK 24 v204 (v203.heap.size) [.slice A6 0 c6]) := Lib.hid hM; clear hM hP hb T_v203 M_v203 B_v203 L_v203 P_v203 Q_v203; have dl3 := M_v204.out.cell 2 rfl; have dt3 := T_v204.out.cell 0 rfl; have gq3 := Q_v204.out.cell 1 (pkc1 _ _); have fq3 := Q_v204.out.free 1; have dj3 := cellJ L_v204.out HJX.out)
      refine name_world (C := fun w9 => Code.wp _ _ _ _ w9) (v204.setCell ⟨gq, 1, none⟩ (.int .i64 nJ)) ?_
      intro ws hws
      have Q_ws : Hid (BK 33 ws gq (pkC (fullP m nJ dup) (fullA Am cm))) := Lib.hid (by rw [hws]; exact Q_v204.out.set 1 (.int .i64 nJ))
      have T_ws : Hid (BK 24 ws (w.heap.size + 1) [.slice (some ⟨b, o, none⟩) 32 c]) := Lib.hid (by rw [hws]; exact T_v204.out.other (p := ⟨gq, 1, none⟩) (by have := HGP.out; show w.heap.size + 1 ≠ gq; omega) _)
      have B_ws : Hid (Below w.heap.size w ws) := Lib.hid (by rw [hws]; exact B_v204.out.setCell (p := ⟨gq, 1, none⟩) (by have := HGP.out; show w.heap.size ≤ gq; omega) _)
      have HCE : Hid (∀ p : Addr, p.block ≠ gq → ws.cell? p = v204.cell? p) := Lib.hid (fun p hp => by rw [hws, S2.set_other _ _ _ _ _ hp])
      have HSE : Hid (ws.heap.size = v204.heap.size) := Lib.hid (by rw [hws]; simp)
      have L_ws : Hid (S2.IL ws ws.heap.size (some ⟨b, o, none⟩) X) := Lib.hid (il_cells L_v204.out HCE.out HSE.out HBQ.out)
      have P_ws : Hid (PL ws ws.heap.size Am m.props) := Lib.hid (pl_cells P_v204.out HCE.out HSE.out HPQ.out)
      clear hws HCE HSE dl3 dt3 gq3 fq3 dj3 q3 T_v204 M_v204 B_v204 L_v204 P_v204 Q_v204 U_v204
      go_wp2_with first
        | (refine wpList_load_v (by rfl) 24 (.tmp 7) rfl ⟨(w.heap.size + 1), 0, none⟩ rfl (.agg #[.slice (some ⟨b, o, none⟩) 32 c]) (S2.run_load_all T_ws.out Tryz.underlying24 rfl S2.boxSize) ?_)
        | (refine wpList_load_v (by rfl) 33 (.tmp 10) rfl ⟨gq, 0, none⟩ rfl (.agg (pkC (fullP m nJ dup) (fullA Am cm)).toArray) (S2.run_load_all Q_ws.out Tryz.underlying33 rfl info33) ?_)
      refine (HAC2.out ws (HOK.out.step B_ws.out) L_ws.out P_ws.out).mono ?_
      rintro e v205 ⟨A7, c7, D7, e7, rfl, _, _, _, _, _, hb⟩
      have T_v205 : Hid (BK 24 v205 (w.heap.size + 1) [.slice (some ⟨b, o, none⟩) 32 c]) := Lib.hid (T_ws.out.step hb)
      have B_v205 : Hid (Below w.heap.size w v205) := Lib.hid (stepB B_ws.out hb)
      have L_v205 : Hid (S2.IL v205 v205.heap.size (some ⟨b, o, none⟩) X) := Lib.hid (CL.step L_ws.out hb)
      have P_v205 : Hid (PL v205 v205.heap.size Am m.props) := Lib.hid (GL.step P_ws.out hb)
      have Q_v205 : Hid (BK 33 v205 gq (pkC (fullP m nJ dup) (fullA Am cm))) := Lib.hid (Q_ws.out.step hb)
      clear T_ws B_ws L_ws P_ws Q_ws
      clear hb
      go_wp2_with first
        | (refine S2.wpList_store_all (by rfl) 24 (.tmp 15) (.tmp 83) rfl rfl (v205.heap.size) rfl [.slice A7 Y2.length c7] rfl 24 [.slice none 0 0] (BK.new v205 _ _) S2.boxSize rfl (onesB rfl) ?_; intro v206 hM hP; have hb : Below v205.heap.size v205 v206 := hP.below (S2.below_new v205 _) (Nat.le_refl _); have T_v206 : Hid (BK 24 v206 (w.heap.size + 1) [.slice (some ⟨b, o, none⟩) 32 c]) := Lib.hid (T_v205.out.step hb); have B_v206 : Hid (Below w.heap.size w v206) := Lib.hid (stepB B_v205.out hb); have L_v206 : Hid (S2.IL v206 v206.heap.size (some ⟨b, o, none⟩) X) := Lib.hid (CL.step L_v205.out hb); have P_v206 : Hid (PL v206 v206.heap.size Am m.props) := Lib.hid (GL.step P_v205.out hb); have Q_v206 : Hid (BK 33 v206 gq (pkC (fullP m nJ dup) (fullA Am cm))) := Lib.hid (Q_v205.out.step hb); have U_v206 : Hid (BK 24 v206 (v205.heap.size) [.slice A7 Y2.length c7]) := Lib.hid hM; clear hM hP hb T_v205 B_v205 L_v205 P_v205 Q_v205)
      refine (HA.out v206 (HOK.out.step B_v206.out)).mono ?_
      rintro e v207 ⟨rfl, hb⟩
      have T_v207 : Hid (BK 24 v207 (w.heap.size + 1) [.slice (some ⟨b, o, none⟩) 32 c]) := Lib.hid (T_v206.out.step hb)
      have B_v207 : Hid (Below w.heap.size w v207) := Lib.hid (stepB B_v206.out hb)
      have L_v207 : Hid (S2.IL v207 v207.heap.size (some ⟨b, o, none⟩) X) := Lib.hid (CL.step L_v206.out hb)
      have P_v207 : Hid (PL v207 v207.heap.size Am m.props) := Lib.hid (GL.step P_v206.out hb)
      have Q_v207 : Hid (BK 33 v207 gq (pkC (fullP m nJ dup) (fullA Am cm))) := Lib.hid (Q_v206.out.step hb)
      have U_v207 : Hid (BK 24 v207 (v205.heap.size) [.slice A7 Y2.length c7]) := Lib.hid (U_v206.out.step hb)
      clear T_v206 B_v206 L_v206 P_v206 Q_v206 U_v206
      clear hb
      go_wp2_with fail
      go_ret
      exact ⟨rfl, B_v207.out⟩
end Go.Proofs.YtomlideijhejfaaGreatDoor
namespace Go.Proofs.YtomlideijhejfaaGreatDoor.inboundFull
open Go.ChangeShapes Go.WideShapes Go.ChangeAt Go.WideMaps Go.WideElems Go.RowKit
open Go.ChangeMaps (open_string shut_string)

theorem own : ownKnob Tryz.prog.godebug = none := by kernel_rfl
theorem okw {W : World} (h : W.ShapedOpen Tryz.prog) : S1.Okw W := Tryz.laysM220.s1_3 W h

set_option maxRecDepth 100000 in
theorem contract (H : Type) (enc : TypeId × Value → H) (W : World) (base : Nat) (args : Array Value) (ds gs : List (DataW H)) (before : List MemPlace)
    (hval : ∀ (j : Nat) t v, Tryz.f6.params[j]? = some t → args[j]? = some v → Value.okWide Tryz.prog W .any base t v)
    (hW : DataW.Whole enc Tryz.prog Tryz.f6.params.toList Rows.inboundFullSpec.vars false W args.toList ds gs before)
    (hsz : (DataW.weightsEach Tryz.prog (Tryz.f6.params.toList ++ (OpenSpec.ofChange Rows.inboundFullSpec).bare.plain.varTypes Tryz.prog) (ds ++ gs)).all (· ≤ reachBytes) = true)
    (hsh : W.ShapedOpen Tryz.prog) :
    Calls Tryz.prog 6 args W fun e W' => ∃ v, e = .returned v ∧ Rows.inboundFullSpec.post enc Tryz.prog Tryz.f6 false true false false W args v W' := by
  have hW' := hW
  obtain ⟨p, q, hA0, hV, rfl, hfz, hnd⟩ := hW
  have hA : DataW.TrodAll enc Tryz.prog W 0 (fun _ => true) true Tryz.f6.params.toList args.toList ds p := hA0
  rw [Tryz.params6] at hA hval
  obtain ⟨v0, vs0, d0, ds0, p0, q0, hargs, rfl, rfl, h0, r0⟩ := trodAll_cons hA
  obtain ⟨v1, vs1, d1, ds1, p1, q1, rfl, rfl, rfl, h1, r1⟩ := trodAll_cons r0
  obtain ⟨v2, vs2, d2, ds2, p2, q2, rfl, rfl, rfl, h2, r2⟩ := trodAll_cons r1
  obtain ⟨rfl, rfl, rfl⟩ := trodAll_nil r2
  obtain rfl : args = #[v0, v1, v2] := by cases args; simp_all
  obtain ⟨rfl, rfl⟩ := trodVars_none hV
  obtain ⟨n0, rfl, rfl, rfl, wn0⟩ := open_int Tryz.underlying50 (hval 0 50 v0 rfl rfl) h0
  have bn0 : 0 ≤ n0 ∧ n0 ≤ 65535 := by
    have k1 : IntKind.u16.min = 0 := rfl
    have k2 : IntKind.u16.max = 65535 := rfl
    have := wn0
    simp only [Lit.wf, Bool.and_eq_true, decide_eq_true_eq] at this
    omega
  obtain ⟨y0, hy0⟩ : ∃ y : Nat, n0 = (y : Int) := ⟨n0.toNat, by omega⟩
  subst hy0
  have hb0 : y0 ≤ 65535 := by omega
  have h1k := h1
  obtain ⟨m1, a1, c1, rfl, sl1, mt1, bz1⟩ := open_msgv (hval 1 27 v1 rfl rfl) h1
  have wz1 := bz1 (WB.of hsz (j := 1) rfl rfl)
  obtain ⟨n2, rfl, rfl, rfl⟩ := open_bool Tryz.underlying4 (hval 2 4 v2 rfl rfl) h2
  clear hA0
  simp only [List.append_nil] at hW'
  have hrb := reachBytes_lt
  have hlt : ∀ x ∈ p1, x.block < W.heap.size := fun x hx => by simpa using hW'.lt x (by simpa using hx)
  refine (inboundFull_walk y0 m1 a1 c1 n2 W (okw hsh) hb0 sl1 mt1 wz1).mono fun e W' ⟨he, hb⟩ => ?_
  subst he
  have e1 : Rows.inboundFullSpec.fn H ([.lit (.int .u16 (y0 : Int)), d1, .lit (.bool n2)] ++ []) = { results := [.lit (.bool true)], args := [.lit (.int .u16 (y0 : Int)), d1, .lit (.bool n2)] } := rfl
  refine ⟨_, rfl, _, _, _, [], p1, [], by simpa using hW', ?_, ?_, ?_, hb.frame _, fun h => by cases h⟩
  · exact trodAll_cons_mk (shut_bool Tryz.underlying4 _) trodAll_mk0
  · rw [e1]
    simpa using trodAll_cons_mk (shut_int Tryz.underlying50 wn0) (trodAll_cons_mk (Below.trod laidOutAll (by kernel_rfl) (of_decide_eq_true (by kernel_rfl)) h1k hb (fun x hx => hlt x (by simp [hx]))) (trodAll_cons_mk (shut_bool Tryz.underlying4 _) (trodAll_mk0)))
  · rfl

theorem laid_met (os : Os) : laidMet Tryz.prog Rows.inboundFullRow.laid ((World.laidAll Tryz.prog os Rows.inboundFullRow.laid).forCall (fun _ _ => 0) ⟨#[], #[.int .u16 0, .agg #[.string ByteArray.empty, .string ByteArray.empty, .int .i64 0, .bool false, .int .i64 0, .int .i64 0, .string ByteArray.empty, .int .i64 0, .slice none 0 0], .bool false], []⟩).memory :=
  laidMet_laidAll _ (by kernel_rfl) (by kernel_rfl)
theorem reads (os : Os) {H : Type} (enc : TypeId × Value → H) : ∃ places, DataW.whole enc Tryz.prog ((World.laidAll Tryz.prog os Rows.inboundFullRow.laid).forCall (fun _ _ => 0) ⟨#[], #[.int .u16 0, .agg #[.string ByteArray.empty, .string ByteArray.empty, .int .i64 0, .bool false, .int .i64 0, .int .i64 0, .string ByteArray.empty, .int .i64 0, .slice none 0 0], .bool false], []⟩).memory Tryz.f6.params.toList Rows.inboundFullSpec.vars false #[Value.int .u16 0, Value.agg #[.string ByteArray.empty, .string ByteArray.empty, .int .i64 0, .bool false, .int .i64 0, .int .i64 0, .string ByteArray.empty, .int .i64 0, .slice none 0 0], Value.bool false].toList 8 = some ([.lit (.int .u16 0), .agg [.lit (.string []), .lit (.string []), .lit (.int .i64 0), .lit (.bool false), .lit (.int .i64 0), .lit (.int .i64 0), .lit (.string []), .lit (.int .i64 0), .nil], .lit (.bool false)], [], places) :=
  ⟨[], by kernel_rfl⟩

set_option maxRecDepth 100000 in
theorem lifted (os : Os) (started : os.Started) (H : Type) (enc : TypeId × Value → H) (F : Stop.Interp) :
    ReturnsInHanded {} Tryz.checked os 6 .any ((OpenSpec.ofChange Rows.inboundFullSpec).preRow enc Tryz.prog Tryz.f6 Rows.inboundFullRow.domain false Rows.inboundFullRow.laid) (((OpenSpec.ofChange Rows.inboundFullSpec).at F).post enc Tryz.prog Tryz.f6 false true false false) := by
  obtain ⟨places, hx⟩ := reads os enc
  refine returnsInHanded_of_row (C := Tryz.checked) (s := (OpenSpec.ofChange Rows.inboundFullSpec)) own started (by kernel_rfl) Tryz.func6
    (witness_row_at (enc := enc) (C := Tryz.checked) false (World.laidAll Tryz.prog os Rows.inboundFullRow.laid) #[.int .u16 0, .agg #[.string ByteArray.empty, .string ByteArray.empty, .int .i64 0, .bool false, .int .i64 0, .int .i64 0, .string ByteArray.empty, .int .i64 0, .slice none 0 0], .bool false] (World.laidAll_os _ _ _) (by kernel_rfl) (by kernel_rfl) (by kernel_rfl)
      (OpenSpec.preRow_of_cond 8 hx (by kernel_rfl) (fun k hk => by cases hk) (by kernel_rfl) (laid_met os))) ?_
  intro W base args ds gs before hval hW _ _ hsz _ hsh _
  exact contract H enc W base args ds gs before hval hW hsz hsh

theorem said : Rows.InboundFullSaid :=
  OpenClaim.holds_of_cond 6 Tryz.f6 rfl rfl rfl rfl rfl rfl rfl ⟨rfl, rfl, rfl, rfl, rfl⟩ rfl rfl rfl rfl rfl (by kernel_rfl) Tryz.func6 (by kernel_rfl)
    (of_decide_eq_true (by kernel_rfl)) (by unfold Func.isWrapper; first | (rw [if_pos (by decide +kernel)]; kernel_rfl) | (rw [if_neg (by decide +kernel)]; exact ⟨rfl, rfl⟩))
    (fun os started H enc _ F => by rw [OpenClaim.pre_eq_preRow]; exact lifted os started H enc F)

theorem plain (f : FuncId) (fn : Func) (hf : Tryz.pinned.checked.prog.funcNamed "broker/brokerlaw15.InboundFull" = some f) (hfn : Tryz.pinned.checked.prog.funcs[f]? = some fn) :
    false = Tryz.pinned.checked.prog.looks [] ∧ ∀ (j : Nat) t, fn.params[j]? = some t → Tryz.pinned.checked.prog.wantsStandIn t = false := by
  obtain rfl : f = 6 := Option.some.inj ((show Tryz.prog.funcNamed "broker/brokerlaw15.InboundFull" = some 6 by kernel_rfl).symm.trans hf) |>.symm
  obtain rfl : fn = Tryz.f6 := (Option.some.inj (Tryz.func6.symm.trans hfn)).symm
  refine ⟨by kernel_rfl, fun j t ht => ?_⟩
  rw [Tryz.params6] at ht
  have hm : t ∈ [50, 27, 4] := by simpa using Array.mem_of_getElem? ht
  simp only [List.mem_cons, List.not_mem_nil, or_false] at hm
  rcases hm with rfl | rfl | rfl
  · exact (show Tryz.prog.wantsStandIn 50 = false by kernel_rfl)
  · exact (show Tryz.prog.wantsStandIn 27 = false by kernel_rfl)
  · exact (show Tryz.prog.wantsStandIn 4 = false by kernel_rfl)

theorem card : Rows.InboundFullCardSaid :=
  Claim7.holds_tied_plain_at .later [] _ _ _ _ said (fun _ h => by cases h) (by kernel_rfl) (fun _ h => by cases h) inboundFull_row_tie rfl ⟨rfl, rfl⟩ (by kernel_rfl) rfl plain (by kernel_rfl)
end Go.Proofs.YtomlideijhejfaaGreatDoor.inboundFull
