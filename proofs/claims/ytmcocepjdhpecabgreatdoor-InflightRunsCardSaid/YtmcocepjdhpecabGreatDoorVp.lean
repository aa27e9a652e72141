/-
  What Left, Messages, Pubrel, Publish and Resend of brokerref14 answer, and packets of brokerlaw14 for lists of the same packets. Conditions: the window, the item, the lists read as data; few elements.
  The example that each statement of brokerlaw14 looks at. Conditions: the library's bound on short texts holds a number.
  InflightTells answers true, walked: Messages, Left and Resend of the program and of the specification answer alike for every valid window. Conditions: the window reads as data; the library's bound on short texts holds a number.
  Same of brokerref14 answers true for windows of equal content. Conditions: the windows read as data; few items, with few properties.
-/
import Derived.Test.YtmcocepjdhpecabGreatDoorVs
import Derived.Test.YtmcocepjdhpecabGreatDoorSamR
import Derived.Test.YtmcocepjdhpecabGreatDoorWo
import Derived.Test.YtmcocepjdhpecabGreatDoorVl
namespace Go.Proofs.YtmcocepjdhpecabGreatDoor
open Go.RowKit
open S2 (BK Put)

set_option maxRecDepth 20000 in
set_option maxHeartbeats 1000000 in
theorem rleft_any (L : Int) (A : Option Addr) (c : Nat) (xs : List FE) (A2 : Option Addr) (c2 : Nat) (X : List Int) (l : Int) (w : World) (h0 : 0 ≤ L) (h1 : L ≤ 32) (h2 : xs.length ≤ 32) :
    Calls Tryz.prog 24 #[wv L A c xs A2 c2 X l] w fun e w' => e = .returned (.int .i64 (leftR L xs.length)) ∧ Below w.heap.size w w' := by
  by_cases h : L ≤ xs.length
  · have q : decide (L ≤ (xs.length : Int)) = true := decide_eq_true h
    have HR : Hid (0 = leftR L xs.length) := Lib.hid (by unfold leftR; rw [if_pos h])
    go_enter Tryz.func24, Tryz.ntmps24
    go_wp2_with fail
    go_ret
    exact ⟨S2.ret_i HR.out, S2.below_new w _⟩
  · have q : decide (L ≤ (xs.length : Int)) = false := decide_eq_false h
    have HR : Hid (L - xs.length = leftR L xs.length) := Lib.hid (by unfold leftR; rw [if_neg h])
    have e : wrap64 (L - xs.length) = L - xs.length := wrap64_id _ (by omega) (by omega)
    go_enter Tryz.func24, Tryz.ntmps24
    go_wp2_with fail
    go_ret
    exact ⟨S2.ret_i (by first | exact HR.out | (rw [e]; exact HR.out)), S2.below_new w _⟩

def mE (x : FE) : ME := ⟨x.f.m, x.a, x.c⟩
abbrev LstP (B : Nat) (w : World) (v : Value) (ks : List ME) : Prop := Lst 34 gM 9 (fun _ => none) (fun _ => []) B w v ks
abbrev LstQ (B : Nat) (w : World) (v : Value) (ks : List (Pkt × PA)) : Prop := Lst 42 gK 34 (fun _ => none) (fun _ => []) B w v ks

set_option maxRecDepth 20000 in
set_option maxHeartbeats 4000000 in
theorem rpubrel_any (n : Int) (w : World) : Calls Tryz.prog 38 #[.int .i64 n] w fun e w' => e = .returned (pkV (relP n) PA.zero) ∧ Below w.heap.size w w' := by
  go_enter Tryz.func38, Tryz.ntmps38
  go_wp2_with first
    | (refine S2.wpList_store_all (by rfl) 42 (.tmp 2) (.tmp 4) rfl rfl w.heap.size rfl (pkC (relP n) PA.zero) rfl 42 zeroPk (BK.new w _ _) pktSize rfl (pkOnes _ _) ?_; intro w1 hM hP; have M1 := Lib.hid hM; have B1 := Lib.hid (hP.below (S2.below_new w _) (Nat.le_refl _)); clear hM hP)
  exact bodyPost_ret (v := pkV (relP n) PA.zero) (S2.res_cell rfl _ _ w.heap.size 42 (pkC (relP n) PA.zero) _ rfl M1.out Tryz.underlying42 rfl pktSize) rfl ⟨rfl, B1.out⟩

set_option maxRecDepth 20000 in
set_option maxHeartbeats 4000000 in
theorem rpublish_any (x : FE) (d : Bool) (w : World) : Calls Tryz.prog 27 #[fV x, .bool d] w fun e w' => e = .returned (pkV (pubP x.f d) (pubA x.a x.c)) ∧ Below w.heap.size w w' := by
  unfold fV
  go_enter Tryz.func27, Tryz.ntmps27
  go_upto_region 1 with fail
  refine name_world (C := fun w1 => Code.wp _ _ _ _ w1) ((w.alloc (.cells (gF x).toArray 56)).alloc (.cells zeroPk.toArray 42)) ?_
  intro w1 hw1
  obtain ⟨t1, t2, hs0, hB0⟩ := S2.two_laid (v1 := gF x) (v2 := zeroPk) hw1
  have M_w1 := Lib.hid t1
  have K_w1 := Lib.hid t2
  have B_w1 := Lib.hid hB0
  have d0 := t1.cell 0 rfl
  have HLD : Hid ((loadVar 34 ⟨w.heap.size, 2, none⟩).run Tryz.prog w1 = .ok (.agg #[.string x.f.m.topic, .string x.f.m.payload, .int .i64 x.f.m.level, .bool x.f.m.retain, .int .i64 x.f.m.prio, .int .i64 x.f.m.exps, .string x.f.m.frm, .int .i64 x.f.m.seq, .slice x.a x.f.m.props.length x.c]) w1) := Lib.hid (bk_msg t1)
  clear hw1 t1 t2 hs0 hB0
  go_wp2_with first
    | (refine wpList_load_v (by rfl) 34 _ rfl ⟨w.heap.size, 2, none⟩ rfl _ HLD.out ?_)
    | (refine S2.wpList_store_all (by rfl) 42 (.tmp 4) (.tmp 10) rfl rfl (w.heap.size + 1) rfl (pkC (pubP x.f d) (pubA x.a x.c)) rfl 42 zeroPk K_w1.out pktSize rfl (pkOnes _ _) ?_; intro w2 hM hP; have M2 := Lib.hid hM; have B2 := Lib.hid (hP.below B_w1.out (by omega)); clear hM hP)
  exact bodyPost_ret (v := pkV (pubP x.f d) (pubA x.a x.c)) (S2.res_cell rfl _ _ (w.heap.size + 1) 42 (pkC (pubP x.f d) (pubA x.a x.c)) _ rfl M2.out Tryz.underlying42 rfl pktSize) rfl ⟨rfl, B2.out⟩

def agA (x : FE) : PA := if x.f.st = 2 then PA.zero else pubA x.a x.c
def kE (x : FE) : Pkt × PA := (againP x.f, agA x)
theorem kE_plain (x : FE) (w : World) (B : Nat) (h : PL w B x.a x.f.m.props) : KP w B (kE x) := by
  unfold kE agA againP
  by_cases hs : x.f.st = 2
  · rw [if_pos hs, if_pos hs]; exact KP.rel _ _ _ _
  · rw [if_neg hs, if_neg hs]; exact KP.pub h
theorem kE_rel {x : FE} (h : x.f.st = 2) : kE x = (relP x.f.id, PA.zero) := by unfold kE agA againP; rw [if_pos h, if_pos h]
theorem kE_pub {x : FE} (h : ¬ x.f.st = 2) : kE x = (pubP x.f true, pubA x.a x.c) := by unfold kE agA againP; rw [if_neg h, if_neg h]

theorem KS.at_ {w : World} {B : Nat} {A : Option Addr} {xs : List (Pkt × PA)} (h : KS w B A xs) {j : Nat} {x : Pkt × PA} (hx : xs[j]? = some x) :
    ∃ b o, A = some ⟨b, o, none⟩ ∧ b < B ∧ (∀ i v, (gK x)[i]? = some v → w.cell? ⟨b, o + j * 34 + i, none⟩ = some v) ∧ KP w B x := by
  obtain ⟨b, o, e, hb, hc⟩ := h.1 (Nat.lt_of_le_of_lt (Nat.zero_le _) (List.getElem?_eq_some_iff.1 hx).1)
  exact ⟨b, o, e, hb, fun i v hv => hc j x i v hx hv, h.2 x (List.mem_of_getElem? hx)⟩
theorem load_pk {w : World} {b o : Nat} {x : Pkt × PA} (hc : ∀ i v, (gK x)[i]? = some v → w.cell? ⟨b, o + i, none⟩ = some v) : (loadVar 42 ⟨b, o, none⟩).run Tryz.prog w = .ok (pkV x.1 x.2) w :=
  run_load_cells w b o (gK x) 42 _ hc Tryz.underlying42 rfl pktSize
theorem cells_stepG {L : List Value} {w w' : World} {b k : Nat} (h : ∀ j v, L[j]? = some v → w.cell? ⟨b, k + j, none⟩ = some v) (hb : Below w.heap.size w w') : ∀ j v, L[j]? = some v → w'.cell? ⟨b, k + j, none⟩ = some v := fun j v hv => by
  have h1 := h j v hv
  have hl : b < w.heap.size := World.block_lt_of_cell? w ⟨b, k + j, none⟩ h1
  rw [hb.cell hl]; exact h1
theorem sameP_refl (p : Pkt) : sameP p p = true := by simp [sameP]
theorem sameM_refl (p : Msg) : sameM p p = true := by simp [sameM]
theorem KP.sz {w : World} {B : Nat} {x : Pkt × PA} (h : KP w B x) (hn : x.1.msg.props.length ≤ 100000) : PSz x.1 := ⟨by omega, by rw [h.2.1]; simp, by rw [h.2.2.1]; simp, by rw [h.2.2.2.1]; simp, by rw [h.2.2.2.2]; simp⟩

set_option maxRecDepth 20000 in
set_option maxHeartbeats 4000000 in
theorem packets_any (A : Option Addr) (c : Nat) (ks : List (Pkt × PA)) (A' : Option Addr) (c' : Nat) (ls : List (Pkt × PA)) (n : Nat) (w : World) (h1 : KS w w.heap.size A ks) (h2 : KS w w.heap.size A' ls) (he : ks.map Prod.fst = ls.map Prod.fst) (hk : ks.length = n) (hn : n ≤ 100000) (hp : ∀ z ∈ ks, z.1.msg.props.length ≤ 100000) :
    Calls Tryz.prog 13 #[.slice A n c, .slice A' n c'] w fun e w' => e = .returned (.bool true) ∧ Below w.heap.size w w' := by
  have hl : ls.length = n := by
    have := congrArg List.length he
    simp only [List.length_map] at this
    omega
  have q0 : ((n : Int) != (n : Int)) = false := by simp
  have HS1 := Lib.hid h1
  have HS2 := Lib.hid h2
  have HE := Lib.hid he
  have HP := Lib.hid hp
  have HKN := Lib.hid hk
  have HLN := Lib.hid hl
  clear h1 h2 he hp hk hl
  go_enter Tryz.func13, Tryz.ntmps13
  go_wp2_with fail
  go_loopg [5] n (fun g v wr => ∃ k : Nat, k + g = n ∧ v = .int .i64 k ∧ Below w.heap.size w wr)
  case atStart => exact ⟨0, by omega, rfl, Below.refl _ _⟩
  case round =>
    obtain ⟨k, hkg, rfl, hb0⟩ := hrel
    have HB := Lib.hid hb0
    have HK := Lib.hid hkg
    clear hb0
    cases gk with
    | zero =>
      obtain rfl : k = n := by omega
      clear hkg
      go_wp2
      go_ret
      exact ⟨rfl, HB.out⟩
    | succ g =>
      have hlt : k < n := by omega
      have e3 : decide ((k : Int) < (n : Int)) = true := decide_eq_true (by omega)
      have e3' : decide (k < n) = true := decide_eq_true hlt
      obtain ⟨z, hz⟩ : ∃ z, ks[k]? = some z := ⟨_, List.getElem?_eq_getElem (by have := HKN.out; omega)⟩
      obtain ⟨y, hy⟩ : ∃ y, ls[k]? = some y := ⟨_, List.getElem?_eq_getElem (by have := HLN.out; omega)⟩
      have hzy : y.1 = z.1 := by
        have h1 : (ks.map Prod.fst)[k]? = some z.1 := by rw [List.getElem?_map, hz]; rfl
        have h2 : (ls.map Prod.fst)[k]? = some y.1 := by rw [List.getElem?_map, hy]; rfl
        rw [HE.out, h2] at h1
        exact Option.some.inj h1
      obtain ⟨b, o, hA, hbB, hc, hpl⟩ := (HS1.out.step HB.out).at_ hz
      obtain ⟨b', o', hA', hbB', hc', hpl'⟩ := (HS2.out.step HB.out).at_ hy
      have HSAME : Hid (∀ w1, KP w1 w1.heap.size z → KP w1 w1.heap.size y → Calls Tryz.prog 9 #[pkV z.1 z.2, pkV y.1 y.2] w1 fun e w' => e = .returned (.bool true) ∧ Below w1.heap.size w1 w') := Lib.hid (fun w1 g1 g2 => by
        have hpz := HP.out z (List.mem_of_getElem? hz)
        have := rSameP_any z.1 y.1 z.2 y.2 w1 g1.pin g2.pin (g1.sz hpz) (by rw [hzy]; exact g1.sz hpz)
        rw [hzy, sameP_refl] at this
        rw [hzy]
        exact this)
      have B_wr : Hid (Below w.heap.size w wr) := HB
      have C_wr : Hid (∀ i v, (gK z)[i]? = some v → wr.cell? ⟨b, o + k * 34 + i, none⟩ = some v) := Lib.hid hc
      have D_wr : Hid (∀ i v, (gK y)[i]? = some v → wr.cell? ⟨b', o' + k * 34 + i, none⟩ = some v) := Lib.hid hc'
      have P_wr : Hid (KP wr wr.heap.size z) := Lib.hid hpl
      have Q_wr : Hid (KP wr wr.heap.size y) := Lib.hid hpl'
      subst hA hA'
      have j1 : (0 : Int) ≤ (k : Int) := by omega
      have j2 : (k : Int) < (n : Int) := by omega
      have hlk : k ≤ 100000 := by omega
      clear hz hy hzy hc hc' hpl hpl' hbB hbB' hkg HB
      go_upto_region 6 with fail
      obtain ⟨u1, hu1⟩ : ∃ u1, u1 = World.drew wr := ⟨_, rfl⟩
      have hbD : Below wr.heap.size wr u1 := by rw [hu1]; exact (Below.refl _ _).drew
      have B_u1 : Hid (Below w.heap.size w u1) := Lib.hid (stepB B_wr.out hbD)
      have C_u1 : Hid (∀ i v, (gK z)[i]? = some v → u1.cell? ⟨b, o + k * 34 + i, none⟩ = some v) := Lib.hid (cells_stepG C_wr.out hbD)
      have D_u1 : Hid (∀ i v, (gK y)[i]? = some v → u1.cell? ⟨b', o' + k * 34 + i, none⟩ = some v) := Lib.hid (cells_stepG D_wr.out hbD)
      have P_u1 : Hid (KP u1 u1.heap.size z) := Lib.hid ((KP.below P_wr.out hbD).more hbD.size)
      have Q_u1 : Hid (KP u1 u1.heap.size y) := Lib.hid ((KP.below Q_wr.out hbD).more hbD.size)
      clear B_wr C_wr D_wr P_wr Q_wr
      have hbd : (fun w' => (∀ i v, (gK z)[i]? = some v → w'.cell? ⟨b, o + k * 34 + i, none⟩ = some v) ∧ (∀ i v, (gK y)[i]? = some v → w'.cell? ⟨b', o' + k * 34 + i, none⟩ = some v)) (World.drew wr) := by rw [← hu1]; exact ⟨C_u1.out, D_u1.out⟩
      have hSD : (fun w' => (∀ i v, (gK z)[i]? = some v → w'.cell? ⟨b, o + k * 34 + i, none⟩ = some v) ∧ (∀ i v, (gK y)[i]? = some v → w'.cell? ⟨b', o' + k * 34 + i, none⟩ = some v)) u1 := ⟨C_u1.out, D_u1.out⟩
      have HWD := Lib.hid hu1
      clear hu1 hbD
      refine wp_region_held_drew (S := fun w' => (∀ i v, (gK z)[i]? = some v → w'.cell? ⟨b, o + k * 34 + i, none⟩ = some v) ∧ (∀ i v, (gK y)[i]? = some v → w'.cell? ⟨b', o' + k * 34 + i, none⟩ = some v)) (by kernel_rfl) hbd (fun hHeld => ?_)
      rw [← HWD.out]
      clear hHeld
      have hHeld := hSD
      clear hSD hbd HWD
      refine wpAnyH_take (i := 0) (v := (.slice (some ⟨b, o, none⟩) n c)) (get_ops _ _ _ rfl) (by kernel_rfl) (by kernel_rfl) (by kernel_rfl) (fun _ _ _ h => h) (Or.inl ⟨by rfl, fun wS hSw => by (try dsimp only at hSw); go_simp⟩) hHeld ?_
      try simp only [Act.put, List.setIfInBounds_toArray, List.set_cons_zero, List.set_cons_succ]
      refine wpAnyH_take (i := 1) (v := .int .i64 ((k : Int))) (get_ops _ _ _ rfl) (by kernel_rfl) (by kernel_rfl) (by kernel_rfl) (fun _ _ _ h => h) (Or.inl ⟨by rfl, fun wS hSw => by (try dsimp only at hSw); go_simp⟩) hHeld ?_
      try simp only [Act.put, List.setIfInBounds_toArray, List.set_cons_zero, List.set_cons_succ]
      refine wpAnyH_take (i := 2) (v := (.pointer (some ⟨b, o + k * 34, none⟩))) (get_ops _ _ _ rfl) (by kernel_rfl) (by kernel_rfl) (by kernel_rfl) (fun _ _ _ h => h) (Or.inl ⟨by rfl, fun wS hSw => by (try dsimp only at hSw); go_simp⟩) hHeld ?_
      try simp only [Act.put, List.setIfInBounds_toArray, List.set_cons_zero, List.set_cons_succ]
      refine wpAnyH_take (i := 3) (v := (pkV z.1 z.2)) (get_ops _ _ _ rfl) (by kernel_rfl) (by kernel_rfl) (by kernel_rfl) (fun _ _ _ h => h) (Or.inl ⟨by rfl, fun wS hSw => by (try dsimp only at hSw); exact exec_load 42 _ rfl ⟨b, o + k * 34, none⟩ (by go_simp) _ (load_pk hSw.1)⟩) hHeld ?_
      try simp only [Act.put, List.setIfInBounds_toArray, List.set_cons_zero, List.set_cons_succ]
      refine wpAnyH_take (i := 4) (v := (.slice (some ⟨b', o', none⟩) n c')) (get_ops _ _ _ rfl) (by kernel_rfl) (by kernel_rfl) (by kernel_rfl) (fun _ _ _ h => h) (Or.inl ⟨by rfl, fun wS hSw => by (try dsimp only at hSw); go_simp⟩) hHeld ?_
      try simp only [Act.put, List.setIfInBounds_toArray, List.set_cons_zero, List.set_cons_succ]
      refine wpAnyH_take (i := 5) (v := .int .i64 ((k : Int))) (get_ops _ _ _ rfl) (by kernel_rfl) (by kernel_rfl) (by kernel_rfl) (fun _ _ _ h => h) (Or.inl ⟨by rfl, fun wS hSw => by (try dsimp only at hSw); go_simp⟩) hHeld ?_
      try simp only [Act.put, List.setIfInBounds_toArray, List.set_cons_zero, List.set_cons_succ]
      refine wpAnyH_take (i := 6) (v := (.pointer (some ⟨b', o' + k * 34, none⟩))) (get_ops _ _ _ rfl) (by kernel_rfl) (by kernel_rfl) (by kernel_rfl) (fun _ _ _ h => h) (Or.inl ⟨by rfl, fun wS hSw => by (try dsimp only at hSw); go_simp⟩) hHeld ?_
      try simp only [Act.put, List.setIfInBounds_toArray, List.set_cons_zero, List.set_cons_succ]
      refine wpAnyH_take (i := 7) (v := (pkV y.1 y.2)) (get_ops _ _ _ rfl) (by kernel_rfl) (by kernel_rfl) (by kernel_rfl) (fun _ _ _ h => h) (Or.inl ⟨by rfl, fun wS hSw => by (try dsimp only at hSw); exact exec_load 42 _ rfl ⟨b', o' + k * 34, none⟩ (by go_simp) _ (load_pk hSw.2)⟩) hHeld ?_
      try simp only [Act.put, List.setIfInBounds_toArray, List.set_cons_zero, List.set_cons_succ]
      refine wpAnyH_ready (rs := [8]) (by kernel_rfl) (by simp) ?_
      refine (AllReadyH.cons (get_ops _ _ _ rfl) (fun K hK => ?_) AllReadyH.nil)
      go_simp
      refine (HSAME.out u1 P_u1.out Q_u1.out).mono ?_
      rintro e u2 ⟨rfl, hb⟩
      have B_u2 : Hid (Below w.heap.size w u2) := Lib.hid (stepB B_u1.out hb)
      have C_u2 : Hid (∀ i v, (gK z)[i]? = some v → u2.cell? ⟨b, o + k * 34 + i, none⟩ = some v) := Lib.hid (cells_stepG C_u1.out hb)
      have D_u2 : Hid (∀ i v, (gK y)[i]? = some v → u2.cell? ⟨b', o' + k * 34 + i, none⟩ = some v) := Lib.hid (cells_stepG D_u1.out hb)
      have P_u2 : Hid (KP u2 u2.heap.size z) := Lib.hid ((KP.below P_u1.out hb).more hb.size)
      have Q_u2 : Hid (KP u2 u2.heap.size y) := Lib.hid ((KP.below Q_u1.out hb).more hb.size)
      clear B_u1 C_u1 D_u1 P_u1 Q_u1
      clear hHeld hb
      go_wp2_with fail
      refine hK.out _ _ ⟨C_u2.out, D_u2.out⟩ (fun hHeld => ?_)
      clear hK K
      try simp only [Act.put, List.setIfInBounds_toArray, List.set_cons_zero, List.set_cons_succ]
      refine wpAnyH_take (i := 9) (v := .bool false) (get_ops _ _ _ rfl) (by kernel_rfl) (by kernel_rfl) (by kernel_rfl) (fun _ _ _ h => h) (Or.inl ⟨by rfl, fun wS hSw => by (try dsimp only at hSw); go_simp⟩) hHeld ?_
      try simp only [Act.put, List.setIfInBounds_toArray, List.set_cons_zero, List.set_cons_succ]
      refine wpAnyH_done (by kernel_rfl) ?_ _
      go_wp2
      go_roundg g
      case measure => omega
      case rel => exact ⟨k + 1, by have := HK.out; omega, by go_num, B_u2.out⟩
end Go.Proofs.YtmcocepjdhpecabGreatDoor
namespace Go.Proofs.YtmcocepjdhpecabGreatDoor
open Go.RowKit
open S2 (BK Put)

def exM : Msg := ⟨⟨#[116]⟩, ⟨#[]⟩, 2, false, 0, 0, ⟨#[]⟩, 0, []⟩
theorem ex1 : startR (2, [], [], 0) exM = ((2, [⟨1, 1, exM⟩], [1], 1), pubP ⟨1, 1, exM⟩ false, 0) := by kernel_rfl
theorem ex2 : handleR (2, [⟨1, 1, exM⟩], [1], 1) 5 1 = ((2, [⟨1, 2, exM⟩], [1], 1), [relP 1], 0) := by kernel_rfl
theorem ex3 : handleR (2, [⟨1, 2, exM⟩], [1], 1) 7 1 = ((2, [], [], 1), [], 0) := by kernel_rfl
def ackP (k : Int) : Pkt := { Pkt.zero with kind := k, id := 1 }
theorem one_of {α β : Type} {f : α → β} {xs : List α} {y : β} (h : xs.map f = [y]) : ∃ x, xs = [x] ∧ f x = y := by
  cases xs with
  | nil => cases h
  | cons a r =>
    cases r with
    | nil => simp at h; exact ⟨a, rfl, h⟩
    | cons b r => simp at h
theorem none_of {α β : Type} {f : α → β} {xs : List α} (h : xs.map f = []) : xs = [] := by simpa using h

set_option maxRecDepth 20000 in
set_option maxHeartbeats 4000000 in
theorem awake14_any (w : World) (hok : S1.Okw w) : Calls Tryz.prog 15 #[] w fun e w' => e = .returned (.bool true) ∧ Below w.heap.size w w' := by
  have HOK := Lib.hid hok
  have H1 := Lib.hid (fun w1 => new_any 2 w1)
  have H2 := Lib.hid (fun w1 ho => start_any 2 none 0 [] none 0 [] 0 exM none 0 w1 ho ⟨FI.nil _ _ _, Nat.le_refl _, CL.nil _ _ _, Nat.le_refl _⟩ (GL.nil _ _ _) (by decide) (by decide) (by decide) (fun x hx => by cases hx) (by decide) (by decide))
  rw [show startR (2, ([] : List FE).map FE.f, [], 0) exM = _ from ex1] at H2
  have H3 : Hid (∀ A c y A2 c2, y.f = ⟨1, 1, exM⟩ → ∀ w1, WOk w1 A c [y] A2 c2 [1] → Calls Tryz.prog 10 #[wv 2 A c [y] A2 c2 [1] 1, pkV (ackP 5) PA.zero] w1 (RetH ((2, [⟨1, 2, exM⟩], [1], 1), [relP 1], 0) w1)) := Lib.hid (fun A c y A2 c2 hy w1 h => by
    have h2 := handle_any 2 A c [y] A2 c2 [1] 1 (ackP 5) PA.zero w1 h (by simp) (fun x hx => by simp at hx; subst hx; rw [hy]; decide) (by decide) (fun x hx => by simp at hx; subst hx; rw [hy]; decide)
    rw [show handleR (2, [y].map FE.f, [1], 1) (ackP 5).kind (ackP 5).id = ((2, [⟨1, 2, exM⟩], [1], 1), [relP 1], 0) from (by show handleR (2, [y.f], [1], 1) 5 1 = ((2, [⟨1, 2, exM⟩], [1], 1), [relP 1], 0); rw [hy]; exact ex2)] at h2
    exact h2)
  have H4 : Hid (∀ A c y A2 c2, y.f = ⟨1, 2, exM⟩ → ∀ w1, WOk w1 A c [y] A2 c2 [1] → Calls Tryz.prog 10 #[wv 2 A c [y] A2 c2 [1] 1, pkV (ackP 7) PA.zero] w1 (RetH ((2, [], [], 1), [], 0) w1)) := Lib.hid (fun A c y A2 c2 hy w1 h => by
    have h2 := handle_any 2 A c [y] A2 c2 [1] 1 (ackP 7) PA.zero w1 h (by simp) (fun x hx => by simp at hx; subst hx; rw [hy]; decide) (by decide) (fun x hx => by simp at hx; subst hx; rw [hy]; decide)
    rw [show handleR (2, [y].map FE.f, [1], 1) (ackP 7).kind (ackP 7).id = ((2, [], [], 1), [], 0) from (by show handleR (2, [y.f], [1], 1) 7 1 = ((2, [], [], 1), [], 0); rw [hy]; exact ex3)] at h2
    exact h2)
  have H5 : Hid (∀ A c y A2 c2, y.f = ⟨1, 2, exM⟩ → ∀ w1, FI w1 w1.heap.size A [y] → Calls Tryz.prog 43 #[wv 2 A c [y] A2 c2 [1] 1] w1 (RetKs [relP 1] w1)) := Lib.hid (fun A c y A2 c2 hy w1 h => by
    have h2 := resend_any 2 A c [y] A2 c2 [1] 1 w1 h (by simp) (fun x hx => by simp at hx; subst hx; rw [hy]; decide)
    rw [show ([y].map FE.f).map againP = [relP 1] from (by show [againP y.f] = _; rw [hy]; rfl)] at h2
    exact h2)
  have H6 := Lib.hid (fun A c y A2 c2 w1 => left_any 2 A c [y] A2 c2 [1] 1 w1 (by decide) (by decide) (by simp))
  have H7 := Lib.hid (fun A c A2 c2 w1 => left_any 2 A c [] A2 c2 [] 1 w1 (by decide) (by decide) (by decide))
  have H8 : Hid (∀ A c y A2 c2, y.f = ⟨1, 2, exM⟩ → ∀ w1, FI w1 w1.heap.size A [y] → Calls Tryz.prog 44 #[wv 2 A c [y] A2 c2 [1] 1] w1 (RetMs [exM] w1)) := Lib.hid (fun A c y A2 c2 hy w1 h => by
    have h2 := messages_any 2 A c [y] A2 c2 [1] 1 w1 h (by simp) (fun x hx => by simp at hx; subst hx; rw [hy]; decide)
    rw [show ([y].map FE.f).map Fl.m = [exM] from (by show [y.f.m] = _; rw [hy])] at h2
    exact h2)
  have e6 : ∀ y : FE, leftR 2 [y].length = 1 := fun _ => rfl
  have e7 : leftR 2 ([] : List FE).length = 2 := rfl
  simp only [e6] at H6
  rw [e7] at H7
  clear e6 e7
  clear hok
  go_enter Tryz.func15, Tryz.ntmps15
  go_wp2_with fail
  refine (H1.out w).mono ?_
  rintro e w1 ⟨rfl, hb1⟩
  have B_w1 := Lib.hid hb1
  clear hb1 H1
  go_wp2_with fail
  refine (H2.out w1 (HOK.out.step B_w1.out)).mono ?_
  rintro e w2 ⟨A, c, ys, A2, c2, a3, c3, rfl, hys, hok2, _, hpl3, _, hb⟩
  obtain ⟨y, rfl, hy⟩ := one_of hys
  have HY := Lib.hid hy
  have O_w2 := Lib.hid hok2
  have B_w2 := Lib.hid (stepB B_w1.out hb)
  clear hb hys hok2 hpl3 hy H2 B_w1
  go_upto_region 2 with first
    | (refine S2.wpList_store_all (by rfl) 28 (.tmp 1) (.tmp 15) rfl rfl w2.heap.size rfl (wcs 2 A c [y] A2 c2 [1] 1) rfl 28 (wcs 0 none 0 [] none 0 [] 0) ((BK.new w2 _ _).alloc _) winSize rfl (ones rfl) ?_; intro w3 hM hP; have T_w3 : Hid (BK 28 w3 w2.heap.size (wcs 2 A c [y] A2 c2 [1] 1)) := Lib.hid hM; have K_w3 : Hid (BK 42 w3 (w2.heap.size + 1) zeroPk) := Lib.hid (hP.other (by have h := BK.new (w2.alloc (.cells (wcs 0 none 0 [] none 0 [] 0).toArray 28)) 42 zeroPk; rw [show (w2.alloc (.cells (wcs 0 none 0 [] none 0 [] 0).toArray 28)).heap.size = w2.heap.size + 1 by simp] at h; exact h) (by omega)); have C_w3 : Hid (Below w2.heap.size w2 w3) := Lib.hid (hP.below (stepB (S2.below_new w2 _) (S2.below_new _ _)) (Nat.le_refl _)); clear hM hP)
    | (refine S2.wpList_store_all (by rfl) 42 (.tmp 2) (.tmp 16) rfl rfl (w2.heap.size + 1) rfl (pkC (pubP ⟨1, 1, exM⟩ false) (pubA a3 c3)) rfl 42 zeroPk K_w3.out pktSize rfl (pkOnes _ _) ?_; intro w4 hM hP; have T_w4 := Lib.hid (hP.other T_w3.out (by omega)); have K_w4 : Hid (BK 42 w4 (w2.heap.size + 1) (pkC (pubP ⟨1, 1, exM⟩ false) (pubA a3 c3))) := Lib.hid hM; have C_w4 : Hid (Below w2.heap.size w2 w4) := Lib.hid (hP.below C_w3.out (by omega)); clear hM hP T_w3 K_w3 C_w3)
  have O_w4 := Lib.hid (O_w2.out.step C_w4.out)
  have B_w4 := Lib.hid (stepB B_w2.out C_w4.out)
  clear O_w2 B_w2 C_w4
  go_wp2_with first
    | (refine wpList_load_v (by rfl) 28 (.tmp 1) rfl ⟨w2.heap.size, 0, none⟩ rfl (wv 2 A c [y] A2 c2 [1] 1) (S2.run_load_all T_w4.out Tryz.underlying28 rfl winSize) ?_)
  refine (H3.out A c y A2 c2 HY.out w4 O_w4.out).mono ?_
  rintro e w5 ⟨A5, c5, ys, A6, c6, A7, c7, ks, rfl, hys, hok5, _, hks, hks5, hb⟩
  obtain ⟨y5, rfl, hy5⟩ := one_of hys
  obtain ⟨z, rfl, hz⟩ := one_of hks
  have HY5 := Lib.hid hy5
  have HZ := Lib.hid hz
  have O_w5 := Lib.hid hok5
  have S_w5 := Lib.hid hks5
  have K_w5 := Lib.hid (K_w4.out.step hb)
  have B_w5 := Lib.hid (stepB B_w4.out hb)
  clear hb hys hok5 hks5 hy5 hks hz H3 T_w4 K_w4 O_w4 B_w4
  go_wp2_with first
    | (refine S2.wpList_store_all (by rfl) 28 (.tmp 4) (.tmp 22) rfl rfl w5.heap.size rfl (wcs 2 A5 c5 [y5] A6 c6 [1] 1) rfl 28 (wcs 0 none 0 [] none 0 [] 0) (BK.new w5 _ _) winSize rfl (ones rfl) ?_; intro w6 hM hP; have V_w6 : Hid (BK 28 w6 w5.heap.size (wcs 2 A5 c5 [y5] A6 c6 [1] 1)) := Lib.hid hM; have hbx : Below w5.heap.size w5 w6 := hP.below (S2.below_new w5 _) (Nat.le_refl _); have K_w6 := Lib.hid (K_w5.out.step hbx); have O_w6 := Lib.hid (O_w5.out.step hbx); have S_w6 := Lib.hid (S_w5.out.step hbx); have B_w6 := Lib.hid (stepB B_w5.out hbx); clear hM hP hbx K_w5 O_w5 S_w5 B_w5)
    | (refine wpList_load_v (by rfl) 28 (.tmp 4) rfl ⟨w5.heap.size, 0, none⟩ rfl (wv 2 A5 c5 [y5] A6 c6 [1] 1) (S2.run_load_all V_w6.out Tryz.underlying28 rfl winSize) ?_)
  refine (H4.out A5 c5 y5 A6 c6 HY5.out w6 O_w6.out).mono ?_
  rintro e w7 ⟨A8, c8, ys, A9, c9, A10, c10, ks, rfl, hys, _, _, hks, _, hb⟩
  obtain rfl := none_of hys
  obtain rfl := none_of hks
  have V_w7 := Lib.hid (V_w6.out.step hb)
  have K_w7 := Lib.hid (K_w6.out.step hb)
  have O_w7 := Lib.hid (O_w6.out.step hb)
  have S_w7 := Lib.hid (S_w6.out.step hb)
  have B_w7 := Lib.hid (stepB B_w6.out hb)
  clear hb hys hks H4 V_w6 K_w6 O_w6 S_w6 B_w6
  go_wp2_with first
    | (refine S2.wpList_store_all (by rfl) 28 (.tmp 7) (.tmp 29) rfl rfl w7.heap.size rfl (wcs 2 A8 c8 [] A9 c9 [] 1) rfl 28 (wcs 0 none 0 [] none 0 [] 0) (BK.new w7 _ _) winSize rfl (ones rfl) ?_; intro w8 hM hP; have U_w8 : Hid (BK 28 w8 w7.heap.size (wcs 2 A8 c8 [] A9 c9 [] 1)) := Lib.hid hM; have hbx : Below w7.heap.size w7 w8 := hP.below (S2.below_new w7 _) (Nat.le_refl _); have K_w8 := Lib.hid (K_w7.out.step hbx); have V_w8 := Lib.hid (V_w7.out.step hbx); have O_w8 := Lib.hid (O_w7.out.step hbx); have S_w8 := Lib.hid (S_w7.out.step hbx); have B_w8 := Lib.hid (stepB B_w7.out hbx); clear hM hP hbx K_w7 V_w7 O_w7 S_w7 B_w7)
    | (refine wpList_load_v (by rfl) 28 (.tmp 4) rfl ⟨w5.heap.size, 0, none⟩ rfl (wv 2 A5 c5 [y5] A6 c6 [1] 1) (S2.run_load_all V_w8.out Tryz.underlying28 rfl winSize) ?_)
  refine (H5.out A5 c5 y5 A6 c6 HY5.out w8 O_w8.out.1).mono ?_
  rintro e w9 ⟨A11, c11, ks, rfl, hks, hks9, _, hb⟩
  obtain ⟨z9, rfl, hz9⟩ := one_of hks
  have K_w9 := Lib.hid (K_w8.out.step hb)
  have V_w9 := Lib.hid (V_w8.out.step hb)
  have U_w9 := Lib.hid (U_w8.out.step hb)
  have O_w9 := Lib.hid (O_w8.out.step hb)
  have B_w9 := Lib.hid (stepB B_w8.out hb)
  obtain ⟨b1, o1, hA7, _, hc1⟩ := (S_w8.out.step hb).1 (by simp)
  obtain ⟨b2, o2, hA11, _, hc2⟩ := hks9.1 (by simp)
  subst hA7 hA11
  have k1 := hc1 0 z 0 _ rfl (pk0 z.1 z.2)
  have k2 := hc1 0 z 1 _ rfl (pk1 z.1 z.2)
  have k3 := hc2 0 z9 0 _ rfl (pk0 z9.1 z9.2)
  rw [HZ.out] at k1 k2
  rw [hz9] at k3
  simp only [Nat.zero_mul, Nat.add_zero] at k1 k2 k3
  have k1' : w9.cell? ⟨b1, o1, none⟩ = some (.int .i64 6) := k1
  have k2' : w9.cell? ⟨b1, o1 + 1, none⟩ = some (.int .i64 1) := k2
  have k3' : w9.cell? ⟨b2, o2, none⟩ = some (.int .i64 6) := k3
  have d0 : w9.cell? ⟨w2.heap.size + 1, 0, none⟩ = some (.int .i64 3) := K_w9.out.cell 0 rfl
  have d1 : w9.cell? ⟨w2.heap.size + 1, 1, none⟩ = some (.int .i64 1) := K_w9.out.cell 1 rfl
  have d2 : w9.cell? ⟨w2.heap.size + 1, 2, none⟩ = some (.bool false) := K_w9.out.cell 2 rfl
  have d3 : w9.cell? ⟨w2.heap.size + 1, 3, none⟩ = some (.string ⟨#[116]⟩) := K_w9.out.cell 3 rfl
  clear hb hks hks9 hz9 hc1 hc2 k1 k2 k3 H5 K_w8 V_w8 U_w8 O_w8 S_w8 B_w8 K_w9
  go_wp2_with first
    | (refine wpList_load_v (by rfl) 28 (.tmp 4) rfl ⟨w5.heap.size, 0, none⟩ rfl (wv 2 A5 c5 [y5] A6 c6 [1] 1) (S2.run_load_all V_w9.out Tryz.underlying28 rfl winSize) ?_)
  refine (H6.out A5 c5 y5 A6 c6 w9).mono ?_
  rintro e w10 ⟨rfl, hb⟩
  have V_w10 := Lib.hid (V_w9.out.step hb)
  have U_w10 := Lib.hid (U_w9.out.step hb)
  have O_w10 := Lib.hid (O_w9.out.step hb)
  have B_w10 := Lib.hid (stepB B_w9.out hb)
  clear hb d0 d1 d2 d3 k1' k2' k3' H6 V_w9 U_w9 O_w9 B_w9
  go_wp2_with first
    | (refine wpList_load_v (by rfl) 28 (.tmp 7) rfl ⟨w7.heap.size, 0, none⟩ rfl (wv 2 A8 c8 [] A9 c9 [] 1) (S2.run_load_all U_w10.out Tryz.underlying28 rfl winSize) ?_)
  refine (H7.out A8 c8 A9 c9 w10).mono ?_
  rintro e w11 ⟨rfl, hb⟩
  have V_w11 := Lib.hid (V_w10.out.step hb)
  have O_w11 := Lib.hid (O_w10.out.step hb)
  have B_w11 := Lib.hid (stepB B_w10.out hb)
  clear hb H7 V_w10 U_w10 O_w10 B_w10
  go_wp2_with first
    | (refine wpList_load_v (by rfl) 28 (.tmp 4) rfl ⟨w5.heap.size, 0, none⟩ rfl (wv 2 A5 c5 [y5] A6 c6 [1] 1) (S2.run_load_all V_w11.out Tryz.underlying28 rfl winSize) ?_)
  refine (H8.out A5 c5 y5 A6 c6 HY5.out w11 O_w11.out.1).mono ?_
  rintro e w12 ⟨A13, c13, ks, rfl, hks, _, _, hb⟩
  obtain ⟨z12, rfl, _⟩ := one_of hks
  have B_w12 := Lib.hid (stepB B_w11.out hb)
  clear hb hks
  go_wp2
  go_ret
  exact ⟨rfl, B_w12.out⟩
end Go.Proofs.YtmcocepjdhpecabGreatDoor
namespace Go.Proofs.YtmcocepjdhpecabGreatDoor
open Go.RowKit
open S2 (BK Put)

theorem items_all {F : List Fl} {X : List Int} : ∀ (r : List Fl) (i : Nat), itemsR F X i r = 0 → ∀ x ∈ r, checkR x.m = 0
  | [], _, _ => fun x hx => by cases hx
  | y :: r, i, h => fun x hx => by
    have he : itemsR F X i (y :: r) = if itemR F X i y ≠ 0 then itemR F X i y else itemsR F X (i + 1) r := rfl
    rw [he] at h
    by_cases h0 : itemR F X i y = 0
    · rw [if_neg (by simpa using h0)] at h
      rcases List.mem_cons.1 hx with rfl | hx
      · have hc := item_cases h0
        by_cases hin : x.id ∈ X
        · have h2 := hc.2 hin
          by_cases hp : posF F x.id < i
          · have := h2.1 hp; omega
          · by_cases hk : checkR x.m = 0
            · exact hk
            · have := (h2.2 hp).1 hk; omega
        · have := hc.1 hin; omega
      · exact items_all r (i + 1) h x hx
    · rw [if_pos h0] at h
      exact absurd h h0
/-- what a valid window is -/
theorem win_ok {L : Int} {F : List Fl} {X : List Int} {l : Int} (h : winR (L, F, X, l) = 0) : (0 ≤ L ∧ L ≤ 32) ∧ F.length ≤ 32 ∧ S2.ckI X l = 0 ∧ (∀ x ∈ F, checkR x.m = 0) ∧ X.length ≤ F.length := by
  have hc := win_cases h
  by_cases h1 : L < 0 ∨ 32 < L
  · have := hc.1 h1; omega
  have h2 := hc.2 h1
  by_cases h3 : S2.ckI X l = 0
  rotate_left
  · have := h2.1 h3; omega
  have h4 := h2.2 h3
  by_cases h5 : 32 < F.length
  · have := h4.1 h5; omega
  have h6 := h4.2 h5
  by_cases h7 : itemsR F X 0 F = 0
  rotate_left
  · have := h6.1 h7; omega
  have h8 := h6.2 h7
  by_cases h9 : F.length < X.length
  · have := h8.1 h9; omega
  exact ⟨by omega, by omega, h3, items_all F 0 h7, by omega⟩

end Go.Proofs.YtmcocepjdhpecabGreatDoor
namespace Go.Proofs.YtmcocepjdhpecabGreatDoor
open Go.RowKit
open S2 (BK Put)

theorem cells_at0 {L : List Value} {w : World} {b k : Nat} {v : Value} (h : ∀ i u, L[i]? = some u → w.cell? ⟨b, k + i, none⟩ = some u) (hv : L[0]? = some v) : w.cell? ⟨b, k, none⟩ = some v := h 0 v hv

set_option maxRecDepth 20000 in
set_option maxHeartbeats 8000000 in
theorem rwsame_any (L : Int) (A : Option Addr) (c : Nat) (xs : List FE) (A2 : Option Addr) (c2 : Nat) (X : List Int) (l : Int) (B : Option Addr) (d : Nat) (ys : List FE) (B2 : Option Addr) (d2 : Nat) (w : World) (h1 : WOk w A c xs A2 c2 X) (h2 : WOk w B d ys B2 d2 X) (he : xs.map FE.f = ys.map FE.f) (hn : xs.length ≤ 100000) (hp : ∀ x ∈ xs, x.f.m.props.length ≤ 100000) (hX : X.length ≤ 100000) :
    Calls Tryz.prog 5 #[wv L A c xs A2 c2 X l, wv L B d ys B2 d2 X l] w fun e w' => e = .returned (.bool true) ∧ Below w.heap.size w w' := by
  have hl : ys.length = xs.length := by have := congrArg List.length he; simpa using this.symm
  have HI : Hid (∀ w1, S2.IL w1 w1.heap.size A2 X → S2.IL w1 w1.heap.size B2 X → Calls Tryz.prog 16 #[S2.pv A2 c2 X l, S2.pv B2 d2 X l] w1 fun e w' => e = .returned (.bool true) ∧ Below w1.heap.size w1 w') := Lib.hid (fun w1 g1 g2 => by
    have := S2.rSame_any A2 B2 c2 d2 X X l l w1 g1 g2 (by omega) (by omega)
    rwa [decide_eq_true rfl] at this)
  have HSM : Hid (∀ (f : Fl) (a : Option Addr) (ca : Nat) (a' : Option Addr) (ca' : Nat) w1, f.m.props.length ≤ 100000 → PL w1 w1.heap.size a f.m.props → PL w1 w1.heap.size a' f.m.props → Calls Tryz.prog 17 #[msgV f.m a ca, msgV f.m a' ca'] w1 fun e w' => e = .returned (.bool true) ∧ Below w1.heap.size w1 w') := Lib.hid (fun f a ca a' ca' w1 hn g1 g2 => by
    have := rSame_any f.m f.m a a' ca ca' w1 g1 g2 (by omega)
    rwa [sameM_refl] at this)
  have HE := Lib.hid he
  have HP := Lib.hid hp
  have H1 := Lib.hid h1
  have H2 := Lib.hid h2
  have q0 : (L != L) = false := by simp
  have q1 : ((xs.length : Int) != (xs.length : Int)) = false := by simp
  have hwy : wv L B d ys B2 d2 X l = .agg #[.int .i64 L, .slice B xs.length d, .slice B2 X.length d2, .int .i64 l] := by unfold wv; rw [hl]
  have hcy : wcs L B d ys B2 d2 X l = [.int .i64 L, .slice B xs.length d, .slice B2 X.length d2, .int .i64 l] := by unfold wcs; rw [hl]
  rw [hwy]
  have HCY := Lib.hid hcy
  clear h1 h2 he hp hwy hcy
  go_enter Tryz.func5, Tryz.ntmps5
  go_upto_region 1 with fail
  refine name_world (C := fun w1 => Code.wp _ _ _ _ w1) ((w.alloc (.cells (wcs L A c xs A2 c2 X l).toArray 28)).alloc (.cells ([.int .i64 L, .slice B xs.length d, .slice B2 X.length d2, .int .i64 l] : List Value).toArray 28)) ?_
  intro w1 hw1
  obtain ⟨t1, t2, hs0, hB0⟩ := S2.two_laid (v1 := wcs L A c xs A2 c2 X l) (v2 := [.int .i64 L, .slice B xs.length d, .slice B2 X.length d2, .int .i64 l]) hw1
  have T1 := Lib.hid t1
  have T2 := Lib.hid t2
  have T2Y : Hid (BK 28 w1 (w.heap.size + 1) (wcs L B d ys B2 d2 X l)) := Lib.hid (by rw [HCY.out]; exact t2)
  have HB := Lib.hid hB0
  have O1 := Lib.hid (H1.out.step hB0)
  have O2 := Lib.hid (H2.out.step hB0)
  have d0 := t1.cell 0 rfl
  have e0 := t2.cell 0 rfl
  have d1 := t1.cell 1 rfl
  have e1 := t2.cell 1 rfl
  clear hw1 t1 t2 hs0 hB0
  go_wp2_with first
    | (refine wpList_load_v (by rfl) 26 _ rfl ⟨w.heap.size, 2, none⟩ rfl (S2.pv A2 c2 X l) (bk_pool T1.out) ?_)
    | (refine wpList_load_v (by rfl) 26 _ rfl ⟨w.heap.size + 1, 2, none⟩ rfl (S2.pv B2 d2 X l) (bk_pool T2Y.out) ?_)
  refine (HI.out w1 O1.out.2.2.1 O2.out.2.2.1).mono ?_
  rintro e w2 ⟨rfl, hb⟩
  have B_w2 := Lib.hid (stepB HB.out hb)
  have T_w2 := Lib.hid (T1.out.step hb)
  have U_w2 := Lib.hid (T2.out.step hb)
  have O_w2 := Lib.hid (O1.out.step hb)
  have Q_w2 := Lib.hid (O2.out.step hb)
  have f1 := T_w2.out.cell 1 rfl
  have g1 := U_w2.out.cell 1 rfl
  clear hb d0 e0 d1 e1 T1 T2 T2Y HI HB O1 O2
  go_wp2_with fail
  clear f1 g1
  go_loopg [5] xs.length (fun g v wr => ∃ k : Nat, k + g = xs.length ∧ v = .int .i64 k ∧ Below w2.heap.size w2 wr)
  case atStart => exact ⟨0, by omega, rfl, Below.refl _ _⟩
  case round =>
    obtain ⟨k, hkg, rfl, hb0⟩ := hrel
    have HB0 := Lib.hid hb0
    have HK := Lib.hid hkg
    have T_wr := Lib.hid (T_w2.out.step hb0)
    have U_wr := Lib.hid (U_w2.out.step hb0)
    have O_wr := Lib.hid (O_w2.out.step hb0)
    have Q_wr := Lib.hid (Q_w2.out.step hb0)
    have B_wr := Lib.hid (stepB B_w2.out hb0)
    have f1 := T_wr.out.cell 1 rfl
    clear hb0
    cases gk with
    | zero =>
      obtain rfl : k = xs.length := by omega
      clear hkg
      go_wp2
      go_ret
      exact ⟨rfl, B_wr.out⟩
    | succ g =>
      have hlt : k < xs.length := by omega
      have e3 : decide ((k : Int) < (xs.length : Int)) = true := decide_eq_true (by omega)
      have e3' : decide (k < xs.length) = true := decide_eq_true hlt
      obtain ⟨x, hx⟩ : ∃ x, xs[k]? = some x := ⟨_, List.getElem?_eq_getElem hlt⟩
      obtain ⟨y, hy⟩ : ∃ y, ys[k]? = some y := ⟨_, List.getElem?_eq_getElem (by omega)⟩
      have hxy : y.f = x.f := by
        have h1 : (xs.map FE.f)[k]? = some x.f := by rw [List.getElem?_map, hx]; rfl
        have h2 : (ys.map FE.f)[k]? = some y.f := by rw [List.getElem?_map, hy]; rfl
        rw [HE.out, h2] at h1
        exact Option.some.inj h1
      obtain ⟨fy, ay, cy⟩ := y
      obtain ⟨fx, ax, cx⟩ := x
      dsimp only at hxy
      subst hxy
      obtain ⟨b, o, hA3, hbB, hc, hpl⟩ := O_wr.out.1.at_ hx
      obtain ⟨b', o', hB3, hbB', hc', hpl'⟩ := Q_wr.out.1.at_ hy
      have HS1 := Lib.hid (HSM.out fy ax cx ay cy)
      have HPX : Hid (fy.m.props.length ≤ 100000) := Lib.hid (HP.out _ (List.mem_of_getElem? hx))
      have C_wr : Hid (∀ i v, (gF ⟨fy, ax, cx⟩)[i]? = some v → wr.cell? ⟨b, o + k * 11 + i, none⟩ = some v) := Lib.hid hc
      have D_wr : Hid (∀ i v, (gF ⟨fy, ay, cy⟩)[i]? = some v → wr.cell? ⟨b', o' + k * 11 + i, none⟩ = some v) := Lib.hid hc'
      have P_wr : Hid (PL wr wr.heap.size ax fy.m.props) := Lib.hid hpl
      have R_wr : Hid (PL wr wr.heap.size ay fy.m.props) := Lib.hid hpl'
      have H_wr := HB0
      subst hA3 hB3
      have j1 : (0 : Int) ≤ (k : Int) := by omega
      have j2 : (k : Int) < (xs.length : Int) := by omega
      have hlk : k ≤ 100000 := by omega
      clear hx hy hc hc' hpl hpl' hbB hbB' hkg HSM O_wr Q_wr B_wr
      go_upto_region 6 with fail
      clear f1
      obtain ⟨u1, hu1⟩ : ∃ u1, u1 = World.drew wr := ⟨_, rfl⟩
      have hbD : Below wr.heap.size wr u1 := by rw [hu1]; exact (Below.refl _ _).drew
      have H_u1 : Hid (Below w2.heap.size w2 u1) := Lib.hid (stepB H_wr.out hbD)
      have T_u1 : Hid (BK 28 u1 w.heap.size (wcs L (some ⟨b, o, none⟩) c xs A2 c2 X l)) := Lib.hid (BK.step T_wr.out hbD)
      have U_u1 : Hid (BK 28 u1 (w.heap.size + 1) [.int .i64 L, .slice (some ⟨b', o', none⟩) xs.length d, .slice B2 X.length d2, .int .i64 l]) := Lib.hid (BK.step U_wr.out hbD)
      have C_u1 : Hid (∀ i v, (gF ⟨fy, ax, cx⟩)[i]? = some v → u1.cell? ⟨b, o + k * 11 + i, none⟩ = some v) := Lib.hid (cells_stepG C_wr.out hbD)
      have D_u1 : Hid (∀ i v, (gF ⟨fy, ay, cy⟩)[i]? = some v → u1.cell? ⟨b', o' + k * 11 + i, none⟩ = some v) := Lib.hid (cells_stepG D_wr.out hbD)
      have P_u1 : Hid (PL u1 u1.heap.size ax fy.m.props) := Lib.hid (GL.step P_wr.out hbD)
      have R_u1 : Hid (PL u1 u1.heap.size ay fy.m.props) := Lib.hid (GL.step R_wr.out hbD)
      clear H_wr T_wr U_wr C_wr D_wr P_wr R_wr
      have hbd : (fun w' => BK 28 w' w.heap.size (wcs L (some ⟨b, o, none⟩) c xs A2 c2 X l) ∧ BK 28 w' (w.heap.size + 1) [.int .i64 L, .slice (some ⟨b', o', none⟩) xs.length d, .slice B2 X.length d2, .int .i64 l] ∧ (∀ i v, (gF ⟨fy, ax, cx⟩)[i]? = some v → w'.cell? ⟨b, o + k * 11 + i, none⟩ = some v) ∧ (∀ i v, (gF ⟨fy, ay, cy⟩)[i]? = some v → w'.cell? ⟨b', o' + k * 11 + i, none⟩ = some v)) (World.drew wr) := by rw [← hu1]; exact ⟨T_u1.out, U_u1.out, C_u1.out, D_u1.out⟩
      have hSD : (fun w' => BK 28 w' w.heap.size (wcs L (some ⟨b, o, none⟩) c xs A2 c2 X l) ∧ BK 28 w' (w.heap.size + 1) [.int .i64 L, .slice (some ⟨b', o', none⟩) xs.length d, .slice B2 X.length d2, .int .i64 l] ∧ (∀ i v, (gF ⟨fy, ax, cx⟩)[i]? = some v → w'.cell? ⟨b, o + k * 11 + i, none⟩ = some v) ∧ (∀ i v, (gF ⟨fy, ay, cy⟩)[i]? = some v → w'.cell? ⟨b', o' + k * 11 + i, none⟩ = some v)) u1 := ⟨T_u1.out, U_u1.out, C_u1.out, D_u1.out⟩
      have HWD := Lib.hid hu1
      clear hu1 hbD
      refine wp_region_held_drew (S := fun w' => BK 28 w' w.heap.size (wcs L (some ⟨b, o, none⟩) c xs A2 c2 X l) ∧ BK 28 w' (w.heap.size + 1) [.int .i64 L, .slice (some ⟨b', o', none⟩) xs.length d, .slice B2 X.length d2, .int .i64 l] ∧ (∀ i v, (gF ⟨fy, ax, cx⟩)[i]? = some v → w'.cell? ⟨b, o + k * 11 + i, none⟩ = some v) ∧ (∀ i v, (gF ⟨fy, ay, cy⟩)[i]? = some v → w'.cell? ⟨b', o' + k * 11 + i, none⟩ = some v)) (by kernel_rfl) hbd (fun hHeld => ?_)
      rw [← HWD.out]
      clear hHeld
      have hHeld := hSD
      clear hSD hbd HWD
      refine wpAnyH_take (i := 0) (v := (.pointer (some ⟨w.heap.size, 1, none⟩))) (get_ops _ _ _ rfl) (by kernel_rfl) (by kernel_rfl) (by kernel_rfl) (fun _ _ _ h => h) (Or.inl ⟨by rfl, fun wS hSw => by (try dsimp only at hSw); go_simp⟩) hHeld ?_
      try simp only [Act.put, List.setIfInBounds_toArray, List.set_cons_zero, List.set_cons_succ]
      refine wpAnyH_take (i := 1) (v := (.slice (some ⟨b, o, none⟩) xs.length c)) (get_ops _ _ _ rfl) (by kernel_rfl) (by kernel_rfl) (by kernel_rfl) (fun _ _ _ h => h) (Or.inl ⟨by rfl, fun wS hSw => by (try dsimp only at hSw); have cS : wS.cell? ⟨w.heap.size, 1, none⟩ = some (.slice (some ⟨b, o, none⟩) xs.length c) := hSw.1.cell 1 rfl; clear hSw; go_simp⟩) hHeld ?_
      try simp only [Act.put, List.setIfInBounds_toArray, List.set_cons_zero, List.set_cons_succ]
      refine wpAnyH_take (i := 2) (v := .int .i64 ((k : Int))) (get_ops _ _ _ rfl) (by kernel_rfl) (by kernel_rfl) (by kernel_rfl) (fun _ _ _ h => h) (Or.inl ⟨by rfl, fun wS hSw => by (try dsimp only at hSw); go_simp⟩) hHeld ?_
      try simp only [Act.put, List.setIfInBounds_toArray, List.set_cons_zero, List.set_cons_succ]
      refine wpAnyH_take (i := 3) (v := (.pointer (some ⟨b, o + k * 11, none⟩))) (get_ops _ _ _ rfl) (by kernel_rfl) (by kernel_rfl) (by kernel_rfl) (fun _ _ _ h => h) (Or.inl ⟨by rfl, fun wS hSw => by (try dsimp only at hSw); go_simp⟩) hHeld ?_
      try simp only [Act.put, List.setIfInBounds_toArray, List.set_cons_zero, List.set_cons_succ]
      refine wpAnyH_take (i := 4) (v := (.pointer (some ⟨b, o + k * 11, none⟩))) (get_ops _ _ _ rfl) (by kernel_rfl) (by kernel_rfl) (by kernel_rfl) (fun _ _ _ h => h) (Or.inl ⟨by rfl, fun wS hSw => by (try dsimp only at hSw); go_simp⟩) hHeld ?_
      try simp only [Act.put, List.setIfInBounds_toArray, List.set_cons_zero, List.set_cons_succ]
      refine wpAnyH_take (i := 5) (v := .int .i64 fy.id) (get_ops _ _ _ rfl) (by kernel_rfl) (by kernel_rfl) (by kernel_rfl) (fun _ _ _ h => h) (Or.inl ⟨by rfl, fun wS hSw => by (try dsimp only at hSw); have cS : wS.cell? ⟨b, o + k * 11, none⟩ = some (.int .i64 fy.id) := cells_at0 hSw.2.2.1 rfl; clear hSw; go_simp⟩) hHeld ?_
      try simp only [Act.put, List.setIfInBounds_toArray, List.set_cons_zero, List.set_cons_succ]
      refine wpAnyH_take (i := 6) (v := (.pointer (some ⟨w.heap.size + 1, 1, none⟩))) (get_ops _ _ _ rfl) (by kernel_rfl) (by kernel_rfl) (by kernel_rfl) (fun _ _ _ h => h) (Or.inl ⟨by rfl, fun wS hSw => by (try dsimp only at hSw); go_simp⟩) hHeld ?_
      try simp only [Act.put, List.setIfInBounds_toArray, List.set_cons_zero, List.set_cons_succ]
      refine wpAnyH_take (i := 7) (v := (.slice (some ⟨b', o', none⟩) xs.length d)) (get_ops _ _ _ rfl) (by kernel_rfl) (by kernel_rfl) (by kernel_rfl) (fun _ _ _ h => h) (Or.inl ⟨by rfl, fun wS hSw => by (try dsimp only at hSw); have cS : wS.cell? ⟨w.heap.size + 1, 1, none⟩ = some (.slice (some ⟨b', o', none⟩) xs.length d) := hSw.2.1.cell 1 rfl; clear hSw; go_simp⟩) hHeld ?_
      try simp only [Act.put, List.setIfInBounds_toArray, List.set_cons_zero, List.set_cons_succ]
      refine wpAnyH_take (i := 8) (v := .int .i64 ((k : Int))) (get_ops _ _ _ rfl) (by kernel_rfl) (by kernel_rfl) (by kernel_rfl) (fun _ _ _ h => h) (Or.inl ⟨by rfl, fun wS hSw => by (try dsimp only at hSw); go_simp⟩) hHeld ?_
      try simp only [Act.put, List.setIfInBounds_toArray, List.set_cons_zero, List.set_cons_succ]
      refine wpAnyH_take (i := 9) (v := (.pointer (some ⟨b', o' + k * 11, none⟩))) (get_ops _ _ _ rfl) (by kernel_rfl) (by kernel_rfl) (by kernel_rfl) (fun _ _ _ h => h) (Or.inl ⟨by rfl, fun wS hSw => by (try dsimp only at hSw); go_simp⟩) hHeld ?_
      try simp only [Act.put, List.setIfInBounds_toArray, List.set_cons_zero, List.set_cons_succ]
      refine wpAnyH_take (i := 10) (v := (.pointer (some ⟨b', o' + k * 11, none⟩))) (get_ops _ _ _ rfl) (by kernel_rfl) (by kernel_rfl) (by kernel_rfl) (fun _ _ _ h => h) (Or.inl ⟨by rfl, fun wS hSw => by (try dsimp only at hSw); go_simp⟩) hHeld ?_
      try simp only [Act.put, List.setIfInBounds_toArray, List.set_cons_zero, List.set_cons_succ]
      refine wpAnyH_take (i := 11) (v := .int .i64 fy.id) (get_ops _ _ _ rfl) (by kernel_rfl) (by kernel_rfl) (by kernel_rfl) (fun _ _ _ h => h) (Or.inl ⟨by rfl, fun wS hSw => by (try dsimp only at hSw); have cS : wS.cell? ⟨b', o' + k * 11, none⟩ = some (.int .i64 fy.id) := cells_at0 hSw.2.2.2 rfl; clear hSw; go_simp⟩) hHeld ?_
      try simp only [Act.put, List.setIfInBounds_toArray, List.set_cons_zero, List.set_cons_succ]
      refine wpAnyH_take (i := 12) (v := .bool false) (get_ops _ _ _ rfl) (by kernel_rfl) (by kernel_rfl) (by kernel_rfl) (fun _ _ _ h => h) (Or.inl ⟨by rfl, fun wS hSw => by (try dsimp only at hSw); go_simp⟩) hHeld ?_
      try simp only [Act.put, List.setIfInBounds_toArray, List.set_cons_zero, List.set_cons_succ]
      refine wpAnyH_take (i := 13) (v := .bool false) (get_ops _ _ _ rfl) (by kernel_rfl) (by kernel_rfl) (by kernel_rfl) (fun _ _ _ h => h) (Or.inl ⟨by rfl, fun wS hSw => by (try dsimp only at hSw); go_simp⟩) hHeld ?_
      try simp only [Act.put, List.setIfInBounds_toArray, List.set_cons_zero, List.set_cons_succ]
      refine wpAnyH_take (i := 14) (v := (.pointer (some ⟨w.heap.size, 1, none⟩))) (get_ops _ _ _ rfl) (by kernel_rfl) (by kernel_rfl) (by kernel_rfl) (fun _ _ _ h => h) (Or.inl ⟨by rfl, fun wS hSw => by (try dsimp only at hSw); go_simp⟩) hHeld ?_
      try simp only [Act.put, List.setIfInBounds_toArray, List.set_cons_zero, List.set_cons_succ]
      refine wpAnyH_take (i := 15) (v := (.slice (some ⟨b, o, none⟩) xs.length c)) (get_ops _ _ _ rfl) (by kernel_rfl) (by kernel_rfl) (by kernel_rfl) (fun _ _ _ h => h) (Or.inl ⟨by rfl, fun wS hSw => by (try dsimp only at hSw); have cS : wS.cell? ⟨w.heap.size, 1, none⟩ = some (.slice (some ⟨b, o, none⟩) xs.length c) := hSw.1.cell 1 rfl; clear hSw; go_simp⟩) hHeld ?_
      try simp only [Act.put, List.setIfInBounds_toArray, List.set_cons_zero, List.set_cons_succ]
      refine wpAnyH_take (i := 16) (v := .int .i64 ((k : Int))) (get_ops _ _ _ rfl) (by kernel_rfl) (by kernel_rfl) (by kernel_rfl) (fun _ _ _ h => h) (Or.inl ⟨by rfl, fun wS hSw => by (try dsimp only at hSw); go_simp⟩) hHeld ?_
      try simp only [Act.put, List.setIfInBounds_toArray, List.set_cons_zero, List.set_cons_succ]
      refine wpAnyH_take (i := 17) (v := (.pointer (some ⟨b, o + k * 11, none⟩))) (get_ops _ _ _ rfl) (by kernel_rfl) (by kernel_rfl) (by kernel_rfl) (fun _ _ _ h => h) (Or.inl ⟨by rfl, fun wS hSw => by (try dsimp only at hSw); go_simp⟩) hHeld ?_
      try simp only [Act.put, List.setIfInBounds_toArray, List.set_cons_zero, List.set_cons_succ]
      refine wpAnyH_take (i := 18) (v := (.pointer (some ⟨b, o + k * 11 + 1, none⟩))) (get_ops _ _ _ rfl) (by kernel_rfl) (by kernel_rfl) (by kernel_rfl) (fun _ _ _ h => h) (Or.inl ⟨by rfl, fun wS hSw => by (try dsimp only at hSw); go_simp⟩) hHeld ?_
      try simp only [Act.put, List.setIfInBounds_toArray, List.set_cons_zero, List.set_cons_succ]
      refine wpAnyH_take (i := 19) (v := .int .i64 fy.st) (get_ops _ _ _ rfl) (by kernel_rfl) (by kernel_rfl) (by kernel_rfl) (fun _ _ _ h => h) (Or.inl ⟨by rfl, fun wS hSw => by (try dsimp only at hSw); have cS : wS.cell? ⟨b, o + k * 11 + 1, none⟩ = some (.int .i64 fy.st) := hSw.2.2.1 1 _ rfl; clear hSw; go_simp⟩) hHeld ?_
      try simp only [Act.put, List.setIfInBounds_toArray, List.set_cons_zero, List.set_cons_succ]
      refine wpAnyH_take (i := 20) (v := (.pointer (some ⟨w.heap.size + 1, 1, none⟩))) (get_ops _ _ _ rfl) (by kernel_rfl) (by kernel_rfl) (by kernel_rfl) (fun _ _ _ h => h) (Or.inl ⟨by rfl, fun wS hSw => by (try dsimp only at hSw); go_simp⟩) hHeld ?_
      try simp only [Act.put, List.setIfInBounds_toArray, List.set_cons_zero, List.set_cons_succ]
      refine wpAnyH_take (i := 21) (v := (.slice (some ⟨b', o', none⟩) xs.length d)) (get_ops _ _ _ rfl) (by kernel_rfl) (by kernel_rfl) (by kernel_rfl) (fun _ _ _ h => h) (Or.inl ⟨by rfl, fun wS hSw => by (try dsimp only at hSw); have cS : wS.cell? ⟨w.heap.size + 1, 1, none⟩ = some (.slice (some ⟨b', o', none⟩) xs.length d) := hSw.2.1.cell 1 rfl; clear hSw; go_simp⟩) hHeld ?_
      try simp only [Act.put, List.setIfInBounds_toArray, List.set_cons_zero, List.set_cons_succ]
      refine wpAnyH_take (i := 22) (v := .int .i64 ((k : Int))) (get_ops _ _ _ rfl) (by kernel_rfl) (by kernel_rfl) (by kernel_rfl) (fun _ _ _ h => h) (Or.inl ⟨by rfl, fun wS hSw => by (try dsimp only at hSw); go_simp⟩) hHeld ?_
      try simp only [Act.put, List.setIfInBounds_toArray, List.set_cons_zero, List.set_cons_succ]
      refine wpAnyH_take (i := 23) (v := (.pointer (some ⟨b', o' + k * 11, none⟩))) (get_ops _ _ _ rfl) (by kernel_rfl) (by kernel_rfl) (by kernel_rfl) (fun _ _ _ h => h) (Or.inl ⟨by rfl, fun wS hSw => by (try dsimp only at hSw); go_simp⟩) hHeld ?_
      try simp only [Act.put, List.setIfInBounds_toArray, List.set_cons_zero, List.set_cons_succ]
      refine wpAnyH_take (i := 24) (v := (.pointer (some ⟨b', o' + k * 11 + 1, none⟩))) (get_ops _ _ _ rfl) (by kernel_rfl) (by kernel_rfl) (by kernel_rfl) (fun _ _ _ h => h) (Or.inl ⟨by rfl, fun wS hSw => by (try dsimp only at hSw); go_simp⟩) hHeld ?_
      try simp only [Act.put, List.setIfInBounds_toArray, List.set_cons_zero, List.set_cons_succ]
      refine wpAnyH_take (i := 25) (v := .int .i64 fy.st) (get_ops _ _ _ rfl) (by kernel_rfl) (by kernel_rfl) (by kernel_rfl) (fun _ _ _ h => h) (Or.inl ⟨by rfl, fun wS hSw => by (try dsimp only at hSw); have cS : wS.cell? ⟨b', o' + k * 11 + 1, none⟩ = some (.int .i64 fy.st) := hSw.2.2.2 1 _ rfl; clear hSw; go_simp⟩) hHeld ?_
      try simp only [Act.put, List.setIfInBounds_toArray, List.set_cons_zero, List.set_cons_succ]
      refine wpAnyH_take (i := 26) (v := .bool false) (get_ops _ _ _ rfl) (by kernel_rfl) (by kernel_rfl) (by kernel_rfl) (fun _ _ _ h => h) (Or.inl ⟨by rfl, fun wS hSw => by (try dsimp only at hSw); go_simp⟩) hHeld ?_
      try simp only [Act.put, List.setIfInBounds_toArray, List.set_cons_zero, List.set_cons_succ]
      refine wpAnyH_take (i := 27) (v := .bool false) (get_ops _ _ _ rfl) (by kernel_rfl) (by kernel_rfl) (by kernel_rfl) (fun _ _ _ h => h) (Or.inl ⟨by rfl, fun wS hSw => by (try dsimp only at hSw); go_simp⟩) hHeld ?_
      try simp only [Act.put, List.setIfInBounds_toArray, List.set_cons_zero, List.set_cons_succ]
      refine wpAnyH_take (i := 28) (v := .bool false) (get_ops _ _ _ rfl) (by kernel_rfl) (by kernel_rfl) (by kernel_rfl) (fun _ _ _ h => h) (Or.inl ⟨by rfl, fun wS hSw => by (try dsimp only at hSw); go_simp⟩) hHeld ?_
      try simp only [Act.put, List.setIfInBounds_toArray, List.set_cons_zero, List.set_cons_succ]
      refine wpAnyH_take (i := 29) (v := (.pointer (some ⟨w.heap.size, 1, none⟩))) (get_ops _ _ _ rfl) (by kernel_rfl) (by kernel_rfl) (by kernel_rfl) (fun _ _ _ h => h) (Or.inl ⟨by rfl, fun wS hSw => by (try dsimp only at hSw); go_simp⟩) hHeld ?_
      try simp only [Act.put, List.setIfInBounds_toArray, List.set_cons_zero, List.set_cons_succ]
      refine wpAnyH_take (i := 30) (v := (.slice (some ⟨b, o, none⟩) xs.length c)) (get_ops _ _ _ rfl) (by kernel_rfl) (by kernel_rfl) (by kernel_rfl) (fun _ _ _ h => h) (Or.inl ⟨by rfl, fun wS hSw => by (try dsimp only at hSw); have cS : wS.cell? ⟨w.heap.size, 1, none⟩ = some (.slice (some ⟨b, o, none⟩) xs.length c) := hSw.1.cell 1 rfl; clear hSw; go_simp⟩) hHeld ?_
      try simp only [Act.put, List.setIfInBounds_toArray, List.set_cons_zero, List.set_cons_succ]
      refine wpAnyH_take (i := 31) (v := .int .i64 ((k : Int))) (get_ops _ _ _ rfl) (by kernel_rfl) (by kernel_rfl) (by kernel_rfl) (fun _ _ _ h => h) (Or.inl ⟨by rfl, fun wS hSw => by (try dsimp only at hSw); go_simp⟩) hHeld ?_
      try simp only [Act.put, List.setIfInBounds_toArray, List.set_cons_zero, List.set_cons_succ]
      refine wpAnyH_take (i := 32) (v := (.pointer (some ⟨b, o + k * 11, none⟩))) (get_ops _ _ _ rfl) (by kernel_rfl) (by kernel_rfl) (by kernel_rfl) (fun _ _ _ h => h) (Or.inl ⟨by rfl, fun wS hSw => by (try dsimp only at hSw); go_simp⟩) hHeld ?_
      try simp only [Act.put, List.setIfInBounds_toArray, List.set_cons_zero, List.set_cons_succ]
      refine wpAnyH_take (i := 33) (v := (.pointer (some ⟨b, o + k * 11 + 2, none⟩))) (get_ops _ _ _ rfl) (by kernel_rfl) (by kernel_rfl) (by kernel_rfl) (fun _ _ _ h => h) (Or.inl ⟨by rfl, fun wS hSw => by (try dsimp only at hSw); go_simp⟩) hHeld ?_
      try simp only [Act.put, List.setIfInBounds_toArray, List.set_cons_zero, List.set_cons_succ]
      refine wpAnyH_take (i := 34) (v := (msgV fy.m ax cx)) (get_ops _ _ _ rfl) (by kernel_rfl) (by kernel_rfl) (by kernel_rfl) (fun _ _ _ h => h) (Or.inl ⟨by rfl, fun wS hSw => by (try dsimp only at hSw); exact exec_load 34 _ rfl ⟨b, o + k * 11 + 2, none⟩ (by go_simp) _ (load_item_msg hSw.2.2.1)⟩) hHeld ?_
      try simp only [Act.put, List.setIfInBounds_toArray, List.set_cons_zero, List.set_cons_succ]
      refine wpAnyH_take (i := 35) (v := (.pointer (some ⟨w.heap.size + 1, 1, none⟩))) (get_ops _ _ _ rfl) (by kernel_rfl) (by kernel_rfl) (by kernel_rfl) (fun _ _ _ h => h) (Or.inl ⟨by rfl, fun wS hSw => by (try dsimp only at hSw); go_simp⟩) hHeld ?_
      try simp only [Act.put, List.setIfInBounds_toArray, List.set_cons_zero, List.set_cons_succ]
      refine wpAnyH_take (i := 36) (v := (.slice (some ⟨b', o', none⟩) xs.length d)) (get_ops _ _ _ rfl) (by kernel_rfl) (by kernel_rfl) (by kernel_rfl) (fun _ _ _ h => h) (Or.inl ⟨by rfl, fun wS hSw => by (try dsimp only at hSw); have cS : wS.cell? ⟨w.heap.size + 1, 1, none⟩ = some (.slice (some ⟨b', o', none⟩) xs.length d) := hSw.2.1.cell 1 rfl; clear hSw; go_simp⟩) hHeld ?_
      try simp only [Act.put, List.setIfInBounds_toArray, List.set_cons_zero, List.set_cons_succ]
      refine wpAnyH_take (i := 37) (v := .int .i64 ((k : Int))) (get_ops _ _ _ rfl) (by kernel_rfl) (by kernel_rfl) (by kernel_rfl) (fun _ _ _ h => h) (Or.inl ⟨by rfl, fun wS hSw => by (try dsimp only at hSw); go_simp⟩) hHeld ?_
      try simp only [Act.put, List.setIfInBounds_toArray, List.set_cons_zero, List.set_cons_succ]
      refine wpAnyH_take (i := 38) (v := (.pointer (some ⟨b', o' + k * 11, none⟩))) (get_ops _ _ _ rfl) (by kernel_rfl) (by kernel_rfl) (by kernel_rfl) (fun _ _ _ h => h) (Or.inl ⟨by rfl, fun wS hSw => by (try dsimp only at hSw); go_simp⟩) hHeld ?_
      try simp only [Act.put, List.setIfInBounds_toArray, List.set_cons_zero, List.set_cons_succ]
      refine wpAnyH_take (i := 39) (v := (.pointer (some ⟨b', o' + k * 11 + 2, none⟩))) (get_ops _ _ _ rfl) (by kernel_rfl) (by kernel_rfl) (by kernel_rfl) (fun _ _ _ h => h) (Or.inl ⟨by rfl, fun wS hSw => by (try dsimp only at hSw); go_simp⟩) hHeld ?_
      try simp only [Act.put, List.setIfInBounds_toArray, List.set_cons_zero, List.set_cons_succ]
      refine wpAnyH_take (i := 40) (v := (msgV fy.m ay cy)) (get_ops _ _ _ rfl) (by kernel_rfl) (by kernel_rfl) (by kernel_rfl) (fun _ _ _ h => h) (Or.inl ⟨by rfl, fun wS hSw => by (try dsimp only at hSw); exact exec_load 34 _ rfl ⟨b', o' + k * 11 + 2, none⟩ (by go_simp) _ (load_item_msg hSw.2.2.2)⟩) hHeld ?_
      try simp only [Act.put, List.setIfInBounds_toArray, List.set_cons_zero, List.set_cons_succ]
      refine wpAnyH_ready (rs := [41]) (by kernel_rfl) (by simp) ?_
      refine (AllReadyH.cons (get_ops _ _ _ rfl) (fun K hK => ?_) AllReadyH.nil)
      go_simp
      refine (HS1.out u1 HPX.out P_u1.out R_u1.out).mono ?_
      rintro e u2 ⟨rfl, hb⟩
      have H_u2 : Hid (Below w2.heap.size w2 u2) := Lib.hid (stepB H_u1.out hb)
      have T_u2 : Hid (BK 28 u2 w.heap.size (wcs L (some ⟨b, o, none⟩) c xs A2 c2 X l)) := Lib.hid (BK.step T_u1.out hb)
      have U_u2 : Hid (BK 28 u2 (w.heap.size + 1) [.int .i64 L, .slice (some ⟨b', o', none⟩) xs.length d, .slice B2 X.length d2, .int .i64 l]) := Lib.hid (BK.step U_u1.out hb)
      have C_u2 : Hid (∀ i v, (gF ⟨fy, ax, cx⟩)[i]? = some v → u2.cell? ⟨b, o + k * 11 + i, none⟩ = some v) := Lib.hid (cells_stepG C_u1.out hb)
      have D_u2 : Hid (∀ i v, (gF ⟨fy, ay, cy⟩)[i]? = some v → u2.cell? ⟨b', o' + k * 11 + i, none⟩ = some v) := Lib.hid (cells_stepG D_u1.out hb)
      have P_u2 : Hid (PL u2 u2.heap.size ax fy.m.props) := Lib.hid (GL.step P_u1.out hb)
      have R_u2 : Hid (PL u2 u2.heap.size ay fy.m.props) := Lib.hid (GL.step R_u1.out hb)
      clear H_u1 T_u1 U_u1 C_u1 D_u1 P_u1 R_u1
      clear hHeld hb
      go_wp2_with fail
      refine hK.out _ _ ⟨T_u2.out, U_u2.out, C_u2.out, D_u2.out⟩ (fun hHeld => ?_)
      clear hK K
      try simp only [Act.put, List.setIfInBounds_toArray, List.set_cons_zero, List.set_cons_succ]
      refine wpAnyH_take (i := 42) (v := .bool false) (get_ops _ _ _ rfl) (by kernel_rfl) (by kernel_rfl) (by kernel_rfl) (fun _ _ _ h => h) (Or.inl ⟨by rfl, fun wS hSw => by (try dsimp only at hSw); go_simp⟩) hHeld ?_
      try simp only [Act.put, List.setIfInBounds_toArray, List.set_cons_zero, List.set_cons_succ]
      refine wpAnyH_take (i := 43) (v := .bool false) (get_ops _ _ _ rfl) (by kernel_rfl) (by kernel_rfl) (by kernel_rfl) (fun _ _ _ h => h) (Or.inl ⟨by rfl, fun wS hSw => by (try dsimp only at hSw); go_simp⟩) hHeld ?_
      try simp only [Act.put, List.setIfInBounds_toArray, List.set_cons_zero, List.set_cons_succ]
      refine wpAnyH_done (by kernel_rfl) ?_ _
      go_wp2
      go_roundg g
      case measure => omega
      case rel => exact ⟨k + 1, by have := HK.out; omega, by go_num, H_u2.out⟩
end Go.Proofs.YtmcocepjdhpecabGreatDoor
