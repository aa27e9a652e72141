/-
  What Pop of slow answers. Conditions: the list reads as data; few messages, with few properties.
-/
import Derived.Test.YtgnbiicfabldbabSc
namespace Go.Proofs.Ytgnbiicfabldbab
open Go.RowKit
open S2 (BK Put)

theorem sres4 {P : Program} {fn : Func} {p q r s : Tmp} {ty : TypeId} (h : fn.results = #[.cell p ty, .tmp q, .tmp r, .tmp s]) (tmps : Array Value) (w : World) (g : Nat) (t : TypeId) (vs : List Value) (d : TypeDesc) (v u z : Value)
    (hp : tmps.getD p undef = .pointer (some ⟨g, 0, none⟩)) (hq : tmps.getD q undef = v) (hr : tmps.getD r undef = u) (hs : tmps.getD s undef = z) (hg : BK t w g vs)
    (hu : P.underlying ty = some d) (hd : (match d with | .struct _ | .array _ _ => true | _ => false) = true) (hi : (P.info? ty).map (·.size) = some vs.length) :
    (results fn tmps).run P w = .ok (.tuple #[.agg vs.toArray, v, u, z]) w := by
  have hp' : tmps[p]?.getD undef = .pointer (some ⟨g, 0, none⟩) := by simpa using hp
  have hq' : tmps[q]?.getD undef = v := by simpa using hq
  have hr' : tmps[r]?.getD undef = u := by simpa using hr
  have hs' : tmps[s]?.getD undef = z := by simpa using hs
  simp [results, h, hp', hq', hr', hs', asAddr, S2.run_load_all hg hu hd hi]
/-- all ahead of k are expired -/
def Exps (q : List Msg) (now : Int) (k : Nat) : Prop := ∀ j m, j < k → q[j]? = some m → expiredR m now = true
theorem Exps.succ {q : List Msg} {now : Int} {k : Nat} {m : Msg} (h : Exps q now k) (hm : q[k]? = some m) (he : expiredR m now = true) : Exps q now (k + 1) := fun j m' hj hm' => by
  rcases Nat.lt_succ_iff_lt_or_eq.1 hj with h' | rfl
  · exact h j m' h' hm'
  · rw [hm] at hm'; rw [← Option.some.inj hm']; exact he
theorem at_found {q : List Msg} {now : Int} {k : Nat} {m : Msg} (h : Exps q now k) (hm : q[k]? = some m) (he : expiredR m now = false) : atR q now = k := by
  obtain ⟨hk, e⟩ := List.getElem?_eq_some_iff.1 hm
  unfold atR
  rw [List.findIdx_eq hk]
  refine ⟨by rw [e, he]; rfl, fun j hj => ?_⟩
  rw [h j _ hj (List.getElem?_eq_getElem (by omega))]; rfl
theorem at_none {q : List Msg} {now : Int} (h : Exps q now q.length) : q.length ≤ atR q now := by
  unfold atR
  rw [List.findIdx_eq_length.2 (fun m hm => by
    obtain ⟨j, hj⟩ := List.mem_iff_getElem?.1 hm
    rw [h j m (List.getElem?_eq_some_iff.1 hj).1 hj]; rfl)]
  exact Nat.le_refl _

set_option maxRecDepth 20000 in
set_option maxHeartbeats 4000000 in
theorem sPop_any (A : Option Addr) (c : Nat) (xs : List ME) (now : Int) (w : World) (hsl : MI w w.heap.size A xs) (hc : xs.length ≤ c) (hn : xs.length ≤ 90000) (hp : ∀ x ∈ xs, x.m.props.length ≤ 4398046511104) :
    Calls Try.prog 16 #[.slice A xs.length c, .int .i64 now] w (RetPo (xs.map ME.m) now w) := by
  have HE := Lib.hid (fun m a c w1 => expired_any m a c now w1)
  have HM := Lib.hid (fun m a c w1 h hl => sCloneMessage_any m a c w1 h hl)
  have HCL := Lib.hid (fun A c ys w1 h h1 h2 => sClone_any A c ys w1 h h1 h2)
  have HS := Lib.hid hsl
  have HP := Lib.hid hp
  have HC := Lib.hid hc
  have HN := Lib.hid hn
  clear hsl hp hc
  go_enter Try.func16, Try.ntmps16
  go_upto_region 1 with fail
  refine name_world (C := fun w1 => Code.wp _ _ _ _ w1) (w.alloc (.cells (msgC Msg.zero none 0).toArray 25)) ?_
  intro w1 hw1
  have hb1 : Below w.heap.size w w1 := by rw [hw1]; exact S2.below_new w _
  have G_w1 : Hid (BK 25 w1 w.heap.size (msgC Msg.zero none 0)) := Lib.hid (by rw [hw1]; exact BK.new w _ _)
  have B_w1 := Lib.hid hb1
  clear hw1 hb1
  go_wp2_with fail
  go_loopg [12] xs.length (fun g v wr => ∃ (k : Nat), k + g = xs.length ∧ v = .int .i64 k ∧ Exps (xs.map ME.m) now k ∧ BK 25 wr w.heap.size (msgC Msg.zero none 0) ∧ Below w.heap.size w wr)
  case atStart => exact ⟨0, by omega, rfl, (fun j m h => absurd h (by omega)), G_w1.out, B_w1.out⟩
  case round =>
    obtain ⟨k, hkg, rfl, hex, hg0, hb0⟩ := hrel
    have HEX := Lib.hid hex
    have G_wr := Lib.hid hg0
    have B_wr := Lib.hid hb0
    have HK := Lib.hid hkg
    clear hex hg0 hb0 G_w1 B_w1
    cases gk with
    | zero =>
      obtain rfl : k = xs.length := by omega
      clear hkg
      have CA := Lib.hid (HCL.out A c xs wr (HS.out.step B_wr.out) (by have := HN.out; omega) HP.out)
      go_wp2_with fail
      refine CA.out.mono ?_
      rintro e w2 ⟨v2, zs, rfl, hzs, hl2, hb2⟩
      obtain ⟨A2, c2, rfl, hc2, hmn⟩ := lstMN hl2
      have G_w2 := Lib.hid (G_wr.out.step hb2)
      have HL2 := Lib.hid (And.intro hzs hc2)
      have Z_w2 := Lib.hid hmn
      have HLT : Hid (w.heap.size < wr.heap.size) := Lib.hid G_wr.out.lt
      have B_w2 := Lib.hid (stepB B_wr.out hb2)
      clear hl2 hb2 hzs hc2 hmn CA G_wr B_wr
      go_wp2_with first
        | (refine S2.wpList_store_all (by rfl) 25 (.tmp 4) (.tmp 33) rfl rfl w.heap.size rfl (msgC Msg.zero none 0) rfl 25 (msgC Msg.zero none 0) G_w2.out msgSize rfl (msgC_one _ _ _) ?_; intro w3 hM hP; have G_w3 := Lib.hid hM; have Z_w3 := Lib.hid (Z_w2.out.put hP HLT.out); have B_w3 := Lib.hid (hP.below B_w2.out (Nat.le_refl _)); clear hM hP)
      exact bodyPost_ret (v := .tuple #[msgV Msg.zero none 0, .bool false, .slice none 0 0, .slice A2 zs.length c2]) (sres4 rfl _ _ w.heap.size 25 (msgC Msg.zero none 0) _ _ _ _ rfl rfl rfl rfl G_w3.out Try.underlying25 rfl msgSize) rfl ⟨Msg.zero, none, 0, none, 0, [], A2, c2, zs, false, rfl, Or.inr ⟨at_none (by rw [List.length_map]; exact HEX.out), rfl, rfl, rfl, HL2.out.1⟩, Nat.le_refl _, HL2.out.2, GL.nil _ _ _, LI.nil _ _ _, Z_w3.out.1, B_w3.out⟩
    | succ gk =>
      have hlt : k < xs.length := by omega
      have e3 : decide ((k : Int) < (xs.length : Int)) = true := decide_eq_true (by omega)
      obtain ⟨x, hx⟩ : ∃ x, xs[k]? = some x := ⟨_, List.getElem?_eq_getElem hlt⟩
      obtain ⟨b, o, hA, hbB, hcc, hpl⟩ := (HS.out.step B_wr.out).at_ hx
      have HLD := Lib.hid (load_msg hcc)
      have HXM : Hid ((xs.map ME.m)[k]? = some x.m) := Lib.hid (by rw [List.getElem?_map, hx]; rfl)
      have HPX := Lib.hid (HP.out x (List.mem_of_getElem? hx))
      have HPL : Hid (PL w w.heap.size x.a x.m.props) := Lib.hid (HS.out.2 x (List.mem_of_getElem? hx))
      obtain ⟨bE, hbE⟩ : ∃ b, expiredR x.m now = b := ⟨_, rfl⟩
      have HEXP := HE.out x.m x.a x.c
      rw [hbE] at HEXP
      have HCE := Lib.hid HEXP
      have HBE := Lib.hid hbE
      have HCM := Lib.hid (fun w1 h h1 => HM.out x.m x.a x.c w1 h h1)
      obtain ⟨AD, hAD⟩ : ∃ AD, AD = (if c = k + 1 then A else A.map (·.add ((k + 1) * 9))) := ⟨_, rfl⟩
      obtain ⟨cd, hcd⟩ : ∃ cd, cd = c - (k + 1) := ⟨_, rfl⟩
      obtain ⟨ds, hds⟩ : ∃ ds, ds = xs.drop (k + 1) := ⟨_, rfl⟩
      obtain ⟨ts, hts⟩ : ∃ ts, ts = xs.take k := ⟨_, rfl⟩
      have HDE : Hid (Value.slice AD ds.length cd = .slice (if c = k + 1 then A else A.map (·.add ((k + 1) * 9))) (xs.length - (k + 1)) (c - (k + 1))) := Lib.hid (by rw [hAD, hcd, hds, List.length_drop])
      have HTE : Hid (Value.slice A ts.length c = .slice A k c) := Lib.hid (by rw [hts, List.length_take, Nat.min_eq_left (by omega)])
      have HDS : Hid (∀ w1, MI w1 w1.heap.size A xs → MI w1 w1.heap.size AD ds) := Lib.hid (fun w1 h => by rw [hAD, hds]; exact LI.drop h (by omega) HC.out)
      have HTS : Hid (∀ w1, MI w1 w1.heap.size A xs → MI w1 w1.heap.size A ts) := Lib.hid (fun w1 h => by rw [hts]; exact LI.take h k)
      have HDB : Hid (ds.length ≤ 100000 ∧ ts.length ≤ 100000) := Lib.hid (by rw [hds, hts, List.length_drop, List.length_take]; omega)
      have HDP : Hid (∀ x ∈ ds, x.m.props.length ≤ 4398046511104) := Lib.hid (by rw [hds]; exact fun x hx => HP.out x (List.mem_of_mem_drop hx))
      have HTP : Hid (∀ x ∈ ts, x.m.props.length ≤ 4398046511104) := Lib.hid (by rw [hts]; exact fun x hx => HP.out x (List.mem_of_mem_take hx))
      have HDM : Hid (ds.map ME.m = (xs.map ME.m).drop (k + 1) ∧ ts.map ME.m = (xs.map ME.m).take k) := Lib.hid (by rw [hds, hts, List.map_drop, List.map_take]; exact ⟨rfl, rfl⟩)
      have HS0 : Hid (∀ w1, Below w.heap.size w w1 → MI w1 w1.heap.size A xs) := Lib.hid (fun w1 h => HS.out.step h)
      have HPL0 : Hid (∀ w1, Below w.heap.size w w1 → PL w1 w1.heap.size x.a x.m.props) := Lib.hid (fun w1 h => GL.step HPL.out h)
      have HLT : Hid (w.heap.size < wr.heap.size) := Lib.hid G_wr.out.lt
      obtain ⟨q, hq⟩ : ∃ q, q = wr.heap.size := ⟨_, rfl⟩
      have HQ := Lib.hid hq
      have HK2 : Hid ((xs.length : Int) = xs.length ∧ k + 1 ≤ xs.length ∧ xs.length ≤ c) := Lib.hid ⟨rfl, by omega, HC.out⟩
      subst hA
      have j1 : (0 : Int) ≤ (k : Int) := by omega
      have j2 : (k : Int) < (xs.length : Int) := by omega
      have j3 : (k : Int) ≤ (c : Int) := by have := HC.out; omega
      have j4 : (k : Int) + 1 ≤ (xs.length : Int) := by omega
      have j5 : (0 : Int) ≤ (k : Int) + 1 := by omega
      have hlk : k ≤ 90000 := by omega
      clear hx hcc hpl hbB hkg hbE HEXP hAD hcd hds hts hq
      go_wp2_with first
        | (refine wpList_load_v (by rfl) 25 _ rfl ⟨b, o + k * 9, none⟩ (by simp [Act.eval, Act.put]) _ HLD.out ?_)
        | (refine S2.wpList_store_all (by rfl) 25 (.tmp 9) (.tmp 16) rfl rfl wr.heap.size rfl (gM x) rfl 25 (msgC Msg.zero none 0) (BK.new wr _ _) msgSize rfl (gM_one _) ?_; intro w2 hM hP; have V_w2 : Hid (BK 25 w2 wr.heap.size (gM x)) := Lib.hid hM; have hb : Below wr.heap.size wr w2 := hP.below (S2.below_new wr _) (Nat.le_refl _); have G_w2 := Lib.hid (G_wr.out.step hb); have B_w2 := Lib.hid (stepB B_wr.out hb); clear hM hP hb G_wr B_wr HLD)
        | (refine wpList_load_v (by rfl) 25 (.tmp 9) rfl ⟨wr.heap.size, 0, none⟩ rfl (msgV x.m x.a x.c) (S2.run_load_all V_w2.out Try.underlying25 rfl msgSize) ?_)
      refine (HCE.out w2).mono ?_
      rintro e w3 ⟨rfl, hb⟩
      have V_w3 := Lib.hid (V_w2.out.step hb)
      have G_w3 := Lib.hid (G_w2.out.step hb)
      have B_w3 := Lib.hid (stepB B_w2.out hb)
      clear hb V_w2 G_w2 B_w2 HCE
      cases bE with
      | true =>
        have q1 : (!true) = false := rfl
        go_wp2_with fail
        go_roundg gk
        case measure => omega
        case rel => exact ⟨k + 1, by have := HK.out; omega, by go_num, HEX.out.succ HXM.out HBE.out, G_w3.out, B_w3.out⟩
      | false =>
        go_upto_region 5 with fail
        have Z_w3 : Hid (q < w3.heap.size) := Lib.hid (by rw [HQ.out]; exact V_w3.out.lt)
        have V_w3' : Hid (BK 25 w3 q (gM x)) := Lib.hid (by rw [HQ.out]; exact V_w3.out)
        have HGQ : Hid (w.heap.size < q) := Lib.hid (by rw [HQ.out]; exact HLT.out)
        clear V_w3 HLT
        have V_w3 := V_w3'
        clear V_w3'
        rw [← HQ.out]
        obtain ⟨x1, hx1⟩ : ∃ x1, x1 = World.drew w3 := ⟨_, rfl⟩
        have hbD : Below w3.heap.size w3 x1 := by rw [hx1]; exact (Below.refl _ _).drew
        have V_x1 : Hid (BK 25 x1 q (gM x)) := Lib.hid (V_w3.out.step hbD)
        have G_x1 : Hid (BK 25 x1 w.heap.size (msgC Msg.zero none 0)) := Lib.hid (G_w3.out.step hbD)
        have B_x1 : Hid (Below w.heap.size w x1) := Lib.hid (stepB B_w3.out hbD)
        have Z_x1 : Hid (q < x1.heap.size) := Lib.hid (Nat.lt_of_lt_of_le Z_w3.out hbD.size)
        clear V_w3 G_w3 B_w3 Z_w3
        have hbd : (fun w' => BK 25 w' q (gM x)) (World.drew w3) := by rw [← hx1]; exact V_x1.out
        have hSD : (fun w' => BK 25 w' q (gM x)) x1 := V_x1.out
        have HWD := Lib.hid hx1
        clear hx1 hbD
        refine wp_region_held_drew (S := fun w' => BK 25 w' q (gM x)) (by kernel_rfl) hbd (fun hHeld => ?_)
        rw [← HWD.out]
        clear hHeld
        have hHeld := hSD
        clear hSD hbd HWD
        refine wpAnyH_take (i := 0) (v := (msgV x.m x.a x.c)) (get_ops _ _ _ rfl) (by kernel_rfl) (by kernel_rfl) (by kernel_rfl) (fun _ _ _ h => h) (Or.inl ⟨by rfl, fun wS hSw => by (try dsimp only at hSw); exact exec_load 25 _ rfl ⟨q, 0, none⟩ (by go_simp) _ (S2.run_load_all hSw Try.underlying25 rfl msgSize)⟩) hHeld ?_
        try simp only [Act.put, List.setIfInBounds_toArray, List.set_cons_zero, List.set_cons_succ]
        refine wpAnyH_take (i := 2) (v := .slice (some ⟨b, o, none⟩) xs.length c) (get_ops _ _ _ rfl) (by kernel_rfl) (by kernel_rfl) (by kernel_rfl) (fun _ _ _ h => h) (Or.inl ⟨by rfl, fun wS hSw => by (try dsimp only at hSw); go_simp⟩) hHeld ?_
        try simp only [Act.put, List.setIfInBounds_toArray, List.set_cons_zero, List.set_cons_succ]
        refine wpAnyH_take (i := 3) (v := .int .i64 k) (get_ops _ _ _ rfl) (by kernel_rfl) (by kernel_rfl) (by kernel_rfl) (fun _ _ _ h => h) (Or.inl ⟨by rfl, fun wS hSw => by (try dsimp only at hSw); go_simp⟩) hHeld ?_
        try simp only [Act.put, List.setIfInBounds_toArray, List.set_cons_zero, List.set_cons_succ]
        refine wpAnyH_take (i := 4) (v := .int .i64 ((k : Int) + 1)) (get_ops _ _ _ rfl) (by kernel_rfl) (by kernel_rfl) (by kernel_rfl) (fun _ _ _ h => h) (Or.inl ⟨by rfl, fun wS hSw => by (try dsimp only at hSw); go_simp; rw [S2.wrap_i64_id _ (by omega) (by omega)]⟩) hHeld ?_
        try simp only [Act.put, List.setIfInBounds_toArray, List.set_cons_zero, List.set_cons_succ]
        refine wpAnyH_take (i := 5) (v := (.slice AD ds.length cd)) (get_ops _ _ _ rfl) (by kernel_rfl) (by kernel_rfl) (by kernel_rfl) (fun _ _ _ h => h) (Or.inl ⟨by rfl, fun wS hSw => by (try dsimp only at hSw); rw [HDE.out]; go_simp⟩) hHeld ?_
        try simp only [Act.put, List.setIfInBounds_toArray, List.set_cons_zero, List.set_cons_succ]
        refine wpAnyH_take (i := 7) (v := .slice (some ⟨b, o, none⟩) xs.length c) (get_ops _ _ _ rfl) (by kernel_rfl) (by kernel_rfl) (by kernel_rfl) (fun _ _ _ h => h) (Or.inl ⟨by rfl, fun wS hSw => by (try dsimp only at hSw); go_simp⟩) hHeld ?_
        try simp only [Act.put, List.setIfInBounds_toArray, List.set_cons_zero, List.set_cons_succ]
        refine wpAnyH_take (i := 8) (v := .int .i64 k) (get_ops _ _ _ rfl) (by kernel_rfl) (by kernel_rfl) (by kernel_rfl) (fun _ _ _ h => h) (Or.inl ⟨by rfl, fun wS hSw => by (try dsimp only at hSw); go_simp⟩) hHeld ?_
        try simp only [Act.put, List.setIfInBounds_toArray, List.set_cons_zero, List.set_cons_succ]
        refine wpAnyH_take (i := 9) (v := (.slice (some ⟨b, o, none⟩) ts.length c)) (get_ops _ _ _ rfl) (by kernel_rfl) (by kernel_rfl) (by kernel_rfl) (fun _ _ _ h => h) (Or.inl ⟨by rfl, fun wS hSw => by (try dsimp only at hSw); rw [HTE.out]; go_simp⟩) hHeld ?_
        try simp only [Act.put, List.setIfInBounds_toArray, List.set_cons_zero, List.set_cons_succ]
        refine wpAnyH_ready (rs := [1]) (by kernel_rfl) (by simp) ?_
        refine (AllReadyH.cons (get_ops _ _ _ rfl) (fun K hK => ?_) AllReadyH.nil)
        have hzq := Z_x1.out
        go_simp
        refine (HCM.out x1 (HPL0.out x1 B_x1.out) HPX.out).mono ?_
        rintro e x2 ⟨a4, c4, rfl, hpl4, hn4, hb⟩
        have V_x2 : Hid (BK 25 x2 q (gM x)) := Lib.hid (V_x1.out.step hb)
        have G_x2 : Hid (BK 25 x2 w.heap.size (msgC Msg.zero none 0)) := Lib.hid (G_x1.out.step hb)
        have B_x2 : Hid (Below w.heap.size w x2) := Lib.hid (stepB B_x1.out hb)
        have Z_x2 : Hid (q < x2.heap.size) := Lib.hid (Nat.lt_of_lt_of_le Z_x1.out hb.size)
        clear V_x1 G_x1 B_x1 Z_x1
        have P_x2 : Hid (PN x2 q a4 x.m.props) := Lib.hid ⟨hpl4, fun b o e => by have := hn4 b o e; omega⟩
        clear hpl4 hn4 hzq
        clear hHeld hb
        go_wp2_with fail
        refine hK.out _ _ V_x2.out (fun hHeld => ?_)
        clear hK K
        try simp only [Act.put, List.setIfInBounds_toArray, List.set_cons_zero, List.set_cons_succ]
        refine wpAnyH_ready (rs := [6]) (by kernel_rfl) (by simp) ?_
        refine (AllReadyH.cons (get_ops _ _ _ rfl) (fun K hK => ?_) AllReadyH.nil)
        have hzq := Z_x2.out
        go_simp
        refine (HCL.out AD cd ds x2 (HDS.out x2 (HS0.out x2 B_x2.out)) HDB.out.1 HDP.out).mono ?_
        rintro e x3 ⟨v1, ys, rfl, hys, hl1, hb⟩
        have V_x3 : Hid (BK 25 x3 q (gM x)) := Lib.hid (V_x2.out.step hb)
        have G_x3 : Hid (BK 25 x3 w.heap.size (msgC Msg.zero none 0)) := Lib.hid (G_x2.out.step hb)
        have B_x3 : Hid (Below w.heap.size w x3) := Lib.hid (stepB B_x2.out hb)
        have Z_x3 : Hid (q < x3.heap.size) := Lib.hid (Nat.lt_of_lt_of_le Z_x2.out hb.size)
        have P_x3 : Hid (PN x3 q a4 x.m.props) := Lib.hid (P_x2.out.step hb)
        clear V_x2 G_x2 B_x2 Z_x2 P_x2
        obtain ⟨A1, c1, hv1, hc1, hmi1⟩ := lstMN hl1
        subst hv1
        have HY1 := Lib.hid (And.intro hys hc1)
        have Y_x3 := Lib.hid (LN.weak hmi1 (Nat.le_of_lt hzq))
        clear hl1 hys hc1 hmi1 hzq
        clear hHeld hb
        go_wp2_with fail
        refine hK.out _ _ V_x3.out (fun hHeld => ?_)
        clear hK K
        try simp only [Act.put, List.setIfInBounds_toArray, List.set_cons_zero, List.set_cons_succ]
        refine wpAnyH_ready (rs := [10]) (by kernel_rfl) (by simp) ?_
        refine (AllReadyH.cons (get_ops _ _ _ rfl) (fun K hK => ?_) AllReadyH.nil)
        have hzq := Z_x3.out
        go_simp
        refine (HCL.out (some ⟨b, o, none⟩) c ts x3 (HTS.out x3 (HS0.out x3 B_x3.out)) HDB.out.2 HTP.out).mono ?_
        rintro e x4 ⟨v1, zs, rfl, hys, hl1, hb⟩
        have V_x4 : Hid (BK 25 x4 q (gM x)) := Lib.hid (V_x3.out.step hb)
        have G_x4 : Hid (BK 25 x4 w.heap.size (msgC Msg.zero none 0)) := Lib.hid (G_x3.out.step hb)
        have B_x4 : Hid (Below w.heap.size w x4) := Lib.hid (stepB B_x3.out hb)
        have Z_x4 : Hid (q < x4.heap.size) := Lib.hid (Nat.lt_of_lt_of_le Z_x3.out hb.size)
        have P_x4 : Hid (PN x4 q a4 x.m.props) := Lib.hid (P_x3.out.step hb)
        have Y_x4 : Hid (MN x4 q A1 ys) := Lib.hid (Y_x3.out.step hb)
        clear V_x3 G_x3 B_x3 Z_x3 P_x3 Y_x3
        obtain ⟨A2, c2, hv1, hc1, hmi1⟩ := lstMN hl1
        subst hv1
        have HZ1 := Lib.hid (And.intro hys hc1)
        have W_x4 := Lib.hid (LN.weak hmi1 (Nat.le_of_lt hzq))
        clear hl1 hys hc1 hmi1 hzq
        clear hHeld hb
        go_wp2_with fail
        refine hK.out _ _ V_x4.out (fun hHeld => ?_)
        clear hK K
        try simp only [Act.put, List.setIfInBounds_toArray, List.set_cons_zero, List.set_cons_succ]
        refine wpAnyH_ready (rs := [11]) (by kernel_rfl) (by simp) ?_
        refine (AllReadyH.cons (get_ops _ _ _ rfl) (fun K hK => ?_) AllReadyH.nil)
        refine S2.wp_store_all 25 _ _ rfl rfl w.heap.size (by go_simp) (msgC x.m a4 c4) (by first | rfl | go_simp) 25 (msgC Msg.zero none 0) G_x4.out msgSize rfl (msgC_one _ _ _) ?_
        intro x5 hM hP
        have G_x5 : Hid (BK 25 x5 w.heap.size (msgC x.m a4 c4)) := Lib.hid (hM)
        have V_x5 : Hid (BK 25 x5 q (gM x)) := Lib.hid (hP.other V_x4.out (by have := HGQ.out; omega))
        have B_x5 : Hid (Below w.heap.size w x5) := Lib.hid (hP.below B_x4.out (Nat.le_refl _))
        have Z_x5 : Hid (q < x5.heap.size) := Lib.hid (by rw [hP.size]; exact Z_x4.out)
        have P_x5 : Hid (PN x5 q a4 x.m.props) := Lib.hid (PN.put P_x4.out hP HGQ.out)
        have Y_x5 : Hid (MN x5 q A1 ys) := Lib.hid (LN.put Y_x4.out hP HGQ.out)
        have W_x5 : Hid (MN x5 q A2 zs) := Lib.hid (LN.put W_x4.out hP HGQ.out)
        clear V_x4 G_x4 B_x4 Z_x4 P_x4 Y_x4 W_x4
        clear hM hP hHeld
        refine hK.out _ _ V_x5.out (fun hHeld => ?_)
        clear hK K
        try simp only [Act.put, List.setIfInBounds_toArray, List.set_cons_zero, List.set_cons_succ]
        refine wpAnyH_take (i := 12) (v := .bool true) (get_ops _ _ _ rfl) (by kernel_rfl) (by kernel_rfl) (by kernel_rfl) (fun _ _ _ h => h) (Or.inl ⟨by rfl, fun wS hSw => by (try dsimp only at hSw); go_simp⟩) hHeld ?_
        try simp only [Act.put, List.setIfInBounds_toArray, List.set_cons_zero, List.set_cons_succ]
        refine wpAnyH_take (i := 13) (v := .slice A1 ys.length c1) (get_ops _ _ _ rfl) (by kernel_rfl) (by kernel_rfl) (by kernel_rfl) (fun _ _ _ h => h) (Or.inl ⟨by rfl, fun wS hSw => by (try dsimp only at hSw); go_simp⟩) hHeld ?_
        try simp only [Act.put, List.setIfInBounds_toArray, List.set_cons_zero, List.set_cons_succ]
        refine wpAnyH_take (i := 14) (v := .slice A2 zs.length c2) (get_ops _ _ _ rfl) (by kernel_rfl) (by kernel_rfl) (by kernel_rfl) (fun _ _ _ h => h) (Or.inl ⟨by rfl, fun wS hSw => by (try dsimp only at hSw); go_simp⟩) hHeld ?_
        try simp only [Act.put, List.setIfInBounds_toArray, List.set_cons_zero, List.set_cons_succ]
        refine wpAnyH_done (by kernel_rfl) ?_ _
        go_wp2_with fail
        exact bodyPost_ret (v := .tuple #[msgV x.m a4 c4, .bool true, .slice A1 ys.length c1, .slice A2 zs.length c2]) (sres4 rfl _ _ w.heap.size 25 (msgC x.m a4 c4) _ _ _ _ rfl rfl rfl rfl G_x5.out Try.underlying25 rfl msgSize) rfl ⟨x.m, a4, c4, A1, c1, ys, A2, c2, zs, true, rfl, Or.inl ⟨by rw [at_found HEX.out HXM.out HBE.out]; exact (List.getElem?_eq_some_iff.1 HXM.out).1, rfl, by rw [at_found HEX.out HXM.out HBE.out]; exact HXM.out, by rw [at_found HEX.out HXM.out HBE.out, HY1.out.1]; exact HDM.out.1, by rw [at_found HEX.out HXM.out HBE.out, HZ1.out.1]; exact HDM.out.2⟩, HY1.out.2, HZ1.out.2, P_x5.out.1, Y_x5.out.1, W_x5.out.1, B_x5.out⟩
end Go.Proofs.Ytgnbiicfabldbab
