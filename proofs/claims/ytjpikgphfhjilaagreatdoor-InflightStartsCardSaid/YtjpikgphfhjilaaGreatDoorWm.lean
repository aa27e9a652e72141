/-
  What remove of inflight answers: the window without an item. Conditions: the window reads as data; few items, with few properties; its pool is valid.
-/
import Derived.Test.YtjpikgphfhjilaaGreatDoorWl
import Derived.Deep.Cut
namespace Go.Proofs.YtjpikgphfhjilaaGreatDoor
open Go.RowKit
open S2 (BK Put)

/-- a list lies beside block g -/
def Away (g : Nat) (A : Option Addr) (n : Nat) : Prop := 0 < n → ∀ b o, A = some ⟨b, o, none⟩ → b ≠ g
theorem PL.putA {w w' : World} {B g : Nat} {A : Option Addr} {xs : List PR} (h : PL w B A xs) (hp : Put g w w') (hne : Away g A xs.length) : PL w' B A xs := fun hn => by
  obtain ⟨b, o, e, hb, hc⟩ := h hn
  exact ⟨b, o, e, hb, fun j x i v hx hv => (hp.cell (p := ⟨b, o + j * 2 + i, none⟩) (hne hn b o e)).trans (hc j x i v hx hv)⟩
theorem PL.lt {w : World} {B : Nat} {A : Option Addr} {xs : List PR} (h : PL w B A xs) (hn : 0 < xs.length) (b o : Nat) (e : A = some ⟨b, o, none⟩) : b < B := by
  obtain ⟨b', o', e', hb, _⟩ := h hn
  rw [e] at e'
  simp only [Option.some.injEq, Addr.mk.injEq, and_true] at e'
  omega
theorem OwnF.putA {w w' : World} {B g : Nat} {v : Value} {xs : List FE} (h : OwnF w B v xs) (hp : Put g w w') (hne : ∀ q n c, v = .slice (some ⟨q, 0, none⟩) n c → q ≠ g) : OwnF w' B v xs := by
  rcases own_rowF h with ⟨rfl, rfl⟩ | ⟨q, cap, sp, rfl, hb, hg, hnc, hcm, hl⟩
  · exact OwnG.nil _ _
  · exact row_ownF hb (hp.other hg (hne q _ _ rfl)) hnc hcm hl
theorem OwnF.lt {w : World} {B : Nat} {v : Value} {xs : List FE} (h : OwnF w B v xs) (q n c : Nat) (e : v = .slice (some ⟨q, 0, none⟩) n c) : B ≤ q ∧ q < w.heap.size := by
  rcases own_rowF h with ⟨rfl, _⟩ | ⟨q', cap, sp, rfl, hb, hg, _, _, _⟩
  · cases e
  · simp only [Value.slice.injEq, Option.some.injEq, Addr.mk.injEq, and_true] at e
    have := hg.lt
    omega
theorem IL.lt' {w : World} {A : Option Addr} {X : List Int} (h : S2.IL w w.heap.size A X) (hn : 0 < X.length) (b o : Nat) (e : A = some ⟨b, o, none⟩) : b < w.heap.size := S2.IL.lt h b o e hn
/-- items of a call's own in the world -/
def Its (B : Nat) (wx : World) (v : Value) (ys : List FE) : Prop := OwnF wx B v ys ∧ ∀ y ∈ ys, PL wx wx.heap.size y.a y.f.m.props
theorem Its.step {B : Nat} {w w' : World} {v : Value} {ys : List FE} (h : Its B w v ys) (hb : Below w.heap.size w w') : Its B w' v ys := ⟨h.1.step hb, fun y hy => (h.2 y hy).step hb⟩
/-- they lie beside block g -/
def ItA (g : Nat) (v : Value) (ys : List FE) : Prop := (∀ q n c, v = .slice (some ⟨q, 0, none⟩) n c → q ≠ g) ∧ ∀ y ∈ ys, Away g y.a y.f.m.props.length
theorem Its.put {B g : Nat} {w w' : World} {v : Value} {ys : List FE} (h : Its B w v ys) (hp : Put g w w') (ha : ItA g v ys) : Its B w' v ys := ⟨h.1.putA hp ha.1, fun y hy => by rw [hp.size]; exact (h.2 y hy).putA hp (ha.2 y hy)⟩
theorem Its.newer {B : Nat} {w : World} {v : Value} {ys : List FE} (h : Its B w v ys) : ItA w.heap.size v ys := ⟨fun q n c e => by have := h.1.lt q n c e; omega, fun y hy hn b o e => by have := (h.2 y hy).lt hn b o e; omega⟩
theorem away_fr {W : World} {g : Nat} {A A' : Option Addr} {X X' : List Int} (h : S2.Fr W A X A' X') (ha : Away g A X.length) (hg : g < W.heap.size) : Away g A' X'.length := fun hn b o e => by
  rcases h with rfl | ⟨rfl, hX⟩ | h
  · simp at hn
  · refine ha ?_ b o e
    rcases Nat.eq_zero_or_pos X.length with h0 | h0
    · have := hX (List.eq_nil_of_length_eq_zero h0)
      subst this
      simp at hn
    · exact h0
  · have := h b o e
    omega
theorem new_fr {W : World} {B : Nat} {A A' : Option Addr} {X X' : List Int} (h : S2.Fr W A X A' X') (ha : NewL B A) (hg : B ≤ W.heap.size) : NewN B A' X'.length := fun hn b o e => by
  rcases h with rfl | ⟨rfl, _⟩ | h
  · simp at hn
  · exact ha b o e
  · have := h b o e
    omega
theorem map_erase {α β : Type} (f : α → β) (xs : List α) (i : Nat) : (xs.eraseIdx i).map f = (xs.map f).eraseIdx i := by
  rw [erase_eq, erase_eq, List.map_append, List.map_take, List.map_drop]
theorem rem_at {L : Int} {F : List Fl} {X : List Int} {l : Int} {i : Nat} {x : Fl} (h : F[i]? = some x) : remR (L, F, X, l) i = (L, F.eraseIdx i, S2.delI X x.id, l) := by unfold remR; rw [h]
theorem rem_none {L : Int} {F : List Fl} {X : List Int} {l : Int} {i : Nat} (h : F[i]? = none) : remR (L, F, X, l) i = (L, F, X, l) := by unfold remR; rw [h]
/-- what the first region of remove leaves -/
structure CutR (w : World) (L : Int) (A : Option Addr) (c : Nat) (xs : List FE) (A2 : Option Addr) (c2 : Nat) (X : List Int) (l : Int) (wx : World) (v : Value) (ys : List FE) (gp : Nat) (a3 : Option Addr) (c3 : Nat) : Prop where
  same : ys.map FE.f = xs.map FE.f
  its : Its (w.heap.size + 2) wx v ys
  self : ∀ q n c, v = .slice (some ⟨q, 0, none⟩) n c → ∀ y ∈ ys, Away q y.a y.f.m.props.length
  new : ∀ y ∈ ys, NewL (w.heap.size + 2) y.a
  away : ItA gp v ys
  gpLe : w.heap.size + 2 ≤ gp
  pool : BK 25 wx gp [.slice a3 X.length c3, .int .i64 l]
  il : S2.IL wx wx.heap.size a3 X
  cap : X.length ≤ c3
  new3 : NewL (w.heap.size + 2) a3
  away3 : Away gp a3 X.length
  away3g : ∀ q n c, v = .slice (some ⟨q, 0, none⟩) n c → Away q a3 X.length
  box : BK 27 wx w.heap.size (wcs L A c xs A2 c2 X l)
  res : BK 27 wx (w.heap.size + 1) (wcs 0 none 0 [] none 0 [] 0)
  below : Below w.heap.size w wx
def CutV (w : World) (L : Int) (A : Option Addr) (c : Nat) (xs : List FE) (A2 : Option Addr) (c2 : Nat) (X : List Int) (l : Int) (s5 s6 : Value) (wx : World) : Prop := ∃ ys gp a3 c3, s6 = .pointer (some ⟨gp, 0, none⟩) ∧ CutR w L A c xs A2 c2 X l wx s5 ys gp a3 c3

set_option maxRecDepth 20000 in
set_option maxHeartbeats 4000000 in
theorem remove_any (L : Int) (A : Option Addr) (c : Nat) (xs : List FE) (A2 : Option Addr) (c2 : Nat) (X : List Int) (l : Int) (i : Nat) (w : World) (hw : WOk w A c xs A2 c2 X) (hn : xs.length ≤ 100000) (hp : ∀ x ∈ xs, x.f.m.props.length ≤ 100000) (hX : S2.ckI X l = 0) (hid : ∀ x ∈ xs, -9223372036854775808 ≤ x.f.id ∧ x.f.id ≤ 9223372036854775807) (hi : i ≤ xs.length) :
    Calls Tryz.prog 38 #[wv L A c xs A2 c2 X l, .int .i64 i] w (RetW (remR (L, xs.map FE.f, X, l) i) w) := by
  have HCI := Lib.hid (fun w1 h => cloneItems_any A c xs w1 h hn hp)
  have HCP := Lib.hid (fun w1 h => clonePool_any A2 c2 X l w1 h (by have := (S2.ck_ok.1 hX).1; omega))
  have HFR := Lib.hid (fun a c n w1 h hc h1 h2 => S2.iFree_any a c X l n w1 h hc hX h1 h2)
  have HW := Lib.hid hw
  have HID := Lib.hid hid
  clear hw hid
  go_enter Tryz.func38, Tryz.ntmps38
  go_upto_region 1 with fail
  refine name_world (C := fun w1 => Code.wp _ _ _ _ w1) ((w.alloc (.cells (wcs L A c xs A2 c2 X l).toArray 27)).alloc (.cells (wcs 0 none 0 [] none 0 [] 0).toArray 27)) ?_
  intro w1 hw1
  obtain ⟨t1, t2, hs0, hB0⟩ := S2.two_laid (v1 := wcs L A c xs A2 c2 X l) (v2 := wcs 0 none 0 [] none 0 [] 0) hw1
  have HZ : Hid (w.heap.size + 2 ≤ w1.heap.size) := Lib.hid (by omega)
  have T_w1 := Lib.hid t1
  have R_w1 := Lib.hid t2
  have B_w1 := Lib.hid hB0
  have I_w1 : Hid (FI w1 w1.heap.size A xs) := Lib.hid (HW.out.1.step hB0)
  have S_w1 : Hid (S2.IL w1 w1.heap.size A2 X) := Lib.hid (CL.step HW.out.2.2.1 hB0)
  have Z_w1 := HZ
  clear hw1 t1 t2 hs0 hB0
  go_cut [5, 6] from 7 (fun s5 s6 wx => CutV w L A c xs A2 c2 X l s5 s6 wx)
  case first =>
    obtain ⟨x1, hx1⟩ : ∃ x1, x1 = World.drew w1 := ⟨_, rfl⟩
    have hbD : Below w1.heap.size w1 x1 := by rw [hx1]; exact (Below.refl _ _).drew
    have T_x1 : Hid (BK 27 x1 w.heap.size (wcs L A c xs A2 c2 X l)) := Lib.hid (T_w1.out.step hbD)
    have R_x1 : Hid (BK 27 x1 (w.heap.size + 1) (wcs 0 none 0 [] none 0 [] 0)) := Lib.hid (R_w1.out.step hbD)
    have B_x1 : Hid (Below w.heap.size w x1) := Lib.hid (stepB B_w1.out hbD)
    have I_x1 : Hid (FI x1 x1.heap.size A xs) := Lib.hid (I_w1.out.step hbD)
    have S_x1 : Hid (S2.IL x1 x1.heap.size A2 X) := Lib.hid (CL.step S_w1.out hbD)
    have Z_x1 : Hid (w.heap.size + 2 ≤ x1.heap.size) := Lib.hid (Nat.le_trans Z_w1.out hbD.size)
    clear T_w1 R_w1 B_w1 I_w1 S_w1 Z_w1
    have hbd : (fun w' => BK 27 w' w.heap.size (wcs L A c xs A2 c2 X l)) (World.drew w1) := by rw [← hx1]; exact T_x1.out
    have hSD : (fun w' => BK 27 w' w.heap.size (wcs L A c xs A2 c2 X l)) x1 := T_x1.out
    have HWD := Lib.hid hx1
    clear hx1 hbD
    refine wp_region_held_drew (S := fun w' => BK 27 w' w.heap.size (wcs L A c xs A2 c2 X l)) (by kernel_rfl) hbd (fun hHeld => ?_)
    rw [← HWD.out]
    clear hHeld
    have hHeld := hSD
    clear hSD hbd HWD
    refine wpAnyH_take (i := 0) (v := .pointer (some ⟨w.heap.size, 1, none⟩)) (get_ops _ _ _ rfl) (by kernel_rfl) (by kernel_rfl) (by kernel_rfl) (fun _ _ _ h => h) (Or.inl ⟨by rfl, fun wS hSw => by (try dsimp only at hSw); go_simp⟩) hHeld ?_
    try simp only [Act.put, List.setIfInBounds_toArray, List.set_cons_zero, List.set_cons_succ]
    refine wpAnyH_take (i := 1) (v := .slice A xs.length c) (get_ops _ _ _ rfl) (by kernel_rfl) (by kernel_rfl) (by kernel_rfl) (fun _ _ _ h => h) (Or.inl ⟨by rfl, fun wS hSw => by (try dsimp only at hSw); have cS : wS.cell? ⟨w.heap.size, 1, none⟩ = some (.slice A xs.length c) := hSw.cell 1 rfl; clear hSw; go_simp⟩) hHeld ?_
    try simp only [Act.put, List.setIfInBounds_toArray, List.set_cons_zero, List.set_cons_succ]
    refine wpAnyH_take (i := 3) (v := .pointer (some ⟨w.heap.size, 2, none⟩)) (get_ops _ _ _ rfl) (by kernel_rfl) (by kernel_rfl) (by kernel_rfl) (fun _ _ _ h => h) (Or.inl ⟨by rfl, fun wS hSw => by (try dsimp only at hSw); go_simp⟩) hHeld ?_
    try simp only [Act.put, List.setIfInBounds_toArray, List.set_cons_zero, List.set_cons_succ]
    refine wpAnyH_take (i := 4) (v := S2.pv A2 c2 X l) (get_ops _ _ _ rfl) (by kernel_rfl) (by kernel_rfl) (by kernel_rfl) (fun _ _ _ h => h) (Or.inl ⟨by rfl, fun wS hSw => by (try dsimp only at hSw); exact exec_load 25 _ rfl ⟨w.heap.size, 2, none⟩ (by go_simp) _ (bk_pool hSw)⟩) hHeld ?_
    try simp only [Act.put, List.setIfInBounds_toArray, List.set_cons_zero, List.set_cons_succ]
    refine wpAnyH_ready (rs := [2, 6]) (by kernel_rfl) (by simp) ?_
    refine (AllReadyH.cons (get_ops _ _ _ rfl) (fun K hK => ?_) (AllReadyH.cons (get_ops _ _ _ rfl) (fun K hK => ?_) AllReadyH.nil))
    · have ZO := Z_x1
      go_simp
      refine (HCI.out x1 I_x1.out).mono ?_
      rintro e x2 ⟨v2, ys, rfl, hys, hown, ⟨M0, hM0, hMg, hpl⟩, hb⟩
      have T_x2 : Hid (BK 27 x2 w.heap.size (wcs L A c xs A2 c2 X l)) := Lib.hid (T_x1.out.step hb)
      have R_x2 : Hid (BK 27 x2 (w.heap.size + 1) (wcs 0 none 0 [] none 0 [] 0)) := Lib.hid (R_x1.out.step hb)
      have B_x2 : Hid (Below w.heap.size w x2) := Lib.hid (stepB B_x1.out hb)
      have I_x2 : Hid (FI x2 x2.heap.size A xs) := Lib.hid (I_x1.out.step hb)
      have S_x2 : Hid (S2.IL x2 x2.heap.size A2 X) := Lib.hid (CL.step S_x1.out hb)
      have Z_x2 : Hid (w.heap.size + 2 ≤ x2.heap.size) := Lib.hid (Nat.le_trans Z_x1.out hb.size)
      clear T_x1 R_x1 B_x1 I_x1 S_x1 Z_x1
      have hits : Its (w.heap.size + 2) x2 v2 ys := ⟨hown.weak ZO.out, fun y hy => (hpl y hy).1⟩
      have Y_x2 : Hid (Its (w.heap.size + 2) x2 v2 ys) := Lib.hid (hits)
      have HYS := Lib.hid hys
      have HSELF : Hid (∀ q n c, v2 = .slice (some ⟨q, 0, none⟩) n c → ∀ y ∈ ys, Away q y.a y.f.m.props.length) := Lib.hid (fun q n c e y hy _ b o e2 => by have := hMg q n c e; have := (hpl y hy).2 b o e2; omega)
      have HNEW : Hid (∀ y ∈ ys, NewL (w.heap.size + 2) y.a) := Lib.hid (fun y hy b o e2 => by have := (hpl y hy).2 b o e2; have := ZO.out; omega)
      clear hits hys hown hM0 hMg hpl ZO
      clear hHeld hb
      go_wp2_with fail
      refine hK.out _ _ T_x2.out (fun hHeld => ?_)
      clear hK K
      try simp only [Act.put, List.setIfInBounds_toArray, List.set_cons_zero, List.set_cons_succ]
      refine wpAnyH_ready (rs := [5, 6]) (by kernel_rfl) (by simp) ?_
      refine (AllReadyH.cons (get_ops _ _ _ rfl) (fun K hK => ?_) (AllReadyH.cons (get_ops _ _ _ rfl) (fun K hK => ?_) AllReadyH.nil))
      · have ZO := Z_x2
        have YO := Y_x2
        go_simp
        refine (HCP.out x2 S_x2.out).mono ?_
        rintro e x3 ⟨a3, c3, rfl, hc3, hil3, hnew3, hb⟩
        have T_x3 : Hid (BK 27 x3 w.heap.size (wcs L A c xs A2 c2 X l)) := Lib.hid (T_x2.out.step hb)
        have R_x3 : Hid (BK 27 x3 (w.heap.size + 1) (wcs 0 none 0 [] none 0 [] 0)) := Lib.hid (R_x2.out.step hb)
        have B_x3 : Hid (Below w.heap.size w x3) := Lib.hid (stepB B_x2.out hb)
        have I_x3 : Hid (FI x3 x3.heap.size A xs) := Lib.hid (I_x2.out.step hb)
        have S_x3 : Hid (S2.IL x3 x3.heap.size A2 X) := Lib.hid (CL.step S_x2.out hb)
        have Z_x3 : Hid (w.heap.size + 2 ≤ x3.heap.size) := Lib.hid (Nat.le_trans Z_x2.out hb.size)
        have Y_x3 : Hid (Its (w.heap.size + 2) x3 v2 ys) := Lib.hid (Y_x2.out.step hb)
        clear T_x2 R_x2 B_x2 I_x2 S_x2 Z_x2 Y_x2
        have Q_x3 : Hid (S2.IL x3 x3.heap.size a3 X) := Lib.hid (hil3)
        have HA3G : Hid (∀ q n c, v2 = .slice (some ⟨q, 0, none⟩) n c → Away q a3 X.length) := Lib.hid (fun q n c e _ b o e2 => by have := hnew3 b o e2; have := YO.out.1.lt q n c e; omega)
        have HC3 := Lib.hid hc3
        have HN3 : Hid (NewL (w.heap.size + 2) a3) := Lib.hid (fun b o e => by have := hnew3 b o e; have := ZO.out; omega)
        clear hil3 hc3 hnew3 ZO YO
        clear hHeld hb
        go_wp2_with fail
        refine hK.out _ _ T_x3.out (fun hHeld => ?_)
        clear hK K
        try simp only [Act.put, List.setIfInBounds_toArray, List.set_cons_zero, List.set_cons_succ]
        refine wpAnyH_ready (rs := [6]) (by kernel_rfl) (by simp) ?_
        refine (AllReadyH.cons (get_ops _ _ _ rfl) (fun K hK => ?_) AllReadyH.nil)
        go_simp
        obtain ⟨gp, hgp⟩ : ∃ gp, gp = x3.heap.size := ⟨_, rfl⟩
        obtain ⟨x4, hx4⟩ : ∃ x4, x4 = x3.alloc (.cells ([.slice none 0 0, .int .i64 0] : List Value).toArray 25) := ⟨_, rfl⟩
        have hb : Below x3.heap.size x3 x4 := by rw [hx4]; exact S2.below_new _ _
        have hN : BK 25 x4 gp [.slice none 0 0, .int .i64 0] := by rw [hx4, hgp]; exact BK.new _ _ _
        have HGP : Hid (w.heap.size + 2 ≤ gp) := Lib.hid (by rw [hgp]; exact Z_x3.out)
        have HAY : Hid (ItA gp v2 ys) := Lib.hid (by rw [hgp]; exact Y_x3.out.newer)
        have HA3 : Hid (Away gp a3 X.length) := Lib.hid (by rw [hgp]; exact fun hn b o e => Nat.ne_of_lt (IL.lt' Q_x3.out hn b o e))
        have T_x4 : Hid (BK 27 x4 w.heap.size (wcs L A c xs A2 c2 X l)) := Lib.hid (T_x3.out.step hb)
        have R_x4 : Hid (BK 27 x4 (w.heap.size + 1) (wcs 0 none 0 [] none 0 [] 0)) := Lib.hid (R_x3.out.step hb)
        have B_x4 : Hid (Below w.heap.size w x4) := Lib.hid (stepB B_x3.out hb)
        have I_x4 : Hid (FI x4 x4.heap.size A xs) := Lib.hid (I_x3.out.step hb)
        have S_x4 : Hid (S2.IL x4 x4.heap.size A2 X) := Lib.hid (CL.step S_x3.out hb)
        have Z_x4 : Hid (w.heap.size + 2 ≤ x4.heap.size) := Lib.hid (Nat.le_trans Z_x3.out hb.size)
        have Y_x4 : Hid (Its (w.heap.size + 2) x4 v2 ys) := Lib.hid (Y_x3.out.step hb)
        have Q_x4 : Hid (S2.IL x4 x4.heap.size a3 X) := Lib.hid (CL.step Q_x3.out hb)
        clear T_x3 R_x3 B_x3 I_x3 S_x3 Z_x3 Y_x3 Q_x3
        have G_x4 := Lib.hid hN
        try rw [← hx4]
        try rw [← hgp]
        clear hHeld hb hN hx4 hgp
        refine hK.out _ _ T_x4.out (fun hHeld => ?_)
        clear hK K
        try simp only [Act.put, List.setIfInBounds_toArray, List.set_cons_zero, List.set_cons_succ]
        refine wpAnyH_take (i := 7) (v := v2) (get_ops _ _ _ rfl) (by kernel_rfl) (by kernel_rfl) (by kernel_rfl) (fun _ _ _ h => h) (Or.inl ⟨by rfl, fun wS hSw => by (try dsimp only at hSw); go_simp⟩) hHeld ?_
        try simp only [Act.put, List.setIfInBounds_toArray, List.set_cons_zero, List.set_cons_succ]
        refine wpAnyH_ready (rs := [8]) (by kernel_rfl) (by simp) ?_
        refine (AllReadyH.cons (get_ops _ _ _ rfl) (fun K hK => ?_) AllReadyH.nil)
        refine S2.wp_store_all 25 _ _ rfl rfl gp (by go_simp) [.slice a3 X.length c3, .int .i64 l] (by first | rfl | go_simp) 25 [.slice none 0 0, .int .i64 0] G_x4.out S2.infoP2 rfl (ones rfl) ?_
        intro x5 hM hP
        have G_x5 : Hid (BK 25 x5 gp [.slice a3 X.length c3, .int .i64 l]) := Lib.hid (hM)
        have T_x5 : Hid (BK 27 x5 w.heap.size (wcs L A c xs A2 c2 X l)) := Lib.hid (hP.other T_x4.out (by have := HGP.out; omega))
        have R_x5 : Hid (BK 27 x5 (w.heap.size + 1) (wcs 0 none 0 [] none 0 [] 0)) := Lib.hid (hP.other R_x4.out (by have := HGP.out; omega))
        have B_x5 : Hid (Below w.heap.size w x5) := Lib.hid (hP.below B_x4.out (by have := HGP.out; omega))
        have Z_x5 : Hid (w.heap.size + 2 ≤ x5.heap.size) := Lib.hid ((by rw [hP.size]; exact Z_x4.out))
        have Y_x5 : Hid (Its (w.heap.size + 2) x5 v2 ys) := Lib.hid (Y_x4.out.put hP HAY.out)
        have Q_x5 : Hid (S2.IL x5 x5.heap.size a3 X) := Lib.hid (ILput Q_x4.out hP HA3.out)
        clear T_x4 R_x4 B_x4 I_x4 S_x4 Z_x4 Y_x4 Q_x4 G_x4
        clear hM hP hHeld
        refine hK.out _ _ T_x5.out (fun hHeld => ?_)
        clear hK K
        try simp only [Act.put, List.setIfInBounds_toArray, List.set_cons_zero, List.set_cons_succ]
        refine wpAnyH_done (by kernel_rfl) ?_ _
        go_wp2_with fail
        go_meet
        exact ⟨ys, gp, a3, c3, rfl, ⟨HYS.out, Y_x5.out, HSELF.out, HNEW.out, HAY.out, HGP.out, G_x5.out, Q_x5.out, HC3.out, HN3.out, HA3.out, HA3G.out, T_x5.out, R_x5.out, B_x5.out⟩⟩
      · go_simp
        obtain ⟨gp, hgp⟩ : ∃ gp, gp = x2.heap.size := ⟨_, rfl⟩
        obtain ⟨x3, hx3⟩ : ∃ x3, x3 = x2.alloc (.cells ([.slice none 0 0, .int .i64 0] : List Value).toArray 25) := ⟨_, rfl⟩
        have hb : Below x2.heap.size x2 x3 := by rw [hx3]; exact S2.below_new _ _
        have hN : BK 25 x3 gp [.slice none 0 0, .int .i64 0] := by rw [hx3, hgp]; exact BK.new _ _ _
        have HGP : Hid (w.heap.size + 2 ≤ gp) := Lib.hid (by rw [hgp]; exact Z_x2.out)
        have HAY : Hid (ItA gp v2 ys) := Lib.hid (by rw [hgp]; exact Y_x2.out.newer)
        have T_x3 : Hid (BK 27 x3 w.heap.size (wcs L A c xs A2 c2 X l)) := Lib.hid (T_x2.out.step hb)
        have R_x3 : Hid (BK 27 x3 (w.heap.size + 1) (wcs 0 none 0 [] none 0 [] 0)) := Lib.hid (R_x2.out.step hb)
        have B_x3 : Hid (Below w.heap.size w x3) := Lib.hid (stepB B_x2.out hb)
        have I_x3 : Hid (FI x3 x3.heap.size A xs) := Lib.hid (I_x2.out.step hb)
        have S_x3 : Hid (S2.IL x3 x3.heap.size A2 X) := Lib.hid (CL.step S_x2.out hb)
        have Z_x3 : Hid (w.heap.size + 2 ≤ x3.heap.size) := Lib.hid (Nat.le_trans Z_x2.out hb.size)
        have Y_x3 : Hid (Its (w.heap.size + 2) x3 v2 ys) := Lib.hid (Y_x2.out.step hb)
        clear T_x2 R_x2 B_x2 I_x2 S_x2 Z_x2 Y_x2
        have G_x3 := Lib.hid hN
        try rw [← hx3]
        try rw [← hgp]
        clear hHeld hb hN hx3 hgp
        refine hK.out _ _ T_x3.out (fun hHeld => ?_)
        clear hK K
        try simp only [Act.put, List.setIfInBounds_toArray, List.set_cons_zero, List.set_cons_succ]
        refine wpAnyH_ready (rs := [5]) (by kernel_rfl) (by simp) ?_
        refine (AllReadyH.cons (get_ops _ _ _ rfl) (fun K hK => ?_) AllReadyH.nil)
        have ZO := Z_x3
        have YO := Y_x3
        have GO : Hid (gp < x3.heap.size) := Lib.hid G_x3.out.lt
        go_simp
        refine (HCP.out x3 S_x3.out).mono ?_
        rintro e x4 ⟨a3, c3, rfl, hc3, hil3, hnew3, hb⟩
        have T_x4 : Hid (BK 27 x4 w.heap.size (wcs L A c xs A2 c2 X l)) := Lib.hid (T_x3.out.step hb)
        have R_x4 : Hid (BK 27 x4 (w.heap.size + 1) (wcs 0 none 0 [] none 0 [] 0)) := Lib.hid (R_x3.out.step hb)
        have B_x4 : Hid (Below w.heap.size w x4) := Lib.hid (stepB B_x3.out hb)
        have I_x4 : Hid (FI x4 x4.heap.size A xs) := Lib.hid (I_x3.out.step hb)
        have S_x4 : Hid (S2.IL x4 x4.heap.size A2 X) := Lib.hid (CL.step S_x3.out hb)
        have Z_x4 : Hid (w.heap.size + 2 ≤ x4.heap.size) := Lib.hid (Nat.le_trans Z_x3.out hb.size)
        have Y_x4 : Hid (Its (w.heap.size + 2) x4 v2 ys) := Lib.hid (Y_x3.out.step hb)
        have G_x4 : Hid (BK 25 x4 gp [.slice none 0 0, .int .i64 0]) := Lib.hid (G_x3.out.step hb)
        clear T_x3 R_x3 B_x3 I_x3 S_x3 Z_x3 Y_x3 G_x3
        have Q_x4 : Hid (S2.IL x4 x4.heap.size a3 X) := Lib.hid (hil3)
        have HA3G : Hid (∀ q n c, v2 = .slice (some ⟨q, 0, none⟩) n c → Away q a3 X.length) := Lib.hid (fun q n c e _ b o e2 => by have := hnew3 b o e2; have := YO.out.1.lt q n c e; omega)
        have HC3 := Lib.hid hc3
        have HN3 : Hid (NewL (w.heap.size + 2) a3) := Lib.hid (fun b o e => by have := hnew3 b o e; have := ZO.out; omega)
        have HA3 : Hid (Away gp a3 X.length) := Lib.hid (fun _ b o e => by have := hnew3 b o e; have := GO.out; omega)
        clear hil3 hc3 hnew3 ZO YO GO
        clear hHeld hb
        go_wp2_with fail
        refine hK.out _ _ T_x4.out (fun hHeld => ?_)
        clear hK K
        try simp only [Act.put, List.setIfInBounds_toArray, List.set_cons_zero, List.set_cons_succ]
        refine wpAnyH_take (i := 7) (v := v2) (get_ops _ _ _ rfl) (by kernel_rfl) (by kernel_rfl) (by kernel_rfl) (fun _ _ _ h => h) (Or.inl ⟨by rfl, fun wS hSw => by (try dsimp only at hSw); go_simp⟩) hHeld ?_
        try simp only [Act.put, List.setIfInBounds_toArray, List.set_cons_zero, List.set_cons_succ]
        refine wpAnyH_ready (rs := [8]) (by kernel_rfl) (by simp) ?_
        refine (AllReadyH.cons (get_ops _ _ _ rfl) (fun K hK => ?_) AllReadyH.nil)
        refine S2.wp_store_all 25 _ _ rfl rfl gp (by go_simp) [.slice a3 X.length c3, .int .i64 l] (by first | rfl | go_simp) 25 [.slice none 0 0, .int .i64 0] G_x4.out S2.infoP2 rfl (ones rfl) ?_
        intro x5 hM hP
        have G_x5 : Hid (BK 25 x5 gp [.slice a3 X.length c3, .int .i64 l]) := Lib.hid (hM)
        have T_x5 : Hid (BK 27 x5 w.heap.size (wcs L A c xs A2 c2 X l)) := Lib.hid (hP.other T_x4.out (by have := HGP.out; omega))
        have R_x5 : Hid (BK 27 x5 (w.heap.size + 1) (wcs 0 none 0 [] none 0 [] 0)) := Lib.hid (hP.other R_x4.out (by have := HGP.out; omega))
        have B_x5 : Hid (Below w.heap.size w x5) := Lib.hid (hP.below B_x4.out (by have := HGP.out; omega))
        have Z_x5 : Hid (w.heap.size + 2 ≤ x5.heap.size) := Lib.hid ((by rw [hP.size]; exact Z_x4.out))
        have Y_x5 : Hid (Its (w.heap.size + 2) x5 v2 ys) := Lib.hid (Y_x4.out.put hP HAY.out)
        have Q_x5 : Hid (S2.IL x5 x5.heap.size a3 X) := Lib.hid (ILput Q_x4.out hP HA3.out)
        clear T_x4 R_x4 B_x4 I_x4 S_x4 Z_x4 Y_x4 G_x4 Q_x4
        clear hM hP hHeld
        refine hK.out _ _ T_x5.out (fun hHeld => ?_)
        clear hK K
        try simp only [Act.put, List.setIfInBounds_toArray, List.set_cons_zero, List.set_cons_succ]
        refine wpAnyH_done (by kernel_rfl) ?_ _
        go_wp2_with fail
        go_meet
        exact ⟨ys, gp, a3, c3, rfl, ⟨HYS.out, Y_x5.out, HSELF.out, HNEW.out, HAY.out, HGP.out, G_x5.out, Q_x5.out, HC3.out, HN3.out, HA3.out, HA3G.out, T_x5.out, R_x5.out, B_x5.out⟩⟩
    · go_simp
      obtain ⟨gp, hgp⟩ : ∃ gp, gp = x1.heap.size := ⟨_, rfl⟩
      obtain ⟨x2, hx2⟩ : ∃ x2, x2 = x1.alloc (.cells ([.slice none 0 0, .int .i64 0] : List Value).toArray 25) := ⟨_, rfl⟩
      have hb : Below x1.heap.size x1 x2 := by rw [hx2]; exact S2.below_new _ _
      have hN : BK 25 x2 gp [.slice none 0 0, .int .i64 0] := by rw [hx2, hgp]; exact BK.new _ _ _
      have HGP : Hid (w.heap.size + 2 ≤ gp) := Lib.hid (by rw [hgp]; exact Z_x1.out)
      have T_x2 : Hid (BK 27 x2 w.heap.size (wcs L A c xs A2 c2 X l)) := Lib.hid (T_x1.out.step hb)
      have R_x2 : Hid (BK 27 x2 (w.heap.size + 1) (wcs 0 none 0 [] none 0 [] 0)) := Lib.hid (R_x1.out.step hb)
      have B_x2 : Hid (Below w.heap.size w x2) := Lib.hid (stepB B_x1.out hb)
      have I_x2 : Hid (FI x2 x2.heap.size A xs) := Lib.hid (I_x1.out.step hb)
      have S_x2 : Hid (S2.IL x2 x2.heap.size A2 X) := Lib.hid (CL.step S_x1.out hb)
      have Z_x2 : Hid (w.heap.size + 2 ≤ x2.heap.size) := Lib.hid (Nat.le_trans Z_x1.out hb.size)
      clear T_x1 R_x1 B_x1 I_x1 S_x1 Z_x1
      have G_x2 := Lib.hid hN
      try rw [← hx2]
      try rw [← hgp]
      clear hHeld hb hN hx2 hgp
      refine hK.out _ _ T_x2.out (fun hHeld => ?_)
      clear hK K
      try simp only [Act.put, List.setIfInBounds_toArray, List.set_cons_zero, List.set_cons_succ]
      refine wpAnyH_ready (rs := [2]) (by kernel_rfl) (by simp) ?_
      refine (AllReadyH.cons (get_ops _ _ _ rfl) (fun K hK => ?_) AllReadyH.nil)
      have ZO := Z_x2
      have GO : Hid (gp < x2.heap.size) := Lib.hid G_x2.out.lt
      go_simp
      refine (HCI.out x2 I_x2.out).mono ?_
      rintro e x3 ⟨v2, ys, rfl, hys, hown, ⟨M0, hM0, hMg, hpl⟩, hb⟩
      have T_x3 : Hid (BK 27 x3 w.heap.size (wcs L A c xs A2 c2 X l)) := Lib.hid (T_x2.out.step hb)
      have R_x3 : Hid (BK 27 x3 (w.heap.size + 1) (wcs 0 none 0 [] none 0 [] 0)) := Lib.hid (R_x2.out.step hb)
      have B_x3 : Hid (Below w.heap.size w x3) := Lib.hid (stepB B_x2.out hb)
      have I_x3 : Hid (FI x3 x3.heap.size A xs) := Lib.hid (I_x2.out.step hb)
      have S_x3 : Hid (S2.IL x3 x3.heap.size A2 X) := Lib.hid (CL.step S_x2.out hb)
      have Z_x3 : Hid (w.heap.size + 2 ≤ x3.heap.size) := Lib.hid (Nat.le_trans Z_x2.out hb.size)
      have G_x3 : Hid (BK 25 x3 gp [.slice none 0 0, .int .i64 0]) := Lib.hid (G_x2.out.step hb)
      clear T_x2 R_x2 B_x2 I_x2 S_x2 Z_x2 G_x2
      have hits : Its (w.heap.size + 2) x3 v2 ys := ⟨hown.weak ZO.out, fun y hy => (hpl y hy).1⟩
      have Y_x3 : Hid (Its (w.heap.size + 2) x3 v2 ys) := Lib.hid (hits)
      have HYS := Lib.hid hys
      have HSELF : Hid (∀ q n c, v2 = .slice (some ⟨q, 0, none⟩) n c → ∀ y ∈ ys, Away q y.a y.f.m.props.length) := Lib.hid (fun q n c e y hy _ b o e2 => by have := hMg q n c e; have := (hpl y hy).2 b o e2; omega)
      have HNEW : Hid (∀ y ∈ ys, NewL (w.heap.size + 2) y.a) := Lib.hid (fun y hy b o e2 => by have := (hpl y hy).2 b o e2; have := ZO.out; omega)
      have HAY : Hid (ItA gp v2 ys) := Lib.hid ⟨fun q n c e => by have := hown.lt q n c e; have := GO.out; omega, fun y hy _ b o e2 => by have := (hpl y hy).2 b o e2; have := GO.out; omega⟩
      clear hits hys hown hM0 hMg hpl ZO GO
      clear hHeld hb
      go_wp2_with fail
      refine hK.out _ _ T_x3.out (fun hHeld => ?_)
      clear hK K
      try simp only [Act.put, List.setIfInBounds_toArray, List.set_cons_zero, List.set_cons_succ]
      refine wpAnyH_ready (rs := [5]) (by kernel_rfl) (by simp) ?_
      refine (AllReadyH.cons (get_ops _ _ _ rfl) (fun K hK => ?_) AllReadyH.nil)
      have ZO := Z_x3
      have YO := Y_x3
      have GO : Hid (gp < x3.heap.size) := Lib.hid G_x3.out.lt
      go_simp
      refine (HCP.out x3 S_x3.out).mono ?_
      rintro e x4 ⟨a3, c3, rfl, hc3, hil3, hnew3, hb⟩
      have T_x4 : Hid (BK 27 x4 w.heap.size (wcs L A c xs A2 c2 X l)) := Lib.hid (T_x3.out.step hb)
      have R_x4 : Hid (BK 27 x4 (w.heap.size + 1) (wcs 0 none 0 [] none 0 [] 0)) := Lib.hid (R_x3.out.step hb)
      have B_x4 : Hid (Below w.heap.size w x4) := Lib.hid (stepB B_x3.out hb)
      have I_x4 : Hid (FI x4 x4.heap.size A xs) := Lib.hid (I_x3.out.step hb)
      have S_x4 : Hid (S2.IL x4 x4.heap.size A2 X) := Lib.hid (CL.step S_x3.out hb)
      have Z_x4 : Hid (w.heap.size + 2 ≤ x4.heap.size) := Lib.hid (Nat.le_trans Z_x3.out hb.size)
      have G_x4 : Hid (BK 25 x4 gp [.slice none 0 0, .int .i64 0]) := Lib.hid (G_x3.out.step hb)
      have Y_x4 : Hid (Its (w.heap.size + 2) x4 v2 ys) := Lib.hid (Y_x3.out.step hb)
      clear T_x3 R_x3 B_x3 I_x3 S_x3 Z_x3 G_x3 Y_x3
      have Q_x4 : Hid (S2.IL x4 x4.heap.size a3 X) := Lib.hid (hil3)
      have HA3G : Hid (∀ q n c, v2 = .slice (some ⟨q, 0, none⟩) n c → Away q a3 X.length) := Lib.hid (fun q n c e _ b o e2 => by have := hnew3 b o e2; have := YO.out.1.lt q n c e; omega)
      have HC3 := Lib.hid hc3
      have HN3 : Hid (NewL (w.heap.size + 2) a3) := Lib.hid (fun b o e => by have := hnew3 b o e; have := ZO.out; omega)
      have HA3 : Hid (Away gp a3 X.length) := Lib.hid (fun _ b o e => by have := hnew3 b o e; have := GO.out; omega)
      clear hil3 hc3 hnew3 ZO YO GO
      clear hHeld hb
      go_wp2_with fail
      refine hK.out _ _ T_x4.out (fun hHeld => ?_)
      clear hK K
      try simp only [Act.put, List.setIfInBounds_toArray, List.set_cons_zero, List.set_cons_succ]
      refine wpAnyH_take (i := 7) (v := v2) (get_ops _ _ _ rfl) (by kernel_rfl) (by kernel_rfl) (by kernel_rfl) (fun _ _ _ h => h) (Or.inl ⟨by rfl, fun wS hSw => by (try dsimp only at hSw); go_simp⟩) hHeld ?_
      try simp only [Act.put, List.setIfInBounds_toArray, List.set_cons_zero, List.set_cons_succ]
      refine wpAnyH_ready (rs := [8]) (by kernel_rfl) (by simp) ?_
      refine (AllReadyH.cons (get_ops _ _ _ rfl) (fun K hK => ?_) AllReadyH.nil)
      refine S2.wp_store_all 25 _ _ rfl rfl gp (by go_simp) [.slice a3 X.length c3, .int .i64 l] (by first | rfl | go_simp) 25 [.slice none 0 0, .int .i64 0] G_x4.out S2.infoP2 rfl (ones rfl) ?_
      intro x5 hM hP
      have G_x5 : Hid (BK 25 x5 gp [.slice a3 X.length c3, .int .i64 l]) := Lib.hid (hM)
      have T_x5 : Hid (BK 27 x5 w.heap.size (wcs L A c xs A2 c2 X l)) := Lib.hid (hP.other T_x4.out (by have := HGP.out; omega))
      have R_x5 : Hid (BK 27 x5 (w.heap.size + 1) (wcs 0 none 0 [] none 0 [] 0)) := Lib.hid (hP.other R_x4.out (by have := HGP.out; omega))
      have B_x5 : Hid (Below w.heap.size w x5) := Lib.hid (hP.below B_x4.out (by have := HGP.out; omega))
      have Z_x5 : Hid (w.heap.size + 2 ≤ x5.heap.size) := Lib.hid ((by rw [hP.size]; exact Z_x4.out))
      have Y_x5 : Hid (Its (w.heap.size + 2) x5 v2 ys) := Lib.hid (Y_x4.out.put hP HAY.out)
      have Q_x5 : Hid (S2.IL x5 x5.heap.size a3 X) := Lib.hid (ILput Q_x4.out hP HA3.out)
      clear T_x4 R_x4 B_x4 I_x4 S_x4 Z_x4 G_x4 Y_x4 Q_x4
      clear hM hP hHeld
      refine hK.out _ _ T_x5.out (fun hHeld => ?_)
      clear hK K
      try simp only [Act.put, List.setIfInBounds_toArray, List.set_cons_zero, List.set_cons_succ]
      refine wpAnyH_done (by kernel_rfl) ?_ _
      go_wp2_with fail
      go_meet
      exact ⟨ys, gp, a3, c3, rfl, ⟨HYS.out, Y_x5.out, HSELF.out, HNEW.out, HAY.out, HGP.out, G_x5.out, Q_x5.out, HC3.out, HN3.out, HA3.out, HA3G.out, T_x5.out, R_x5.out, B_x5.out⟩⟩
  case rest =>
    obtain ⟨ys, gp, a3, c3, rfl, hc⟩ := hcut
    have HC := Lib.hid hc
    have T_wc := Lib.hid hc.box
    have R_wc := Lib.hid hc.res
    have G_wc := Lib.hid hc.pool
    have hyl : ys.length = xs.length := sameLen hc.same
    rcases own_rowF hc.its.1 with ⟨rfl, rfl⟩ | ⟨g, cap, sp, rfl, hbg, hg, hnc, hcm, hcs⟩
    · have hx0 : xs = [] := List.eq_nil_of_length_eq_zero (by simpa using hyl.symm)
      subst hx0
      obtain rfl : i = 0 := by simpa using hi
      clear hc hyl
      go_upto_region 5 with fail
      have d0 := T_wc.out.cell 0 rfl
      have wld : (loadVar 25 ⟨gp, 0, none⟩).run Tryz.prog wc = .ok (S2.pv a3 c3 X l) wc := S2.run_load_all G_wc.out Tryz.underlying25 rfl S2.infoP2
      have WLD := Lib.hid wld
      clear wld
      go_wp2_with first
        | (refine wpList_load_v (by rfl) 25 (.tmp 6) rfl ⟨gp, 0, none⟩ rfl (S2.pv a3 c3 X l) WLD.out ?_)
        | (refine S2.wpList_store_all (by rfl) 27 (.tmp 4) (.tmp 36) rfl rfl (w.heap.size + 1) rfl (wcs L none 0 ([] : List FE) a3 c3 X l) rfl 27 (wcs 0 none 0 [] none 0 [] 0) R_wc.out winSize rfl (ones rfl) ?_; intro wf hM hP; have MF := Lib.hid hM; have PF := Lib.hid hP; clear hM hP)
      refine bodyPost_ret (v := wv L none 0 ([] : List FE) a3 c3 X l) (S2.res_cell rfl _ _ (w.heap.size + 1) 27 (wcs L none 0 ([] : List FE) a3 c3 X l) _ rfl MF.out Tryz.underlying27 rfl winSize) rfl ⟨none, 0, [], a3, c3, rfl, rfl, ⟨FI.nil _ _ _, Nat.le_refl _, ILput HC.out.il PF.out (fun hn b o e => by have := HC.out.new3 b o e; omega), HC.out.cap⟩, ⟨(fun b o e => by cases e), (fun y hy => by cases hy), fun _ b o e => by have := HC.out.new3 b o e; omega⟩, PF.out.below HC.out.below (by omega)⟩
    · have HG := Lib.hid (And.intro hbg (And.intro hnc (And.intro hcm hcs)))
      have W_wc := Lib.hid hg
      have hgg : g ≠ gp := hc.away.1 g _ _ rfl
      have HGG := Lib.hid hgg
      have HLT := Lib.hid (And.intro hg.lt hc.pool.lt)
      by_cases hil : i < ys.length
      · obtain ⟨y, hy⟩ : ∃ y, ys[i]? = some y := ⟨_, List.getElem?_eq_getElem hil⟩
        obtain ⟨x, hx, hxy⟩ := getSame hc.same hy
        have hidb := HID.out x (List.mem_of_getElem? hx)
        rw [hxy] at hidb
        have HIDB := Lib.hid hidb
        have HY := Lib.hid hy
        have HIL := Lib.hid hil
        have e3 : decide ((i : Int) < (ys.length : Int)) = true := decide_eq_true (by omega)
        have e4 : decide (i < ys.length) = true := decide_eq_true hil
        have j1 : (0 : Int) ≤ (i : Int) := by omega
        have j2 : (i : Int) < (ys.length : Int) := by omega
        have hw1 : IntKind.i64.wrap ((i : Int) + 1) = (i : Int) + 1 := by rw [IntKind.wrap_i64]; omega
        have jj : (i : Int) ≤ 100000 := by omega
        have B_wc := Lib.hid hc.below
        have P_wc : Hid (∀ y ∈ ys, PL wc wc.heap.size y.a y.f.m.props) := Lib.hid hc.its.2
        have Q_wc := Lib.hid hc.il
        clear hbg hg hnc hcm hcs hy hx hxy hidb hil hi hyl hc hgg
        go_upto_region 3 with fail
        clear e3 e4
        obtain ⟨q1, hq1⟩ : ∃ q1, q1 = World.drew wc := ⟨_, rfl⟩
        have hbD : Below wc.heap.size wc q1 := by rw [hq1]; exact (Below.refl _ _).drew
        have T_q1 : Hid (BK 27 q1 w.heap.size (wcs L A c xs A2 c2 X l)) := Lib.hid (T_wc.out.step hbD)
        have R_q1 : Hid (BK 27 q1 (w.heap.size + 1) (wcs 0 none 0 [] none 0 [] 0)) := Lib.hid (R_wc.out.step hbD)
        have B_q1 : Hid (Below w.heap.size w q1) := Lib.hid (stepB B_wc.out hbD)
        have G_q1 : Hid (BK 25 q1 gp [.slice a3 X.length c3, .int .i64 l]) := Lib.hid (G_wc.out.step hbD)
        have W_q1 : Hid (BK 60 q1 g (ys.flatMap gF ++ sp)) := Lib.hid (W_wc.out.step hbD)
        have P_q1 : Hid (∀ y ∈ ys, PL q1 q1.heap.size y.a y.f.m.props) := Lib.hid (fun y hy => (P_wc.out y hy).step hbD)
        have Q_q1 : Hid (S2.IL q1 q1.heap.size a3 X) := Lib.hid (CL.step Q_wc.out hbD)
        clear T_wc R_wc B_wc G_wc W_wc P_wc Q_wc
        have hbd : (fun w' => BK 60 w' g (ys.flatMap gF ++ sp)) (World.drew wc) := by rw [← hq1]; exact W_q1.out
        have hSD : (fun w' => BK 60 w' g (ys.flatMap gF ++ sp)) q1 := W_q1.out
        have HWD := Lib.hid hq1
        clear hq1 hbD
        refine wp_region_held_drew (S := fun w' => BK 60 w' g (ys.flatMap gF ++ sp)) (by kernel_rfl) hbd (fun hHeld => ?_)
        rw [← HWD.out]
        clear hHeld
        have hHeld := hSD
        clear hSD hbd HWD
        refine wpAnyH_take (i := 1) (v := .slice (some ⟨g, 0, none⟩) ys.length cap) (get_ops _ _ _ rfl) (by kernel_rfl) (by kernel_rfl) (by kernel_rfl) (fun _ _ _ h => h) (Or.inl ⟨by rfl, fun wS hSw => by (try dsimp only at hSw); go_simp⟩) hHeld ?_
        try simp only [Act.put, List.setIfInBounds_toArray, List.set_cons_zero, List.set_cons_succ]
        refine wpAnyH_take (i := 2) (v := .int .i64 i) (get_ops _ _ _ rfl) (by kernel_rfl) (by kernel_rfl) (by kernel_rfl) (fun _ _ _ h => h) (Or.inl ⟨by rfl, fun wS hSw => by (try dsimp only at hSw); go_simp⟩) hHeld ?_
        try simp only [Act.put, List.setIfInBounds_toArray, List.set_cons_zero, List.set_cons_succ]
        refine wpAnyH_take (i := 3) (v := .pointer (some ⟨g, i * 11, none⟩)) (get_ops _ _ _ rfl) (by kernel_rfl) (by kernel_rfl) (by kernel_rfl) (fun _ _ _ h => h) (Or.inl ⟨by rfl, fun wS hSw => by (try dsimp only at hSw); go_simp⟩) hHeld ?_
        try simp only [Act.put, List.setIfInBounds_toArray, List.set_cons_zero, List.set_cons_succ]
        refine wpAnyH_take (i := 4) (v := .pointer (some ⟨g, i * 11, none⟩)) (get_ops _ _ _ rfl) (by kernel_rfl) (by kernel_rfl) (by kernel_rfl) (fun _ _ _ h => h) (Or.inl ⟨by rfl, fun wS hSw => by (try dsimp only at hSw); go_simp⟩) hHeld ?_
        try simp only [Act.put, List.setIfInBounds_toArray, List.set_cons_zero, List.set_cons_succ]
        refine wpAnyH_take (i := 5) (v := .int .i64 y.f.id) (get_ops _ _ _ rfl) (by kernel_rfl) (by kernel_rfl) (by kernel_rfl) (fun _ _ _ h => h) (Or.inl ⟨by rfl, fun wS hSw => by (try dsimp only at hSw); have cS : wS.cell? ⟨g, i * 11, none⟩ = some (.int .i64 y.f.id) := row_item hSw HY.out 0 _ rfl; clear hSw; go_simp⟩) hHeld ?_
        try simp only [Act.put, List.setIfInBounds_toArray, List.set_cons_zero, List.set_cons_succ]
        refine wpAnyH_ready (rs := [0]) (by kernel_rfl) (by simp) ?_
        refine (AllReadyH.cons (get_ops _ _ _ rfl) (fun K hK => ?_) AllReadyH.nil)
        refine wp_load_row 25 _ rfl gp (by go_simp) 25 ([.slice a3 X.length c3, .int .i64 l] : List Value).toArray (0, 0) _ G_q1.out Tryz.underlying25 rfl S2.infoP2 ?_
        clear hHeld
        refine hK.out _ _ W_q1.out (fun hHeld => ?_)
        clear hK K
        try simp only [Act.put, List.setIfInBounds_toArray, List.set_cons_zero, List.set_cons_succ]
        refine wpAnyH_ready (rs := [6]) (by kernel_rfl) (by simp) ?_
        refine (AllReadyH.cons (get_ops _ _ _ rfl) (fun K hK => ?_) AllReadyH.nil)
        have GLT : Hid (gp < q1.heap.size) := Lib.hid G_q1.out.lt
        have WLT : Hid (g < q1.heap.size) := Lib.hid W_q1.out.lt
        go_simp
        refine (HFR.out a3 c3 y.f.id q1 Q_q1.out HC.out.cap HIDB.out.1 HIDB.out.2).mono ?_
        rintro e q2 ⟨a4, c4, rfl, hc4, hil4, hfr4, hb⟩
        have T_q2 : Hid (BK 27 q2 w.heap.size (wcs L A c xs A2 c2 X l)) := Lib.hid (T_q1.out.step hb)
        have R_q2 : Hid (BK 27 q2 (w.heap.size + 1) (wcs 0 none 0 [] none 0 [] 0)) := Lib.hid (R_q1.out.step hb)
        have B_q2 : Hid (Below w.heap.size w q2) := Lib.hid (stepB B_q1.out hb)
        have G_q2 : Hid (BK 25 q2 gp [.slice a3 X.length c3, .int .i64 l]) := Lib.hid (G_q1.out.step hb)
        have W_q2 : Hid (BK 60 q2 g (ys.flatMap gF ++ sp)) := Lib.hid (W_q1.out.step hb)
        have P_q2 : Hid (∀ y ∈ ys, PL q2 q2.heap.size y.a y.f.m.props) := Lib.hid (fun y hy => (P_q1.out y hy).step hb)
        have Q_q2 : Hid (S2.IL q2 q2.heap.size a3 X) := Lib.hid (CL.step Q_q1.out hb)
        clear T_q1 R_q1 B_q1 G_q1 W_q1 P_q1 Q_q1
        have N_q2 : Hid (S2.IL q2 q2.heap.size a4 (S2.delI X y.f.id)) := Lib.hid (hil4)
        have HC4 := Lib.hid hc4
        have HA4 : Hid (Away gp a4 (S2.delI X y.f.id).length) := Lib.hid (away_fr hfr4 HC.out.away3 GLT.out)
        have HA4G : Hid (Away g a4 (S2.delI X y.f.id).length) := Lib.hid (away_fr hfr4 (HC.out.away3g g _ _ rfl) WLT.out)
        have HN4 : Hid (NewN (w.heap.size + 2) a4 (S2.delI X y.f.id).length) := Lib.hid (new_fr hfr4 HC.out.new3 (by have := GLT.out; have := HC.out.gpLe; omega))
        clear hil4 hc4 hfr4 GLT WLT
        clear hHeld hb
        go_wp2_with fail
        refine hK.out _ _ W_q2.out (fun hHeld => ?_)
        clear hK K
        try simp only [Act.put, List.setIfInBounds_toArray, List.set_cons_zero, List.set_cons_succ]
        refine wpAnyH_take (i := 7) (v := .tuple #[S2.pv a4 c4 (S2.delI X y.f.id) l, .bool (decide (y.f.id ∈ X))]) (get_ops _ _ _ rfl) (by kernel_rfl) (by kernel_rfl) (by kernel_rfl) (fun _ _ _ h => h) (Or.inl ⟨by rfl, fun wS hSw => by (try dsimp only at hSw); go_simp⟩) hHeld ?_
        try simp only [Act.put, List.setIfInBounds_toArray, List.set_cons_zero, List.set_cons_succ]
        refine wpAnyH_take (i := 8) (v := S2.pv a4 c4 (S2.delI X y.f.id) l) (get_ops _ _ _ rfl) (by kernel_rfl) (by kernel_rfl) (by kernel_rfl) (fun _ _ _ h => h) (Or.inl ⟨by rfl, fun wS hSw => by (try dsimp only at hSw); go_simp⟩) hHeld ?_
        try simp only [Act.put, List.setIfInBounds_toArray, List.set_cons_zero, List.set_cons_succ]
        refine wpAnyH_take (i := 9) (v := .bool (decide (y.f.id ∈ X))) (get_ops _ _ _ rfl) (by kernel_rfl) (by kernel_rfl) (by kernel_rfl) (fun _ _ _ h => h) (Or.inl ⟨by rfl, fun wS hSw => by (try dsimp only at hSw); go_simp⟩) hHeld ?_
        try simp only [Act.put, List.setIfInBounds_toArray, List.set_cons_zero, List.set_cons_succ]
        refine wpAnyH_ready (rs := [10]) (by kernel_rfl) (by simp) ?_
        refine (AllReadyH.cons (get_ops _ _ _ rfl) (fun K hK => ?_) AllReadyH.nil)
        refine S2.wp_store_all 25 _ _ rfl rfl gp (by go_simp) [.slice a4 (S2.delI X y.f.id).length c4, .int .i64 l] (by first | rfl | go_simp) 25 [.slice a3 X.length c3, .int .i64 l] G_q2.out S2.infoP2 rfl (ones rfl) ?_
        intro q3 hM hP
        have G_q3 : Hid (BK 25 q3 gp [.slice a4 (S2.delI X y.f.id).length c4, .int .i64 l]) := Lib.hid (hM)
        have T_q3 : Hid (BK 27 q3 w.heap.size (wcs L A c xs A2 c2 X l)) := Lib.hid (hP.other T_q2.out (by have := HC.out.gpLe; omega))
        have R_q3 : Hid (BK 27 q3 (w.heap.size + 1) (wcs 0 none 0 [] none 0 [] 0)) := Lib.hid (hP.other R_q2.out (by have := HC.out.gpLe; omega))
        have B_q3 : Hid (Below w.heap.size w q3) := Lib.hid (hP.below B_q2.out (by have := HC.out.gpLe; omega))
        have W_q3 : Hid (BK 60 q3 g (ys.flatMap gF ++ sp)) := Lib.hid (hP.other W_q2.out HGG.out)
        have P_q3 : Hid (∀ y ∈ ys, PL q3 q3.heap.size y.a y.f.m.props) := Lib.hid (fun y hy => by rw [hP.size]; exact (P_q2.out y hy).putA hP (HC.out.away.2 y hy))
        have N_q3 : Hid (S2.IL q3 q3.heap.size a4 (S2.delI X y.f.id)) := Lib.hid (ILput N_q2.out hP HA4.out)
        clear T_q2 R_q2 B_q2 G_q2 W_q2 P_q2 Q_q2 N_q2
        clear hM hP hHeld
        refine hK.out _ _ W_q3.out (fun hHeld => ?_)
        clear hK K
        try simp only [Act.put, List.setIfInBounds_toArray, List.set_cons_zero, List.set_cons_succ]
        refine wpAnyH_done (by kernel_rfl) ?_ _
        go_wp2_with fail
        have hdel := deleteF_any g cap i ys sp q3 W_q3.out HIL.out HG.out.2.1 HG.out.2.2.2
        refine hdel.mono ?_
        rintro e wd ⟨sp2, rfl, hrow, hrl, hput⟩
        have T_wd : Hid (BK 27 wd w.heap.size (wcs L A c xs A2 c2 X l)) := Lib.hid (hput.other T_q3.out (by have := HG.out.1; omega))
        have R_wd : Hid (BK 27 wd (w.heap.size + 1) (wcs 0 none 0 [] none 0 [] 0)) := Lib.hid (hput.other R_q3.out (by have := HG.out.1; omega))
        have G_wd : Hid (BK 25 wd gp [.slice a4 (S2.delI X y.f.id).length c4, .int .i64 l]) := Lib.hid (hput.other G_q3.out (fun e => HGG.out e.symm))
        have B_wd : Hid (Below w.heap.size w wd) := Lib.hid (hput.below B_q3.out (by have := HG.out.1; omega))
        have Q_wd : Hid (S2.IL wd wd.heap.size a4 (S2.delI X y.f.id)) := Lib.hid (ILput N_q3.out hput HA4G.out)
        have P_wd : Hid (∀ z ∈ ys.eraseIdx i, PL wd wd.heap.size z.a z.f.m.props) := Lib.hid (fun z hz => by rw [hput.size]; exact (P_q3.out z (List.mem_of_mem_eraseIdx hz)).putA hput (HC.out.self g _ _ rfl z (List.mem_of_mem_eraseIdx hz)))
        have F_wd : Hid (FI wd wd.heap.size (some ⟨g, 0, none⟩) (ys.eraseIdx i)) := Lib.hid (row_fi hrow P_wd.out)
        have HNW : Hid (∀ z ∈ ys.eraseIdx i, NewL (w.heap.size + 2) z.a) := Lib.hid (fun z hz => HC.out.new z (List.mem_of_mem_eraseIdx hz))
        have HEF : Hid ((ys.eraseIdx i).map FE.f = (xs.map FE.f).eraseIdx i) := Lib.hid (by rw [← HC.out.same]; exact (map_erase FE.f ys i))
        have HEL : Hid ((ys.eraseIdx i).length ≤ cap) := Lib.hid (by rw [List.length_eraseIdx_of_lt HIL.out]; have := HG.out.2.1; omega)
        have HRM : Hid (remR (L, xs.map FE.f, X, l) i = (L, (xs.map FE.f).eraseIdx i, S2.delI X y.f.id, l)) := Lib.hid (rem_at (by rw [← HC.out.same, List.getElem?_map, HY.out]; rfl))
        clear hrow hrl hput T_q3 R_q3 B_q3 G_q3 W_q3 P_q3 N_q3 P_wd
        generalize ys.eraseIdx i = zs at *
        go_upto_region 5 with fail
        have d0 := T_wd.out.cell 0 rfl
        have wld : (loadVar 25 ⟨gp, 0, none⟩).run Tryz.prog wd = .ok (S2.pv a4 c4 (S2.delI X y.f.id) l) wd := S2.run_load_all G_wd.out Tryz.underlying25 rfl S2.infoP2
        have WLD := Lib.hid wld
        clear wld
        go_wp2_with first
          | (refine wpList_load_v (by rfl) 25 (.tmp 6) rfl ⟨gp, 0, none⟩ rfl (S2.pv a4 c4 (S2.delI X y.f.id) l) WLD.out ?_)
          | (refine S2.wpList_store_all (by rfl) 27 (.tmp 4) (.tmp 36) rfl rfl (w.heap.size + 1) rfl (wcs L (some ⟨g, 0, none⟩) cap zs a4 c4 (S2.delI X y.f.id) l) rfl 27 (wcs 0 none 0 [] none 0 [] 0) R_wd.out winSize rfl (ones rfl) ?_; intro wf hM hP; have MF := Lib.hid hM; have PF := Lib.hid hP; clear hM hP)
        rw [HRM.out]
        refine bodyPost_ret (v := wv L (some ⟨g, 0, none⟩) cap zs a4 c4 (S2.delI X y.f.id) l) (S2.res_cell rfl _ _ (w.heap.size + 1) 27 (wcs L (some ⟨g, 0, none⟩) cap zs a4 c4 (S2.delI X y.f.id) l) _ rfl MF.out Tryz.underlying27 rfl winSize) rfl ⟨some ⟨g, 0, none⟩, cap, zs, a4, c4, rfl, HEF.out, ⟨?_, HEL.out, ILput Q_wd.out PF.out (fun hn b o e => by have := HN4.out hn b o e; omega), HC4.out⟩, ⟨(fun b o e => by simp only [Option.some.injEq, Addr.mk.injEq, and_true] at e; have := HG.out.1; omega), (fun z hz b o e => by have := HNW.out z hz b o e; omega), fun hn b o e => by have := HN4.out hn b o e; omega⟩, PF.out.below B_wd.out (by omega)⟩
        rw [PF.out.size]
        exact FI.put F_wd.out PF.out (fun b o e => by simp only [Option.some.injEq, Addr.mk.injEq, and_true] at e; have := HG.out.1; omega) (fun z hz b o e => by have := HNW.out z hz b o e; omega)
      · have e3 : decide ((i : Int) < (ys.length : Int)) = false := decide_eq_false (by omega)
        have e4 : decide (i < ys.length) = false := decide_eq_false hil
        have F_wc : Hid (FI wc wc.heap.size (some ⟨g, 0, none⟩) ys) := Lib.hid (row_fi hg hc.its.2)
        have HRM : Hid (remR (L, xs.map FE.f, X, l) i = (L, xs.map FE.f, X, l)) := Lib.hid (rem_none (by rw [List.getElem?_eq_none]; rw [List.length_map]; omega))
        clear hc hbg hg hnc hcm hcs hil hi hyl hgg
        go_upto_region 5 with fail
        clear e3 e4
        have d0 := T_wc.out.cell 0 rfl
        have wld : (loadVar 25 ⟨gp, 0, none⟩).run Tryz.prog wc = .ok (S2.pv a3 c3 X l) wc := S2.run_load_all G_wc.out Tryz.underlying25 rfl S2.infoP2
        have WLD := Lib.hid wld
        clear wld
        go_wp2_with first
          | (refine wpList_load_v (by rfl) 25 (.tmp 6) rfl ⟨gp, 0, none⟩ rfl (S2.pv a3 c3 X l) WLD.out ?_)
          | (refine S2.wpList_store_all (by rfl) 27 (.tmp 4) (.tmp 36) rfl rfl (w.heap.size + 1) rfl (wcs L (some ⟨g, 0, none⟩) cap ys a3 c3 X l) rfl 27 (wcs 0 none 0 [] none 0 [] 0) R_wc.out winSize rfl (ones rfl) ?_; intro wf hM hP; have MF := Lib.hid hM; have PF := Lib.hid hP; clear hM hP)
        rw [HRM.out]
        refine bodyPost_ret (v := wv L (some ⟨g, 0, none⟩) cap ys a3 c3 X l) (S2.res_cell rfl _ _ (w.heap.size + 1) 27 (wcs L (some ⟨g, 0, none⟩) cap ys a3 c3 X l) _ rfl MF.out Tryz.underlying27 rfl winSize) rfl ⟨some ⟨g, 0, none⟩, cap, ys, a3, c3, rfl, HC.out.same, ⟨?_, HG.out.2.1, ILput HC.out.il PF.out (fun hn b o e => by have := HC.out.new3 b o e; omega), HC.out.cap⟩, ⟨(fun b o e => by simp only [Option.some.injEq, Addr.mk.injEq, and_true] at e; have := HG.out.1; omega), (fun z hz b o e => by have := HC.out.new z hz b o e; omega), fun hn b o e => by have := HC.out.new3 b o e; omega⟩, PF.out.below HC.out.below (by omega)⟩
        rw [PF.out.size]
        exact FI.put F_wc.out PF.out (fun b o e => by simp only [Option.some.injEq, Addr.mk.injEq, and_true] at e; have := HG.out.1; omega) (fun z hz b o e => by have := HC.out.new z hz b o e; omega)
end Go.Proofs.YtjpikgphfhjilaaGreatDoor
