/-
  What release and remove of inflight answer: the window with an item released, or without it. Conditions: the window reads as data; few items, with few properties; its pool is valid.
-/
import Derived.Test.YtjpikgphfhjilaaGreatDoorWg
import Derived.Test.YtjpikgphfhjilaaGreatDoorWh
namespace Go.Proofs.YtjpikgphfhjilaaGreatDoor
open Go.RowKit
open S2 (BK Put)

def NewN (B : Nat) (A : Option Addr) (n : Nat) : Prop := 0 < n → NewL B A
/-- a window that a call answers, all its lists new -/
def RetW (r : PW) (W : World) (e : Ending) (w' : World) : Prop := ∃ A c ys A2 c2, e = .returned (wv r.1 A c ys A2 c2 r.2.2.1 r.2.2.2) ∧ ys.map FE.f = r.2.1 ∧ WOk w' A c ys A2 c2 r.2.2.1 ∧ (NewL W.heap.size A ∧ (∀ y ∈ ys, NewL W.heap.size y.a) ∧ NewN W.heap.size A2 r.2.2.1.length) ∧ Below W.heap.size W w'
theorem FI.put {w w' : World} {B g : Nat} {A : Option Addr} {xs : List FE} (h : FI w B A xs) (hp : Put g w w') (hA : ∀ b o, A = some ⟨b, o, none⟩ → b ≠ g) (hx : ∀ x ∈ xs, ∀ b o, x.a = some ⟨b, o, none⟩ → b ≠ g) : FI w' B A xs :=
  ⟨fun hn => by
    obtain ⟨b, o, e, hb, hc⟩ := h.1 hn
    exact ⟨b, o, e, hb, fun j x i v hx hv => (hp.cell (p := ⟨b, o + j * 11 + i, none⟩) (hA b o e)).trans (hc j x i v hx hv)⟩, fun x hxs => PL.put (h.2 x hxs) hp (hx x hxs)⟩
theorem ILput {w w' : World} {g : Nat} {A : Option Addr} {X : List Int} (h : S2.IL w w.heap.size A X) (hp : Put g w w') (hA : 0 < X.length → ∀ b o, A = some ⟨b, o, none⟩ → b ≠ g) : S2.IL w' w'.heap.size A X := S2.IL.put h hp (fun b o e hn => hA hn b o e)
/-- an own row as a list -/
theorem row_fi {w : World} {g : Nat} {xs : List FE} {sp : List Value} (hg : BK 60 w g (xs.flatMap gF ++ sp)) (hp : ∀ x ∈ xs, PL w w.heap.size x.a x.f.m.props) : FI w w.heap.size (some ⟨g, 0, none⟩) xs :=
  ⟨fun _ => ⟨g, 0, rfl, hg.lt, fun j x i v hx hv => by rw [Nat.zero_add]; exact row_item hg hx i v hv⟩, hp⟩
theorem setRel_at {F : List Fl} {i : Nat} {x : Fl} (h : F[i]? = some x) : setRel F i = F.set i { x with st := 2 } := by unfold setRel; rw [h]
theorem setRel_none {F : List Fl} {i : Nat} (h : F[i]? = none) : setRel F i = F := by unfold setRel; rw [h]

theorem bk_pool {w : World} {g : Nat} {L : Int} {A : Option Addr} {c : Nat} {xs : List FE} {A2 : Option Addr} {c2 : Nat} {X : List Int} {l : Int} (h : BK 27 w g (wcs L A c xs A2 c2 X l)) : (loadVar 25 ⟨g, 2, none⟩).run Tryz.prog w = .ok (S2.pv A2 c2 X l) w :=
  run_load_cells w g 2 [.slice A2 X.length c2, .int .i64 l] 25 _ (fun i v hv => h.cell (2 + i) (by
    rw [show (wcs L A c xs A2 c2 X l)[2 + i]? = ([.slice A2 X.length c2, .int .i64 l] : List Value)[i]? by
      match i with
      | 0 => rfl
      | 1 => rfl
      | n + 2 => rw [Nat.add_comm 2 (n + 2)]; rfl]
    exact hv)) Tryz.underlying25 rfl S2.infoP2

set_option maxRecDepth 20000 in
set_option maxHeartbeats 4000000 in
theorem release_any (L : Int) (A : Option Addr) (c : Nat) (xs : List FE) (A2 : Option Addr) (c2 : Nat) (X : List Int) (l : Int) (i : Nat) (w : World) (hw : WOk w A c xs A2 c2 X) (hn : xs.length ≤ 100000) (hp : ∀ x ∈ xs, x.f.m.props.length ≤ 100000) (hX : X.length ≤ 100000) (hi : i ≤ xs.length) :
    Calls Tryz.prog 36 #[wv L A c xs A2 c2 X l, .int .i64 i] w (RetW (relR (L, xs.map FE.f, X, l) i) w) := by
  have HCI := Lib.hid (fun w1 h => cloneItems_any A c xs w1 h hn hp)
  have HCP := Lib.hid (fun w1 h => clonePool_any A2 c2 X l w1 h hX)
  have HW := Lib.hid hw
  clear hw
  go_enter Tryz.func36, Tryz.ntmps36
  go_upto_region 1 with fail
  refine name_world (C := fun w1 => Code.wp _ _ _ _ w1) ((w.alloc (.cells (wcs L A c xs A2 c2 X l).toArray 27)).alloc (.cells (wcs 0 none 0 [] none 0 [] 0).toArray 27)) ?_
  intro w1 hw1
  obtain ⟨t1, t2, hs0, hB0⟩ := S2.two_laid (v1 := wcs L A c xs A2 c2 X l) (v2 := wcs 0 none 0 [] none 0 [] 0) hw1
  have HZ := Lib.hid hs0
  have T1 := Lib.hid t1
  have T2 := Lib.hid t2
  have HB := Lib.hid hB0
  have d1 := t1.cell 1 rfl
  clear hw1 t1 t2 hs0 hB0
  go_wp2_with fail
  refine (HCI.out w1 (HW.out.1.step HB.out)).mono ?_
  rintro e w2 ⟨v2, ys, rfl, hys, hown, ⟨M0, hM0, hMg, hpl⟩, hb⟩
  have HM0 := Lib.hid hM0
  have HMG := Lib.hid hMg
  have U1 := Lib.hid (T1.out.step hb)
  have U2 := Lib.hid (T2.out.step hb)
  have HB2 := Lib.hid (stepB HB.out hb)
  have HYS := Lib.hid hys
  have HPL := Lib.hid hpl
  have HS2 : Hid (S2.IL w2 w2.heap.size A2 X) := Lib.hid (CL.step HW.out.2.2.1 HB2.out)
  have HBL : Hid (w.heap.size + 2 ≤ w1.heap.size) := Lib.hid (by have := HZ.out; omega)
  have hyl : ys.length = xs.length := sameLen hys
  clear hb hys hpl T1 T2 HB d1 HCI hM0 hMg
  rcases own_rowF hown with ⟨rfl, rfl⟩ | ⟨g, cap, sp, rfl, hbg, hg, hnc, hcm, hcs⟩
  · have hx0 : xs = [] := List.eq_nil_of_length_eq_zero (by simpa using hyl.symm)
    subst hx0
    obtain rfl : i = 0 := by simpa using hi
    clear hown hyl
    go_upto_region 4 with fail
    have B_w2 := HB2
    have M_w2 := U1
    have R_w2 := U2
    have S_w2 := HS2
    clear HB2 U1 U2 HS2
    obtain ⟨x1, hx1⟩ : ∃ x1, x1 = World.drew w2 := ⟨_, rfl⟩
    have hbD : Below w2.heap.size w2 x1 := by rw [hx1]; exact (Below.refl _ _).drew
    have B_x1 : Hid (Below w.heap.size w x1) := Lib.hid (stepB B_w2.out hbD)
    have M_x1 : Hid (BK 27 x1 w.heap.size (wcs L A c [] A2 c2 X l)) := Lib.hid (M_w2.out.step hbD)
    have R_x1 : Hid (BK 27 x1 (w.heap.size + 1) (wcs 0 none 0 [] none 0 [] 0)) := Lib.hid (R_w2.out.step hbD)
    have S_x1 : Hid (S2.IL x1 x1.heap.size A2 X) := Lib.hid (CL.step S_w2.out hbD)
    clear B_w2 M_w2 R_w2 S_w2
    have hbd : (fun w' => BK 27 w' w.heap.size (wcs L A c [] A2 c2 X l)) (World.drew w2) := by rw [← hx1]; exact M_x1.out
    have hSD : (fun w' => BK 27 w' w.heap.size (wcs L A c [] A2 c2 X l)) x1 := M_x1.out
    have HWD := Lib.hid hx1
    clear hx1 hbD
    refine wp_region_held_drew (S := fun w' => BK 27 w' w.heap.size (wcs L A c [] A2 c2 X l)) (by kernel_rfl) hbd (fun hHeld => ?_)
    rw [← HWD.out]
    clear hHeld
    have hHeld := hSD
    clear hSD hbd HWD
    refine wpAnyH_take (i := 0) (v := .pointer (some ⟨w.heap.size, 0, none⟩)) (get_ops _ _ _ rfl) (by kernel_rfl) (by kernel_rfl) (by kernel_rfl) (fun _ _ _ h => h) (Or.inl ⟨by rfl, fun wS hSw => by (try dsimp only at hSw); go_simp⟩) hHeld ?_
    try simp only [Act.put, List.setIfInBounds_toArray, List.set_cons_zero, List.set_cons_succ]
    refine wpAnyH_take (i := 1) (v := .int .i64 L) (get_ops _ _ _ rfl) (by kernel_rfl) (by kernel_rfl) (by kernel_rfl) (fun _ _ _ h => h) (Or.inl ⟨by rfl, fun wS hSw => by (try dsimp only at hSw); have cS : wS.cell? ⟨w.heap.size, 0, none⟩ = some (.int .i64 L) := hSw.cell 0 rfl; clear hSw; go_simp⟩) hHeld ?_
    try simp only [Act.put, List.setIfInBounds_toArray, List.set_cons_zero, List.set_cons_succ]
    refine wpAnyH_take (i := 2) (v := .slice none ([] : List FE).length 0) (get_ops _ _ _ rfl) (by kernel_rfl) (by kernel_rfl) (by kernel_rfl) (fun _ _ _ h => h) (Or.inl ⟨by rfl, fun wS hSw => by (try dsimp only at hSw); go_simp⟩) hHeld ?_
    try simp only [Act.put, List.setIfInBounds_toArray, List.set_cons_zero, List.set_cons_succ]
    refine wpAnyH_take (i := 3) (v := .pointer (some ⟨w.heap.size, 2, none⟩)) (get_ops _ _ _ rfl) (by kernel_rfl) (by kernel_rfl) (by kernel_rfl) (fun _ _ _ h => h) (Or.inl ⟨by rfl, fun wS hSw => by (try dsimp only at hSw); go_simp⟩) hHeld ?_
    try simp only [Act.put, List.setIfInBounds_toArray, List.set_cons_zero, List.set_cons_succ]
    refine wpAnyH_take (i := 4) (v := S2.pv A2 c2 X l) (get_ops _ _ _ rfl) (by kernel_rfl) (by kernel_rfl) (by kernel_rfl) (fun _ _ _ h => h) (Or.inl ⟨by rfl, fun wS hSw => by (try dsimp only at hSw); exact exec_load 25 _ rfl ⟨w.heap.size, 2, none⟩ (by go_simp) _ (bk_pool hSw)⟩) hHeld ?_
    try simp only [Act.put, List.setIfInBounds_toArray, List.set_cons_zero, List.set_cons_succ]
    refine wpAnyH_ready (rs := [5]) (by kernel_rfl) (by simp) ?_
    refine (AllReadyH.cons (get_ops _ _ _ rfl) (fun K hK => ?_) AllReadyH.nil)
    have hR3 : w.heap.size + 2 ≤ x1.heap.size := by have := R_x1.out.lt; omega
    go_simp
    refine (HCP.out x1 S_x1.out).mono ?_
    rintro e x2 ⟨a3, c3, rfl, hc3, hil3, hnew3, hb⟩
    have B_x2 : Hid (Below w.heap.size w x2) := Lib.hid (stepB B_x1.out hb)
    have M_x2 : Hid (BK 27 x2 w.heap.size (wcs L A c [] A2 c2 X l)) := Lib.hid (M_x1.out.step hb)
    have R_x2 : Hid (BK 27 x2 (w.heap.size + 1) (wcs 0 none 0 [] none 0 [] 0)) := Lib.hid (R_x1.out.step hb)
    have S_x2 : Hid (S2.IL x2 x2.heap.size A2 X) := Lib.hid (CL.step S_x1.out hb)
    clear B_x1 M_x1 R_x1 S_x1
    have Q_x2 : Hid (S2.IL x2 x2.heap.size a3 X) := Lib.hid (hil3)
    have HN3 := Lib.hid hnew3
    have HC3 := Lib.hid hc3
    have HZ3 : Hid (w.heap.size + 2 ≤ x1.heap.size) := Lib.hid hR3
    clear hil3 hnew3 hc3 hR3
    clear hHeld hb
    go_wp2_with fail
    refine hK.out _ _ M_x2.out (fun hHeld => ?_)
    clear hK K
    try simp only [Act.put, List.setIfInBounds_toArray, List.set_cons_zero, List.set_cons_succ]
    refine wpAnyH_take (i := 6) (v := wv L none 0 ([] : List FE) a3 c3 X l) (get_ops _ _ _ rfl) (by kernel_rfl) (by kernel_rfl) (by kernel_rfl) (fun _ _ _ h => h) (Or.inl ⟨by rfl, fun wS hSw => by (try dsimp only at hSw); go_simp⟩) hHeld ?_
    try simp only [Act.put, List.setIfInBounds_toArray, List.set_cons_zero, List.set_cons_succ]
    refine wpAnyH_ready (rs := [7]) (by kernel_rfl) (by simp) ?_
    refine (AllReadyH.cons (get_ops _ _ _ rfl) (fun K hK => ?_) AllReadyH.nil)
    refine S2.wp_store_all 27 _ _ rfl rfl (w.heap.size + 1) (by go_simp) (wcs L none 0 ([] : List FE) a3 c3 X l) (by first | rfl | go_simp) 27 (wcs 0 none 0 [] none 0 [] 0) R_x2.out winSize rfl (ones rfl) ?_
    intro x3 hM hP
    have R_x3 : Hid (BK 27 x3 (w.heap.size + 1) (wcs L none 0 ([] : List FE) a3 c3 X l)) := Lib.hid (hM)
    have B_x3 : Hid (Below w.heap.size w x3) := Lib.hid (hP.below B_x2.out (by omega))
    have M_x3 : Hid (BK 27 x3 w.heap.size (wcs L A c [] A2 c2 X l)) := Lib.hid (hP.other M_x2.out (by omega))
    have Q_x3 : Hid (S2.IL x3 x3.heap.size a3 X) := Lib.hid (ILput Q_x2.out hP (fun hn b o e => by have := HN3.out b o e; have := HZ3.out; omega))
    clear B_x2 M_x2 R_x2 S_x2 Q_x2
    clear hM hP hHeld
    refine hK.out _ _ M_x3.out (fun hHeld => ?_)
    clear hK K
    try simp only [Act.put, List.setIfInBounds_toArray, List.set_cons_zero, List.set_cons_succ]
    refine wpAnyH_done (by kernel_rfl) ?_ _
    go_wp2_with fail
    refine bodyPost_ret (v := wv L none 0 ([] : List FE) a3 c3 X l) (S2.res_cell rfl _ _ (w.heap.size + 1) 27 (wcs L none 0 ([] : List FE) a3 c3 X l) _ rfl R_x3.out Tryz.underlying27 rfl winSize) rfl ?_
    exact ⟨none, 0, [], a3, c3, rfl, rfl, ⟨FI.nil _ _ _, Nat.le_refl _, Q_x3.out, HC3.out⟩, ⟨(fun b o e => by cases e), (fun y hy => by cases hy), fun _ b o e => by have := HN3.out b o e; have := HZ3.out; omega⟩, B_x3.out⟩
  · have HG := Lib.hid (And.intro hbg (And.intro hnc (And.intro hcm hcs)))
    have hlt := hg.lt
    have HGL : Hid (w1.heap.size ≤ g) := Lib.hid hbg
    by_cases hil : i < ys.length
    · obtain ⟨y, hy⟩ : ∃ y, ys[i]? = some y := ⟨_, List.getElem?_eq_getElem hil⟩
      have e3 : decide ((i : Int) < (ys.length : Int)) = true := decide_eq_true (by omega)
      have e4 : decide (i < ys.length) = true := decide_eq_true hil
      have kv := row_item hg hy 1 _ rfl
      have fz := hg.free (i * 11 + 1)
      have j1 : (0 : Int) ≤ (i : Int) := by omega
      have j2 : (i : Int) < (ys.length : Int) := by omega
      have HG0 := Lib.hid hg
      have HY := Lib.hid hy
      clear hown hbg hg hnc hcm hcs hy hil hi hyl
      go_upto_region 4 with fail
      refine name_world (C := fun w3 => Code.wp _ _ _ _ w3) (w2.setCell ⟨g, i * 11 + 1, none⟩ (.int .i64 2)) ?_
      intro w3 hw3
      obtain ⟨zs, hzs⟩ : ∃ zs, zs = ys.set i ⟨{ y.f with st := 2 }, y.a, y.c⟩ := ⟨_, rfl⟩
      have hzl : ys.length = zs.length := by rw [hzs, List.length_set]
      have hrow : BK 60 w3 g (zs.flatMap gF ++ sp) := by rw [hw3, hzs, ← set_item HY.out 2 sp]; exact HG0.out.set _ _
      have hsz : w3.heap.size = w2.heap.size := by rw [hw3]; simp
      have hgM : g < M0 := HMG.out g _ _ rfl
      have hpz : ∀ z ∈ zs, PL w3 w3.heap.size z.a z.f.m.props ∧ NewL M0 z.a := fun z hz => by
        rw [hsz]
        have hz' : ∃ y' ∈ ys, z.a = y'.a ∧ z.f.m = y'.f.m := by
          rw [hzs] at hz
          obtain ⟨j, hj⟩ := List.mem_iff_getElem?.1 hz
          rw [List.getElem?_set] at hj
          split at hj
          · split at hj
            · obtain rfl := Option.some.inj hj
              exact ⟨y, List.mem_of_getElem? HY.out, rfl, rfl⟩
            · cases hj
          · exact ⟨z, List.mem_of_getElem? hj, rfl, rfl⟩
        obtain ⟨y', hy', ea, em⟩ := hz'
        obtain ⟨h1, h2⟩ := HPL.out y' hy'
        rw [ea, em]
        refine ⟨fun hn => ?_, h2⟩
        obtain ⟨b, o, e, hb, hc⟩ := h1 hn
        have := h2 b o e
        refine ⟨b, o, e, hb, fun j x k v hx hv => ?_⟩
        rw [hw3, S2.set_other _ _ _ _ _ (by show b ≠ g; omega)]
        exact hc j x k v hx hv
      have HF1 : Hid (FI w3 w3.heap.size (some ⟨g, 0, none⟩) zs) := Lib.hid (row_fi hrow (fun z hz => (hpz z hz).1))
      have HNW : Hid (∀ z ∈ zs, NewL M0 z.a) := Lib.hid (fun z hz => (hpz z hz).2)
      have HZF : Hid (zs.map FE.f = setRel (xs.map FE.f) i) := Lib.hid (by
        rw [setRel_at (x := y.f) (by rw [← HYS.out, List.getElem?_map, HY.out]; rfl), ← HYS.out, hzs, List.map_set])
      have B_w3 : Hid (Below w.heap.size w w3) := Lib.hid (by rw [hw3]; exact HB2.out.setCell (p := ⟨g, i * 11 + 1, none⟩) (by show w.heap.size ≤ g; have := HGL.out; have := HBL.out; omega) _)
      have M_w3 : Hid (BK 27 w3 w.heap.size (wcs L A c xs A2 c2 X l)) := Lib.hid (by rw [hw3]; exact U1.out.other (by show w.heap.size ≠ g; have := HGL.out; have := HBL.out; omega) _)
      have R_w3 : Hid (BK 27 w3 (w.heap.size + 1) (wcs 0 none 0 [] none 0 [] 0)) := Lib.hid (by rw [hw3]; exact U2.out.other (by show w.heap.size + 1 ≠ g; have := HGL.out; have := HBL.out; omega) _)
      have S_w3 : Hid (S2.IL w3 w3.heap.size A2 X) := Lib.hid (by
        rw [hsz]
        have h := HW.out.2.2.1.below B_w3.out
        exact h.more HB2.out.size)
      have Y_w3 := HF1
      have HNC : Hid (zs.length ≤ cap) := Lib.hid (by rw [← hzl]; exact HG.out.2.1)
      clear HF1 hw3 HG0 kv fz hpz hrow hsz HB2 U1 U2 HS2 hzs HY e3 e4 j1 j2
      rw [hzl]
      clear hzl
      obtain ⟨y1, hy1⟩ : ∃ y1, y1 = World.drew w3 := ⟨_, rfl⟩
      have hbD : Below w3.heap.size w3 y1 := by rw [hy1]; exact (Below.refl _ _).drew
      have B_y1 : Hid (Below w.heap.size w y1) := Lib.hid (stepB B_w3.out hbD)
      have M_y1 : Hid (BK 27 y1 w.heap.size (wcs L A c xs A2 c2 X l)) := Lib.hid (M_w3.out.step hbD)
      have R_y1 : Hid (BK 27 y1 (w.heap.size + 1) (wcs 0 none 0 [] none 0 [] 0)) := Lib.hid (R_w3.out.step hbD)
      have S_y1 : Hid (S2.IL y1 y1.heap.size A2 X) := Lib.hid (CL.step S_w3.out hbD)
      have Y_y1 : Hid (FI y1 y1.heap.size (some ⟨g, 0, none⟩) zs) := Lib.hid (Y_w3.out.step hbD)
      clear B_w3 M_w3 R_w3 S_w3 Y_w3
      have hbd : (fun w' => BK 27 w' w.heap.size (wcs L A c xs A2 c2 X l)) (World.drew w3) := by rw [← hy1]; exact M_y1.out
      have hSD : (fun w' => BK 27 w' w.heap.size (wcs L A c xs A2 c2 X l)) y1 := M_y1.out
      have HWD := Lib.hid hy1
      clear hy1 hbD
      refine wp_region_held_drew (S := fun w' => BK 27 w' w.heap.size (wcs L A c xs A2 c2 X l)) (by kernel_rfl) hbd (fun hHeld => ?_)
      rw [← HWD.out]
      clear hHeld
      have hHeld := hSD
      clear hSD hbd HWD
      refine wpAnyH_take (i := 0) (v := .pointer (some ⟨w.heap.size, 0, none⟩)) (get_ops _ _ _ rfl) (by kernel_rfl) (by kernel_rfl) (by kernel_rfl) (fun _ _ _ h => h) (Or.inl ⟨by rfl, fun wS hSw => by (try dsimp only at hSw); go_simp⟩) hHeld ?_
      try simp only [Act.put, List.setIfInBounds_toArray, List.set_cons_zero, List.set_cons_succ]
      refine wpAnyH_take (i := 1) (v := .int .i64 L) (get_ops _ _ _ rfl) (by kernel_rfl) (by kernel_rfl) (by kernel_rfl) (fun _ _ _ h => h) (Or.inl ⟨by rfl, fun wS hSw => by (try dsimp only at hSw); have cS : wS.cell? ⟨w.heap.size, 0, none⟩ = some (.int .i64 L) := hSw.cell 0 rfl; clear hSw; go_simp⟩) hHeld ?_
      try simp only [Act.put, List.setIfInBounds_toArray, List.set_cons_zero, List.set_cons_succ]
      refine wpAnyH_take (i := 2) (v := .slice (some ⟨g, 0, none⟩) zs.length cap) (get_ops _ _ _ rfl) (by kernel_rfl) (by kernel_rfl) (by kernel_rfl) (fun _ _ _ h => h) (Or.inl ⟨by rfl, fun wS hSw => by (try dsimp only at hSw); go_simp⟩) hHeld ?_
      try simp only [Act.put, List.setIfInBounds_toArray, List.set_cons_zero, List.set_cons_succ]
      refine wpAnyH_take (i := 3) (v := .pointer (some ⟨w.heap.size, 2, none⟩)) (get_ops _ _ _ rfl) (by kernel_rfl) (by kernel_rfl) (by kernel_rfl) (fun _ _ _ h => h) (Or.inl ⟨by rfl, fun wS hSw => by (try dsimp only at hSw); go_simp⟩) hHeld ?_
      try simp only [Act.put, List.setIfInBounds_toArray, List.set_cons_zero, List.set_cons_succ]
      refine wpAnyH_take (i := 4) (v := S2.pv A2 c2 X l) (get_ops _ _ _ rfl) (by kernel_rfl) (by kernel_rfl) (by kernel_rfl) (fun _ _ _ h => h) (Or.inl ⟨by rfl, fun wS hSw => by (try dsimp only at hSw); exact exec_load 25 _ rfl ⟨w.heap.size, 2, none⟩ (by go_simp) _ (bk_pool hSw)⟩) hHeld ?_
      try simp only [Act.put, List.setIfInBounds_toArray, List.set_cons_zero, List.set_cons_succ]
      refine wpAnyH_ready (rs := [5]) (by kernel_rfl) (by simp) ?_
      refine (AllReadyH.cons (get_ops _ _ _ rfl) (fun K hK => ?_) AllReadyH.nil)
      have hR3 : w.heap.size + 2 ≤ y1.heap.size := by have := R_y1.out.lt; omega
      go_simp
      refine (HCP.out y1 S_y1.out).mono ?_
      rintro e y2 ⟨a3, c3, rfl, hc3, hil3, hnew3, hb⟩
      have B_y2 : Hid (Below w.heap.size w y2) := Lib.hid (stepB B_y1.out hb)
      have M_y2 : Hid (BK 27 y2 w.heap.size (wcs L A c xs A2 c2 X l)) := Lib.hid (M_y1.out.step hb)
      have R_y2 : Hid (BK 27 y2 (w.heap.size + 1) (wcs 0 none 0 [] none 0 [] 0)) := Lib.hid (R_y1.out.step hb)
      have S_y2 : Hid (S2.IL y2 y2.heap.size A2 X) := Lib.hid (CL.step S_y1.out hb)
      have Y_y2 : Hid (FI y2 y2.heap.size (some ⟨g, 0, none⟩) zs) := Lib.hid (Y_y1.out.step hb)
      clear B_y1 M_y1 R_y1 S_y1 Y_y1
      have Q_y2 : Hid (S2.IL y2 y2.heap.size a3 X) := Lib.hid (hil3)
      have HN3 := Lib.hid hnew3
      have HC3 := Lib.hid hc3
      have HZ3 : Hid (w.heap.size + 2 ≤ y1.heap.size) := Lib.hid hR3
      clear hil3 hnew3 hc3 hR3
      clear hHeld hb
      go_wp2_with fail
      refine hK.out _ _ M_y2.out (fun hHeld => ?_)
      clear hK K
      try simp only [Act.put, List.setIfInBounds_toArray, List.set_cons_zero, List.set_cons_succ]
      refine wpAnyH_take (i := 6) (v := wv L (some ⟨g, 0, none⟩) cap zs a3 c3 X l) (get_ops _ _ _ rfl) (by kernel_rfl) (by kernel_rfl) (by kernel_rfl) (fun _ _ _ h => h) (Or.inl ⟨by rfl, fun wS hSw => by (try dsimp only at hSw); go_simp⟩) hHeld ?_
      try simp only [Act.put, List.setIfInBounds_toArray, List.set_cons_zero, List.set_cons_succ]
      refine wpAnyH_ready (rs := [7]) (by kernel_rfl) (by simp) ?_
      refine (AllReadyH.cons (get_ops _ _ _ rfl) (fun K hK => ?_) AllReadyH.nil)
      refine S2.wp_store_all 27 _ _ rfl rfl (w.heap.size + 1) (by go_simp) (wcs L (some ⟨g, 0, none⟩) cap zs a3 c3 X l) (by first | rfl | go_simp) 27 (wcs 0 none 0 [] none 0 [] 0) R_y2.out winSize rfl (ones rfl) ?_
      intro y3 hM hP
      have R_y3 : Hid (BK 27 y3 (w.heap.size + 1) (wcs L (some ⟨g, 0, none⟩) cap zs a3 c3 X l)) := Lib.hid (hM)
      have B_y3 : Hid (Below w.heap.size w y3) := Lib.hid (hP.below B_y2.out (by omega))
      have M_y3 : Hid (BK 27 y3 w.heap.size (wcs L A c xs A2 c2 X l)) := Lib.hid (hP.other M_y2.out (by omega))
      have Y_y3 : Hid (FI y3 y3.heap.size (some ⟨g, 0, none⟩) zs) := Lib.hid ((by have h := FI.put Y_y2.out hP (fun b o e => by simp only [Option.some.injEq, Addr.mk.injEq, and_true] at e; have := HGL.out; have := HBL.out; omega) (fun x hx b o e => by have := HNW.out x hx b o e; have := HM0.out; have := HBL.out; omega); rwa [hP.size]))
      have Q_y3 : Hid (S2.IL y3 y3.heap.size a3 X) := Lib.hid (ILput Q_y2.out hP (fun hn b o e => by have := HN3.out b o e; have := HZ3.out; omega))
      clear B_y2 M_y2 R_y2 S_y2 Y_y2 Q_y2
      clear hM hP hHeld
      refine hK.out _ _ M_y3.out (fun hHeld => ?_)
      clear hK K
      try simp only [Act.put, List.setIfInBounds_toArray, List.set_cons_zero, List.set_cons_succ]
      refine wpAnyH_done (by kernel_rfl) ?_ _
      go_wp2_with fail
      refine bodyPost_ret (v := wv L (some ⟨g, 0, none⟩) cap zs a3 c3 X l) (S2.res_cell rfl _ _ (w.heap.size + 1) 27 (wcs L (some ⟨g, 0, none⟩) cap zs a3 c3 X l) _ rfl R_y3.out Tryz.underlying27 rfl winSize) rfl ?_
      exact ⟨some ⟨g, 0, none⟩, cap, zs, a3, c3, rfl, HZF.out, ⟨Y_y3.out, HNC.out, Q_y3.out, HC3.out⟩, ⟨(fun b o e => by simp only [Option.some.injEq, Addr.mk.injEq, and_true] at e; have := HGL.out; have := HBL.out; omega), (fun y hy b o e => by have := HNW.out y hy b o e; have := HM0.out; have := HBL.out; omega), fun _ b o e => by have := HN3.out b o e; have := HZ3.out; omega⟩, B_y3.out⟩
    · have e3 : decide ((i : Int) < (ys.length : Int)) = false := decide_eq_false (by omega)
      have e4 : decide (i < ys.length) = false := decide_eq_false hil
      have HF1 : Hid (FI w2 w2.heap.size (some ⟨g, 0, none⟩) ys) := Lib.hid (row_fi hg (fun z hz => (HPL.out z hz).1))
      have HNW : Hid (∀ z ∈ ys, NewL M0 z.a) := Lib.hid (fun z hz => (HPL.out z hz).2)
      have HZF : Hid (ys.map FE.f = setRel (xs.map FE.f) i) := Lib.hid (by
        rw [setRel_none (by rw [List.getElem?_eq_none]; rw [List.length_map]; omega)]
        exact HYS.out)
      have HNC : Hid (ys.length ≤ cap) := Lib.hid hnc
      have B_w2 := HB2
      have M_w2 := U1
      have R_w2 := U2
      have S_w2 := HS2
      have Y_w2 := HF1
      clear HF1 hown hbg hg hnc hcm hcs hil hi hyl HB2 U1 U2 HS2
      go_upto_region 4 with fail
      clear e3 e4
      obtain ⟨z1, hz1⟩ : ∃ z1, z1 = World.drew w2 := ⟨_, rfl⟩
      have hbD : Below w2.heap.size w2 z1 := by rw [hz1]; exact (Below.refl _ _).drew
      have B_z1 : Hid (Below w.heap.size w z1) := Lib.hid (stepB B_w2.out hbD)
      have M_z1 : Hid (BK 27 z1 w.heap.size (wcs L A c xs A2 c2 X l)) := Lib.hid (M_w2.out.step hbD)
      have R_z1 : Hid (BK 27 z1 (w.heap.size + 1) (wcs 0 none 0 [] none 0 [] 0)) := Lib.hid (R_w2.out.step hbD)
      have S_z1 : Hid (S2.IL z1 z1.heap.size A2 X) := Lib.hid (CL.step S_w2.out hbD)
      have Y_z1 : Hid (FI z1 z1.heap.size (some ⟨g, 0, none⟩) ys) := Lib.hid (Y_w2.out.step hbD)
      clear B_w2 M_w2 R_w2 S_w2 Y_w2
      have hbd : (fun w' => BK 27 w' w.heap.size (wcs L A c xs A2 c2 X l)) (World.drew w2) := by rw [← hz1]; exact M_z1.out
      have hSD : (fun w' => BK 27 w' w.heap.size (wcs L A c xs A2 c2 X l)) z1 := M_z1.out
      have HWD := Lib.hid hz1
      clear hz1 hbD
      refine wp_region_held_drew (S := fun w' => BK 27 w' w.heap.size (wcs L A c xs A2 c2 X l)) (by kernel_rfl) hbd (fun hHeld => ?_)
      rw [← HWD.out]
      clear hHeld
      have hHeld := hSD
      clear hSD hbd HWD
      refine wpAnyH_take (i := 0) (v := .pointer (some ⟨w.heap.size, 0, none⟩)) (get_ops _ _ _ rfl) (by kernel_rfl) (by kernel_rfl) (by kernel_rfl) (fun _ _ _ h => h) (Or.inl ⟨by rfl, fun wS hSw => by (try dsimp only at hSw); go_simp⟩) hHeld ?_
      try simp only [Act.put, List.setIfInBounds_toArray, List.set_cons_zero, List.set_cons_succ]
      refine wpAnyH_take (i := 1) (v := .int .i64 L) (get_ops _ _ _ rfl) (by kernel_rfl) (by kernel_rfl) (by kernel_rfl) (fun _ _ _ h => h) (Or.inl ⟨by rfl, fun wS hSw => by (try dsimp only at hSw); have cS : wS.cell? ⟨w.heap.size, 0, none⟩ = some (.int .i64 L) := hSw.cell 0 rfl; clear hSw; go_simp⟩) hHeld ?_
      try simp only [Act.put, List.setIfInBounds_toArray, List.set_cons_zero, List.set_cons_succ]
      refine wpAnyH_take (i := 2) (v := .slice (some ⟨g, 0, none⟩) ys.length cap) (get_ops _ _ _ rfl) (by kernel_rfl) (by kernel_rfl) (by kernel_rfl) (fun _ _ _ h => h) (Or.inl ⟨by rfl, fun wS hSw => by (try dsimp only at hSw); go_simp⟩) hHeld ?_
      try simp only [Act.put, List.setIfInBounds_toArray, List.set_cons_zero, List.set_cons_succ]
      refine wpAnyH_take (i := 3) (v := .pointer (some ⟨w.heap.size, 2, none⟩)) (get_ops _ _ _ rfl) (by kernel_rfl) (by kernel_rfl) (by kernel_rfl) (fun _ _ _ h => h) (Or.inl ⟨by rfl, fun wS hSw => by (try dsimp only at hSw); go_simp⟩) hHeld ?_
      try simp only [Act.put, List.setIfInBounds_toArray, List.set_cons_zero, List.set_cons_succ]
      refine wpAnyH_take (i := 4) (v := S2.pv A2 c2 X l) (get_ops _ _ _ rfl) (by kernel_rfl) (by kernel_rfl) (by kernel_rfl) (fun _ _ _ h => h) (Or.inl ⟨by rfl, fun wS hSw => by (try dsimp only at hSw); exact exec_load 25 _ rfl ⟨w.heap.size, 2, none⟩ (by go_simp) _ (bk_pool hSw)⟩) hHeld ?_
      try simp only [Act.put, List.setIfInBounds_toArray, List.set_cons_zero, List.set_cons_succ]
      refine wpAnyH_ready (rs := [5]) (by kernel_rfl) (by simp) ?_
      refine (AllReadyH.cons (get_ops _ _ _ rfl) (fun K hK => ?_) AllReadyH.nil)
      have hR3 : w.heap.size + 2 ≤ z1.heap.size := by have := R_z1.out.lt; omega
      go_simp
      refine (HCP.out z1 S_z1.out).mono ?_
      rintro e z2 ⟨a3, c3, rfl, hc3, hil3, hnew3, hb⟩
      have B_z2 : Hid (Below w.heap.size w z2) := Lib.hid (stepB B_z1.out hb)
      have M_z2 : Hid (BK 27 z2 w.heap.size (wcs L A c xs A2 c2 X l)) := Lib.hid (M_z1.out.step hb)
      have R_z2 : Hid (BK 27 z2 (w.heap.size + 1) (wcs 0 none 0 [] none 0 [] 0)) := Lib.hid (R_z1.out.step hb)
      have S_z2 : Hid (S2.IL z2 z2.heap.size A2 X) := Lib.hid (CL.step S_z1.out hb)
      have Y_z2 : Hid (FI z2 z2.heap.size (some ⟨g, 0, none⟩) ys) := Lib.hid (Y_z1.out.step hb)
      clear B_z1 M_z1 R_z1 S_z1 Y_z1
      have Q_z2 : Hid (S2.IL z2 z2.heap.size a3 X) := Lib.hid (hil3)
      have HN3 := Lib.hid hnew3
      have HC3 := Lib.hid hc3
      have HZ3 : Hid (w.heap.size + 2 ≤ z1.heap.size) := Lib.hid hR3
      clear hil3 hnew3 hc3 hR3
      clear hHeld hb
      go_wp2_with fail
      refine hK.out _ _ M_z2.out (fun hHeld => ?_)
      clear hK K
      try simp only [Act.put, List.setIfInBounds_toArray, List.set_cons_zero, List.set_cons_succ]
      refine wpAnyH_take (i := 6) (v := wv L (some ⟨g, 0, none⟩) cap ys a3 c3 X l) (get_ops _ _ _ rfl) (by kernel_rfl) (by kernel_rfl) (by kernel_rfl) (fun _ _ _ h => h) (Or.inl ⟨by rfl, fun wS hSw => by (try dsimp only at hSw); go_simp⟩) hHeld ?_
      try simp only [Act.put, List.setIfInBounds_toArray, List.set_cons_zero, List.set_cons_succ]
      refine wpAnyH_ready (rs := [7]) (by kernel_rfl) (by simp) ?_
      refine (AllReadyH.cons (get_ops _ _ _ rfl) (fun K hK => ?_) AllReadyH.nil)
      refine S2.wp_store_all 27 _ _ rfl rfl (w.heap.size + 1) (by go_simp) (wcs L (some ⟨g, 0, none⟩) cap ys a3 c3 X l) (by first | rfl | go_simp) 27 (wcs 0 none 0 [] none 0 [] 0) R_z2.out winSize rfl (ones rfl) ?_
      intro z3 hM hP
      have R_z3 : Hid (BK 27 z3 (w.heap.size + 1) (wcs L (some ⟨g, 0, none⟩) cap ys a3 c3 X l)) := Lib.hid (hM)
      have B_z3 : Hid (Below w.heap.size w z3) := Lib.hid (hP.below B_z2.out (by omega))
      have M_z3 : Hid (BK 27 z3 w.heap.size (wcs L A c xs A2 c2 X l)) := Lib.hid (hP.other M_z2.out (by omega))
      have Y_z3 : Hid (FI z3 z3.heap.size (some ⟨g, 0, none⟩) ys) := Lib.hid ((by have h := FI.put Y_z2.out hP (fun b o e => by simp only [Option.some.injEq, Addr.mk.injEq, and_true] at e; have := HGL.out; have := HBL.out; omega) (fun x hx b o e => by have := HNW.out x hx b o e; have := HM0.out; have := HBL.out; omega); rwa [hP.size]))
      have Q_z3 : Hid (S2.IL z3 z3.heap.size a3 X) := Lib.hid (ILput Q_z2.out hP (fun hn b o e => by have := HN3.out b o e; have := HZ3.out; omega))
      clear B_z2 M_z2 R_z2 S_z2 Y_z2 Q_z2
      clear hM hP hHeld
      refine hK.out _ _ M_z3.out (fun hHeld => ?_)
      clear hK K
      try simp only [Act.put, List.setIfInBounds_toArray, List.set_cons_zero, List.set_cons_succ]
      refine wpAnyH_done (by kernel_rfl) ?_ _
      go_wp2_with fail
      refine bodyPost_ret (v := wv L (some ⟨g, 0, none⟩) cap ys a3 c3 X l) (S2.res_cell rfl _ _ (w.heap.size + 1) 27 (wcs L (some ⟨g, 0, none⟩) cap ys a3 c3 X l) _ rfl R_z3.out Tryz.underlying27 rfl winSize) rfl ?_
      exact ⟨some ⟨g, 0, none⟩, cap, ys, a3, c3, rfl, HZF.out, ⟨Y_z3.out, HNC.out, Q_z3.out, HC3.out⟩, ⟨(fun b o e => by simp only [Option.some.injEq, Addr.mk.injEq, and_true] at e; have := HGL.out; have := HBL.out; omega), (fun y hy b o e => by have := HNW.out y hy b o e; have := HM0.out; have := HBL.out; omega), fun _ b o e => by have := HN3.out b o e; have := HZ3.out; omega⟩, B_z3.out⟩
end Go.Proofs.YtjpikgphfhjilaaGreatDoor
