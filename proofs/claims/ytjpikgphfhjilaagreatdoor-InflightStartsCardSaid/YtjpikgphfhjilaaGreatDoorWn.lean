/-
  What Handle of inflight answers: the window, the packets to send, the error. Conditions: the window and the packet read as data; the window is valid, its items few, with few properties.
-/
import Derived.Test.YtjpikgphfhjilaaGreatDoorWm
namespace Go.Proofs.YtjpikgphfhjilaaGreatDoor
open Go.RowKit
open S2 (BK Put)

def gK (x : Pkt × PA) : List Value := pkC x.1 x.2
theorem gK_len (x : Pkt × PA) : (gK x).length = 34 := rfl
theorem gK_one (x : Pkt × PA) : ∀ u ∈ gK x, u.oneCell' = true := ones rfl
/-- a packet without lists but its message's properties -/
def KP (w : World) (B : Nat) (x : Pkt × PA) : Prop := PL w B x.2.m x.1.msg.props ∧ x.1.wmsg.props = [] ∧ x.1.subs = [] ∧ x.1.filters = [] ∧ x.1.codes = []
/-- the slice with this address reads as these packets, below block B -/
def KS (w : World) (B : Nat) (A : Option Addr) (xs : List (Pkt × PA)) : Prop := GL gK 34 w B A xs ∧ ∀ x ∈ xs, KP w B x
theorem KP.below {w w' : World} {B : Nat} {x : Pkt × PA} (h : KP w B x) (hb : Below B w w') : KP w' B x := ⟨h.1.below hb, h.2⟩
theorem KP.more {w : World} {B B' : Nat} {x : Pkt × PA} (h : KP w B x) (hB : B ≤ B') : KP w B' x := ⟨h.1.more hB, h.2⟩
theorem KS.nil (w : World) (B : Nat) (A : Option Addr) : KS w B A [] := ⟨GL.nil _ _ _, fun x hx => by cases hx⟩
theorem KS.below {w w' : World} {B : Nat} {A : Option Addr} {xs : List (Pkt × PA)} (h : KS w B A xs) (hb : Below B w w') : KS w' B A xs := ⟨h.1.below hb, fun x hx => (h.2 x hx).below hb⟩
theorem KS.more {w : World} {B B' : Nat} {A : Option Addr} {xs : List (Pkt × PA)} (h : KS w B A xs) (hB : B ≤ B') : KS w B' A xs := ⟨h.1.more hB, fun x hx => (h.2 x hx).more hB⟩
theorem KS.step {w w' : World} {A : Option Addr} {xs : List (Pkt × PA)} (h : KS w w.heap.size A xs) (hb : Below w.heap.size w w') : KS w' w'.heap.size A xs := (h.below hb).more hb.size
theorem KP.pin {w : World} {x : Pkt × PA} (h : KP w w.heap.size x) : PIn w x.1 x.2 := ⟨h.1, by rw [h.2.1]; exact GL.nil _ _ _, by rw [h.2.2.1]; exact GL.nil _ _ _, by rw [h.2.2.2.1]; exact CL.nil _ _ _, by rw [h.2.2.2.2]; exact CL.nil _ _ _⟩
theorem KP.rel (w : World) (B : Nat) (n : Int) (a : PA) : KP w B (relP n, a) := ⟨GL.nil _ _ _, rfl, rfl, rfl, rfl⟩
theorem KP.pub {w : World} {B : Nat} {x : Fl} {d : Bool} {a : PA} (h : PL w B a.m x.m.props) : KP w B (pubP x d, a) := ⟨h, rfl, rfl, rfl, rfl⟩
theorem KS.one {w : World} {g : Nat} {x : Pkt × PA} {T : TypeId} (h : BK T w g (gK x)) (hp : KP w w.heap.size x) : KS w w.heap.size (some ⟨g, 0, none⟩) [x] :=
  ⟨fun _ => ⟨g, 0, rfl, h.lt, fun j y i v hy hv => by
    cases j with
    | zero => simp at hy; subst hy; simpa using h.cell i hv
    | succ j => simp at hy⟩, fun y hy => by simp at hy; subst hy; exact hp⟩
/-- a window, packets and a code that a call answers, all in memory of their own -/
def RetH (r : PW × List Pkt × Int) (W : World) (e : Ending) (w' : World) : Prop := ∃ A c ys A2 c2 A3 c3 ks, e = .returned (.tuple #[wv r.1.1 A c ys A2 c2 r.1.2.2.1 r.1.2.2.2, .slice A3 ks.length c3, .int .i64 r.2.2]) ∧ ys.map FE.f = r.1.2.1 ∧ WOk w' A c ys A2 c2 r.1.2.2.1 ∧ (NewL W.heap.size A ∧ (∀ y ∈ ys, NewL W.heap.size y.a) ∧ NewN W.heap.size A2 r.1.2.2.1.length) ∧ ks.map Prod.fst = r.2.1 ∧ KS w' w'.heap.size A3 ks ∧ Below W.heap.size W w'

/-- the results: a struct in a block of its own, and two values -/
theorem res3 {P : Program} {fn : Func} {p q r : Tmp} {ty : TypeId} (h : fn.results = #[.cell p ty, .tmp q, .tmp r]) (tmps : Array Value) (w : World) (g : Nat) (t : TypeId) (vs : List Value) (d : TypeDesc) (v u : Value)
    (hp : tmps.getD p undef = .pointer (some ⟨g, 0, none⟩)) (hq : tmps.getD q undef = v) (hr : tmps.getD r undef = u) (hg : BK t w g vs)
    (hu : P.underlying ty = some d) (hd : (match d with | .struct _ | .array _ _ => true | _ => false) = true) (hi : (P.info? ty).map (·.size) = some vs.length) :
    (results fn tmps).run P w = .ok (.tuple #[.agg vs.toArray, v, u]) w := by
  have hp' : tmps[p]?.getD undef = .pointer (some ⟨g, 0, none⟩) := by simpa using hp
  have hq' : tmps[q]?.getD undef = v := by simpa using hq
  have hr' : tmps[r]?.getD undef = u := by simpa using hr
  simp [results, h, hp', hq', hr', asAddr, S2.run_load_all hg hu hd hi]
theorem cells_step {w w' : World} {x : FE} {b k : Nat} (h : ∀ j v, (gF x)[j]? = some v → w.cell? ⟨b, k + j, none⟩ = some v) (hb : Below w.heap.size w w') : ∀ j v, (gF x)[j]? = some v → w'.cell? ⟨b, k + j, none⟩ = some v := fun j v hv => by
  have h1 := h j v hv
  have hl : b < w.heap.size := World.block_lt_of_cell? w ⟨b, k + j, none⟩ h1
  rw [hb.cell hl]; exact h1
theorem wok_put {w w' : World} {g : Nat} {A : Option Addr} {c : Nat} {xs : List FE} {A2 : Option Addr} {c2 : Nat} {X : List Int} (h : WOk w A c xs A2 c2 X) (hp : Put g w w') (hA : ∀ b o, A = some ⟨b, o, none⟩ → b ≠ g) (hx : ∀ x ∈ xs, ∀ b o, x.a = some ⟨b, o, none⟩ → b ≠ g) (h2 : 0 < X.length → ∀ b o, A2 = some ⟨b, o, none⟩ → b ≠ g) : WOk w' A c xs A2 c2 X :=
  ⟨by rw [hp.size]; exact FI.put h.1 hp hA hx, h.2.1, ILput h.2.2.1 hp h2, h.2.2.2⟩
theorem posF_le (F : List Fl) (n : Int) : posF F n ≤ F.length := List.findIdx_le_length
theorem pk0 (p : Pkt) (a : PA) : (pkC p a)[0]? = some (.int .i64 p.kind) := rfl
theorem pk1 (p : Pkt) (a : PA) : (pkC p a)[1]? = some (.int .i64 p.id) := rfl

set_option maxRecDepth 20000 in
set_option maxHeartbeats 8000000 in
theorem handle_any (L : Int) (A : Option Addr) (c : Nat) (xs : List FE) (A2 : Option Addr) (c2 : Nat) (X : List Int) (l : Int) (p : Pkt) (a : PA) (w : World) (hw : WOk w A c xs A2 c2 X) (hn : xs.length ≤ 100000) (hp : ∀ x ∈ xs, x.f.m.props.length ≤ 100000) (hX : S2.ckI X l = 0) (hid : ∀ x ∈ xs, -9223372036854775808 ≤ x.f.id ∧ x.f.id ≤ 9223372036854775807) :
    Calls Tryz.prog 13 #[wv L A c xs A2 c2 X l, pkV p a] w (RetH (handleR (L, xs.map FE.f, X, l) p.kind p.id) w) := by
  have hpos : posF (xs.map FE.f) p.id ≤ xs.length := by have := posF_le (xs.map FE.f) p.id; rwa [List.length_map] at this
  have HPO := Lib.hid (fun w1 h => position_any L A c xs A2 c2 X l p.id w1 h hn)
  have HRL := Lib.hid (fun w1 h => release_any L A c xs A2 c2 X l (posF (xs.map FE.f) p.id) w1 h hn hp (by have := (S2.ck_ok.1 hX).1; omega) hpos)
  have HRM := Lib.hid (fun w1 h => remove_any L A c xs A2 c2 X l (posF (xs.map FE.f) p.id) w1 h hn hp hX hid hpos)
  have HPR := Lib.hid (fun w1 => pubrel_any p.id w1)
  have HW := Lib.hid hw
  have HH : Hid (handleR (L, xs.map FE.f, X, l) p.kind p.id = handleR (L, xs.map FE.f, X, l) p.kind p.id) := Lib.hid rfl
  obtain ⟨R, hR⟩ : ∃ R, handleR (L, xs.map FE.f, X, l) p.kind p.id = R := ⟨_, rfl⟩
  rw [hR]
  unfold handleR at hR
  dsimp only at hR
  clear HH hw
  obtain ⟨i, hi⟩ : ∃ i, posF (xs.map FE.f) p.id = i := ⟨_, rfl⟩
  rw [hi] at hR hpos HPO HRL HRM
  obtain ⟨z1, hz1⟩ : ∃ b, b = (p.kind != 4) := ⟨_, rfl⟩
  obtain ⟨z2, hz2⟩ : ∃ b, b = (p.kind != 5) := ⟨_, rfl⟩
  obtain ⟨z3, hz3⟩ : ∃ b, b = (p.kind != 7) := ⟨_, rfl⟩
  have HRE := Lib.hid hR
  clear hX hi hR
  unfold pkV
  go_enter Tryz.func13, Tryz.ntmps13
  go_upto_region 1 with fail
  refine name_world (C := fun w1 => Code.wp _ _ _ _ w1) (((w.alloc (.cells (wcs L A c xs A2 c2 X l).toArray 27)).alloc (.cells (pkC p a).toArray 39)).alloc (.cells (wcs 0 none 0 [] none 0 [] 0).toArray 27)) ?_
  intro w1 hw1
  obtain ⟨hB0, t1, t2, t3⟩ := three hw1
  have T_w1 : Hid (BK 27 w1 w.heap.size (wcs L A c xs A2 c2 X l)) := Lib.hid t1
  have K_w1 : Hid (BK 39 w1 (w.heap.size + 1) (pkC p a)) := Lib.hid t2
  have R_w1 : Hid (BK 27 w1 (w.heap.size + 1 + 1) (wcs 0 none 0 [] none 0 [] 0)) := Lib.hid t3
  have B_w1 := Lib.hid hB0
  have O_w1 : Hid (WOk w1 A c xs A2 c2 X) := Lib.hid (HW.out.step hB0)
  clear hw1 t1 t2 t3 hB0
  have d1 := K_w1.out.cell 1 (pk1 p a)
  go_wp2_with first
    | (refine wpList_load_v (by rfl) 27 (.tmp 2) rfl ⟨w.heap.size, 0, none⟩ rfl (wv L A c xs A2 c2 X l) (S2.run_load_all T_w1.out Tryz.underlying27 rfl winSize) ?_)
  refine (HPO.out w1 O_w1.out.1).mono ?_
  rintro e w2 ⟨rfl, hb⟩
  clear d1
  have T_w2 := Lib.hid (T_w1.out.step hb)
  have K_w2 := Lib.hid (K_w1.out.step hb)
  have R_w2 := Lib.hid (R_w1.out.step hb)
  have B_w2 := Lib.hid (stepB B_w1.out hb)
  have O_w2 := Lib.hid (O_w1.out.step hb)
  have d0 := K_w2.out.cell 0 (pk0 p a)
  clear hb T_w1 K_w1 R_w1 B_w1 O_w1 HPO
  by_cases hk : p.kind ≠ 4 ∧ p.kind ≠ 5 ∧ p.kind ≠ 7
  · have q1 : (p.kind != 4) = true := by simp [hk.1]
    have q2 : (p.kind != 5) = true := by simp [hk.2.1]
    have q3 : (p.kind != 7) = true := by simp [hk.2.2]
    have HRR : Hid (((0, [], [], 0), [], 10) = R) := Lib.hid (by rw [← HRE.out, if_pos hk])
    clear hk hz1 hz2 hz3
    go_wp2_with first
      | (refine S2.wpList_store_all (by rfl) 27 (.tmp 4) (.tmp 26) rfl rfl (w.heap.size + 1 + 1) rfl (wcs 0 none 0 [] none 0 [] 0) rfl 27 (wcs 0 none 0 [] none 0 [] 0) R_w2.out winSize rfl (ones rfl) ?_; intro wf hM hP; have MF := Lib.hid hM; have PF := Lib.hid hP; clear hM hP)
    rw [← HRR.out]
    exact bodyPost_ret (v := .tuple #[wv 0 none 0 [] none 0 [] 0, .slice none 0 0, .int .i64 10]) (res3 rfl _ _ (w.heap.size + 1 + 1) 27 (wcs 0 none 0 [] none 0 [] 0) _ _ _ rfl rfl rfl MF.out Tryz.underlying27 rfl winSize) rfl ⟨none, 0, [], none, 0, none, 0, [], rfl, rfl, ⟨FI.nil _ _ _, Nat.le_refl _, CL.nil _ _ _, Nat.le_refl _⟩, ⟨(fun b o e => by cases e), (fun y hy => by cases hy), fun _ b o e => by cases e⟩, rfl, KS.nil _ _ _, PF.out.below B_w2.out (by omega)⟩
  · obtain ⟨bad, hbad⟩ : ∃ bad, bad = !mayR (xs.map FE.f) i p.kind := ⟨_, rfl⟩
    have HRR : Hid ((if bad = true then ((0, [], [], 0), [], 23) else if p.kind = 5 then (relR (L, xs.map FE.f, X, l) i, [relP p.id], 0) else (remR (L, xs.map FE.f, X, l) i, [], 0)) = R) := Lib.hid (by
      rw [← HRE.out, if_neg hk, hbad]
      cases mayR (xs.map FE.f) i p.kind <;> rfl)
    have HBAD := Lib.hid hbad
    have hk3 : p.kind = 4 ∨ p.kind = 5 ∨ p.kind = 7 := by omega
    clear hk hz1 hz2 hz3 hbad HRE
    go_upto_region 2 with fail
    go_cut [12] from 13 (fun s wx => s = .bool false ∧ w2 = wx)
    case first =>
      rcases hk3 with h | h | h
      · have q1 : (p.kind != 4) = false := by simp [h]
        clear h
        go_wp2
        go_meet
        exact ⟨rfl, rfl⟩
      · have q1 : (p.kind != 4) = true := by simp [h]
        have q2 : (p.kind != 5) = false := by simp [h]
        clear h
        go_wp2
        go_meet
        exact ⟨rfl, rfl⟩
      · have q1 : (p.kind != 4) = true := by simp [h]
        have q2 : (p.kind != 5) = true := by simp [h]
        have q3 : (p.kind != 7) = false := by simp [h]
        clear h
        go_wp2
        go_meet
        exact ⟨rfl, rfl⟩
    case rest =>
      obtain ⟨rfl, rfl⟩ := hcut
      clear d0 hk3 z1 z2 z3
      go_upto_region 4 with fail
      go_cut [27] from 28 (fun s wx => s = .bool bad ∧ Below w2.heap.size w2 wx)
      case first =>
        by_cases hil : i < xs.length
        · obtain ⟨x, hx⟩ : ∃ x, xs[i]? = some x := ⟨_, List.getElem?_eq_getElem hil⟩
          have hxf : (xs.map FE.f)[i]? = some x.f := by rw [List.getElem?_map, hx]; rfl
          have HBA : Hid (bad = !awaitsR x.f p.kind) := Lib.hid (by rw [HBAD.out, mayR_at hxf])
          obtain ⟨b, o, hA, hbB, hc, _⟩ := O_w2.out.1.at_ hx
          subst hA
          have HAW := Lib.hid (fun w1 => awaits_any x p.kind w1)
          have I_w2 : Hid (∀ j v, (gF x)[j]? = some v → w2.cell? ⟨b, o + i * 11 + j, none⟩ = some v) := Lib.hid hc
          have HBL := Lib.hid hbB
          have e4 : decide (i < xs.length) = true := decide_eq_true hil
          have j1 : (0 : Int) ≤ (i : Int) := by omega
          have j2 : (i : Int) < (xs.length : Int) := by omega
          have C_w2 : Hid (Below w2.heap.size w2 w2) := Lib.hid (Below.refl _ _)
          clear hx hxf hc hbB
          obtain ⟨h1, hh1⟩ : ∃ h1, h1 = World.drew w2 := ⟨_, rfl⟩
          have hbD : Below w2.heap.size w2 h1 := by rw [hh1]; exact (Below.refl _ _).drew
          have T_h1 : Hid (BK 27 h1 w.heap.size (wcs L (some ⟨b, o, none⟩) c xs A2 c2 X l)) := Lib.hid (T_w2.out.step hbD)
          have K_h1 : Hid (BK 39 h1 (w.heap.size + 1) (pkC p a)) := Lib.hid (K_w2.out.step hbD)
          have I_h1 : Hid (∀ j v, (gF x)[j]? = some v → h1.cell? ⟨b, o + i * 11 + j, none⟩ = some v) := Lib.hid (cells_step I_w2.out hbD)
          have C_h1 : Hid (Below w2.heap.size w2 h1) := Lib.hid (stepB C_w2.out hbD)
          clear T_w2 K_w2 I_w2 C_w2
          have hbd : (fun w' => BK 27 w' w.heap.size (wcs L (some ⟨b, o, none⟩) c xs A2 c2 X l) ∧ BK 39 w' (w.heap.size + 1) (pkC p a) ∧ ∀ j v, (gF x)[j]? = some v → w'.cell? ⟨b, o + i * 11 + j, none⟩ = some v) (World.drew w2) := by rw [← hh1]; exact ⟨T_h1.out, K_h1.out, I_h1.out⟩
          have hSD : (fun w' => BK 27 w' w.heap.size (wcs L (some ⟨b, o, none⟩) c xs A2 c2 X l) ∧ BK 39 w' (w.heap.size + 1) (pkC p a) ∧ ∀ j v, (gF x)[j]? = some v → w'.cell? ⟨b, o + i * 11 + j, none⟩ = some v) h1 := ⟨T_h1.out, K_h1.out, I_h1.out⟩
          have HWD := Lib.hid hh1
          clear hh1 hbD
          refine wp_region_held_drew (S := fun w' => BK 27 w' w.heap.size (wcs L (some ⟨b, o, none⟩) c xs A2 c2 X l) ∧ BK 39 w' (w.heap.size + 1) (pkC p a) ∧ ∀ j v, (gF x)[j]? = some v → w'.cell? ⟨b, o + i * 11 + j, none⟩ = some v) (by kernel_rfl) hbd (fun hHeld => ?_)
          rw [← HWD.out]
          clear hHeld
          have hHeld := hSD
          clear hSD hbd HWD
          refine wpAnyH_take (i := 0) (v := .int .i64 i) (get_ops _ _ _ rfl) (by kernel_rfl) (by kernel_rfl) (by kernel_rfl) (fun _ _ _ h => h) (Or.inl ⟨by rfl, fun wS hSw => by (try dsimp only at hSw); go_simp⟩) hHeld ?_
          try simp only [Act.put, List.setIfInBounds_toArray, List.set_cons_zero, List.set_cons_succ]
          refine wpAnyH_take (i := 1) (v := .pointer (some ⟨w.heap.size, 1, none⟩)) (get_ops _ _ _ rfl) (by kernel_rfl) (by kernel_rfl) (by kernel_rfl) (fun _ _ _ h => h) (Or.inl ⟨by rfl, fun wS hSw => by (try dsimp only at hSw); go_simp⟩) hHeld ?_
          try simp only [Act.put, List.setIfInBounds_toArray, List.set_cons_zero, List.set_cons_succ]
          refine wpAnyH_take (i := 2) (v := .slice (some ⟨b, o, none⟩) xs.length c) (get_ops _ _ _ rfl) (by kernel_rfl) (by kernel_rfl) (by kernel_rfl) (fun _ _ _ h => h) (Or.inl ⟨by rfl, fun wS hSw => by (try dsimp only at hSw); have cS : wS.cell? ⟨w.heap.size, 1, none⟩ = some (.slice (some ⟨b, o, none⟩) xs.length c) := hSw.1.cell 1 rfl; clear hSw; go_simp⟩) hHeld ?_
          try simp only [Act.put, List.setIfInBounds_toArray, List.set_cons_zero, List.set_cons_succ]
          refine wpAnyH_take (i := 3) (v := .int .i64 xs.length) (get_ops _ _ _ rfl) (by kernel_rfl) (by kernel_rfl) (by kernel_rfl) (fun _ _ _ h => h) (Or.inl ⟨by rfl, fun wS hSw => by (try dsimp only at hSw); go_simp⟩) hHeld ?_
          try simp only [Act.put, List.setIfInBounds_toArray, List.set_cons_zero, List.set_cons_succ]
          refine wpAnyH_take (i := 4) (v := .bool true) (get_ops _ _ _ rfl) (by kernel_rfl) (by kernel_rfl) (by kernel_rfl) (fun _ _ _ h => h) (Or.inl ⟨by rfl, fun wS hSw => by (try dsimp only at hSw); clear hSw; go_simp⟩) hHeld ?_
          try simp only [Act.put, List.setIfInBounds_toArray, List.set_cons_zero, List.set_cons_succ]
          refine wpAnyH_take (i := 5) (v := .bool true) (get_ops _ _ _ rfl) (by kernel_rfl) (by kernel_rfl) (by kernel_rfl) (fun _ _ _ h => h) (Or.inl ⟨by rfl, fun wS hSw => by (try dsimp only at hSw); go_simp⟩) hHeld ?_
          try simp only [Act.put, List.setIfInBounds_toArray, List.set_cons_zero, List.set_cons_succ]
          refine wpAnyH_take (i := 6) (v := .pointer (some ⟨w.heap.size, 1, none⟩)) (get_ops _ _ _ rfl) (by kernel_rfl) (by kernel_rfl) (by kernel_rfl) (fun _ _ _ h => h) (Or.inl ⟨by rfl, fun wS hSw => by (try dsimp only at hSw); go_simp⟩) hHeld ?_
          try simp only [Act.put, List.setIfInBounds_toArray, List.set_cons_zero, List.set_cons_succ]
          refine wpAnyH_take (i := 7) (v := .slice (some ⟨b, o, none⟩) xs.length c) (get_ops _ _ _ rfl) (by kernel_rfl) (by kernel_rfl) (by kernel_rfl) (fun _ _ _ h => h) (Or.inl ⟨by rfl, fun wS hSw => by (try dsimp only at hSw); have cS : wS.cell? ⟨w.heap.size, 1, none⟩ = some (.slice (some ⟨b, o, none⟩) xs.length c) := hSw.1.cell 1 rfl; clear hSw; go_simp⟩) hHeld ?_
          try simp only [Act.put, List.setIfInBounds_toArray, List.set_cons_zero, List.set_cons_succ]
          refine wpAnyH_take (i := 8) (v := .int .i64 i) (get_ops _ _ _ rfl) (by kernel_rfl) (by kernel_rfl) (by kernel_rfl) (fun _ _ _ h => h) (Or.inl ⟨by rfl, fun wS hSw => by (try dsimp only at hSw); go_simp⟩) hHeld ?_
          try simp only [Act.put, List.setIfInBounds_toArray, List.set_cons_zero, List.set_cons_succ]
          refine wpAnyH_take (i := 9) (v := .pointer (some ⟨b, o + i * 11, none⟩)) (get_ops _ _ _ rfl) (by kernel_rfl) (by kernel_rfl) (by kernel_rfl) (fun _ _ _ h => h) (Or.inl ⟨by rfl, fun wS hSw => by (try dsimp only at hSw); clear hSw; go_simp⟩) hHeld ?_
          try simp only [Act.put, List.setIfInBounds_toArray, List.set_cons_zero, List.set_cons_succ]
          refine wpAnyH_take (i := 10) (v := fV x) (get_ops _ _ _ rfl) (by kernel_rfl) (by kernel_rfl) (by kernel_rfl) (fun _ _ _ h => h) (Or.inl ⟨by rfl, fun wS hSw => by (try dsimp only at hSw); exact exec_load 60 _ rfl ⟨b, o + i * 11, none⟩ (by go_simp) _ (load_item hSw.2.2)⟩) hHeld ?_
          try simp only [Act.put, List.setIfInBounds_toArray, List.set_cons_zero, List.set_cons_succ]
          refine wpAnyH_take (i := 11) (v := .pointer (some ⟨w.heap.size + 1, 0, none⟩)) (get_ops _ _ _ rfl) (by kernel_rfl) (by kernel_rfl) (by kernel_rfl) (fun _ _ _ h => h) (Or.inl ⟨by rfl, fun wS hSw => by (try dsimp only at hSw); go_simp⟩) hHeld ?_
          try simp only [Act.put, List.setIfInBounds_toArray, List.set_cons_zero, List.set_cons_succ]
          refine wpAnyH_take (i := 12) (v := .int .i64 p.kind) (get_ops _ _ _ rfl) (by kernel_rfl) (by kernel_rfl) (by kernel_rfl) (fun _ _ _ h => h) (Or.inl ⟨by rfl, fun wS hSw => by (try dsimp only at hSw); have cS : wS.cell? ⟨w.heap.size + 1, 0, none⟩ = some (.int .i64 p.kind) := hSw.2.1.cell 0 (pk0 p a); clear hSw; go_simp⟩) hHeld ?_
          try simp only [Act.put, List.setIfInBounds_toArray, List.set_cons_zero, List.set_cons_succ]
          refine wpAnyH_ready (rs := [13]) (by kernel_rfl) (by simp) ?_
          refine (AllReadyH.cons (get_ops _ _ _ rfl) (fun K hK => ?_) AllReadyH.nil)
          go_simp
          refine (HAW.out h1).mono ?_
          rintro e h2 ⟨rfl, hb⟩
          have T_h2 : Hid (BK 27 h2 w.heap.size (wcs L (some ⟨b, o, none⟩) c xs A2 c2 X l)) := Lib.hid (T_h1.out.step hb)
          have K_h2 : Hid (BK 39 h2 (w.heap.size + 1) (pkC p a)) := Lib.hid (K_h1.out.step hb)
          have I_h2 : Hid (∀ j v, (gF x)[j]? = some v → h2.cell? ⟨b, o + i * 11 + j, none⟩ = some v) := Lib.hid (cells_step I_h1.out hb)
          have C_h2 : Hid (Below w2.heap.size w2 h2) := Lib.hid (stepB C_h1.out hb)
          clear T_h1 K_h1 I_h1 C_h1
          clear hHeld hb
          go_wp2_with fail
          refine hK.out _ _ ⟨T_h2.out, K_h2.out, I_h2.out⟩ (fun hHeld => ?_)
          clear hK K
          try simp only [Act.put, List.setIfInBounds_toArray, List.set_cons_zero, List.set_cons_succ]
          refine wpAnyH_take (i := 14) (v := .bool (!awaitsR x.f p.kind)) (get_ops _ _ _ rfl) (by kernel_rfl) (by kernel_rfl) (by kernel_rfl) (fun _ _ _ h => h) (Or.inl ⟨by rfl, fun wS hSw => by (try dsimp only at hSw); go_simp⟩) hHeld ?_
          try simp only [Act.put, List.setIfInBounds_toArray, List.set_cons_zero, List.set_cons_succ]
          refine wpAnyH_take (i := 15) (v := .bool (!awaitsR x.f p.kind)) (get_ops _ _ _ rfl) (by kernel_rfl) (by kernel_rfl) (by kernel_rfl) (fun _ _ _ h => h) (Or.inl ⟨by rfl, fun wS hSw => by (try dsimp only at hSw); go_simp⟩) hHeld ?_
          try simp only [Act.put, List.setIfInBounds_toArray, List.set_cons_zero, List.set_cons_succ]
          refine wpAnyH_take (i := 16) (v := .bool (!awaitsR x.f p.kind)) (get_ops _ _ _ rfl) (by kernel_rfl) (by kernel_rfl) (by kernel_rfl) (fun _ _ _ h => h) (Or.inl ⟨by rfl, fun wS hSw => by (try dsimp only at hSw); go_simp⟩) hHeld ?_
          try simp only [Act.put, List.setIfInBounds_toArray, List.set_cons_zero, List.set_cons_succ]
          refine wpAnyH_done (by kernel_rfl) ?_ _
          go_wp2_with fail
          go_meet
          exact ⟨by rw [HBA.out], C_h2.out⟩
        · have HBA : Hid (bad = false) := Lib.hid (by rw [HBAD.out, mayR_none (List.getElem?_eq_none (by rw [List.length_map]; omega))]; rfl)
          have e4 : decide (i < xs.length) = false := decide_eq_false hil
          have C_w2 : Hid (Below w2.heap.size w2 w2) := Lib.hid (Below.refl _ _)
          clear hil
          obtain ⟨h1, hh1⟩ : ∃ h1, h1 = World.drew w2 := ⟨_, rfl⟩
          have hbD : Below w2.heap.size w2 h1 := by rw [hh1]; exact (Below.refl _ _).drew
          have T_h1 : Hid (BK 27 h1 w.heap.size (wcs L A c xs A2 c2 X l)) := Lib.hid (T_w2.out.step hbD)
          have K_h1 : Hid (BK 39 h1 (w.heap.size + 1) (pkC p a)) := Lib.hid (K_w2.out.step hbD)
          have C_h1 : Hid (Below w2.heap.size w2 h1) := Lib.hid (stepB C_w2.out hbD)
          clear T_w2 K_w2 C_w2
          have hbd : (fun w' => BK 27 w' w.heap.size (wcs L A c xs A2 c2 X l) ∧ BK 39 w' (w.heap.size + 1) (pkC p a)) (World.drew w2) := by rw [← hh1]; exact ⟨T_h1.out, K_h1.out⟩
          have hSD : (fun w' => BK 27 w' w.heap.size (wcs L A c xs A2 c2 X l) ∧ BK 39 w' (w.heap.size + 1) (pkC p a)) h1 := ⟨T_h1.out, K_h1.out⟩
          have HWD := Lib.hid hh1
          clear hh1 hbD
          refine wp_region_held_drew (S := fun w' => BK 27 w' w.heap.size (wcs L A c xs A2 c2 X l) ∧ BK 39 w' (w.heap.size + 1) (pkC p a)) (by kernel_rfl) hbd (fun hHeld => ?_)
          rw [← HWD.out]
          clear hHeld
          have hHeld := hSD
          clear hSD hbd HWD
          refine wpAnyH_take (i := 0) (v := .int .i64 i) (get_ops _ _ _ rfl) (by kernel_rfl) (by kernel_rfl) (by kernel_rfl) (fun _ _ _ h => h) (Or.inl ⟨by rfl, fun wS hSw => by (try dsimp only at hSw); go_simp⟩) hHeld ?_
          try simp only [Act.put, List.setIfInBounds_toArray, List.set_cons_zero, List.set_cons_succ]
          refine wpAnyH_take (i := 1) (v := .pointer (some ⟨w.heap.size, 1, none⟩)) (get_ops _ _ _ rfl) (by kernel_rfl) (by kernel_rfl) (by kernel_rfl) (fun _ _ _ h => h) (Or.inl ⟨by rfl, fun wS hSw => by (try dsimp only at hSw); go_simp⟩) hHeld ?_
          try simp only [Act.put, List.setIfInBounds_toArray, List.set_cons_zero, List.set_cons_succ]
          refine wpAnyH_take (i := 2) (v := .slice A xs.length c) (get_ops _ _ _ rfl) (by kernel_rfl) (by kernel_rfl) (by kernel_rfl) (fun _ _ _ h => h) (Or.inl ⟨by rfl, fun wS hSw => by (try dsimp only at hSw); have cS : wS.cell? ⟨w.heap.size, 1, none⟩ = some (.slice A xs.length c) := hSw.1.cell 1 rfl; clear hSw; go_simp⟩) hHeld ?_
          try simp only [Act.put, List.setIfInBounds_toArray, List.set_cons_zero, List.set_cons_succ]
          refine wpAnyH_take (i := 3) (v := .int .i64 xs.length) (get_ops _ _ _ rfl) (by kernel_rfl) (by kernel_rfl) (by kernel_rfl) (fun _ _ _ h => h) (Or.inl ⟨by rfl, fun wS hSw => by (try dsimp only at hSw); go_simp⟩) hHeld ?_
          try simp only [Act.put, List.setIfInBounds_toArray, List.set_cons_zero, List.set_cons_succ]
          refine wpAnyH_take (i := 4) (v := .bool false) (get_ops _ _ _ rfl) (by kernel_rfl) (by kernel_rfl) (by kernel_rfl) (fun _ _ _ h => h) (Or.inl ⟨by rfl, fun wS hSw => by (try dsimp only at hSw); clear hSw; go_simp⟩) hHeld ?_
          try simp only [Act.put, List.setIfInBounds_toArray, List.set_cons_zero, List.set_cons_succ]
          refine wpAnyH_take (i := 5) (v := .bool false) (get_ops _ _ _ rfl) (by kernel_rfl) (by kernel_rfl) (by kernel_rfl) (fun _ _ _ h => h) (Or.inl ⟨by rfl, fun wS hSw => by (try dsimp only at hSw); go_simp⟩) hHeld ?_
          try simp only [Act.put, List.setIfInBounds_toArray, List.set_cons_zero, List.set_cons_succ]
          refine wpAnyH_take (i := 6) (v := undef) (get_ops _ _ _ rfl) (by kernel_rfl) (by kernel_rfl) (by kernel_rfl) (fun _ _ _ h => h) (Or.inr ⟨by rfl, rfl⟩) hHeld ?_
          try simp only [Act.put, List.setIfInBounds_toArray, List.set_cons_zero, List.set_cons_succ]
          refine wpAnyH_take (i := 7) (v := undef) (get_ops _ _ _ rfl) (by kernel_rfl) (by kernel_rfl) (by kernel_rfl) (fun _ _ _ h => h) (Or.inr ⟨by rfl, rfl⟩) hHeld ?_
          try simp only [Act.put, List.setIfInBounds_toArray, List.set_cons_zero, List.set_cons_succ]
          refine wpAnyH_take (i := 8) (v := undef) (get_ops _ _ _ rfl) (by kernel_rfl) (by kernel_rfl) (by kernel_rfl) (fun _ _ _ h => h) (Or.inr ⟨by rfl, rfl⟩) hHeld ?_
          try simp only [Act.put, List.setIfInBounds_toArray, List.set_cons_zero, List.set_cons_succ]
          refine wpAnyH_take (i := 9) (v := undef) (get_ops _ _ _ rfl) (by kernel_rfl) (by kernel_rfl) (by kernel_rfl) (fun _ _ _ h => h) (Or.inr ⟨by rfl, rfl⟩) hHeld ?_
          try simp only [Act.put, List.setIfInBounds_toArray, List.set_cons_zero, List.set_cons_succ]
          refine wpAnyH_take (i := 10) (v := undef) (get_ops _ _ _ rfl) (by kernel_rfl) (by kernel_rfl) (by kernel_rfl) (fun _ _ _ h => h) (Or.inr ⟨by rfl, rfl⟩) hHeld ?_
          try simp only [Act.put, List.setIfInBounds_toArray, List.set_cons_zero, List.set_cons_succ]
          refine wpAnyH_take (i := 11) (v := undef) (get_ops _ _ _ rfl) (by kernel_rfl) (by kernel_rfl) (by kernel_rfl) (fun _ _ _ h => h) (Or.inr ⟨by rfl, rfl⟩) hHeld ?_
          try simp only [Act.put, List.setIfInBounds_toArray, List.set_cons_zero, List.set_cons_succ]
          refine wpAnyH_take (i := 12) (v := undef) (get_ops _ _ _ rfl) (by kernel_rfl) (by kernel_rfl) (by kernel_rfl) (fun _ _ _ h => h) (Or.inr ⟨by rfl, rfl⟩) hHeld ?_
          try simp only [Act.put, List.setIfInBounds_toArray, List.set_cons_zero, List.set_cons_succ]
          refine wpAnyH_take (i := 13) (v := undef) (get_ops _ _ _ rfl) (by kernel_rfl) (by kernel_rfl) (by kernel_rfl) (fun _ _ _ h => h) (Or.inr ⟨by rfl, rfl⟩) hHeld ?_
          try simp only [Act.put, List.setIfInBounds_toArray, List.set_cons_zero, List.set_cons_succ]
          refine wpAnyH_take (i := 14) (v := undef) (get_ops _ _ _ rfl) (by kernel_rfl) (by kernel_rfl) (by kernel_rfl) (fun _ _ _ h => h) (Or.inr ⟨by rfl, rfl⟩) hHeld ?_
          try simp only [Act.put, List.setIfInBounds_toArray, List.set_cons_zero, List.set_cons_succ]
          refine wpAnyH_take (i := 15) (v := .bool false) (get_ops _ _ _ rfl) (by kernel_rfl) (by kernel_rfl) (by kernel_rfl) (fun _ _ _ h => h) (Or.inl ⟨by rfl, fun wS hSw => by (try dsimp only at hSw); go_simp⟩) hHeld ?_
          try simp only [Act.put, List.setIfInBounds_toArray, List.set_cons_zero, List.set_cons_succ]
          refine wpAnyH_take (i := 16) (v := .bool false) (get_ops _ _ _ rfl) (by kernel_rfl) (by kernel_rfl) (by kernel_rfl) (fun _ _ _ h => h) (Or.inl ⟨by rfl, fun wS hSw => by (try dsimp only at hSw); go_simp⟩) hHeld ?_
          try simp only [Act.put, List.setIfInBounds_toArray, List.set_cons_zero, List.set_cons_succ]
          refine wpAnyH_done (by kernel_rfl) ?_ _
          go_wp2_with fail
          go_meet
          exact ⟨by rw [HBA.out], C_h1.out⟩
      case rest =>
        obtain ⟨rfl, hbc⟩ := hcut
        have T_wc := Lib.hid (T_w2.out.step hbc)
        have K_wc := Lib.hid (K_w2.out.step hbc)
        have R_wc := Lib.hid (R_w2.out.step hbc)
        have B_wc := Lib.hid (stepB B_w2.out hbc)
        have O_wc := Lib.hid (O_w2.out.step hbc)
        clear hbc T_w2 K_w2 R_w2 B_w2 O_w2 HBAD
        cases bad with
        | true =>
          go_wp2_with first
            | (refine S2.wpList_store_all (by rfl) 27 (.tmp 4) (.tmp 44) rfl rfl (w.heap.size + 1 + 1) rfl (wcs 0 none 0 [] none 0 [] 0) rfl 27 (wcs 0 none 0 [] none 0 [] 0) R_wc.out winSize rfl (ones rfl) ?_; intro wf hM hP; have MF := Lib.hid hM; have PF := Lib.hid hP; clear hM hP)
          rw [← HRR.out]
          exact bodyPost_ret (v := .tuple #[wv 0 none 0 [] none 0 [] 0, .slice none 0 0, .int .i64 23]) (res3 rfl _ _ (w.heap.size + 1 + 1) 27 (wcs 0 none 0 [] none 0 [] 0) _ _ _ rfl rfl rfl MF.out Tryz.underlying27 rfl winSize) rfl ⟨none, 0, [], none, 0, none, 0, [], rfl, rfl, ⟨FI.nil _ _ _, Nat.le_refl _, CL.nil _ _ _, Nat.le_refl _⟩, ⟨(fun b o e => by cases e), (fun y hy => by cases hy), fun _ b o e => by cases e⟩, rfl, KS.nil _ _ _, PF.out.below B_wc.out (by omega)⟩
        | false =>
          have d0 := K_wc.out.cell 0 (pk0 p a)
          by_cases h5 : p.kind = 5
          · have HR5 : Hid ((relR (L, xs.map FE.f, X, l) i, [relP p.id], 0) = R) := Lib.hid (by have := HRR.out; rw [if_neg (by decide), if_pos h5] at this; exact this)
            have q5 : (p.kind == 5) = true := by simp [h5]
            clear h5
            go_upto_region 7 with fail
            clear d0 q5
            obtain ⟨RW, hRW⟩ : ∃ RW, relR (L, xs.map FE.f, X, l) i = RW := ⟨_, rfl⟩
            rw [hRW] at HRL HR5
            clear hRW
            obtain ⟨r1, rF, r3, r4⟩ := RW
            obtain ⟨h1, hh1⟩ : ∃ h1, h1 = World.drew wc := ⟨_, rfl⟩
            have hbD : Below wc.heap.size wc h1 := by rw [hh1]; exact (Below.refl _ _).drew
            have T_h1 : Hid (BK 27 h1 w.heap.size (wcs L A c xs A2 c2 X l)) := Lib.hid (T_wc.out.step hbD)
            have K_h1 : Hid (BK 39 h1 (w.heap.size + 1) (pkC p a)) := Lib.hid (K_wc.out.step hbD)
            have R_h1 : Hid (BK 27 h1 (w.heap.size + 1 + 1) (wcs 0 none 0 [] none 0 [] 0)) := Lib.hid (R_wc.out.step hbD)
            have B_h1 : Hid (Below w.heap.size w h1) := Lib.hid (stepB B_wc.out hbD)
            have O_h1 : Hid (WOk h1 A c xs A2 c2 X) := Lib.hid (O_wc.out.step hbD)
            clear T_wc K_wc R_wc B_wc O_wc
            have hbd : (fun w' => BK 27 w' w.heap.size (wcs L A c xs A2 c2 X l) ∧ BK 39 w' (w.heap.size + 1) (pkC p a)) (World.drew wc) := by rw [← hh1]; exact ⟨T_h1.out, K_h1.out⟩
            have hSD : (fun w' => BK 27 w' w.heap.size (wcs L A c xs A2 c2 X l) ∧ BK 39 w' (w.heap.size + 1) (pkC p a)) h1 := ⟨T_h1.out, K_h1.out⟩
            have HWD := Lib.hid hh1
            clear hh1 hbD
            refine wp_region_held_drew (S := fun w' => BK 27 w' w.heap.size (wcs L A c xs A2 c2 X l) ∧ BK 39 w' (w.heap.size + 1) (pkC p a)) (by kernel_rfl) hbd (fun hHeld => ?_)
            rw [← HWD.out]
            clear hHeld
            have hHeld := hSD
            clear hSD hbd HWD
            refine wpAnyH_take (i := 0) (v := wv L A c xs A2 c2 X l) (get_ops _ _ _ rfl) (by kernel_rfl) (by kernel_rfl) (by kernel_rfl) (fun _ _ _ h => h) (Or.inl ⟨by rfl, fun wS hSw => by (try dsimp only at hSw); exact exec_load 27 _ rfl ⟨w.heap.size, 0, none⟩ (by go_simp) _ (S2.run_load_all hSw.1 Tryz.underlying27 rfl winSize)⟩) hHeld ?_
            try simp only [Act.put, List.setIfInBounds_toArray, List.set_cons_zero, List.set_cons_succ]
            refine wpAnyH_take (i := 1) (v := .int .i64 i) (get_ops _ _ _ rfl) (by kernel_rfl) (by kernel_rfl) (by kernel_rfl) (fun _ _ _ h => h) (Or.inl ⟨by rfl, fun wS hSw => by (try dsimp only at hSw); go_simp⟩) hHeld ?_
            try simp only [Act.put, List.setIfInBounds_toArray, List.set_cons_zero, List.set_cons_succ]
            refine wpAnyH_take (i := 3) (v := .pointer (some ⟨w.heap.size + 1, 1, none⟩)) (get_ops _ _ _ rfl) (by kernel_rfl) (by kernel_rfl) (by kernel_rfl) (fun _ _ _ h => h) (Or.inl ⟨by rfl, fun wS hSw => by (try dsimp only at hSw); go_simp⟩) hHeld ?_
            try simp only [Act.put, List.setIfInBounds_toArray, List.set_cons_zero, List.set_cons_succ]
            refine wpAnyH_take (i := 4) (v := .int .i64 p.id) (get_ops _ _ _ rfl) (by kernel_rfl) (by kernel_rfl) (by kernel_rfl) (fun _ _ _ h => h) (Or.inl ⟨by rfl, fun wS hSw => by (try dsimp only at hSw); have cS : wS.cell? ⟨w.heap.size + 1, 1, none⟩ = some (.int .i64 p.id) := hSw.2.cell 1 (pk1 p a); clear hSw; go_simp⟩) hHeld ?_
            try simp only [Act.put, List.setIfInBounds_toArray, List.set_cons_zero, List.set_cons_succ]
            refine wpAnyH_ready (rs := [2]) (by kernel_rfl) (by simp) ?_
            refine (AllReadyH.cons (get_ops _ _ _ rfl) (fun K hK => ?_) AllReadyH.nil)
            have ZO : Hid (w.heap.size + 1 + 1 < h1.heap.size) := Lib.hid R_h1.out.lt
            go_simp
            refine (HRL.out h1 O_h1.out).mono ?_
            rintro e h2 ⟨A5, c5, ys, A6, c6, rfl, hys5, hok5, hfr5, hb⟩
            have T_h2 : Hid (BK 27 h2 w.heap.size (wcs L A c xs A2 c2 X l)) := Lib.hid (T_h1.out.step hb)
            have K_h2 : Hid (BK 39 h2 (w.heap.size + 1) (pkC p a)) := Lib.hid (K_h1.out.step hb)
            have R_h2 : Hid (BK 27 h2 (w.heap.size + 1 + 1) (wcs 0 none 0 [] none 0 [] 0)) := Lib.hid (R_h1.out.step hb)
            have B_h2 : Hid (Below w.heap.size w h2) := Lib.hid (stepB B_h1.out hb)
            have O_h2 : Hid (WOk h2 A c xs A2 c2 X) := Lib.hid (O_h1.out.step hb)
            clear T_h1 K_h1 R_h1 B_h1 O_h1
            have W_h2 : Hid (WOk h2 A5 c5 ys A6 c6 r3) := Lib.hid (hok5)
            have HF5 := Lib.hid hfr5
            have HY5 := Lib.hid hys5
            clear hok5 hfr5 hys5
            clear hHeld hb
            go_wp2_with fail
            refine hK.out _ _ ⟨T_h2.out, K_h2.out⟩ (fun hHeld => ?_)
            clear hK K
            try simp only [Act.put, List.setIfInBounds_toArray, List.set_cons_zero, List.set_cons_succ]
            refine wpAnyH_ready (rs := [5]) (by kernel_rfl) (by simp) ?_
            refine (AllReadyH.cons (get_ops _ _ _ rfl) (fun K hK => ?_) AllReadyH.nil)
            go_simp
            refine (HPR.out h2).mono ?_
            rintro e h3 ⟨rfl, hb⟩
            have T_h3 : Hid (BK 27 h3 w.heap.size (wcs L A c xs A2 c2 X l)) := Lib.hid (T_h2.out.step hb)
            have K_h3 : Hid (BK 39 h3 (w.heap.size + 1) (pkC p a)) := Lib.hid (K_h2.out.step hb)
            have R_h3 : Hid (BK 27 h3 (w.heap.size + 1 + 1) (wcs 0 none 0 [] none 0 [] 0)) := Lib.hid (R_h2.out.step hb)
            have B_h3 : Hid (Below w.heap.size w h3) := Lib.hid (stepB B_h2.out hb)
            have O_h3 : Hid (WOk h3 A c xs A2 c2 X) := Lib.hid (O_h2.out.step hb)
            have W_h3 : Hid (WOk h3 A5 c5 ys A6 c6 r3) := Lib.hid (W_h2.out.step hb)
            clear T_h2 K_h2 R_h2 B_h2 O_h2 W_h2
            clear hHeld hb
            go_wp2_with fail
            refine hK.out _ _ ⟨T_h3.out, K_h3.out⟩ (fun hHeld => ?_)
            clear hK K
            try simp only [Act.put, List.setIfInBounds_toArray, List.set_cons_zero, List.set_cons_succ]
            refine wpAnyH_ready (rs := [6, 7]) (by kernel_rfl) (by simp) ?_
            refine (AllReadyH.cons (get_ops _ _ _ rfl) (fun K hK => ?_) (AllReadyH.cons (get_ops _ _ _ rfl) (fun K hK => ?_) AllReadyH.nil))
            · simp only [pkV, pkC]
              go_simp
              obtain ⟨gs, hgs⟩ : ∃ gs, gs = h3.heap.size := ⟨_, rfl⟩
              refine name_world (C := fun w9 => K _ w9) (h3.alloc (.cells (gK (relP p.id, PA.zero)).toArray 39)) ?_
              intro h4 hh4
              have hb : Below h3.heap.size h3 h4 := by rw [hh4]; exact S2.below_new _ _
              have hN : BK 39 h4 gs (gK (relP p.id, PA.zero)) := by rw [hh4, hgs]; exact BK.new _ _ _
              have HGS : Hid (w.heap.size + 1 + 1 < gs) := Lib.hid (by rw [hgs]; exact R_h3.out.lt)
              have T_h4 : Hid (BK 27 h4 w.heap.size (wcs L A c xs A2 c2 X l)) := Lib.hid (T_h3.out.step hb)
              have K_h4 : Hid (BK 39 h4 (w.heap.size + 1) (pkC p a)) := Lib.hid (K_h3.out.step hb)
              have R_h4 : Hid (BK 27 h4 (w.heap.size + 1 + 1) (wcs 0 none 0 [] none 0 [] 0)) := Lib.hid (R_h3.out.step hb)
              have B_h4 : Hid (Below w.heap.size w h4) := Lib.hid (stepB B_h3.out hb)
              have O_h4 : Hid (WOk h4 A c xs A2 c2 X) := Lib.hid (O_h3.out.step hb)
              have W_h4 : Hid (WOk h4 A5 c5 ys A6 c6 r3) := Lib.hid (W_h3.out.step hb)
              clear T_h3 K_h3 R_h3 B_h3 O_h3 W_h3
              have V_h4 := Lib.hid hN
              try rw [← hh4]
              try rw [← hgs]
              clear hHeld hb hN hh4 hgs
              refine hK.out _ _ ⟨T_h4.out, K_h4.out⟩ (fun hHeld => ?_)
              clear hK K
              try simp only [Act.put, List.setIfInBounds_toArray, List.set_cons_zero, List.set_cons_succ]
              refine wpAnyH_ready (rs := [7]) (by kernel_rfl) (by simp) ?_
              refine (AllReadyH.cons (get_ops _ _ _ rfl) (fun K hK => ?_) AllReadyH.nil)
              refine S2.wp_store_all 27 _ _ rfl rfl (w.heap.size + 1 + 1) (by go_simp) (wcs r1 A5 c5 ys A6 c6 r3 r4) (by first | rfl | go_simp) 27 (wcs 0 none 0 [] none 0 [] 0) R_h4.out winSize rfl (ones rfl) ?_
              intro h5 hM hP
              have R_h5 : Hid (BK 27 h5 (w.heap.size + 1 + 1) (wcs r1 A5 c5 ys A6 c6 r3 r4)) := Lib.hid (hM)
              have T_h5 : Hid (BK 27 h5 w.heap.size (wcs L A c xs A2 c2 X l)) := Lib.hid (hP.other T_h4.out (by omega))
              have K_h5 : Hid (BK 39 h5 (w.heap.size + 1) (pkC p a)) := Lib.hid (hP.other K_h4.out (by omega))
              have B_h5 : Hid (Below w.heap.size w h5) := Lib.hid (hP.below B_h4.out (by omega))
              have W_h5 : Hid (WOk h5 A5 c5 ys A6 c6 r3) := Lib.hid (wok_put W_h4.out hP (fun b o e => by have := HF5.out.1 b o e; have := ZO.out; omega) (fun y hy b o e => by have := HF5.out.2.1 y hy b o e; have := ZO.out; omega) (fun hn b o e => by have := HF5.out.2.2 hn b o e; have := ZO.out; omega))
              have V_h5 : Hid (BK 39 h5 gs (gK (relP p.id, PA.zero))) := Lib.hid (hP.other V_h4.out (by have := HGS.out; omega))
              clear T_h4 K_h4 R_h4 B_h4 O_h4 W_h4 V_h4
              clear hM hP hHeld
              refine hK.out _ _ ⟨T_h5.out, K_h5.out⟩ (fun hHeld => ?_)
              clear hK K
              try simp only [Act.put, List.setIfInBounds_toArray, List.set_cons_zero, List.set_cons_succ]
              refine wpAnyH_take (i := 8) (v := .slice (some ⟨gs, 0, none⟩) 1 1) (get_ops _ _ _ rfl) (by kernel_rfl) (by kernel_rfl) (by kernel_rfl) (fun _ _ _ h => h) (Or.inl ⟨by rfl, fun wS hSw => by (try dsimp only at hSw); go_simp⟩) hHeld ?_
              try simp only [Act.put, List.setIfInBounds_toArray, List.set_cons_zero, List.set_cons_succ]
              refine wpAnyH_take (i := 9) (v := .int .i64 0) (get_ops _ _ _ rfl) (by kernel_rfl) (by kernel_rfl) (by kernel_rfl) (fun _ _ _ h => h) (Or.inl ⟨by rfl, fun wS hSw => by (try dsimp only at hSw); go_simp⟩) hHeld ?_
              try simp only [Act.put, List.setIfInBounds_toArray, List.set_cons_zero, List.set_cons_succ]
              refine wpAnyH_done (by kernel_rfl) ?_ _
              go_wp2_with fail
              rw [← HR5.out]
              exact bodyPost_ret (v := .tuple #[wv r1 A5 c5 ys A6 c6 r3 r4, .slice (some ⟨gs, 0, none⟩) 1 1, .int .i64 0]) (res3 rfl _ _ (w.heap.size + 1 + 1) 27 (wcs r1 A5 c5 ys A6 c6 r3 r4) _ _ _ rfl rfl rfl R_h5.out Tryz.underlying27 rfl winSize) rfl ⟨A5, c5, ys, A6, c6, some ⟨gs, 0, none⟩, 1, [(relP p.id, PA.zero)], rfl, HY5.out, W_h5.out, ⟨(fun b o e => by have := HF5.out.1 b o e; have := ZO.out; omega), (fun y hy b o e => by have := HF5.out.2.1 y hy b o e; have := ZO.out; omega), fun hn b o e => by have := HF5.out.2.2 hn b o e; have := ZO.out; omega⟩, rfl, KS.one V_h5.out (KP.rel _ _ _ _), B_h5.out⟩
            · refine S2.wp_store_all 27 _ _ rfl rfl (w.heap.size + 1 + 1) (by go_simp) (wcs r1 A5 c5 ys A6 c6 r3 r4) (by first | rfl | go_simp) 27 (wcs 0 none 0 [] none 0 [] 0) R_h3.out winSize rfl (ones rfl) ?_
              intro h4 hM hP
              have R_h4 : Hid (BK 27 h4 (w.heap.size + 1 + 1) (wcs r1 A5 c5 ys A6 c6 r3 r4)) := Lib.hid (hM)
              have T_h4 : Hid (BK 27 h4 w.heap.size (wcs L A c xs A2 c2 X l)) := Lib.hid (hP.other T_h3.out (by omega))
              have K_h4 : Hid (BK 39 h4 (w.heap.size + 1) (pkC p a)) := Lib.hid (hP.other K_h3.out (by omega))
              have B_h4 : Hid (Below w.heap.size w h4) := Lib.hid (hP.below B_h3.out (by omega))
              have W_h4 : Hid (WOk h4 A5 c5 ys A6 c6 r3) := Lib.hid (wok_put W_h3.out hP (fun b o e => by have := HF5.out.1 b o e; have := ZO.out; omega) (fun y hy b o e => by have := HF5.out.2.1 y hy b o e; have := ZO.out; omega) (fun hn b o e => by have := HF5.out.2.2 hn b o e; have := ZO.out; omega))
              clear T_h3 K_h3 R_h3 B_h3 O_h3 W_h3
              clear hM hP hHeld
              refine hK.out _ _ ⟨T_h4.out, K_h4.out⟩ (fun hHeld => ?_)
              clear hK K
              try simp only [Act.put, List.setIfInBounds_toArray, List.set_cons_zero, List.set_cons_succ]
              refine wpAnyH_ready (rs := [6]) (by kernel_rfl) (by simp) ?_
              refine (AllReadyH.cons (get_ops _ _ _ rfl) (fun K hK => ?_) AllReadyH.nil)
              simp only [pkV, pkC]
              go_simp
              obtain ⟨gs, hgs⟩ : ∃ gs, gs = h4.heap.size := ⟨_, rfl⟩
              refine name_world (C := fun w9 => K _ w9) (h4.alloc (.cells (gK (relP p.id, PA.zero)).toArray 39)) ?_
              intro h5 hh5
              have hb : Below h4.heap.size h4 h5 := by rw [hh5]; exact S2.below_new _ _
              have hN : BK 39 h5 gs (gK (relP p.id, PA.zero)) := by rw [hh5, hgs]; exact BK.new _ _ _
              have HGS : Hid (w.heap.size + 1 + 1 < gs) := Lib.hid (by rw [hgs]; exact R_h4.out.lt)
              have T_h5 : Hid (BK 27 h5 w.heap.size (wcs L A c xs A2 c2 X l)) := Lib.hid (T_h4.out.step hb)
              have K_h5 : Hid (BK 39 h5 (w.heap.size + 1) (pkC p a)) := Lib.hid (K_h4.out.step hb)
              have R_h5 : Hid (BK 27 h5 (w.heap.size + 1 + 1) (wcs r1 A5 c5 ys A6 c6 r3 r4)) := Lib.hid (R_h4.out.step hb)
              have B_h5 : Hid (Below w.heap.size w h5) := Lib.hid (stepB B_h4.out hb)
              have W_h5 : Hid (WOk h5 A5 c5 ys A6 c6 r3) := Lib.hid (W_h4.out.step hb)
              clear T_h4 K_h4 R_h4 B_h4 W_h4
              have V_h5 := Lib.hid hN
              try rw [← hh5]
              try rw [← hgs]
              clear hHeld hb hN hh5 hgs
              refine hK.out _ _ ⟨T_h5.out, K_h5.out⟩ (fun hHeld => ?_)
              clear hK K
              try simp only [Act.put, List.setIfInBounds_toArray, List.set_cons_zero, List.set_cons_succ]
              refine wpAnyH_take (i := 8) (v := .slice (some ⟨gs, 0, none⟩) 1 1) (get_ops _ _ _ rfl) (by kernel_rfl) (by kernel_rfl) (by kernel_rfl) (fun _ _ _ h => h) (Or.inl ⟨by rfl, fun wS hSw => by (try dsimp only at hSw); go_simp⟩) hHeld ?_
              try simp only [Act.put, List.setIfInBounds_toArray, List.set_cons_zero, List.set_cons_succ]
              refine wpAnyH_take (i := 9) (v := .int .i64 0) (get_ops _ _ _ rfl) (by kernel_rfl) (by kernel_rfl) (by kernel_rfl) (fun _ _ _ h => h) (Or.inl ⟨by rfl, fun wS hSw => by (try dsimp only at hSw); go_simp⟩) hHeld ?_
              try simp only [Act.put, List.setIfInBounds_toArray, List.set_cons_zero, List.set_cons_succ]
              refine wpAnyH_done (by kernel_rfl) ?_ _
              go_wp2_with fail
              rw [← HR5.out]
              exact bodyPost_ret (v := .tuple #[wv r1 A5 c5 ys A6 c6 r3 r4, .slice (some ⟨gs, 0, none⟩) 1 1, .int .i64 0]) (res3 rfl _ _ (w.heap.size + 1 + 1) 27 (wcs r1 A5 c5 ys A6 c6 r3 r4) _ _ _ rfl rfl rfl R_h5.out Tryz.underlying27 rfl winSize) rfl ⟨A5, c5, ys, A6, c6, some ⟨gs, 0, none⟩, 1, [(relP p.id, PA.zero)], rfl, HY5.out, W_h5.out, ⟨(fun b o e => by have := HF5.out.1 b o e; have := ZO.out; omega), (fun y hy b o e => by have := HF5.out.2.1 y hy b o e; have := ZO.out; omega), fun hn b o e => by have := HF5.out.2.2 hn b o e; have := ZO.out; omega⟩, rfl, KS.one V_h5.out (KP.rel _ _ _ _), B_h5.out⟩
          · have HR5 : Hid ((remR (L, xs.map FE.f, X, l) i, [], 0) = R) := Lib.hid (by have := HRR.out; rw [if_neg (by decide), if_neg h5] at this; exact this)
            have q5 : (p.kind == 5) = false := by simp [h5]
            obtain ⟨RW, hRW⟩ : ∃ RW, remR (L, xs.map FE.f, X, l) i = RW := ⟨_, rfl⟩
            rw [hRW] at HRM HR5
            clear h5 hRW
            obtain ⟨r1, rF, r3, r4⟩ := RW
            go_wp2_with first
              | (refine wpList_load_v (by rfl) 27 (.tmp 2) rfl ⟨w.heap.size, 0, none⟩ rfl (wv L A c xs A2 c2 X l) (S2.run_load_all T_wc.out Tryz.underlying27 rfl winSize) ?_)
            refine (HRM.out wc O_wc.out).mono ?_
            rintro e wd ⟨A5, c5, ys, A6, c6, rfl, hys5, hok5, hfr5, hb⟩
            have R_wd := Lib.hid (R_wc.out.step hb)
            have B_wd := Lib.hid (stepB B_wc.out hb)
            have ZO : Hid (w.heap.size + 1 + 1 < wc.heap.size) := Lib.hid R_wc.out.lt
            have HF5 := Lib.hid hfr5
            have HY5 := Lib.hid hys5
            have HO5 := Lib.hid hok5
            clear hb hys5 hok5 hfr5 d0 q5
            go_wp2_with first
              | (refine S2.wpList_store_all (by rfl) 27 (.tmp 4) (.tmp 58) rfl rfl (w.heap.size + 1 + 1) rfl (wcs r1 A5 c5 ys A6 c6 r3 r4) rfl 27 (wcs 0 none 0 [] none 0 [] 0) R_wd.out winSize rfl (ones rfl) ?_; intro wf hM hP; have MF := Lib.hid hM; have PF := Lib.hid hP; clear hM hP)
            rw [← HR5.out]
            exact bodyPost_ret (v := .tuple #[wv r1 A5 c5 ys A6 c6 r3 r4, .slice none 0 0, .int .i64 0]) (res3 rfl _ _ (w.heap.size + 1 + 1) 27 (wcs r1 A5 c5 ys A6 c6 r3 r4) _ _ _ rfl rfl rfl MF.out Tryz.underlying27 rfl winSize) rfl ⟨A5, c5, ys, A6, c6, none, 0, [], rfl, HY5.out, wok_put HO5.out PF.out (fun b o e => by have := HF5.out.1 b o e; have := ZO.out; omega) (fun y hy b o e => by have := HF5.out.2.1 y hy b o e; have := ZO.out; omega) (fun hn b o e => by have := HF5.out.2.2 hn b o e; have := ZO.out; omega), ⟨(fun b o e => by have := HF5.out.1 b o e; have := ZO.out; omega), (fun y hy b o e => by have := HF5.out.2.1 y hy b o e; have := ZO.out; omega), fun hn b o e => by have := HF5.out.2.2 hn b o e; have := ZO.out; omega⟩, rfl, KS.nil _ _ _, PF.out.below B_wd.out (by omega)⟩
end Go.Proofs.YtjpikgphfhjilaaGreatDoor
