/-
  What the small functions of inflight answer: pubrel, publish, again, New, Left. Conditions: the item reads as data; few properties.
-/
import Derived.Test.YtjpikgphfhjilaaGreatDoorWd
namespace Go.Proofs.YtjpikgphfhjilaaGreatDoor
open Go.RowKit
open S2 (BK Put)

theorem bk_msg {w : World} {g : Nat} {x : FE} (h : BK 60 w g (gF x)) : (loadVar 30 ⟨g, 2, none⟩).run Tryz.prog w = .ok (msgV x.f.m x.a x.c) w :=
  load_item_msg (o := 0) (fun i v hv => by rw [Nat.zero_add]; exact h.cell i hv)
theorem bk_item {w : World} {g : Nat} {x : FE} (h : BK 60 w g (gF x)) : (loadVar 60 ⟨g, 0, none⟩).run Tryz.prog w = .ok (fV x) w :=
  load_item (o := 0) (fun i v hv => by rw [Nat.zero_add]; exact h.cell i hv)
abbrev zeroPk : List Value := pkC Pkt.zero PA.zero
theorem pkOnes (p : Pkt) (a : PA) : ∀ u ∈ pkC p a, u.oneCell' = true := ones rfl
/-- a packet that a call answers, its message's properties in memory of their own -/
def RetK (p : Pkt) (W : World) (e : Ending) (w' : World) : Prop := ∃ a c, e = .returned (pkV p (pubA a c)) ∧ PL w' w'.heap.size a p.msg.props ∧ NewL W.heap.size a ∧ Below W.heap.size W w'

set_option maxRecDepth 20000 in
set_option maxHeartbeats 4000000 in
theorem pubrel_any (n : Int) (w : World) : Calls Tryz.prog 37 #[.int .i64 n] w fun e w' => e = .returned (pkV (relP n) PA.zero) ∧ Below w.heap.size w w' := by
  go_enter Tryz.func37, Tryz.ntmps37
  go_wp2_with first
    | (refine S2.wpList_store_all (by rfl) 39 (.tmp 2) (.tmp 4) rfl rfl w.heap.size rfl (pkC (relP n) PA.zero) rfl 39 zeroPk (BK.new w _ _) pktSize rfl (pkOnes _ _) ?_; intro w1 hM hP; have M1 := Lib.hid hM; have B1 := Lib.hid (hP.below (S2.below_new w _) (Nat.le_refl _)); clear hM hP)
  exact bodyPost_ret (v := pkV (relP n) PA.zero) (S2.res_cell rfl _ _ w.heap.size 39 (pkC (relP n) PA.zero) _ rfl M1.out Tryz.underlying39 rfl pktSize) rfl ⟨rfl, B1.out⟩

set_option maxRecDepth 20000 in
set_option maxHeartbeats 4000000 in
theorem publish_any (x : FE) (w : World) (hsl : PL w w.heap.size x.a x.f.m.props) (hn : x.f.m.props.length ≤ 100000) : Calls Tryz.prog 21 #[fV x] w (RetK (pubP x.f false) w) := by
  have HC := Lib.hid (fun w1 h => cloneMessage_any x.f.m x.a x.c w1 h hn)
  have HS := Lib.hid hsl
  clear hsl hn
  unfold fV
  go_enter Tryz.func21, Tryz.ntmps21
  go_upto_region 1 with fail
  refine name_world (C := fun w1 => Code.wp _ _ _ _ w1) ((w.alloc (.cells (gF x).toArray 60)).alloc (.cells zeroPk.toArray 39)) ?_
  intro w1 hw1
  obtain ⟨t1, t2, hs0, hB0⟩ := S2.two_laid (v1 := gF x) (v2 := zeroPk) hw1
  have HZ := Lib.hid hs0
  clear hw1 hs0
  have B_w1 : Hid (Below w.heap.size w w1) := Lib.hid (hB0)
  have M_w1 : Hid (BK 60 w1 w.heap.size (gF x)) := Lib.hid (t1)
  have K_w1 : Hid (BK 39 w1 (w.heap.size + 1) zeroPk) := Lib.hid (t2)
  have P_w1 : Hid (PL w1 w1.heap.size x.a x.f.m.props) := Lib.hid (HS.out.step hB0)
  clear t1 t2 hB0
  have HZ1 : Hid (w.heap.size + 2 ≤ w1.heap.size) := Lib.hid (by have := HZ.out; omega)
  have HZW : Hid ((World.drew w1).heap.size = w1.heap.size) := Lib.hid rfl
  obtain ⟨x1, hx1⟩ : ∃ x1, x1 = World.drew w1 := ⟨_, rfl⟩
  have hbD : Below w1.heap.size w1 x1 := by rw [hx1]; exact (Below.refl _ _).drew
  have B_x1 : Hid (Below w.heap.size w x1) := Lib.hid (stepB B_w1.out hbD)
  have M_x1 : Hid (BK 60 x1 w.heap.size (gF x)) := Lib.hid (M_w1.out.step hbD)
  have K_x1 : Hid (BK 39 x1 (w.heap.size + 1) zeroPk) := Lib.hid (K_w1.out.step hbD)
  have P_x1 : Hid (PL x1 x1.heap.size x.a x.f.m.props) := Lib.hid (P_w1.out.step hbD)
  clear B_w1 M_w1 K_w1 P_w1
  have hbd : (fun w' => BK 60 w' w.heap.size (gF x)) (World.drew w1) := by rw [← hx1]; exact M_x1.out
  have hSD : (fun w' => BK 60 w' w.heap.size (gF x)) x1 := M_x1.out
  have HWD := Lib.hid hx1
  clear hx1 hbD
  refine wp_region_held_drew (S := fun w' => BK 60 w' w.heap.size (gF x)) (by kernel_rfl) hbd (fun hHeld => ?_)
  rw [← HWD.out]
  clear hHeld
  have hHeld := hSD
  clear hSD hbd HWD
  refine wpAnyH_take (i := 0) (v := .pointer (some ⟨w.heap.size, 0, none⟩)) (get_ops _ _ _ rfl) (by kernel_rfl) (by kernel_rfl) (by kernel_rfl) (fun _ _ _ h => h) (Or.inl ⟨by rfl, fun wS hSw => by (try dsimp only at hSw); go_simp⟩) hHeld ?_
  try simp only [Act.put, List.setIfInBounds_toArray, List.set_cons_zero, List.set_cons_succ]
  refine wpAnyH_take (i := 1) (v := .int .i64 x.f.id) (get_ops _ _ _ rfl) (by kernel_rfl) (by kernel_rfl) (by kernel_rfl) (fun _ _ _ h => h) (Or.inl ⟨by rfl, fun wS hSw => by (try dsimp only at hSw); have cS : wS.cell? ⟨w.heap.size, 0, none⟩ = some (.int .i64 x.f.id) := hSw.cell 0 rfl; clear hSw; go_simp⟩) hHeld ?_
  try simp only [Act.put, List.setIfInBounds_toArray, List.set_cons_zero, List.set_cons_succ]
  refine wpAnyH_take (i := 2) (v := .pointer (some ⟨w.heap.size, 2, none⟩)) (get_ops _ _ _ rfl) (by kernel_rfl) (by kernel_rfl) (by kernel_rfl) (fun _ _ _ h => h) (Or.inl ⟨by rfl, fun wS hSw => by (try dsimp only at hSw); go_simp⟩) hHeld ?_
  try simp only [Act.put, List.setIfInBounds_toArray, List.set_cons_zero, List.set_cons_succ]
  refine wpAnyH_take (i := 3) (v := msgV x.f.m x.a x.c) (get_ops _ _ _ rfl) (by kernel_rfl) (by kernel_rfl) (by kernel_rfl) (fun _ _ _ h => h) (Or.inl ⟨by rfl, fun wS hSw => by (try dsimp only at hSw); exact exec_load 30 _ rfl ⟨w.heap.size, 2, none⟩ (by go_simp) _ (bk_msg hSw)⟩) hHeld ?_
  try simp only [Act.put, List.setIfInBounds_toArray, List.set_cons_zero, List.set_cons_succ]
  refine wpAnyH_ready (rs := [4]) (by kernel_rfl) (by simp) ?_
  refine (AllReadyH.cons (get_ops _ _ _ rfl) (fun K hK => ?_) AllReadyH.nil)
  have HZO : Hid (w1.heap.size ≤ x1.heap.size) := Lib.hid (by have := M_x1.out.lt; have := K_x1.out.lt; have := HZ.out; omega)
  go_simp
  refine (HC.out x1 P_x1.out).mono ?_
  rintro e x2 ⟨a2, c2, rfl, hpl2, hnew2, hb⟩
  have B_x2 : Hid (Below w.heap.size w x2) := Lib.hid (stepB B_x1.out hb)
  have M_x2 : Hid (BK 60 x2 w.heap.size (gF x)) := Lib.hid (M_x1.out.step hb)
  have K_x2 : Hid (BK 39 x2 (w.heap.size + 1) zeroPk) := Lib.hid (K_x1.out.step hb)
  have P_x2 : Hid (PL x2 x2.heap.size x.a x.f.m.props) := Lib.hid (P_x1.out.step hb)
  clear B_x1 M_x1 K_x1 P_x1
  have HZD : Hid (w.heap.size + 2 ≤ x1.heap.size) := Lib.hid (by have := HZ1.out; have := HZO.out; omega)
  clear P_x2
  have HNW := Lib.hid hnew2
  have HP2 := Lib.hid hpl2
  clear hpl2 hnew2
  have HZ2 := Lib.hid hb.size
  clear hHeld hb
  go_wp2_with fail
  refine hK.out _ _ M_x2.out (fun hHeld => ?_)
  clear hK K
  try simp only [Act.put, List.setIfInBounds_toArray, List.set_cons_zero, List.set_cons_succ]
  refine wpAnyH_take (i := 5) (v := pkV (pubP x.f false) (pubA a2 c2)) (get_ops _ _ _ rfl) (by kernel_rfl) (by kernel_rfl) (by kernel_rfl) (fun _ _ _ h => h) (Or.inl ⟨by rfl, fun wS hSw => by (try dsimp only at hSw); simp only [msgV]; go_simp; rfl⟩) hHeld ?_
  try simp only [Act.put, List.setIfInBounds_toArray, List.set_cons_zero, List.set_cons_succ]
  refine wpAnyH_ready (rs := [6]) (by kernel_rfl) (by simp) ?_
  refine (AllReadyH.cons (get_ops _ _ _ rfl) (fun K hK => ?_) AllReadyH.nil)
  refine S2.wp_store_all 39 _ _ rfl rfl (w.heap.size + 1) (by go_simp) (pkC (pubP x.f false) (pubA a2 c2)) (by first | rfl | go_simp) 39 zeroPk K_x2.out pktSize rfl (pkOnes _ _) ?_
  intro x3 hM hP
  have HPUT := Lib.hid hP
  have HZS := Lib.hid hP.size
  have K_x3 : Hid (BK 39 x3 (w.heap.size + 1) (pkC (pubP x.f false) (pubA a2 c2))) := Lib.hid (hM)
  have B_x3 : Hid (Below w.heap.size w x3) := Lib.hid (hP.below B_x2.out (by omega))
  have M_x3 : Hid (BK 60 x3 w.heap.size (gF x)) := Lib.hid (hP.other M_x2.out (by omega))
  clear B_x2 M_x2 K_x2
  clear hM hP hHeld
  refine hK.out _ _ M_x3.out (fun hHeld => ?_)
  clear hK K
  try simp only [Act.put, List.setIfInBounds_toArray, List.set_cons_zero, List.set_cons_succ]
  refine wpAnyH_done (by kernel_rfl) ?_ _
  go_wp2_with fail
  refine bodyPost_ret (v := pkV (pubP x.f false) (pubA a2 c2)) (S2.res_cell rfl _ _ (w.heap.size + 1) 39 (pkC (pubP x.f false) (pubA a2 c2)) _ rfl K_x3.out Tryz.underlying39 rfl pktSize) rfl ⟨a2, c2, rfl, ?_, ?_, B_x3.out⟩
  · have hz := HZS.out
    rw [hz]
    exact PL.put HP2.out HPUT.out (fun b o e => by have := HNW.out b o e; have := HZD.out; omega)
  · intro b o e
    have := HNW.out b o e
    have := HZD.out
    omega
end Go.Proofs.YtjpikgphfhjilaaGreatDoor
