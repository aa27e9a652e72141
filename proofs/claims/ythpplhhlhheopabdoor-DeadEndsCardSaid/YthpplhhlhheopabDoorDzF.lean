/-
  What Mark of dead answers: the marked message. Conditions: the message is valid, the queue's name a name, the reason one of the four.
-/
import Derived.Test.YthpplhhlhheopabDoorDzE
import Derived.Test.YthpplhhlhheopabDoorDzC
namespace Go.Proofs.YthpplhhlhheopabDoor
open Go.RowKit
open S2 (BK Put get_ops)

theorem wp_store_part {P : Program} {o : Oper} {a : Act} {w : World} {K : Act → World → Prop} {Q : Exit → Act → World → Prop} (ty : TypeId) (x y : Operand) (ho : o.op = .store ty x y) (hd : o.dst = none) (g off n : Nat) (hx : a.eval x = .pointer (some ⟨g, off, none⟩))
    (v : Value) (hy : a.eval y = v) (T : TypeId) (vs cs : List Value) (hM : BK T w g vs) (hv : v.cells = cs.toArray) (hn : cs.length = n) (hi : (P.info? ty).map (·.size) = some n) (hf : off + n ≤ vs.length) (h1 : ∀ u ∈ cs, u.oneCell' = true)
    (h : ∀ w', BK T w' g (putC vs off cs) → Put g w w' → K a w') : o.wp P a w K Q :=
  S2.wp_store ty x y ho hd _ hx v hy _ (run_store_part w g off n T ty vs cs v hv hn hi hM hf h1) (h _ (MT.put hM off cs) (S2.put_row w g _))
theorem pl_of_bk {w : World} {g : Nat} {T : TypeId} {xs : List PR} (h : BK T w g (xs.flatMap gP)) : PL w w.heap.size (some ⟨g, 0, none⟩) xs := fun _ =>
  ⟨g, 0, rfl, h.lt, fun j x i v hx hv => by rw [Nat.zero_add]; exact row_atG gP_len (sp := []) (by simpa using h) hx i v hv⟩
theorem dl_app (a b : ByteArray) : dl (a ++ b) = dl a ++ dl b := by
  show (a ++ b).data.toList = _
  simp [dl]
theorem died_app (q : ByteArray) (r : Nat) (h : r < 10) : q ++ ⟨#[32]⟩ ++ numT r = diedT q r := by
  apply dl_inj
  rw [dl_app, dl_app, numT_dl, diedT_dl, Lib.decDigits_one h]
  show dl q ++ [32] ++ _ = _
  simp
theorem msgC5 (m : Msg) (A : Option Addr) (c : Nat) : putC (msgC m A c) 5 [.int .i64 0] = msgC { m with exps := 0 } A c := rfl
theorem msgC8 (m : Msg) (A A' : Option Addr) (c c' : Nat) (l : List PR) : putC (msgC m A c) 8 [.slice A' l.length c'] = msgC { m with props := l } A' c' := rfl
theorem val160 {l : List PR} (h : propsR l = 0) : ∀ x ∈ l, x.2.size ≤ 1000000 := fun x hx => by have := ((propsR_parts h).2.2 x hx).2; omega
theorem load_ms {w : World} {g : Nat} {m : Msg} {A : Option Addr} {c : Nat} (h : BK 26 w g (msgC m A c)) : (loadVar 26 ⟨g, 0, none⟩).run Tryd.prog w = .ok (msgV m A c) w := S2.run_load_all h Tryd.underlying26 rfl msgSize
abbrev zeroM : List Value := msgC Msg.zero none 0

set_option maxRecDepth 20000 in
set_option maxHeartbeats 8000000 in
theorem dMark_any (q : ByteArray) (m : Msg) (r : Nat) (A : Option Addr) (c : Nat) (w : World) (hw : Okd w) (hsl : PL w w.heap.size A m.props) (hc : checkR m = 0) (hq : nameR q = true) (hr : r < 10) :
    Calls Tryd.prog 19 #[.string q, msgV m A c, .int .i64 (r : Int)] w (RetM (markR q m r) w) := by
  have hp := checkR_parts hc
  have hl8 := (propsR_parts hp).1
  have HD := Lib.hid (fun w1 h1 h2 => dDeaths_any m A c w1 h1 h2 (by omega) (val160 hp))
  have HW := Lib.hid (fun sb sc w1 h1 h2 => with_any A c m.props sb sc (numT (nextD m)) (diedT q r) w1 h1 h2 hp (nextD_size m) (diedT_size hq))
  have HI1 := Lib.hid (fun w1 h => itoaN_any (nextD m) (nextD_le m) w1 h)
  have HI2 := Lib.hid (fun w1 h => itoaN_any r (by omega) w1 h)
  have hk1 : wrap64 ((deathsM m : Int) + 1) = (deathsM m : Int) + 1 := wrap64_id _ (by have := deathsT_le (getR m.props kDeaths).1; unfold deathsM; omega) (by have := deathsT_le (getR m.props kDeaths).1; unfold deathsM; omega)
  have hk2 : min ((deathsM m : Int) + 1) 1099511627776 = (nextD m : Int) := by unfold nextD; omega
  have HAP := Lib.hid (died_app q r hr)
  have HMR : Hid ({ { m with exps := 0 } with props := markP m.props (numT (nextD m)) (diedT q r) } = markR q m r) := Lib.hid rfl
  have HQS : Hid (q.size ≤ 16) := Lib.hid (name_len hq)
  have HTS : Hid ((numT r).size ≤ 13) := Lib.hid (numT_size (by omega))
  have HS := Lib.hid hsl
  have HO := Lib.hid hw
  generalize diedT q r = Te at HW HAP HMR
  generalize numT r = Tr at HI2 HAP HTS
  generalize hTn : numT (nextD m) = Tn at HI1 HW HMR
  generalize nextD m = nd at *
  generalize deathsM m = n at HD hk1 hk2
  clear hsl hw hc hq hr hp hl8 hTn
  have HV : Hid (msgV m A c = .agg (msgC m A c).toArray) := Lib.hid rfl
  rw [HV.out] at HD ⊢
  go_enter Tryd.func19, Tryd.ntmps19
  go_upto_region 1 with fail
  refine name_world (C := fun w1 => Code.wp _ _ _ _ w1) ((w.alloc (.cells (msgC m A c).toArray 26)).alloc (.cells zeroM.toArray 26)) ?_
  intro w1 hw1
  have hb1 : Below w.heap.size w w1 := by rw [hw1]; exact stepB (S2.below_new w _) (S2.below_new _ _)
  have B_w1 := Lib.hid hb1
  have P_w1 : Hid (PL w1 w1.heap.size A m.props) := Lib.hid (GL.step HS.out hb1)
  have M_w1 : Hid (BK 26 w1 w.heap.size (msgC m A c)) := Lib.hid (by rw [hw1]; exact BK.alloc (BK.new w _ _) _)
  have K_w1 : Hid (BK 26 w1 (w.heap.size + 1) zeroM) := Lib.hid (by rw [hw1]; exact bk_new1 w _ _ _)
  have O_w1 : Hid (Okd w1) := Lib.hid (HO.out.step hb1)
  clear hw1 hb1
  have HLM := Lib.hid (load_ms M_w1.out)
  rw [HV.out] at HLM
  go_wp2_with first
    | (refine wpList_load_v (by rfl) 26 _ rfl ⟨w.heap.size, 0, none⟩ (by first | rfl | go_simp) _ HLM.out ?_)
  refine (HD.out w1 O_w1.out P_w1.out).mono ?_
  rintro e w2 ⟨rfl, hb⟩
  have B_w2 := Lib.hid (stepB B_w1.out hb)
  have P_w2 : Hid (PL w2 w2.heap.size A m.props) := Lib.hid (GL.step P_w1.out hb)
  have M_w2 := Lib.hid (M_w1.out.step hb)
  have K_w2 := Lib.hid (K_w1.out.step hb)
  have O_w2 := Lib.hid (O_w1.out.step hb)
  have Z_w2 : Hid (w.heap.size + 2 ≤ w2.heap.size) := Lib.hid (by have := K_w1.out.lt; have := hb.size; omega)
  clear hb HLM B_w1 P_w1 M_w1 K_w1 O_w1
  go_upto_region 3 with first
    | (refine wpList_store_row (by rfl) 3 (.tmp 12) _ rfl rfl w.heap.size 5 1 rfl (.int .i64 0) rfl 26 _ [.int .i64 0] M_w2.out rfl rfl (by kernel_rfl) (by show 6 ≤ 9; decide) (ones rfl) ?_; intro w3 hM hP hk; rw [msgC5] at hM; have M_w3 := Lib.hid hM; have P3 := Lib.hid hP; have KK3 := Lib.hid hk; clear hM hP hk)
  have hz3 : w3.heap.size = w2.heap.size := P3.out.size
  have B_w3 : Hid (Below w.heap.size w w3) := Lib.hid (P3.out.below B_w2.out (Nat.le_refl _))
  have K_w3 : Hid (BK 26 w3 (w.heap.size + 1) zeroM) := Lib.hid (P3.out.other K_w2.out (by omega))
  have Z_w3 : Hid (w.heap.size + 2 ≤ w3.heap.size) := Lib.hid (by rw [hz3]; exact Z_w2.out)
  clear hz3 P3 KK3 B_w2 P_w2 M_w2 K_w2 O_w2 Z_w2
  obtain ⟨x1, hx1⟩ : ∃ x1, x1 = World.drew w3 := ⟨_, rfl⟩
  have hbD : Below w3.heap.size w3 x1 := by rw [hx1]; exact (Below.refl _ _).drew
  have B_x1 : Hid (Below w.heap.size w x1) := Lib.hid (stepB B_w3.out hbD)
  have M_x1 : Hid (BK 26 x1 w.heap.size (msgC { m with exps := 0 } A c)) := Lib.hid (M_w3.out.step hbD)
  have K_x1 : Hid (BK 26 x1 (w.heap.size + 1) zeroM) := Lib.hid (K_w3.out.step hbD)
  have Z_x1 : Hid (w.heap.size + 2 ≤ x1.heap.size) := Lib.hid (Nat.le_trans Z_w3.out hbD.size)
  clear B_w3 M_w3 K_w3 Z_w3
  have hbd : (fun w' => w.heap.size + 2 ≤ w'.heap.size) (World.drew w3) := by rw [← hx1]; exact Z_x1.out
  have hSD : (fun w' => w.heap.size + 2 ≤ w'.heap.size) x1 := Z_x1.out
  have HWD := Lib.hid hx1
  clear hx1 hbD
  refine wp_region_held_drew (S := fun w' => w.heap.size + 2 ≤ w'.heap.size) (by kernel_rfl) hbd (fun hHeld => ?_)
  rw [← HWD.out]
  clear hHeld
  have hHeld := hSD
  clear hSD hbd HWD
  refine wpAnyH_take (i := 0) (v := .pointer (some ⟨w.heap.size, 8, none⟩)) (get_ops _ _ _ rfl) (by kernel_rfl) (by kernel_rfl) (by kernel_rfl) (fun _ _ _ h => h) (Or.inl ⟨by rfl, fun wS hSw => by (try dsimp only at hSw); go_simp⟩) hHeld ?_
  try simp only [Act.put, List.setIfInBounds_toArray, List.set_cons_zero, List.set_cons_succ]
  refine wpAnyH_take (i := 2) (v := .int .i64 (nd : Int)) (get_ops _ _ _ rfl) (by kernel_rfl) (by kernel_rfl) (by kernel_rfl) (fun _ _ _ h => h) (Or.inl ⟨by rfl, fun wS hSw => by (try dsimp only at hSw); go_simp⟩) hHeld ?_
  try simp only [Act.put, List.setIfInBounds_toArray, List.set_cons_zero, List.set_cons_succ]
  refine wpAnyH_take (i := 5) (v := .string q) (get_ops _ _ _ rfl) (by kernel_rfl) (by kernel_rfl) (by kernel_rfl) (fun _ _ _ h => h) (Or.inl ⟨by rfl, fun wS hSw => by (try dsimp only at hSw); go_simp⟩) hHeld ?_
  try simp only [Act.put, List.setIfInBounds_toArray, List.set_cons_zero, List.set_cons_succ]
  refine wpAnyH_take (i := 6) (v := .string (q ++ ⟨#[32]⟩)) (get_ops _ _ _ rfl) (by kernel_rfl) (by kernel_rfl) (by kernel_rfl) (fun _ _ _ h => h) (Or.inl ⟨by rfl, fun wS hSw => by (try dsimp only at hSw); have hqs := HQS.out; go_simp; omega⟩) hHeld ?_
  try simp only [Act.put, List.setIfInBounds_toArray, List.set_cons_zero, List.set_cons_succ]
  refine wpAnyH_take (i := 7) (v := .int .i64 (r : Int)) (get_ops _ _ _ rfl) (by kernel_rfl) (by kernel_rfl) (by kernel_rfl) (fun _ _ _ h => h) (Or.inl ⟨by rfl, fun wS hSw => by (try dsimp only at hSw); go_simp⟩) hHeld ?_
  try simp only [Act.put, List.setIfInBounds_toArray, List.set_cons_zero, List.set_cons_succ]
  refine wpAnyH_ready (rs := [1, 3]) (by kernel_rfl) (by simp) ?_
  refine (AllReadyH.cons (get_ops _ _ _ rfl) (fun K hK => ?_) (AllReadyH.cons (get_ops _ _ _ rfl) (fun K hK => ?_) AllReadyH.nil))
  · have cS : x1.cell? ⟨w.heap.size, 8, none⟩ = some (.slice A m.props.length c) := M_x1.out.cell 8 rfl
    go_simp
    clear hHeld cS
    refine hK.out _ _ Z_x1.out (fun hHeld => ?_)
    clear hK K
    try simp only [Act.put, List.setIfInBounds_toArray, List.set_cons_zero, List.set_cons_succ]
    refine wpAnyH_ready (rs := [3]) (by kernel_rfl) (by simp) ?_
    refine (AllReadyH.cons (get_ops _ _ _ rfl) (fun K hK => ?_) AllReadyH.nil)
    go_simp
    refine (HI1.out x1 (HO.out.step B_x1.out)).mono ?_
    rintro e x2 ⟨rfl, hb⟩
    have B_x2 : Hid (Below w.heap.size w x2) := Lib.hid (stepB B_x1.out hb)
    have M_x2 : Hid (BK 26 x2 w.heap.size (msgC { m with exps := 0 } A c)) := Lib.hid (M_x1.out.step hb)
    have K_x2 : Hid (BK 26 x2 (w.heap.size + 1) zeroM) := Lib.hid (K_x1.out.step hb)
    have Z_x2 : Hid (w.heap.size + 2 ≤ x2.heap.size) := Lib.hid (Nat.le_trans Z_x1.out hb.size)
    clear B_x1 M_x1 K_x1 Z_x1
    clear hHeld hb
    go_wp2_with fail
    refine hK.out _ _ Z_x2.out (fun hHeld => ?_)
    clear hK K
    try simp only [Act.put, List.setIfInBounds_toArray, List.set_cons_zero, List.set_cons_succ]
    refine wpAnyH_take (i := 4) (v := .agg #[.string ⟨#[100, 101, 97, 116, 104, 115]⟩, .string Tn]) (get_ops _ _ _ rfl) (by kernel_rfl) (by kernel_rfl) (by kernel_rfl) (fun _ _ _ h => h) (Or.inl ⟨by rfl, fun wS hSw => by (try dsimp only at hSw); go_simp⟩) hHeld ?_
    try simp only [Act.put, List.setIfInBounds_toArray, List.set_cons_zero, List.set_cons_succ]
    refine wpAnyH_ready (rs := [8]) (by kernel_rfl) (by simp) ?_
    refine (AllReadyH.cons (get_ops _ _ _ rfl) (fun K hK => ?_) AllReadyH.nil)
    go_simp
    refine (HI2.out x2 (HO.out.step B_x2.out)).mono ?_
    rintro e x3 ⟨rfl, hb⟩
    have B_x3 : Hid (Below w.heap.size w x3) := Lib.hid (stepB B_x2.out hb)
    have M_x3 : Hid (BK 26 x3 w.heap.size (msgC { m with exps := 0 } A c)) := Lib.hid (M_x2.out.step hb)
    have K_x3 : Hid (BK 26 x3 (w.heap.size + 1) zeroM) := Lib.hid (K_x2.out.step hb)
    have Z_x3 : Hid (w.heap.size + 2 ≤ x3.heap.size) := Lib.hid (Nat.le_trans Z_x2.out hb.size)
    clear B_x2 M_x2 K_x2 Z_x2
    clear hHeld hb
    go_wp2_with fail
    refine hK.out _ _ Z_x3.out (fun hHeld => ?_)
    clear hK K
    try simp only [Act.put, List.setIfInBounds_toArray, List.set_cons_zero, List.set_cons_succ]
    refine wpAnyH_take (i := 9) (v := .string Te) (get_ops _ _ _ rfl) (by kernel_rfl) (by kernel_rfl) (by kernel_rfl) (fun _ _ _ h => h) (Or.inl ⟨by rfl, fun wS hSw => by (try dsimp only at hSw); rw [← HAP.out]; have hqs := HQS.out; have hts := HTS.out; go_simp; omega⟩) hHeld ?_
    try simp only [Act.put, List.setIfInBounds_toArray, List.set_cons_zero, List.set_cons_succ]
    refine wpAnyH_take (i := 10) (v := .agg #[.string ⟨#[100, 105, 101, 100]⟩, .string Te]) (get_ops _ _ _ rfl) (by kernel_rfl) (by kernel_rfl) (by kernel_rfl) (fun _ _ _ h => h) (Or.inl ⟨by rfl, fun wS hSw => by (try dsimp only at hSw); go_simp⟩) hHeld ?_
    try simp only [Act.put, List.setIfInBounds_toArray, List.set_cons_zero, List.set_cons_succ]
    refine wpAnyH_ready (rs := [11]) (by kernel_rfl) (by simp) ?_
    refine (AllReadyH.cons (get_ops _ _ _ rfl) (fun K hK => ?_) AllReadyH.nil)
    go_simp
    obtain ⟨x4, hx4⟩ : ∃ x4, x4 = x3.alloc (.cells #[.string ⟨#[100, 101, 97, 116, 104, 115]⟩, .string Tn, .string ⟨#[100, 105, 101, 100]⟩, .string Te] 35) := ⟨_, rfl⟩
    have hb : Below x3.heap.size x3 x4 := by rw [hx4]; exact S2.below_new _ _
    have hN : BK 35 x4 (x3.heap.size) ((qm Tn Te).flatMap gP) := by rw [hx4]; exact BK.new _ _ _
    have B_x4 : Hid (Below w.heap.size w x4) := Lib.hid (stepB B_x3.out hb)
    have M_x4 : Hid (BK 26 x4 w.heap.size (msgC { m with exps := 0 } A c)) := Lib.hid (M_x3.out.step hb)
    have K_x4 : Hid (BK 26 x4 (w.heap.size + 1) zeroM) := Lib.hid (K_x3.out.step hb)
    have Z_x4 : Hid (w.heap.size + 2 ≤ x4.heap.size) := Lib.hid (Nat.le_trans Z_x3.out hb.size)
    clear B_x3 M_x3 K_x3 Z_x3
    have Q_x4 := Lib.hid hN
    try rw [← hx4]
    clear hHeld hb hN hx4
    refine hK.out _ _ Z_x4.out (fun hHeld => ?_)
    clear hK K
    try simp only [Act.put, List.setIfInBounds_toArray, List.set_cons_zero, List.set_cons_succ]
    refine wpAnyH_ready (rs := [12]) (by kernel_rfl) (by simp) ?_
    refine (AllReadyH.cons (get_ops _ _ _ rfl) (fun K hK => ?_) AllReadyH.nil)
    have HZP : Hid (w.heap.size + 2 ≤ x4.heap.size) := Lib.hid Z_x4.out
    go_simp
    refine (HW.out _ _ x4 (GL.more (GL.below HS.out B_x4.out) (by have := Z_x4.out; omega)) (pl_of_bk Q_x4.out)).mono ?_
    rintro e x5 ⟨v5, rfl, hown, hb⟩
    have B_x5 : Hid (Below w.heap.size w x5) := Lib.hid (stepB B_x4.out hb)
    have M_x5 : Hid (BK 26 x5 w.heap.size (msgC { m with exps := 0 } A c)) := Lib.hid (M_x4.out.step hb)
    have K_x5 : Hid (BK 26 x5 (w.heap.size + 1) zeroM) := Lib.hid (K_x4.out.step hb)
    have Z_x5 : Hid (w.heap.size + 2 ≤ x5.heap.size) := Lib.hid (Nat.le_trans Z_x4.out hb.size)
    have Q_x5 : Hid (BK 35 x5 (x3.heap.size) ((qm Tn Te).flatMap gP)) := Lib.hid (Q_x4.out.step hb)
    clear B_x4 M_x4 K_x4 Z_x4 Q_x4
    obtain ⟨A5, c5, rfl, _, hnw5, hpl⟩ := hown.retB gP_len
    have hpl5 := hpl _ (Nat.le_refl _) (fun _ _ => rfl)
    clear hpl
    have HNW := Lib.hid hnw5
    have HP5 := Lib.hid hpl5
    have HZO : Hid (w.heap.size + 2 ≤ x4.heap.size) := Lib.hid (by have := Z_x5.out; have := hb.size; have := HZP.out; omega)
    clear hown hnw5 hpl5
    clear hHeld hb
    go_wp2_with fail
    refine hK.out _ _ Z_x5.out (fun hHeld => ?_)
    clear hK K
    try simp only [Act.put, List.setIfInBounds_toArray, List.set_cons_zero, List.set_cons_succ]
    refine wpAnyH_take (i := 13) (v := .pointer (some ⟨w.heap.size, 8, none⟩)) (get_ops _ _ _ rfl) (by kernel_rfl) (by kernel_rfl) (by kernel_rfl) (fun _ _ _ h => h) (Or.inl ⟨by rfl, fun wS hSw => by (try dsimp only at hSw); go_simp⟩) hHeld ?_
    try simp only [Act.put, List.setIfInBounds_toArray, List.set_cons_zero, List.set_cons_succ]
    refine wpAnyH_ready (rs := [14]) (by kernel_rfl) (by simp) ?_
    refine (AllReadyH.cons (get_ops _ _ _ rfl) (fun K hK => ?_) AllReadyH.nil)
    refine wp_store_part 24 _ _ rfl rfl w.heap.size 8 1 (by go_simp) (.slice A5 (markP m.props Tn Te).length c5) (by first | rfl | go_simp) 26 _ [.slice A5 (markP m.props Tn Te).length c5] M_x5.out rfl rfl (by kernel_rfl) (by show 9 ≤ 9; decide) (ones rfl) ?_
    intro x6 hM hP
    rw [msgC8] at hM
    have HP5b : Hid (PL x6 x6.heap.size A5 (markP m.props Tn Te)) := Lib.hid (by rw [hP.size]; exact PL.put HP5.out hP (fun b o e => by have := HNW.out b o e; have := HZO.out; omega))
    have M_x6 : Hid (BK 26 x6 w.heap.size (msgC { ({ m with exps := 0 } : Msg) with props := markP m.props Tn Te } A5 c5)) := Lib.hid (hM)
    have B_x6 : Hid (Below w.heap.size w x6) := Lib.hid (hP.below B_x5.out (Nat.le_refl _))
    have K_x6 : Hid (BK 26 x6 (w.heap.size + 1) zeroM) := Lib.hid (hP.other K_x5.out (by omega))
    have Z_x6 : Hid (w.heap.size + 2 ≤ x6.heap.size) := Lib.hid (by rw [hP.size]; exact Z_x5.out)
    clear B_x5 M_x5 K_x5 Z_x5 Q_x5
    clear hM hP hHeld
    refine hK.out _ _ Z_x6.out (fun hHeld => ?_)
    clear hK K
    try simp only [Act.put, List.setIfInBounds_toArray, List.set_cons_zero, List.set_cons_succ]
    refine wpAnyH_done (by kernel_rfl) ?_ _
    rw [HMR.out] at M_x6
    clear HP5
    have HLM := Lib.hid (load_ms M_x6.out)
    have HVR : Hid (msgV (markR q m r) A5 c5 = .agg (msgC (markR q m r) A5 c5).toArray) := Lib.hid rfl
    rw [HVR.out] at HLM
    go_wp2_with first
      | (refine wpList_load_v (by rfl) 26 _ rfl ⟨w.heap.size, 0, none⟩ (by first | rfl | go_simp) _ HLM.out ?_)
      | (refine S2.wpList_store_all (by rfl) 26 (.tmp 6) (.tmp 27) rfl rfl (w.heap.size + 1) rfl (msgC (markR q m r) A5 c5) rfl 26 _ K_x6.out msgSize rfl (msgC_one _ _ _) ?_; intro we hM hP; have ME := Lib.hid hM; have PE := Lib.hid hP; clear hM hP)
    refine bodyPost_ret (v := msgV (markR q m r) A5 c5) (S2.res_cell rfl _ _ (w.heap.size + 1) 26 (msgC (markR q m r) A5 c5) _ rfl ME.out Tryd.underlying26 rfl msgSize) rfl ⟨A5, c5, rfl, ?_, ?_, PE.out.below B_x6.out (by omega)⟩
    · rw [PE.out.size]
      have h := PL.put HP5b.out PE.out (fun b o e => by have := HNW.out b o e; have := HZO.out; omega)
      rw [← HMR.out]
      exact h
    · intro b o e
      have := HNW.out b o e
      have := HZO.out
      omega
  · go_simp
    refine (HI1.out x1 (HO.out.step B_x1.out)).mono ?_
    rintro e x2 ⟨rfl, hb⟩
    have B_x2 : Hid (Below w.heap.size w x2) := Lib.hid (stepB B_x1.out hb)
    have M_x2 : Hid (BK 26 x2 w.heap.size (msgC { m with exps := 0 } A c)) := Lib.hid (M_x1.out.step hb)
    have K_x2 : Hid (BK 26 x2 (w.heap.size + 1) zeroM) := Lib.hid (K_x1.out.step hb)
    have Z_x2 : Hid (w.heap.size + 2 ≤ x2.heap.size) := Lib.hid (Nat.le_trans Z_x1.out hb.size)
    clear B_x1 M_x1 K_x1 Z_x1
    clear hHeld hb
    go_wp2_with fail
    refine hK.out _ _ Z_x2.out (fun hHeld => ?_)
    clear hK K
    try simp only [Act.put, List.setIfInBounds_toArray, List.set_cons_zero, List.set_cons_succ]
    refine wpAnyH_take (i := 4) (v := .agg #[.string ⟨#[100, 101, 97, 116, 104, 115]⟩, .string Tn]) (get_ops _ _ _ rfl) (by kernel_rfl) (by kernel_rfl) (by kernel_rfl) (fun _ _ _ h => h) (Or.inl ⟨by rfl, fun wS hSw => by (try dsimp only at hSw); go_simp⟩) hHeld ?_
    try simp only [Act.put, List.setIfInBounds_toArray, List.set_cons_zero, List.set_cons_succ]
    refine wpAnyH_ready (rs := [1, 8]) (by kernel_rfl) (by simp) ?_
    refine (AllReadyH.cons (get_ops _ _ _ rfl) (fun K hK => ?_) (AllReadyH.cons (get_ops _ _ _ rfl) (fun K hK => ?_) AllReadyH.nil))
    · have cS : x2.cell? ⟨w.heap.size, 8, none⟩ = some (.slice A m.props.length c) := M_x2.out.cell 8 rfl
      go_simp
      clear hHeld cS
      refine hK.out _ _ Z_x2.out (fun hHeld => ?_)
      clear hK K
      try simp only [Act.put, List.setIfInBounds_toArray, List.set_cons_zero, List.set_cons_succ]
      refine wpAnyH_ready (rs := [8]) (by kernel_rfl) (by simp) ?_
      refine (AllReadyH.cons (get_ops _ _ _ rfl) (fun K hK => ?_) AllReadyH.nil)
      go_simp
      refine (HI2.out x2 (HO.out.step B_x2.out)).mono ?_
      rintro e x3 ⟨rfl, hb⟩
      have B_x3 : Hid (Below w.heap.size w x3) := Lib.hid (stepB B_x2.out hb)
      have M_x3 : Hid (BK 26 x3 w.heap.size (msgC { m with exps := 0 } A c)) := Lib.hid (M_x2.out.step hb)
      have K_x3 : Hid (BK 26 x3 (w.heap.size + 1) zeroM) := Lib.hid (K_x2.out.step hb)
      have Z_x3 : Hid (w.heap.size + 2 ≤ x3.heap.size) := Lib.hid (Nat.le_trans Z_x2.out hb.size)
      clear B_x2 M_x2 K_x2 Z_x2
      clear hHeld hb
      go_wp2_with fail
      refine hK.out _ _ Z_x3.out (fun hHeld => ?_)
      clear hK K
      try simp only [Act.put, List.setIfInBounds_toArray, List.set_cons_zero, List.set_cons_succ]
      refine wpAnyH_take (i := 9) (v := .string Te) (get_ops _ _ _ rfl) (by kernel_rfl) (by kernel_rfl) (by kernel_rfl) (fun _ _ _ h => h) (Or.inl ⟨by rfl, fun wS hSw => by (try dsimp only at hSw); rw [← HAP.out]; have hqs := HQS.out; have hts := HTS.out; go_simp; omega⟩) hHeld ?_
      try simp only [Act.put, List.setIfInBounds_toArray, List.set_cons_zero, List.set_cons_succ]
      refine wpAnyH_take (i := 10) (v := .agg #[.string ⟨#[100, 105, 101, 100]⟩, .string Te]) (get_ops _ _ _ rfl) (by kernel_rfl) (by kernel_rfl) (by kernel_rfl) (fun _ _ _ h => h) (Or.inl ⟨by rfl, fun wS hSw => by (try dsimp only at hSw); go_simp⟩) hHeld ?_
      try simp only [Act.put, List.setIfInBounds_toArray, List.set_cons_zero, List.set_cons_succ]
      refine wpAnyH_ready (rs := [11]) (by kernel_rfl) (by simp) ?_
      refine (AllReadyH.cons (get_ops _ _ _ rfl) (fun K hK => ?_) AllReadyH.nil)
      go_simp
      obtain ⟨x4, hx4⟩ : ∃ x4, x4 = x3.alloc (.cells #[.string ⟨#[100, 101, 97, 116, 104, 115]⟩, .string Tn, .string ⟨#[100, 105, 101, 100]⟩, .string Te] 35) := ⟨_, rfl⟩
      have hb : Below x3.heap.size x3 x4 := by rw [hx4]; exact S2.below_new _ _
      have hN : BK 35 x4 (x3.heap.size) ((qm Tn Te).flatMap gP) := by rw [hx4]; exact BK.new _ _ _
      have B_x4 : Hid (Below w.heap.size w x4) := Lib.hid (stepB B_x3.out hb)
      have M_x4 : Hid (BK 26 x4 w.heap.size (msgC { m with exps := 0 } A c)) := Lib.hid (M_x3.out.step hb)
      have K_x4 : Hid (BK 26 x4 (w.heap.size + 1) zeroM) := Lib.hid (K_x3.out.step hb)
      have Z_x4 : Hid (w.heap.size + 2 ≤ x4.heap.size) := Lib.hid (Nat.le_trans Z_x3.out hb.size)
      clear B_x3 M_x3 K_x3 Z_x3
      have Q_x4 := Lib.hid hN
      try rw [← hx4]
      clear hHeld hb hN hx4
      refine hK.out _ _ Z_x4.out (fun hHeld => ?_)
      clear hK K
      try simp only [Act.put, List.setIfInBounds_toArray, List.set_cons_zero, List.set_cons_succ]
      refine wpAnyH_ready (rs := [12]) (by kernel_rfl) (by simp) ?_
      refine (AllReadyH.cons (get_ops _ _ _ rfl) (fun K hK => ?_) AllReadyH.nil)
      have HZP : Hid (w.heap.size + 2 ≤ x4.heap.size) := Lib.hid Z_x4.out
      go_simp
      refine (HW.out _ _ x4 (GL.more (GL.below HS.out B_x4.out) (by have := Z_x4.out; omega)) (pl_of_bk Q_x4.out)).mono ?_
      rintro e x5 ⟨v5, rfl, hown, hb⟩
      have B_x5 : Hid (Below w.heap.size w x5) := Lib.hid (stepB B_x4.out hb)
      have M_x5 : Hid (BK 26 x5 w.heap.size (msgC { m with exps := 0 } A c)) := Lib.hid (M_x4.out.step hb)
      have K_x5 : Hid (BK 26 x5 (w.heap.size + 1) zeroM) := Lib.hid (K_x4.out.step hb)
      have Z_x5 : Hid (w.heap.size + 2 ≤ x5.heap.size) := Lib.hid (Nat.le_trans Z_x4.out hb.size)
      have Q_x5 : Hid (BK 35 x5 (x3.heap.size) ((qm Tn Te).flatMap gP)) := Lib.hid (Q_x4.out.step hb)
      clear B_x4 M_x4 K_x4 Z_x4 Q_x4
      obtain ⟨A5, c5, rfl, _, hnw5, hpl⟩ := hown.retB gP_len
      have hpl5 := hpl _ (Nat.le_refl _) (fun _ _ => rfl)
      clear hpl
      have HNW := Lib.hid hnw5
      have HP5 := Lib.hid hpl5
      have HZO : Hid (w.heap.size + 2 ≤ x4.heap.size) := Lib.hid (by have := Z_x5.out; have := hb.size; have := HZP.out; omega)
      clear hown hnw5 hpl5
      clear hHeld hb
      go_wp2_with fail
      refine hK.out _ _ Z_x5.out (fun hHeld => ?_)
      clear hK K
      try simp only [Act.put, List.setIfInBounds_toArray, List.set_cons_zero, List.set_cons_succ]
      refine wpAnyH_take (i := 13) (v := .pointer (some ⟨w.heap.size, 8, none⟩)) (get_ops _ _ _ rfl) (by kernel_rfl) (by kernel_rfl) (by kernel_rfl) (fun _ _ _ h => h) (Or.inl ⟨by rfl, fun wS hSw => by (try dsimp only at hSw); go_simp⟩) hHeld ?_
      try simp only [Act.put, List.setIfInBounds_toArray, List.set_cons_zero, List.set_cons_succ]
      refine wpAnyH_ready (rs := [14]) (by kernel_rfl) (by simp) ?_
      refine (AllReadyH.cons (get_ops _ _ _ rfl) (fun K hK => ?_) AllReadyH.nil)
      refine wp_store_part 24 _ _ rfl rfl w.heap.size 8 1 (by go_simp) (.slice A5 (markP m.props Tn Te).length c5) (by first | rfl | go_simp) 26 _ [.slice A5 (markP m.props Tn Te).length c5] M_x5.out rfl rfl (by kernel_rfl) (by show 9 ≤ 9; decide) (ones rfl) ?_
      intro x6 hM hP
      rw [msgC8] at hM
      have HP5b : Hid (PL x6 x6.heap.size A5 (markP m.props Tn Te)) := Lib.hid (by rw [hP.size]; exact PL.put HP5.out hP (fun b o e => by have := HNW.out b o e; have := HZO.out; omega))
      have M_x6 : Hid (BK 26 x6 w.heap.size (msgC { ({ m with exps := 0 } : Msg) with props := markP m.props Tn Te } A5 c5)) := Lib.hid (hM)
      have B_x6 : Hid (Below w.heap.size w x6) := Lib.hid (hP.below B_x5.out (Nat.le_refl _))
      have K_x6 : Hid (BK 26 x6 (w.heap.size + 1) zeroM) := Lib.hid (hP.other K_x5.out (by omega))
      have Z_x6 : Hid (w.heap.size + 2 ≤ x6.heap.size) := Lib.hid (by rw [hP.size]; exact Z_x5.out)
      clear B_x5 M_x5 K_x5 Z_x5 Q_x5
      clear hM hP hHeld
      refine hK.out _ _ Z_x6.out (fun hHeld => ?_)
      clear hK K
      try simp only [Act.put, List.setIfInBounds_toArray, List.set_cons_zero, List.set_cons_succ]
      refine wpAnyH_done (by kernel_rfl) ?_ _
      rw [HMR.out] at M_x6
      clear HP5
      have HLM := Lib.hid (load_ms M_x6.out)
      have HVR : Hid (msgV (markR q m r) A5 c5 = .agg (msgC (markR q m r) A5 c5).toArray) := Lib.hid rfl
      rw [HVR.out] at HLM
      go_wp2_with first
        | (refine wpList_load_v (by rfl) 26 _ rfl ⟨w.heap.size, 0, none⟩ (by first | rfl | go_simp) _ HLM.out ?_)
        | (refine S2.wpList_store_all (by rfl) 26 (.tmp 6) (.tmp 27) rfl rfl (w.heap.size + 1) rfl (msgC (markR q m r) A5 c5) rfl 26 _ K_x6.out msgSize rfl (msgC_one _ _ _) ?_; intro we hM hP; have ME := Lib.hid hM; have PE := Lib.hid hP; clear hM hP)
      refine bodyPost_ret (v := msgV (markR q m r) A5 c5) (S2.res_cell rfl _ _ (w.heap.size + 1) 26 (msgC (markR q m r) A5 c5) _ rfl ME.out Tryd.underlying26 rfl msgSize) rfl ⟨A5, c5, rfl, ?_, ?_, PE.out.below B_x6.out (by omega)⟩
      · rw [PE.out.size]
        have h := PL.put HP5b.out PE.out (fun b o e => by have := HNW.out b o e; have := HZO.out; omega)
        rw [← HMR.out]
        exact h
      · intro b o e
        have := HNW.out b o e
        have := HZO.out
        omega
    · go_simp
      refine (HI2.out x2 (HO.out.step B_x2.out)).mono ?_
      rintro e x3 ⟨rfl, hb⟩
      have B_x3 : Hid (Below w.heap.size w x3) := Lib.hid (stepB B_x2.out hb)
      have M_x3 : Hid (BK 26 x3 w.heap.size (msgC { m with exps := 0 } A c)) := Lib.hid (M_x2.out.step hb)
      have K_x3 : Hid (BK 26 x3 (w.heap.size + 1) zeroM) := Lib.hid (K_x2.out.step hb)
      have Z_x3 : Hid (w.heap.size + 2 ≤ x3.heap.size) := Lib.hid (Nat.le_trans Z_x2.out hb.size)
      clear B_x2 M_x2 K_x2 Z_x2
      clear hHeld hb
      go_wp2_with fail
      refine hK.out _ _ Z_x3.out (fun hHeld => ?_)
      clear hK K
      try simp only [Act.put, List.setIfInBounds_toArray, List.set_cons_zero, List.set_cons_succ]
      refine wpAnyH_take (i := 9) (v := .string Te) (get_ops _ _ _ rfl) (by kernel_rfl) (by kernel_rfl) (by kernel_rfl) (fun _ _ _ h => h) (Or.inl ⟨by rfl, fun wS hSw => by (try dsimp only at hSw); rw [← HAP.out]; have hqs := HQS.out; have hts := HTS.out; go_simp; omega⟩) hHeld ?_
      try simp only [Act.put, List.setIfInBounds_toArray, List.set_cons_zero, List.set_cons_succ]
      refine wpAnyH_take (i := 10) (v := .agg #[.string ⟨#[100, 105, 101, 100]⟩, .string Te]) (get_ops _ _ _ rfl) (by kernel_rfl) (by kernel_rfl) (by kernel_rfl) (fun _ _ _ h => h) (Or.inl ⟨by rfl, fun wS hSw => by (try dsimp only at hSw); go_simp⟩) hHeld ?_
      try simp only [Act.put, List.setIfInBounds_toArray, List.set_cons_zero, List.set_cons_succ]
      refine wpAnyH_ready (rs := [1, 11]) (by kernel_rfl) (by simp) ?_
      refine (AllReadyH.cons (get_ops _ _ _ rfl) (fun K hK => ?_) (AllReadyH.cons (get_ops _ _ _ rfl) (fun K hK => ?_) AllReadyH.nil))
      · have cS : x3.cell? ⟨w.heap.size, 8, none⟩ = some (.slice A m.props.length c) := M_x3.out.cell 8 rfl
        go_simp
        clear hHeld cS
        refine hK.out _ _ Z_x3.out (fun hHeld => ?_)
        clear hK K
        try simp only [Act.put, List.setIfInBounds_toArray, List.set_cons_zero, List.set_cons_succ]
        refine wpAnyH_ready (rs := [11]) (by kernel_rfl) (by simp) ?_
        refine (AllReadyH.cons (get_ops _ _ _ rfl) (fun K hK => ?_) AllReadyH.nil)
        go_simp
        obtain ⟨x4, hx4⟩ : ∃ x4, x4 = x3.alloc (.cells #[.string ⟨#[100, 101, 97, 116, 104, 115]⟩, .string Tn, .string ⟨#[100, 105, 101, 100]⟩, .string Te] 35) := ⟨_, rfl⟩
        have hb : Below x3.heap.size x3 x4 := by rw [hx4]; exact S2.below_new _ _
        have hN : BK 35 x4 (x3.heap.size) ((qm Tn Te).flatMap gP) := by rw [hx4]; exact BK.new _ _ _
        have B_x4 : Hid (Below w.heap.size w x4) := Lib.hid (stepB B_x3.out hb)
        have M_x4 : Hid (BK 26 x4 w.heap.size (msgC { m with exps := 0 } A c)) := Lib.hid (M_x3.out.step hb)
        have K_x4 : Hid (BK 26 x4 (w.heap.size + 1) zeroM) := Lib.hid (K_x3.out.step hb)
        have Z_x4 : Hid (w.heap.size + 2 ≤ x4.heap.size) := Lib.hid (Nat.le_trans Z_x3.out hb.size)
        clear B_x3 M_x3 K_x3 Z_x3
        have Q_x4 := Lib.hid hN
        try rw [← hx4]
        clear hHeld hb hN hx4
        refine hK.out _ _ Z_x4.out (fun hHeld => ?_)
        clear hK K
        try simp only [Act.put, List.setIfInBounds_toArray, List.set_cons_zero, List.set_cons_succ]
        refine wpAnyH_ready (rs := [12]) (by kernel_rfl) (by simp) ?_
        refine (AllReadyH.cons (get_ops _ _ _ rfl) (fun K hK => ?_) AllReadyH.nil)
        have HZP : Hid (w.heap.size + 2 ≤ x4.heap.size) := Lib.hid Z_x4.out
        go_simp
        refine (HW.out _ _ x4 (GL.more (GL.below HS.out B_x4.out) (by have := Z_x4.out; omega)) (pl_of_bk Q_x4.out)).mono ?_
        rintro e x5 ⟨v5, rfl, hown, hb⟩
        have B_x5 : Hid (Below w.heap.size w x5) := Lib.hid (stepB B_x4.out hb)
        have M_x5 : Hid (BK 26 x5 w.heap.size (msgC { m with exps := 0 } A c)) := Lib.hid (M_x4.out.step hb)
        have K_x5 : Hid (BK 26 x5 (w.heap.size + 1) zeroM) := Lib.hid (K_x4.out.step hb)
        have Z_x5 : Hid (w.heap.size + 2 ≤ x5.heap.size) := Lib.hid (Nat.le_trans Z_x4.out hb.size)
        have Q_x5 : Hid (BK 35 x5 (x3.heap.size) ((qm Tn Te).flatMap gP)) := Lib.hid (Q_x4.out.step hb)
        clear B_x4 M_x4 K_x4 Z_x4 Q_x4
        obtain ⟨A5, c5, rfl, _, hnw5, hpl⟩ := hown.retB gP_len
        have hpl5 := hpl _ (Nat.le_refl _) (fun _ _ => rfl)
        clear hpl
        have HNW := Lib.hid hnw5
        have HP5 := Lib.hid hpl5
        have HZO : Hid (w.heap.size + 2 ≤ x4.heap.size) := Lib.hid (by have := Z_x5.out; have := hb.size; have := HZP.out; omega)
        clear hown hnw5 hpl5
        clear hHeld hb
        go_wp2_with fail
        refine hK.out _ _ Z_x5.out (fun hHeld => ?_)
        clear hK K
        try simp only [Act.put, List.setIfInBounds_toArray, List.set_cons_zero, List.set_cons_succ]
        refine wpAnyH_take (i := 13) (v := .pointer (some ⟨w.heap.size, 8, none⟩)) (get_ops _ _ _ rfl) (by kernel_rfl) (by kernel_rfl) (by kernel_rfl) (fun _ _ _ h => h) (Or.inl ⟨by rfl, fun wS hSw => by (try dsimp only at hSw); go_simp⟩) hHeld ?_
        try simp only [Act.put, List.setIfInBounds_toArray, List.set_cons_zero, List.set_cons_succ]
        refine wpAnyH_ready (rs := [14]) (by kernel_rfl) (by simp) ?_
        refine (AllReadyH.cons (get_ops _ _ _ rfl) (fun K hK => ?_) AllReadyH.nil)
        refine wp_store_part 24 _ _ rfl rfl w.heap.size 8 1 (by go_simp) (.slice A5 (markP m.props Tn Te).length c5) (by first | rfl | go_simp) 26 _ [.slice A5 (markP m.props Tn Te).length c5] M_x5.out rfl rfl (by kernel_rfl) (by show 9 ≤ 9; decide) (ones rfl) ?_
        intro x6 hM hP
        rw [msgC8] at hM
        have HP5b : Hid (PL x6 x6.heap.size A5 (markP m.props Tn Te)) := Lib.hid (by rw [hP.size]; exact PL.put HP5.out hP (fun b o e => by have := HNW.out b o e; have := HZO.out; omega))
        have M_x6 : Hid (BK 26 x6 w.heap.size (msgC { ({ m with exps := 0 } : Msg) with props := markP m.props Tn Te } A5 c5)) := Lib.hid (hM)
        have B_x6 : Hid (Below w.heap.size w x6) := Lib.hid (hP.below B_x5.out (Nat.le_refl _))
        have K_x6 : Hid (BK 26 x6 (w.heap.size + 1) zeroM) := Lib.hid (hP.other K_x5.out (by omega))
        have Z_x6 : Hid (w.heap.size + 2 ≤ x6.heap.size) := Lib.hid (by rw [hP.size]; exact Z_x5.out)
        clear B_x5 M_x5 K_x5 Z_x5 Q_x5
        clear hM hP hHeld
        refine hK.out _ _ Z_x6.out (fun hHeld => ?_)
        clear hK K
        try simp only [Act.put, List.setIfInBounds_toArray, List.set_cons_zero, List.set_cons_succ]
        refine wpAnyH_done (by kernel_rfl) ?_ _
        rw [HMR.out] at M_x6
        clear HP5
        have HLM := Lib.hid (load_ms M_x6.out)
        have HVR : Hid (msgV (markR q m r) A5 c5 = .agg (msgC (markR q m r) A5 c5).toArray) := Lib.hid rfl
        rw [HVR.out] at HLM
        go_wp2_with first
          | (refine wpList_load_v (by rfl) 26 _ rfl ⟨w.heap.size, 0, none⟩ (by first | rfl | go_simp) _ HLM.out ?_)
          | (refine S2.wpList_store_all (by rfl) 26 (.tmp 6) (.tmp 27) rfl rfl (w.heap.size + 1) rfl (msgC (markR q m r) A5 c5) rfl 26 _ K_x6.out msgSize rfl (msgC_one _ _ _) ?_; intro we hM hP; have ME := Lib.hid hM; have PE := Lib.hid hP; clear hM hP)
        refine bodyPost_ret (v := msgV (markR q m r) A5 c5) (S2.res_cell rfl _ _ (w.heap.size + 1) 26 (msgC (markR q m r) A5 c5) _ rfl ME.out Tryd.underlying26 rfl msgSize) rfl ⟨A5, c5, rfl, ?_, ?_, PE.out.below B_x6.out (by omega)⟩
        · rw [PE.out.size]
          have h := PL.put HP5b.out PE.out (fun b o e => by have := HNW.out b o e; have := HZO.out; omega)
          rw [← HMR.out]
          exact h
        · intro b o e
          have := HNW.out b o e
          have := HZO.out
          omega
      · go_simp
        obtain ⟨x4, hx4⟩ : ∃ x4, x4 = x3.alloc (.cells #[.string ⟨#[100, 101, 97, 116, 104, 115]⟩, .string Tn, .string ⟨#[100, 105, 101, 100]⟩, .string Te] 35) := ⟨_, rfl⟩
        have hb : Below x3.heap.size x3 x4 := by rw [hx4]; exact S2.below_new _ _
        have hN : BK 35 x4 (x3.heap.size) ((qm Tn Te).flatMap gP) := by rw [hx4]; exact BK.new _ _ _
        have B_x4 : Hid (Below w.heap.size w x4) := Lib.hid (stepB B_x3.out hb)
        have M_x4 : Hid (BK 26 x4 w.heap.size (msgC { m with exps := 0 } A c)) := Lib.hid (M_x3.out.step hb)
        have K_x4 : Hid (BK 26 x4 (w.heap.size + 1) zeroM) := Lib.hid (K_x3.out.step hb)
        have Z_x4 : Hid (w.heap.size + 2 ≤ x4.heap.size) := Lib.hid (Nat.le_trans Z_x3.out hb.size)
        clear B_x3 M_x3 K_x3 Z_x3
        have Q_x4 := Lib.hid hN
        try rw [← hx4]
        clear hHeld hb hN hx4
        refine hK.out _ _ Z_x4.out (fun hHeld => ?_)
        clear hK K
        try simp only [Act.put, List.setIfInBounds_toArray, List.set_cons_zero, List.set_cons_succ]
        refine wpAnyH_ready (rs := [1]) (by kernel_rfl) (by simp) ?_
        refine (AllReadyH.cons (get_ops _ _ _ rfl) (fun K hK => ?_) AllReadyH.nil)
        have cS : x4.cell? ⟨w.heap.size, 8, none⟩ = some (.slice A m.props.length c) := M_x4.out.cell 8 rfl
        go_simp
        clear hHeld cS
        refine hK.out _ _ Z_x4.out (fun hHeld => ?_)
        clear hK K
        try simp only [Act.put, List.setIfInBounds_toArray, List.set_cons_zero, List.set_cons_succ]
        refine wpAnyH_ready (rs := [12]) (by kernel_rfl) (by simp) ?_
        refine (AllReadyH.cons (get_ops _ _ _ rfl) (fun K hK => ?_) AllReadyH.nil)
        have HZP : Hid (w.heap.size + 2 ≤ x4.heap.size) := Lib.hid Z_x4.out
        go_simp
        refine (HW.out _ _ x4 (GL.more (GL.below HS.out B_x4.out) (by have := Z_x4.out; omega)) (pl_of_bk Q_x4.out)).mono ?_
        rintro e x5 ⟨v5, rfl, hown, hb⟩
        have B_x5 : Hid (Below w.heap.size w x5) := Lib.hid (stepB B_x4.out hb)
        have M_x5 : Hid (BK 26 x5 w.heap.size (msgC { m with exps := 0 } A c)) := Lib.hid (M_x4.out.step hb)
        have K_x5 : Hid (BK 26 x5 (w.heap.size + 1) zeroM) := Lib.hid (K_x4.out.step hb)
        have Z_x5 : Hid (w.heap.size + 2 ≤ x5.heap.size) := Lib.hid (Nat.le_trans Z_x4.out hb.size)
        have Q_x5 : Hid (BK 35 x5 (x3.heap.size) ((qm Tn Te).flatMap gP)) := Lib.hid (Q_x4.out.step hb)
        clear B_x4 M_x4 K_x4 Z_x4 Q_x4
        obtain ⟨A5, c5, rfl, _, hnw5, hpl⟩ := hown.retB gP_len
        have hpl5 := hpl _ (Nat.le_refl _) (fun _ _ => rfl)
        clear hpl
        have HNW := Lib.hid hnw5
        have HP5 := Lib.hid hpl5
        have HZO : Hid (w.heap.size + 2 ≤ x4.heap.size) := Lib.hid (by have := Z_x5.out; have := hb.size; have := HZP.out; omega)
        clear hown hnw5 hpl5
        clear hHeld hb
        go_wp2_with fail
        refine hK.out _ _ Z_x5.out (fun hHeld => ?_)
        clear hK K
        try simp only [Act.put, List.setIfInBounds_toArray, List.set_cons_zero, List.set_cons_succ]
        refine wpAnyH_take (i := 13) (v := .pointer (some ⟨w.heap.size, 8, none⟩)) (get_ops _ _ _ rfl) (by kernel_rfl) (by kernel_rfl) (by kernel_rfl) (fun _ _ _ h => h) (Or.inl ⟨by rfl, fun wS hSw => by (try dsimp only at hSw); go_simp⟩) hHeld ?_
        try simp only [Act.put, List.setIfInBounds_toArray, List.set_cons_zero, List.set_cons_succ]
        refine wpAnyH_ready (rs := [14]) (by kernel_rfl) (by simp) ?_
        refine (AllReadyH.cons (get_ops _ _ _ rfl) (fun K hK => ?_) AllReadyH.nil)
        refine wp_store_part 24 _ _ rfl rfl w.heap.size 8 1 (by go_simp) (.slice A5 (markP m.props Tn Te).length c5) (by first | rfl | go_simp) 26 _ [.slice A5 (markP m.props Tn Te).length c5] M_x5.out rfl rfl (by kernel_rfl) (by show 9 ≤ 9; decide) (ones rfl) ?_
        intro x6 hM hP
        rw [msgC8] at hM
        have HP5b : Hid (PL x6 x6.heap.size A5 (markP m.props Tn Te)) := Lib.hid (by rw [hP.size]; exact PL.put HP5.out hP (fun b o e => by have := HNW.out b o e; have := HZO.out; omega))
        have M_x6 : Hid (BK 26 x6 w.heap.size (msgC { ({ m with exps := 0 } : Msg) with props := markP m.props Tn Te } A5 c5)) := Lib.hid (hM)
        have B_x6 : Hid (Below w.heap.size w x6) := Lib.hid (hP.below B_x5.out (Nat.le_refl _))
        have K_x6 : Hid (BK 26 x6 (w.heap.size + 1) zeroM) := Lib.hid (hP.other K_x5.out (by omega))
        have Z_x6 : Hid (w.heap.size + 2 ≤ x6.heap.size) := Lib.hid (by rw [hP.size]; exact Z_x5.out)
        clear B_x5 M_x5 K_x5 Z_x5 Q_x5
        clear hM hP hHeld
        refine hK.out _ _ Z_x6.out (fun hHeld => ?_)
        clear hK K
        try simp only [Act.put, List.setIfInBounds_toArray, List.set_cons_zero, List.set_cons_succ]
        refine wpAnyH_done (by kernel_rfl) ?_ _
        rw [HMR.out] at M_x6
        clear HP5
        have HLM := Lib.hid (load_ms M_x6.out)
        have HVR : Hid (msgV (markR q m r) A5 c5 = .agg (msgC (markR q m r) A5 c5).toArray) := Lib.hid rfl
        rw [HVR.out] at HLM
        go_wp2_with first
          | (refine wpList_load_v (by rfl) 26 _ rfl ⟨w.heap.size, 0, none⟩ (by first | rfl | go_simp) _ HLM.out ?_)
          | (refine S2.wpList_store_all (by rfl) 26 (.tmp 6) (.tmp 27) rfl rfl (w.heap.size + 1) rfl (msgC (markR q m r) A5 c5) rfl 26 _ K_x6.out msgSize rfl (msgC_one _ _ _) ?_; intro we hM hP; have ME := Lib.hid hM; have PE := Lib.hid hP; clear hM hP)
        refine bodyPost_ret (v := msgV (markR q m r) A5 c5) (S2.res_cell rfl _ _ (w.heap.size + 1) 26 (msgC (markR q m r) A5 c5) _ rfl ME.out Tryd.underlying26 rfl msgSize) rfl ⟨A5, c5, rfl, ?_, ?_, PE.out.below B_x6.out (by omega)⟩
        · rw [PE.out.size]
          have h := PL.put HP5b.out PE.out (fun b o e => by have := HNW.out b o e; have := HZO.out; omega)
          rw [← HMR.out]
          exact h
        · intro b o e
          have := HNW.out b o e
          have := HZO.out
          omega
end Go.Proofs.YthpplhhlhheopabDoor
