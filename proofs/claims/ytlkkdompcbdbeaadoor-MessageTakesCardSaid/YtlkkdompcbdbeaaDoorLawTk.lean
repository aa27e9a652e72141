/-
  What Take of the specification answers: the message that the bytes hold, or the error. Conditions: the bytes read as data; the place fits an int; the library's bound on short texts holds a number.
  MessageTakes answers true, walked: Take of the program and of the specification answer alike, at any bytes and any place. Conditions: the tables of package unicode/utf8 are there; the bytes read as data; the place fits an int.
-/
import Derived.Test.YtlkkdompcbdbeaaDoorTake
import Derived.Test.YtlkkdompcbdbeaaDoorAwake5
namespace Go.Proofs.YtlkkdompcbdbeaaDoor
open Go.RowKit

set_option maxRecDepth 50000 in
set_option maxHeartbeats 16000000 in
theorem rTake_any (A : Option Addr) (c : Nat) (l : List UInt8) (p : Int) (hp : Fit p) (w : World) (hsl : CL bv w w.heap.size A l) (hc : l.length ≤ c) (hn : l.length ≤ 140737488355328) :
    Calls Tryd.prog 32 #[.slice A l.length c, .int .i64 p] w (RetT (takeR l p) w) := by
  obtain ⟨w1, hw1⟩ : ∃ w1, w1 = (w.alloc (.cells zM.toArray 36)).alloc (.cells #[.slice A l.length c, .int .i64 p, .int .i64 0] 68) := ⟨_, rfl⟩
  have hb1 : Below w.heap.size w w1 := by rw [hw1]; exact ((Below.refl _ _).alloc (Nat.le_refl _) _).alloc (by simp) _
  have hd1 : RD 68 w1 (w.heap.size + 1) A c l (p, 0) := ⟨by
    rw [hw1]
    have := heap_alloc_new (w.alloc (.cells zM.toArray 36)) (.cells #[.slice A l.length c, .int .i64 p, .int .i64 0] 68)
    rw [show (w.alloc (.cells zM.toArray 36)).heap.size = w.heap.size + 1 by simp] at this
    exact this, hp⟩
  have hm1 : MB w1 w.heap.size zM := by
    unfold MB
    rw [hw1, heap_alloc_old _ _ (by simp)]
    exact heap_alloc_new w _
  have hs1 : CL bv w1 (w.heap.size + 1) A l := (hsl.below hb1).more (by omega)
  have HMM := Lib.hid (sMsg_any (w.heap.size + 1) A c l (p, 0) w1 hd1 hs1 hc hn)
  have HW1 := Lib.hid hw1
  have HB1 := Lib.hid hb1
  have HM1 := Lib.hid hm1
  have HSZ : Hid (w1.heap.size = w.heap.size + 2) := Lib.hid (by rw [hw1]; simp)
  unfold takeR
  generalize hq : sMsg l (p, 0) = r at HMM ⊢
  obtain ⟨m, st⟩ := r
  dsimp only at HMM ⊢
  have hfit := sMsg_sizes (l := l) (p := p) hn
  rw [hq] at hfit
  have HCK : Hid (∀ A w, PL w w.heap.size A m.props → ∀ c, Calls Tryd.prog 23 #[msgV m A c] w fun e w' => e = .returned (.int .i64 (checkR m)) ∧ Below w.heap.size w w') := Lib.hid (fun A w h c => rCheck_any m A c w h hfit.1 hfit.2.1 hfit.2.2)
  clear hq hb1 hd1 hm1 hs1 hsl hc hn hp hw1 hfit
  by_cases he : st.2 ≠ 0
  · rw [if_pos he]
    have q0 : (st.2 == 0) = false := by simp [he]
    have q1 : (st.2 != 0) = true := by simp [he]
    clear he HCK
    go_enter Tryd.func32, Tryd.ntmps32
    go_wp2_with fail
    change Calls Tryd.prog _ #[.pointer (some ⟨w.heap.size + 1, 0, none⟩)] ((w.alloc (.cells zM.toArray 36)).alloc (.cells #[.slice A l.length c, .int .i64 p, .int .i64 0] 68)) _
    rw [← HW1.out]
    refine HMM.out.mono ?_
    rintro e w2 ⟨A1, c1, rfl, hpl, hge, hd, hk⟩
    unfold msgV
    have HB2 := Lib.hid (HB1.out.trans (hk.1.mono (by omega)))
    have HM2 := Lib.hid (HM1.out.kr hk (by omega))
    have HD2 := Lib.hid hd
    have HPL := Lib.hid hpl
    have hR2 := hd.lt
    obtain ⟨w3, hw3⟩ : ∃ w3, w3 = w2.alloc (.cells #[.string m.topic, .string m.payload, .int .i64 m.level, .bool m.retain, .int .i64 m.prio, .int .i64 m.exps, .string m.frm, .int .i64 m.seq, .slice A1 m.props.length c1] 36) := ⟨_, rfl⟩
    have h23 : Below w2.heap.size w2 w3 := by rw [hw3]; exact (Below.refl _ _).alloc (Nat.le_refl _) _
    have hsz2 : w.heap.size + 2 ≤ w2.heap.size := by have := (Array.getElem?_eq_some_iff.1 HD2.out.1).1; omega
    have HB3 : Hid (Below w.heap.size w w3) := Lib.hid (stepB HB2.out h23)
    have HM3 : Hid (MB w3 w.heap.size zM) := Lib.hid ((h23.block _ (by omega)).trans HM2.out)
    have HD3 : Hid (RD 68 w3 (w.heap.size + 1) A c l st) := Lib.hid (HD2.out.to (h23.block _ hR2))
    have HP3 : Hid (PL w3 w3.heap.size A1 m.props) := Lib.hid (HPL.out.step h23)
    have HMB : Hid (MB w3 w2.heap.size [.string m.topic, .string m.payload, .int .i64 m.level, .bool m.retain, .int .i64 m.prio, .int .i64 m.exps, .string m.frm, .int .i64 m.seq, .slice A1 m.props.length c1]) := Lib.hid (by rw [hw3]; exact heap_alloc_new w2 _)
    have HPQ : Hid (0 < m.props.length → ∀ b o, A1 = some ⟨b, o, none⟩ → b ≠ w.heap.size) := Lib.hid (fun _ b o e => by have h1 := hge _ e; have h2 := HSZ.out; dsimp only at h1; omega)
    have HW3 := Lib.hid hw3
    have k2 : World.cell? (w2.alloc (.cells #[.string m.topic, .string m.payload, .int .i64 m.level, .bool m.retain, .int .i64 m.prio, .int .i64 m.exps, .string m.frm, .int .i64 m.seq, .slice A1 m.props.length c1] 36)) ⟨(w.heap.size + 1), 2, none⟩ = some (.int .i64 st.2) := by rw [← hw3]; exact HD3.out.k2
    have HPR : Hid (0 < m.props.length → ∀ b o, A1 = some ⟨b, o, none⟩ → w.heap.size + 2 ≤ b) := Lib.hid (fun _ b o e => by have h1 := hge _ e; have h2 := HSZ.out; dsimp only at h1; omega)
    clear hd hk hpl hge HM1 HB1 HMM HM2 HD2 HB2 h23 HPL HW1 hw3
    go_upto_region 6 with fail
    rw [← HW3.out]
    clear k2
    obtain ⟨wD, hwD⟩ : ∃ wD, wD = World.drew w3 := ⟨_, rfl⟩
    have HDD : Hid (RD 68 wD (w.heap.size + 1) A c l st) := Lib.hid (by rw [hwD]; exact HD3.out)
    have HMD : Hid (MB wD w2.heap.size [.string m.topic, .string m.payload, .int .i64 m.level, .bool m.retain, .int .i64 m.prio, .int .i64 m.exps, .string m.frm, .int .i64 m.seq, .slice A1 m.props.length c1]) := Lib.hid (by rw [hwD]; exact HMB.out)
    have HZD : Hid (MB wD w.heap.size zM) := Lib.hid (by rw [hwD]; exact HM3.out)
    have HBD : Hid (Below w.heap.size w wD) := Lib.hid (by rw [hwD]; exact (HB3.out).drew)
    have HWD := Lib.hid hwD
    have hbd : (fun w' => RD 68 w' (w.heap.size + 1) A c l st ∧ MB w' w2.heap.size [.string m.topic, .string m.payload, .int .i64 m.level, .bool m.retain, .int .i64 m.prio, .int .i64 m.exps, .string m.frm, .int .i64 m.seq, .slice A1 m.props.length c1] ∧ Below w.heap.size w w') (World.drew w3) := by rw [← hwD]; exact ⟨HDD.out, HMD.out, HBD.out⟩
    have hSD : (fun w' => RD 68 w' (w.heap.size + 1) A c l st ∧ MB w' w2.heap.size [.string m.topic, .string m.payload, .int .i64 m.level, .bool m.retain, .int .i64 m.prio, .int .i64 m.exps, .string m.frm, .int .i64 m.seq, .slice A1 m.props.length c1] ∧ Below w.heap.size w w') wD := ⟨HDD.out, HMD.out, HBD.out⟩
    clear hwD
    have p0 : World.cell? wD ⟨w.heap.size, 0, none⟩ = some (.string ⟨#[]⟩) := (show MB wD w.heap.size zM from HZD.out).cell 0
    have z0 : World.frozen? wD ⟨w.heap.size, 0, none⟩ = false := (show MB wD w.heap.size zM from HZD.out).free 0
    have p1 : World.cell? wD ⟨w.heap.size, 1, none⟩ = some (.string ⟨#[]⟩) := (show MB wD w.heap.size zM from HZD.out).cell 1
    have z1 : World.frozen? wD ⟨w.heap.size, 1, none⟩ = false := (show MB wD w.heap.size zM from HZD.out).free 1
    have p2 : World.cell? wD ⟨w.heap.size, 2, none⟩ = some (.int .i64 0) := (show MB wD w.heap.size zM from HZD.out).cell 2
    have z2 : World.frozen? wD ⟨w.heap.size, 2, none⟩ = false := (show MB wD w.heap.size zM from HZD.out).free 2
    have p3 : World.cell? wD ⟨w.heap.size, 3, none⟩ = some (.bool false) := (show MB wD w.heap.size zM from HZD.out).cell 3
    have z3 : World.frozen? wD ⟨w.heap.size, 3, none⟩ = false := (show MB wD w.heap.size zM from HZD.out).free 3
    have p4 : World.cell? wD ⟨w.heap.size, 4, none⟩ = some (.int .i64 0) := (show MB wD w.heap.size zM from HZD.out).cell 4
    have z4 : World.frozen? wD ⟨w.heap.size, 4, none⟩ = false := (show MB wD w.heap.size zM from HZD.out).free 4
    have p5 : World.cell? wD ⟨w.heap.size, 5, none⟩ = some (.int .i64 0) := (show MB wD w.heap.size zM from HZD.out).cell 5
    have z5 : World.frozen? wD ⟨w.heap.size, 5, none⟩ = false := (show MB wD w.heap.size zM from HZD.out).free 5
    have p6 : World.cell? wD ⟨w.heap.size, 6, none⟩ = some (.string ⟨#[]⟩) := (show MB wD w.heap.size zM from HZD.out).cell 6
    have z6 : World.frozen? wD ⟨w.heap.size, 6, none⟩ = false := (show MB wD w.heap.size zM from HZD.out).free 6
    have p7 : World.cell? wD ⟨w.heap.size, 7, none⟩ = some (.int .i64 0) := (show MB wD w.heap.size zM from HZD.out).cell 7
    have z7 : World.frozen? wD ⟨w.heap.size, 7, none⟩ = false := (show MB wD w.heap.size zM from HZD.out).free 7
    have p8 : World.cell? wD ⟨w.heap.size, 8, none⟩ = some (.slice none 0 0) := (show MB wD w.heap.size zM from HZD.out).cell 8
    have z8 : World.frozen? wD ⟨w.heap.size, 8, none⟩ = false := (show MB wD w.heap.size zM from HZD.out).free 8
    have hSY : (fun w' => RD 68 w' (w.heap.size + 1) A c l st ∧ MB w' w2.heap.size [.string m.topic, .string m.payload, .int .i64 m.level, .bool m.retain, .int .i64 m.prio, .int .i64 m.exps, .string m.frm, .int .i64 m.seq, .slice A1 m.props.length c1] ∧ Below w.heap.size w w') (World.setCells wD w.heap.size 0 [.string ⟨#[]⟩, .string ⟨#[]⟩, .int .i64 0, .bool false, .int .i64 0, .int .i64 0, .string ⟨#[]⟩, .int .i64 0, .slice none 0 0]) := ⟨RD.cells (by omega) _ 0 _ HDD.out, MB.cells (by omega) _ 0 _ HMD.out, below_cells (Nat.le_refl _) _ 0 _ HBD.out⟩
    refine wp_region_held_drew (S := fun w' => RD 68 w' (w.heap.size + 1) A c l st ∧ MB w' w2.heap.size [.string m.topic, .string m.payload, .int .i64 m.level, .bool m.retain, .int .i64 m.prio, .int .i64 m.exps, .string m.frm, .int .i64 m.seq, .slice A1 m.props.length c1] ∧ Below w.heap.size w w') (by kernel_rfl) hbd (fun hHeld => ?_)
    rw [← HWD.out]
    clear hHeld
    have hHeld := hSD
    refine wpAnyH_take (i := 0) (v := .agg #[.string ⟨#[]⟩, .string ⟨#[]⟩, .int .i64 0, .bool false, .int .i64 0, .int .i64 0, .string ⟨#[]⟩, .int .i64 0, .slice none 0 0]) (get_ops _ _ _ rfl) (by kernel_rfl) (by kernel_rfl) (by kernel_rfl) (fun _ _ _ h => h) (Or.inl ⟨by rfl, fun w hSw => by (try dsimp only at hSw); go_simp⟩) hHeld ?_
    try simp only [Act.put, List.setIfInBounds_toArray, List.set_cons_zero, List.set_cons_succ]
    refine wpAnyH_take (i := 1) (v := .pointer (some ⟨(w.heap.size + 1), 0, none⟩)) (get_ops _ _ _ rfl) (by kernel_rfl) (by kernel_rfl) (by kernel_rfl) (fun _ _ _ h => h) (Or.inl ⟨by rfl, fun w hSw => by (try dsimp only at hSw); go_simp⟩) hHeld ?_
    try simp only [Act.put, List.setIfInBounds_toArray, List.set_cons_zero, List.set_cons_succ]
    refine wpAnyH_take (i := 2) (v := .pointer (some ⟨(w.heap.size + 1), 0, none⟩)) (get_ops _ _ _ rfl) (by kernel_rfl) (by kernel_rfl) (by kernel_rfl) (fun _ _ _ h => h) (Or.inl ⟨by rfl, fun w hSw => by (try dsimp only at hSw); go_simp⟩) hHeld ?_
    try simp only [Act.put, List.setIfInBounds_toArray, List.set_cons_zero, List.set_cons_succ]
    refine wpAnyH_take (i := 3) (v := .pointer (some ⟨(w.heap.size + 1), 2, none⟩)) (get_ops _ _ _ rfl) (by kernel_rfl) (by kernel_rfl) (by kernel_rfl) (fun _ _ _ h => h) (Or.inl ⟨by rfl, fun w hSw => by (try dsimp only at hSw); go_simp⟩) hHeld ?_
    try simp only [Act.put, List.setIfInBounds_toArray, List.set_cons_zero, List.set_cons_succ]
    refine wpAnyH_take (i := 4) (v := .int .i64 st.2) (get_ops _ _ _ rfl) (by kernel_rfl) (by kernel_rfl) (by kernel_rfl) (fun _ _ _ h => h) (Or.inl ⟨by rfl, fun w hSw => by (try dsimp only at hSw); have kk := hSw.1.k2; clear hSw; go_simp⟩) hHeld ?_
    try simp only [Act.put, List.setIfInBounds_toArray, List.set_cons_zero, List.set_cons_succ]
    refine wpAnyH_ready (rs := [5]) (by kernel_rfl) (by simp) ?_
    refine AllReadyH.cons (get_ops _ _ _ rfl) (fun K hK => ?_) AllReadyH.nil
    go_simp
    refine hK.out _ _ hSY (fun hHeld => ?_)
    clear hK K p0 z0 p1 z1 p2 z2 p3 z3 p4 z4 p5 z5 p6 z6 p7 z7 p8 z8
    try simp only [Act.put, List.setIfInBounds_toArray, List.set_cons_zero, List.set_cons_succ]
    refine wpAnyH_take (i := 6) (v := .int .i64 0) (get_ops _ _ _ rfl) (by kernel_rfl) (by kernel_rfl) (by kernel_rfl) (fun _ _ _ h => h) (Or.inl ⟨by rfl, fun w hSw => by (try dsimp only at hSw); go_simp⟩) hHeld ?_
    try simp only [Act.put, List.setIfInBounds_toArray, List.set_cons_zero, List.set_cons_succ]
    refine wpAnyH_take (i := 7) (v := .int .i64 st.2) (get_ops _ _ _ rfl) (by kernel_rfl) (by kernel_rfl) (by kernel_rfl) (fun _ _ _ h => h) (Or.inl ⟨by rfl, fun w hSw => by (try dsimp only at hSw); go_simp⟩) hHeld ?_
    try simp only [Act.put, List.setIfInBounds_toArray, List.set_cons_zero, List.set_cons_succ]
    refine wpAnyH_done (by kernel_rfl) ?_ _
    obtain ⟨wY, hwY⟩ : ∃ wY, wY = World.setCells wD w.heap.size 0 [.string ⟨#[]⟩, .string ⟨#[]⟩, .int .i64 0, .bool false, .int .i64 0, .int .i64 0, .string ⟨#[]⟩, .int .i64 0, .slice none 0 0] := ⟨_, rfl⟩
    have hpY : MB wY w.heap.size [.string ⟨#[]⟩, .string ⟨#[]⟩, .int .i64 0, .bool false, .int .i64 0, .int .i64 0, .string ⟨#[]⟩, .int .i64 0, .slice none 0 0] := by rw [hwY]; exact (MB.set9 (show MB wD w.heap.size zM from HZD.out) _ _ _ _ _ _ _ _ _ rfl : MB (World.setCells wD w.heap.size 0 [.string ⟨#[]⟩, .string ⟨#[]⟩, .int .i64 0, .bool false, .int .i64 0, .int .i64 0, .string ⟨#[]⟩, .int .i64 0, .slice none 0 0]) w.heap.size _)
    have y0 : wY.cell? ⟨w.heap.size, 0, none⟩ = some (.string ⟨#[]⟩) := hpY.cell 0
    have y1 : wY.cell? ⟨w.heap.size, 1, none⟩ = some (.string ⟨#[]⟩) := hpY.cell 1
    have y2 : wY.cell? ⟨w.heap.size, 2, none⟩ = some (.int .i64 0) := hpY.cell 2
    have y3 : wY.cell? ⟨w.heap.size, 3, none⟩ = some (.bool false) := hpY.cell 3
    have y4 : wY.cell? ⟨w.heap.size, 4, none⟩ = some (.int .i64 0) := hpY.cell 4
    have y5 : wY.cell? ⟨w.heap.size, 5, none⟩ = some (.int .i64 0) := hpY.cell 5
    have y6 : wY.cell? ⟨w.heap.size, 6, none⟩ = some (.string ⟨#[]⟩) := hpY.cell 6
    have y7 : wY.cell? ⟨w.heap.size, 7, none⟩ = some (.int .i64 0) := hpY.cell 7
    have y8 : wY.cell? ⟨w.heap.size, 8, none⟩ = some (.slice none 0 0) := hpY.cell 8
    have hbY : Below w.heap.size w wY := by rw [hwY]; exact (below_cells (Nat.le_refl _) _ 0 _ HBD.out)
    have HWY := Lib.hid hwY
    have HBY := Lib.hid hbY
    clear hpY hbY hwY
    clear hHeld hbd hSY hSD
    go_wp2
    change bodyPost _ _ _ _ _ (World.setCells wD w.heap.size 0 [.string ⟨#[]⟩, .string ⟨#[]⟩, .int .i64 0, .bool false, .int .i64 0, .int .i64 0, .string ⟨#[]⟩, .int .i64 0, .slice none 0 0])
    rw [← HWY.out]
    refine bodyPost_ret (v := .tuple #[.agg #[.string ⟨#[]⟩, .string ⟨#[]⟩, .int .i64 0, .bool false, .int .i64 0, .int .i64 0, .string ⟨#[]⟩, .int .i64 0, .slice none 0 0], .int .i64 0, .int .i64 st.2]) (by simp [results, Tryd.results32, go_sem, y0, y1, y2, y3, y4, y5, y6, y7, y8]) rfl ⟨none, 0, rfl, GL.nil _ _ _, HBY.out⟩
  rw [if_neg he]
  have q0 : (st.2 == 0) = true := by simp at he; simp [he]
  by_cases hck : checkR m ≠ 0
  · rw [if_pos hck]
    have q1 : ((checkR m : Int) != 0) = true := by simp; omega
    clear he hck
    go_enter Tryd.func32, Tryd.ntmps32
    go_wp2_with fail
    change Calls Tryd.prog _ #[.pointer (some ⟨w.heap.size + 1, 0, none⟩)] ((w.alloc (.cells zM.toArray 36)).alloc (.cells #[.slice A l.length c, .int .i64 p, .int .i64 0] 68)) _
    rw [← HW1.out]
    refine HMM.out.mono ?_
    rintro e w2 ⟨A1, c1, rfl, hpl, hge, hd, hk⟩
    unfold msgV
    have HB2 := Lib.hid (HB1.out.trans (hk.1.mono (by omega)))
    have HM2 := Lib.hid (HM1.out.kr hk (by omega))
    have HD2 := Lib.hid hd
    have HPL := Lib.hid hpl
    have hR2 := hd.lt
    obtain ⟨w3, hw3⟩ : ∃ w3, w3 = w2.alloc (.cells #[.string m.topic, .string m.payload, .int .i64 m.level, .bool m.retain, .int .i64 m.prio, .int .i64 m.exps, .string m.frm, .int .i64 m.seq, .slice A1 m.props.length c1] 36) := ⟨_, rfl⟩
    have h23 : Below w2.heap.size w2 w3 := by rw [hw3]; exact (Below.refl _ _).alloc (Nat.le_refl _) _
    have hsz2 : w.heap.size + 2 ≤ w2.heap.size := by have := (Array.getElem?_eq_some_iff.1 HD2.out.1).1; omega
    have HB3 : Hid (Below w.heap.size w w3) := Lib.hid (stepB HB2.out h23)
    have HM3 : Hid (MB w3 w.heap.size zM) := Lib.hid ((h23.block _ (by omega)).trans HM2.out)
    have HD3 : Hid (RD 68 w3 (w.heap.size + 1) A c l st) := Lib.hid (HD2.out.to (h23.block _ hR2))
    have HP3 : Hid (PL w3 w3.heap.size A1 m.props) := Lib.hid (HPL.out.step h23)
    have HMB : Hid (MB w3 w2.heap.size [.string m.topic, .string m.payload, .int .i64 m.level, .bool m.retain, .int .i64 m.prio, .int .i64 m.exps, .string m.frm, .int .i64 m.seq, .slice A1 m.props.length c1]) := Lib.hid (by rw [hw3]; exact heap_alloc_new w2 _)
    have HPQ : Hid (0 < m.props.length → ∀ b o, A1 = some ⟨b, o, none⟩ → b ≠ w.heap.size) := Lib.hid (fun _ b o e => by have h1 := hge _ e; have h2 := HSZ.out; dsimp only at h1; omega)
    have HW3 := Lib.hid hw3
    have k2 : World.cell? (w2.alloc (.cells #[.string m.topic, .string m.payload, .int .i64 m.level, .bool m.retain, .int .i64 m.prio, .int .i64 m.exps, .string m.frm, .int .i64 m.seq, .slice A1 m.props.length c1] 36)) ⟨(w.heap.size + 1), 2, none⟩ = some (.int .i64 st.2) := by rw [← hw3]; exact HD3.out.k2
    have HPR : Hid (0 < m.props.length → ∀ b o, A1 = some ⟨b, o, none⟩ → w.heap.size + 2 ≤ b) := Lib.hid (fun _ b o e => by have h1 := hge _ e; have h2 := HSZ.out; dsimp only at h1; omega)
    clear hd hk hpl hge HM1 HB1 HMM HM2 HD2 HB2 h23 HPL HW1 hw3
    go_wp2_with fail
    rw [← HW3.out]
    refine (HCK.out A1 w3 HP3.out c1).mono ?_
    rintro e w4 ⟨rfl, hb⟩
    have hs3 : w2.heap.size < w3.heap.size := (Array.getElem?_eq_some_iff.1 HMB.out).1
    have HB4 : Hid (Below w.heap.size w w4) := Lib.hid (stepB HB3.out hb)
    have HM4 : Hid (MB w4 w.heap.size zM) := Lib.hid ((hb.block _ (by omega)).trans HM3.out)
    have HD4 : Hid (RD 68 w4 (w.heap.size + 1) A c l st) := Lib.hid (HD3.out.to (hb.block _ (by omega)))
    have HP4 : Hid (PL w4 w4.heap.size A1 m.props) := Lib.hid (HP3.out.step hb)
    have HMB4 : Hid (MB w4 w2.heap.size [.string m.topic, .string m.payload, .int .i64 m.level, .bool m.retain, .int .i64 m.prio, .int .i64 m.exps, .string m.frm, .int .i64 m.seq, .slice A1 m.props.length c1]) := Lib.hid ((hb.block _ hs3).trans HMB.out)
    clear hb k2 HB3 HM3 HD3 HP3 HMB HCK HW3
    have k2 := HD4.out.k2
    have f2 := HD4.out.free 2
    go_upto_region 6 with fail
    obtain ⟨w5, hw5⟩ : ∃ w5, w5 = w4.setCell ⟨(w.heap.size + 1), 2, none⟩ (.int .i64 (checkR m : Int)) := ⟨_, rfl⟩
    have HB5 : Hid (Below w.heap.size w w5) := Lib.hid (by rw [hw5]; exact Below.setCell (p := ⟨(w.heap.size + 1), 2, none⟩) HB4.out (by show w.heap.size ≤ (w.heap.size + 1); omega) _)
    have HM5 : Hid (MB w5 w.heap.size zM) := Lib.hid (by rw [hw5]; exact HM4.out.other (p := ⟨(w.heap.size + 1), 2, none⟩) (by show w.heap.size ≠ (w.heap.size + 1); omega) _)
    have HD5 : Hid (RD 68 w5 (w.heap.size + 1) A c l (st.1, (checkR m : Int))) := Lib.hid (by rw [hw5]; exact HD4.out.set2 (checkR m : Int))
    have HMB5 : Hid (MB w5 w2.heap.size [.string m.topic, .string m.payload, .int .i64 m.level, .bool m.retain, .int .i64 m.prio, .int .i64 m.exps, .string m.frm, .int .i64 m.seq, .slice A1 m.props.length c1]) := Lib.hid (by rw [hw5]; exact HMB4.out.other (p := ⟨(w.heap.size + 1), 2, none⟩) (by show w2.heap.size ≠ (w.heap.size + 1); omega) _)
    have HP5 : Hid (PL w5 w5.heap.size A1 m.props) := Lib.hid (by rw [hw5]; exact pl_set (p := ⟨(w.heap.size + 1), 2, none⟩) (fun hn b o e => by have := HPR.out hn b o e; show b ≠ (w.heap.size + 1); omega) _ HP4.out)
    have HW5 := Lib.hid hw5
    clear hw5 HB4 HM4 HD4 HMB4 HP4
    rw [← HW5.out]
    clear k2 f2
    obtain ⟨wD, hwD⟩ : ∃ wD, wD = World.drew w5 := ⟨_, rfl⟩
    have HDD : Hid (RD 68 wD (w.heap.size + 1) A c l (st.1, (checkR m : Int))) := Lib.hid (by rw [hwD]; exact HD5.out)
    have HMD : Hid (MB wD w2.heap.size [.string m.topic, .string m.payload, .int .i64 m.level, .bool m.retain, .int .i64 m.prio, .int .i64 m.exps, .string m.frm, .int .i64 m.seq, .slice A1 m.props.length c1]) := Lib.hid (by rw [hwD]; exact HMB5.out)
    have HZD : Hid (MB wD w.heap.size zM) := Lib.hid (by rw [hwD]; exact HM5.out)
    have HBD : Hid (Below w.heap.size w wD) := Lib.hid (by rw [hwD]; exact (HB5.out).drew)
    have HWD := Lib.hid hwD
    have hbd : (fun w' => RD 68 w' (w.heap.size + 1) A c l (st.1, (checkR m : Int)) ∧ MB w' w2.heap.size [.string m.topic, .string m.payload, .int .i64 m.level, .bool m.retain, .int .i64 m.prio, .int .i64 m.exps, .string m.frm, .int .i64 m.seq, .slice A1 m.props.length c1] ∧ Below w.heap.size w w') (World.drew w5) := by rw [← hwD]; exact ⟨HDD.out, HMD.out, HBD.out⟩
    have hSD : (fun w' => RD 68 w' (w.heap.size + 1) A c l (st.1, (checkR m : Int)) ∧ MB w' w2.heap.size [.string m.topic, .string m.payload, .int .i64 m.level, .bool m.retain, .int .i64 m.prio, .int .i64 m.exps, .string m.frm, .int .i64 m.seq, .slice A1 m.props.length c1] ∧ Below w.heap.size w w') wD := ⟨HDD.out, HMD.out, HBD.out⟩
    clear hwD
    have p0 : World.cell? wD ⟨w.heap.size, 0, none⟩ = some (.string ⟨#[]⟩) := (show MB wD w.heap.size zM from HZD.out).cell 0
    have z0 : World.frozen? wD ⟨w.heap.size, 0, none⟩ = false := (show MB wD w.heap.size zM from HZD.out).free 0
    have p1 : World.cell? wD ⟨w.heap.size, 1, none⟩ = some (.string ⟨#[]⟩) := (show MB wD w.heap.size zM from HZD.out).cell 1
    have z1 : World.frozen? wD ⟨w.heap.size, 1, none⟩ = false := (show MB wD w.heap.size zM from HZD.out).free 1
    have p2 : World.cell? wD ⟨w.heap.size, 2, none⟩ = some (.int .i64 0) := (show MB wD w.heap.size zM from HZD.out).cell 2
    have z2 : World.frozen? wD ⟨w.heap.size, 2, none⟩ = false := (show MB wD w.heap.size zM from HZD.out).free 2
    have p3 : World.cell? wD ⟨w.heap.size, 3, none⟩ = some (.bool false) := (show MB wD w.heap.size zM from HZD.out).cell 3
    have z3 : World.frozen? wD ⟨w.heap.size, 3, none⟩ = false := (show MB wD w.heap.size zM from HZD.out).free 3
    have p4 : World.cell? wD ⟨w.heap.size, 4, none⟩ = some (.int .i64 0) := (show MB wD w.heap.size zM from HZD.out).cell 4
    have z4 : World.frozen? wD ⟨w.heap.size, 4, none⟩ = false := (show MB wD w.heap.size zM from HZD.out).free 4
    have p5 : World.cell? wD ⟨w.heap.size, 5, none⟩ = some (.int .i64 0) := (show MB wD w.heap.size zM from HZD.out).cell 5
    have z5 : World.frozen? wD ⟨w.heap.size, 5, none⟩ = false := (show MB wD w.heap.size zM from HZD.out).free 5
    have p6 : World.cell? wD ⟨w.heap.size, 6, none⟩ = some (.string ⟨#[]⟩) := (show MB wD w.heap.size zM from HZD.out).cell 6
    have z6 : World.frozen? wD ⟨w.heap.size, 6, none⟩ = false := (show MB wD w.heap.size zM from HZD.out).free 6
    have p7 : World.cell? wD ⟨w.heap.size, 7, none⟩ = some (.int .i64 0) := (show MB wD w.heap.size zM from HZD.out).cell 7
    have z7 : World.frozen? wD ⟨w.heap.size, 7, none⟩ = false := (show MB wD w.heap.size zM from HZD.out).free 7
    have p8 : World.cell? wD ⟨w.heap.size, 8, none⟩ = some (.slice none 0 0) := (show MB wD w.heap.size zM from HZD.out).cell 8
    have z8 : World.frozen? wD ⟨w.heap.size, 8, none⟩ = false := (show MB wD w.heap.size zM from HZD.out).free 8
    have hSY : (fun w' => RD 68 w' (w.heap.size + 1) A c l (st.1, (checkR m : Int)) ∧ MB w' w2.heap.size [.string m.topic, .string m.payload, .int .i64 m.level, .bool m.retain, .int .i64 m.prio, .int .i64 m.exps, .string m.frm, .int .i64 m.seq, .slice A1 m.props.length c1] ∧ Below w.heap.size w w') (World.setCells wD w.heap.size 0 [.string ⟨#[]⟩, .string ⟨#[]⟩, .int .i64 0, .bool false, .int .i64 0, .int .i64 0, .string ⟨#[]⟩, .int .i64 0, .slice none 0 0]) := ⟨RD.cells (by omega) _ 0 _ HDD.out, MB.cells (by omega) _ 0 _ HMD.out, below_cells (Nat.le_refl _) _ 0 _ HBD.out⟩
    refine wp_region_held_drew (S := fun w' => RD 68 w' (w.heap.size + 1) A c l (st.1, (checkR m : Int)) ∧ MB w' w2.heap.size [.string m.topic, .string m.payload, .int .i64 m.level, .bool m.retain, .int .i64 m.prio, .int .i64 m.exps, .string m.frm, .int .i64 m.seq, .slice A1 m.props.length c1] ∧ Below w.heap.size w w') (by kernel_rfl) hbd (fun hHeld => ?_)
    rw [← HWD.out]
    clear hHeld
    have hHeld := hSD
    refine wpAnyH_take (i := 0) (v := .agg #[.string ⟨#[]⟩, .string ⟨#[]⟩, .int .i64 0, .bool false, .int .i64 0, .int .i64 0, .string ⟨#[]⟩, .int .i64 0, .slice none 0 0]) (get_ops _ _ _ rfl) (by kernel_rfl) (by kernel_rfl) (by kernel_rfl) (fun _ _ _ h => h) (Or.inl ⟨by rfl, fun w hSw => by (try dsimp only at hSw); go_simp⟩) hHeld ?_
    try simp only [Act.put, List.setIfInBounds_toArray, List.set_cons_zero, List.set_cons_succ]
    refine wpAnyH_take (i := 1) (v := .pointer (some ⟨(w.heap.size + 1), 0, none⟩)) (get_ops _ _ _ rfl) (by kernel_rfl) (by kernel_rfl) (by kernel_rfl) (fun _ _ _ h => h) (Or.inl ⟨by rfl, fun w hSw => by (try dsimp only at hSw); go_simp⟩) hHeld ?_
    try simp only [Act.put, List.setIfInBounds_toArray, List.set_cons_zero, List.set_cons_succ]
    refine wpAnyH_take (i := 2) (v := .pointer (some ⟨(w.heap.size + 1), 0, none⟩)) (get_ops _ _ _ rfl) (by kernel_rfl) (by kernel_rfl) (by kernel_rfl) (fun _ _ _ h => h) (Or.inl ⟨by rfl, fun w hSw => by (try dsimp only at hSw); go_simp⟩) hHeld ?_
    try simp only [Act.put, List.setIfInBounds_toArray, List.set_cons_zero, List.set_cons_succ]
    refine wpAnyH_take (i := 3) (v := .pointer (some ⟨(w.heap.size + 1), 2, none⟩)) (get_ops _ _ _ rfl) (by kernel_rfl) (by kernel_rfl) (by kernel_rfl) (fun _ _ _ h => h) (Or.inl ⟨by rfl, fun w hSw => by (try dsimp only at hSw); go_simp⟩) hHeld ?_
    try simp only [Act.put, List.setIfInBounds_toArray, List.set_cons_zero, List.set_cons_succ]
    refine wpAnyH_take (i := 4) (v := .int .i64 (checkR m : Int)) (get_ops _ _ _ rfl) (by kernel_rfl) (by kernel_rfl) (by kernel_rfl) (fun _ _ _ h => h) (Or.inl ⟨by rfl, fun w hSw => by (try dsimp only at hSw); have kk := hSw.1.k2; clear hSw; go_simp⟩) hHeld ?_
    try simp only [Act.put, List.setIfInBounds_toArray, List.set_cons_zero, List.set_cons_succ]
    refine wpAnyH_ready (rs := [5]) (by kernel_rfl) (by simp) ?_
    refine AllReadyH.cons (get_ops _ _ _ rfl) (fun K hK => ?_) AllReadyH.nil
    go_simp
    refine hK.out _ _ hSY (fun hHeld => ?_)
    clear hK K p0 z0 p1 z1 p2 z2 p3 z3 p4 z4 p5 z5 p6 z6 p7 z7 p8 z8
    try simp only [Act.put, List.setIfInBounds_toArray, List.set_cons_zero, List.set_cons_succ]
    refine wpAnyH_take (i := 6) (v := .int .i64 0) (get_ops _ _ _ rfl) (by kernel_rfl) (by kernel_rfl) (by kernel_rfl) (fun _ _ _ h => h) (Or.inl ⟨by rfl, fun w hSw => by (try dsimp only at hSw); go_simp⟩) hHeld ?_
    try simp only [Act.put, List.setIfInBounds_toArray, List.set_cons_zero, List.set_cons_succ]
    refine wpAnyH_take (i := 7) (v := .int .i64 (checkR m : Int)) (get_ops _ _ _ rfl) (by kernel_rfl) (by kernel_rfl) (by kernel_rfl) (fun _ _ _ h => h) (Or.inl ⟨by rfl, fun w hSw => by (try dsimp only at hSw); go_simp⟩) hHeld ?_
    try simp only [Act.put, List.setIfInBounds_toArray, List.set_cons_zero, List.set_cons_succ]
    refine wpAnyH_done (by kernel_rfl) ?_ _
    obtain ⟨wY, hwY⟩ : ∃ wY, wY = World.setCells wD w.heap.size 0 [.string ⟨#[]⟩, .string ⟨#[]⟩, .int .i64 0, .bool false, .int .i64 0, .int .i64 0, .string ⟨#[]⟩, .int .i64 0, .slice none 0 0] := ⟨_, rfl⟩
    have hpY : MB wY w.heap.size [.string ⟨#[]⟩, .string ⟨#[]⟩, .int .i64 0, .bool false, .int .i64 0, .int .i64 0, .string ⟨#[]⟩, .int .i64 0, .slice none 0 0] := by rw [hwY]; exact (MB.set9 (show MB wD w.heap.size zM from HZD.out) _ _ _ _ _ _ _ _ _ rfl : MB (World.setCells wD w.heap.size 0 [.string ⟨#[]⟩, .string ⟨#[]⟩, .int .i64 0, .bool false, .int .i64 0, .int .i64 0, .string ⟨#[]⟩, .int .i64 0, .slice none 0 0]) w.heap.size _)
    have y0 : wY.cell? ⟨w.heap.size, 0, none⟩ = some (.string ⟨#[]⟩) := hpY.cell 0
    have y1 : wY.cell? ⟨w.heap.size, 1, none⟩ = some (.string ⟨#[]⟩) := hpY.cell 1
    have y2 : wY.cell? ⟨w.heap.size, 2, none⟩ = some (.int .i64 0) := hpY.cell 2
    have y3 : wY.cell? ⟨w.heap.size, 3, none⟩ = some (.bool false) := hpY.cell 3
    have y4 : wY.cell? ⟨w.heap.size, 4, none⟩ = some (.int .i64 0) := hpY.cell 4
    have y5 : wY.cell? ⟨w.heap.size, 5, none⟩ = some (.int .i64 0) := hpY.cell 5
    have y6 : wY.cell? ⟨w.heap.size, 6, none⟩ = some (.string ⟨#[]⟩) := hpY.cell 6
    have y7 : wY.cell? ⟨w.heap.size, 7, none⟩ = some (.int .i64 0) := hpY.cell 7
    have y8 : wY.cell? ⟨w.heap.size, 8, none⟩ = some (.slice none 0 0) := hpY.cell 8
    have hbY : Below w.heap.size w wY := by rw [hwY]; exact (below_cells (Nat.le_refl _) _ 0 _ HBD.out)
    have HWY := Lib.hid hwY
    have HBY := Lib.hid hbY
    clear hpY hbY hwY
    clear hHeld hbd hSY hSD
    go_wp2
    change bodyPost _ _ _ _ _ (World.setCells wD w.heap.size 0 [.string ⟨#[]⟩, .string ⟨#[]⟩, .int .i64 0, .bool false, .int .i64 0, .int .i64 0, .string ⟨#[]⟩, .int .i64 0, .slice none 0 0])
    rw [← HWY.out]
    refine bodyPost_ret (v := .tuple #[.agg #[.string ⟨#[]⟩, .string ⟨#[]⟩, .int .i64 0, .bool false, .int .i64 0, .int .i64 0, .string ⟨#[]⟩, .int .i64 0, .slice none 0 0], .int .i64 0, .int .i64 (checkR m : Int)]) (by simp [results, Tryd.results32, go_sem, y0, y1, y2, y3, y4, y5, y6, y7, y8]) rfl ⟨none, 0, rfl, GL.nil _ _ _, HBY.out⟩
  rw [if_neg hck]
  have hc0 : checkR m = 0 := by omega
  rw [hc0] at HCK
  clear he hck hc0
  go_enter Tryd.func32, Tryd.ntmps32
  go_wp2_with fail
  change Calls Tryd.prog _ #[.pointer (some ⟨w.heap.size + 1, 0, none⟩)] ((w.alloc (.cells zM.toArray 36)).alloc (.cells #[.slice A l.length c, .int .i64 p, .int .i64 0] 68)) _
  rw [← HW1.out]
  refine HMM.out.mono ?_
  rintro e w2 ⟨A1, c1, rfl, hpl, hge, hd, hk⟩
  unfold msgV
  have HB2 := Lib.hid (HB1.out.trans (hk.1.mono (by omega)))
  have HM2 := Lib.hid (HM1.out.kr hk (by omega))
  have HD2 := Lib.hid hd
  have HPL := Lib.hid hpl
  have hR2 := hd.lt
  obtain ⟨w3, hw3⟩ : ∃ w3, w3 = w2.alloc (.cells #[.string m.topic, .string m.payload, .int .i64 m.level, .bool m.retain, .int .i64 m.prio, .int .i64 m.exps, .string m.frm, .int .i64 m.seq, .slice A1 m.props.length c1] 36) := ⟨_, rfl⟩
  have h23 : Below w2.heap.size w2 w3 := by rw [hw3]; exact (Below.refl _ _).alloc (Nat.le_refl _) _
  have hsz2 : w.heap.size + 2 ≤ w2.heap.size := by have := (Array.getElem?_eq_some_iff.1 HD2.out.1).1; omega
  have HB3 : Hid (Below w.heap.size w w3) := Lib.hid (stepB HB2.out h23)
  have HM3 : Hid (MB w3 w.heap.size zM) := Lib.hid ((h23.block _ (by omega)).trans HM2.out)
  have HD3 : Hid (RD 68 w3 (w.heap.size + 1) A c l st) := Lib.hid (HD2.out.to (h23.block _ hR2))
  have HP3 : Hid (PL w3 w3.heap.size A1 m.props) := Lib.hid (HPL.out.step h23)
  have HMB : Hid (MB w3 w2.heap.size [.string m.topic, .string m.payload, .int .i64 m.level, .bool m.retain, .int .i64 m.prio, .int .i64 m.exps, .string m.frm, .int .i64 m.seq, .slice A1 m.props.length c1]) := Lib.hid (by rw [hw3]; exact heap_alloc_new w2 _)
  have HPQ : Hid (0 < m.props.length → ∀ b o, A1 = some ⟨b, o, none⟩ → b ≠ w.heap.size) := Lib.hid (fun _ b o e => by have h1 := hge _ e; have h2 := HSZ.out; dsimp only at h1; omega)
  have HW3 := Lib.hid hw3
  have k2 : World.cell? (w2.alloc (.cells #[.string m.topic, .string m.payload, .int .i64 m.level, .bool m.retain, .int .i64 m.prio, .int .i64 m.exps, .string m.frm, .int .i64 m.seq, .slice A1 m.props.length c1] 36)) ⟨(w.heap.size + 1), 2, none⟩ = some (.int .i64 st.2) := by rw [← hw3]; exact HD3.out.k2
  have HPR : Hid (0 < m.props.length → ∀ b o, A1 = some ⟨b, o, none⟩ → w.heap.size + 2 ≤ b) := Lib.hid (fun _ b o e => by have h1 := hge _ e; have h2 := HSZ.out; dsimp only at h1; omega)
  clear hd hk hpl hge HM1 HB1 HMM HM2 HD2 HB2 h23 HPL HW1 hw3
  go_wp2_with fail
  rw [← HW3.out]
  refine (HCK.out A1 w3 HP3.out c1).mono ?_
  rintro e w4 ⟨rfl, hb⟩
  have hs3 : w2.heap.size < w3.heap.size := (Array.getElem?_eq_some_iff.1 HMB.out).1
  have HB4 : Hid (Below w.heap.size w w4) := Lib.hid (stepB HB3.out hb)
  have HM4 : Hid (MB w4 w.heap.size zM) := Lib.hid ((hb.block _ (by omega)).trans HM3.out)
  have HD4 : Hid (RD 68 w4 (w.heap.size + 1) A c l st) := Lib.hid (HD3.out.to (hb.block _ (by omega)))
  have HP4 : Hid (PL w4 w4.heap.size A1 m.props) := Lib.hid (HP3.out.step hb)
  have HMB4 : Hid (MB w4 w2.heap.size [.string m.topic, .string m.payload, .int .i64 m.level, .bool m.retain, .int .i64 m.prio, .int .i64 m.exps, .string m.frm, .int .i64 m.seq, .slice A1 m.props.length c1]) := Lib.hid ((hb.block _ hs3).trans HMB.out)
  clear hb k2 HB3 HM3 HD3 HP3 HMB HCK HW3
  have k2 := HD4.out.k2
  have f2 := HD4.out.free 2
  go_upto_region 7 with fail
  obtain ⟨w5, hw5⟩ : ∃ w5, w5 = w4.setCell ⟨(w.heap.size + 1), 2, none⟩ (.int .i64 0) := ⟨_, rfl⟩
  have HB5 : Hid (Below w.heap.size w w5) := Lib.hid (by rw [hw5]; exact Below.setCell (p := ⟨(w.heap.size + 1), 2, none⟩) HB4.out (by show w.heap.size ≤ (w.heap.size + 1); omega) _)
  have HM5 : Hid (MB w5 w.heap.size zM) := Lib.hid (by rw [hw5]; exact HM4.out.other (p := ⟨(w.heap.size + 1), 2, none⟩) (by show w.heap.size ≠ (w.heap.size + 1); omega) _)
  have HD5 : Hid (RD 68 w5 (w.heap.size + 1) A c l (st.1, 0)) := Lib.hid (by rw [hw5]; exact HD4.out.set2 0)
  have HMB5 : Hid (MB w5 w2.heap.size [.string m.topic, .string m.payload, .int .i64 m.level, .bool m.retain, .int .i64 m.prio, .int .i64 m.exps, .string m.frm, .int .i64 m.seq, .slice A1 m.props.length c1]) := Lib.hid (by rw [hw5]; exact HMB4.out.other (p := ⟨(w.heap.size + 1), 2, none⟩) (by show w2.heap.size ≠ (w.heap.size + 1); omega) _)
  have HP5 : Hid (PL w5 w5.heap.size A1 m.props) := Lib.hid (by rw [hw5]; exact pl_set (p := ⟨(w.heap.size + 1), 2, none⟩) (fun hn b o e => by have := HPR.out hn b o e; show b ≠ (w.heap.size + 1); omega) _ HP4.out)
  have HW5 := Lib.hid hw5
  clear hw5 HB4 HM4 HD4 HMB4 HP4
  rw [← HW5.out]
  clear k2 f2
  obtain ⟨wD, hwD⟩ : ∃ wD, wD = World.drew w5 := ⟨_, rfl⟩
  have HDD : Hid (RD 68 wD (w.heap.size + 1) A c l (st.1, 0)) := Lib.hid (by rw [hwD]; exact HD5.out)
  have HMD : Hid (MB wD w2.heap.size [.string m.topic, .string m.payload, .int .i64 m.level, .bool m.retain, .int .i64 m.prio, .int .i64 m.exps, .string m.frm, .int .i64 m.seq, .slice A1 m.props.length c1]) := Lib.hid (by rw [hwD]; exact HMB5.out)
  have HZD : Hid (MB wD w.heap.size zM) := Lib.hid (by rw [hwD]; exact HM5.out)
  have HBD : Hid (Below w.heap.size w wD) := Lib.hid (by rw [hwD]; exact (HB5.out).drew)
  have HPD : Hid (PL wD wD.heap.size A1 m.props) := Lib.hid (by rw [hwD]; exact HP5.out)
  have HWD := Lib.hid hwD
  have hbd : (fun w' => RD 68 w' (w.heap.size + 1) A c l (st.1, 0) ∧ MB w' w2.heap.size [.string m.topic, .string m.payload, .int .i64 m.level, .bool m.retain, .int .i64 m.prio, .int .i64 m.exps, .string m.frm, .int .i64 m.seq, .slice A1 m.props.length c1] ∧ Below w.heap.size w w') (World.drew w5) := by rw [← hwD]; exact ⟨HDD.out, HMD.out, HBD.out⟩
  have hSD : (fun w' => RD 68 w' (w.heap.size + 1) A c l (st.1, 0) ∧ MB w' w2.heap.size [.string m.topic, .string m.payload, .int .i64 m.level, .bool m.retain, .int .i64 m.prio, .int .i64 m.exps, .string m.frm, .int .i64 m.seq, .slice A1 m.props.length c1] ∧ Below w.heap.size w w') wD := ⟨HDD.out, HMD.out, HBD.out⟩
  clear hwD
  have p0 : World.cell? wD ⟨w.heap.size, 0, none⟩ = some (.string ⟨#[]⟩) := (show MB wD w.heap.size zM from HZD.out).cell 0
  have z0 : World.frozen? wD ⟨w.heap.size, 0, none⟩ = false := (show MB wD w.heap.size zM from HZD.out).free 0
  have p1 : World.cell? wD ⟨w.heap.size, 1, none⟩ = some (.string ⟨#[]⟩) := (show MB wD w.heap.size zM from HZD.out).cell 1
  have z1 : World.frozen? wD ⟨w.heap.size, 1, none⟩ = false := (show MB wD w.heap.size zM from HZD.out).free 1
  have p2 : World.cell? wD ⟨w.heap.size, 2, none⟩ = some (.int .i64 0) := (show MB wD w.heap.size zM from HZD.out).cell 2
  have z2 : World.frozen? wD ⟨w.heap.size, 2, none⟩ = false := (show MB wD w.heap.size zM from HZD.out).free 2
  have p3 : World.cell? wD ⟨w.heap.size, 3, none⟩ = some (.bool false) := (show MB wD w.heap.size zM from HZD.out).cell 3
  have z3 : World.frozen? wD ⟨w.heap.size, 3, none⟩ = false := (show MB wD w.heap.size zM from HZD.out).free 3
  have p4 : World.cell? wD ⟨w.heap.size, 4, none⟩ = some (.int .i64 0) := (show MB wD w.heap.size zM from HZD.out).cell 4
  have z4 : World.frozen? wD ⟨w.heap.size, 4, none⟩ = false := (show MB wD w.heap.size zM from HZD.out).free 4
  have p5 : World.cell? wD ⟨w.heap.size, 5, none⟩ = some (.int .i64 0) := (show MB wD w.heap.size zM from HZD.out).cell 5
  have z5 : World.frozen? wD ⟨w.heap.size, 5, none⟩ = false := (show MB wD w.heap.size zM from HZD.out).free 5
  have p6 : World.cell? wD ⟨w.heap.size, 6, none⟩ = some (.string ⟨#[]⟩) := (show MB wD w.heap.size zM from HZD.out).cell 6
  have z6 : World.frozen? wD ⟨w.heap.size, 6, none⟩ = false := (show MB wD w.heap.size zM from HZD.out).free 6
  have p7 : World.cell? wD ⟨w.heap.size, 7, none⟩ = some (.int .i64 0) := (show MB wD w.heap.size zM from HZD.out).cell 7
  have z7 : World.frozen? wD ⟨w.heap.size, 7, none⟩ = false := (show MB wD w.heap.size zM from HZD.out).free 7
  have p8 : World.cell? wD ⟨w.heap.size, 8, none⟩ = some (.slice none 0 0) := (show MB wD w.heap.size zM from HZD.out).cell 8
  have z8 : World.frozen? wD ⟨w.heap.size, 8, none⟩ = false := (show MB wD w.heap.size zM from HZD.out).free 8
  have hSY : (fun w' => RD 68 w' (w.heap.size + 1) A c l (st.1, 0) ∧ MB w' w2.heap.size [.string m.topic, .string m.payload, .int .i64 m.level, .bool m.retain, .int .i64 m.prio, .int .i64 m.exps, .string m.frm, .int .i64 m.seq, .slice A1 m.props.length c1] ∧ Below w.heap.size w w') (World.setCells wD w.heap.size 0 [.string m.topic, .string m.payload, .int .i64 m.level, .bool m.retain, .int .i64 m.prio, .int .i64 m.exps, .string m.frm, .int .i64 m.seq, .slice A1 m.props.length c1]) := ⟨RD.cells (by omega) _ 0 _ HDD.out, MB.cells (by omega) _ 0 _ HMD.out, below_cells (Nat.le_refl _) _ 0 _ HBD.out⟩
  refine wp_region_held_drew (S := fun w' => RD 68 w' (w.heap.size + 1) A c l (st.1, 0) ∧ MB w' w2.heap.size [.string m.topic, .string m.payload, .int .i64 m.level, .bool m.retain, .int .i64 m.prio, .int .i64 m.exps, .string m.frm, .int .i64 m.seq, .slice A1 m.props.length c1] ∧ Below w.heap.size w w') (by kernel_rfl) hbd (fun hHeld => ?_)
  rw [← HWD.out]
  clear hHeld
  have hHeld := hSD
  refine wpAnyH_take (i := 0) (v := .agg #[.string m.topic, .string m.payload, .int .i64 m.level, .bool m.retain, .int .i64 m.prio, .int .i64 m.exps, .string m.frm, .int .i64 m.seq, .slice A1 m.props.length c1]) (get_ops _ _ _ rfl) (by kernel_rfl) (by kernel_rfl) (by kernel_rfl) (fun _ _ _ h => h) (Or.inl ⟨by rfl, fun w hSw => by (try dsimp only at hSw); obtain ⟨c0, c1, c2, c3, c4, c5, c6, c7, c8⟩ := mb9 hSw.2.1; clear hSw; go_simp⟩) hHeld ?_
  try simp only [Act.put, List.setIfInBounds_toArray, List.set_cons_zero, List.set_cons_succ]
  refine wpAnyH_take (i := 1) (v := .pointer (some ⟨(w.heap.size + 1), 0, none⟩)) (get_ops _ _ _ rfl) (by kernel_rfl) (by kernel_rfl) (by kernel_rfl) (fun _ _ _ h => h) (Or.inl ⟨by rfl, fun w hSw => by (try dsimp only at hSw); go_simp⟩) hHeld ?_
  try simp only [Act.put, List.setIfInBounds_toArray, List.set_cons_zero, List.set_cons_succ]
  refine wpAnyH_take (i := 2) (v := .pointer (some ⟨(w.heap.size + 1), 0, none⟩)) (get_ops _ _ _ rfl) (by kernel_rfl) (by kernel_rfl) (by kernel_rfl) (fun _ _ _ h => h) (Or.inl ⟨by rfl, fun w hSw => by (try dsimp only at hSw); go_simp⟩) hHeld ?_
  try simp only [Act.put, List.setIfInBounds_toArray, List.set_cons_zero, List.set_cons_succ]
  refine wpAnyH_take (i := 3) (v := .pointer (some ⟨(w.heap.size + 1), 1, none⟩)) (get_ops _ _ _ rfl) (by kernel_rfl) (by kernel_rfl) (by kernel_rfl) (fun _ _ _ h => h) (Or.inl ⟨by rfl, fun w hSw => by (try dsimp only at hSw); go_simp⟩) hHeld ?_
  try simp only [Act.put, List.setIfInBounds_toArray, List.set_cons_zero, List.set_cons_succ]
  refine wpAnyH_take (i := 4) (v := .int .i64 st.1) (get_ops _ _ _ rfl) (by kernel_rfl) (by kernel_rfl) (by kernel_rfl) (fun _ _ _ h => h) (Or.inl ⟨by rfl, fun w hSw => by (try dsimp only at hSw); have kk := hSw.1.k1; clear hSw; go_simp⟩) hHeld ?_
  try simp only [Act.put, List.setIfInBounds_toArray, List.set_cons_zero, List.set_cons_succ]
  refine wpAnyH_ready (rs := [5]) (by kernel_rfl) (by simp) ?_
  refine AllReadyH.cons (get_ops _ _ _ rfl) (fun K hK => ?_) AllReadyH.nil
  go_simp
  refine hK.out _ _ hSY (fun hHeld => ?_)
  clear hK K p0 z0 p1 z1 p2 z2 p3 z3 p4 z4 p5 z5 p6 z6 p7 z7 p8 z8
  try simp only [Act.put, List.setIfInBounds_toArray, List.set_cons_zero, List.set_cons_succ]
  refine wpAnyH_take (i := 6) (v := .int .i64 st.1) (get_ops _ _ _ rfl) (by kernel_rfl) (by kernel_rfl) (by kernel_rfl) (fun _ _ _ h => h) (Or.inl ⟨by rfl, fun w hSw => by (try dsimp only at hSw); go_simp⟩) hHeld ?_
  try simp only [Act.put, List.setIfInBounds_toArray, List.set_cons_zero, List.set_cons_succ]
  refine wpAnyH_take (i := 7) (v := .int .i64 0) (get_ops _ _ _ rfl) (by kernel_rfl) (by kernel_rfl) (by kernel_rfl) (fun _ _ _ h => h) (Or.inl ⟨by rfl, fun w hSw => by (try dsimp only at hSw); go_simp⟩) hHeld ?_
  try simp only [Act.put, List.setIfInBounds_toArray, List.set_cons_zero, List.set_cons_succ]
  refine wpAnyH_done (by kernel_rfl) ?_ _
  obtain ⟨wY, hwY⟩ : ∃ wY, wY = World.setCells wD w.heap.size 0 [.string m.topic, .string m.payload, .int .i64 m.level, .bool m.retain, .int .i64 m.prio, .int .i64 m.exps, .string m.frm, .int .i64 m.seq, .slice A1 m.props.length c1] := ⟨_, rfl⟩
  have hpY : MB wY w.heap.size [.string m.topic, .string m.payload, .int .i64 m.level, .bool m.retain, .int .i64 m.prio, .int .i64 m.exps, .string m.frm, .int .i64 m.seq, .slice A1 m.props.length c1] := by rw [hwY]; exact (MB.set9 (show MB wD w.heap.size zM from HZD.out) _ _ _ _ _ _ _ _ _ rfl : MB (World.setCells wD w.heap.size 0 [.string m.topic, .string m.payload, .int .i64 m.level, .bool m.retain, .int .i64 m.prio, .int .i64 m.exps, .string m.frm, .int .i64 m.seq, .slice A1 m.props.length c1]) w.heap.size _)
  have y0 : wY.cell? ⟨w.heap.size, 0, none⟩ = some (.string m.topic) := hpY.cell 0
  have y1 : wY.cell? ⟨w.heap.size, 1, none⟩ = some (.string m.payload) := hpY.cell 1
  have y2 : wY.cell? ⟨w.heap.size, 2, none⟩ = some (.int .i64 m.level) := hpY.cell 2
  have y3 : wY.cell? ⟨w.heap.size, 3, none⟩ = some (.bool m.retain) := hpY.cell 3
  have y4 : wY.cell? ⟨w.heap.size, 4, none⟩ = some (.int .i64 m.prio) := hpY.cell 4
  have y5 : wY.cell? ⟨w.heap.size, 5, none⟩ = some (.int .i64 m.exps) := hpY.cell 5
  have y6 : wY.cell? ⟨w.heap.size, 6, none⟩ = some (.string m.frm) := hpY.cell 6
  have y7 : wY.cell? ⟨w.heap.size, 7, none⟩ = some (.int .i64 m.seq) := hpY.cell 7
  have y8 : wY.cell? ⟨w.heap.size, 8, none⟩ = some (.slice A1 m.props.length c1) := hpY.cell 8
  have hbY : Below w.heap.size w wY := by rw [hwY]; exact (below_cells (Nat.le_refl _) _ 0 _ HBD.out)
  have hplY : PL wY wY.heap.size A1 m.props := by rw [hwY]; exact (pl_cells _ 0 _ HPQ.out HPD.out : PL (World.setCells wD w.heap.size 0 [.string m.topic, .string m.payload, .int .i64 m.level, .bool m.retain, .int .i64 m.prio, .int .i64 m.exps, .string m.frm, .int .i64 m.seq, .slice A1 m.props.length c1]) (World.setCells wD w.heap.size 0 [.string m.topic, .string m.payload, .int .i64 m.level, .bool m.retain, .int .i64 m.prio, .int .i64 m.exps, .string m.frm, .int .i64 m.seq, .slice A1 m.props.length c1]).heap.size A1 m.props)
  have HWY := Lib.hid hwY
  have HBY := Lib.hid hbY
  have HPY := Lib.hid hplY
  clear hplY
  clear hpY hbY hwY
  clear hHeld hbd hSY hSD
  go_wp2
  change bodyPost _ _ _ _ _ (World.setCells wD w.heap.size 0 [.string m.topic, .string m.payload, .int .i64 m.level, .bool m.retain, .int .i64 m.prio, .int .i64 m.exps, .string m.frm, .int .i64 m.seq, .slice A1 m.props.length c1])
  rw [← HWY.out]
  refine bodyPost_ret (v := .tuple #[.agg #[.string m.topic, .string m.payload, .int .i64 m.level, .bool m.retain, .int .i64 m.prio, .int .i64 m.exps, .string m.frm, .int .i64 m.seq, .slice A1 m.props.length c1], .int .i64 st.1, .int .i64 0]) (by simp [results, Tryd.results32, go_sem, y0, y1, y2, y3, y4, y5, y6, y7, y8]) rfl ⟨A1, c1, rfl, HPY.out, HBY.out⟩

end Go.Proofs.YtlkkdompcbdbeaaDoor
namespace Go.Proofs.YtlkkdompcbdbeaaDoor
open Go.RowKit

theorem checkR_props {m : Msg} (h : checkR m = 0) : propsR m.props = 0 := by
  unfold checkR at h
  split at h
  · omega
  split at h
  · omega
  split at h
  · omega
  split at h
  · omega
  split at h
  · omega
  split at h
  · omega
  exact h
theorem takeR_props (l : List UInt8) (p : Int) : (takeR l p).1.props.length ≤ 8 := by
  unfold takeR
  split
  · exact Nat.zero_le _
  split
  · exact Nat.zero_le _
  · next h => exact (propsR_parts (checkR_props (m := (sMsg l (p, 0)).1) (by omega))).1
set_option maxRecDepth 50000 in
set_option maxHeartbeats 4000000 in
theorem messageTakes_walk (A : Option Addr) (c : Nat) (l : List UInt8) (p : Int) (w : World) (hw : S1.Okw w) (hsl : CL bv w w.heap.size A l) (hc : l.length ≤ c) (hp : Fit p) :
    Calls Tryd.prog 9 #[.slice A l.length c, .int .i64 p] w fun e w' => e = .returned (.bool true) ∧ Below w.heap.size w w' := by
  by_cases h : 2400 < l.length
  · have d1 : decide ((2400 : Int) < (l.length : Int)) = true := decide_eq_true (by omega)
    have HW := Lib.hid hw
    clear hsl hc hp hw h
    go_enter Tryd.func9, Tryd.ntmps9
    go_wp2_with fail
    refine (awake5_any w HW.out).mono ?_
    rintro e w1 ⟨rfl, hb⟩
    go_wp2_with fail
    go_ret
    exact ⟨rfl, hb⟩
  have d1 : decide ((2400 : Int) < (l.length : Int)) = false := decide_eq_false (by omega)
  have HW := Lib.hid hw
  have HT := Lib.hid (takeP_any A c l p hp w hw hsl hc (by omega))
  have HR := Lib.hid (fun w h => rTake_any A c l p hp w h hc (by omega))
  have HS := Lib.hid hsl
  clear hsl hc hp hw h
  rw [take_eq] at HT
  have HN : Hid ((takeR l p).1.props.length ≤ 9223372036854775806) := Lib.hid (Nat.le_trans (takeR_props l p) (by decide))
  generalize takeR l p = r at HT HR HN
  obtain ⟨m, nx, er⟩ := r
  go_enter Tryd.func9, Tryd.ntmps9
  go_wp2_with fail
  refine HT.out.mono ?_
  rintro e w1 ⟨A1, c1, rfl, hpl, hb⟩
  unfold msgV
  have HB1 := Lib.hid hb
  have HP1 := Lib.hid hpl
  clear hpl hb HT
  go_wp2_with fail
  obtain ⟨w2, hw2⟩ : ∃ w2, w2 = w1.alloc (.cells #[.string m.topic, .string m.payload, .int .i64 m.level, .bool m.retain, .int .i64 m.prio, .int .i64 m.exps, .string m.frm, .int .i64 m.seq, .slice A1 m.props.length c1] 36) := ⟨_, rfl⟩
  rw [← hw2]
  have hb2 : Below w1.heap.size w1 w2 := by rw [hw2]; exact (Below.refl _ _).alloc (Nat.le_refl _) _
  have HB2 := Lib.hid (stepB HB1.out hb2)
  have HP2 := Lib.hid (HP1.out.step hb2)
  have HM2 : Hid (MB w2 w1.heap.size [.string m.topic, .string m.payload, .int .i64 m.level, .bool m.retain, .int .i64 m.prio, .int .i64 m.exps, .string m.frm, .int .i64 m.seq, .slice A1 m.props.length c1]) := Lib.hid (by rw [hw2]; exact heap_alloc_new w1 _)
  clear hw2 hb2 HB1 HP1
  refine (HR.out w2 ((HS.out.below HB2.out).more HB2.out.size)).mono ?_
  rintro e w3 ⟨A2, c2, rfl, hpl, hb⟩
  unfold msgV
  have hb4 : Below w3.heap.size w3 (w3.alloc (.cells #[.string m.topic, .string m.payload, .int .i64 m.level, .bool m.retain, .int .i64 m.prio, .int .i64 m.exps, .string m.frm, .int .i64 m.seq, .slice A2 m.props.length c2] 36)) := (Below.refl _ _).alloc (Nat.le_refl _) _
  obtain ⟨d0, d1, d2, d3, d4, d5, d6, d7, d8⟩ := mb9 (MB.step (MB.step HM2.out hb) hb4)
  have HB4 := Lib.hid (stepB (stepB HB2.out hb) hb4)
  have HP4 := Lib.hid ((HP2.out.step hb).step hb4)
  have HQ4 := Lib.hid (hpl.step hb4)
  clear hpl hb hb4 HR HS HB2 HP2 HM2
  go_wp2_with fail
  clear d0 d1 d2 d3 d4 d5 d6 d7 d8
  refine (rSame_any m m A1 A2 c1 c2 _ HP4.out HQ4.out HN.out).mono ?_
  rintro e w5 ⟨rfl, hb⟩
  rw [show sameM m m = true by simp [sameM]]
  have HB5 := Lib.hid (stepB HB4.out hb)
  clear hb HB4 HP4 HQ4
  go_wp2_with fail
  refine (awake5_any w5 (HW.out.step HB5.out)).mono ?_
  rintro e w6 ⟨rfl, hb⟩
  have HB6 := Lib.hid (stepB HB5.out hb)
  go_wp2_with fail
  go_ret
  exact ⟨rfl, HB6.out⟩

end Go.Proofs.YtlkkdompcbdbeaaDoor
