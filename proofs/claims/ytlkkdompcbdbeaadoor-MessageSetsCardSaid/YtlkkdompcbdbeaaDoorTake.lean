/-
  Storing a whole message cell by cell, and what Take of message and of the specification hand back. Conditions: none.
  What Take of message answers: the message that the bytes hold, or the error. Conditions: the bytes read as data; the place fits an int; the library's bound on short texts holds a number.
-/
import Derived.Test.YtlkkdompcbdbeaaDoorTakeS
namespace Go.Proofs.YtlkkdompcbdbeaaDoor
open Go.RowKit

theorem MB.cells {M q : Nat} {us : List Value} (hq : M ≠ q) : ∀ (vs : List Value) (o : Nat) (w : World), MB w M us → MB (w.setCells q o vs) M us
  | [], _, _, h => h
  | v :: r, o, w, h => by rw [World.setCells]; exact MB.cells hq r (o + 1) _ (MB.other h (p := ⟨q, o, none⟩) hq v)
theorem below_cells {B q : Nat} {w0 : World} (hq : B ≤ q) : ∀ (vs : List Value) (o : Nat) (w : World), Below B w0 w → Below B w0 (w.setCells q o vs)
  | [], _, _, h => h
  | v :: r, o, w, h => by rw [World.setCells]; exact below_cells hq r (o + 1) _ (Below.setCell (p := ⟨q, o, none⟩) h hq v)
theorem pl_cells {q : Nat} {A : Option Addr} {xs : List PR} : ∀ (vs : List Value) (o : Nat) (w : World), (0 < xs.length → ∀ b o, A = some ⟨b, o, none⟩ → b ≠ q) → PL w w.heap.size A xs → PL (w.setCells q o vs) (w.setCells q o vs).heap.size A xs
  | [], _, _, _, h => h
  | v :: r, o, w, hq, h => by
    rw [World.setCells]
    refine pl_cells r (o + 1) _ hq (fun hn => ?_)
    obtain ⟨b, o', e, hb, hc⟩ := h hn
    refine ⟨b, o', e, by simp; omega, fun j x i v' hx hv => ?_⟩
    have hc' := hc j x i v' hx hv
    have hbq := hq hn b o' e
    unfold World.cell? at hc' ⊢
    rw [heap_setCell_other w ⟨q, o, none⟩ b v hbq]
    exact hc'
theorem pl_set {w : World} {A : Option Addr} {xs : List PR} {p : Addr} (hq : 0 < xs.length → ∀ b o, A = some ⟨b, o, none⟩ → b ≠ p.block) (u : Value) (h : PL w w.heap.size A xs) : PL (w.setCell p u) (w.setCell p u).heap.size A xs := fun hn => by
  obtain ⟨b, o', e, hb, hc⟩ := h hn
  refine ⟨b, o', e, by simp; omega, fun j x i v' hx hv => ?_⟩
  have hc' := hc j x i v' hx hv
  unfold World.cell? at hc' ⊢
  rw [heap_setCell_other w p b u (hq hn b o' e)]
  exact hc'
/-- a message, a place and an error are handed back -/
def RetT (r : Msg × Int × Int) (w : World) (e : Ending) (w' : World) : Prop := ∃ A' c', e = .returned (.tuple #[msgV r.1 A' c', .int .i64 r.2.1, .int .i64 r.2.2]) ∧ PL w' w'.heap.size A' r.1.props ∧ Below w.heap.size w w'
/-- the cells of a block for a message, whatever they hold -/
theorem mb9 {w : World} {M : Nat} {v0 v1 v2 v3 v4 v5 v6 v7 v8 : Value} (h : MB w M [v0, v1, v2, v3, v4, v5, v6, v7, v8]) :
    w.cell? ⟨M, 0, none⟩ = some v0 ∧ w.cell? ⟨M, 1, none⟩ = some v1 ∧ w.cell? ⟨M, 2, none⟩ = some v2 ∧ w.cell? ⟨M, 3, none⟩ = some v3 ∧ w.cell? ⟨M, 4, none⟩ = some v4 ∧ w.cell? ⟨M, 5, none⟩ = some v5 ∧ w.cell? ⟨M, 6, none⟩ = some v6 ∧ w.cell? ⟨M, 7, none⟩ = some v7 ∧ w.cell? ⟨M, 8, none⟩ = some v8 :=
  ⟨h.cell 0, h.cell 1, h.cell 2, h.cell 3, h.cell 4, h.cell 5, h.cell 6, h.cell 7, h.cell 8⟩
theorem MB.set9 {w : World} {q : Nat} {us : List Value} (h : MB w q us) (v0 v1 v2 v3 v4 v5 v6 v7 v8 : Value) (hl : us.length = 9) : MB (w.setCells q 0 [v0, v1, v2, v3, v4, v5, v6, v7, v8]) q [v0, v1, v2, v3, v4, v5, v6, v7, v8] := by
  match us, hl with
  | [u0, u1, u2, u3, u4, u5, u6, u7, u8], _ => exact MB.set (MB.set (MB.set (MB.set (MB.set (MB.set (MB.set (MB.set (MB.set h 0 v0) 1 v1) 2 v2) 3 v3) 4 v4) 5 v5) 6 v6) 7 v7) 8 v8

/-- the texts that reading yields are not longer than the bytes -/
theorem sText_size {l : List UInt8} (limit : Int) (st : Int × Int) : (sText l limit st).1.size ≤ l.length := by
  unfold sText
  split
  · exact Nat.zero_le _
  · split
    · exact Nat.zero_le _
    · unfold textR
      split
      · exact Nat.zero_le _
      · split
        · exact Nat.zero_le _
        · rw [size_bs, List.length_take, List.length_drop]
          omega
theorem sPropsF_size {l : List UInt8} : ∀ (n : Nat) (st : Int × Int) (acc : List PR), (∀ x ∈ acc, x.1.size ≤ l.length) → ∀ x ∈ (sPropsF l n st acc).1, x.1.size ≤ l.length := by
  intro n
  induction n with
  | zero => intro st acc h; exact h
  | succ n ih =>
    intro st acc h
    unfold sPropsF
    split
    · exact h
    · refine ih _ _ (fun x hx => ?_)
      rcases List.mem_append.1 hx with hx | hx
      · exact h x hx
      · simp at hx
        subst hx
        exact sText_size 16 st
theorem sMsg_sizes {l : List UInt8} {p : Int} (hn : l.length ≤ 140737488355328) : (sMsg l (p, 0)).1.topic.size ≤ 9223372036854775807 ∧ (sMsg l (p, 0)).1.frm.size ≤ 9223372036854775807 ∧ ∀ x ∈ (sMsg l (p, 0)).1.props, x.1.size ≤ 9223372036854775807 := by
  unfold sMsg
  dsimp only
  refine ⟨Nat.le_trans (sText_size _ _) (by omega), Nat.le_trans (sText_size _ _) (by omega), fun x hx => Nat.le_trans (sPropsF_size _ _ _ (fun _ h => by cases h) x hx) (by omega)⟩

end Go.Proofs.YtlkkdompcbdbeaaDoor
namespace Go.Proofs.YtlkkdompcbdbeaaDoor
open Go.RowKit

set_option maxRecDepth 50000 in
set_option maxHeartbeats 16000000 in
theorem takeP_any (A : Option Addr) (c : Nat) (l : List UInt8) (p : Int) (hp : Fit p) (w : World) (hw : S1.Okw w) (hsl : CL bv w w.heap.size A l) (hc : l.length ≤ c) (hn : l.length ≤ 140737488355328) :
    Calls Tryd.prog 31 #[.slice A l.length c, .int .i64 p] w (RetT (takeM l p) w) := by
  obtain ⟨w1, hw1⟩ : ∃ w1, w1 = (w.alloc (.cells zM.toArray 36)).alloc (.cells #[.slice A l.length c, .int .i64 p, .int .i64 0] 65) := ⟨_, rfl⟩
  have hb1 : Below w.heap.size w w1 := by rw [hw1]; exact ((Below.refl _ _).alloc (Nat.le_refl _) _).alloc (by simp) _
  have hd1 : RD 65 w1 (w.heap.size + 1) A c l (p, 0) := ⟨by
    rw [hw1]
    have := heap_alloc_new (w.alloc (.cells zM.toArray 36)) (.cells #[.slice A l.length c, .int .i64 p, .int .i64 0] 65)
    rw [show (w.alloc (.cells zM.toArray 36)).heap.size = w.heap.size + 1 by simp] at this
    exact this, hp⟩
  have hm1 : MB w1 w.heap.size zM := by
    unfold MB
    rw [hw1, heap_alloc_old _ _ (by simp)]
    exact heap_alloc_new w _
  have hs1 : CL bv w1 (w.heap.size + 1) A l := (hsl.below hb1).more (by omega)
  have HMM := Lib.hid (mMsg_any (w.heap.size + 1) A c l (p, 0) w1 hd1 hs1 hc hn)
  have HW1 := Lib.hid hw1
  have HB1 := Lib.hid hb1
  have HM1 := Lib.hid hm1
  have HSZ : Hid (w1.heap.size = w.heap.size + 2) := Lib.hid (by rw [hw1]; simp)
  unfold takeM
  generalize hq : mMsg l (p, 0) = r at HMM ⊢
  obtain ⟨m, st⟩ := r
  dsimp only at HMM ⊢
  have HCK : Hid (∀ A w, S1.Okw w → PL w w.heap.size A m.props → ∀ c, Calls Tryd.prog 22 #[msgV m A c] w fun e w' => e = .returned (.int .i64 (checkR m)) ∧ Below w.heap.size w w') := Lib.hid (fun A w hw h c => check_any m A c w hw h)
  have HWW := Lib.hid hw
  clear hq hb1 hd1 hm1 hs1 hsl hc hn hp hw1 hw
  by_cases he : st.2 ≠ 0
  · rw [if_pos he]
    have q0 : (st.2 != 0) = true := by simp [he]
    clear he HCK
    go_enter Tryd.func31, Tryd.ntmps31
    go_wp2_with fail
    change Calls Tryd.prog _ #[.pointer (some ⟨w.heap.size + 1, 0, none⟩)] ((w.alloc (.cells zM.toArray 36)).alloc (.cells #[.slice A l.length c, .int .i64 p, .int .i64 0] 65)) _
    rw [← HW1.out]
    refine HMM.out.mono ?_
    rintro e w2 ⟨A1, c1, rfl, hpl, hge, hd, hk⟩
    unfold msgV
    have HB2 := Lib.hid (HB1.out.trans (hk.1.mono (by omega)))
    have HM2 := Lib.hid (HM1.out.kr hk (by omega))
    have HD2 := Lib.hid hd
    have HPL := Lib.hid hpl
    have hR2 := hd.lt
    obtain ⟨w3, hw3⟩ : ∃ w3, w3 = w2.alloc (.cells #[.string m.topic, .string m.payload, .int .i64 m.level, .bool m.retain, .int .i64 m.prio, .int .i64 m.exps, .string m.frm, .int .i64 m.seq, .slice A1 m.props.length c1] 36) := ⟨_, rfl⟩
    have h23 : Below w2.heap.size w2 w3 := by rw [hw3]; exact (Below.refl _ _).alloc (Nat.le_refl _) _
    have hsz2 : w.heap.size + 2 ≤ w2.heap.size := by have := (Array.getElem?_eq_some_iff.1 HD2.out.1).1; omega
    have HB3 : Hid (Below w.heap.size w w3) := Lib.hid (stepB HB2.out h23)
    have HM3 : Hid (MB w3 w.heap.size zM) := Lib.hid ((h23.block _ (by omega)).trans HM2.out)
    have HD3 : Hid (RD 65 w3 (w.heap.size + 1) A c l st) := Lib.hid (HD2.out.to (h23.block _ hR2))
    have HP3 : Hid (PL w3 w3.heap.size A1 m.props) := Lib.hid (HPL.out.step h23)
    have HMB : Hid (MB w3 w2.heap.size [.string m.topic, .string m.payload, .int .i64 m.level, .bool m.retain, .int .i64 m.prio, .int .i64 m.exps, .string m.frm, .int .i64 m.seq, .slice A1 m.props.length c1]) := Lib.hid (by rw [hw3]; exact heap_alloc_new w2 _)
    have HPQ : Hid (0 < m.props.length → ∀ b o, A1 = some ⟨b, o, none⟩ → b ≠ w.heap.size) := Lib.hid (fun _ b o e => by have h1 := hge _ e; have h2 := HSZ.out; dsimp only at h1; omega)
    have HW3 := Lib.hid hw3
    have k2 : World.cell? (w2.alloc (.cells #[.string m.topic, .string m.payload, .int .i64 m.level, .bool m.retain, .int .i64 m.prio, .int .i64 m.exps, .string m.frm, .int .i64 m.seq, .slice A1 m.props.length c1] 36)) ⟨(w.heap.size + 1), 2, none⟩ = some (.int .i64 st.2) := by rw [← hw3]; exact HD3.out.k2
    have HPR : Hid (0 < m.props.length → ∀ b o, A1 = some ⟨b, o, none⟩ → w.heap.size + 2 ≤ b) := Lib.hid (fun _ b o e => by have h1 := hge _ e; have h2 := HSZ.out; dsimp only at h1; omega)
    clear hd hk hpl hge HM1 HB1 HMM HM2 HD2 HB2 h23 HPL HW1 hw3
    go_upto_region 4 with fail
    rw [← HW3.out]
    clear k2
    obtain ⟨wD, hwD⟩ : ∃ wD, wD = World.drew w3 := ⟨_, rfl⟩
    have HDD : Hid (RD 65 wD (w.heap.size + 1) A c l st) := Lib.hid (by rw [hwD]; exact HD3.out)
    have HMD : Hid (MB wD w2.heap.size [.string m.topic, .string m.payload, .int .i64 m.level, .bool m.retain, .int .i64 m.prio, .int .i64 m.exps, .string m.frm, .int .i64 m.seq, .slice A1 m.props.length c1]) := Lib.hid (by rw [hwD]; exact HMB.out)
    have HZD : Hid (MB wD w.heap.size zM) := Lib.hid (by rw [hwD]; exact HM3.out)
    have HBD : Hid (Below w.heap.size w wD) := Lib.hid (by rw [hwD]; exact (HB3.out).drew)
    have HWD := Lib.hid hwD
    have hbd : (fun w' => RD 65 w' (w.heap.size + 1) A c l st ∧ MB w' w2.heap.size [.string m.topic, .string m.payload, .int .i64 m.level, .bool m.retain, .int .i64 m.prio, .int .i64 m.exps, .string m.frm, .int .i64 m.seq, .slice A1 m.props.length c1] ∧ Below w.heap.size w w') (World.drew w3) := by rw [← hwD]; exact ⟨HDD.out, HMD.out, HBD.out⟩
    have hSD : (fun w' => RD 65 w' (w.heap.size + 1) A c l st ∧ MB w' w2.heap.size [.string m.topic, .string m.payload, .int .i64 m.level, .bool m.retain, .int .i64 m.prio, .int .i64 m.exps, .string m.frm, .int .i64 m.seq, .slice A1 m.props.length c1] ∧ Below w.heap.size w w') wD := ⟨HDD.out, HMD.out, HBD.out⟩
    clear hwD
    have p0 : World.cell? wD ⟨w.heap.size, 0, none⟩ = some (.string ⟨#[]⟩) := (show MB wD w.heap.size zM from HZD.out).cell 0
    have z0 : World.frozen? wD ⟨w.heap.size, 0, none⟩ = false := (show MB wD w.heap.size zM from HZD.out).free 0
    have p1 : World.cell? wD ⟨w.heap.size, 1, none⟩ = some (.string ⟨#[]⟩) := (show MB wD w.heap.size zM from HZD.out).cell 1
    have z1 : World.frozen? wD ⟨w.heap.size, 1, none⟩ = false := (show MB wD w.heap.size zM from HZD.out).free 1
    have p2 : World.cell? wD ⟨w.heap.size, 2, none⟩ = some (.int .i64 0) := (show MB wD w.heap.size zM from HZD.out).cell 2
    have z2 : World.frozen? wD ⟨w.heap.size, 2, none⟩ = false := (show MB wD w.heap.size zM from HZD.out).free 2
    have p3 : World.cell? wD ⟨w.heap.size, 3, none⟩ = some (.bool false) := (show MB wD w.heap.size zM from HZD.out).cell 3
    have z3 : World.frozen? wD ⟨w.heap.size, 3, none⟩ = false := (show MB wD w.heap.size zM from HZD.out).free 3
    have p4 : World.cell? wD ⟨w.heap.size, 4, none⟩ = some (.int .i64 0) := (show MB wD w.heap.size zM from HZD.out).cell 4
    have z4 : World.frozen? wD ⟨w.heap.size, 4, none⟩ = false := (show MB wD w.heap.size zM from HZD.out).free 4
    have p5 : World.cell? wD ⟨w.heap.size, 5, none⟩ = some (.int .i64 0) := (show MB wD w.heap.size zM from HZD.out).cell 5
    have z5 : World.frozen? wD ⟨w.heap.size, 5, none⟩ = false := (show MB wD w.heap.size zM from HZD.out).free 5
    have p6 : World.cell? wD ⟨w.heap.size, 6, none⟩ = some (.string ⟨#[]⟩) := (show MB wD w.heap.size zM from HZD.out).cell 6
    have z6 : World.frozen? wD ⟨w.heap.size, 6, none⟩ = false := (show MB wD w.heap.size zM from HZD.out).free 6
    have p7 : World.cell? wD ⟨w.heap.size, 7, none⟩ = some (.int .i64 0) := (show MB wD w.heap.size zM from HZD.out).cell 7
    have z7 : World.frozen? wD ⟨w.heap.size, 7, none⟩ = false := (show MB wD w.heap.size zM from HZD.out).free 7
    have p8 : World.cell? wD ⟨w.heap.size, 8, none⟩ = some (.slice none 0 0) := (show MB wD w.heap.size zM from HZD.out).cell 8
    have z8 : World.frozen? wD ⟨w.heap.size, 8, none⟩ = false := (show MB wD w.heap.size zM from HZD.out).free 8
    have hSY : (fun w' => RD 65 w' (w.heap.size + 1) A c l st ∧ MB w' w2.heap.size [.string m.topic, .string m.payload, .int .i64 m.level, .bool m.retain, .int .i64 m.prio, .int .i64 m.exps, .string m.frm, .int .i64 m.seq, .slice A1 m.props.length c1] ∧ Below w.heap.size w w') (World.setCells wD w.heap.size 0 [.string ⟨#[]⟩, .string ⟨#[]⟩, .int .i64 0, .bool false, .int .i64 0, .int .i64 0, .string ⟨#[]⟩, .int .i64 0, .slice none 0 0]) := ⟨RD.cells (by omega) _ 0 _ HDD.out, MB.cells (by omega) _ 0 _ HMD.out, below_cells (Nat.le_refl _) _ 0 _ HBD.out⟩
    refine wp_region_held_drew (S := fun w' => RD 65 w' (w.heap.size + 1) A c l st ∧ MB w' w2.heap.size [.string m.topic, .string m.payload, .int .i64 m.level, .bool m.retain, .int .i64 m.prio, .int .i64 m.exps, .string m.frm, .int .i64 m.seq, .slice A1 m.props.length c1] ∧ Below w.heap.size w w') (by kernel_rfl) hbd (fun hHeld => ?_)
    rw [← HWD.out]
    clear hHeld
    have hHeld := hSD
    refine wpAnyH_take (i := 0) (v := .agg #[.string ⟨#[]⟩, .string ⟨#[]⟩, .int .i64 0, .bool false, .int .i64 0, .int .i64 0, .string ⟨#[]⟩, .int .i64 0, .slice none 0 0]) (get_ops _ _ _ rfl) (by kernel_rfl) (by kernel_rfl) (by kernel_rfl) (fun _ _ _ h => h) (Or.inl ⟨by rfl, fun w hSw => by (try dsimp only at hSw); go_simp⟩) hHeld ?_
    try simp only [Act.put, List.setIfInBounds_toArray, List.set_cons_zero, List.set_cons_succ]
    refine wpAnyH_take (i := 1) (v := .pointer (some ⟨(w.heap.size + 1), 2, none⟩)) (get_ops _ _ _ rfl) (by kernel_rfl) (by kernel_rfl) (by kernel_rfl) (fun _ _ _ h => h) (Or.inl ⟨by rfl, fun w hSw => by (try dsimp only at hSw); go_simp⟩) hHeld ?_
    try simp only [Act.put, List.setIfInBounds_toArray, List.set_cons_zero, List.set_cons_succ]
    refine wpAnyH_take (i := 2) (v := .int .i64 st.2) (get_ops _ _ _ rfl) (by kernel_rfl) (by kernel_rfl) (by kernel_rfl) (fun _ _ _ h => h) (Or.inl ⟨by rfl, fun w hSw => by (try dsimp only at hSw); have kk := hSw.1.k2; clear hSw; go_simp⟩) hHeld ?_
    try simp only [Act.put, List.setIfInBounds_toArray, List.set_cons_zero, List.set_cons_succ]
    refine wpAnyH_ready (rs := [3]) (by kernel_rfl) (by simp) ?_
    refine AllReadyH.cons (get_ops _ _ _ rfl) (fun K hK => ?_) AllReadyH.nil
    go_simp
    refine hK.out _ _ hSY (fun hHeld => ?_)
    clear hK K p0 z0 p1 z1 p2 z2 p3 z3 p4 z4 p5 z5 p6 z6 p7 z7 p8 z8
    try simp only [Act.put, List.setIfInBounds_toArray, List.set_cons_zero, List.set_cons_succ]
    refine wpAnyH_take (i := 4) (v := .int .i64 0) (get_ops _ _ _ rfl) (by kernel_rfl) (by kernel_rfl) (by kernel_rfl) (fun _ _ _ h => h) (Or.inl ⟨by rfl, fun w hSw => by (try dsimp only at hSw); go_simp⟩) hHeld ?_
    try simp only [Act.put, List.setIfInBounds_toArray, List.set_cons_zero, List.set_cons_succ]
    refine wpAnyH_take (i := 5) (v := .int .i64 st.2) (get_ops _ _ _ rfl) (by kernel_rfl) (by kernel_rfl) (by kernel_rfl) (fun _ _ _ h => h) (Or.inl ⟨by rfl, fun w hSw => by (try dsimp only at hSw); go_simp⟩) hHeld ?_
    try simp only [Act.put, List.setIfInBounds_toArray, List.set_cons_zero, List.set_cons_succ]
    refine wpAnyH_done (by kernel_rfl) ?_ _
    obtain ⟨wY, hwY⟩ : ∃ wY, wY = World.setCells wD w.heap.size 0 [.string ⟨#[]⟩, .string ⟨#[]⟩, .int .i64 0, .bool false, .int .i64 0, .int .i64 0, .string ⟨#[]⟩, .int .i64 0, .slice none 0 0] := ⟨_, rfl⟩
    have hpY : MB wY w.heap.size [.string ⟨#[]⟩, .string ⟨#[]⟩, .int .i64 0, .bool false, .int .i64 0, .int .i64 0, .string ⟨#[]⟩, .int .i64 0, .slice none 0 0] := by rw [hwY]; exact (MB.set9 (show MB wD w.heap.size zM from HZD.out) _ _ _ _ _ _ _ _ _ rfl : MB (World.setCells wD w.heap.size 0 [.string ⟨#[]⟩, .string ⟨#[]⟩, .int .i64 0, .bool false, .int .i64 0, .int .i64 0, .string ⟨#[]⟩, .int .i64 0, .slice none 0 0]) w.heap.size _)
    have y0 : wY.cell? ⟨w.heap.size, 0, none⟩ = some (.string ⟨#[]⟩) := hpY.cell 0
    have y1 : wY.cell? ⟨w.heap.size, 1, none⟩ = some (.string ⟨#[]⟩) := hpY.cell 1
    have y2 : wY.cell? ⟨w.heap.size, 2, none⟩ = some (.int .i64 0) := hpY.cell 2
    have y3 : wY.cell? ⟨w.heap.size, 3, none⟩ = some (.bool false) := hpY.cell 3
    have y4 : wY.cell? ⟨w.heap.size, 4, none⟩ = some (.int .i64 0) := hpY.cell 4
    have y5 : wY.cell? ⟨w.heap.size, 5, none⟩ = some (.int .i64 0) := hpY.cell 5
    have y6 : wY.cell? ⟨w.heap.size, 6, none⟩ = some (.string ⟨#[]⟩) := hpY.cell 6
    have y7 : wY.cell? ⟨w.heap.size, 7, none⟩ = some (.int .i64 0) := hpY.cell 7
    have y8 : wY.cell? ⟨w.heap.size, 8, none⟩ = some (.slice none 0 0) := hpY.cell 8
    have hbY : Below w.heap.size w wY := by rw [hwY]; exact (below_cells (Nat.le_refl _) _ 0 _ HBD.out)
    have HWY := Lib.hid hwY
    have HBY := Lib.hid hbY
    clear hpY hbY hwY
    clear hHeld hbd hSY hSD
    go_wp2
    change bodyPost _ _ _ _ _ (World.setCells wD w.heap.size 0 [.string ⟨#[]⟩, .string ⟨#[]⟩, .int .i64 0, .bool false, .int .i64 0, .int .i64 0, .string ⟨#[]⟩, .int .i64 0, .slice none 0 0])
    rw [← HWY.out]
    refine bodyPost_ret (v := .tuple #[.agg #[.string ⟨#[]⟩, .string ⟨#[]⟩, .int .i64 0, .bool false, .int .i64 0, .int .i64 0, .string ⟨#[]⟩, .int .i64 0, .slice none 0 0], .int .i64 0, .int .i64 st.2]) (by simp [results, Tryd.results31, go_sem, y0, y1, y2, y3, y4, y5, y6, y7, y8]) rfl ⟨none, 0, rfl, GL.nil _ _ _, HBY.out⟩
  rw [if_neg he]
  have q0 : (st.2 != 0) = false := by simp at he; simp [he]
  by_cases hck : checkR m ≠ 0
  · rw [if_pos hck]
    have q1 : ((checkR m : Int) != 0) = true := by simp; omega
    clear he hck
    go_enter Tryd.func31, Tryd.ntmps31
    go_wp2_with fail
    change Calls Tryd.prog _ #[.pointer (some ⟨w.heap.size + 1, 0, none⟩)] ((w.alloc (.cells zM.toArray 36)).alloc (.cells #[.slice A l.length c, .int .i64 p, .int .i64 0] 65)) _
    rw [← HW1.out]
    refine HMM.out.mono ?_
    rintro e w2 ⟨A1, c1, rfl, hpl, hge, hd, hk⟩
    unfold msgV
    have HB2 := Lib.hid (HB1.out.trans (hk.1.mono (by omega)))
    have HM2 := Lib.hid (HM1.out.kr hk (by omega))
    have HD2 := Lib.hid hd
    have HPL := Lib.hid hpl
    have hR2 := hd.lt
    obtain ⟨w3, hw3⟩ : ∃ w3, w3 = w2.alloc (.cells #[.string m.topic, .string m.payload, .int .i64 m.level, .bool m.retain, .int .i64 m.prio, .int .i64 m.exps, .string m.frm, .int .i64 m.seq, .slice A1 m.props.length c1] 36) := ⟨_, rfl⟩
    have h23 : Below w2.heap.size w2 w3 := by rw [hw3]; exact (Below.refl _ _).alloc (Nat.le_refl _) _
    have hsz2 : w.heap.size + 2 ≤ w2.heap.size := by have := (Array.getElem?_eq_some_iff.1 HD2.out.1).1; omega
    have HB3 : Hid (Below w.heap.size w w3) := Lib.hid (stepB HB2.out h23)
    have HM3 : Hid (MB w3 w.heap.size zM) := Lib.hid ((h23.block _ (by omega)).trans HM2.out)
    have HD3 : Hid (RD 65 w3 (w.heap.size + 1) A c l st) := Lib.hid (HD2.out.to (h23.block _ hR2))
    have HP3 : Hid (PL w3 w3.heap.size A1 m.props) := Lib.hid (HPL.out.step h23)
    have HMB : Hid (MB w3 w2.heap.size [.string m.topic, .string m.payload, .int .i64 m.level, .bool m.retain, .int .i64 m.prio, .int .i64 m.exps, .string m.frm, .int .i64 m.seq, .slice A1 m.props.length c1]) := Lib.hid (by rw [hw3]; exact heap_alloc_new w2 _)
    have HPQ : Hid (0 < m.props.length → ∀ b o, A1 = some ⟨b, o, none⟩ → b ≠ w.heap.size) := Lib.hid (fun _ b o e => by have h1 := hge _ e; have h2 := HSZ.out; dsimp only at h1; omega)
    have HW3 := Lib.hid hw3
    have k2 : World.cell? (w2.alloc (.cells #[.string m.topic, .string m.payload, .int .i64 m.level, .bool m.retain, .int .i64 m.prio, .int .i64 m.exps, .string m.frm, .int .i64 m.seq, .slice A1 m.props.length c1] 36)) ⟨(w.heap.size + 1), 2, none⟩ = some (.int .i64 st.2) := by rw [← hw3]; exact HD3.out.k2
    have HPR : Hid (0 < m.props.length → ∀ b o, A1 = some ⟨b, o, none⟩ → w.heap.size + 2 ≤ b) := Lib.hid (fun _ b o e => by have h1 := hge _ e; have h2 := HSZ.out; dsimp only at h1; omega)
    clear hd hk hpl hge HM1 HB1 HMM HM2 HD2 HB2 h23 HPL HW1 hw3
    go_wp2_with fail
    rw [← HW3.out]
    refine (HCK.out A1 w3 (HWW.out.step HB3.out) HP3.out c1).mono ?_
    rintro e w4 ⟨rfl, hb⟩
    have hs3 : w2.heap.size < w3.heap.size := (Array.getElem?_eq_some_iff.1 HMB.out).1
    have HB4 : Hid (Below w.heap.size w w4) := Lib.hid (stepB HB3.out hb)
    have HM4 : Hid (MB w4 w.heap.size zM) := Lib.hid ((hb.block _ (by omega)).trans HM3.out)
    have HD4 : Hid (RD 65 w4 (w.heap.size + 1) A c l st) := Lib.hid (HD3.out.to (hb.block _ (by omega)))
    have HP4 : Hid (PL w4 w4.heap.size A1 m.props) := Lib.hid (HP3.out.step hb)
    have HMB4 : Hid (MB w4 w2.heap.size [.string m.topic, .string m.payload, .int .i64 m.level, .bool m.retain, .int .i64 m.prio, .int .i64 m.exps, .string m.frm, .int .i64 m.seq, .slice A1 m.props.length c1]) := Lib.hid ((hb.block _ hs3).trans HMB.out)
    clear hb k2 HB3 HM3 HD3 HP3 HMB HCK HW3
    have p0 : World.cell? w4 ⟨w.heap.size, 0, none⟩ = some (.string ⟨#[]⟩) := (show MB w4 w.heap.size zM from HM4.out).cell 0
    have z0 : World.frozen? w4 ⟨w.heap.size, 0, none⟩ = false := (show MB w4 w.heap.size zM from HM4.out).free 0
    have p1 : World.cell? w4 ⟨w.heap.size, 1, none⟩ = some (.string ⟨#[]⟩) := (show MB w4 w.heap.size zM from HM4.out).cell 1
    have z1 : World.frozen? w4 ⟨w.heap.size, 1, none⟩ = false := (show MB w4 w.heap.size zM from HM4.out).free 1
    have p2 : World.cell? w4 ⟨w.heap.size, 2, none⟩ = some (.int .i64 0) := (show MB w4 w.heap.size zM from HM4.out).cell 2
    have z2 : World.frozen? w4 ⟨w.heap.size, 2, none⟩ = false := (show MB w4 w.heap.size zM from HM4.out).free 2
    have p3 : World.cell? w4 ⟨w.heap.size, 3, none⟩ = some (.bool false) := (show MB w4 w.heap.size zM from HM4.out).cell 3
    have z3 : World.frozen? w4 ⟨w.heap.size, 3, none⟩ = false := (show MB w4 w.heap.size zM from HM4.out).free 3
    have p4 : World.cell? w4 ⟨w.heap.size, 4, none⟩ = some (.int .i64 0) := (show MB w4 w.heap.size zM from HM4.out).cell 4
    have z4 : World.frozen? w4 ⟨w.heap.size, 4, none⟩ = false := (show MB w4 w.heap.size zM from HM4.out).free 4
    have p5 : World.cell? w4 ⟨w.heap.size, 5, none⟩ = some (.int .i64 0) := (show MB w4 w.heap.size zM from HM4.out).cell 5
    have z5 : World.frozen? w4 ⟨w.heap.size, 5, none⟩ = false := (show MB w4 w.heap.size zM from HM4.out).free 5
    have p6 : World.cell? w4 ⟨w.heap.size, 6, none⟩ = some (.string ⟨#[]⟩) := (show MB w4 w.heap.size zM from HM4.out).cell 6
    have z6 : World.frozen? w4 ⟨w.heap.size, 6, none⟩ = false := (show MB w4 w.heap.size zM from HM4.out).free 6
    have p7 : World.cell? w4 ⟨w.heap.size, 7, none⟩ = some (.int .i64 0) := (show MB w4 w.heap.size zM from HM4.out).cell 7
    have z7 : World.frozen? w4 ⟨w.heap.size, 7, none⟩ = false := (show MB w4 w.heap.size zM from HM4.out).free 7
    have p8 : World.cell? w4 ⟨w.heap.size, 8, none⟩ = some (.slice none 0 0) := (show MB w4 w.heap.size zM from HM4.out).cell 8
    have z8 : World.frozen? w4 ⟨w.heap.size, 8, none⟩ = false := (show MB w4 w.heap.size zM from HM4.out).free 8
    obtain ⟨wY, hwY⟩ : ∃ wY, wY = World.setCells w4 w.heap.size 0 [.string ⟨#[]⟩, .string ⟨#[]⟩, .int .i64 0, .bool false, .int .i64 0, .int .i64 0, .string ⟨#[]⟩, .int .i64 0, .slice none 0 0] := ⟨_, rfl⟩
    have hpY : MB wY w.heap.size [.string ⟨#[]⟩, .string ⟨#[]⟩, .int .i64 0, .bool false, .int .i64 0, .int .i64 0, .string ⟨#[]⟩, .int .i64 0, .slice none 0 0] := by rw [hwY]; exact (MB.set9 (show MB w4 w.heap.size zM from HM4.out) _ _ _ _ _ _ _ _ _ rfl : MB (World.setCells w4 w.heap.size 0 [.string ⟨#[]⟩, .string ⟨#[]⟩, .int .i64 0, .bool false, .int .i64 0, .int .i64 0, .string ⟨#[]⟩, .int .i64 0, .slice none 0 0]) w.heap.size _)
    have y0 : wY.cell? ⟨w.heap.size, 0, none⟩ = some (.string ⟨#[]⟩) := hpY.cell 0
    have y1 : wY.cell? ⟨w.heap.size, 1, none⟩ = some (.string ⟨#[]⟩) := hpY.cell 1
    have y2 : wY.cell? ⟨w.heap.size, 2, none⟩ = some (.int .i64 0) := hpY.cell 2
    have y3 : wY.cell? ⟨w.heap.size, 3, none⟩ = some (.bool false) := hpY.cell 3
    have y4 : wY.cell? ⟨w.heap.size, 4, none⟩ = some (.int .i64 0) := hpY.cell 4
    have y5 : wY.cell? ⟨w.heap.size, 5, none⟩ = some (.int .i64 0) := hpY.cell 5
    have y6 : wY.cell? ⟨w.heap.size, 6, none⟩ = some (.string ⟨#[]⟩) := hpY.cell 6
    have y7 : wY.cell? ⟨w.heap.size, 7, none⟩ = some (.int .i64 0) := hpY.cell 7
    have y8 : wY.cell? ⟨w.heap.size, 8, none⟩ = some (.slice none 0 0) := hpY.cell 8
    have hbY : Below w.heap.size w wY := by rw [hwY]; exact (below_cells (Nat.le_refl _) _ 0 _ HB4.out)
    have HWY := Lib.hid hwY
    have HBY := Lib.hid hbY
    clear hpY hbY hwY
    go_wp2
    change bodyPost _ _ _ _ _ (World.setCells w4 w.heap.size 0 [.string ⟨#[]⟩, .string ⟨#[]⟩, .int .i64 0, .bool false, .int .i64 0, .int .i64 0, .string ⟨#[]⟩, .int .i64 0, .slice none 0 0])
    rw [← HWY.out]
    refine bodyPost_ret (v := .tuple #[.agg #[.string ⟨#[]⟩, .string ⟨#[]⟩, .int .i64 0, .bool false, .int .i64 0, .int .i64 0, .string ⟨#[]⟩, .int .i64 0, .slice none 0 0], .int .i64 0, .int .i64 (checkR m : Int)]) (by simp [results, Tryd.results31, go_sem, y0, y1, y2, y3, y4, y5, y6, y7, y8]) rfl ⟨none, 0, rfl, GL.nil _ _ _, HBY.out⟩
  rw [if_neg hck]
  have hc0 : checkR m = 0 := by omega
  rw [hc0] at HCK
  clear he hck hc0
  go_enter Tryd.func31, Tryd.ntmps31
  go_wp2_with fail
  change Calls Tryd.prog _ #[.pointer (some ⟨w.heap.size + 1, 0, none⟩)] ((w.alloc (.cells zM.toArray 36)).alloc (.cells #[.slice A l.length c, .int .i64 p, .int .i64 0] 65)) _
  rw [← HW1.out]
  refine HMM.out.mono ?_
  rintro e w2 ⟨A1, c1, rfl, hpl, hge, hd, hk⟩
  unfold msgV
  have HB2 := Lib.hid (HB1.out.trans (hk.1.mono (by omega)))
  have HM2 := Lib.hid (HM1.out.kr hk (by omega))
  have HD2 := Lib.hid hd
  have HPL := Lib.hid hpl
  have hR2 := hd.lt
  obtain ⟨w3, hw3⟩ : ∃ w3, w3 = w2.alloc (.cells #[.string m.topic, .string m.payload, .int .i64 m.level, .bool m.retain, .int .i64 m.prio, .int .i64 m.exps, .string m.frm, .int .i64 m.seq, .slice A1 m.props.length c1] 36) := ⟨_, rfl⟩
  have h23 : Below w2.heap.size w2 w3 := by rw [hw3]; exact (Below.refl _ _).alloc (Nat.le_refl _) _
  have hsz2 : w.heap.size + 2 ≤ w2.heap.size := by have := (Array.getElem?_eq_some_iff.1 HD2.out.1).1; omega
  have HB3 : Hid (Below w.heap.size w w3) := Lib.hid (stepB HB2.out h23)
  have HM3 : Hid (MB w3 w.heap.size zM) := Lib.hid ((h23.block _ (by omega)).trans HM2.out)
  have HD3 : Hid (RD 65 w3 (w.heap.size + 1) A c l st) := Lib.hid (HD2.out.to (h23.block _ hR2))
  have HP3 : Hid (PL w3 w3.heap.size A1 m.props) := Lib.hid (HPL.out.step h23)
  have HMB : Hid (MB w3 w2.heap.size [.string m.topic, .string m.payload, .int .i64 m.level, .bool m.retain, .int .i64 m.prio, .int .i64 m.exps, .string m.frm, .int .i64 m.seq, .slice A1 m.props.length c1]) := Lib.hid (by rw [hw3]; exact heap_alloc_new w2 _)
  have HPQ : Hid (0 < m.props.length → ∀ b o, A1 = some ⟨b, o, none⟩ → b ≠ w.heap.size) := Lib.hid (fun _ b o e => by have h1 := hge _ e; have h2 := HSZ.out; dsimp only at h1; omega)
  have HW3 := Lib.hid hw3
  have k2 : World.cell? (w2.alloc (.cells #[.string m.topic, .string m.payload, .int .i64 m.level, .bool m.retain, .int .i64 m.prio, .int .i64 m.exps, .string m.frm, .int .i64 m.seq, .slice A1 m.props.length c1] 36)) ⟨(w.heap.size + 1), 2, none⟩ = some (.int .i64 st.2) := by rw [← hw3]; exact HD3.out.k2
  have HPR : Hid (0 < m.props.length → ∀ b o, A1 = some ⟨b, o, none⟩ → w.heap.size + 2 ≤ b) := Lib.hid (fun _ b o e => by have h1 := hge _ e; have h2 := HSZ.out; dsimp only at h1; omega)
  clear hd hk hpl hge HM1 HB1 HMM HM2 HD2 HB2 h23 HPL HW1 hw3
  go_wp2_with fail
  rw [← HW3.out]
  refine (HCK.out A1 w3 (HWW.out.step HB3.out) HP3.out c1).mono ?_
  rintro e w4 ⟨rfl, hb⟩
  have hs3 : w2.heap.size < w3.heap.size := (Array.getElem?_eq_some_iff.1 HMB.out).1
  have HB4 : Hid (Below w.heap.size w w4) := Lib.hid (stepB HB3.out hb)
  have HM4 : Hid (MB w4 w.heap.size zM) := Lib.hid ((hb.block _ (by omega)).trans HM3.out)
  have HD4 : Hid (RD 65 w4 (w.heap.size + 1) A c l st) := Lib.hid (HD3.out.to (hb.block _ (by omega)))
  have HP4 : Hid (PL w4 w4.heap.size A1 m.props) := Lib.hid (HP3.out.step hb)
  have HMB4 : Hid (MB w4 w2.heap.size [.string m.topic, .string m.payload, .int .i64 m.level, .bool m.retain, .int .i64 m.prio, .int .i64 m.exps, .string m.frm, .int .i64 m.seq, .slice A1 m.props.length c1]) := Lib.hid ((hb.block _ hs3).trans HMB.out)
  clear hb k2 HB3 HM3 HD3 HP3 HMB HCK HW3
  go_upto_region 8 with fail
  obtain ⟨wD, hwD⟩ : ∃ wD, wD = World.drew w4 := ⟨_, rfl⟩
  have HDD : Hid (RD 65 wD (w.heap.size + 1) A c l st) := Lib.hid (by rw [hwD]; exact HD4.out)
  have HMD : Hid (MB wD w2.heap.size [.string m.topic, .string m.payload, .int .i64 m.level, .bool m.retain, .int .i64 m.prio, .int .i64 m.exps, .string m.frm, .int .i64 m.seq, .slice A1 m.props.length c1]) := Lib.hid (by rw [hwD]; exact HMB4.out)
  have HZD : Hid (MB wD w.heap.size zM) := Lib.hid (by rw [hwD]; exact HM4.out)
  have HBD : Hid (Below w.heap.size w wD) := Lib.hid (by rw [hwD]; exact (HB4.out).drew)
  have HPD : Hid (PL wD wD.heap.size A1 m.props) := Lib.hid (by rw [hwD]; exact HP4.out)
  have HWD := Lib.hid hwD
  have hbd : (fun w' => RD 65 w' (w.heap.size + 1) A c l st ∧ MB w' w2.heap.size [.string m.topic, .string m.payload, .int .i64 m.level, .bool m.retain, .int .i64 m.prio, .int .i64 m.exps, .string m.frm, .int .i64 m.seq, .slice A1 m.props.length c1] ∧ Below w.heap.size w w') (World.drew w4) := by rw [← hwD]; exact ⟨HDD.out, HMD.out, HBD.out⟩
  have hSD : (fun w' => RD 65 w' (w.heap.size + 1) A c l st ∧ MB w' w2.heap.size [.string m.topic, .string m.payload, .int .i64 m.level, .bool m.retain, .int .i64 m.prio, .int .i64 m.exps, .string m.frm, .int .i64 m.seq, .slice A1 m.props.length c1] ∧ Below w.heap.size w w') wD := ⟨HDD.out, HMD.out, HBD.out⟩
  clear hwD
  have p0 : World.cell? wD ⟨w.heap.size, 0, none⟩ = some (.string ⟨#[]⟩) := (show MB wD w.heap.size zM from HZD.out).cell 0
  have z0 : World.frozen? wD ⟨w.heap.size, 0, none⟩ = false := (show MB wD w.heap.size zM from HZD.out).free 0
  have p1 : World.cell? wD ⟨w.heap.size, 1, none⟩ = some (.string ⟨#[]⟩) := (show MB wD w.heap.size zM from HZD.out).cell 1
  have z1 : World.frozen? wD ⟨w.heap.size, 1, none⟩ = false := (show MB wD w.heap.size zM from HZD.out).free 1
  have p2 : World.cell? wD ⟨w.heap.size, 2, none⟩ = some (.int .i64 0) := (show MB wD w.heap.size zM from HZD.out).cell 2
  have z2 : World.frozen? wD ⟨w.heap.size, 2, none⟩ = false := (show MB wD w.heap.size zM from HZD.out).free 2
  have p3 : World.cell? wD ⟨w.heap.size, 3, none⟩ = some (.bool false) := (show MB wD w.heap.size zM from HZD.out).cell 3
  have z3 : World.frozen? wD ⟨w.heap.size, 3, none⟩ = false := (show MB wD w.heap.size zM from HZD.out).free 3
  have p4 : World.cell? wD ⟨w.heap.size, 4, none⟩ = some (.int .i64 0) := (show MB wD w.heap.size zM from HZD.out).cell 4
  have z4 : World.frozen? wD ⟨w.heap.size, 4, none⟩ = false := (show MB wD w.heap.size zM from HZD.out).free 4
  have p5 : World.cell? wD ⟨w.heap.size, 5, none⟩ = some (.int .i64 0) := (show MB wD w.heap.size zM from HZD.out).cell 5
  have z5 : World.frozen? wD ⟨w.heap.size, 5, none⟩ = false := (show MB wD w.heap.size zM from HZD.out).free 5
  have p6 : World.cell? wD ⟨w.heap.size, 6, none⟩ = some (.string ⟨#[]⟩) := (show MB wD w.heap.size zM from HZD.out).cell 6
  have z6 : World.frozen? wD ⟨w.heap.size, 6, none⟩ = false := (show MB wD w.heap.size zM from HZD.out).free 6
  have p7 : World.cell? wD ⟨w.heap.size, 7, none⟩ = some (.int .i64 0) := (show MB wD w.heap.size zM from HZD.out).cell 7
  have z7 : World.frozen? wD ⟨w.heap.size, 7, none⟩ = false := (show MB wD w.heap.size zM from HZD.out).free 7
  have p8 : World.cell? wD ⟨w.heap.size, 8, none⟩ = some (.slice none 0 0) := (show MB wD w.heap.size zM from HZD.out).cell 8
  have z8 : World.frozen? wD ⟨w.heap.size, 8, none⟩ = false := (show MB wD w.heap.size zM from HZD.out).free 8
  have hSY : (fun w' => RD 65 w' (w.heap.size + 1) A c l st ∧ MB w' w2.heap.size [.string m.topic, .string m.payload, .int .i64 m.level, .bool m.retain, .int .i64 m.prio, .int .i64 m.exps, .string m.frm, .int .i64 m.seq, .slice A1 m.props.length c1] ∧ Below w.heap.size w w') (World.setCells wD w.heap.size 0 [.string m.topic, .string m.payload, .int .i64 m.level, .bool m.retain, .int .i64 m.prio, .int .i64 m.exps, .string m.frm, .int .i64 m.seq, .slice A1 m.props.length c1]) := ⟨RD.cells (by omega) _ 0 _ HDD.out, MB.cells (by omega) _ 0 _ HMD.out, below_cells (Nat.le_refl _) _ 0 _ HBD.out⟩
  refine wp_region_held_drew (S := fun w' => RD 65 w' (w.heap.size + 1) A c l st ∧ MB w' w2.heap.size [.string m.topic, .string m.payload, .int .i64 m.level, .bool m.retain, .int .i64 m.prio, .int .i64 m.exps, .string m.frm, .int .i64 m.seq, .slice A1 m.props.length c1] ∧ Below w.heap.size w w') (by kernel_rfl) hbd (fun hHeld => ?_)
  rw [← HWD.out]
  clear hHeld
  have hHeld := hSD
  refine wpAnyH_take (i := 0) (v := .agg #[.string m.topic, .string m.payload, .int .i64 m.level, .bool m.retain, .int .i64 m.prio, .int .i64 m.exps, .string m.frm, .int .i64 m.seq, .slice A1 m.props.length c1]) (get_ops _ _ _ rfl) (by kernel_rfl) (by kernel_rfl) (by kernel_rfl) (fun _ _ _ h => h) (Or.inl ⟨by rfl, fun w hSw => by (try dsimp only at hSw); obtain ⟨c0, c1, c2, c3, c4, c5, c6, c7, c8⟩ := mb9 hSw.2.1; clear hSw; go_simp⟩) hHeld ?_
  try simp only [Act.put, List.setIfInBounds_toArray, List.set_cons_zero, List.set_cons_succ]
  refine wpAnyH_take (i := 1) (v := .pointer (some ⟨(w.heap.size + 1), 1, none⟩)) (get_ops _ _ _ rfl) (by kernel_rfl) (by kernel_rfl) (by kernel_rfl) (fun _ _ _ h => h) (Or.inl ⟨by rfl, fun w hSw => by (try dsimp only at hSw); go_simp⟩) hHeld ?_
  try simp only [Act.put, List.setIfInBounds_toArray, List.set_cons_zero, List.set_cons_succ]
  refine wpAnyH_take (i := 2) (v := .int .i64 st.1) (get_ops _ _ _ rfl) (by kernel_rfl) (by kernel_rfl) (by kernel_rfl) (fun _ _ _ h => h) (Or.inl ⟨by rfl, fun w hSw => by (try dsimp only at hSw); have kk := hSw.1.k1; clear hSw; go_simp⟩) hHeld ?_
  try simp only [Act.put, List.setIfInBounds_toArray, List.set_cons_zero, List.set_cons_succ]
  refine wpAnyH_ready (rs := [3]) (by kernel_rfl) (by simp) ?_
  refine AllReadyH.cons (get_ops _ _ _ rfl) (fun K hK => ?_) AllReadyH.nil
  go_simp
  refine hK.out _ _ hSY (fun hHeld => ?_)
  clear hK K p0 z0 p1 z1 p2 z2 p3 z3 p4 z4 p5 z5 p6 z6 p7 z7 p8 z8
  try simp only [Act.put, List.setIfInBounds_toArray, List.set_cons_zero, List.set_cons_succ]
  refine wpAnyH_take (i := 4) (v := .int .i64 st.1) (get_ops _ _ _ rfl) (by kernel_rfl) (by kernel_rfl) (by kernel_rfl) (fun _ _ _ h => h) (Or.inl ⟨by rfl, fun w hSw => by (try dsimp only at hSw); go_simp⟩) hHeld ?_
  try simp only [Act.put, List.setIfInBounds_toArray, List.set_cons_zero, List.set_cons_succ]
  refine wpAnyH_take (i := 5) (v := .int .i64 0) (get_ops _ _ _ rfl) (by kernel_rfl) (by kernel_rfl) (by kernel_rfl) (fun _ _ _ h => h) (Or.inl ⟨by rfl, fun w hSw => by (try dsimp only at hSw); go_simp⟩) hHeld ?_
  try simp only [Act.put, List.setIfInBounds_toArray, List.set_cons_zero, List.set_cons_succ]
  refine wpAnyH_done (by kernel_rfl) ?_ _
  obtain ⟨wY, hwY⟩ : ∃ wY, wY = World.setCells wD w.heap.size 0 [.string m.topic, .string m.payload, .int .i64 m.level, .bool m.retain, .int .i64 m.prio, .int .i64 m.exps, .string m.frm, .int .i64 m.seq, .slice A1 m.props.length c1] := ⟨_, rfl⟩
  have hpY : MB wY w.heap.size [.string m.topic, .string m.payload, .int .i64 m.level, .bool m.retain, .int .i64 m.prio, .int .i64 m.exps, .string m.frm, .int .i64 m.seq, .slice A1 m.props.length c1] := by rw [hwY]; exact (MB.set9 (show MB wD w.heap.size zM from HZD.out) _ _ _ _ _ _ _ _ _ rfl : MB (World.setCells wD w.heap.size 0 [.string m.topic, .string m.payload, .int .i64 m.level, .bool m.retain, .int .i64 m.prio, .int .i64 m.exps, .string m.frm, .int .i64 m.seq, .slice A1 m.props.length c1]) w.heap.size _)
  have y0 : wY.cell? ⟨w.heap.size, 0, none⟩ = some (.string m.topic) := hpY.cell 0
  have y1 : wY.cell? ⟨w.heap.size, 1, none⟩ = some (.string m.payload) := hpY.cell 1
  have y2 : wY.cell? ⟨w.heap.size, 2, none⟩ = some (.int .i64 m.level) := hpY.cell 2
  have y3 : wY.cell? ⟨w.heap.size, 3, none⟩ = some (.bool m.retain) := hpY.cell 3
  have y4 : wY.cell? ⟨w.heap.size, 4, none⟩ = some (.int .i64 m.prio) := hpY.cell 4
  have y5 : wY.cell? ⟨w.heap.size, 5, none⟩ = some (.int .i64 m.exps) := hpY.cell 5
  have y6 : wY.cell? ⟨w.heap.size, 6, none⟩ = some (.string m.frm) := hpY.cell 6
  have y7 : wY.cell? ⟨w.heap.size, 7, none⟩ = some (.int .i64 m.seq) := hpY.cell 7
  have y8 : wY.cell? ⟨w.heap.size, 8, none⟩ = some (.slice A1 m.props.length c1) := hpY.cell 8
  have hbY : Below w.heap.size w wY := by rw [hwY]; exact (below_cells (Nat.le_refl _) _ 0 _ HBD.out)
  have hplY : PL wY wY.heap.size A1 m.props := by rw [hwY]; exact (pl_cells _ 0 _ HPQ.out HPD.out : PL (World.setCells wD w.heap.size 0 [.string m.topic, .string m.payload, .int .i64 m.level, .bool m.retain, .int .i64 m.prio, .int .i64 m.exps, .string m.frm, .int .i64 m.seq, .slice A1 m.props.length c1]) (World.setCells wD w.heap.size 0 [.string m.topic, .string m.payload, .int .i64 m.level, .bool m.retain, .int .i64 m.prio, .int .i64 m.exps, .string m.frm, .int .i64 m.seq, .slice A1 m.props.length c1]).heap.size A1 m.props)
  have HWY := Lib.hid hwY
  have HBY := Lib.hid hbY
  have HPY := Lib.hid hplY
  clear hplY
  clear hpY hbY hwY
  clear hHeld hbd hSY hSD
  go_wp2
  change bodyPost _ _ _ _ _ (World.setCells wD w.heap.size 0 [.string m.topic, .string m.payload, .int .i64 m.level, .bool m.retain, .int .i64 m.prio, .int .i64 m.exps, .string m.frm, .int .i64 m.seq, .slice A1 m.props.length c1])
  rw [← HWY.out]
  refine bodyPost_ret (v := .tuple #[.agg #[.string m.topic, .string m.payload, .int .i64 m.level, .bool m.retain, .int .i64 m.prio, .int .i64 m.exps, .string m.frm, .int .i64 m.seq, .slice A1 m.props.length c1], .int .i64 st.1, .int .i64 0]) (by simp [results, Tryd.results31, go_sem, y0, y1, y2, y3, y4, y5, y6, y7, y8]) rfl ⟨A1, c1, rfl, HPY.out, HBY.out⟩

end Go.Proofs.YtlkkdompcbdbeaaDoor
