/-
  The walk of Put of the specification: the bytes that came in, then the message's. Conditions: the message reads as data; its numbers fit; its texts and lists are not long.
-/
import Derived.Test.YtlkkdompcbdbeaaDoorPut3
namespace Go.Proofs.YtlkkdompcbdbeaaDoor
open Go.RowKit

set_option maxRecDepth 20000 in
set_option maxHeartbeats 16000000 in
theorem rPut_core (A0 : Option Addr) (c0 : Nat) (xs : List UInt8) (m : Msg) (rt : Bool) (rn : Int) (hrt : (rt = true ∧ rn = 1) ∨ (rt = false ∧ rn = 0)) (A : Option Addr) (c : Nat) (W : World) (hx : CL bv W W.heap.size A0 xs) (hsl : PL W W.heap.size A m.props) (hf : m.fits) (hs : m.topic.size ≤ 100000 ∧ m.payload.size ≤ 100000 ∧ m.frm.size ≤ 100000 ∧ m.props.length ≤ 20 ∧ ∀ x ∈ m.props, x.1.size ≤ 100000 ∧ x.2.size ≤ 100000) (hn : xs.length ≤ 100000) :
    Calls Tryd.prog 30 #[.slice A0 xs.length c0, .agg #[.string m.topic, .string m.payload, .int .i64 m.level, .bool rt, .int .i64 m.prio, .int .i64 m.exps, .string m.frm, .int .i64 m.seq, .slice A m.props.length c]] W (RetB (xs ++ encT m.topic ++ encT m.payload ++ enc m.level ++ enc rn ++ enc m.prio ++ enc m.exps ++ encT m.frm ++ enc m.seq ++ enc m.props.length ++ encPs m.props) W) := by
  obtain ⟨l0, l1, l6, lP⟩ := encM_lens hs
  obtain ⟨hsz0, hsz1, hsz6, hsl20, hszp⟩ := hs
  obtain ⟨f2, f4, f5, f7⟩ := hf
  have hr1 : -9223372036854775808 ≤ rn ∧ rn ≤ 9223372036854775807 := by omega
  have n2 := (enc_len m.level).2
  have n3 := (enc_len rn).2
  have n4 := (enc_len m.prio).2
  have n5 := (enc_len m.exps).2
  have n7 := (enc_len m.seq).2
  have n8 := (enc_len (m.props.length : Int)).2
  have HR0 : Hid (∀ A c w, CL bv w w.heap.size A xs → Calls Tryd.prog 50 #[.slice A xs.length c, .string m.topic] w (RetB (xs ++ encT m.topic) w)) := Lib.hid (fun A c w h => rPutText_any A c xs m.topic w h (by omega) (by omega))
  have t0 : (xs ++ encT m.topic).length ≤ 200010 := by rw [List.length_append]; omega
  generalize xs ++ encT m.topic = T0 at HR0 t0 ⊢
  have HR1 : Hid (∀ A c w, CL bv w w.heap.size A T0 → Calls Tryd.prog 50 #[.slice A T0.length c, .string m.payload] w (RetB (T0 ++ encT m.payload) w)) := Lib.hid (fun A c w h => rPutText_any A c T0 m.payload w h (by omega) (by omega))
  have t1 : (T0 ++ encT m.payload).length ≤ 300020 := by rw [List.length_append]; omega
  generalize T0 ++ encT m.payload = T1 at HR1 t1 ⊢
  have HR2 : Hid (∀ A c w, CL bv w w.heap.size A T1 → Calls Tryd.prog 51 #[.slice A T1.length c, .int .i64 m.level] w (RetB (T1 ++ enc m.level) w)) := Lib.hid (fun A c w h => rPutNum_any A c T1 m.level f2.1 f2.2 w h (by omega))
  have t2 : (T1 ++ enc m.level).length ≤ 300030 := by rw [List.length_append]; omega
  generalize T1 ++ enc m.level = T2 at HR2 t2 ⊢
  have HR3 : Hid (∀ A c w, CL bv w w.heap.size A T2 → Calls Tryd.prog 51 #[.slice A T2.length c, .int .i64 rn] w (RetB (T2 ++ enc rn) w)) := Lib.hid (fun A c w h => rPutNum_any A c T2 rn hr1.1 hr1.2 w h (by omega))
  have t3 : (T2 ++ enc rn).length ≤ 300040 := by rw [List.length_append]; omega
  generalize T2 ++ enc rn = T3 at HR3 t3 ⊢
  have HR4 : Hid (∀ A c w, CL bv w w.heap.size A T3 → Calls Tryd.prog 51 #[.slice A T3.length c, .int .i64 m.prio] w (RetB (T3 ++ enc m.prio) w)) := Lib.hid (fun A c w h => rPutNum_any A c T3 m.prio f4.1 f4.2 w h (by omega))
  have t4 : (T3 ++ enc m.prio).length ≤ 300050 := by rw [List.length_append]; omega
  generalize T3 ++ enc m.prio = T4 at HR4 t4 ⊢
  have HR5 : Hid (∀ A c w, CL bv w w.heap.size A T4 → Calls Tryd.prog 51 #[.slice A T4.length c, .int .i64 m.exps] w (RetB (T4 ++ enc m.exps) w)) := Lib.hid (fun A c w h => rPutNum_any A c T4 m.exps f5.1 f5.2 w h (by omega))
  have t5 : (T4 ++ enc m.exps).length ≤ 300060 := by rw [List.length_append]; omega
  generalize T4 ++ enc m.exps = T5 at HR5 t5 ⊢
  have HR6 : Hid (∀ A c w, CL bv w w.heap.size A T5 → Calls Tryd.prog 50 #[.slice A T5.length c, .string m.frm] w (RetB (T5 ++ encT m.frm) w)) := Lib.hid (fun A c w h => rPutText_any A c T5 m.frm w h (by omega) (by omega))
  have t6 : (T5 ++ encT m.frm).length ≤ 400070 := by rw [List.length_append]; omega
  generalize T5 ++ encT m.frm = T6 at HR6 t6 ⊢
  have HR7 : Hid (∀ A c w, CL bv w w.heap.size A T6 → Calls Tryd.prog 51 #[.slice A T6.length c, .int .i64 m.seq] w (RetB (T6 ++ enc m.seq) w)) := Lib.hid (fun A c w h => rPutNum_any A c T6 m.seq f7.1 f7.2 w h (by omega))
  have t7 : (T6 ++ enc m.seq).length ≤ 400080 := by rw [List.length_append]; omega
  generalize T6 ++ enc m.seq = T7 at HR7 t7 ⊢
  have HR8 : Hid (∀ A c w, CL bv w w.heap.size A T7 → Calls Tryd.prog 51 #[.slice A T7.length c, .int .i64 (m.props.length : Int)] w (RetB (T7 ++ enc (m.props.length : Int)) w)) := Lib.hid (fun A c w h => rPutNum_any A c T7 (m.props.length : Int) (by omega) (by omega) w h (by omega))
  have t8 : (T7 ++ enc (m.props.length : Int)).length ≤ 400090 := by rw [List.length_append]; omega
  generalize T7 ++ enc (m.props.length : Int) = T8 at HR8 t8 ⊢
  have HP : Hid (∀ k x, m.props[k]? = some x → ∀ A c w, CL bv w w.heap.size A (T8 ++ encPs (m.props.take k)) → Calls Tryd.prog 50 #[.slice A (T8 ++ encPs (m.props.take k)).length c, .string x.1] w (RetB (T8 ++ encPs (m.props.take k) ++ encT x.1) w)) := Lib.hid (fun k x hk A c w h => rPutText_any A c _ x.1 w h (by have := lP k; rw [List.length_append]; omega) (by have := hszp x (List.mem_of_getElem? hk); omega))
  have HQ : Hid (∀ k x, m.props[k]? = some x → ∀ A c w, CL bv w w.heap.size A (T8 ++ encPs (m.props.take k) ++ encT x.1) → Calls Tryd.prog 50 #[.slice A (T8 ++ encPs (m.props.take k) ++ encT x.1).length c, .string x.2] w (RetB (T8 ++ encPs (m.props.take (k + 1))) w)) := Lib.hid (fun k x hk A c w h => by
    have h1 := lP k
    have h2 := hszp x (List.mem_of_getElem? hk)
    have h3 := encT_len x.1
    have := rPutText_any A c _ x.2 w h (by rw [List.length_append, List.length_append]; omega) (by omega)
    rw [encPs_succ hk, ← List.append_assoc, ← List.append_assoc]
    exact this)
  have HZ : Hid (T8 ++ encPs (m.props.take m.props.length) = T8 ++ encPs m.props) := Lib.hid (by rw [List.take_length])
  have HZ0 : Hid (T8 ++ encPs (m.props.take 0) = T8) := Lib.hid (by simp [encPs])
  rw [← HZ.out]
  obtain ⟨TK, hTK⟩ : ∃ TK : Nat → List UInt8, TK = fun k => T8 ++ encPs (m.props.take k) := ⟨_, rfl⟩
  have hTK' : ∀ k, T8 ++ encPs (m.props.take k) = TK k := fun k => by rw [hTK]
  simp only [hTK'] at HP HQ HZ0 ⊢
  have hbn : Below W.heap.size W (W.alloc (.cells #[.string m.topic, .string m.payload, .int .i64 m.level, .bool rt, .int .i64 m.prio, .int .i64 m.exps, .string m.frm, .int .i64 m.seq, .slice A m.props.length c] 36)) := (Below.refl _ _).alloc (Nat.le_refl _) _
  have HX := Lib.hid hx
  have HS := Lib.hid hsl
  have H20 := Lib.hid hsl20
  clear hTK hTK' HZ hx hsl hsz0 hsz1 hsz6 hszp hsl20 hr1 f2 f4 f5 f7 n2 n3 n4 n5 n7 n8 l0 l1 l6 lP t0 t1 t2 t3 t4 t5 t6 t7 t8 hn
  rcases hrt with ⟨rfl, rfl⟩ | ⟨rfl, rfl⟩
  · go_enter Tryd.func30, Tryd.ntmps30
    go_upto_region 4 with fail
    obtain ⟨w0, hw0⟩ : ∃ w0, w0 = (W.alloc (.cells #[.string m.topic, .string m.payload, .int .i64 m.level, .bool true, .int .i64 m.prio, .int .i64 m.exps, .string m.frm, .int .i64 m.seq, .slice A m.props.length c] 36)) := ⟨_, rfl⟩
    have HC : Hid (∀ wx, Below w0.heap.size w0 wx → wx.cell? ⟨W.heap.size, 0, none⟩ = some (.string m.topic) ∧ wx.cell? ⟨W.heap.size, 1, none⟩ = some (.string m.payload) ∧ wx.cell? ⟨W.heap.size, 2, none⟩ = some (.int .i64 m.level) ∧ wx.cell? ⟨W.heap.size, 3, none⟩ = some (.bool true) ∧ wx.cell? ⟨W.heap.size, 4, none⟩ = some (.int .i64 m.prio) ∧ wx.cell? ⟨W.heap.size, 5, none⟩ = some (.int .i64 m.exps) ∧ wx.cell? ⟨W.heap.size, 6, none⟩ = some (.string m.frm) ∧ wx.cell? ⟨W.heap.size, 7, none⟩ = some (.int .i64 m.seq) ∧ wx.cell? ⟨W.heap.size, 8, none⟩ = some (.slice A m.props.length c)) := Lib.hid (fun wx h => by rw [hw0] at h; exact box_msg W _ _ _ _ _ _ _ _ _ _ wx h)
    rw [← hw0] at hbn ⊢
    clear hw0
    have HB0 := Lib.hid hbn
    have HX0 := Lib.hid (HX.out.step hbn)
    have HS0 := Lib.hid (HS.out.step hbn)
    clear hbn HX HS
    have hbd : Below w0.heap.size w0 w0.drew := (Below.refl _ _).drew
    refine wp_region_held_drew (S := fun w' => Below w0.heap.size w0 w') (by kernel_rfl) hbd (fun hHeld => ?_)
    refine wpAnyH_take (i := 0) (v := .slice A0 xs.length c0) (get_ops _ _ _ rfl) (by kernel_rfl) (by kernel_rfl) (by kernel_rfl) (fun _ _ _ h => h) (Or.inl ⟨by rfl, fun w hSw => by (try dsimp only at hSw); go_simp⟩) hHeld ?_
    try simp only [Act.put, List.setIfInBounds_toArray, List.set_cons_zero, List.set_cons_succ]
    refine wpAnyH_take (i := 1) (v := .pointer (some ⟨W.heap.size, 0, none⟩)) (get_ops _ _ _ rfl) (by kernel_rfl) (by kernel_rfl) (by kernel_rfl) (fun _ _ _ h => h) (Or.inl ⟨by rfl, fun w hSw => by (try dsimp only at hSw); go_simp⟩) hHeld ?_
    try simp only [Act.put, List.setIfInBounds_toArray, List.set_cons_zero, List.set_cons_succ]
    refine wpAnyH_take (i := 2) (v := .string m.topic) (get_ops _ _ _ rfl) (by kernel_rfl) (by kernel_rfl) (by kernel_rfl) (fun _ _ _ h => h) (Or.inl ⟨by rfl, fun w hSw => by (try dsimp only at hSw); have kk := (HC.out w hSw).1; clear hSw; go_simp⟩) hHeld ?_
    try simp only [Act.put, List.setIfInBounds_toArray, List.set_cons_zero, List.set_cons_succ]
    refine wpAnyH_take (i := 4) (v := .pointer (some ⟨W.heap.size, 1, none⟩)) (get_ops _ _ _ rfl) (by kernel_rfl) (by kernel_rfl) (by kernel_rfl) (fun _ _ _ h => h) (Or.inl ⟨by rfl, fun w hSw => by (try dsimp only at hSw); go_simp⟩) hHeld ?_
    try simp only [Act.put, List.setIfInBounds_toArray, List.set_cons_zero, List.set_cons_succ]
    refine wpAnyH_take (i := 5) (v := .string m.payload) (get_ops _ _ _ rfl) (by kernel_rfl) (by kernel_rfl) (by kernel_rfl) (fun _ _ _ h => h) (Or.inl ⟨by rfl, fun w hSw => by (try dsimp only at hSw); have kk := (HC.out w hSw).2.1; clear hSw; go_simp⟩) hHeld ?_
    try simp only [Act.put, List.setIfInBounds_toArray, List.set_cons_zero, List.set_cons_succ]
    refine wpAnyH_ready (rs := [3]) (by kernel_rfl) (by simp) ?_
    refine AllReadyH.cons (get_ops _ _ _ rfl) (fun K hK => ?_) AllReadyH.nil
    go_simp
    go_at_call 50
    refine (HR0.out A0 c0 _ (HX0.out.step hHeld)).mono ?_
    rintro e w1 ⟨v1, rfl, hown1, hb1⟩
    obtain ⟨A1, c1, rfl, _, hsl1⟩ := hown1.ret
    have HSL1 := Lib.hid hsl1
    clear hown1 hsl1
    go_wp2_with fail
    refine hK.out _ _ (stepB hHeld hb1) (fun hHeld => ?_)
    clear hK K
    try simp only [Act.put, List.setIfInBounds_toArray, List.set_cons_zero, List.set_cons_succ]
    refine wpAnyH_ready (rs := [6]) (by kernel_rfl) (by simp) ?_
    refine AllReadyH.cons (get_ops _ _ _ rfl) (fun K hK => ?_) AllReadyH.nil
    go_simp
    go_at_call 50
    refine (HR1.out A1 c1 _ HSL1.out).mono ?_
    rintro e w2 ⟨v2, rfl, hown2, hb2⟩
    obtain ⟨A2, c2, rfl, _, hsl2⟩ := hown2.ret
    have HSL2 := Lib.hid hsl2
    clear hown2 hsl2
    go_wp2_with fail
    refine hK.out _ _ (stepB hHeld hb2) (fun hHeld => ?_)
    clear hK K
    try simp only [Act.put, List.setIfInBounds_toArray, List.set_cons_zero, List.set_cons_succ]
    refine wpAnyH_take (i := 7) (v := .slice A2 T1.length c2) (get_ops _ _ _ rfl) (by kernel_rfl) (by kernel_rfl) (by kernel_rfl) (fun _ _ _ h => h) (Or.inl ⟨by rfl, fun w hSw => by (try dsimp only at hSw); go_simp⟩) hHeld ?_
    try simp only [Act.put, List.setIfInBounds_toArray, List.set_cons_zero, List.set_cons_succ]
    refine wpAnyH_done (by kernel_rfl) ?_ _
    have HH2 := Lib.hid hHeld
    clear hHeld hb1 hb2 HSL1 hbd HR0 HR1
    obtain ⟨k0, k1, k2, k3, k4, k5, k6, k7, k8⟩ := HC.out _ HH2.out
    go_wp2_with fail
    refine (HR2.out A2 c2 _ HSL2.out).mono ?_
    rintro e w3 ⟨v3, rfl, hown, hb⟩
    obtain ⟨A3, c3, rfl, _, hsl⟩ := hown.ret
    have HSL3 := Lib.hid hsl
    have HH3 := Lib.hid (stepB HH2.out hb)
    clear hown hsl hb k0 k1 k2 k3 k4 k5 k6 k7 k8 HSL2 HR2 HH2
    go_wp2_with fail
    refine (HR3.out A3 c3 _ HSL3.out).mono ?_
    rintro e w4 ⟨v4, rfl, hown, hb⟩
    obtain ⟨A4, c4, rfl, _, hsl⟩ := hown.ret
    have HSL4 := Lib.hid hsl
    have HH4 := Lib.hid (stepB HH3.out hb)
    clear hown hsl hb HSL3 HR3 HH3
    go_upto_region 6 with fail
    have hbd : Below w0.heap.size w0 w4.drew := stepB HH4.out (Below.refl _ _).drew
    refine wp_region_held_drew (S := fun w' => Below w0.heap.size w0 w') (by kernel_rfl) hbd (fun hHeld => ?_)
    refine wpAnyH_take (i := 0) (v := .slice A4 T3.length c4) (get_ops _ _ _ rfl) (by kernel_rfl) (by kernel_rfl) (by kernel_rfl) (fun _ _ _ h => h) (Or.inl ⟨by rfl, fun w hSw => by (try dsimp only at hSw); go_simp⟩) hHeld ?_
    try simp only [Act.put, List.setIfInBounds_toArray, List.set_cons_zero, List.set_cons_succ]
    refine wpAnyH_take (i := 1) (v := .pointer (some ⟨W.heap.size, 4, none⟩)) (get_ops _ _ _ rfl) (by kernel_rfl) (by kernel_rfl) (by kernel_rfl) (fun _ _ _ h => h) (Or.inl ⟨by rfl, fun w hSw => by (try dsimp only at hSw); go_simp⟩) hHeld ?_
    try simp only [Act.put, List.setIfInBounds_toArray, List.set_cons_zero, List.set_cons_succ]
    refine wpAnyH_take (i := 2) (v := .int .i64 m.prio) (get_ops _ _ _ rfl) (by kernel_rfl) (by kernel_rfl) (by kernel_rfl) (fun _ _ _ h => h) (Or.inl ⟨by rfl, fun w hSw => by (try dsimp only at hSw); have kk := (HC.out w hSw).2.2.2.2.1; clear hSw; go_simp⟩) hHeld ?_
    try simp only [Act.put, List.setIfInBounds_toArray, List.set_cons_zero, List.set_cons_succ]
    refine wpAnyH_take (i := 4) (v := .pointer (some ⟨W.heap.size, 5, none⟩)) (get_ops _ _ _ rfl) (by kernel_rfl) (by kernel_rfl) (by kernel_rfl) (fun _ _ _ h => h) (Or.inl ⟨by rfl, fun w hSw => by (try dsimp only at hSw); go_simp⟩) hHeld ?_
    try simp only [Act.put, List.setIfInBounds_toArray, List.set_cons_zero, List.set_cons_succ]
    refine wpAnyH_take (i := 5) (v := .int .i64 m.exps) (get_ops _ _ _ rfl) (by kernel_rfl) (by kernel_rfl) (by kernel_rfl) (fun _ _ _ h => h) (Or.inl ⟨by rfl, fun w hSw => by (try dsimp only at hSw); have kk := (HC.out w hSw).2.2.2.2.2.1; clear hSw; go_simp⟩) hHeld ?_
    try simp only [Act.put, List.setIfInBounds_toArray, List.set_cons_zero, List.set_cons_succ]
    refine wpAnyH_ready (rs := [3]) (by kernel_rfl) (by simp) ?_
    refine AllReadyH.cons (get_ops _ _ _ rfl) (fun K hK => ?_) AllReadyH.nil
    go_simp
    go_at_call 51
    refine (HR4.out A4 c4 _ (HSL4.out.step (Below.refl _ _).drew)).mono ?_
    rintro e w5 ⟨v5, rfl, hown5, hb5⟩
    obtain ⟨A5, c5, rfl, _, hsl5⟩ := hown5.ret
    have HSL5 := Lib.hid hsl5
    clear hown5 hsl5
    go_wp2_with fail
    refine hK.out _ _ (stepB hHeld hb5) (fun hHeld => ?_)
    clear hK K
    try simp only [Act.put, List.setIfInBounds_toArray, List.set_cons_zero, List.set_cons_succ]
    refine wpAnyH_ready (rs := [6]) (by kernel_rfl) (by simp) ?_
    refine AllReadyH.cons (get_ops _ _ _ rfl) (fun K hK => ?_) AllReadyH.nil
    go_simp
    go_at_call 51
    refine (HR5.out A5 c5 _ HSL5.out).mono ?_
    rintro e w6 ⟨v6, rfl, hown6, hb6⟩
    obtain ⟨A6, c6, rfl, _, hsl6⟩ := hown6.ret
    have HSL6 := Lib.hid hsl6
    clear hown6 hsl6
    go_wp2_with fail
    refine hK.out _ _ (stepB hHeld hb6) (fun hHeld => ?_)
    clear hK K
    try simp only [Act.put, List.setIfInBounds_toArray, List.set_cons_zero, List.set_cons_succ]
    refine wpAnyH_take (i := 7) (v := .slice A6 T5.length c6) (get_ops _ _ _ rfl) (by kernel_rfl) (by kernel_rfl) (by kernel_rfl) (fun _ _ _ h => h) (Or.inl ⟨by rfl, fun w hSw => by (try dsimp only at hSw); go_simp⟩) hHeld ?_
    try simp only [Act.put, List.setIfInBounds_toArray, List.set_cons_zero, List.set_cons_succ]
    refine wpAnyH_done (by kernel_rfl) ?_ _
    have HH6 := Lib.hid hHeld
    clear hHeld hb5 hb6 HSL5 hbd HR4 HR5 HSL4 HH4
    go_upto_region 7 with fail
    have hbd : Below w0.heap.size w0 w6.drew := stepB HH6.out (Below.refl _ _).drew
    refine wp_region_held_drew (S := fun w' => Below w0.heap.size w0 w') (by kernel_rfl) hbd (fun hHeld => ?_)
    refine wpAnyH_take (i := 0) (v := .slice A6 T5.length c6) (get_ops _ _ _ rfl) (by kernel_rfl) (by kernel_rfl) (by kernel_rfl) (fun _ _ _ h => h) (Or.inl ⟨by rfl, fun w hSw => by (try dsimp only at hSw); go_simp⟩) hHeld ?_
    try simp only [Act.put, List.setIfInBounds_toArray, List.set_cons_zero, List.set_cons_succ]
    refine wpAnyH_take (i := 1) (v := .pointer (some ⟨W.heap.size, 6, none⟩)) (get_ops _ _ _ rfl) (by kernel_rfl) (by kernel_rfl) (by kernel_rfl) (fun _ _ _ h => h) (Or.inl ⟨by rfl, fun w hSw => by (try dsimp only at hSw); go_simp⟩) hHeld ?_
    try simp only [Act.put, List.setIfInBounds_toArray, List.set_cons_zero, List.set_cons_succ]
    refine wpAnyH_take (i := 2) (v := .string m.frm) (get_ops _ _ _ rfl) (by kernel_rfl) (by kernel_rfl) (by kernel_rfl) (fun _ _ _ h => h) (Or.inl ⟨by rfl, fun w hSw => by (try dsimp only at hSw); have kk := (HC.out w hSw).2.2.2.2.2.2.1; clear hSw; go_simp⟩) hHeld ?_
    try simp only [Act.put, List.setIfInBounds_toArray, List.set_cons_zero, List.set_cons_succ]
    refine wpAnyH_take (i := 4) (v := .pointer (some ⟨W.heap.size, 7, none⟩)) (get_ops _ _ _ rfl) (by kernel_rfl) (by kernel_rfl) (by kernel_rfl) (fun _ _ _ h => h) (Or.inl ⟨by rfl, fun w hSw => by (try dsimp only at hSw); go_simp⟩) hHeld ?_
    try simp only [Act.put, List.setIfInBounds_toArray, List.set_cons_zero, List.set_cons_succ]
    refine wpAnyH_take (i := 5) (v := .int .i64 m.seq) (get_ops _ _ _ rfl) (by kernel_rfl) (by kernel_rfl) (by kernel_rfl) (fun _ _ _ h => h) (Or.inl ⟨by rfl, fun w hSw => by (try dsimp only at hSw); have kk := (HC.out w hSw).2.2.2.2.2.2.2.1; clear hSw; go_simp⟩) hHeld ?_
    try simp only [Act.put, List.setIfInBounds_toArray, List.set_cons_zero, List.set_cons_succ]
    refine wpAnyH_ready (rs := [3]) (by kernel_rfl) (by simp) ?_
    refine AllReadyH.cons (get_ops _ _ _ rfl) (fun K hK => ?_) AllReadyH.nil
    go_simp
    go_at_call 50
    refine (HR6.out A6 c6 _ (HSL6.out.step (Below.refl _ _).drew)).mono ?_
    rintro e w7 ⟨v7, rfl, hown7, hb7⟩
    obtain ⟨A7, c7, rfl, _, hsl7⟩ := hown7.ret
    have HSL7 := Lib.hid hsl7
    clear hown7 hsl7
    go_wp2_with fail
    refine hK.out _ _ (stepB hHeld hb7) (fun hHeld => ?_)
    clear hK K
    try simp only [Act.put, List.setIfInBounds_toArray, List.set_cons_zero, List.set_cons_succ]
    refine wpAnyH_ready (rs := [6]) (by kernel_rfl) (by simp) ?_
    refine AllReadyH.cons (get_ops _ _ _ rfl) (fun K hK => ?_) AllReadyH.nil
    go_simp
    go_at_call 51
    refine (HR7.out A7 c7 _ HSL7.out).mono ?_
    rintro e w8 ⟨v8, rfl, hown8, hb8⟩
    obtain ⟨A8, c8, rfl, _, hsl8⟩ := hown8.ret
    have HSL8 := Lib.hid hsl8
    clear hown8 hsl8
    go_wp2_with fail
    refine hK.out _ _ (stepB hHeld hb8) (fun hHeld => ?_)
    clear hK K
    try simp only [Act.put, List.setIfInBounds_toArray, List.set_cons_zero, List.set_cons_succ]
    refine wpAnyH_take (i := 7) (v := .slice A8 T7.length c8) (get_ops _ _ _ rfl) (by kernel_rfl) (by kernel_rfl) (by kernel_rfl) (fun _ _ _ h => h) (Or.inl ⟨by rfl, fun w hSw => by (try dsimp only at hSw); go_simp⟩) hHeld ?_
    try simp only [Act.put, List.setIfInBounds_toArray, List.set_cons_zero, List.set_cons_succ]
    refine wpAnyH_done (by kernel_rfl) ?_ _
    have HH8 := Lib.hid hHeld
    clear hHeld hb7 hb8 HSL7 hbd HR6 HR7 HSL6 HH6
    obtain ⟨k0, k1, k2, k3, k4, k5, k6, k7, k8⟩ := HC.out _ HH8.out
    go_wp2_with fail
    refine (HR8.out A8 c8 _ HSL8.out).mono ?_
    rintro e w9 ⟨v9, rfl, hown, hb⟩
    obtain ⟨A9, c9, rfl, _, hsl⟩ := hown.ret
    have HSL9 := Lib.hid hsl
    have HO9 := Lib.hid (hown.weak ((stepB HB0.out HH8.out).size))
    have HH9 := Lib.hid (stepB HH8.out hb)
    clear hown hsl hb k0 k1 k2 k3 k4 k5 k6 k7 k8 HSL8 HR8 HH8
    have hl20 : m.props.length ≤ 20 := H20.out
    go_wp2
    go_loopg [6, 7] m.props.length (fun g u i wr => ∃ k : Nat, k + g = m.props.length ∧ i = .int .i64 k ∧ (∃ A c, u = .slice A (TK k).length c ∧ CL bv wr wr.heap.size A (TK k)) ∧ Own 5 bv wr W.heap.size u (TK k) ∧ Below w0.heap.size w0 wr)
    case atStart => exact ⟨0, by omega, rfl, ⟨A9, c9, by rw [HZ0.out], by rw [HZ0.out]; exact HSL9.out⟩, by rw [HZ0.out]; exact HO9.out, HH9.out⟩
    case round =>
      obtain ⟨k, hkg, rfl, ⟨AK, cK, rfl, hcl⟩, hown, hb⟩ := hrel
      have HB := Lib.hid hb
      have HG := Lib.hid hkg
      have HK := Lib.hid hcl
      have HO := Lib.hid hown
      obtain ⟨_, _, _, _, _, _, _, _, k8⟩ := HC.out _ hb
      clear hcl hown
      cases gk with
      | zero =>
        obtain rfl : k = m.props.length := by omega
        have HBW := Lib.hid (stepB HB0.out HB.out)
        clear hkg hb
        go_wp2
        go_ret
        exact ⟨_, rfl, HO.out, HBW.out⟩
      | succ g =>
        have hlt : k < m.props.length := by omega
        have e3 : decide ((k : Int) < (m.props.length : Int)) = true := decide_eq_true (by omega)
        obtain ⟨x, hx⟩ : ∃ x, m.props[k]? = some x := ⟨_, List.getElem?_eq_getElem hlt⟩
        have HKV : Hid (∃ b o, A = some ⟨b, o, none⟩ ∧ ∀ wx, Below w0.heap.size w0 wx → wx.cell? ⟨b, o + k * 2, none⟩ = some (.string x.1) ∧ wx.cell? ⟨b, o + k * 2 + 1, none⟩ = some (.string x.2)) := Lib.hid (by
          obtain ⟨b, o, hA, hbB, _, _⟩ := PL.at_ HS0.out hx
          refine ⟨b, o, hA, fun wx h => ?_⟩
          obtain ⟨b', o', hA', _, h1, h2⟩ := PL.at_ (HS0.out.step h) hx
          rw [hA] at hA'
          simp only [Option.some.injEq, Addr.mk.injEq, and_true] at hA'
          obtain ⟨rfl, rfl⟩ := hA'
          exact ⟨h1, h2⟩)
        obtain ⟨b, o, hA, hkv⟩ := HKV.out
        subst hA
        have HV := Lib.hid hkv
        have j1 : (0 : Int) ≤ (k : Int) := by omega
        have j2 : (k : Int) < (m.props.length : Int) := by omega
        have HP1 := Lib.hid (HP.out k x hx)
        have HQ1 := Lib.hid (HQ.out k x hx)
        clear hx hkg hkv HKV
        generalize hT1 : TK k = TKk at HP1 HQ1 HK HO ⊢
        generalize TKk ++ encT x.1 = TM at HP1 HQ1
        have HT1 := Lib.hid hT1
        obtain ⟨TN, hTN⟩ : ∃ TN, TN = TK (k + 1) := ⟨_, rfl⟩
        rw [← hTN] at HQ1
        have HTN := Lib.hid hTN
        clear hT1 hTN hb
        go_upto_region 12 with fail
        have hbd : Below w0.heap.size w0 wr.drew := stepB HB.out (Below.refl _ _).drew
        refine wp_region_held_drew (S := fun w' => Below w0.heap.size w0 w') (by kernel_rfl) hbd (fun hHeld => ?_)
        refine wpAnyH_take (i := 0) (v := .slice AK TKk.length cK) (get_ops _ _ _ rfl) (by kernel_rfl) (by kernel_rfl) (by kernel_rfl) (fun _ _ _ h => h) (Or.inl ⟨by rfl, fun w hSw => by (try dsimp only at hSw); go_simp⟩) hHeld ?_
        try simp only [Act.put, List.setIfInBounds_toArray, List.set_cons_zero, List.set_cons_succ]
        refine wpAnyH_take (i := 1) (v := .pointer (some ⟨W.heap.size, 8, none⟩)) (get_ops _ _ _ rfl) (by kernel_rfl) (by kernel_rfl) (by kernel_rfl) (fun _ _ _ h => h) (Or.inl ⟨by rfl, fun w hSw => by (try dsimp only at hSw); go_simp⟩) hHeld ?_
        try simp only [Act.put, List.setIfInBounds_toArray, List.set_cons_zero, List.set_cons_succ]
        refine wpAnyH_take (i := 2) (v := .slice (some ⟨b, o, none⟩) m.props.length c) (get_ops _ _ _ rfl) (by kernel_rfl) (by kernel_rfl) (by kernel_rfl) (fun _ _ _ h => h) (Or.inl ⟨by rfl, fun w hSw => by (try dsimp only at hSw); have kk := (HC.out w hSw).2.2.2.2.2.2.2.2; clear hSw; go_simp⟩) hHeld ?_
        try simp only [Act.put, List.setIfInBounds_toArray, List.set_cons_zero, List.set_cons_succ]
        refine wpAnyH_take (i := 3) (v := .int .i64 (k : Int)) (get_ops _ _ _ rfl) (by kernel_rfl) (by kernel_rfl) (by kernel_rfl) (fun _ _ _ h => h) (Or.inl ⟨by rfl, fun w hSw => by (try dsimp only at hSw); go_simp⟩) hHeld ?_
        try simp only [Act.put, List.setIfInBounds_toArray, List.set_cons_zero, List.set_cons_succ]
        refine wpAnyH_take (i := 4) (v := .pointer (some ⟨b, o + k * 2, none⟩)) (get_ops _ _ _ rfl) (by kernel_rfl) (by kernel_rfl) (by kernel_rfl) (fun _ _ _ h => h) (Or.inl ⟨by rfl, fun w hSw => by (try dsimp only at hSw); go_simp⟩) hHeld ?_
        try simp only [Act.put, List.setIfInBounds_toArray, List.set_cons_zero, List.set_cons_succ]
        refine wpAnyH_take (i := 5) (v := .pointer (some ⟨b, o + k * 2, none⟩)) (get_ops _ _ _ rfl) (by kernel_rfl) (by kernel_rfl) (by kernel_rfl) (fun _ _ _ h => h) (Or.inl ⟨by rfl, fun w hSw => by (try dsimp only at hSw); go_simp⟩) hHeld ?_
        try simp only [Act.put, List.setIfInBounds_toArray, List.set_cons_zero, List.set_cons_succ]
        refine wpAnyH_take (i := 6) (v := .string x.1) (get_ops _ _ _ rfl) (by kernel_rfl) (by kernel_rfl) (by kernel_rfl) (fun _ _ _ h => h) (Or.inl ⟨by rfl, fun w hSw => by (try dsimp only at hSw); have kk := (HV.out w hSw).1; clear hSw; go_simp⟩) hHeld ?_
        try simp only [Act.put, List.setIfInBounds_toArray, List.set_cons_zero, List.set_cons_succ]
        refine wpAnyH_take (i := 8) (v := .pointer (some ⟨W.heap.size, 8, none⟩)) (get_ops _ _ _ rfl) (by kernel_rfl) (by kernel_rfl) (by kernel_rfl) (fun _ _ _ h => h) (Or.inl ⟨by rfl, fun w hSw => by (try dsimp only at hSw); go_simp⟩) hHeld ?_
        try simp only [Act.put, List.setIfInBounds_toArray, List.set_cons_zero, List.set_cons_succ]
        refine wpAnyH_take (i := 9) (v := .slice (some ⟨b, o, none⟩) m.props.length c) (get_ops _ _ _ rfl) (by kernel_rfl) (by kernel_rfl) (by kernel_rfl) (fun _ _ _ h => h) (Or.inl ⟨by rfl, fun w hSw => by (try dsimp only at hSw); have kk := (HC.out w hSw).2.2.2.2.2.2.2.2; clear hSw; go_simp⟩) hHeld ?_
        try simp only [Act.put, List.setIfInBounds_toArray, List.set_cons_zero, List.set_cons_succ]
        refine wpAnyH_take (i := 10) (v := .int .i64 (k : Int)) (get_ops _ _ _ rfl) (by kernel_rfl) (by kernel_rfl) (by kernel_rfl) (fun _ _ _ h => h) (Or.inl ⟨by rfl, fun w hSw => by (try dsimp only at hSw); go_simp⟩) hHeld ?_
        try simp only [Act.put, List.setIfInBounds_toArray, List.set_cons_zero, List.set_cons_succ]
        refine wpAnyH_take (i := 11) (v := .pointer (some ⟨b, o + k * 2, none⟩)) (get_ops _ _ _ rfl) (by kernel_rfl) (by kernel_rfl) (by kernel_rfl) (fun _ _ _ h => h) (Or.inl ⟨by rfl, fun w hSw => by (try dsimp only at hSw); go_simp⟩) hHeld ?_
        try simp only [Act.put, List.setIfInBounds_toArray, List.set_cons_zero, List.set_cons_succ]
        refine wpAnyH_take (i := 12) (v := .pointer (some ⟨b, o + k * 2 + 1, none⟩)) (get_ops _ _ _ rfl) (by kernel_rfl) (by kernel_rfl) (by kernel_rfl) (fun _ _ _ h => h) (Or.inl ⟨by rfl, fun w hSw => by (try dsimp only at hSw); go_simp⟩) hHeld ?_
        try simp only [Act.put, List.setIfInBounds_toArray, List.set_cons_zero, List.set_cons_succ]
        refine wpAnyH_take (i := 13) (v := .string x.2) (get_ops _ _ _ rfl) (by kernel_rfl) (by kernel_rfl) (by kernel_rfl) (fun _ _ _ h => h) (Or.inl ⟨by rfl, fun w hSw => by (try dsimp only at hSw); have kk := (HV.out w hSw).2; clear hSw; go_simp⟩) hHeld ?_
        try simp only [Act.put, List.setIfInBounds_toArray, List.set_cons_zero, List.set_cons_succ]
        refine wpAnyH_ready (rs := [7]) (by kernel_rfl) (by simp) ?_
        refine AllReadyH.cons (get_ops _ _ _ rfl) (fun K hK => ?_) AllReadyH.nil
        go_simp
        go_at_call 50
        refine (HP1.out AK cK _ (HK.out.step (Below.refl _ _).drew)).mono ?_
        rintro e w10 ⟨v10, rfl, hown10, hb10⟩
        obtain ⟨A10, c10, rfl, _, hsl10⟩ := hown10.ret
        have HSL10 := Lib.hid hsl10
        clear hown10 hsl10
        go_wp2_with fail
        refine hK.out _ _ (stepB hHeld hb10) (fun hHeld => ?_)
        clear hK K
        try simp only [Act.put, List.setIfInBounds_toArray, List.set_cons_zero, List.set_cons_succ]
        refine wpAnyH_ready (rs := [14]) (by kernel_rfl) (by simp) ?_
        refine AllReadyH.cons (get_ops _ _ _ rfl) (fun K hK => ?_) AllReadyH.nil
        go_simp
        go_at_call 50
        refine (HQ1.out A10 c10 _ HSL10.out).mono ?_
        rintro e w11 ⟨v11, rfl, hown11, hb11⟩
        obtain ⟨A11, c11, hv11, _, hsl11⟩ := hown11.ret
        subst hv11
        have HSL11 := Lib.hid hsl11
        have HO11 := Lib.hid (hown11.weak (by have := (stepB HB0.out (stepB HB.out (Below.refl _ _).drew)).size; have := hb10.size; simp at *; omega : W.heap.size ≤ _))
        clear hown11 hsl11
        go_wp2_with fail
        refine hK.out _ _ (stepB hHeld hb11) (fun hHeld => ?_)
        clear hK K
        try simp only [Act.put, List.setIfInBounds_toArray, List.set_cons_zero, List.set_cons_succ]
        refine wpAnyH_take (i := 15) (v := .slice A11 TN.length c11) (get_ops _ _ _ rfl) (by kernel_rfl) (by kernel_rfl) (by kernel_rfl) (fun _ _ _ h => h) (Or.inl ⟨by rfl, fun w hSw => by (try dsimp only at hSw); go_simp⟩) hHeld ?_
        try simp only [Act.put, List.setIfInBounds_toArray, List.set_cons_zero, List.set_cons_succ]
        refine wpAnyH_done (by kernel_rfl) ?_ _
        have HH11 := Lib.hid hHeld
        obtain ⟨_, _, _, _, _, _, _, _, k8'⟩ := HC.out _ hHeld
        clear hHeld hb10 hb11 hbd HSL10
        go_wp2
        go_roundg g
        case measure => omega
        case rel => exact ⟨k + 1, by have := HG.out; omega, by go_num, ⟨A11, c11, by rw [HTN.out], by rw [← HTN.out]; exact HSL11.out⟩, by rw [← HTN.out]; exact HO11.out, HH11.out⟩
  · go_enter Tryd.func30, Tryd.ntmps30
    go_upto_region 4 with fail
    obtain ⟨w0, hw0⟩ : ∃ w0, w0 = (W.alloc (.cells #[.string m.topic, .string m.payload, .int .i64 m.level, .bool false, .int .i64 m.prio, .int .i64 m.exps, .string m.frm, .int .i64 m.seq, .slice A m.props.length c] 36)) := ⟨_, rfl⟩
    have HC : Hid (∀ wx, Below w0.heap.size w0 wx → wx.cell? ⟨W.heap.size, 0, none⟩ = some (.string m.topic) ∧ wx.cell? ⟨W.heap.size, 1, none⟩ = some (.string m.payload) ∧ wx.cell? ⟨W.heap.size, 2, none⟩ = some (.int .i64 m.level) ∧ wx.cell? ⟨W.heap.size, 3, none⟩ = some (.bool false) ∧ wx.cell? ⟨W.heap.size, 4, none⟩ = some (.int .i64 m.prio) ∧ wx.cell? ⟨W.heap.size, 5, none⟩ = some (.int .i64 m.exps) ∧ wx.cell? ⟨W.heap.size, 6, none⟩ = some (.string m.frm) ∧ wx.cell? ⟨W.heap.size, 7, none⟩ = some (.int .i64 m.seq) ∧ wx.cell? ⟨W.heap.size, 8, none⟩ = some (.slice A m.props.length c)) := Lib.hid (fun wx h => by rw [hw0] at h; exact box_msg W _ _ _ _ _ _ _ _ _ _ wx h)
    rw [← hw0] at hbn ⊢
    clear hw0
    have HB0 := Lib.hid hbn
    have HX0 := Lib.hid (HX.out.step hbn)
    have HS0 := Lib.hid (HS.out.step hbn)
    clear hbn HX HS
    have hbd : Below w0.heap.size w0 w0.drew := (Below.refl _ _).drew
    refine wp_region_held_drew (S := fun w' => Below w0.heap.size w0 w') (by kernel_rfl) hbd (fun hHeld => ?_)
    refine wpAnyH_take (i := 0) (v := .slice A0 xs.length c0) (get_ops _ _ _ rfl) (by kernel_rfl) (by kernel_rfl) (by kernel_rfl) (fun _ _ _ h => h) (Or.inl ⟨by rfl, fun w hSw => by (try dsimp only at hSw); go_simp⟩) hHeld ?_
    try simp only [Act.put, List.setIfInBounds_toArray, List.set_cons_zero, List.set_cons_succ]
    refine wpAnyH_take (i := 1) (v := .pointer (some ⟨W.heap.size, 0, none⟩)) (get_ops _ _ _ rfl) (by kernel_rfl) (by kernel_rfl) (by kernel_rfl) (fun _ _ _ h => h) (Or.inl ⟨by rfl, fun w hSw => by (try dsimp only at hSw); go_simp⟩) hHeld ?_
    try simp only [Act.put, List.setIfInBounds_toArray, List.set_cons_zero, List.set_cons_succ]
    refine wpAnyH_take (i := 2) (v := .string m.topic) (get_ops _ _ _ rfl) (by kernel_rfl) (by kernel_rfl) (by kernel_rfl) (fun _ _ _ h => h) (Or.inl ⟨by rfl, fun w hSw => by (try dsimp only at hSw); have kk := (HC.out w hSw).1; clear hSw; go_simp⟩) hHeld ?_
    try simp only [Act.put, List.setIfInBounds_toArray, List.set_cons_zero, List.set_cons_succ]
    refine wpAnyH_take (i := 4) (v := .pointer (some ⟨W.heap.size, 1, none⟩)) (get_ops _ _ _ rfl) (by kernel_rfl) (by kernel_rfl) (by kernel_rfl) (fun _ _ _ h => h) (Or.inl ⟨by rfl, fun w hSw => by (try dsimp only at hSw); go_simp⟩) hHeld ?_
    try simp only [Act.put, List.setIfInBounds_toArray, List.set_cons_zero, List.set_cons_succ]
    refine wpAnyH_take (i := 5) (v := .string m.payload) (get_ops _ _ _ rfl) (by kernel_rfl) (by kernel_rfl) (by kernel_rfl) (fun _ _ _ h => h) (Or.inl ⟨by rfl, fun w hSw => by (try dsimp only at hSw); have kk := (HC.out w hSw).2.1; clear hSw; go_simp⟩) hHeld ?_
    try simp only [Act.put, List.setIfInBounds_toArray, List.set_cons_zero, List.set_cons_succ]
    refine wpAnyH_ready (rs := [3]) (by kernel_rfl) (by simp) ?_
    refine AllReadyH.cons (get_ops _ _ _ rfl) (fun K hK => ?_) AllReadyH.nil
    go_simp
    go_at_call 50
    refine (HR0.out A0 c0 _ (HX0.out.step hHeld)).mono ?_
    rintro e w1 ⟨v1, rfl, hown1, hb1⟩
    obtain ⟨A1, c1, rfl, _, hsl1⟩ := hown1.ret
    have HSL1 := Lib.hid hsl1
    clear hown1 hsl1
    go_wp2_with fail
    refine hK.out _ _ (stepB hHeld hb1) (fun hHeld => ?_)
    clear hK K
    try simp only [Act.put, List.setIfInBounds_toArray, List.set_cons_zero, List.set_cons_succ]
    refine wpAnyH_ready (rs := [6]) (by kernel_rfl) (by simp) ?_
    refine AllReadyH.cons (get_ops _ _ _ rfl) (fun K hK => ?_) AllReadyH.nil
    go_simp
    go_at_call 50
    refine (HR1.out A1 c1 _ HSL1.out).mono ?_
    rintro e w2 ⟨v2, rfl, hown2, hb2⟩
    obtain ⟨A2, c2, rfl, _, hsl2⟩ := hown2.ret
    have HSL2 := Lib.hid hsl2
    clear hown2 hsl2
    go_wp2_with fail
    refine hK.out _ _ (stepB hHeld hb2) (fun hHeld => ?_)
    clear hK K
    try simp only [Act.put, List.setIfInBounds_toArray, List.set_cons_zero, List.set_cons_succ]
    refine wpAnyH_take (i := 7) (v := .slice A2 T1.length c2) (get_ops _ _ _ rfl) (by kernel_rfl) (by kernel_rfl) (by kernel_rfl) (fun _ _ _ h => h) (Or.inl ⟨by rfl, fun w hSw => by (try dsimp only at hSw); go_simp⟩) hHeld ?_
    try simp only [Act.put, List.setIfInBounds_toArray, List.set_cons_zero, List.set_cons_succ]
    refine wpAnyH_done (by kernel_rfl) ?_ _
    have HH2 := Lib.hid hHeld
    clear hHeld hb1 hb2 HSL1 hbd HR0 HR1
    obtain ⟨k0, k1, k2, k3, k4, k5, k6, k7, k8⟩ := HC.out _ HH2.out
    go_wp2_with fail
    refine (HR2.out A2 c2 _ HSL2.out).mono ?_
    rintro e w3 ⟨v3, rfl, hown, hb⟩
    obtain ⟨A3, c3, rfl, _, hsl⟩ := hown.ret
    have HSL3 := Lib.hid hsl
    have HH3 := Lib.hid (stepB HH2.out hb)
    clear hown hsl hb k0 k1 k2 k3 k4 k5 k6 k7 k8 HSL2 HR2 HH2
    go_wp2_with fail
    refine (HR3.out A3 c3 _ HSL3.out).mono ?_
    rintro e w4 ⟨v4, rfl, hown, hb⟩
    obtain ⟨A4, c4, rfl, _, hsl⟩ := hown.ret
    have HSL4 := Lib.hid hsl
    have HH4 := Lib.hid (stepB HH3.out hb)
    clear hown hsl hb HSL3 HR3 HH3
    go_upto_region 6 with fail
    have hbd : Below w0.heap.size w0 w4.drew := stepB HH4.out (Below.refl _ _).drew
    refine wp_region_held_drew (S := fun w' => Below w0.heap.size w0 w') (by kernel_rfl) hbd (fun hHeld => ?_)
    refine wpAnyH_take (i := 0) (v := .slice A4 T3.length c4) (get_ops _ _ _ rfl) (by kernel_rfl) (by kernel_rfl) (by kernel_rfl) (fun _ _ _ h => h) (Or.inl ⟨by rfl, fun w hSw => by (try dsimp only at hSw); go_simp⟩) hHeld ?_
    try simp only [Act.put, List.setIfInBounds_toArray, List.set_cons_zero, List.set_cons_succ]
    refine wpAnyH_take (i := 1) (v := .pointer (some ⟨W.heap.size, 4, none⟩)) (get_ops _ _ _ rfl) (by kernel_rfl) (by kernel_rfl) (by kernel_rfl) (fun _ _ _ h => h) (Or.inl ⟨by rfl, fun w hSw => by (try dsimp only at hSw); go_simp⟩) hHeld ?_
    try simp only [Act.put, List.setIfInBounds_toArray, List.set_cons_zero, List.set_cons_succ]
    refine wpAnyH_take (i := 2) (v := .int .i64 m.prio) (get_ops _ _ _ rfl) (by kernel_rfl) (by kernel_rfl) (by kernel_rfl) (fun _ _ _ h => h) (Or.inl ⟨by rfl, fun w hSw => by (try dsimp only at hSw); have kk := (HC.out w hSw).2.2.2.2.1; clear hSw; go_simp⟩) hHeld ?_
    try simp only [Act.put, List.setIfInBounds_toArray, List.set_cons_zero, List.set_cons_succ]
    refine wpAnyH_take (i := 4) (v := .pointer (some ⟨W.heap.size, 5, none⟩)) (get_ops _ _ _ rfl) (by kernel_rfl) (by kernel_rfl) (by kernel_rfl) (fun _ _ _ h => h) (Or.inl ⟨by rfl, fun w hSw => by (try dsimp only at hSw); go_simp⟩) hHeld ?_
    try simp only [Act.put, List.setIfInBounds_toArray, List.set_cons_zero, List.set_cons_succ]
    refine wpAnyH_take (i := 5) (v := .int .i64 m.exps) (get_ops _ _ _ rfl) (by kernel_rfl) (by kernel_rfl) (by kernel_rfl) (fun _ _ _ h => h) (Or.inl ⟨by rfl, fun w hSw => by (try dsimp only at hSw); have kk := (HC.out w hSw).2.2.2.2.2.1; clear hSw; go_simp⟩) hHeld ?_
    try simp only [Act.put, List.setIfInBounds_toArray, List.set_cons_zero, List.set_cons_succ]
    refine wpAnyH_ready (rs := [3]) (by kernel_rfl) (by simp) ?_
    refine AllReadyH.cons (get_ops _ _ _ rfl) (fun K hK => ?_) AllReadyH.nil
    go_simp
    go_at_call 51
    refine (HR4.out A4 c4 _ (HSL4.out.step (Below.refl _ _).drew)).mono ?_
    rintro e w5 ⟨v5, rfl, hown5, hb5⟩
    obtain ⟨A5, c5, rfl, _, hsl5⟩ := hown5.ret
    have HSL5 := Lib.hid hsl5
    clear hown5 hsl5
    go_wp2_with fail
    refine hK.out _ _ (stepB hHeld hb5) (fun hHeld => ?_)
    clear hK K
    try simp only [Act.put, List.setIfInBounds_toArray, List.set_cons_zero, List.set_cons_succ]
    refine wpAnyH_ready (rs := [6]) (by kernel_rfl) (by simp) ?_
    refine AllReadyH.cons (get_ops _ _ _ rfl) (fun K hK => ?_) AllReadyH.nil
    go_simp
    go_at_call 51
    refine (HR5.out A5 c5 _ HSL5.out).mono ?_
    rintro e w6 ⟨v6, rfl, hown6, hb6⟩
    obtain ⟨A6, c6, rfl, _, hsl6⟩ := hown6.ret
    have HSL6 := Lib.hid hsl6
    clear hown6 hsl6
    go_wp2_with fail
    refine hK.out _ _ (stepB hHeld hb6) (fun hHeld => ?_)
    clear hK K
    try simp only [Act.put, List.setIfInBounds_toArray, List.set_cons_zero, List.set_cons_succ]
    refine wpAnyH_take (i := 7) (v := .slice A6 T5.length c6) (get_ops _ _ _ rfl) (by kernel_rfl) (by kernel_rfl) (by kernel_rfl) (fun _ _ _ h => h) (Or.inl ⟨by rfl, fun w hSw => by (try dsimp only at hSw); go_simp⟩) hHeld ?_
    try simp only [Act.put, List.setIfInBounds_toArray, List.set_cons_zero, List.set_cons_succ]
    refine wpAnyH_done (by kernel_rfl) ?_ _
    have HH6 := Lib.hid hHeld
    clear hHeld hb5 hb6 HSL5 hbd HR4 HR5 HSL4 HH4
    go_upto_region 7 with fail
    have hbd : Below w0.heap.size w0 w6.drew := stepB HH6.out (Below.refl _ _).drew
    refine wp_region_held_drew (S := fun w' => Below w0.heap.size w0 w') (by kernel_rfl) hbd (fun hHeld => ?_)
    refine wpAnyH_take (i := 0) (v := .slice A6 T5.length c6) (get_ops _ _ _ rfl) (by kernel_rfl) (by kernel_rfl) (by kernel_rfl) (fun _ _ _ h => h) (Or.inl ⟨by rfl, fun w hSw => by (try dsimp only at hSw); go_simp⟩) hHeld ?_
    try simp only [Act.put, List.setIfInBounds_toArray, List.set_cons_zero, List.set_cons_succ]
    refine wpAnyH_take (i := 1) (v := .pointer (some ⟨W.heap.size, 6, none⟩)) (get_ops _ _ _ rfl) (by kernel_rfl) (by kernel_rfl) (by kernel_rfl) (fun _ _ _ h => h) (Or.inl ⟨by rfl, fun w hSw => by (try dsimp only at hSw); go_simp⟩) hHeld ?_
    try simp only [Act.put, List.setIfInBounds_toArray, List.set_cons_zero, List.set_cons_succ]
    refine wpAnyH_take (i := 2) (v := .string m.frm) (get_ops _ _ _ rfl) (by kernel_rfl) (by kernel_rfl) (by kernel_rfl) (fun _ _ _ h => h) (Or.inl ⟨by rfl, fun w hSw => by (try dsimp only at hSw); have kk := (HC.out w hSw).2.2.2.2.2.2.1; clear hSw; go_simp⟩) hHeld ?_
    try simp only [Act.put, List.setIfInBounds_toArray, List.set_cons_zero, List.set_cons_succ]
    refine wpAnyH_take (i := 4) (v := .pointer (some ⟨W.heap.size, 7, none⟩)) (get_ops _ _ _ rfl) (by kernel_rfl) (by kernel_rfl) (by kernel_rfl) (fun _ _ _ h => h) (Or.inl ⟨by rfl, fun w hSw => by (try dsimp only at hSw); go_simp⟩) hHeld ?_
    try simp only [Act.put, List.setIfInBounds_toArray, List.set_cons_zero, List.set_cons_succ]
    refine wpAnyH_take (i := 5) (v := .int .i64 m.seq) (get_ops _ _ _ rfl) (by kernel_rfl) (by kernel_rfl) (by kernel_rfl) (fun _ _ _ h => h) (Or.inl ⟨by rfl, fun w hSw => by (try dsimp only at hSw); have kk := (HC.out w hSw).2.2.2.2.2.2.2.1; clear hSw; go_simp⟩) hHeld ?_
    try simp only [Act.put, List.setIfInBounds_toArray, List.set_cons_zero, List.set_cons_succ]
    refine wpAnyH_ready (rs := [3]) (by kernel_rfl) (by simp) ?_
    refine AllReadyH.cons (get_ops _ _ _ rfl) (fun K hK => ?_) AllReadyH.nil
    go_simp
    go_at_call 50
    refine (HR6.out A6 c6 _ (HSL6.out.step (Below.refl _ _).drew)).mono ?_
    rintro e w7 ⟨v7, rfl, hown7, hb7⟩
    obtain ⟨A7, c7, rfl, _, hsl7⟩ := hown7.ret
    have HSL7 := Lib.hid hsl7
    clear hown7 hsl7
    go_wp2_with fail
    refine hK.out _ _ (stepB hHeld hb7) (fun hHeld => ?_)
    clear hK K
    try simp only [Act.put, List.setIfInBounds_toArray, List.set_cons_zero, List.set_cons_succ]
    refine wpAnyH_ready (rs := [6]) (by kernel_rfl) (by simp) ?_
    refine AllReadyH.cons (get_ops _ _ _ rfl) (fun K hK => ?_) AllReadyH.nil
    go_simp
    go_at_call 51
    refine (HR7.out A7 c7 _ HSL7.out).mono ?_
    rintro e w8 ⟨v8, rfl, hown8, hb8⟩
    obtain ⟨A8, c8, rfl, _, hsl8⟩ := hown8.ret
    have HSL8 := Lib.hid hsl8
    clear hown8 hsl8
    go_wp2_with fail
    refine hK.out _ _ (stepB hHeld hb8) (fun hHeld => ?_)
    clear hK K
    try simp only [Act.put, List.setIfInBounds_toArray, List.set_cons_zero, List.set_cons_succ]
    refine wpAnyH_take (i := 7) (v := .slice A8 T7.length c8) (get_ops _ _ _ rfl) (by kernel_rfl) (by kernel_rfl) (by kernel_rfl) (fun _ _ _ h => h) (Or.inl ⟨by rfl, fun w hSw => by (try dsimp only at hSw); go_simp⟩) hHeld ?_
    try simp only [Act.put, List.setIfInBounds_toArray, List.set_cons_zero, List.set_cons_succ]
    refine wpAnyH_done (by kernel_rfl) ?_ _
    have HH8 := Lib.hid hHeld
    clear hHeld hb7 hb8 HSL7 hbd HR6 HR7 HSL6 HH6
    obtain ⟨k0, k1, k2, k3, k4, k5, k6, k7, k8⟩ := HC.out _ HH8.out
    go_wp2_with fail
    refine (HR8.out A8 c8 _ HSL8.out).mono ?_
    rintro e w9 ⟨v9, rfl, hown, hb⟩
    obtain ⟨A9, c9, rfl, _, hsl⟩ := hown.ret
    have HSL9 := Lib.hid hsl
    have HO9 := Lib.hid (hown.weak ((stepB HB0.out HH8.out).size))
    have HH9 := Lib.hid (stepB HH8.out hb)
    clear hown hsl hb k0 k1 k2 k3 k4 k5 k6 k7 k8 HSL8 HR8 HH8
    have hl20 : m.props.length ≤ 20 := H20.out
    go_wp2
    go_loopg [6, 7] m.props.length (fun g u i wr => ∃ k : Nat, k + g = m.props.length ∧ i = .int .i64 k ∧ (∃ A c, u = .slice A (TK k).length c ∧ CL bv wr wr.heap.size A (TK k)) ∧ Own 5 bv wr W.heap.size u (TK k) ∧ Below w0.heap.size w0 wr)
    case atStart => exact ⟨0, by omega, rfl, ⟨A9, c9, by rw [HZ0.out], by rw [HZ0.out]; exact HSL9.out⟩, by rw [HZ0.out]; exact HO9.out, HH9.out⟩
    case round =>
      obtain ⟨k, hkg, rfl, ⟨AK, cK, rfl, hcl⟩, hown, hb⟩ := hrel
      have HB := Lib.hid hb
      have HG := Lib.hid hkg
      have HK := Lib.hid hcl
      have HO := Lib.hid hown
      obtain ⟨_, _, _, _, _, _, _, _, k8⟩ := HC.out _ hb
      clear hcl hown
      cases gk with
      | zero =>
        obtain rfl : k = m.props.length := by omega
        have HBW := Lib.hid (stepB HB0.out HB.out)
        clear hkg hb
        go_wp2
        go_ret
        exact ⟨_, rfl, HO.out, HBW.out⟩
      | succ g =>
        have hlt : k < m.props.length := by omega
        have e3 : decide ((k : Int) < (m.props.length : Int)) = true := decide_eq_true (by omega)
        obtain ⟨x, hx⟩ : ∃ x, m.props[k]? = some x := ⟨_, List.getElem?_eq_getElem hlt⟩
        have HKV : Hid (∃ b o, A = some ⟨b, o, none⟩ ∧ ∀ wx, Below w0.heap.size w0 wx → wx.cell? ⟨b, o + k * 2, none⟩ = some (.string x.1) ∧ wx.cell? ⟨b, o + k * 2 + 1, none⟩ = some (.string x.2)) := Lib.hid (by
          obtain ⟨b, o, hA, hbB, _, _⟩ := PL.at_ HS0.out hx
          refine ⟨b, o, hA, fun wx h => ?_⟩
          obtain ⟨b', o', hA', _, h1, h2⟩ := PL.at_ (HS0.out.step h) hx
          rw [hA] at hA'
          simp only [Option.some.injEq, Addr.mk.injEq, and_true] at hA'
          obtain ⟨rfl, rfl⟩ := hA'
          exact ⟨h1, h2⟩)
        obtain ⟨b, o, hA, hkv⟩ := HKV.out
        subst hA
        have HV := Lib.hid hkv
        have j1 : (0 : Int) ≤ (k : Int) := by omega
        have j2 : (k : Int) < (m.props.length : Int) := by omega
        have HP1 := Lib.hid (HP.out k x hx)
        have HQ1 := Lib.hid (HQ.out k x hx)
        clear hx hkg hkv HKV
        generalize hT1 : TK k = TKk at HP1 HQ1 HK HO ⊢
        generalize TKk ++ encT x.1 = TM at HP1 HQ1
        have HT1 := Lib.hid hT1
        obtain ⟨TN, hTN⟩ : ∃ TN, TN = TK (k + 1) := ⟨_, rfl⟩
        rw [← hTN] at HQ1
        have HTN := Lib.hid hTN
        clear hT1 hTN hb
        go_upto_region 12 with fail
        have hbd : Below w0.heap.size w0 wr.drew := stepB HB.out (Below.refl _ _).drew
        refine wp_region_held_drew (S := fun w' => Below w0.heap.size w0 w') (by kernel_rfl) hbd (fun hHeld => ?_)
        refine wpAnyH_take (i := 0) (v := .slice AK TKk.length cK) (get_ops _ _ _ rfl) (by kernel_rfl) (by kernel_rfl) (by kernel_rfl) (fun _ _ _ h => h) (Or.inl ⟨by rfl, fun w hSw => by (try dsimp only at hSw); go_simp⟩) hHeld ?_
        try simp only [Act.put, List.setIfInBounds_toArray, List.set_cons_zero, List.set_cons_succ]
        refine wpAnyH_take (i := 1) (v := .pointer (some ⟨W.heap.size, 8, none⟩)) (get_ops _ _ _ rfl) (by kernel_rfl) (by kernel_rfl) (by kernel_rfl) (fun _ _ _ h => h) (Or.inl ⟨by rfl, fun w hSw => by (try dsimp only at hSw); go_simp⟩) hHeld ?_
        try simp only [Act.put, List.setIfInBounds_toArray, List.set_cons_zero, List.set_cons_succ]
        refine wpAnyH_take (i := 2) (v := .slice (some ⟨b, o, none⟩) m.props.length c) (get_ops _ _ _ rfl) (by kernel_rfl) (by kernel_rfl) (by kernel_rfl) (fun _ _ _ h => h) (Or.inl ⟨by rfl, fun w hSw => by (try dsimp only at hSw); have kk := (HC.out w hSw).2.2.2.2.2.2.2.2; clear hSw; go_simp⟩) hHeld ?_
        try simp only [Act.put, List.setIfInBounds_toArray, List.set_cons_zero, List.set_cons_succ]
        refine wpAnyH_take (i := 3) (v := .int .i64 (k : Int)) (get_ops _ _ _ rfl) (by kernel_rfl) (by kernel_rfl) (by kernel_rfl) (fun _ _ _ h => h) (Or.inl ⟨by rfl, fun w hSw => by (try dsimp only at hSw); go_simp⟩) hHeld ?_
        try simp only [Act.put, List.setIfInBounds_toArray, List.set_cons_zero, List.set_cons_succ]
        refine wpAnyH_take (i := 4) (v := .pointer (some ⟨b, o + k * 2, none⟩)) (get_ops _ _ _ rfl) (by kernel_rfl) (by kernel_rfl) (by kernel_rfl) (fun _ _ _ h => h) (Or.inl ⟨by rfl, fun w hSw => by (try dsimp only at hSw); go_simp⟩) hHeld ?_
        try simp only [Act.put, List.setIfInBounds_toArray, List.set_cons_zero, List.set_cons_succ]
        refine wpAnyH_take (i := 5) (v := .pointer (some ⟨b, o + k * 2, none⟩)) (get_ops _ _ _ rfl) (by kernel_rfl) (by kernel_rfl) (by kernel_rfl) (fun _ _ _ h => h) (Or.inl ⟨by rfl, fun w hSw => by (try dsimp only at hSw); go_simp⟩) hHeld ?_
        try simp only [Act.put, List.setIfInBounds_toArray, List.set_cons_zero, List.set_cons_succ]
        refine wpAnyH_take (i := 6) (v := .string x.1) (get_ops _ _ _ rfl) (by kernel_rfl) (by kernel_rfl) (by kernel_rfl) (fun _ _ _ h => h) (Or.inl ⟨by rfl, fun w hSw => by (try dsimp only at hSw); have kk := (HV.out w hSw).1; clear hSw; go_simp⟩) hHeld ?_
        try simp only [Act.put, List.setIfInBounds_toArray, List.set_cons_zero, List.set_cons_succ]
        refine wpAnyH_take (i := 8) (v := .pointer (some ⟨W.heap.size, 8, none⟩)) (get_ops _ _ _ rfl) (by kernel_rfl) (by kernel_rfl) (by kernel_rfl) (fun _ _ _ h => h) (Or.inl ⟨by rfl, fun w hSw => by (try dsimp only at hSw); go_simp⟩) hHeld ?_
        try simp only [Act.put, List.setIfInBounds_toArray, List.set_cons_zero, List.set_cons_succ]
        refine wpAnyH_take (i := 9) (v := .slice (some ⟨b, o, none⟩) m.props.length c) (get_ops _ _ _ rfl) (by kernel_rfl) (by kernel_rfl) (by kernel_rfl) (fun _ _ _ h => h) (Or.inl ⟨by rfl, fun w hSw => by (try dsimp only at hSw); have kk := (HC.out w hSw).2.2.2.2.2.2.2.2; clear hSw; go_simp⟩) hHeld ?_
        try simp only [Act.put, List.setIfInBounds_toArray, List.set_cons_zero, List.set_cons_succ]
        refine wpAnyH_take (i := 10) (v := .int .i64 (k : Int)) (get_ops _ _ _ rfl) (by kernel_rfl) (by kernel_rfl) (by kernel_rfl) (fun _ _ _ h => h) (Or.inl ⟨by rfl, fun w hSw => by (try dsimp only at hSw); go_simp⟩) hHeld ?_
        try simp only [Act.put, List.setIfInBounds_toArray, List.set_cons_zero, List.set_cons_succ]
        refine wpAnyH_take (i := 11) (v := .pointer (some ⟨b, o + k * 2, none⟩)) (get_ops _ _ _ rfl) (by kernel_rfl) (by kernel_rfl) (by kernel_rfl) (fun _ _ _ h => h) (Or.inl ⟨by rfl, fun w hSw => by (try dsimp only at hSw); go_simp⟩) hHeld ?_
        try simp only [Act.put, List.setIfInBounds_toArray, List.set_cons_zero, List.set_cons_succ]
        refine wpAnyH_take (i := 12) (v := .pointer (some ⟨b, o + k * 2 + 1, none⟩)) (get_ops _ _ _ rfl) (by kernel_rfl) (by kernel_rfl) (by kernel_rfl) (fun _ _ _ h => h) (Or.inl ⟨by rfl, fun w hSw => by (try dsimp only at hSw); go_simp⟩) hHeld ?_
        try simp only [Act.put, List.setIfInBounds_toArray, List.set_cons_zero, List.set_cons_succ]
        refine wpAnyH_take (i := 13) (v := .string x.2) (get_ops _ _ _ rfl) (by kernel_rfl) (by kernel_rfl) (by kernel_rfl) (fun _ _ _ h => h) (Or.inl ⟨by rfl, fun w hSw => by (try dsimp only at hSw); have kk := (HV.out w hSw).2; clear hSw; go_simp⟩) hHeld ?_
        try simp only [Act.put, List.setIfInBounds_toArray, List.set_cons_zero, List.set_cons_succ]
        refine wpAnyH_ready (rs := [7]) (by kernel_rfl) (by simp) ?_
        refine AllReadyH.cons (get_ops _ _ _ rfl) (fun K hK => ?_) AllReadyH.nil
        go_simp
        go_at_call 50
        refine (HP1.out AK cK _ (HK.out.step (Below.refl _ _).drew)).mono ?_
        rintro e w10 ⟨v10, rfl, hown10, hb10⟩
        obtain ⟨A10, c10, rfl, _, hsl10⟩ := hown10.ret
        have HSL10 := Lib.hid hsl10
        clear hown10 hsl10
        go_wp2_with fail
        refine hK.out _ _ (stepB hHeld hb10) (fun hHeld => ?_)
        clear hK K
        try simp only [Act.put, List.setIfInBounds_toArray, List.set_cons_zero, List.set_cons_succ]
        refine wpAnyH_ready (rs := [14]) (by kernel_rfl) (by simp) ?_
        refine AllReadyH.cons (get_ops _ _ _ rfl) (fun K hK => ?_) AllReadyH.nil
        go_simp
        go_at_call 50
        refine (HQ1.out A10 c10 _ HSL10.out).mono ?_
        rintro e w11 ⟨v11, rfl, hown11, hb11⟩
        obtain ⟨A11, c11, hv11, _, hsl11⟩ := hown11.ret
        subst hv11
        have HSL11 := Lib.hid hsl11
        have HO11 := Lib.hid (hown11.weak (by have := (stepB HB0.out (stepB HB.out (Below.refl _ _).drew)).size; have := hb10.size; simp at *; omega : W.heap.size ≤ _))
        clear hown11 hsl11
        go_wp2_with fail
        refine hK.out _ _ (stepB hHeld hb11) (fun hHeld => ?_)
        clear hK K
        try simp only [Act.put, List.setIfInBounds_toArray, List.set_cons_zero, List.set_cons_succ]
        refine wpAnyH_take (i := 15) (v := .slice A11 TN.length c11) (get_ops _ _ _ rfl) (by kernel_rfl) (by kernel_rfl) (by kernel_rfl) (fun _ _ _ h => h) (Or.inl ⟨by rfl, fun w hSw => by (try dsimp only at hSw); go_simp⟩) hHeld ?_
        try simp only [Act.put, List.setIfInBounds_toArray, List.set_cons_zero, List.set_cons_succ]
        refine wpAnyH_done (by kernel_rfl) ?_ _
        have HH11 := Lib.hid hHeld
        obtain ⟨_, _, _, _, _, _, _, _, k8'⟩ := HC.out _ hHeld
        clear hHeld hb10 hb11 hbd HSL10
        go_wp2
        go_roundg g
        case measure => omega
        case rel => exact ⟨k + 1, by have := HG.out; omega, by go_num, ⟨A11, c11, by rw [HTN.out], by rw [← HTN.out]; exact HSL11.out⟩, by rw [← HTN.out]; exact HO11.out, HH11.out⟩

theorem rPut_any (A0 : Option Addr) (c0 : Nat) (xs : List UInt8) (m : Msg) (A : Option Addr) (c : Nat) (W : World) (hx : CL bv W W.heap.size A0 xs) (hsl : PL W W.heap.size A m.props) (hf : m.fits) (hs : m.topic.size ≤ 100000 ∧ m.payload.size ≤ 100000 ∧ m.frm.size ≤ 100000 ∧ m.props.length ≤ 20 ∧ ∀ x ∈ m.props, x.1.size ≤ 100000 ∧ x.2.size ≤ 100000) (hn : xs.length ≤ 100000) :
    Calls Tryd.prog 30 #[.slice A0 xs.length c0, msgV m A c] W (RetB (xs ++ encM m) W) := by
  rw [encM_eq]
  exact rPut_core A0 c0 xs m m.retain _ (by cases m.retain <;> simp) A c W hx hsl hf hs hn

end Go.Proofs.YtlkkdompcbdbeaaDoor
