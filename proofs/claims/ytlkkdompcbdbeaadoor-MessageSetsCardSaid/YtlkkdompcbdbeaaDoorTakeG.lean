/-
  What reading a message yields, and what it leaves in its reader's block. Conditions: the bytes read as data; so many bytes fit a slice.
-/
import Derived.Test.YtlkkdompcbdbeaaDoorTakeM
namespace Go.Proofs.YtlkkdompcbdbeaaDoor
open Go.RowKit

/-- a message's block -/
def MB (w : World) (M : Nat) (vs : List Value) : Prop := w.heap[M]? = some (.cells vs.toArray 36 (0, 0))
section
variable {w w' : World} {M R : Nat} {vs : List Value}
theorem MB.cell (h : MB w M vs) (j : Nat) : w.cell? ⟨M, j, none⟩ = vs[j]? := by rw [cells_at h]; simp
theorem MB.free (h : MB w M vs) (j : Nat) : w.frozen? ⟨M, j, none⟩ = false := by
  unfold World.frozen?
  simp only [show w.heap[M]? = _ from h]
  simp
theorem MB.set (h : MB w M vs) (j : Nat) (u : Value) : MB (w.setCell ⟨M, j, none⟩ u) M (vs.set j u) := by
  have := heap_setCell_same w M j _ 36 u h
  unfold MB
  rw [this]
  simp
theorem MB.kr (h : MB w M vs) (hk : KR R w w') (hne : M ≠ R) : MB w' M vs := (hk.2 M (Array.getElem?_eq_some_iff.1 h).1 hne).trans h
theorem MB.other (h : MB w M vs) {p : Addr} (hp : M ≠ p.block) (u : Value) : MB (w.setCell p u) M vs := (heap_setCell_other w p M u hp).trans h
theorem RD.other {T : TypeId} {A : Option Addr} {c : Nat} {l : List UInt8} {st : Int × Int} (h : RD T w R A c l st) {p : Addr} (hp : R ≠ p.block) (u : Value) : RD T (w.setCell p u) R A c l st := h.to (heap_setCell_other w p R u hp)
theorem KR.setNew {w0 : World} (h : KR R w0 w) {p : Addr} (hp : w0.heap.size ≤ p.block) (hR : R ≤ w0.heap.size) (u : Value) : KR R w0 (w.setCell p u) := h.base (Below.setCell (Below.refl w0.heap.size w) hp u) (Nat.le_refl _) hR
theorem own_set {B : Nat} {v : Value} {xs : List PR} (h : OwnP w B v xs) {p : Addr} (hp : p.block < B) (u : Value) : OwnP (w.setCell p u) B v xs := by
  refine ⟨h.1, ?_⟩
  rcases h.2 with h0 | ⟨q, cap, cur, rfl, hb, hq, hnc, hcm, hcs, htake⟩
  · exact .inl h0
  · exact .inr ⟨q, cap, cur, rfl, hb, by rw [heap_setCell_other w p q u (by omega)]; exact hq, hnc, hcm, hcs, htake⟩
end
theorem RD.cells {T : TypeId} {R : Nat} {A : Option Addr} {c : Nat} {l : List UInt8} {st : Int × Int} {q : Nat} (hq : R ≠ q) : ∀ (vs : List Value) (o : Nat) (w : World), RD T w R A c l st → RD T (w.setCells q o vs) R A c l st
  | [], _, _, h => h
  | v :: r, o, w, h => by rw [World.setCells]; exact RD.cells hq r (o + 1) _ (RD.other h (p := ⟨q, o, none⟩) hq v)
theorem KR.cells {R q : Nat} {w0 : World} (hq : w0.heap.size ≤ q) (hR : R ≤ w0.heap.size) : ∀ (vs : List Value) (o : Nat) (w : World), KR R w0 w → KR R w0 (w.setCells q o vs)
  | [], _, _, h => h
  | v :: r, o, w, h => by rw [World.setCells]; exact KR.cells hq hR r (o + 1) _ (KR.setNew h (p := ⟨q, o, none⟩) hq hR v)
theorem own_cells {q B : Nat} {v : Value} {xs : List PR} (hq : q < B) : ∀ (vs : List Value) (o : Nat) (w : World), OwnP w B v xs → OwnP (w.setCells q o vs) B v xs
  | [], _, _, h => h
  | u :: r, o, w, h => by rw [World.setCells]; exact own_cells hq r (o + 1) _ (own_set h (p := ⟨q, o, none⟩) hq u)
def zM : List Value := [.string ⟨#[]⟩, .string ⟨#[]⟩, .int .i64 0, .bool false, .int .i64 0, .int .i64 0, .string ⟨#[]⟩, .int .i64 0, .slice none 0 0]
/-- the two new blocks of a reading method -/
theorem new_two {T : TypeId} {R : Nat} {A : Option Addr} {c : Nat} {l : List UInt8} {st : Int × Int} {w : World} (h : RD T w R A c l st) :
    ∃ wA, wA = (w.alloc (.cells zM.toArray 36)).alloc (.cells zM.toArray 36) ∧ RD T wA R A c l st ∧ MB wA w.heap.size zM ∧ MB wA (w.heap.size + 1) zM ∧ KR R w wA := by
  have hR := h.lt
  refine ⟨_, rfl, h.to ?_, ?_, ?_, ?_⟩
  · rw [heap_alloc_old _ _ (by simp; omega), heap_alloc_old _ _ hR]
  · unfold MB
    rw [heap_alloc_old _ _ (by simp)]
    exact heap_alloc_new w _
  · unfold MB
    have := heap_alloc_new (w.alloc (.cells zM.toArray 36)) (.cells zM.toArray 36)
    rw [show (w.alloc (.cells zM.toArray 36)).heap.size = w.heap.size + 1 by simp] at this
    exact this
  · exact KR.of_below (((Below.refl _ _).alloc (Nat.le_refl _) _).alloc (by simp) _) (by omega)
/-- a message and the reader left so -/
def RetM (T : TypeId) (R : Nat) (A : Option Addr) (c : Nat) (l : List UInt8) (m : Msg) (st : Int × Int) (w : World) (e : Ending) (w' : World) : Prop :=
  ∃ A' c', e = .returned (msgV m A' c') ∧ PL w' w'.heap.size A' m.props ∧ (∀ a, A' = some a → w.heap.size ≤ a.block) ∧ RD T w' R A c l st ∧ KR R w w'
theorem own_ge {w : World} {B : Nat} {A : Option Addr} {n c : Nat} {xs : List PR} (h : OwnP w B (.slice A n c) xs) : ∀ a, A = some a → B ≤ a.block := fun a e => by
  subst e
  exact (World.ownsRow.lt h a.block rfl).1

set_option maxRecDepth 50000 in
set_option maxHeartbeats 16000000 in
theorem mMsg_any (R : Nat) (A : Option Addr) (c : Nat) (l : List UInt8) (st : Int × Int) (w : World) (h : RD 65 w R A c l st) (hsl : CL bv w R A l) (hc : l.length ≤ c) (hn : l.length ≤ 140737488355328) :
    Calls Tryd.prog 52 #[.pointer (some ⟨R, 0, none⟩)] w (RetM 65 R A c l (mMsg l st).1 (mMsg l st).2 w) := by
  unfold mMsg
  dsimp only
  have H0 : Hid (∀ w, RD 65 w R A c l st → CL bv w R A l → Calls Tryd.prog 68 #[.pointer (some ⟨R, 0, none⟩), .int .i64 64] w (RetR 65 R A c l (.string (mText l 64 st).1) (mText l 64 st).2 w)) := Lib.hid (fun w h hs => mText_any R A c l 64 st w h hs hc hn)
  generalize mText l 64 st = r0 at H0 ⊢
  obtain ⟨a1, s1⟩ := r0
  dsimp only at H0 ⊢
  have H1 : Hid (∀ w, RD 65 w R A c l s1 → CL bv w R A l → Calls Tryd.prog 68 #[.pointer (some ⟨R, 0, none⟩), .int .i64 256] w (RetR 65 R A c l (.string (mText l 256 s1).1) (mText l 256 s1).2 w)) := Lib.hid (fun w h hs => mText_any R A c l 256 s1 w h hs hc hn)
  generalize mText l 256 s1 = r1 at H1 ⊢
  obtain ⟨a2, s2⟩ := r1
  dsimp only at H1 ⊢
  have H2 : Hid (∀ w, RD 65 w R A c l s2 → CL bv w R A l → Calls Tryd.prog 69 #[.pointer (some ⟨R, 0, none⟩)] w (RetR 65 R A c l (.int .i64 (mNum l s2).1) (mNum l s2).2 w)) := Lib.hid (fun w h hs => mNum_any R A c l s2 w h hs hc hn)
  generalize mNum l s2 = r2 at H2 ⊢
  obtain ⟨a3, s3⟩ := r2
  dsimp only at H2 ⊢
  have H3 : Hid (∀ w, RD 65 w R A c l s3 → CL bv w R A l → Calls Tryd.prog 70 #[.pointer (some ⟨R, 0, none⟩)] w (RetR 65 R A c l (.bool (mBit l s3).1) (mBit l s3).2 w)) := Lib.hid (fun w h hs => mBit_any R A c l s3 w h hs hc hn)
  generalize mBit l s3 = r3 at H3 ⊢
  obtain ⟨a4, s4⟩ := r3
  dsimp only at H3 ⊢
  have H4 : Hid (∀ w, RD 65 w R A c l s4 → CL bv w R A l → Calls Tryd.prog 69 #[.pointer (some ⟨R, 0, none⟩)] w (RetR 65 R A c l (.int .i64 (mNum l s4).1) (mNum l s4).2 w)) := Lib.hid (fun w h hs => mNum_any R A c l s4 w h hs hc hn)
  generalize mNum l s4 = r4 at H4 ⊢
  obtain ⟨a5, s5⟩ := r4
  dsimp only at H4 ⊢
  have H5 : Hid (∀ w, RD 65 w R A c l s5 → CL bv w R A l → Calls Tryd.prog 69 #[.pointer (some ⟨R, 0, none⟩)] w (RetR 65 R A c l (.int .i64 (mNum l s5).1) (mNum l s5).2 w)) := Lib.hid (fun w h hs => mNum_any R A c l s5 w h hs hc hn)
  generalize mNum l s5 = r5 at H5 ⊢
  obtain ⟨a6, s6⟩ := r5
  dsimp only at H5 ⊢
  have H6 : Hid (∀ w, RD 65 w R A c l s6 → CL bv w R A l → Calls Tryd.prog 68 #[.pointer (some ⟨R, 0, none⟩), .int .i64 16] w (RetR 65 R A c l (.string (mText l 16 s6).1) (mText l 16 s6).2 w)) := Lib.hid (fun w h hs => mText_any R A c l 16 s6 w h hs hc hn)
  generalize mText l 16 s6 = r6 at H6 ⊢
  obtain ⟨a7, s7⟩ := r6
  dsimp only at H6 ⊢
  have H7 : Hid (∀ w, RD 65 w R A c l s7 → CL bv w R A l → Calls Tryd.prog 69 #[.pointer (some ⟨R, 0, none⟩)] w (RetR 65 R A c l (.int .i64 (mNum l s7).1) (mNum l s7).2 w)) := Lib.hid (fun w h hs => mNum_any R A c l s7 w h hs hc hn)
  generalize mNum l s7 = r7 at H7 ⊢
  obtain ⟨a8, s8⟩ := r7
  dsimp only at H7 ⊢
  have H8 : Hid (∀ w, RD 65 w R A c l s8 → CL bv w R A l → Calls Tryd.prog 71 #[.pointer (some ⟨R, 0, none⟩)] w (RetPs R A c l (mProps l s8).1 (mProps l s8).2 w)) := Lib.hid (fun w h hs => mProps_any R A c l s8 w h hs hc hn)
  generalize mProps l s8 = r8 at H8 ⊢
  obtain ⟨a9, s9⟩ := r8
  dsimp only at H8 ⊢
  clear hc hn
  have HSL := Lib.hid hsl
  have hRw := h.lt
  obtain ⟨wA, hwA, hdA, hpA, hmA, hkA⟩ := new_two h
  have HD := Lib.hid hdA
  have HM := Lib.hid hmA
  have HP := Lib.hid hpA
  have HK := Lib.hid hkA
  have HWA := Lib.hid hwA
  clear hdA hmA hpA hkA hsl h hwA
  go_enter Tryd.func52, Tryd.ntmps52
  go_wp2_with fail
  change Calls Tryd.prog _ _ ((w.alloc (.cells zM.toArray 36)).alloc (.cells zM.toArray 36)) _
  rw [← HWA.out]
  refine (H0.out wA HD.out (HSL.out.below HK.out.1)).mono ?_
  rintro e w1 ⟨rfl, hd, hk⟩
  have hm := HM.out.kr hk (by omega)
  have hp := HP.out.kr hk (by omega)
  have hkr := HK.out.trans hk
  have kf : w1.cell? ⟨w.heap.size + 1, 0, none⟩ = some (.string ⟨#[]⟩) := hm.cell 0
  have ff : w1.frozen? ⟨w.heap.size + 1, 0, none⟩ = false := hm.free 0
  clear HD HM HP HK
  have HD := Lib.hid (hd.other (p := ⟨w.heap.size + 1, 0, none⟩) (by show R ≠ w.heap.size + 1; omega) (.string a1))
  have HM := Lib.hid (hm.set 0 (.string a1))
  have HP := Lib.hid (hp.other (p := ⟨w.heap.size + 1, 0, none⟩) (by show w.heap.size ≠ w.heap.size + 1; omega) (.string a1))
  have HK := Lib.hid (hkr.setNew (p := ⟨w.heap.size + 1, 0, none⟩) (by show w.heap.size ≤ w.heap.size + 1; omega) (by omega) (.string a1))
  clear hd hk hm hp hkr
  go_wp2_with fail
  clear kf ff
  refine (H1.out _ HD.out (HSL.out.below HK.out.1)).mono ?_
  rintro e w2 ⟨rfl, hd, hk⟩
  have hm := HM.out.kr hk (by omega)
  have hp := HP.out.kr hk (by omega)
  have hkr := HK.out.trans hk
  have kf : w2.cell? ⟨w.heap.size + 1, 1, none⟩ = some (.string ⟨#[]⟩) := hm.cell 1
  have ff : w2.frozen? ⟨w.heap.size + 1, 1, none⟩ = false := hm.free 1
  clear HD HM HP HK
  have HD := Lib.hid (hd.other (p := ⟨w.heap.size + 1, 1, none⟩) (by show R ≠ w.heap.size + 1; omega) (.string a2))
  have HM := Lib.hid (hm.set 1 (.string a2))
  have HP := Lib.hid (hp.other (p := ⟨w.heap.size + 1, 1, none⟩) (by show w.heap.size ≠ w.heap.size + 1; omega) (.string a2))
  have HK := Lib.hid (hkr.setNew (p := ⟨w.heap.size + 1, 1, none⟩) (by show w.heap.size ≤ w.heap.size + 1; omega) (by omega) (.string a2))
  clear hd hk hm hp hkr
  go_wp2_with fail
  clear kf ff
  refine (H2.out _ HD.out (HSL.out.below HK.out.1)).mono ?_
  rintro e w3 ⟨rfl, hd, hk⟩
  have hm := HM.out.kr hk (by omega)
  have hp := HP.out.kr hk (by omega)
  have hkr := HK.out.trans hk
  have kf : w3.cell? ⟨w.heap.size + 1, 2, none⟩ = some (.int .i64 0) := hm.cell 2
  have ff : w3.frozen? ⟨w.heap.size + 1, 2, none⟩ = false := hm.free 2
  clear HD HM HP HK
  have HD := Lib.hid (hd.other (p := ⟨w.heap.size + 1, 2, none⟩) (by show R ≠ w.heap.size + 1; omega) (.int .i64 a3))
  have HM := Lib.hid (hm.set 2 (.int .i64 a3))
  have HP := Lib.hid (hp.other (p := ⟨w.heap.size + 1, 2, none⟩) (by show w.heap.size ≠ w.heap.size + 1; omega) (.int .i64 a3))
  have HK := Lib.hid (hkr.setNew (p := ⟨w.heap.size + 1, 2, none⟩) (by show w.heap.size ≤ w.heap.size + 1; omega) (by omega) (.int .i64 a3))
  clear hd hk hm hp hkr
  go_wp2_with fail
  clear kf ff
  refine (H3.out _ HD.out (HSL.out.below HK.out.1)).mono ?_
  rintro e w4 ⟨rfl, hd, hk⟩
  have hm := HM.out.kr hk (by omega)
  have hp := HP.out.kr hk (by omega)
  have hkr := HK.out.trans hk
  have kf : w4.cell? ⟨w.heap.size + 1, 3, none⟩ = some (.bool false) := hm.cell 3
  have ff : w4.frozen? ⟨w.heap.size + 1, 3, none⟩ = false := hm.free 3
  clear HD HM HP HK
  have HD := Lib.hid (hd.other (p := ⟨w.heap.size + 1, 3, none⟩) (by show R ≠ w.heap.size + 1; omega) (.bool a4))
  have HM := Lib.hid (hm.set 3 (.bool a4))
  have HP := Lib.hid (hp.other (p := ⟨w.heap.size + 1, 3, none⟩) (by show w.heap.size ≠ w.heap.size + 1; omega) (.bool a4))
  have HK := Lib.hid (hkr.setNew (p := ⟨w.heap.size + 1, 3, none⟩) (by show w.heap.size ≤ w.heap.size + 1; omega) (by omega) (.bool a4))
  clear hd hk hm hp hkr
  go_wp2_with fail
  clear kf ff
  refine (H4.out _ HD.out (HSL.out.below HK.out.1)).mono ?_
  rintro e w5 ⟨rfl, hd, hk⟩
  have hm := HM.out.kr hk (by omega)
  have hp := HP.out.kr hk (by omega)
  have hkr := HK.out.trans hk
  have kf : w5.cell? ⟨w.heap.size + 1, 4, none⟩ = some (.int .i64 0) := hm.cell 4
  have ff : w5.frozen? ⟨w.heap.size + 1, 4, none⟩ = false := hm.free 4
  clear HD HM HP HK
  have HD := Lib.hid (hd.other (p := ⟨w.heap.size + 1, 4, none⟩) (by show R ≠ w.heap.size + 1; omega) (.int .i64 a5))
  have HM := Lib.hid (hm.set 4 (.int .i64 a5))
  have HP := Lib.hid (hp.other (p := ⟨w.heap.size + 1, 4, none⟩) (by show w.heap.size ≠ w.heap.size + 1; omega) (.int .i64 a5))
  have HK := Lib.hid (hkr.setNew (p := ⟨w.heap.size + 1, 4, none⟩) (by show w.heap.size ≤ w.heap.size + 1; omega) (by omega) (.int .i64 a5))
  clear hd hk hm hp hkr
  go_wp2_with fail
  clear kf ff
  refine (H5.out _ HD.out (HSL.out.below HK.out.1)).mono ?_
  rintro e w6 ⟨rfl, hd, hk⟩
  have hm := HM.out.kr hk (by omega)
  have hp := HP.out.kr hk (by omega)
  have hkr := HK.out.trans hk
  have kf : w6.cell? ⟨w.heap.size + 1, 5, none⟩ = some (.int .i64 0) := hm.cell 5
  have ff : w6.frozen? ⟨w.heap.size + 1, 5, none⟩ = false := hm.free 5
  clear HD HM HP HK
  have HD := Lib.hid (hd.other (p := ⟨w.heap.size + 1, 5, none⟩) (by show R ≠ w.heap.size + 1; omega) (.int .i64 a6))
  have HM := Lib.hid (hm.set 5 (.int .i64 a6))
  have HP := Lib.hid (hp.other (p := ⟨w.heap.size + 1, 5, none⟩) (by show w.heap.size ≠ w.heap.size + 1; omega) (.int .i64 a6))
  have HK := Lib.hid (hkr.setNew (p := ⟨w.heap.size + 1, 5, none⟩) (by show w.heap.size ≤ w.heap.size + 1; omega) (by omega) (.int .i64 a6))
  clear hd hk hm hp hkr
  go_wp2_with fail
  clear kf ff
  refine (H6.out _ HD.out (HSL.out.below HK.out.1)).mono ?_
  rintro e w7 ⟨rfl, hd, hk⟩
  have hm := HM.out.kr hk (by omega)
  have hp := HP.out.kr hk (by omega)
  have hkr := HK.out.trans hk
  have kf : w7.cell? ⟨w.heap.size + 1, 6, none⟩ = some (.string ⟨#[]⟩) := hm.cell 6
  have ff : w7.frozen? ⟨w.heap.size + 1, 6, none⟩ = false := hm.free 6
  clear HD HM HP HK
  have HD := Lib.hid (hd.other (p := ⟨w.heap.size + 1, 6, none⟩) (by show R ≠ w.heap.size + 1; omega) (.string a7))
  have HM := Lib.hid (hm.set 6 (.string a7))
  have HP := Lib.hid (hp.other (p := ⟨w.heap.size + 1, 6, none⟩) (by show w.heap.size ≠ w.heap.size + 1; omega) (.string a7))
  have HK := Lib.hid (hkr.setNew (p := ⟨w.heap.size + 1, 6, none⟩) (by show w.heap.size ≤ w.heap.size + 1; omega) (by omega) (.string a7))
  clear hd hk hm hp hkr
  go_wp2_with fail
  clear kf ff
  refine (H7.out _ HD.out (HSL.out.below HK.out.1)).mono ?_
  rintro e w8 ⟨rfl, hd, hk⟩
  have hm := HM.out.kr hk (by omega)
  have hp := HP.out.kr hk (by omega)
  have hkr := HK.out.trans hk
  have kf : w8.cell? ⟨w.heap.size + 1, 7, none⟩ = some (.int .i64 0) := hm.cell 7
  have ff : w8.frozen? ⟨w.heap.size + 1, 7, none⟩ = false := hm.free 7
  clear HD HM HP HK
  have HD := Lib.hid (hd.other (p := ⟨w.heap.size + 1, 7, none⟩) (by show R ≠ w.heap.size + 1; omega) (.int .i64 a8))
  have HM := Lib.hid (hm.set 7 (.int .i64 a8))
  have HP := Lib.hid (hp.other (p := ⟨w.heap.size + 1, 7, none⟩) (by show w.heap.size ≠ w.heap.size + 1; omega) (.int .i64 a8))
  have HK := Lib.hid (hkr.setNew (p := ⟨w.heap.size + 1, 7, none⟩) (by show w.heap.size ≤ w.heap.size + 1; omega) (by omega) (.int .i64 a8))
  clear hd hk hm hp hkr
  go_wp2_with fail
  clear kf ff
  refine (H8.out _ HD.out (HSL.out.below HK.out.1)).mono ?_
  rintro e w9 ⟨v9, rfl, hown, hd, hk⟩
  have hB : w.heap.size + 2 ≤ _ := (Array.getElem?_eq_some_iff.1 HM.out).1
  have hown := OwnG.weak hown hB
  have hm := HM.out.kr hk (by omega)
  have hp := HP.out.kr hk (by omega)
  have hkr := HK.out.trans hk
  obtain ⟨A9, c9, hv, _, _⟩ := OwnG.ret gP_len hown
  subst hv
  have kf : w9.cell? ⟨w.heap.size + 1, 8, none⟩ = some (.slice none 0 0) := hm.cell 8
  have ff : w9.frozen? ⟨w.heap.size + 1, 8, none⟩ = false := hm.free 8
  clear HD HM HP HK hB
  go_upto_region 11 with fail
  obtain ⟨wX, hwX⟩ : ∃ wX, wX = w9.setCell ⟨w.heap.size + 1, 8, none⟩ (.slice A9 a9.length c9) := ⟨_, rfl⟩
  have hdX := hd.other (p := ⟨w.heap.size + 1, 8, none⟩) (by show R ≠ w.heap.size + 1; omega) (.slice A9 a9.length c9)
  have hmX := hm.set 8 (.slice A9 a9.length c9)
  have hpX := hp.other (p := ⟨w.heap.size + 1, 8, none⟩) (by show w.heap.size ≠ w.heap.size + 1; omega) (.slice A9 a9.length c9)
  have hkX := hkr.setNew (p := ⟨w.heap.size + 1, 8, none⟩) (by show w.heap.size ≤ w.heap.size + 1; omega) (by omega) (.slice A9 a9.length c9)
  have hoX := own_set hown (p := ⟨w.heap.size + 1, 8, none⟩) (by show w.heap.size + 1 < w.heap.size + 2; omega) (.slice A9 a9.length c9)
  rw [← hwX] at hdX hmX hpX hkX hoX ⊢
  clear hwX hd hm hp hkr hown kf ff hk
  have m0 : wX.cell? ⟨w.heap.size + 1, 0, none⟩ = some (.string a1) := hmX.cell 0
  have m1 : wX.cell? ⟨w.heap.size + 1, 1, none⟩ = some (.string a2) := hmX.cell 1
  have m2 : wX.cell? ⟨w.heap.size + 1, 2, none⟩ = some (.int .i64 a3) := hmX.cell 2
  have m3 : wX.cell? ⟨w.heap.size + 1, 3, none⟩ = some (.bool a4) := hmX.cell 3
  have m4 : wX.cell? ⟨w.heap.size + 1, 4, none⟩ = some (.int .i64 a5) := hmX.cell 4
  have m5 : wX.cell? ⟨w.heap.size + 1, 5, none⟩ = some (.int .i64 a6) := hmX.cell 5
  have m6 : wX.cell? ⟨w.heap.size + 1, 6, none⟩ = some (.string a7) := hmX.cell 6
  have m7 : wX.cell? ⟨w.heap.size + 1, 7, none⟩ = some (.int .i64 a8) := hmX.cell 7
  have m8 : wX.cell? ⟨w.heap.size + 1, 8, none⟩ = some (.slice A9 a9.length c9) := hmX.cell 8
  have p0 : wX.cell? ⟨w.heap.size, 0, none⟩ = some (.string ⟨#[]⟩) := hpX.cell 0
  have z0 : wX.frozen? ⟨w.heap.size, 0, none⟩ = false := hpX.free 0
  have p1 : wX.cell? ⟨w.heap.size, 1, none⟩ = some (.string ⟨#[]⟩) := hpX.cell 1
  have z1 : wX.frozen? ⟨w.heap.size, 1, none⟩ = false := hpX.free 1
  have p2 : wX.cell? ⟨w.heap.size, 2, none⟩ = some (.int .i64 0) := hpX.cell 2
  have z2 : wX.frozen? ⟨w.heap.size, 2, none⟩ = false := hpX.free 2
  have p3 : wX.cell? ⟨w.heap.size, 3, none⟩ = some (.bool false) := hpX.cell 3
  have z3 : wX.frozen? ⟨w.heap.size, 3, none⟩ = false := hpX.free 3
  have p4 : wX.cell? ⟨w.heap.size, 4, none⟩ = some (.int .i64 0) := hpX.cell 4
  have z4 : wX.frozen? ⟨w.heap.size, 4, none⟩ = false := hpX.free 4
  have p5 : wX.cell? ⟨w.heap.size, 5, none⟩ = some (.int .i64 0) := hpX.cell 5
  have z5 : wX.frozen? ⟨w.heap.size, 5, none⟩ = false := hpX.free 5
  have p6 : wX.cell? ⟨w.heap.size, 6, none⟩ = some (.string ⟨#[]⟩) := hpX.cell 6
  have z6 : wX.frozen? ⟨w.heap.size, 6, none⟩ = false := hpX.free 6
  have p7 : wX.cell? ⟨w.heap.size, 7, none⟩ = some (.int .i64 0) := hpX.cell 7
  have z7 : wX.frozen? ⟨w.heap.size, 7, none⟩ = false := hpX.free 7
  have p8 : wX.cell? ⟨w.heap.size, 8, none⟩ = some (.slice none 0 0) := hpX.cell 8
  have z8 : wX.frozen? ⟨w.heap.size, 8, none⟩ = false := hpX.free 8
  obtain ⟨wY, hwY⟩ : ∃ wY, wY = wX.setCells w.heap.size 0 [.string a1, .string a2, .int .i64 a3, .bool a4, .int .i64 a5, .int .i64 a6, .string a7, .int .i64 a8, .slice A9 a9.length c9] := ⟨_, rfl⟩
  have hdY : RD 65 wY R A c l s9 := by rw [hwY]; exact RD.cells (by omega) _ 0 wX hdX
  have hpY : MB wY w.heap.size [.string a1, .string a2, .int .i64 a3, .bool a4, .int .i64 a5, .int .i64 a6, .string a7, .int .i64 a8, .slice A9 a9.length c9] := by rw [hwY]; exact MB.set (MB.set (MB.set (MB.set (MB.set (MB.set (MB.set (MB.set (MB.set (hpX) 0 (.string a1)) 1 (.string a2)) 2 (.int .i64 a3)) 3 (.bool a4)) 4 (.int .i64 a5)) 5 (.int .i64 a6)) 6 (.string a7)) 7 (.int .i64 a8)) 8 (.slice A9 a9.length c9)
  have y0 : wY.cell? ⟨w.heap.size, 0, none⟩ = some (.string a1) := hpY.cell 0
  have y1 : wY.cell? ⟨w.heap.size, 1, none⟩ = some (.string a2) := hpY.cell 1
  have y2 : wY.cell? ⟨w.heap.size, 2, none⟩ = some (.int .i64 a3) := hpY.cell 2
  have y3 : wY.cell? ⟨w.heap.size, 3, none⟩ = some (.bool a4) := hpY.cell 3
  have y4 : wY.cell? ⟨w.heap.size, 4, none⟩ = some (.int .i64 a5) := hpY.cell 4
  have y5 : wY.cell? ⟨w.heap.size, 5, none⟩ = some (.int .i64 a6) := hpY.cell 5
  have y6 : wY.cell? ⟨w.heap.size, 6, none⟩ = some (.string a7) := hpY.cell 6
  have y7 : wY.cell? ⟨w.heap.size, 7, none⟩ = some (.int .i64 a8) := hpY.cell 7
  have y8 : wY.cell? ⟨w.heap.size, 8, none⟩ = some (.slice A9 a9.length c9) := hpY.cell 8
  have hkY : KR R w wY := by rw [hwY]; exact KR.cells (Nat.le_refl _) (by omega) _ 0 wX hkX
  have hoY : OwnP wY (w.heap.size + 2) (.slice A9 a9.length c9) a9 := by rw [hwY]; exact own_cells (by omega) _ 0 wX hoX
  obtain ⟨A', c', he, _, hplY⟩ := OwnG.ret gP_len hoY
  injection he with e1 _ e3
  subst e1 e3
  have HGE := Lib.hid (own_ge hoY)
  have HDY := Lib.hid hdY
  have HKY := Lib.hid hkY
  have HPY := Lib.hid hplY
  have HWY := Lib.hid hwY
  clear hdY hpY hkY hoY hplY hwY hdX hkX hoX hmX hpX
  go_wp2
  change bodyPost _ _ _ _ _ (World.setCells wX w.heap.size 0 [.string a1, .string a2, .int .i64 a3, .bool a4, .int .i64 a5, .int .i64 a6, .string a7, .int .i64 a8, .slice A9 a9.length c9])
  rw [← HWY.out]
  refine bodyPost_ret (v := .agg #[.string a1, .string a2, .int .i64 a3, .bool a4, .int .i64 a5, .int .i64 a6, .string a7, .int .i64 a8, .slice A9 a9.length c9]) (by simp [results, Tryd.results52, go_sem, y0, y1, y2, y3, y4, y5, y6, y7, y8]) rfl ⟨_, _, rfl, HPY.out, (fun a e => Nat.le_trans (by omega) (HGE.out a e)), HDY.out, HKY.out⟩


end Go.Proofs.YtlkkdompcbdbeaaDoor
