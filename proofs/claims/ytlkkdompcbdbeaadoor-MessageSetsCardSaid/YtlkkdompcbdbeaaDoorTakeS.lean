/-
  What reading a message yields, and what it leaves in its reader's block: the specification's. Conditions: the bytes read as data; so many bytes fit a slice.
-/
import Derived.Test.YtlkkdompcbdbeaaDoorTakeG
import Derived.Deep.RegionHeld3
namespace Go.Proofs.YtlkkdompcbdbeaaDoor
open Go.RowKit

/-- in the blocks below B but the reader's nothing has changed -/
def Kp (B R : Nat) (w w' : World) : Prop := Below R w w' ∧ ∀ k, k < B → k ≠ R → w'.heap[k]? = w.heap[k]?
section
variable {w w1 w2 : World} {B R : Nat}
theorem KR.kp (h : KR R w w1) (hB : B ≤ w.heap.size) : Kp B R w w1 := ⟨h.1, fun k hk hne => h.2 k (by omega) hne⟩
theorem Kp.trans (h : Kp B R w w1) (h' : Kp B R w1 w2) : Kp B R w w2 := ⟨h.1.trans h'.1, fun k hk hne => (h'.2 k hk hne).trans (h.2 k hk hne)⟩
theorem Kp.drew (B R : Nat) (w : World) : Kp B R w w.drew := ⟨(Below.refl _ _).drew, fun _ _ _ => rfl⟩
theorem Kp.of_below (h : Below B w w1) (hR : R ≤ B) : Kp B R w w1 := ⟨h.mono hR, fun k hk _ => h.block k hk⟩
theorem Kp.set (h : Kp B R w w1) {p : Addr} (hp : B ≤ p.block) (hR : R ≤ B) (u : Value) : Kp B R w (w1.setCell p u) := h.trans (Kp.of_below (Below.setCell (Below.refl B w1) hp u) hR)
theorem KR.kpT {w0 : World} (h : KR R w0 w) (h' : Kp B R w w1) (hB : w0.heap.size ≤ B) : KR R w0 w1 := ⟨h.1.trans h'.1, fun k hk hne => (h'.2 k (by omega) hne).trans (h.2 k hk hne)⟩
theorem MB.kp {M : Nat} {vs : List Value} (h : MB w M vs) (hk : Kp B R w w1) (hM : M < B) (hne : M ≠ R) : MB w1 M vs := (hk.2 M hM hne).trans h
end
theorem MB.alloc {w : World} {M : Nat} {vs : List Value} (h : MB w M vs) (o : Obj) : MB (w.alloc o) M vs := (heap_alloc_old w o (Array.getElem?_eq_some_iff.1 h).1).trans h
theorem oper_appP1 {o : Oper} {a : Act} {K : Act → World → Prop} {Q : Exit → Act → World → Prop} (wr : World) (s x : Operand) (ho : o.op = .call { callee := .builtin .append, args := #[s, x], argTypes := #[22, 22] })
    (B : Nat) (v : Value) (xs : List PR) (k u : ByteArray) (hown : OwnP wr B v xs) (hs : a.eval s = v) (hx : a.eval x = .slice (some ⟨wr.heap.size, 0, none⟩) 1 1) (hB : B ≤ wr.heap.size)
    (hn : xs.length ≤ 100000) (h : ∀ v' w', OwnP w' B v' (xs ++ [(k, u)]) → Below B wr w' → B ≤ w'.heap.size → K (a.put o.dst v') w') : Oper.wp Tryd.prog o a (wr.alloc (.cells #[.string k, .string u] 34)) K Q := by
  obtain ⟨i, hi, hz, hz1, hz2⟩ := info_parts infoP
  obtain ⟨v', w', hr, h2, h3⟩ := run_append_own_src (P := Tryd.prog) (wr.alloc (.cells (gP (k, u)).toArray 34)) B 22 22 o.type 34 i (.agg #[.string ByteArray.empty, .string ByteArray.empty]) 2 32 Tryd.underlying22 hi hz hz1 hz2 rfl (by decide) v xs.length (xs.flatMap gP) (OwnG.alloc hown _) _ 1 ([(k, u)].flatMap gP) (srcG_one gP_len gP_one Tryd.underlying22 wr (k, u)) (by unfold maxLen; omega) (by omega) (by simp; omega)
  have hb0 : Below B wr (wr.alloc (.cells (gP (k, u)).toArray 34)) := (Below.refl _ _).alloc hB _
  unfold Oper.wp execOp
  change (_ : Prop)
  simp only [ho, resolve, invoke, builtin, Sem.run_bind, Sem.run_pure, Result.andThen_ok, List.map_toArray, List.map_cons, List.map_nil, hs, hx]
  rw [show (Sem.run Tryd.prog (Builtin.append_ #[22, 22] o.type #[v, Value.slice (some ⟨wr.heap.size, 0, none⟩) 1 1]) (wr.alloc (.cells #[.string k, .string u] 34))) = _ from hr]
  refine h v' w' ?_ (hb0.grown h3 (by simp; omega) (fun j hj => (World.ownsRow.lt hown j hj).1)) (by have := h3.size; simp at this; omega)
  unfold OwnP OwnG
  simpa [List.flatMap_append] using h2
theorem sCount_le {l : List UInt8} {st : Int × Int} : 0 ≤ (sCount l 8 st).1 ∧ (sCount l 8 st).1 ≤ 8 := by
  unfold sCount
  split
  · exact (⟨by decide, by decide⟩ : (0 : Int) ≤ 0 ∧ (0 : Int) ≤ 8)
  · split
    · exact (⟨by decide, by decide⟩ : (0 : Int) ≤ 0 ∧ (0 : Int) ≤ 8)
    · next h1 h2 =>
      generalize hr : countR l st.1 8 = r at h2
      obtain ⟨n, nx, e⟩ := r
      dsimp only at h2 ⊢
      obtain rfl : e = 0 := by omega
      obtain ⟨k, j, m, _, _, rfl, hm, _⟩ := countR_ok hr
      exact ⟨by omega, by omega⟩

set_option maxRecDepth 50000 in
set_option maxHeartbeats 16000000 in
theorem sMsg_any (R : Nat) (A : Option Addr) (c : Nat) (l : List UInt8) (st : Int × Int) (w : World) (h : RD 68 w R A c l st) (hsl : CL bv w R A l) (hc : l.length ≤ c) (hn : l.length ≤ 140737488355328) :
    Calls Tryd.prog 53 #[.pointer (some ⟨R, 0, none⟩)] w (RetM 68 R A c l (sMsg l st).1 (sMsg l st).2 w) := by
  unfold sMsg
  dsimp only
  have H0 : Hid (∀ w, RD 68 w R A c l st → CL bv w R A l → Calls Tryd.prog 72 #[.pointer (some ⟨R, 0, none⟩), .int .i64 64] w (RetR 68 R A c l (.string (sText l 64 st).1) (sText l 64 st).2 w)) := Lib.hid (fun w h hs => sText_any R A c l 64 st w h hs hc hn)
  generalize sText l 64 st = r0 at H0 ⊢
  obtain ⟨a1, s1⟩ := r0
  dsimp only at H0 ⊢
  have H1 : Hid (∀ w, RD 68 w R A c l s1 → CL bv w R A l → Calls Tryd.prog 72 #[.pointer (some ⟨R, 0, none⟩), .int .i64 256] w (RetR 68 R A c l (.string (sText l 256 s1).1) (sText l 256 s1).2 w)) := Lib.hid (fun w h hs => sText_any R A c l 256 s1 w h hs hc hn)
  generalize sText l 256 s1 = r1 at H1 ⊢
  obtain ⟨a2, s2⟩ := r1
  dsimp only at H1 ⊢
  have H2 : Hid (∀ w, RD 68 w R A c l s2 → CL bv w R A l → Calls Tryd.prog 73 #[.pointer (some ⟨R, 0, none⟩)] w (RetR 68 R A c l (.int .i64 (sNum l s2).1) (sNum l s2).2 w)) := Lib.hid (fun w h hs => sNum_any R A c l s2 w h hs hc hn)
  generalize sNum l s2 = r2 at H2 ⊢
  obtain ⟨a3, s3⟩ := r2
  dsimp only at H2 ⊢
  have H3 : Hid (∀ w, RD 68 w R A c l s3 → CL bv w R A l → Calls Tryd.prog 74 #[.pointer (some ⟨R, 0, none⟩), .int .i64 2] w (RetR 68 R A c l (.int .i64 (sBelow l 2 s3).1) (sBelow l 2 s3).2 w)) := Lib.hid (fun w h hs => sBelow_any R A c l s3 w h hs hc hn)
  generalize sBelow l 2 s3 = r3 at H3 ⊢
  obtain ⟨a4, s4⟩ := r3
  dsimp only at H3 ⊢
  obtain ⟨b4, hb4, hb4'⟩ : ∃ b : Bool, (a4 == 1) = b ∧ decide (a4 = 1) = b := ⟨_, rfl, by rw [Bool.eq_iff_iff]; simp⟩
  rw [hb4']
  clear hb4'
  have H4 : Hid (∀ w, RD 68 w R A c l s4 → CL bv w R A l → Calls Tryd.prog 73 #[.pointer (some ⟨R, 0, none⟩)] w (RetR 68 R A c l (.int .i64 (sNum l s4).1) (sNum l s4).2 w)) := Lib.hid (fun w h hs => sNum_any R A c l s4 w h hs hc hn)
  generalize sNum l s4 = r4 at H4 ⊢
  obtain ⟨a5, s5⟩ := r4
  dsimp only at H4 ⊢
  have H5 : Hid (∀ w, RD 68 w R A c l s5 → CL bv w R A l → Calls Tryd.prog 73 #[.pointer (some ⟨R, 0, none⟩)] w (RetR 68 R A c l (.int .i64 (sNum l s5).1) (sNum l s5).2 w)) := Lib.hid (fun w h hs => sNum_any R A c l s5 w h hs hc hn)
  generalize sNum l s5 = r5 at H5 ⊢
  obtain ⟨a6, s6⟩ := r5
  dsimp only at H5 ⊢
  have H6 : Hid (∀ w, RD 68 w R A c l s6 → CL bv w R A l → Calls Tryd.prog 72 #[.pointer (some ⟨R, 0, none⟩), .int .i64 16] w (RetR 68 R A c l (.string (sText l 16 s6).1) (sText l 16 s6).2 w)) := Lib.hid (fun w h hs => sText_any R A c l 16 s6 w h hs hc hn)
  generalize sText l 16 s6 = r6 at H6 ⊢
  obtain ⟨a7, s7⟩ := r6
  dsimp only at H6 ⊢
  have H7 : Hid (∀ w, RD 68 w R A c l s7 → CL bv w R A l → Calls Tryd.prog 73 #[.pointer (some ⟨R, 0, none⟩)] w (RetR 68 R A c l (.int .i64 (sNum l s7).1) (sNum l s7).2 w)) := Lib.hid (fun w h hs => sNum_any R A c l s7 w h hs hc hn)
  generalize sNum l s7 = r7 at H7 ⊢
  obtain ⟨a8, s8⟩ := r7
  dsimp only at H7 ⊢
  have H8 : Hid (∀ w, RD 68 w R A c l s8 → CL bv w R A l → Calls Tryd.prog 75 #[.pointer (some ⟨R, 0, none⟩), .int .i64 8] w (RetR 68 R A c l (.int .i64 (sCount l 8 s8).1) (sCount l 8 s8).2 w)) := Lib.hid (fun w h hs => sCount_any R A c l 8 s8 w h hs hc hn)
  have hle := @sCount_le l s8
  generalize sCount l 8 s8 = r8 at H8 hle ⊢
  obtain ⟨n9, s9⟩ := r8
  dsimp only at H8 hle ⊢
  obtain ⟨N, rfl⟩ : ∃ N : Nat, n9 = N := ⟨n9.toNat, by omega⟩
  rw [Int.toNat_natCast]
  have hN8 : N ≤ 8 := by omega
  obtain ⟨FIN, hFIN⟩ : ∃ F, F = sPropsF l N s9 [] := ⟨_, rfl⟩
  rw [← hFIN]
  have HF := Lib.hid hFIN
  have HTX := Lib.hid (fun lim s w h hs => sText_any R A c l lim s w h hs hc hn)
  clear hc hn hFIN hle
  have HSL := Lib.hid hsl
  have hRw := h.lt
  obtain ⟨wA, hwA, hdA, hpA, hmA, hkA⟩ := new_two h
  have HD := Lib.hid hdA
  have HM := Lib.hid hmA
  have HP := Lib.hid hpA
  have HK := Lib.hid hkA
  have HWA := Lib.hid hwA
  clear hdA hmA hpA hkA hsl h hwA
  go_enter Tryd.func53, Tryd.ntmps53
  go_wp2_with fail
  change Calls Tryd.prog _ _ ((w.alloc (.cells zM.toArray 36)).alloc (.cells zM.toArray 36)) _
  rw [← HWA.out]
  refine (H0.out wA HD.out (HSL.out.below HK.out.1)).mono ?_
  rintro e w1 ⟨rfl, hd, hk⟩
  have hm := HM.out.kr hk (by omega)
  have hp := HP.out.kr hk (by omega)
  have hkr := HK.out.trans hk
  have kf : w1.cell? ⟨w.heap.size + 1, 0, none⟩ = some (.string ⟨#[]⟩) := hm.cell 0
  have ff : w1.frozen? ⟨w.heap.size + 1, 0, none⟩ = false := hm.free 0
  clear HD HM HP HK
  have HD := Lib.hid (hd.other (p := ⟨w.heap.size + 1, 0, none⟩) (by show R ≠ w.heap.size + 1; omega) (.string a1))
  have HM := Lib.hid (hm.set 0 (.string a1))
  have HP := Lib.hid (hp.other (p := ⟨w.heap.size + 1, 0, none⟩) (by show w.heap.size ≠ w.heap.size + 1; omega) (.string a1))
  have HK := Lib.hid (hkr.setNew (p := ⟨w.heap.size + 1, 0, none⟩) (by show w.heap.size ≤ w.heap.size + 1; omega) (by omega) (.string a1))
  clear hd hk hm hp hkr
  go_wp2_with fail
  clear kf ff
  refine (H1.out _ HD.out (HSL.out.below HK.out.1)).mono ?_
  rintro e w2 ⟨rfl, hd, hk⟩
  have hm := HM.out.kr hk (by omega)
  have hp := HP.out.kr hk (by omega)
  have hkr := HK.out.trans hk
  have kf : w2.cell? ⟨w.heap.size + 1, 1, none⟩ = some (.string ⟨#[]⟩) := hm.cell 1
  have ff : w2.frozen? ⟨w.heap.size + 1, 1, none⟩ = false := hm.free 1
  clear HD HM HP HK
  have HD := Lib.hid (hd.other (p := ⟨w.heap.size + 1, 1, none⟩) (by show R ≠ w.heap.size + 1; omega) (.string a2))
  have HM := Lib.hid (hm.set 1 (.string a2))
  have HP := Lib.hid (hp.other (p := ⟨w.heap.size + 1, 1, none⟩) (by show w.heap.size ≠ w.heap.size + 1; omega) (.string a2))
  have HK := Lib.hid (hkr.setNew (p := ⟨w.heap.size + 1, 1, none⟩) (by show w.heap.size ≤ w.heap.size + 1; omega) (by omega) (.string a2))
  clear hd hk hm hp hkr
  go_wp2_with fail
  clear kf ff
  refine (H2.out _ HD.out (HSL.out.below HK.out.1)).mono ?_
  rintro e w3 ⟨rfl, hd, hk⟩
  have hm := HM.out.kr hk (by omega)
  have hp := HP.out.kr hk (by omega)
  have hkr := HK.out.trans hk
  have kf : w3.cell? ⟨w.heap.size + 1, 2, none⟩ = some (.int .i64 0) := hm.cell 2
  have ff : w3.frozen? ⟨w.heap.size + 1, 2, none⟩ = false := hm.free 2
  clear HD HM HP HK
  have HD := Lib.hid (hd.other (p := ⟨w.heap.size + 1, 2, none⟩) (by show R ≠ w.heap.size + 1; omega) (.int .i64 a3))
  have HM := Lib.hid (hm.set 2 (.int .i64 a3))
  have HP := Lib.hid (hp.other (p := ⟨w.heap.size + 1, 2, none⟩) (by show w.heap.size ≠ w.heap.size + 1; omega) (.int .i64 a3))
  have HK := Lib.hid (hkr.setNew (p := ⟨w.heap.size + 1, 2, none⟩) (by show w.heap.size ≤ w.heap.size + 1; omega) (by omega) (.int .i64 a3))
  clear hd hk hm hp hkr
  go_wp2_with fail
  clear kf ff
  refine (H3.out _ HD.out (HSL.out.below HK.out.1)).mono ?_
  rintro e w4 ⟨rfl, hd, hk⟩
  have hm := HM.out.kr hk (by omega)
  have hp := HP.out.kr hk (by omega)
  have hkr := HK.out.trans hk
  have kf : w4.cell? ⟨w.heap.size + 1, 3, none⟩ = some (.bool false) := hm.cell 3
  have ff : w4.frozen? ⟨w.heap.size + 1, 3, none⟩ = false := hm.free 3
  clear HD HM HP HK
  have HD := Lib.hid (hd.other (p := ⟨w.heap.size + 1, 3, none⟩) (by show R ≠ w.heap.size + 1; omega) (.bool b4))
  have HM := Lib.hid (hm.set 3 (.bool b4))
  have HP := Lib.hid (hp.other (p := ⟨w.heap.size + 1, 3, none⟩) (by show w.heap.size ≠ w.heap.size + 1; omega) (.bool b4))
  have HK := Lib.hid (hkr.setNew (p := ⟨w.heap.size + 1, 3, none⟩) (by show w.heap.size ≤ w.heap.size + 1; omega) (by omega) (.bool b4))
  clear hd hk hm hp hkr
  go_wp2_with fail
  clear kf ff
  refine (H4.out _ HD.out (HSL.out.below HK.out.1)).mono ?_
  rintro e w5 ⟨rfl, hd, hk⟩
  have hm := HM.out.kr hk (by omega)
  have hp := HP.out.kr hk (by omega)
  have hkr := HK.out.trans hk
  have kf : w5.cell? ⟨w.heap.size + 1, 4, none⟩ = some (.int .i64 0) := hm.cell 4
  have ff : w5.frozen? ⟨w.heap.size + 1, 4, none⟩ = false := hm.free 4
  clear HD HM HP HK
  have HD := Lib.hid (hd.other (p := ⟨w.heap.size + 1, 4, none⟩) (by show R ≠ w.heap.size + 1; omega) (.int .i64 a5))
  have HM := Lib.hid (hm.set 4 (.int .i64 a5))
  have HP := Lib.hid (hp.other (p := ⟨w.heap.size + 1, 4, none⟩) (by show w.heap.size ≠ w.heap.size + 1; omega) (.int .i64 a5))
  have HK := Lib.hid (hkr.setNew (p := ⟨w.heap.size + 1, 4, none⟩) (by show w.heap.size ≤ w.heap.size + 1; omega) (by omega) (.int .i64 a5))
  clear hd hk hm hp hkr
  go_wp2_with fail
  clear kf ff
  refine (H5.out _ HD.out (HSL.out.below HK.out.1)).mono ?_
  rintro e w6 ⟨rfl, hd, hk⟩
  have hm := HM.out.kr hk (by omega)
  have hp := HP.out.kr hk (by omega)
  have hkr := HK.out.trans hk
  have kf : w6.cell? ⟨w.heap.size + 1, 5, none⟩ = some (.int .i64 0) := hm.cell 5
  have ff : w6.frozen? ⟨w.heap.size + 1, 5, none⟩ = false := hm.free 5
  clear HD HM HP HK
  have HD := Lib.hid (hd.other (p := ⟨w.heap.size + 1, 5, none⟩) (by show R ≠ w.heap.size + 1; omega) (.int .i64 a6))
  have HM := Lib.hid (hm.set 5 (.int .i64 a6))
  have HP := Lib.hid (hp.other (p := ⟨w.heap.size + 1, 5, none⟩) (by show w.heap.size ≠ w.heap.size + 1; omega) (.int .i64 a6))
  have HK := Lib.hid (hkr.setNew (p := ⟨w.heap.size + 1, 5, none⟩) (by show w.heap.size ≤ w.heap.size + 1; omega) (by omega) (.int .i64 a6))
  clear hd hk hm hp hkr
  go_wp2_with fail
  clear kf ff
  refine (H6.out _ HD.out (HSL.out.below HK.out.1)).mono ?_
  rintro e w7 ⟨rfl, hd, hk⟩
  have hm := HM.out.kr hk (by omega)
  have hp := HP.out.kr hk (by omega)
  have hkr := HK.out.trans hk
  have kf : w7.cell? ⟨w.heap.size + 1, 6, none⟩ = some (.string ⟨#[]⟩) := hm.cell 6
  have ff : w7.frozen? ⟨w.heap.size + 1, 6, none⟩ = false := hm.free 6
  clear HD HM HP HK
  have HD := Lib.hid (hd.other (p := ⟨w.heap.size + 1, 6, none⟩) (by show R ≠ w.heap.size + 1; omega) (.string a7))
  have HM := Lib.hid (hm.set 6 (.string a7))
  have HP := Lib.hid (hp.other (p := ⟨w.heap.size + 1, 6, none⟩) (by show w.heap.size ≠ w.heap.size + 1; omega) (.string a7))
  have HK := Lib.hid (hkr.setNew (p := ⟨w.heap.size + 1, 6, none⟩) (by show w.heap.size ≤ w.heap.size + 1; omega) (by omega) (.string a7))
  clear hd hk hm hp hkr
  go_wp2_with fail
  clear kf ff
  refine (H7.out _ HD.out (HSL.out.below HK.out.1)).mono ?_
  rintro e w8 ⟨rfl, hd, hk⟩
  have hm := HM.out.kr hk (by omega)
  have hp := HP.out.kr hk (by omega)
  have hkr := HK.out.trans hk
  have kf : w8.cell? ⟨w.heap.size + 1, 7, none⟩ = some (.int .i64 0) := hm.cell 7
  have ff : w8.frozen? ⟨w.heap.size + 1, 7, none⟩ = false := hm.free 7
  clear HD HM HP HK
  have HD := Lib.hid (hd.other (p := ⟨w.heap.size + 1, 7, none⟩) (by show R ≠ w.heap.size + 1; omega) (.int .i64 a8))
  have HM := Lib.hid (hm.set 7 (.int .i64 a8))
  have HP := Lib.hid (hp.other (p := ⟨w.heap.size + 1, 7, none⟩) (by show w.heap.size ≠ w.heap.size + 1; omega) (.int .i64 a8))
  have HK := Lib.hid (hkr.setNew (p := ⟨w.heap.size + 1, 7, none⟩) (by show w.heap.size ≤ w.heap.size + 1; omega) (by omega) (.int .i64 a8))
  clear hd hk hm hp hkr
  go_wp2_with fail
  clear kf ff
  refine (H8.out _ HD.out (HSL.out.below HK.out.1)).mono ?_
  rintro e w9 ⟨rfl, hd, hk⟩
  have hB9 : w.heap.size + 2 ≤ w9.heap.size := Nat.le_trans ((Array.getElem?_eq_some_iff.1 HM.out).1) hk.size
  have hm := HM.out.kr hk (by omega)
  have hp := HP.out.kr hk (by omega)
  have hkr := HK.out.trans hk
  clear HM HP HK
  have HD := Lib.hid hd
  have HM := Lib.hid hm
  have HP := Lib.hid hp
  have HK := Lib.hid hkr
  have k2 := hd.k2
  clear hd hm hp hkr hk H0 H1 H2 H3 H4 H5 H6 H7 H8
  go_wp2
  go_loopg [5] N (fun g i wr => ∃ (k : Nat) (acc : List PR) (s : Int × Int) (v : Value), k + g = N ∧ acc.length = k ∧ i = .int .i64 k ∧ MB wr (w.heap.size + 1) [.string a1, .string a2, .int .i64 a3, .bool b4, .int .i64 a5, .int .i64 a6, .string a7, .int .i64 a8, v] ∧ OwnP wr (w.heap.size + 2) v acc ∧ MB wr w.heap.size zM ∧ RD 68 wr R A c l s ∧ KR R w wr ∧ w.heap.size + 2 ≤ wr.heap.size ∧ FIN = sPropsF l g s acc)
  case atStart => exact ⟨0, [], s9, .slice none 0 0, by omega, rfl, rfl, HM.out, OwnG.nil _ _, HP.out, HD.out, HK.out, hB9, HF.out⟩
  case round =>
    obtain ⟨k, acc, s, v, hkg, hacc, rfl, hm, hown, hp, hd, hkr, hszr, hf⟩ := hrel
    have HG := Lib.hid hkg
    have HAL := Lib.hid hacc
    have HFk := Lib.hid hf
    have kk2 := hd.k2
    have hal : acc.length ≤ 8 := by omega
    clear hf hacc k2 HM HP HD HK HF
    cases gk with
    | zero =>
      obtain rfl : k = N := by omega
      have HE : Hid (FIN = (acc, s)) := Lib.hid HFk.out
      clear hkg HFk
      obtain ⟨A9, c9, hv, _, _⟩ := OwnG.ret gP_len hown
      subst hv
      have hdX := hd
      have hmX := hm
      have hpX := hp
      have hkX := hkr
      have hoX := hown
      clear hd hm hp hkr hown
      rw [HE.out]
      have m0 : wr.cell? ⟨w.heap.size + 1, 0, none⟩ = some (.string a1) := hmX.cell 0
      have m1 : wr.cell? ⟨w.heap.size + 1, 1, none⟩ = some (.string a2) := hmX.cell 1
      have m2 : wr.cell? ⟨w.heap.size + 1, 2, none⟩ = some (.int .i64 a3) := hmX.cell 2
      have m3 : wr.cell? ⟨w.heap.size + 1, 3, none⟩ = some (.bool b4) := hmX.cell 3
      have m4 : wr.cell? ⟨w.heap.size + 1, 4, none⟩ = some (.int .i64 a5) := hmX.cell 4
      have m5 : wr.cell? ⟨w.heap.size + 1, 5, none⟩ = some (.int .i64 a6) := hmX.cell 5
      have m6 : wr.cell? ⟨w.heap.size + 1, 6, none⟩ = some (.string a7) := hmX.cell 6
      have m7 : wr.cell? ⟨w.heap.size + 1, 7, none⟩ = some (.int .i64 a8) := hmX.cell 7
      have m8 : wr.cell? ⟨w.heap.size + 1, 8, none⟩ = some (.slice A9 acc.length c9) := hmX.cell 8
      have p0 : wr.cell? ⟨w.heap.size, 0, none⟩ = some (.string ⟨#[]⟩) := hpX.cell 0
      have z0 : wr.frozen? ⟨w.heap.size, 0, none⟩ = false := hpX.free 0
      have p1 : wr.cell? ⟨w.heap.size, 1, none⟩ = some (.string ⟨#[]⟩) := hpX.cell 1
      have z1 : wr.frozen? ⟨w.heap.size, 1, none⟩ = false := hpX.free 1
      have p2 : wr.cell? ⟨w.heap.size, 2, none⟩ = some (.int .i64 0) := hpX.cell 2
      have z2 : wr.frozen? ⟨w.heap.size, 2, none⟩ = false := hpX.free 2
      have p3 : wr.cell? ⟨w.heap.size, 3, none⟩ = some (.bool false) := hpX.cell 3
      have z3 : wr.frozen? ⟨w.heap.size, 3, none⟩ = false := hpX.free 3
      have p4 : wr.cell? ⟨w.heap.size, 4, none⟩ = some (.int .i64 0) := hpX.cell 4
      have z4 : wr.frozen? ⟨w.heap.size, 4, none⟩ = false := hpX.free 4
      have p5 : wr.cell? ⟨w.heap.size, 5, none⟩ = some (.int .i64 0) := hpX.cell 5
      have z5 : wr.frozen? ⟨w.heap.size, 5, none⟩ = false := hpX.free 5
      have p6 : wr.cell? ⟨w.heap.size, 6, none⟩ = some (.string ⟨#[]⟩) := hpX.cell 6
      have z6 : wr.frozen? ⟨w.heap.size, 6, none⟩ = false := hpX.free 6
      have p7 : wr.cell? ⟨w.heap.size, 7, none⟩ = some (.int .i64 0) := hpX.cell 7
      have z7 : wr.frozen? ⟨w.heap.size, 7, none⟩ = false := hpX.free 7
      have p8 : wr.cell? ⟨w.heap.size, 8, none⟩ = some (.slice none 0 0) := hpX.cell 8
      have z8 : wr.frozen? ⟨w.heap.size, 8, none⟩ = false := hpX.free 8
      obtain ⟨wY, hwY⟩ : ∃ wY, wY = wr.setCells w.heap.size 0 [.string a1, .string a2, .int .i64 a3, .bool b4, .int .i64 a5, .int .i64 a6, .string a7, .int .i64 a8, .slice A9 acc.length c9] := ⟨_, rfl⟩
      have hdY : RD 68 wY R A c l s := by rw [hwY]; exact RD.cells (by omega) _ 0 wr hdX
      have hpY : MB wY w.heap.size [.string a1, .string a2, .int .i64 a3, .bool b4, .int .i64 a5, .int .i64 a6, .string a7, .int .i64 a8, .slice A9 acc.length c9] := by rw [hwY]; exact MB.set (MB.set (MB.set (MB.set (MB.set (MB.set (MB.set (MB.set (MB.set (hpX) 0 (.string a1)) 1 (.string a2)) 2 (.int .i64 a3)) 3 (.bool b4)) 4 (.int .i64 a5)) 5 (.int .i64 a6)) 6 (.string a7)) 7 (.int .i64 a8)) 8 (.slice A9 acc.length c9)
      have y0 : wY.cell? ⟨w.heap.size, 0, none⟩ = some (.string a1) := hpY.cell 0
      have y1 : wY.cell? ⟨w.heap.size, 1, none⟩ = some (.string a2) := hpY.cell 1
      have y2 : wY.cell? ⟨w.heap.size, 2, none⟩ = some (.int .i64 a3) := hpY.cell 2
      have y3 : wY.cell? ⟨w.heap.size, 3, none⟩ = some (.bool b4) := hpY.cell 3
      have y4 : wY.cell? ⟨w.heap.size, 4, none⟩ = some (.int .i64 a5) := hpY.cell 4
      have y5 : wY.cell? ⟨w.heap.size, 5, none⟩ = some (.int .i64 a6) := hpY.cell 5
      have y6 : wY.cell? ⟨w.heap.size, 6, none⟩ = some (.string a7) := hpY.cell 6
      have y7 : wY.cell? ⟨w.heap.size, 7, none⟩ = some (.int .i64 a8) := hpY.cell 7
      have y8 : wY.cell? ⟨w.heap.size, 8, none⟩ = some (.slice A9 acc.length c9) := hpY.cell 8
      have hkY : KR R w wY := by rw [hwY]; exact KR.cells (Nat.le_refl _) (by omega) _ 0 wr hkX
      have hoY : OwnP wY (w.heap.size + 2) (.slice A9 acc.length c9) acc := by rw [hwY]; exact own_cells (by omega) _ 0 wr hoX
      obtain ⟨A', c', he, _, hplY⟩ := OwnG.ret gP_len hoY
      injection he with e1 _ e3
      subst e1 e3
      have HGE := Lib.hid (own_ge hoY)
      have HDY := Lib.hid hdY
      have HKY := Lib.hid hkY
      have HPY := Lib.hid hplY
      have HWY := Lib.hid hwY
      clear hdY hpY hkY hoY hplY hwY hdX hkX hoX hmX hpX
      go_wp2
      change bodyPost _ _ _ _ _ (World.setCells wr w.heap.size 0 [.string a1, .string a2, .int .i64 a3, .bool b4, .int .i64 a5, .int .i64 a6, .string a7, .int .i64 a8, .slice A9 acc.length c9])
      rw [← HWY.out]
      refine bodyPost_ret (v := .agg #[.string a1, .string a2, .int .i64 a3, .bool b4, .int .i64 a5, .int .i64 a6, .string a7, .int .i64 a8, .slice A9 acc.length c9]) (by simp [results, Tryd.results53, go_sem, y0, y1, y2, y3, y4, y5, y6, y7, y8]) rfl ⟨A9, c9, by rw [HE.out]; rfl, by rw [HE.out]; exact HPY.out, (fun a e => Nat.le_trans (by omega) (HGE.out a e)), by rw [HE.out]; exact HDY.out, HKY.out⟩
    | succ g =>
      have hlt : k < N := by omega
      have e3 : decide ((k : Int) < (N : Int)) = true := decide_eq_true (by omega)
      by_cases hs0 : s.2 = 0
      case neg =>
        have q0 : (s.2 == 0) = false := by simp [hs0]
        have HE : Hid (FIN = (acc, s)) := Lib.hid (by rw [HFk.out, sPropsF, if_pos hs0])
        clear hkg HFk hs0
        obtain ⟨A9, c9, hv, _, _⟩ := OwnG.ret gP_len hown
        subst hv
        have hdX := hd
        have hmX := hm
        have hpX := hp
        have hkX := hkr
        have hoX := hown
        clear hd hm hp hkr hown
        rw [HE.out]
        have m0 : wr.cell? ⟨w.heap.size + 1, 0, none⟩ = some (.string a1) := hmX.cell 0
        have m1 : wr.cell? ⟨w.heap.size + 1, 1, none⟩ = some (.string a2) := hmX.cell 1
        have m2 : wr.cell? ⟨w.heap.size + 1, 2, none⟩ = some (.int .i64 a3) := hmX.cell 2
        have m3 : wr.cell? ⟨w.heap.size + 1, 3, none⟩ = some (.bool b4) := hmX.cell 3
        have m4 : wr.cell? ⟨w.heap.size + 1, 4, none⟩ = some (.int .i64 a5) := hmX.cell 4
        have m5 : wr.cell? ⟨w.heap.size + 1, 5, none⟩ = some (.int .i64 a6) := hmX.cell 5
        have m6 : wr.cell? ⟨w.heap.size + 1, 6, none⟩ = some (.string a7) := hmX.cell 6
        have m7 : wr.cell? ⟨w.heap.size + 1, 7, none⟩ = some (.int .i64 a8) := hmX.cell 7
        have m8 : wr.cell? ⟨w.heap.size + 1, 8, none⟩ = some (.slice A9 acc.length c9) := hmX.cell 8
        have p0 : wr.cell? ⟨w.heap.size, 0, none⟩ = some (.string ⟨#[]⟩) := hpX.cell 0
        have z0 : wr.frozen? ⟨w.heap.size, 0, none⟩ = false := hpX.free 0
        have p1 : wr.cell? ⟨w.heap.size, 1, none⟩ = some (.string ⟨#[]⟩) := hpX.cell 1
        have z1 : wr.frozen? ⟨w.heap.size, 1, none⟩ = false := hpX.free 1
        have p2 : wr.cell? ⟨w.heap.size, 2, none⟩ = some (.int .i64 0) := hpX.cell 2
        have z2 : wr.frozen? ⟨w.heap.size, 2, none⟩ = false := hpX.free 2
        have p3 : wr.cell? ⟨w.heap.size, 3, none⟩ = some (.bool false) := hpX.cell 3
        have z3 : wr.frozen? ⟨w.heap.size, 3, none⟩ = false := hpX.free 3
        have p4 : wr.cell? ⟨w.heap.size, 4, none⟩ = some (.int .i64 0) := hpX.cell 4
        have z4 : wr.frozen? ⟨w.heap.size, 4, none⟩ = false := hpX.free 4
        have p5 : wr.cell? ⟨w.heap.size, 5, none⟩ = some (.int .i64 0) := hpX.cell 5
        have z5 : wr.frozen? ⟨w.heap.size, 5, none⟩ = false := hpX.free 5
        have p6 : wr.cell? ⟨w.heap.size, 6, none⟩ = some (.string ⟨#[]⟩) := hpX.cell 6
        have z6 : wr.frozen? ⟨w.heap.size, 6, none⟩ = false := hpX.free 6
        have p7 : wr.cell? ⟨w.heap.size, 7, none⟩ = some (.int .i64 0) := hpX.cell 7
        have z7 : wr.frozen? ⟨w.heap.size, 7, none⟩ = false := hpX.free 7
        have p8 : wr.cell? ⟨w.heap.size, 8, none⟩ = some (.slice none 0 0) := hpX.cell 8
        have z8 : wr.frozen? ⟨w.heap.size, 8, none⟩ = false := hpX.free 8
        obtain ⟨wY, hwY⟩ : ∃ wY, wY = wr.setCells w.heap.size 0 [.string a1, .string a2, .int .i64 a3, .bool b4, .int .i64 a5, .int .i64 a6, .string a7, .int .i64 a8, .slice A9 acc.length c9] := ⟨_, rfl⟩
        have hdY : RD 68 wY R A c l s := by rw [hwY]; exact RD.cells (by omega) _ 0 wr hdX
        have hpY : MB wY w.heap.size [.string a1, .string a2, .int .i64 a3, .bool b4, .int .i64 a5, .int .i64 a6, .string a7, .int .i64 a8, .slice A9 acc.length c9] := by rw [hwY]; exact MB.set (MB.set (MB.set (MB.set (MB.set (MB.set (MB.set (MB.set (MB.set (hpX) 0 (.string a1)) 1 (.string a2)) 2 (.int .i64 a3)) 3 (.bool b4)) 4 (.int .i64 a5)) 5 (.int .i64 a6)) 6 (.string a7)) 7 (.int .i64 a8)) 8 (.slice A9 acc.length c9)
        have y0 : wY.cell? ⟨w.heap.size, 0, none⟩ = some (.string a1) := hpY.cell 0
        have y1 : wY.cell? ⟨w.heap.size, 1, none⟩ = some (.string a2) := hpY.cell 1
        have y2 : wY.cell? ⟨w.heap.size, 2, none⟩ = some (.int .i64 a3) := hpY.cell 2
        have y3 : wY.cell? ⟨w.heap.size, 3, none⟩ = some (.bool b4) := hpY.cell 3
        have y4 : wY.cell? ⟨w.heap.size, 4, none⟩ = some (.int .i64 a5) := hpY.cell 4
        have y5 : wY.cell? ⟨w.heap.size, 5, none⟩ = some (.int .i64 a6) := hpY.cell 5
        have y6 : wY.cell? ⟨w.heap.size, 6, none⟩ = some (.string a7) := hpY.cell 6
        have y7 : wY.cell? ⟨w.heap.size, 7, none⟩ = some (.int .i64 a8) := hpY.cell 7
        have y8 : wY.cell? ⟨w.heap.size, 8, none⟩ = some (.slice A9 acc.length c9) := hpY.cell 8
        have hkY : KR R w wY := by rw [hwY]; exact KR.cells (Nat.le_refl _) (by omega) _ 0 wr hkX
        have hoY : OwnP wY (w.heap.size + 2) (.slice A9 acc.length c9) acc := by rw [hwY]; exact own_cells (by omega) _ 0 wr hoX
        obtain ⟨A', c', he, _, hplY⟩ := OwnG.ret gP_len hoY
        injection he with e1 _ e3
        subst e1 e3
        have HGE := Lib.hid (own_ge hoY)
        have HDY := Lib.hid hdY
        have HKY := Lib.hid hkY
        have HPY := Lib.hid hplY
        have HWY := Lib.hid hwY
        clear hdY hpY hkY hoY hplY hwY hdX hkX hoX hmX hpX
        go_wp2
        change bodyPost _ _ _ _ _ (World.setCells wr w.heap.size 0 [.string a1, .string a2, .int .i64 a3, .bool b4, .int .i64 a5, .int .i64 a6, .string a7, .int .i64 a8, .slice A9 acc.length c9])
        rw [← HWY.out]
        refine bodyPost_ret (v := .agg #[.string a1, .string a2, .int .i64 a3, .bool b4, .int .i64 a5, .int .i64 a6, .string a7, .int .i64 a8, .slice A9 acc.length c9]) (by simp [results, Tryd.results53, go_sem, y0, y1, y2, y3, y4, y5, y6, y7, y8]) rfl ⟨A9, c9, by rw [HE.out]; rfl, by rw [HE.out]; exact HPY.out, (fun a e => Nat.le_trans (by omega) (HGE.out a e)), by rw [HE.out]; exact HDY.out, HKY.out⟩
      have q0 : (s.2 == 0) = true := by simp [hs0]
      have HSTEP : Hid (FIN = sPropsF l g (sText l 160 (sText l 16 s).2).2 (acc ++ [((sText l 16 s).1, (sText l 160 (sText l 16 s).2).1)])) := Lib.hid (by rw [HFk.out, sPropsF, if_neg (by simp [hs0])])
      have HT1 := Lib.hid (HTX.out 16 s wr hd (HSL.out.below hkr.1))
      have HT2 := Lib.hid (fun w2 hd hcl => HTX.out 160 (sText l 16 s).2 w2 hd hcl)
      generalize sText l 16 s = r1 at HT1 HT2 HSTEP
      obtain ⟨key, s1⟩ := r1
      dsimp only at HT1 HT2 HSTEP
      generalize sText l 160 s1 = r2 at HT2 HSTEP
      obtain ⟨val, s2⟩ := r2
      dsimp only at HT2 HSTEP
      have HM := Lib.hid hm
      have HP := Lib.hid hp
      have HK := Lib.hid hkr
      have HO := Lib.hid hown
      clear hkg HFk hs0 hm hp hd hkr hown
      go_wp2_with fail
      refine HT1.out.mono ?_
      rintro e wa ⟨rfl, hd, hk⟩
      have HDa := Lib.hid hd
      have HMa := Lib.hid (HM.out.kr hk (by omega))
      have HPa := Lib.hid (HP.out.kr hk (by omega))
      have HKa := Lib.hid (HK.out.trans hk)
      have HOa := Lib.hid (hk.own (by omega) HO.out)
      have hsza : w.heap.size + 2 ≤ wa.heap.size := Nat.le_trans hszr hk.size
      clear hd hk kk2 HM HP HK HO HT1
      go_upto_region 15 with fail
      have hbd : Kp (w.heap.size + 1) R wa wa.drew := Kp.drew _ _ _
      refine wp_region_held_drew (S := fun w' => Kp (w.heap.size + 1) R wa w') (by kernel_rfl) hbd (fun hHeld => ?_)
      refine wpAnyH_take (i := 0) (v := .pointer (some ⟨w.heap.size + 1, 8, none⟩)) (get_ops _ _ _ rfl) (by kernel_rfl) (by kernel_rfl) (by kernel_rfl) (fun _ _ _ h => h) (Or.inl ⟨by rfl, fun w hSw => by (try dsimp only at hSw); go_simp⟩) hHeld ?_
      try simp only [Act.put, List.setIfInBounds_toArray, List.set_cons_zero, List.set_cons_succ]
      refine wpAnyH_take (i := 2) (v := .string key) (get_ops _ _ _ rfl) (by kernel_rfl) (by kernel_rfl) (by kernel_rfl) (fun _ _ _ h => h) (Or.inl ⟨by rfl, fun w hSw => by (try dsimp only at hSw); go_simp⟩) hHeld ?_
      try simp only [Act.put, List.setIfInBounds_toArray, List.set_cons_zero, List.set_cons_succ]
      refine wpAnyH_take (i := 3) (v := .pointer (some ⟨R, 0, none⟩)) (get_ops _ _ _ rfl) (by kernel_rfl) (by kernel_rfl) (by kernel_rfl) (fun _ _ _ h => h) (Or.inl ⟨by rfl, fun w hSw => by (try dsimp only at hSw); go_simp⟩) hHeld ?_
      try simp only [Act.put, List.setIfInBounds_toArray, List.set_cons_zero, List.set_cons_succ]
      refine wpAnyH_ready (rs := [1, 4]) (by kernel_rfl) (by simp) ?_
      refine AllReadyH.cons (get_ops _ _ _ rfl) (fun K hK => ?_) (AllReadyH.cons (get_ops _ _ _ rfl) (fun K hK => ?_) AllReadyH.nil)
      · have kk : World.cell? wa.drew ⟨w.heap.size + 1, 8, none⟩ = some v := HMa.out.cell 8
        go_simp
        refine hK.out _ _ hHeld (fun hHeld => ?_)
        clear hK K kk
        try simp only [Act.put, List.setIfInBounds_toArray, List.set_cons_zero, List.set_cons_succ]
        refine wpAnyH_ready (rs := [4]) (by kernel_rfl) (by simp) ?_
        refine AllReadyH.cons (get_ops _ _ _ rfl) (fun K hK => ?_) AllReadyH.nil
        go_simp
        go_at_call 72
        refine (HT2.out _ (show RD 68 wa.drew R A c l s1 from HDa.out) (HSL.out.below (HKa.out.1.drew))).mono ?_
        rintro e wb ⟨rfl, hd, hk⟩
        have HDb := Lib.hid hd
        have HOb := Lib.hid (hk.own (by omega) (show OwnP wa.drew _ v acc from HOa.out))
        have HMb := Lib.hid (MB.kr (show MB wa.drew _ _ from HMa.out) hk (by omega))
        have HPb := Lib.hid (MB.kr (show MB wa.drew _ _ from HPa.out) hk (by omega))
        have HSZ : Hid (w.heap.size + 2 ≤ wb.heap.size) := Lib.hid (Nat.le_trans hsza hk.size)
        have HKb := Lib.hid (hk.kp (show w.heap.size + 1 ≤ wa.drew.heap.size from Nat.le_trans (by omega) hsza))
        clear hd hk
        go_wp2_with fail
        refine hK.out _ _ (hHeld.trans HKb.out) (fun hHeld => ?_)
        clear hK K
        try simp only [Act.put, List.setIfInBounds_toArray, List.set_cons_zero, List.set_cons_succ]
        refine wpAnyH_take (i := 5) (v := .agg #[.string key, .string val]) (get_ops _ _ _ rfl) (by kernel_rfl) (by kernel_rfl) (by kernel_rfl) (fun _ _ _ h => h) (Or.inl ⟨by rfl, fun w hSw => by (try dsimp only at hSw); go_simp⟩) hHeld ?_
        try simp only [Act.put, List.setIfInBounds_toArray, List.set_cons_zero, List.set_cons_succ]
        have HHb := Lib.hid hHeld
        refine wpAnyH_ready (rs := [6]) (by kernel_rfl) (by simp) ?_
        refine AllReadyH.cons (get_ops _ _ _ rfl) (fun K hK => ?_) AllReadyH.nil
        go_simp
        refine hK.out _ _ (hHeld.trans (Kp.of_below ((Below.refl _ _).alloc (by have := HSZ.out; omega) _) (by omega))) (fun hHeld => ?_)
        clear hK K
        try simp only [Act.put, List.setIfInBounds_toArray, List.set_cons_zero, List.set_cons_succ]
        refine wpAnyH_ready (rs := [7]) (by kernel_rfl) (by simp) ?_
        refine AllReadyH.cons (get_ops _ _ _ rfl) (fun K hK => ?_) AllReadyH.nil
        rw [if_pos (by rfl)]
        refine oper_appP1 wb (.tmp 50) (.tmp 55) rfl (w.heap.size + 2) v acc key val HOb.out rfl rfl HSZ.out (by omega) ?_
        intro v3 w3 hown3 hb3 hB3
        obtain ⟨A3, n3, c3, hv3⟩ : ∃ A n c, v3 = .slice A n c := by obtain ⟨A3, c3, h, _⟩ := OwnG.ret gP_len hown3; exact ⟨_, _, _, h⟩
        subst hv3
        have HO3 := Lib.hid hown3
        have HB3 := Lib.hid hb3
        refine hK.out _ _ (HHb.out.trans (Kp.of_below (hb3.mono (by omega)) (by omega))) (fun hHeld => ?_)
        clear hK K hown3 hb3
        try simp only [Act.put, List.setIfInBounds_toArray, List.set_cons_zero, List.set_cons_succ]
        have HM3 := Lib.hid (HMb.out.kp (Kp.of_below HB3.out (show R ≤ _ by omega)) (by omega) (by omega))
        have HP3 := Lib.hid (HPb.out.kp (Kp.of_below HB3.out (show R ≤ _ by omega)) (by omega) (by omega))
        have m8 : w3.cell? ⟨w.heap.size + 1, 8, none⟩ = some v := HM3.out.cell 8
        have f8 : w3.frozen? ⟨w.heap.size + 1, 8, none⟩ = false := HM3.out.free 8
        have HD3 := Lib.hid (HDb.out.to (HB3.out.block R (by omega)))
        refine wpAnyH_take (i := 8) (v := .pointer (some ⟨w.heap.size + 1, 8, none⟩)) (get_ops _ _ _ rfl) (by kernel_rfl) (by kernel_rfl) (by kernel_rfl) (fun _ _ _ h => h) (Or.inl ⟨by rfl, fun w hSw => by (try dsimp only at hSw); go_simp⟩) hHeld ?_
        try simp only [Act.put, List.setIfInBounds_toArray, List.set_cons_zero, List.set_cons_succ]
        refine wpAnyH_ready (rs := [9]) (by kernel_rfl) (by simp) ?_
        refine AllReadyH.cons (get_ops _ _ _ rfl) (fun K hK => ?_) AllReadyH.nil
        go_simp
        refine hK.out _ _ (hHeld.set (p := ⟨w.heap.size + 1, 8, none⟩) (Nat.le_refl _) (by omega) (.slice A3 n3 c3)) (fun hHeld => ?_)
        clear hK K
        try simp only [Act.put, List.setIfInBounds_toArray, List.set_cons_zero, List.set_cons_succ]
        refine wpAnyH_done (by kernel_rfl) ?_ _
        have HDz := Lib.hid (HD3.out.other (p := ⟨w.heap.size + 1, 8, none⟩) (by show R ≠ w.heap.size + 1; omega) (.slice A3 n3 c3))
        have HMz := Lib.hid (HM3.out.set 8 (.slice A3 n3 c3))
        have HPz := Lib.hid (HP3.out.other (p := ⟨w.heap.size + 1, 8, none⟩) (by show w.heap.size ≠ w.heap.size + 1; omega) (.slice A3 n3 c3))
        have HOz := Lib.hid (own_set HO3.out (p := ⟨w.heap.size + 1, 8, none⟩) (by show w.heap.size + 1 < w.heap.size + 2; omega) (.slice A3 n3 c3))
        have hszz : w.heap.size + 2 ≤ (w3.setCell ⟨w.heap.size + 1, 8, none⟩ (.slice A3 n3 c3)).heap.size := by simp; omega
        have HKz := Lib.hid hHeld
        clear hHeld m8 f8
        go_wp2
        go_roundg g
        case measure => omega
        case rel => exact ⟨k + 1, acc ++ [(key, val)], s2, .slice A3 n3 c3, by have := HG.out; omega, by have := HAL.out; simp; omega, by go_num, HMz.out, HOz.out, HPz.out, HDz.out, HKa.out.kpT HKz.out (by omega), hszz, HSTEP.out⟩
      · go_simp
        go_at_call 72
        refine (HT2.out _ (show RD 68 wa.drew R A c l s1 from HDa.out) (HSL.out.below (HKa.out.1.drew))).mono ?_
        rintro e wb ⟨rfl, hd, hk⟩
        have HDb := Lib.hid hd
        have HOb := Lib.hid (hk.own (by omega) (show OwnP wa.drew _ v acc from HOa.out))
        have HMb := Lib.hid (MB.kr (show MB wa.drew _ _ from HMa.out) hk (by omega))
        have HPb := Lib.hid (MB.kr (show MB wa.drew _ _ from HPa.out) hk (by omega))
        have HSZ : Hid (w.heap.size + 2 ≤ wb.heap.size) := Lib.hid (Nat.le_trans hsza hk.size)
        have HKb := Lib.hid (hk.kp (show w.heap.size + 1 ≤ wa.drew.heap.size from Nat.le_trans (by omega) hsza))
        clear hd hk
        go_wp2_with fail
        refine hK.out _ _ (hHeld.trans HKb.out) (fun hHeld => ?_)
        clear hK K
        try simp only [Act.put, List.setIfInBounds_toArray, List.set_cons_zero, List.set_cons_succ]
        refine wpAnyH_take (i := 5) (v := .agg #[.string key, .string val]) (get_ops _ _ _ rfl) (by kernel_rfl) (by kernel_rfl) (by kernel_rfl) (fun _ _ _ h => h) (Or.inl ⟨by rfl, fun w hSw => by (try dsimp only at hSw); go_simp⟩) hHeld ?_
        try simp only [Act.put, List.setIfInBounds_toArray, List.set_cons_zero, List.set_cons_succ]
        have HHb := Lib.hid hHeld
        refine wpAnyH_ready (rs := [1, 6]) (by kernel_rfl) (by simp) ?_
        refine AllReadyH.cons (get_ops _ _ _ rfl) (fun K hK => ?_) (AllReadyH.cons (get_ops _ _ _ rfl) (fun K hK => ?_) AllReadyH.nil)
        · have kk : World.cell? wb ⟨w.heap.size + 1, 8, none⟩ = some v := HMb.out.cell 8
          go_simp
          refine hK.out _ _ hHeld (fun hHeld => ?_)
          clear hK K kk
          try simp only [Act.put, List.setIfInBounds_toArray, List.set_cons_zero, List.set_cons_succ]
          refine wpAnyH_ready (rs := [6]) (by kernel_rfl) (by simp) ?_
          refine AllReadyH.cons (get_ops _ _ _ rfl) (fun K hK => ?_) AllReadyH.nil
          go_simp
          refine hK.out _ _ (hHeld.trans (Kp.of_below ((Below.refl _ _).alloc (by have := HSZ.out; omega) _) (by omega))) (fun hHeld => ?_)
          clear hK K
          try simp only [Act.put, List.setIfInBounds_toArray, List.set_cons_zero, List.set_cons_succ]
          refine wpAnyH_ready (rs := [7]) (by kernel_rfl) (by simp) ?_
          refine AllReadyH.cons (get_ops _ _ _ rfl) (fun K hK => ?_) AllReadyH.nil
          rw [if_pos (by rfl)]
          refine oper_appP1 wb (.tmp 50) (.tmp 55) rfl (w.heap.size + 2) v acc key val HOb.out rfl rfl HSZ.out (by omega) ?_
          intro v3 w3 hown3 hb3 hB3
          obtain ⟨A3, n3, c3, hv3⟩ : ∃ A n c, v3 = .slice A n c := by obtain ⟨A3, c3, h, _⟩ := OwnG.ret gP_len hown3; exact ⟨_, _, _, h⟩
          subst hv3
          have HO3 := Lib.hid hown3
          have HB3 := Lib.hid hb3
          refine hK.out _ _ (HHb.out.trans (Kp.of_below (hb3.mono (by omega)) (by omega))) (fun hHeld => ?_)
          clear hK K hown3 hb3
          try simp only [Act.put, List.setIfInBounds_toArray, List.set_cons_zero, List.set_cons_succ]
          have HM3 := Lib.hid (HMb.out.kp (Kp.of_below HB3.out (show R ≤ _ by omega)) (by omega) (by omega))
          have HP3 := Lib.hid (HPb.out.kp (Kp.of_below HB3.out (show R ≤ _ by omega)) (by omega) (by omega))
          have m8 : w3.cell? ⟨w.heap.size + 1, 8, none⟩ = some v := HM3.out.cell 8
          have f8 : w3.frozen? ⟨w.heap.size + 1, 8, none⟩ = false := HM3.out.free 8
          have HD3 := Lib.hid (HDb.out.to (HB3.out.block R (by omega)))
          refine wpAnyH_take (i := 8) (v := .pointer (some ⟨w.heap.size + 1, 8, none⟩)) (get_ops _ _ _ rfl) (by kernel_rfl) (by kernel_rfl) (by kernel_rfl) (fun _ _ _ h => h) (Or.inl ⟨by rfl, fun w hSw => by (try dsimp only at hSw); go_simp⟩) hHeld ?_
          try simp only [Act.put, List.setIfInBounds_toArray, List.set_cons_zero, List.set_cons_succ]
          refine wpAnyH_ready (rs := [9]) (by kernel_rfl) (by simp) ?_
          refine AllReadyH.cons (get_ops _ _ _ rfl) (fun K hK => ?_) AllReadyH.nil
          go_simp
          refine hK.out _ _ (hHeld.set (p := ⟨w.heap.size + 1, 8, none⟩) (Nat.le_refl _) (by omega) (.slice A3 n3 c3)) (fun hHeld => ?_)
          clear hK K
          try simp only [Act.put, List.setIfInBounds_toArray, List.set_cons_zero, List.set_cons_succ]
          refine wpAnyH_done (by kernel_rfl) ?_ _
          have HDz := Lib.hid (HD3.out.other (p := ⟨w.heap.size + 1, 8, none⟩) (by show R ≠ w.heap.size + 1; omega) (.slice A3 n3 c3))
          have HMz := Lib.hid (HM3.out.set 8 (.slice A3 n3 c3))
          have HPz := Lib.hid (HP3.out.other (p := ⟨w.heap.size + 1, 8, none⟩) (by show w.heap.size ≠ w.heap.size + 1; omega) (.slice A3 n3 c3))
          have HOz := Lib.hid (own_set HO3.out (p := ⟨w.heap.size + 1, 8, none⟩) (by show w.heap.size + 1 < w.heap.size + 2; omega) (.slice A3 n3 c3))
          have hszz : w.heap.size + 2 ≤ (w3.setCell ⟨w.heap.size + 1, 8, none⟩ (.slice A3 n3 c3)).heap.size := by simp; omega
          have HKz := Lib.hid hHeld
          clear hHeld m8 f8
          go_wp2
          go_roundg g
          case measure => omega
          case rel => exact ⟨k + 1, acc ++ [(key, val)], s2, .slice A3 n3 c3, by have := HG.out; omega, by have := HAL.out; simp; omega, by go_num, HMz.out, HOz.out, HPz.out, HDz.out, HKa.out.kpT HKz.out (by omega), hszz, HSTEP.out⟩
        · go_simp
          refine hK.out _ _ (hHeld.trans (Kp.of_below ((Below.refl _ _).alloc (by have := HSZ.out; omega) _) (by omega))) (fun hHeld => ?_)
          clear hK K
          try simp only [Act.put, List.setIfInBounds_toArray, List.set_cons_zero, List.set_cons_succ]
          refine wpAnyH_ready (rs := [1]) (by kernel_rfl) (by simp) ?_
          refine AllReadyH.cons (get_ops _ _ _ rfl) (fun K hK => ?_) AllReadyH.nil
          have HMc := Lib.hid (MB.alloc HMb.out (.cells #[.string key, .string val] 34))
          have kk : World.cell? (wb.alloc (.cells #[.string key, .string val] 34)) ⟨w.heap.size + 1, 8, none⟩ = some v := HMc.out.cell 8
          go_simp
          refine hK.out _ _ hHeld (fun hHeld => ?_)
          clear hK K kk
          try simp only [Act.put, List.setIfInBounds_toArray, List.set_cons_zero, List.set_cons_succ]
          refine wpAnyH_ready (rs := [7]) (by kernel_rfl) (by simp) ?_
          refine AllReadyH.cons (get_ops _ _ _ rfl) (fun K hK => ?_) AllReadyH.nil
          rw [if_pos (by rfl)]
          refine oper_appP1 wb (.tmp 50) (.tmp 55) rfl (w.heap.size + 2) v acc key val HOb.out rfl rfl HSZ.out (by omega) ?_
          intro v3 w3 hown3 hb3 hB3
          obtain ⟨A3, n3, c3, hv3⟩ : ∃ A n c, v3 = .slice A n c := by obtain ⟨A3, c3, h, _⟩ := OwnG.ret gP_len hown3; exact ⟨_, _, _, h⟩
          subst hv3
          have HO3 := Lib.hid hown3
          have HB3 := Lib.hid hb3
          refine hK.out _ _ (HHb.out.trans (Kp.of_below (hb3.mono (by omega)) (by omega))) (fun hHeld => ?_)
          clear hK K hown3 hb3
          try simp only [Act.put, List.setIfInBounds_toArray, List.set_cons_zero, List.set_cons_succ]
          have HM3 := Lib.hid (HMb.out.kp (Kp.of_below HB3.out (show R ≤ _ by omega)) (by omega) (by omega))
          have HP3 := Lib.hid (HPb.out.kp (Kp.of_below HB3.out (show R ≤ _ by omega)) (by omega) (by omega))
          have m8 : w3.cell? ⟨w.heap.size + 1, 8, none⟩ = some v := HM3.out.cell 8
          have f8 : w3.frozen? ⟨w.heap.size + 1, 8, none⟩ = false := HM3.out.free 8
          have HD3 := Lib.hid (HDb.out.to (HB3.out.block R (by omega)))
          refine wpAnyH_take (i := 8) (v := .pointer (some ⟨w.heap.size + 1, 8, none⟩)) (get_ops _ _ _ rfl) (by kernel_rfl) (by kernel_rfl) (by kernel_rfl) (fun _ _ _ h => h) (Or.inl ⟨by rfl, fun w hSw => by (try dsimp only at hSw); go_simp⟩) hHeld ?_
          try simp only [Act.put, List.setIfInBounds_toArray, List.set_cons_zero, List.set_cons_succ]
          refine wpAnyH_ready (rs := [9]) (by kernel_rfl) (by simp) ?_
          refine AllReadyH.cons (get_ops _ _ _ rfl) (fun K hK => ?_) AllReadyH.nil
          go_simp
          refine hK.out _ _ (hHeld.set (p := ⟨w.heap.size + 1, 8, none⟩) (Nat.le_refl _) (by omega) (.slice A3 n3 c3)) (fun hHeld => ?_)
          clear hK K
          try simp only [Act.put, List.setIfInBounds_toArray, List.set_cons_zero, List.set_cons_succ]
          refine wpAnyH_done (by kernel_rfl) ?_ _
          have HDz := Lib.hid (HD3.out.other (p := ⟨w.heap.size + 1, 8, none⟩) (by show R ≠ w.heap.size + 1; omega) (.slice A3 n3 c3))
          have HMz := Lib.hid (HM3.out.set 8 (.slice A3 n3 c3))
          have HPz := Lib.hid (HP3.out.other (p := ⟨w.heap.size + 1, 8, none⟩) (by show w.heap.size ≠ w.heap.size + 1; omega) (.slice A3 n3 c3))
          have HOz := Lib.hid (own_set HO3.out (p := ⟨w.heap.size + 1, 8, none⟩) (by show w.heap.size + 1 < w.heap.size + 2; omega) (.slice A3 n3 c3))
          have hszz : w.heap.size + 2 ≤ (w3.setCell ⟨w.heap.size + 1, 8, none⟩ (.slice A3 n3 c3)).heap.size := by simp; omega
          have HKz := Lib.hid hHeld
          clear hHeld m8 f8
          go_wp2
          go_roundg g
          case measure => omega
          case rel => exact ⟨k + 1, acc ++ [(key, val)], s2, .slice A3 n3 c3, by have := HG.out; omega, by have := HAL.out; simp; omega, by go_num, HMz.out, HOz.out, HPz.out, HDz.out, HKa.out.kpT HKz.out (by omega), hszz, HSTEP.out⟩

end Go.Proofs.YtlkkdompcbdbeaaDoor
