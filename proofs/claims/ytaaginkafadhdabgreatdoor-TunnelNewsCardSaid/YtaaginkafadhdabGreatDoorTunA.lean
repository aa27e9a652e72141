/-
  What New, Break, Send and Receive of tunnel answer in the chapter's examples; the examples. Conditions: none.
-/
import Derived.Test.YtaaginkafadhdabGreatDoorTun
namespace Go.Proofs.YtaaginkafadhdabGreatDoor
open Go.RowKit

def tC (c s g : Int) (b : Bool) : List Value := [.int .i64 c, .int .i64 s, .int .i64 g, .bool b]
def tV (c s g : Int) (b : Bool) : Value := .agg #[.int .i64 c, .int .i64 s, .int .i64 g, .bool b]

set_option maxHeartbeats 1000000 in
theorem tNew_any (n : Int) (w : World) : Calls Tryz.prog 5 #[.int .i64 n] w fun e w' => e = .returned (tV n 0 0 false) ∧ Below w.heap.size w w' := by
  unfold tV
  go_enter Tryz.func5, Tryz.ntmps5
  go_wp2
  exact bodyPost_ret (v := .agg #[.int .i64 n, .int .i64 0, .int .i64 0, .bool false]) (by simp [results, Tryz.results5, go_sem]) rfl ⟨rfl, by repeat (first | exact Below.refl _ _ | (refine Below.setCell ?_ (by first | (simp; done) | (simp; omega)) _) | (refine Below.alloc ?_ (by first | (simp; done) | (simp; omega)) _))⟩
set_option maxHeartbeats 1000000 in
theorem rNew_any (n : Int) (w : World) : Calls Tryz.prog 6 #[.int .i64 n] w fun e w' => e = .returned (tV n 0 0 false) ∧ Below w.heap.size w w' := by
  unfold tV
  go_enter Tryz.func6, Tryz.ntmps6
  go_wp2
  exact bodyPost_ret (v := .agg #[.int .i64 n, .int .i64 0, .int .i64 0, .bool false]) (by simp [results, Tryz.results6, go_sem]) rfl ⟨rfl, by repeat (first | exact Below.refl _ _ | (refine Below.setCell ?_ (by first | (simp; done) | (simp; omega)) _) | (refine Below.alloc ?_ (by first | (simp; done) | (simp; omega)) _))⟩
set_option maxHeartbeats 1000000 in
theorem tBreak_any (c s g : Int) (b : Bool) (w : World) : Calls Tryz.prog 7 #[tV c s g b] w fun e w' => e = .returned (tV c s g true) ∧ Below w.heap.size w w' := by
  unfold tV
  go_enter Tryz.func7, Tryz.ntmps7
  go_wp2
  exact bodyPost_ret (v := .agg #[.int .i64 c, .int .i64 s, .int .i64 g, .bool true]) (by simp [results, Tryz.results7, go_sem]) rfl ⟨rfl, by repeat (first | exact Below.refl _ _ | (refine Below.setCell ?_ (by first | (simp; done) | (simp; omega)) _) | (refine Below.alloc ?_ (by first | (simp; done) | (simp; omega)) _))⟩
set_option maxHeartbeats 1000000 in
theorem rBreak_any (c s g : Int) (b : Bool) (w : World) : Calls Tryz.prog 8 #[tV c s g b] w fun e w' => e = .returned (tV c s g true) ∧ Below w.heap.size w w' := by
  unfold tV
  go_enter Tryz.func8, Tryz.ntmps8
  go_wp2
  exact bodyPost_ret (v := .agg #[.int .i64 c, .int .i64 s, .int .i64 g, .bool true]) (by simp [results, Tryz.results8, go_sem]) rfl ⟨rfl, by repeat (first | exact Below.refl _ _ | (refine Below.setCell ?_ (by first | (simp; done) | (simp; omega)) _) | (refine Below.alloc ?_ (by first | (simp; done) | (simp; omega)) _))⟩

/-! ### No packets -/
set_option maxHeartbeats 1000000 in
theorem tEncNil (w : World) : Calls Tryz.prog 16 #[.slice none 0 0] w fun e w' => e = .returned (.tuple #[.slice none 0 0, .int .i64 0]) ∧ Below w.heap.size w w' := by
  go_enter Tryz.func16, Tryz.ntmps16
  go_wp2_with fail
  have hb : Below w.heap.size w (w.alloc (.cells #[.slice none 0 0] 50)) := (Below.refl _ _).alloc (Nat.le_refl _) _
  have k0 : (w.alloc (.cells #[.slice none 0 0] 50)).cell? ⟨w.heap.size, 0, none⟩ = some (.slice none 0 0) := by simp
  generalize w.alloc (.cells #[.slice none 0 0] 50) = w1 at hb k0 ⊢
  have HB := Lib.hid hb
  clear hb
  go_loopw [11] (fun i wr => i = .int .i64 0 ∧ wr = w1) (fun _ _ => 0)
  case atStart => exact ⟨rfl, rfl⟩
  case round =>
    obtain ⟨rfl, rfl⟩ := hrel
    go_wp2_with fail
    go_ret2
    exact ⟨rfl, HB.out⟩
set_option maxHeartbeats 1000000 in
theorem tDecNil (A : Option Addr) (c : Nat) (w : World) : Calls Tryz.prog 19 #[.slice A 0 c] w fun e w' => e = .returned (.tuple #[.slice none 0 0, .int .i64 0]) ∧ w = w' := by
  go_enter Tryz.func19, Tryz.ntmps19
  go_wp2_with fail
  go_loopw [4, 5] (fun o i wr => o = .slice none 0 0 ∧ i = .int .i64 0 ∧ wr = w) (fun _ _ _ => 0)
  case atStart => exact ⟨rfl, rfl, rfl⟩
  case round =>
    obtain ⟨rfl, rfl, rfl⟩ := hrel
    go_wp2_with fail
    go_ret2
    exact ⟨rfl, rfl⟩

theorem bytes7 : openT [4, 95, 123, 143, 197, 2, 2] = (1, 1, [], 0) := by decide +kernel
theorem wrap22 : wrapR [2, 2] = [4, 95, 123, 143, 197, 2, 2] := by decide +kernel
theorem enc1 : enc 1 = [2] := by decide +kernel
theorem tPut1 (w : World) : Calls Tryz.prog 17 #[.slice none 0 0, .int .i64 1] w (RetB [2] w) := by
  have := putNum_any none 0 [] 1 (by decide) (by decide) w (CL.nil _ _ _) (by simp)
  rw [enc1] at this
  exact this
theorem tPut2 (A : Option Addr) (c : Nat) (w : World) (h : CL bv w w.heap.size A [2]) : Calls Tryz.prog 17 #[.slice A 1 c, .int .i64 1] w (RetB [2, 2] w) := by
  have := putNum_any A c [2] 1 (by decide) (by decide) w h (by simp)
  rw [enc1] at this
  exact this
theorem tWrap22 (A : Option Addr) (c : Nat) (w : World) (h : CL bv w w.heap.size A [2, 2]) : Calls Tryz.prog 18 #[.slice A 2 c] w (RetB [4, 95, 123, 143, 197, 2, 2] w) := by
  have := wrap_any A c [2, 2] w h (by decide)
  rw [wrap22] at this
  exact this
def RetS (w : World) (e : Ending) (w' : World) : Prop := ∃ A c, e = .returned (.tuple #[.slice A 7 c, tV 1 1 0 false, .int .i64 0]) ∧ CL bv w' w'.heap.size A [4, 95, 123, 143, 197, 2, 2] ∧ 7 ≤ c ∧ Below w.heap.size w w'

/-- the two boxes of a call: the tunnel that came in, and the one that is handed back -/
def TwoB (b : Nat) (c s g : Int) (x : Bool) (w' : World) : Prop :=
  (w'.cell? ⟨b, 0, none⟩ = some (.int .i64 c) ∧ w'.cell? ⟨b, 1, none⟩ = some (.int .i64 s) ∧ w'.cell? ⟨b, 2, none⟩ = some (.int .i64 g) ∧ w'.cell? ⟨b, 3, none⟩ = some (.bool x)) ∧
  (w'.cell? ⟨b + 1, 0, none⟩ = some (.int .i64 0) ∧ w'.cell? ⟨b + 1, 1, none⟩ = some (.int .i64 0) ∧ w'.cell? ⟨b + 1, 2, none⟩ = some (.int .i64 0) ∧ w'.cell? ⟨b + 1, 3, none⟩ = some (.bool false)) ∧
  (∀ j, w'.frozen? ⟨b, j, none⟩ = false) ∧ ∀ j, w'.frozen? ⟨b + 1, j, none⟩ = false
theorem TwoB.step {b : Nat} {c s g : Int} {x : Bool} {w w' : World} (h : TwoB b c s g x w) (hb : Below (b + 2) w w') : TwoB b c s g x w' := by
  obtain ⟨⟨h0, h1, h2, h3⟩, ⟨g0, g1, g2, g3⟩, f, f'⟩ := h
  have e : ∀ j, w'.cell? ⟨b, j, none⟩ = w.cell? ⟨b, j, none⟩ := fun j => hb.cell (p := ⟨b, j, none⟩) (by show b < b + 2; omega)
  have e' : ∀ j, w'.cell? ⟨b + 1, j, none⟩ = w.cell? ⟨b + 1, j, none⟩ := fun j => hb.cell (p := ⟨b + 1, j, none⟩) (by show b + 1 < b + 2; omega)
  have d : ∀ j, w'.frozen? ⟨b, j, none⟩ = w.frozen? ⟨b, j, none⟩ := fun j => hb.frozen (p := ⟨b, j, none⟩) (by show b < b + 2; omega)
  have d' : ∀ j, w'.frozen? ⟨b + 1, j, none⟩ = w.frozen? ⟨b + 1, j, none⟩ := fun j => hb.frozen (p := ⟨b + 1, j, none⟩) (by show b + 1 < b + 2; omega)
  exact ⟨⟨(e 0).trans h0, (e 1).trans h1, (e 2).trans h2, (e 3).trans h3⟩, ⟨(e' 0).trans g0, (e' 1).trans g1, (e' 2).trans g2, (e' 3).trans g3⟩, fun j => (d j).trans (f j), fun j => (d' j).trans (f' j)⟩
theorem two_new (c s g : Int) (x : Bool) (w : World) {W : World} (hW : W = ((w.alloc (.cells #[.int .i64 c, .int .i64 s, .int .i64 g, .bool x] 23)).alloc (.cells #[.int .i64 0, .int .i64 0, .int .i64 0, .bool false] 23))) :
    TwoB w.heap.size c s g x W ∧ Below w.heap.size w W ∧ W.heap.size = w.heap.size + 2 := by
  subst hW
  refine ⟨⟨⟨?_, ?_, ?_, ?_⟩, ⟨?_, ?_, ?_, ?_⟩, fun j => ?_, fun j => ?_⟩, ((Below.refl _ _).alloc (Nat.le_refl _) _).alloc (by simp) _, by simp⟩ <;> simp

theorem own_setT {w : World} {v : Value} {B : Nat} {xs : List UInt8} (h : Own 5 bv w B v xs) {p : Addr} (hp : p.block < B) (u : Value) : Own 5 bv (w.setCell p u) B v xs := by
  unfold Own at h ⊢
  refine ⟨h.1, ?_⟩
  rcases h.2 with h0 | ⟨q, cap, cur, rfl, hb, hq, hnc, hcm, hcs, htake⟩
  · exact .inl h0
  · exact .inr ⟨q, cap, cur, rfl, hb, by rw [heap_setCell_other w p q u (by omega)]; exact hq, hnc, hcm, hcs, htake⟩
theorem own_clT {w : World} {A : Option Addr} {n c B : Nat} {xs : List UInt8} (h : Own 5 bv w B (.slice A n c) xs) : CL bv w w.heap.size A xs := by
  obtain ⟨A', c', e, _, h'⟩ := h.ret
  injection e with e1
  subst e1
  exact h'
theorem TwoB.set1 {b : Nat} {c s g : Int} {x : Bool} {w : World} (h : TwoB b c s g x w) (n : Int) : TwoB b c n g x (w.setCell ⟨b, 1, none⟩ (.int .i64 n)) := by
  obtain ⟨⟨h0, h1, h2, h3⟩, ⟨g0, g1, g2, g3⟩, f, f'⟩ := h
  refine ⟨⟨?_, ?_, ?_, ?_⟩, ⟨?_, ?_, ?_, ?_⟩, fun j => ?_, fun j => ?_⟩ <;> simp [go_sem, h0, h1, h2, h3, g0, g1, g2, g3, f, f']
theorem TwoB.set2 {b : Nat} {c s g : Int} {x : Bool} {w : World} (h : TwoB b c s g x w) (n : Int) : TwoB b c s n x (w.setCell ⟨b, 2, none⟩ (.int .i64 n)) := by
  obtain ⟨⟨h0, h1, h2, h3⟩, ⟨g0, g1, g2, g3⟩, f, f'⟩ := h
  refine ⟨⟨?_, ?_, ?_, ?_⟩, ⟨?_, ?_, ?_, ?_⟩, fun j => ?_, fun j => ?_⟩ <;> simp [go_sem, h0, h1, h2, h3, g0, g1, g2, g3, f, f']

set_option maxRecDepth 20000 in
set_option maxHeartbeats 4000000 in
theorem tSend1 (w : World) : Calls Tryz.prog 12 #[tV 1 0 0 false, .slice none 0 0] w (RetS w) := by
  unfold tV
  obtain ⟨w0, hw0⟩ : ∃ w0, w0 = ((w.alloc (.cells #[.int .i64 1, .int .i64 0, .int .i64 0, .bool false] 23)).alloc (.cells #[.int .i64 0, .int .i64 0, .int .i64 0, .bool false] 23)) := ⟨_, rfl⟩
  obtain ⟨ht, hb0, hz0⟩ := two_new 1 0 0 false w hw0
  have HT0 := Lib.hid ht
  have HB0 := Lib.hid hb0
  have HZ0 := Lib.hid hz0
  have HW0 := Lib.hid hw0
  have k3 := ht.1.2.2.2
  have k0 := ht.1.1
  have k1 := ht.1.2.1
  clear hz0 hb0 ht hw0
  go_enter Tryz.func12, Tryz.ntmps12
  go_upto_region 1 with fail
  rw [← HW0.out]
  go_wp2_with fail
  refine (tEncNil _).mono ?_
  rintro e w1 ⟨rfl, hb⟩
  have HT1 := Lib.hid (HT0.out.step (by rw [← HZ0.out]; exact hb))
  have HB1 := Lib.hid (stepB HB0.out hb)
  have hz1 : w.heap.size + 2 ≤ w1.heap.size := by have := hb.size; have := HZ0.out; omega
  clear hb HT0 HB0 HW0 k0 k1 k3
  have k0 := HT1.out.1.1
  have k1 := HT1.out.1.2.1
  go_wp2_with fail
  refine (tPut1 _).mono ?_
  rintro e w2 ⟨v2, rfl, hown, hb⟩
  obtain ⟨A2, c2, rfl, _, hs⟩ := hown.ret
  have HS2 := Lib.hid hs
  have HT2 := Lib.hid (HT1.out.step (hb.mono hz1))
  have HB2 := Lib.hid (stepB HB1.out hb)
  have hz2 : w.heap.size + 2 ≤ w2.heap.size := by have := hb.size; omega
  clear hb HT1 HB1 hown hs k0 k1
  have k1 := HT2.out.1.2.1
  go_wp2_with fail
  refine (tPut2 A2 c2 _ HS2.out).mono ?_
  rintro e w3 ⟨v3, rfl, hown, hb⟩
  have HO3 := Lib.hid hown
  have HT3 := Lib.hid (HT2.out.step (hb.mono hz2))
  have HB3 := Lib.hid (stepB HB2.out hb)
  have hz3 : w.heap.size + 2 ≤ w3.heap.size := by have := hb.size; omega
  have hz23 : w2.heap.size ≤ w3.heap.size := hb.size
  clear hb HT2 HB2 hown k1 HS2
  go_upto_region 15 with (at_builtin; go_must (refine wpList_appB w3 rfl (.tmp 49) (.tmp 50) rfl w2.heap.size v3 [2, 2] [] none 0 rfl HO3.out rfl 0 (CL.nil _ _ _) w3 (Below.refl _ _) hz23 (by decide) ?_); intro v4 w4 hown4 hb4 hB4; rw [List.append_nil] at hown4; have HO4 := Lib.hid hown4; obtain ⟨A4, c4, rfl, _, hs⟩ := hown4.ret; rw [show ([2, 2] : List UInt8).length = 2 from rfl] at HO4 ⊢; have HT4 := Lib.hid (HT3.out.step (hb4.mono hz2)); have k1 := HT4.out.1.2.1; have f1 := HT4.out.2.2.1 1)
  have HB4 : Hid (Below w.heap.size w w4) := Lib.hid (HB3.out.trans (hb4.mono (by omega)))
  have hz4 : w.heap.size + 2 ≤ w4.heap.size := by omega
  clear hb4 hown4 hs HT3 HB3 HO3 hB4
  obtain ⟨wX, hwX⟩ : ∃ wX, wX = w4.setCell ⟨w.heap.size, 1, none⟩ (.int .i64 1) := ⟨_, rfl⟩
  have HTX : Hid (TwoB w.heap.size 1 1 0 false wX) := Lib.hid (by rw [hwX]; exact HT4.out.set1 1)
  have HBX : Hid (Below w.heap.size w wX) := Lib.hid (by rw [hwX]; exact HB4.out.setCell (Nat.le_refl _) _)
  have HSX : Hid (CL bv wX wX.heap.size A4 [2, 2]) := Lib.hid (by rw [hwX]; exact own_clT (own_setT HO4.out (p := ⟨w.heap.size, 1, none⟩) (by show w.heap.size < w2.heap.size; omega) _))
  have hzX : w.heap.size + 2 ≤ wX.heap.size := by rw [hwX]; simpa using hz4
  rw [← hwX]
  clear hwX HO4 HT4 HB4 k1 f1 hz4 hz3 hz23
  have k0 := HTX.out.1.1
  have k1 := HTX.out.1.2.1
  have k2 := HTX.out.1.2.2.1
  have k3 := HTX.out.1.2.2.2
  have g0 := HTX.out.2.1.1
  have g1 := HTX.out.2.1.2.1
  have g2 := HTX.out.2.1.2.2.1
  have g3 := HTX.out.2.1.2.2.2
  have z0 := HTX.out.2.2.2 0
  have z1 := HTX.out.2.2.2 1
  have z2 := HTX.out.2.2.2 2
  have z3 := HTX.out.2.2.2 3
  go_region_with (go_at_call 18; refine (tWrap22 A4 c4 _ (HSX.out.step (Below.refl _ _).drew)).mono ?_; rintro e w5 ⟨v5, rfl, hown5, hb5⟩; have HO5 := Lib.hid hown5; have HB5 := Lib.hid (stepB (Below.refl wX.heap.size wX).drew hb5); have HT5 := Lib.hid (HTX.out.step (HB5.out.mono hzX)); have k0 := HT5.out.1.1; have k1 := HT5.out.1.2.1; have k2 := HT5.out.1.2.2.1; have k3 := HT5.out.1.2.2.2; have g0 := HT5.out.2.1.1; have g1 := HT5.out.2.1.2.1; have g2 := HT5.out.2.1.2.2.1; have g3 := HT5.out.2.1.2.2.2; have z0 := HT5.out.2.2.2 0; have z1 := HT5.out.2.2.2 1; have z2 := HT5.out.2.2.2 2; have z3 := HT5.out.2.2.2 3; clear hown5 hb5)
  all_goals
    have hzD : wX.drew.heap.size = wX.heap.size := rfl
    obtain ⟨A5, c5, hv, hc5, _⟩ := HO5.out.ret
    subst hv
    have HO6 := Lib.hid (own_clT (own_setT (own_setT (own_setT (own_setT HO5.out (p := ⟨w.heap.size + 1, 0, none⟩) (by show w.heap.size + 1 < wX.drew.heap.size; omega) (.int .i64 1)) (p := ⟨w.heap.size + 1, 1, none⟩) (by show w.heap.size + 1 < wX.drew.heap.size; omega) (.int .i64 1)) (p := ⟨w.heap.size + 1, 2, none⟩) (by show w.heap.size + 1 < wX.drew.heap.size; omega) (.int .i64 0)) (p := ⟨w.heap.size + 1, 3, none⟩) (by show w.heap.size + 1 < wX.drew.heap.size; omega) (.bool false)))
    have HB6 := Lib.hid ((((stepB HBX.out HB5.out).setCell (p := ⟨w.heap.size + 1, 0, none⟩) (Nat.le_succ _) (.int .i64 1)).setCell (p := ⟨w.heap.size + 1, 1, none⟩) (Nat.le_succ _) (.int .i64 1)).setCell (p := ⟨w.heap.size + 1, 2, none⟩) (Nat.le_succ _) (.int .i64 0) |>.setCell (p := ⟨w.heap.size + 1, 3, none⟩) (Nat.le_succ _) (.bool false))
    have HC6 := Lib.hid hc5
    clear hzD hc5 HO5 HT5 HTX HSX
    rw [show ([4, 95, 123, 143, 197, 2, 2] : List UInt8).length = 7 from rfl] at HC6 ⊢
    go_wp2
    exact bodyPost_ret (v := .tuple #[.slice A5 7 c5, .agg #[.int .i64 1, .int .i64 1, .int .i64 0, .bool false], .int .i64 0]) (by simp [results, Tryz.results12, go_sem, g0, g1, g2, g3]) rfl ⟨A5, c5, rfl, HO6.out, HC6.out, HB6.out⟩

/-! ### What arrives -/
def RetRc (c s g : Int) (x : Bool) (e0 : Int) (w : World) (e : Ending) (w' : World) : Prop := e = .returned (.tuple #[.slice none 0 0, tV c s g x, .int .i64 e0]) ∧ Below w.heap.size w w'
theorem tOpen7 (A : Option Addr) (c : Nat) (w : World) (h : CL bv w w.heap.size A [4, 95, 123, 143, 197, 2, 2]) (hc : 7 ≤ c) : Calls Tryz.prog 14 #[.slice A 7 c] w fun e w' => ∃ A' c', e = .returned (.tuple #[.int .i64 1, .int .i64 1, .slice A' 0 c', .int .i64 0]) ∧ Below w.heap.size w w' :=
  (tOpen_any A c [4, 95, 123, 143, 197, 2, 2] w h hc (by decide)).mono fun _ _ h => by
    rw [bytes7] at h
    obtain ⟨A', c', h1, _, _, h2⟩ := h
    exact ⟨A', c', h1, h2⟩
set_option maxRecDepth 20000 in
set_option maxHeartbeats 4000000 in
theorem tRecv0 (A : Option Addr) (c : Nat) (w : World) (h : CL bv w w.heap.size A [4, 95, 123, 143, 197, 2, 2]) (hc : 7 ≤ c) : Calls Tryz.prog 13 #[tV 1 0 0 false, .slice A 7 c] w (RetRc 1 0 1 false 0 w) := by
  unfold tV
  obtain ⟨w0, hw0⟩ : ∃ w0, w0 = ((w.alloc (.cells #[.int .i64 1, .int .i64 0, .int .i64 0, .bool false] 23)).alloc (.cells #[.int .i64 0, .int .i64 0, .int .i64 0, .bool false] 23)) := ⟨_, rfl⟩
  obtain ⟨ht, hb0, hz0⟩ := two_new 1 0 0 false w hw0
  have HT0 := Lib.hid ht
  have HB0 := Lib.hid hb0
  have HZ0 := Lib.hid hz0
  have HW0 := Lib.hid hw0
  have HO := Lib.hid (fun w h => tOpen7 A c w h hc)
  have HS := Lib.hid (h.step hb0)
  clear hz0 hb0 ht hw0 h hc
  go_enter Tryz.func13, Tryz.ntmps13
  go_upto_region 1 with fail
  rw [← HW0.out]
  go_wp2_with fail
  refine (HO.out _ HS.out).mono ?_
  rintro e w1 ⟨A1, c1, rfl, hb⟩
  have HT1 := Lib.hid (HT0.out.step (by rw [← HZ0.out]; exact hb))
  have HB1 := Lib.hid (stepB HB0.out hb)
  clear hb HT0 HB0 HW0 HS HO
  go_wp2_with fail
  refine (tDecNil A1 c1 _).mono ?_
  rintro e w' ⟨rfl, rfl⟩
  have k0 := HT1.out.1.1
  have k1 := HT1.out.1.2.1
  have k2 := HT1.out.1.2.2.1
  have k3 := HT1.out.1.2.2.2
  have f2 := HT1.out.2.2.1 2
  go_upto_region 16 with fail
  obtain ⟨wX, hwX⟩ : ∃ wX, wX = w1.setCell ⟨w.heap.size, 2, none⟩ (.int .i64 1) := ⟨_, rfl⟩
  have HTX : Hid (TwoB w.heap.size 1 0 1 false wX) := Lib.hid (by rw [hwX]; exact HT1.out.set2 1)
  have HBX : Hid (Below w.heap.size w wX) := Lib.hid (by rw [hwX]; exact HB1.out.setCell (Nat.le_refl _) _)
  rw [← hwX]
  clear hwX HT1 HB1 k0 k1 k2 k3 f2
  have k0 := HTX.out.1.1
  have k1 := HTX.out.1.2.1
  have k2 := HTX.out.1.2.2.1
  have k3 := HTX.out.1.2.2.2
  have g0 := HTX.out.2.1.1
  have g1 := HTX.out.2.1.2.1
  have g2 := HTX.out.2.1.2.2.1
  have g3 := HTX.out.2.1.2.2.2
  have z0 := HTX.out.2.2.2 0
  have z1 := HTX.out.2.2.2 1
  have z2 := HTX.out.2.2.2 2
  have z3 := HTX.out.2.2.2 3
  go_region
  all_goals
    have HB6 := Lib.hid ((((stepB HBX.out (Below.refl _ _).drew).setCell (p := ⟨w.heap.size + 1, 0, none⟩) (Nat.le_succ _) (.int .i64 1)).setCell (p := ⟨w.heap.size + 1, 1, none⟩) (Nat.le_succ _) (.int .i64 0)).setCell (p := ⟨w.heap.size + 1, 2, none⟩) (Nat.le_succ _) (.int .i64 1) |>.setCell (p := ⟨w.heap.size + 1, 3, none⟩) (Nat.le_succ _) (.bool false))
    clear HTX
    go_wp2
    exact bodyPost_ret (v := .tuple #[.slice none 0 0, .agg #[.int .i64 1, .int .i64 0, .int .i64 1, .bool false], .int .i64 0]) (by simp [results, Tryz.results13, go_sem, g0, g1, g2, g3]) rfl ⟨rfl, HB6.out⟩
set_option maxRecDepth 20000 in
set_option maxHeartbeats 4000000 in
theorem tRecv1 (A : Option Addr) (c : Nat) (w : World) (h : CL bv w w.heap.size A [4, 95, 123, 143, 197, 2, 2]) (hc : 7 ≤ c) : Calls Tryz.prog 13 #[tV 1 0 1 false, .slice A 7 c] w (RetRc 1 0 1 false 26 w) := by
  unfold tV
  obtain ⟨w0, hw0⟩ : ∃ w0, w0 = ((w.alloc (.cells #[.int .i64 1, .int .i64 0, .int .i64 1, .bool false] 23)).alloc (.cells #[.int .i64 0, .int .i64 0, .int .i64 0, .bool false] 23)) := ⟨_, rfl⟩
  obtain ⟨ht, hb0, hz0⟩ := two_new 1 0 1 false w hw0
  have HT0 := Lib.hid ht
  have HB0 := Lib.hid hb0
  have HZ0 := Lib.hid hz0
  have HW0 := Lib.hid hw0
  have HO := Lib.hid (fun w h => tOpen7 A c w h hc)
  have HS := Lib.hid (h.step hb0)
  clear hz0 hb0 ht hw0 h hc
  go_enter Tryz.func13, Tryz.ntmps13
  go_upto_region 1 with fail
  rw [← HW0.out]
  go_wp2_with fail
  refine (HO.out _ HS.out).mono ?_
  rintro e w1 ⟨A1, c1, rfl, hb⟩
  have HT1 := Lib.hid (HT0.out.step (by rw [← HZ0.out]; exact hb))
  have HB1 := Lib.hid (stepB HB0.out hb)
  clear hb HT0 HB0 HW0 HS HO
  go_wp2_with fail
  refine (tDecNil A1 c1 _).mono ?_
  rintro e w' ⟨rfl, rfl⟩
  have k0 := HT1.out.1.1
  have k1 := HT1.out.1.2.1
  have k2 := HT1.out.1.2.2.1
  have k3 := HT1.out.1.2.2.2
  have g0 := HT1.out.2.1.1
  have g1 := HT1.out.2.1.2.1
  have g2 := HT1.out.2.1.2.2.1
  have g3 := HT1.out.2.1.2.2.2
  have z0 := HT1.out.2.2.2 0
  have z1 := HT1.out.2.2.2 1
  have z2 := HT1.out.2.2.2 2
  have z3 := HT1.out.2.2.2 3
  go_upto_region 12 with fail
  go_region
  all_goals
    have HB6 := Lib.hid ((((stepB HB1.out (Below.refl _ _).drew).setCell (p := ⟨w.heap.size + 1, 0, none⟩) (Nat.le_succ _) (.int .i64 1)).setCell (p := ⟨w.heap.size + 1, 1, none⟩) (Nat.le_succ _) (.int .i64 0)).setCell (p := ⟨w.heap.size + 1, 2, none⟩) (Nat.le_succ _) (.int .i64 1) |>.setCell (p := ⟨w.heap.size + 1, 3, none⟩) (Nat.le_succ _) (.bool false))
    clear HT1
    go_wp2
    exact bodyPost_ret (v := .tuple #[.slice none 0 0, .agg #[.int .i64 1, .int .i64 0, .int .i64 1, .bool false], .int .i64 26]) (by simp [results, Tryz.results13, go_sem, g0, g1, g2, g3]) rfl ⟨rfl, HB6.out⟩

end Go.Proofs.YtaaginkafadhdabGreatDoor
