/-
  The example that each statement of brokerlaw14 looks at. Conditions: the library's bound on short texts holds a number.
-/
import Derived.Test.YtjpikgphfhjilaaGreatDoorWo
import Derived.Test.YtjpikgphfhjilaaGreatDoorVs
namespace Go.Proofs.YtjpikgphfhjilaaGreatDoor
open Go.RowKit
open S2 (BK Put)

def exM : Msg := ⟨⟨#[116]⟩, ⟨#[]⟩, 2, false, 0, 0, ⟨#[]⟩, 0, []⟩
theorem ex1 : startR (2, [], [], 0) exM = ((2, [⟨1, 1, exM⟩], [1], 1), pubP ⟨1, 1, exM⟩ false, 0) := by kernel_rfl
theorem ex2 : handleR (2, [⟨1, 1, exM⟩], [1], 1) 5 1 = ((2, [⟨1, 2, exM⟩], [1], 1), [relP 1], 0) := by kernel_rfl
theorem ex3 : handleR (2, [⟨1, 2, exM⟩], [1], 1) 7 1 = ((2, [], [], 1), [], 0) := by kernel_rfl
def ackP (k : Int) : Pkt := { Pkt.zero with kind := k, id := 1 }
theorem one_of {α β : Type} {f : α → β} {xs : List α} {y : β} (h : xs.map f = [y]) : ∃ x, xs = [x] ∧ f x = y := by
  cases xs with
  | nil => cases h
  | cons a r =>
    cases r with
    | nil => simp at h; exact ⟨a, rfl, h⟩
    | cons b r => simp at h
theorem none_of {α β : Type} {f : α → β} {xs : List α} (h : xs.map f = []) : xs = [] := by simpa using h

set_option maxRecDepth 20000 in
set_option maxHeartbeats 4000000 in
theorem awake14_any (w : World) (hok : S1.Okw w) : Calls Tryz.prog 5 #[] w fun e w' => e = .returned (.bool true) ∧ Below w.heap.size w w' := by
  have HOK := Lib.hid hok
  have H1 := Lib.hid (fun w1 => new_any 2 w1)
  have H2 := Lib.hid (fun w1 ho => start_any 2 none 0 [] none 0 [] 0 exM none 0 w1 ho ⟨FI.nil _ _ _, Nat.le_refl _, CL.nil _ _ _, Nat.le_refl _⟩ (GL.nil _ _ _) (by decide) (by decide) (by decide) (fun x hx => by cases hx) (by decide) (by decide))
  rw [show startR (2, ([] : List FE).map FE.f, [], 0) exM = _ from ex1] at H2
  have H3 : Hid (∀ A c y A2 c2, y.f = ⟨1, 1, exM⟩ → ∀ w1, WOk w1 A c [y] A2 c2 [1] → Calls Tryz.prog 13 #[wv 2 A c [y] A2 c2 [1] 1, pkV (ackP 5) PA.zero] w1 (RetH ((2, [⟨1, 2, exM⟩], [1], 1), [relP 1], 0) w1)) := Lib.hid (fun A c y A2 c2 hy w1 h => by
    have h2 := handle_any 2 A c [y] A2 c2 [1] 1 (ackP 5) PA.zero w1 h (by simp) (fun x hx => by simp at hx; subst hx; rw [hy]; decide) (by decide) (fun x hx => by simp at hx; subst hx; rw [hy]; decide)
    rw [show handleR (2, [y].map FE.f, [1], 1) (ackP 5).kind (ackP 5).id = ((2, [⟨1, 2, exM⟩], [1], 1), [relP 1], 0) from (by show handleR (2, [y.f], [1], 1) 5 1 = ((2, [⟨1, 2, exM⟩], [1], 1), [relP 1], 0); rw [hy]; exact ex2)] at h2
    exact h2)
  have H4 : Hid (∀ A c y A2 c2, y.f = ⟨1, 2, exM⟩ → ∀ w1, WOk w1 A c [y] A2 c2 [1] → Calls Tryz.prog 13 #[wv 2 A c [y] A2 c2 [1] 1, pkV (ackP 7) PA.zero] w1 (RetH ((2, [], [], 1), [], 0) w1)) := Lib.hid (fun A c y A2 c2 hy w1 h => by
    have h2 := handle_any 2 A c [y] A2 c2 [1] 1 (ackP 7) PA.zero w1 h (by simp) (fun x hx => by simp at hx; subst hx; rw [hy]; decide) (by decide) (fun x hx => by simp at hx; subst hx; rw [hy]; decide)
    rw [show handleR (2, [y].map FE.f, [1], 1) (ackP 7).kind (ackP 7).id = ((2, [], [], 1), [], 0) from (by show handleR (2, [y.f], [1], 1) 7 1 = ((2, [], [], 1), [], 0); rw [hy]; exact ex3)] at h2
    exact h2)
  have H5 : Hid (∀ A c y A2 c2, y.f = ⟨1, 2, exM⟩ → ∀ w1, FI w1 w1.heap.size A [y] → Calls Tryz.prog 14 #[wv 2 A c [y] A2 c2 [1] 1] w1 (RetKs [relP 1] w1)) := Lib.hid (fun A c y A2 c2 hy w1 h => by
    have h2 := resend_any 2 A c [y] A2 c2 [1] 1 w1 h (by simp) (fun x hx => by simp at hx; subst hx; rw [hy]; decide)
    rw [show ([y].map FE.f).map againP = [relP 1] from (by show [againP y.f] = _; rw [hy]; rfl)] at h2
    exact h2)
  have H6 := Lib.hid (fun A c y A2 c2 w1 => left_any 2 A c [y] A2 c2 [1] 1 w1 (by decide) (by decide) (by simp))
  have H7 := Lib.hid (fun A c A2 c2 w1 => left_any 2 A c [] A2 c2 [] 1 w1 (by decide) (by decide) (by decide))
  have H8 : Hid (∀ A c y A2 c2, y.f = ⟨1, 2, exM⟩ → ∀ w1, FI w1 w1.heap.size A [y] → Calls Tryz.prog 16 #[wv 2 A c [y] A2 c2 [1] 1] w1 (RetMs [exM] w1)) := Lib.hid (fun A c y A2 c2 hy w1 h => by
    have h2 := messages_any 2 A c [y] A2 c2 [1] 1 w1 h (by simp) (fun x hx => by simp at hx; subst hx; rw [hy]; decide)
    rw [show ([y].map FE.f).map Fl.m = [exM] from (by show [y.f.m] = _; rw [hy])] at h2
    exact h2)
  have e6 : ∀ y : FE, leftR 2 [y].length = 1 := fun _ => rfl
  have e7 : leftR 2 ([] : List FE).length = 2 := rfl
  simp only [e6] at H6
  rw [e7] at H7
  clear e6 e7
  clear hok
  go_enter Tryz.func5, Tryz.ntmps5
  go_wp2_with fail
  refine (H1.out w).mono ?_
  rintro e w1 ⟨rfl, hb1⟩
  have B_w1 := Lib.hid hb1
  clear hb1 H1
  go_wp2_with fail
  refine (H2.out w1 (HOK.out.step B_w1.out)).mono ?_
  rintro e w2 ⟨A, c, ys, A2, c2, a3, c3, rfl, hys, hok2, _, hpl3, _, hb⟩
  obtain ⟨y, rfl, hy⟩ := one_of hys
  have HY := Lib.hid hy
  have O_w2 := Lib.hid hok2
  have B_w2 := Lib.hid (stepB B_w1.out hb)
  clear hb hys hok2 hpl3 hy H2 B_w1
  go_upto_region 2 with first
    | (refine S2.wpList_store_all (by rfl) 27 (.tmp 1) (.tmp 15) rfl rfl w2.heap.size rfl (wcs 2 A c [y] A2 c2 [1] 1) rfl 27 (wcs 0 none 0 [] none 0 [] 0) ((BK.new w2 _ _).alloc _) winSize rfl (ones rfl) ?_; intro w3 hM hP; have T_w3 : Hid (BK 27 w3 w2.heap.size (wcs 2 A c [y] A2 c2 [1] 1)) := Lib.hid hM; have K_w3 : Hid (BK 39 w3 (w2.heap.size + 1) zeroPk) := Lib.hid (hP.other (by have h := BK.new (w2.alloc (.cells (wcs 0 none 0 [] none 0 [] 0).toArray 27)) 39 zeroPk; rw [show (w2.alloc (.cells (wcs 0 none 0 [] none 0 [] 0).toArray 27)).heap.size = w2.heap.size + 1 by simp] at h; exact h) (by omega)); have C_w3 : Hid (Below w2.heap.size w2 w3) := Lib.hid (hP.below (stepB (S2.below_new w2 _) (S2.below_new _ _)) (Nat.le_refl _)); clear hM hP)
    | (refine S2.wpList_store_all (by rfl) 39 (.tmp 2) (.tmp 16) rfl rfl (w2.heap.size + 1) rfl (pkC (pubP ⟨1, 1, exM⟩ false) (pubA a3 c3)) rfl 39 zeroPk K_w3.out pktSize rfl (pkOnes _ _) ?_; intro w4 hM hP; have T_w4 := Lib.hid (hP.other T_w3.out (by omega)); have K_w4 : Hid (BK 39 w4 (w2.heap.size + 1) (pkC (pubP ⟨1, 1, exM⟩ false) (pubA a3 c3))) := Lib.hid hM; have C_w4 : Hid (Below w2.heap.size w2 w4) := Lib.hid (hP.below C_w3.out (by omega)); clear hM hP T_w3 K_w3 C_w3)
  have O_w4 := Lib.hid (O_w2.out.step C_w4.out)
  have B_w4 := Lib.hid (stepB B_w2.out C_w4.out)
  clear O_w2 B_w2 C_w4
  go_wp2_with first
    | (refine wpList_load_v (by rfl) 27 (.tmp 1) rfl ⟨w2.heap.size, 0, none⟩ rfl (wv 2 A c [y] A2 c2 [1] 1) (S2.run_load_all T_w4.out Tryz.underlying27 rfl winSize) ?_)
  refine (H3.out A c y A2 c2 HY.out w4 O_w4.out).mono ?_
  rintro e w5 ⟨A5, c5, ys, A6, c6, A7, c7, ks, rfl, hys, hok5, _, hks, hks5, hb⟩
  obtain ⟨y5, rfl, hy5⟩ := one_of hys
  obtain ⟨z, rfl, hz⟩ := one_of hks
  have HY5 := Lib.hid hy5
  have HZ := Lib.hid hz
  have O_w5 := Lib.hid hok5
  have S_w5 := Lib.hid hks5
  have K_w5 := Lib.hid (K_w4.out.step hb)
  have B_w5 := Lib.hid (stepB B_w4.out hb)
  clear hb hys hok5 hks5 hy5 hks hz H3 T_w4 K_w4 O_w4 B_w4
  go_wp2_with first
    | (refine S2.wpList_store_all (by rfl) 27 (.tmp 4) (.tmp 22) rfl rfl w5.heap.size rfl (wcs 2 A5 c5 [y5] A6 c6 [1] 1) rfl 27 (wcs 0 none 0 [] none 0 [] 0) (BK.new w5 _ _) winSize rfl (ones rfl) ?_; intro w6 hM hP; have V_w6 : Hid (BK 27 w6 w5.heap.size (wcs 2 A5 c5 [y5] A6 c6 [1] 1)) := Lib.hid hM; have hbx : Below w5.heap.size w5 w6 := hP.below (S2.below_new w5 _) (Nat.le_refl _); have K_w6 := Lib.hid (K_w5.out.step hbx); have O_w6 := Lib.hid (O_w5.out.step hbx); have S_w6 := Lib.hid (S_w5.out.step hbx); have B_w6 := Lib.hid (stepB B_w5.out hbx); clear hM hP hbx K_w5 O_w5 S_w5 B_w5)
    | (refine wpList_load_v (by rfl) 27 (.tmp 4) rfl ⟨w5.heap.size, 0, none⟩ rfl (wv 2 A5 c5 [y5] A6 c6 [1] 1) (S2.run_load_all V_w6.out Tryz.underlying27 rfl winSize) ?_)
  refine (H4.out A5 c5 y5 A6 c6 HY5.out w6 O_w6.out).mono ?_
  rintro e w7 ⟨A8, c8, ys, A9, c9, A10, c10, ks, rfl, hys, _, _, hks, _, hb⟩
  obtain rfl := none_of hys
  obtain rfl := none_of hks
  have V_w7 := Lib.hid (V_w6.out.step hb)
  have K_w7 := Lib.hid (K_w6.out.step hb)
  have O_w7 := Lib.hid (O_w6.out.step hb)
  have S_w7 := Lib.hid (S_w6.out.step hb)
  have B_w7 := Lib.hid (stepB B_w6.out hb)
  clear hb hys hks H4 V_w6 K_w6 O_w6 S_w6 B_w6
  go_wp2_with first
    | (refine S2.wpList_store_all (by rfl) 27 (.tmp 7) (.tmp 29) rfl rfl w7.heap.size rfl (wcs 2 A8 c8 [] A9 c9 [] 1) rfl 27 (wcs 0 none 0 [] none 0 [] 0) (BK.new w7 _ _) winSize rfl (ones rfl) ?_; intro w8 hM hP; have U_w8 : Hid (BK 27 w8 w7.heap.size (wcs 2 A8 c8 [] A9 c9 [] 1)) := Lib.hid hM; have hbx : Below w7.heap.size w7 w8 := hP.below (S2.below_new w7 _) (Nat.le_refl _); have K_w8 := Lib.hid (K_w7.out.step hbx); have V_w8 := Lib.hid (V_w7.out.step hbx); have O_w8 := Lib.hid (O_w7.out.step hbx); have S_w8 := Lib.hid (S_w7.out.step hbx); have B_w8 := Lib.hid (stepB B_w7.out hbx); clear hM hP hbx K_w7 V_w7 O_w7 S_w7 B_w7)
    | (refine wpList_load_v (by rfl) 27 (.tmp 4) rfl ⟨w5.heap.size, 0, none⟩ rfl (wv 2 A5 c5 [y5] A6 c6 [1] 1) (S2.run_load_all V_w8.out Tryz.underlying27 rfl winSize) ?_)
  refine (H5.out A5 c5 y5 A6 c6 HY5.out w8 O_w8.out.1).mono ?_
  rintro e w9 ⟨A11, c11, ks, rfl, hks, hks9, _, hb⟩
  obtain ⟨z9, rfl, hz9⟩ := one_of hks
  have K_w9 := Lib.hid (K_w8.out.step hb)
  have V_w9 := Lib.hid (V_w8.out.step hb)
  have U_w9 := Lib.hid (U_w8.out.step hb)
  have O_w9 := Lib.hid (O_w8.out.step hb)
  have B_w9 := Lib.hid (stepB B_w8.out hb)
  obtain ⟨b1, o1, hA7, _, hc1⟩ := (S_w8.out.step hb).1 (by simp)
  obtain ⟨b2, o2, hA11, _, hc2⟩ := hks9.1 (by simp)
  subst hA7 hA11
  have k1 := hc1 0 z 0 _ rfl (pk0 z.1 z.2)
  have k2 := hc1 0 z 1 _ rfl (pk1 z.1 z.2)
  have k3 := hc2 0 z9 0 _ rfl (pk0 z9.1 z9.2)
  rw [HZ.out] at k1 k2
  rw [hz9] at k3
  simp only [Nat.zero_mul, Nat.add_zero] at k1 k2 k3
  have k1' : w9.cell? ⟨b1, o1, none⟩ = some (.int .i64 6) := k1
  have k2' : w9.cell? ⟨b1, o1 + 1, none⟩ = some (.int .i64 1) := k2
  have k3' : w9.cell? ⟨b2, o2, none⟩ = some (.int .i64 6) := k3
  have d0 : w9.cell? ⟨w2.heap.size + 1, 0, none⟩ = some (.int .i64 3) := K_w9.out.cell 0 rfl
  have d1 : w9.cell? ⟨w2.heap.size + 1, 1, none⟩ = some (.int .i64 1) := K_w9.out.cell 1 rfl
  have d2 : w9.cell? ⟨w2.heap.size + 1, 2, none⟩ = some (.bool false) := K_w9.out.cell 2 rfl
  have d3 : w9.cell? ⟨w2.heap.size + 1, 3, none⟩ = some (.string ⟨#[116]⟩) := K_w9.out.cell 3 rfl
  clear hb hks hks9 hz9 hc1 hc2 k1 k2 k3 H5 K_w8 V_w8 U_w8 O_w8 S_w8 B_w8 K_w9
  go_wp2_with first
    | (refine wpList_load_v (by rfl) 27 (.tmp 4) rfl ⟨w5.heap.size, 0, none⟩ rfl (wv 2 A5 c5 [y5] A6 c6 [1] 1) (S2.run_load_all V_w9.out Tryz.underlying27 rfl winSize) ?_)
  refine (H6.out A5 c5 y5 A6 c6 w9).mono ?_
  rintro e w10 ⟨rfl, hb⟩
  have V_w10 := Lib.hid (V_w9.out.step hb)
  have U_w10 := Lib.hid (U_w9.out.step hb)
  have O_w10 := Lib.hid (O_w9.out.step hb)
  have B_w10 := Lib.hid (stepB B_w9.out hb)
  clear hb d0 d1 d2 d3 k1' k2' k3' H6 V_w9 U_w9 O_w9 B_w9
  go_wp2_with first
    | (refine wpList_load_v (by rfl) 27 (.tmp 7) rfl ⟨w7.heap.size, 0, none⟩ rfl (wv 2 A8 c8 [] A9 c9 [] 1) (S2.run_load_all U_w10.out Tryz.underlying27 rfl winSize) ?_)
  refine (H7.out A8 c8 A9 c9 w10).mono ?_
  rintro e w11 ⟨rfl, hb⟩
  have V_w11 := Lib.hid (V_w10.out.step hb)
  have O_w11 := Lib.hid (O_w10.out.step hb)
  have B_w11 := Lib.hid (stepB B_w10.out hb)
  clear hb H7 V_w10 U_w10 O_w10 B_w10
  go_wp2_with first
    | (refine wpList_load_v (by rfl) 27 (.tmp 4) rfl ⟨w5.heap.size, 0, none⟩ rfl (wv 2 A5 c5 [y5] A6 c6 [1] 1) (S2.run_load_all V_w11.out Tryz.underlying27 rfl winSize) ?_)
  refine (H8.out A5 c5 y5 A6 c6 HY5.out w11 O_w11.out.1).mono ?_
  rintro e w12 ⟨A13, c13, ks, rfl, hks, _, _, hb⟩
  obtain ⟨z12, rfl, _⟩ := one_of hks
  have B_w12 := Lib.hid (stepB B_w11.out hb)
  clear hb hks
  go_wp2
  go_ret
  exact ⟨rfl, B_w12.out⟩
end Go.Proofs.YtjpikgphfhjilaaGreatDoor
