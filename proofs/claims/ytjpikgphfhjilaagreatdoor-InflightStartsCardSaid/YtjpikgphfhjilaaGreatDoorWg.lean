/-
  What New, Left, again, awaits and position of inflight answer. Conditions: the window or item reads as data; few items, with few properties.
-/
import Derived.Test.YtjpikgphfhjilaaGreatDoorWe
namespace Go.Proofs.YtjpikgphfhjilaaGreatDoor
open Go.RowKit
open S2 (BK Put)

set_option maxRecDepth 20000 in
set_option maxHeartbeats 1000000 in
theorem new_any (n : Int) (w : World) : Calls Tryz.prog 12 #[.int .i64 n] w fun e w' => e = .returned (wv (limR n) none 0 [] none 0 [] 0) ∧ Below w.heap.size w w' := by
  obtain ⟨r, hr⟩ : ∃ r, limR n = r := ⟨_, rfl⟩
  rw [hr]
  unfold limR at hr
  have h1 : (if (32 : Int) < n then 32 else n) = min n 32 := by rw [Int.min_def]; split <;> split <;> omega
  have HR : Hid (max 0 (min n 32) = r) := Lib.hid (by rw [← hr, Int.max_def, Int.min_def]; split <;> split <;> split <;> omega)
  clear hr h1
  go_enter Tryz.func12, Tryz.ntmps12
  go_wp2_with fail
  rw [HR.out]
  exact bodyPost_ret (v := wv r none 0 [] none 0 [] 0) (S2.res_cell rfl _ _ w.heap.size 27 (wcs r none 0 [] none 0 [] 0) _ rfl (BK.new w _ _) Tryz.underlying27 rfl winSize) rfl ⟨rfl, S2.below_new w _⟩

set_option maxRecDepth 20000 in
set_option maxHeartbeats 1000000 in
theorem left_any (L : Int) (A : Option Addr) (c : Nat) (xs : List FE) (A2 : Option Addr) (c2 : Nat) (X : List Int) (l : Int) (w : World) (h0 : 0 ≤ L) (h1 : L ≤ 32) (h2 : xs.length ≤ 32) :
    Calls Tryz.prog 15 #[wv L A c xs A2 c2 X l] w fun e w' => e = .returned (.int .i64 (leftR L xs.length)) ∧ Below w.heap.size w w' := by
  go_enter Tryz.func15, Tryz.ntmps15
  go_wp2_with fail
  go_ret
  exact ⟨S2.ret_i (by unfold leftR; rw [Int.max_def]; split <;> split <;> omega), S2.below_new w _⟩

set_option maxRecDepth 20000 in
set_option maxHeartbeats 1000000 in
theorem awaits_any (x : FE) (k : Int) (w : World) : Calls Tryz.prog 35 #[fV x, .int .i64 k] w fun e w' => e = .returned (.bool (awaitsR x.f k)) ∧ Below w.heap.size w w' := by
  unfold fV
  have k1 : (gF x)[1]? = some (.int .i64 x.f.st) := rfl
  have k4 : (gF x)[4]? = some (.int .i64 x.f.m.level) := rfl
  have HB := Lib.hid (S2.below_new w (.cells (gF x).toArray 60))
  by_cases h4 : k = 4
  · subst h4
    have HA : Hid (awaitsR x.f 4 = (x.f.m.level == 1)) := Lib.hid rfl
    go_enter Tryz.func35, Tryz.ntmps35
    go_wp2
    go_ret
    exact ⟨retb HA.out.symm, HB.out⟩
  have q4 : (k == 4) = false := by simp [h4]
  by_cases h5 : k = 5
  · subst h5
    have HA : Hid (awaitsR x.f 5 = (x.f.m.level == 2)) := Lib.hid rfl
    clear h4
    go_enter Tryz.func35, Tryz.ntmps35
    go_wp2
    go_ret
    exact ⟨retb HA.out.symm, HB.out⟩
  have q5 : (k == 5) = false := by simp [h5]
  have HA : Hid (awaitsR x.f k = ((x.f.m.level == 2) && (x.f.st == 2))) := Lib.hid (by unfold awaitsR; rw [if_neg h4, if_neg h5]; rfl)
  clear h4 h5
  cases q : (x.f.m.level == 2)
  · rw [q] at HA
    go_enter Tryz.func35, Tryz.ntmps35
    go_wp2
    go_ret
    exact ⟨retb HA.out.symm, HB.out⟩
  · rw [q] at HA
    go_enter Tryz.func35, Tryz.ntmps35
    go_wp2
    go_ret
    exact ⟨retb HA.out.symm, HB.out⟩

theorem posF_at {F : List Fl} {n : Int} {k : Nat} {x : Fl} (hx : F[k]? = some x) (hid : x.id = n) (hb : ∀ j y, j < k → F[j]? = some y → y.id ≠ n) : posF F n = k := by
  unfold posF
  obtain ⟨hk, e⟩ := List.getElem?_eq_some_iff.1 hx
  rw [List.findIdx_eq hk]
  refine ⟨by rw [e]; simp [hid], fun j hj => ?_⟩
  have := hb j _ hj (List.getElem?_eq_getElem (by omega))
  simpa using this
theorem posF_none {F : List Fl} {n : Int} (hb : ∀ j y, j < F.length → F[j]? = some y → y.id ≠ n) : posF F n = F.length := by
  unfold posF
  rw [List.findIdx_eq_length]
  intro x hx
  obtain ⟨j, hj⟩ := List.mem_iff_getElem?.1 hx
  have := hb j x (List.getElem?_eq_some_iff.1 hj).1 hj
  simpa using this

set_option maxRecDepth 20000 in
set_option maxHeartbeats 1000000 in
theorem position_any (L : Int) (A : Option Addr) (c : Nat) (xs : List FE) (A2 : Option Addr) (c2 : Nat) (X : List Int) (l n : Int) (w : World) (hsl : FI w w.heap.size A xs) (h2 : xs.length ≤ 100000) :
    Calls Tryz.prog 34 #[wv L A c xs A2 c2 X l, .int .i64 n] w fun e w' => e = .returned (.int .i64 (posF (xs.map FE.f) n : Nat)) ∧ Below w.heap.size w w' := by
  have HS := Lib.hid (hsl.step (S2.below_new w (.cells (wcs L A c xs A2 c2 X l).toArray 27)))
  have HB := Lib.hid (S2.below_new w (.cells (wcs L A c xs A2 c2 X l).toArray 27))
  have HM : Hid (BK 27 (w.alloc (.cells (wcs L A c xs A2 c2 X l).toArray 27)) w.heap.size (wcs L A c xs A2 c2 X l)) := Lib.hid (BK.new w _ _)
  clear hsl
  go_enter Tryz.func34, Tryz.ntmps34
  go_upto_region 1 with fail
  refine name_world (C := fun w1 => Code.wp _ _ _ _ w1) (w.alloc (.cells (wcs L A c xs A2 c2 X l).toArray 27)) ?_
  generalize w.alloc (.cells (wcs L A c xs A2 c2 X l).toArray 27) = w0 at HS HB HM
  intro w1 hw1
  subst hw1
  have d1 := HM.out.cell 1 rfl
  go_wp2_with fail
  go_loopg [9] xs.length (fun g v wr => ∃ k : Nat, k + g = xs.length ∧ v = .int .i64 k ∧ (∀ j y, j < k → (xs.map FE.f)[j]? = some y → y.id ≠ n) ∧ wr = w1)
  case atStart => exact ⟨0, by omega, rfl, fun j y h => absurd h (by omega), rfl⟩
  case round =>
    obtain ⟨k, hkg, rfl, hrel, rfl⟩ := hrel
    have HREL := Lib.hid hrel
    have HK := Lib.hid hkg
    clear hrel
    cases gk with
    | zero =>
      obtain rfl : k = xs.length := by omega
      have HF : Hid (posF (xs.map FE.f) n = xs.length) := Lib.hid (by rw [posF_none (by rw [List.length_map]; exact HREL.out), List.length_map])
      clear hkg
      go_wp2
      go_ret
      exact ⟨S2.ret_i (by rw [HF.out]), HB.out⟩
    | succ g =>
      have hlt : k < xs.length := by omega
      have e3 : decide ((k : Int) < (xs.length : Int)) = true := decide_eq_true (by omega)
      obtain ⟨x, hx⟩ : ∃ x, xs[k]? = some x := ⟨_, List.getElem?_eq_getElem hlt⟩
      obtain ⟨b, o, hA, hbB, hc, _⟩ := HS.out.at_ hx
      subst hA
      have kv := hc 0 _ rfl
      rw [Nat.add_zero] at kv
      have j1 : (0 : Int) ≤ (k : Int) := by omega
      have j2 : (k : Int) < (xs.length : Int) := by omega
      have hfx : (xs.map FE.f)[k]? = some x.f := by rw [List.getElem?_map, hx]; rfl
      by_cases hid : x.f.id = n
      · have q : (x.f.id == n) = true := by simp [hid]
        have HF : Hid (posF (xs.map FE.f) n = k) := Lib.hid (posF_at hfx hid HREL.out)
        clear hx hfx hid hc hbB hkg hlt
        go_wp2
        go_ret
        exact ⟨S2.ret_i (by rw [HF.out]), HB.out⟩
      · have q : (x.f.id == n) = false := by simp [hid]
        have HR2 : Hid (∀ j y, j < k + 1 → (xs.map FE.f)[j]? = some y → y.id ≠ n) := Lib.hid (fun j y hj hy => by
          by_cases e : j = k
          · subst e; rw [hfx] at hy; rw [← Option.some.inj hy]; exact hid
          · exact HREL.out j y (by omega) hy)
        clear hx hfx hid hc hbB hkg hlt
        go_wp2
        go_roundg g
        case measure => omega
        case rel => exact ⟨k + 1, by have := HK.out; omega, by go_num, HR2.out, rfl⟩

set_option maxRecDepth 20000 in
set_option maxHeartbeats 1000000 in
theorem again_any (x : FE) (w : World) (hsl : PL w w.heap.size x.a x.f.m.props) (hn : x.f.m.props.length ≤ 100000) : Calls Tryz.prog 39 #[fV x] w (RetK (againP x.f) w) := by
  have HP := Lib.hid (fun w1 h => publish_any x w1 h hn)
  have HR := Lib.hid (fun w1 => pubrel_any x.f.id w1)
  have HS := Lib.hid hsl
  clear hsl hn
  by_cases hst : x.f.st = 2
  · have q : (x.f.st == 2) = true := by simp [hst]
    have HA : Hid (againP x.f = relP x.f.id) := Lib.hid (by unfold againP; rw [if_pos hst])
    clear hst
    unfold fV
    go_enter Tryz.func39, Tryz.ntmps39
    go_upto_region 1 with fail
    refine name_world (C := fun w1 => Code.wp _ _ _ _ w1) ((w.alloc (.cells (gF x).toArray 60)).alloc (.cells zeroPk.toArray 39)) ?_
    intro w1 hw1
    obtain ⟨t1, t2, hs0, hB0⟩ := S2.two_laid (v1 := gF x) (v2 := zeroPk) hw1
    have T2 := Lib.hid t2
    have HB := Lib.hid hB0
    have d0 := t1.cell 0 rfl
    have d1 := t1.cell 1 rfl
    clear hw1 t1 t2 hs0 hB0
    go_wp2_with fail
    refine (HR.out w1).mono ?_
    rintro e w2 ⟨rfl, hb⟩
    have U2 := Lib.hid (T2.out.step hb)
    have HB2 := Lib.hid (stepB HB.out hb)
    clear hb d0 d1 T2 HB
    go_wp2_with first
      | (refine S2.wpList_store_all (by rfl) 39 (.tmp 2) (.tmp 9) rfl rfl (w.heap.size + 1) rfl (pkC (relP x.f.id) PA.zero) rfl 39 zeroPk U2.out pktSize rfl (pkOnes _ _) ?_; intro w3 hM hP; have M3 := Lib.hid hM; have B3 := Lib.hid (hP.below HB2.out (by omega)); clear hM hP)
    rw [HA.out]
    exact bodyPost_ret (v := pkV (relP x.f.id) (pubA none 0)) (S2.res_cell rfl _ _ (w.heap.size + 1) 39 (pkC (relP x.f.id) PA.zero) _ rfl M3.out Tryz.underlying39 rfl pktSize) rfl ⟨none, 0, rfl, GL.nil _ _ _, (fun b o e => by cases e), B3.out⟩
  · have q : (x.f.st == 2) = false := by simp [hst]
    have HA : Hid (againP x.f = pubP x.f true) := Lib.hid (by unfold againP; rw [if_neg hst])
    clear hst
    unfold fV at HP ⊢
    go_enter Tryz.func39, Tryz.ntmps39
    go_upto_region 1 with fail
    refine name_world (C := fun w1 => Code.wp _ _ _ _ w1) ((w.alloc (.cells (gF x).toArray 60)).alloc (.cells zeroPk.toArray 39)) ?_
    intro w1 hw1
    obtain ⟨t1, t2, hs0, hB0⟩ := S2.two_laid (v1 := gF x) (v2 := zeroPk) hw1
    have T1 := Lib.hid t1
    have T2 := Lib.hid t2
    have HB := Lib.hid hB0
    have HZ := Lib.hid hs0
    have d1 := t1.cell 1 rfl
    clear hw1 t1 t2 hs0 hB0
    go_wp2_with first
      | (refine wpList_load_v (by rfl) 60 (.tmp 1) rfl ⟨w.heap.size, 0, none⟩ rfl (.agg (gF x).toArray) (bk_item T1.out) ?_)
    refine (HP.out w1 (HS.out.step HB.out)).mono ?_
    rintro e w2 ⟨a2, c2, rfl, hpl2, hnew2, hb⟩
    have U2 := Lib.hid (T2.out.step hb)
    have HB2 := Lib.hid (stepB HB.out hb)
    have HPL := Lib.hid hpl2
    have HNW := Lib.hid hnew2
    have HZ2 := Lib.hid hb.size
    clear hb d1 T2 T1 HB hpl2 hnew2
    go_upto_region 4 with first
      | (refine S2.wpList_store_all (by rfl) 39 (.tmp 3) (.tmp 11) rfl rfl w2.heap.size rfl (pkC (pubP x.f false) (pubA a2 c2)) rfl 39 zeroPk (BK.new w2 _ _) pktSize rfl (pkOnes _ _) ?_; intro w3 hM hP; have M3 := Lib.hid hM; have N3 := Lib.hid (hP.other (U2.out.alloc _) (by have := U2.out.lt; omega)); have B3 := Lib.hid (hP.below (stepB HB2.out (S2.below_new w2 _)) HB2.out.size); have L3 : Hid (PL w3 w3.heap.size a2 x.f.m.props) := Lib.hid (HPL.out.step (hP.below (S2.below_new w2 _) (Nat.le_refl _))); have Z3 : Hid (w3.heap.size = w2.heap.size + 1) := Lib.hid (by rw [hP.size]; simp); clear hM hP)
    have g2 := M3.out.cell 2 rfl
    have f2 := M3.out.free 2
    go_upto_region 5 with fail
    refine name_world (C := fun w4 => Code.wp _ _ _ _ w4) (w3.setCell ⟨w2.heap.size, 2, none⟩ (.bool true)) ?_
    intro w4 hw4
    have M4 : Hid (BK 39 w4 w2.heap.size (pkC (pubP x.f true) (pubA a2 c2))) := Lib.hid (by rw [hw4]; exact M3.out.set 2 _)
    have N4 : Hid (BK 39 w4 (w.heap.size + 1) zeroPk) := Lib.hid (by rw [hw4]; exact N3.out.other (by show w.heap.size + 1 ≠ w2.heap.size; have := U2.out.lt; omega) _)
    have B4 : Hid (Below w.heap.size w w4) := Lib.hid (by rw [hw4]; exact B3.out.setCell (p := ⟨w2.heap.size, 2, none⟩) HB2.out.size _)
    have Z4 : Hid (w4.heap.size = w3.heap.size) := Lib.hid (by rw [hw4]; simp)
    have L4 : Hid (PL w4 w4.heap.size a2 x.f.m.props) := Lib.hid (by
      intro hn
      obtain ⟨b, o, e, hb, hc⟩ := HPL.out hn
      obtain ⟨b', o', e', _, hc'⟩ := L3.out hn
      refine ⟨b', o', e', by rw [Z4.out, Z3.out]; rw [e] at e'; simp only [Option.some.injEq, Addr.mk.injEq, and_true] at e'; omega, fun j y i v hy hv => ?_⟩
      rw [hw4, S2.set_other _ _ _ _ _ (by rw [e] at e'; simp only [Option.some.injEq, Addr.mk.injEq, and_true] at e'; show b' ≠ w2.heap.size; omega)]
      exact hc' j y i v hy hv)
    clear hw4 g2 f2 M3 N3 B3 L3
    go_wp2_with first
      | (refine wpList_load_v (by rfl) 39 (.tmp 3) rfl ⟨w2.heap.size, 0, none⟩ rfl (pkV (pubP x.f true) (pubA a2 c2)) (S2.run_load_all M4.out Tryz.underlying39 rfl pktSize) ?_)
      | (refine S2.wpList_store_all (by rfl) 39 (.tmp 2) (.tmp 13) rfl rfl (w.heap.size + 1) rfl (pkC (pubP x.f true) (pubA a2 c2)) rfl 39 zeroPk N4.out pktSize rfl (pkOnes _ _) ?_; intro w5 hM hP; have M5 := Lib.hid hM; have P5 := Lib.hid hP; clear hM hP)
    rw [HA.out]
    refine bodyPost_ret (v := pkV (pubP x.f true) (pubA a2 c2)) (S2.res_cell rfl _ _ (w.heap.size + 1) 39 (pkC (pubP x.f true) (pubA a2 c2)) _ rfl M5.out Tryz.underlying39 rfl pktSize) rfl ⟨a2, c2, rfl, ?_, fun b o e => by have := HNW.out b o e; have := HZ.out; omega, P5.out.below B4.out (by omega)⟩
    rw [P5.out.size]
    exact PL.put L4.out P5.out (fun b o e => by have := HNW.out b o e; have := HZ.out; omega)
end Go.Proofs.YtjpikgphfhjilaaGreatDoor
