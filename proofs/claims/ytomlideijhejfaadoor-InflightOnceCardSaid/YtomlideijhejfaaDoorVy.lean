/-
  What sent and packet of brokerlaw14 answer: how many packets of a kind have an identifier; the packet of an operation. Conditions: the lists read as data; few elements.
  Valid windows as plain data: what Check says, and that Start and Handle keep windows valid. No function of the program is walked here.
  What Start and Handle leave of an item, and how often it is sent again, as plain data. No function of the program is walked here.
  What others of brokerlaw14 answers: a valid window in which an item stays as it is, since only other identifiers are acknowledged. Conditions: the window and the operations read as data; the window is valid; the library's bound on short texts holds a number.
-/
import Derived.Test.YtomlideijhejfaaDoorVn
import Derived.Test.YtomlideijhejfaaDoorVl
import Derived.Test.YtomlideijhejfaaDoorWo
namespace Go.Proofs.YtomlideijhejfaaDoor
open Go.RowKit
open S2 (BK Put)

/-- how many packets of a kind have an identifier -/
def sentR (l : List Pkt) (k n : Int) : Nat := (l.filter (fun p => decide (p.kind = k) && decide (p.id = n))).length
theorem sentR_add (l : List Pkt) (p : Pkt) (k n : Int) : sentR (l ++ [p]) k n = sentR l k n + (if p.kind = k ∧ p.id = n then 1 else 0) := by
  unfold sentR
  rw [List.filter_append, List.length_append]
  congr 1
  by_cases h1 : p.kind = k <;> by_cases h2 : p.id = n <;> simp [h1, h2]
theorem sentR_le (l : List Pkt) (k n : Int) : sentR l k n ≤ l.length := List.length_filter_le _ _

set_option maxRecDepth 20000 in
set_option maxHeartbeats 2000000 in
theorem sent_any (A : Option Addr) (c : Nat) (ks : List (Pkt × PA)) (kd n : Int) (w : World) (h1 : KS w w.heap.size A ks) (hn : ks.length ≤ 100000) :
    Calls Tryd.prog 13 #[.slice A ks.length c, .int .i64 kd, .int .i64 n] w fun e w' => e = .returned (.int .i64 (sentR (ks.map Prod.fst) kd n : Nat)) ∧ w' = w := by
  have HS := Lib.hid h1
  obtain ⟨R, hR⟩ : ∃ R, sentR (ks.map Prod.fst) kd n = R := ⟨_, rfl⟩
  rw [hR]
  have HR := Lib.hid hR
  clear h1 hR
  go_enter Tryd.func13, Tryd.ntmps13
  go_wp2_with fail
  go_loopg [7, 8] ks.length (fun g u v wr => ∃ k t : Nat, k + g = ks.length ∧ v = .int .i64 k ∧ u = .int .i64 t ∧ t = sentR ((ks.map Prod.fst).take k) kd n ∧ t ≤ k ∧ wr = w)
  case atStart => exact ⟨0, 0, by omega, rfl, rfl, rfl, Nat.le_refl _, rfl⟩
  case round =>
    obtain ⟨k, t, hkg, rfl, rfl, ht, htk, rfl⟩ := hrel
    have HT := Lib.hid ht
    have HK := Lib.hid hkg
    clear ht
    cases gk with
    | zero =>
      obtain rfl : k = ks.length := by omega
      have HF : Hid (t = R) := Lib.hid (by rw [HT.out, ← HR.out, List.take_of_length_le (by rw [List.length_map]; exact Nat.le_refl _)])
      clear hkg
      go_wp2
      go_ret
      exact ⟨S2.ret_i (by rw [HF.out]), rfl⟩
    | succ g =>
      have hlt : k < ks.length := by omega
      have e3 : decide ((k : Int) < (ks.length : Int)) = true := decide_eq_true (by omega)
      have e3' : decide (k < ks.length) = true := decide_eq_true hlt
      obtain ⟨z, hz⟩ : ∃ z, ks[k]? = some z := ⟨_, List.getElem?_eq_getElem hlt⟩
      have hzf : (ks.map Prod.fst)[k]? = some z.1 := by rw [List.getElem?_map, hz]; rfl
      have HN : Hid (sentR ((ks.map Prod.fst).take (k + 1)) kd n = t + (if z.1.kind = kd ∧ z.1.id = n then 1 else 0)) := Lib.hid (by rw [List.take_add_one, hzf, HT.out]; exact sentR_add _ _ _ _)
      obtain ⟨b, o, hA, hbB, hc, _⟩ := HS.out.at_ hz
      subst hA
      have c0 := hc 0 _ (pk0 z.1 z.2)
      rw [Nat.add_zero] at c0
      have c1 := hc 1 _ (pk1 z.1 z.2)
      have j1 : (0 : Int) ≤ (k : Int) := by omega
      have j2 : (k : Int) < (ks.length : Int) := by omega
      have hlk : k ≤ 100000 := by omega
      clear hz hzf hc hbB hkg
      by_cases h1 : z.1.kind = kd
      rotate_left
      · have q1 : (z.1.kind == kd) = false := by simp [h1]
        have HN2 : Hid (t = sentR ((ks.map Prod.fst).take (k + 1)) kd n) := Lib.hid (by rw [HN.out, if_neg (fun h => h1 h.1)]; rfl)
        clear h1 HN
        go_wp2
        go_roundg g
        case measure => omega
        case rel => exact ⟨k + 1, t, by have := HK.out; omega, by go_num, rfl, HN2.out, by omega, rfl⟩
      have q1 : (z.1.kind == kd) = true := by simp [h1]
      by_cases h2 : z.1.id = n
      · have q2 : (z.1.id == n) = true := by simp [h2]
        have HN2 : Hid (t + 1 = sentR ((ks.map Prod.fst).take (k + 1)) kd n) := Lib.hid (by rw [HN.out, if_pos ⟨h1, h2⟩])
        have hlt2 : t ≤ 100000 := by omega
        clear h1 h2 HN
        go_wp2
        go_roundg g
        case measure => omega
        case rel => exact ⟨k + 1, t + 1, by have := HK.out; omega, by go_num, by go_num, HN2.out, by omega, rfl⟩
      · have q2 : (z.1.id == n) = false := by simp [h2]
        have HN2 : Hid (t = sentR ((ks.map Prod.fst).take (k + 1)) kd n) := Lib.hid (by rw [HN.out, if_neg (fun h => h2 h.2)]; rfl)
        clear h1 h2 HN
        go_wp2
        go_roundg g
        case measure => omega
        case rel => exact ⟨k + 1, t, by have := HK.out; omega, by go_num, rfl, HN2.out, by omega, rfl⟩

/-- the packet of an operation (its kind, its identifier or the place of an item) -/
def opId (F : List Fl) (s : Int) : Int := if s < 0 ∧ -1 - s < F.length then (F.getD (-1 - s).toNat Fl.zero).id else s
def pk2 (k n : Int) : Pkt := { Pkt.zero with kind := k, id := n }
def opPk (F : List Fl) (f : Fl) : Pkt := pk2 f.id (opId F f.st)
theorem opCells : (Tryd.prog.info? 77).map (·.size) = some 11 := by kernel_rfl

set_option maxRecDepth 20000 in
set_option maxHeartbeats 4000000 in
theorem packet_any (L : Int) (A : Option Addr) (c : Nat) (xs : List FE) (A2 : Option Addr) (c2 : Nat) (X : List Int) (l : Int) (o : FE) (w : World) (hw : FI w w.heap.size A xs) (hn : xs.length ≤ 100000) (hs : -9223372036854775808 ≤ o.f.st) :
    Calls Tryd.prog 39 #[wv L A c xs A2 c2 X l, fV o] w fun e w' => e = .returned (pkV (opPk (xs.map FE.f) o.f) PA.zero) ∧ Below w.heap.size w w' := by
  have HW := Lib.hid hw
  obtain ⟨P, hP⟩ : ∃ P, opPk (xs.map FE.f) o.f = P := ⟨_, rfl⟩
  rw [hP]
  have HPK : Hid (∀ n, opId (xs.map FE.f) o.f.st = n → pk2 o.f.id n = P) := Lib.hid (fun n h => by rw [← hP, ← h]; rfl)
  clear hw hP
  unfold fV
  go_enter Tryd.func39, Tryd.ntmps39
  go_upto_region 1 with fail
  refine name_world (C := fun w1 => Code.wp _ _ _ _ w1) (((w.alloc (.cells (wcs L A c xs A2 c2 X l).toArray 27)).alloc (.cells (gF o).toArray 77)).alloc (.cells zeroPk.toArray 40)) ?_
  intro w1 hw1
  obtain ⟨hB0, t1, t2, t3⟩ := three hw1
  have T_w1 : Hid (BK 27 w1 w.heap.size (wcs L A c xs A2 c2 X l)) := Lib.hid t1
  have O_w1 : Hid (BK 77 w1 (w.heap.size + 1) (gF o)) := Lib.hid t2
  have K_w1 : Hid (BK 40 w1 (w.heap.size + 1 + 1) zeroPk) := Lib.hid t3
  have B_w1 := Lib.hid hB0
  have D_w1 := Lib.hid (HW.out.step hB0)
  have d0 := O_w1.out.cell 0 rfl
  have d1 := O_w1.out.cell 1 rfl
  have f1 := T_w1.out.cell 1 rfl
  clear hw1 t1 t2 t3 hB0
  by_cases h1 : o.f.st < 0
  rotate_left
  · have q1 : decide (o.f.st < 0) = false := decide_eq_false h1
    have HF := Lib.hid (HPK.out o.f.st (by unfold opId; rw [if_neg (fun h => h1 h.1)]))
    clear h1
    go_wp2_with first
      | (refine S2.wpList_store_all (by rfl) 40 (.tmp 4) (.tmp 32) rfl rfl (w.heap.size + 1 + 1) rfl (pkC (pk2 o.f.id o.f.st) PA.zero) rfl 40 zeroPk K_w1.out pktSize rfl (pkOnes _ _) ?_; intro w2 hM hP; have M2 := Lib.hid hM; have B2 := Lib.hid (hP.below B_w1.out (by omega)); clear hM hP)
    rw [← HF.out]
    exact bodyPost_ret (v := pkV (pk2 o.f.id o.f.st) PA.zero) (S2.res_cell rfl _ _ (w.heap.size + 1 + 1) 40 (pkC (pk2 o.f.id o.f.st) PA.zero) _ rfl M2.out Tryd.underlying40 rfl pktSize) rfl ⟨rfl, B2.out⟩
  have q1 : decide (o.f.st < 0) = true := decide_eq_true h1
  obtain ⟨i, hi⟩ : ∃ i : Nat, -1 - o.f.st = i := ⟨(-1 - o.f.st).toNat, by omega⟩
  have e1 : wrap64 (-1 - o.f.st) = (i : Int) := by rw [hi]; exact wrap64_id _ (by omega) (by omega)
  have e2 : IntKind.i64.wrap (-1 - o.f.st) = (i : Int) := by rw [IntKind.wrap_i64]; omega
  by_cases h2 : i < xs.length
  rotate_left
  · have q2 : decide ((i : Int) < (xs.length : Int)) = false := decide_eq_false (by omega)
    have q2' : decide (i < xs.length) = false := decide_eq_false h2
    have HF := Lib.hid (HPK.out o.f.st (by unfold opId; rw [if_neg (fun h => by have := h.2; rw [List.length_map] at this; omega)]))
    clear h1 h2 hi
    go_wp2_with first
      | (refine S2.wpList_store_all (by rfl) 40 (.tmp 4) (.tmp 32) rfl rfl (w.heap.size + 1 + 1) rfl (pkC (pk2 o.f.id o.f.st) PA.zero) rfl 40 zeroPk K_w1.out pktSize rfl (pkOnes _ _) ?_; intro w2 hM hP; have M2 := Lib.hid hM; have B2 := Lib.hid (hP.below B_w1.out (by omega)); clear hM hP)
    rw [← HF.out]
    exact bodyPost_ret (v := pkV (pk2 o.f.id o.f.st) PA.zero) (S2.res_cell rfl _ _ (w.heap.size + 1 + 1) 40 (pkC (pk2 o.f.id o.f.st) PA.zero) _ rfl M2.out Tryd.underlying40 rfl pktSize) rfl ⟨rfl, B2.out⟩
  have q2 : decide ((i : Int) < (xs.length : Int)) = true := decide_eq_true (by omega)
  have q2' : decide (i < xs.length) = true := decide_eq_true h2
  obtain ⟨x, hx⟩ : ∃ x, xs[i]? = some x := ⟨_, List.getElem?_eq_getElem h2⟩
  have HF : Hid ((pk2 o.f.id x.f.id) = P) := Lib.hid (HPK.out x.f.id (by
    unfold opId
    rw [if_pos ⟨h1, by rw [List.length_map]; omega⟩, hi, Int.toNat_natCast, List.getD_eq_getElem?_getD, List.getElem?_map, hx]
    rfl))
  obtain ⟨b, k, hA, hbB, hc, _⟩ := D_w1.out.at_ hx
  have HBL : Hid (b < w.heap.size) := Lib.hid (by
    obtain ⟨b2, k2, hA2, hb2, _⟩ := HW.out.at_ hx
    rw [hA] at hA2
    simp only [Option.some.injEq, Addr.mk.injEq, and_true] at hA2
    omega)
  have C_w1 : Hid (∀ j v, (gF x)[j]? = some v → w1.cell? ⟨b, k + i * 11 + j, none⟩ = some v) := Lib.hid hc
  subst hA
  have j1 : (0 : Int) ≤ (i : Int) := by omega
  have j2 : (i : Int) < (xs.length : Int) := by omega
  have hli : i ≤ 100000 := by omega
  clear hx hc hbB h1 h2 hi
  go_upto_region 2 with fail
  clear d0 d1 f1 D_w1
  obtain ⟨h1, hh1⟩ : ∃ h1, h1 = World.drew w1 := ⟨_, rfl⟩
  have hbD : Below w1.heap.size w1 h1 := by rw [hh1]; exact (Below.refl _ _).drew
  have T_h1 : Hid (BK 27 h1 w.heap.size (wcs L (some ⟨b, k, none⟩) c xs A2 c2 X l)) := Lib.hid (BK.step T_w1.out hbD)
  have O_h1 : Hid (BK 77 h1 (w.heap.size + 1) (gF o)) := Lib.hid (BK.step O_w1.out hbD)
  have K_h1 : Hid (BK 40 h1 (w.heap.size + 1 + 1) zeroPk) := Lib.hid (BK.step K_w1.out hbD)
  have B_h1 : Hid (Below w.heap.size w h1) := Lib.hid (stepB B_w1.out hbD)
  have C_h1 : Hid (∀ j v, (gF x)[j]? = some v → h1.cell? ⟨b, k + i * 11 + j, none⟩ = some v) := Lib.hid (cells_stepG C_w1.out hbD)
  clear T_w1 O_w1 K_w1 B_w1 C_w1
  have hbd : (fun w' => BK 27 w' w.heap.size (wcs L (some ⟨b, k, none⟩) c xs A2 c2 X l) ∧ BK 77 w' (w.heap.size + 1) (gF o) ∧ ∀ j v, (gF x)[j]? = some v → w'.cell? ⟨b, k + i * 11 + j, none⟩ = some v) (World.drew w1) := by rw [← hh1]; exact ⟨T_h1.out, O_h1.out, C_h1.out⟩
  have hSD : (fun w' => BK 27 w' w.heap.size (wcs L (some ⟨b, k, none⟩) c xs A2 c2 X l) ∧ BK 77 w' (w.heap.size + 1) (gF o) ∧ ∀ j v, (gF x)[j]? = some v → w'.cell? ⟨b, k + i * 11 + j, none⟩ = some v) h1 := ⟨T_h1.out, O_h1.out, C_h1.out⟩
  have HWD := Lib.hid hh1
  clear hh1 hbD
  refine wp_region_held_drew (S := fun w' => BK 27 w' w.heap.size (wcs L (some ⟨b, k, none⟩) c xs A2 c2 X l) ∧ BK 77 w' (w.heap.size + 1) (gF o) ∧ ∀ j v, (gF x)[j]? = some v → w'.cell? ⟨b, k + i * 11 + j, none⟩ = some v) (by kernel_rfl) hbd (fun hHeld => ?_)
  rw [← HWD.out]
  clear hHeld
  have hHeld := hSD
  clear hSD hbd HWD
  refine wpAnyH_take (i := 0) (v := .pointer (some ⟨w.heap.size + 1, 0, none⟩)) (get_ops _ _ _ rfl) (by kernel_rfl) (by kernel_rfl) (by kernel_rfl) (fun _ _ _ h => h) (Or.inl ⟨by rfl, fun wS hSw => by (try dsimp only at hSw); go_simp⟩) hHeld ?_
  try simp only [Act.put, List.setIfInBounds_toArray, List.set_cons_zero, List.set_cons_succ]
  refine wpAnyH_take (i := 1) (v := .int .i64 o.f.id) (get_ops _ _ _ rfl) (by kernel_rfl) (by kernel_rfl) (by kernel_rfl) (fun _ _ _ h => h) (Or.inl ⟨by rfl, fun wS hSw => by (try dsimp only at hSw); have cS : wS.cell? ⟨w.heap.size + 1, 0, none⟩ = some (.int .i64 o.f.id) := hSw.2.1.cell 0 rfl; clear hSw; go_simp⟩) hHeld ?_
  try simp only [Act.put, List.setIfInBounds_toArray, List.set_cons_zero, List.set_cons_succ]
  refine wpAnyH_take (i := 2) (v := .pointer (some ⟨w.heap.size, 1, none⟩)) (get_ops _ _ _ rfl) (by kernel_rfl) (by kernel_rfl) (by kernel_rfl) (fun _ _ _ h => h) (Or.inl ⟨by rfl, fun wS hSw => by (try dsimp only at hSw); go_simp⟩) hHeld ?_
  try simp only [Act.put, List.setIfInBounds_toArray, List.set_cons_zero, List.set_cons_succ]
  refine wpAnyH_take (i := 3) (v := .slice (some ⟨b, k, none⟩) xs.length c) (get_ops _ _ _ rfl) (by kernel_rfl) (by kernel_rfl) (by kernel_rfl) (fun _ _ _ h => h) (Or.inl ⟨by rfl, fun wS hSw => by (try dsimp only at hSw); have cS : wS.cell? ⟨w.heap.size, 1, none⟩ = some (.slice (some ⟨b, k, none⟩) xs.length c) := hSw.1.cell 1 rfl; clear hSw; go_simp⟩) hHeld ?_
  try simp only [Act.put, List.setIfInBounds_toArray, List.set_cons_zero, List.set_cons_succ]
  refine wpAnyH_take (i := 4) (v := .pointer (some ⟨w.heap.size + 1, 1, none⟩)) (get_ops _ _ _ rfl) (by kernel_rfl) (by kernel_rfl) (by kernel_rfl) (fun _ _ _ h => h) (Or.inl ⟨by rfl, fun wS hSw => by (try dsimp only at hSw); go_simp⟩) hHeld ?_
  try simp only [Act.put, List.setIfInBounds_toArray, List.set_cons_zero, List.set_cons_succ]
  refine wpAnyH_take (i := 5) (v := .int .i64 o.f.st) (get_ops _ _ _ rfl) (by kernel_rfl) (by kernel_rfl) (by kernel_rfl) (fun _ _ _ h => h) (Or.inl ⟨by rfl, fun wS hSw => by (try dsimp only at hSw); have cS : wS.cell? ⟨w.heap.size + 1, 1, none⟩ = some (.int .i64 o.f.st) := hSw.2.1.cell 1 rfl; clear hSw; go_simp⟩) hHeld ?_
  try simp only [Act.put, List.setIfInBounds_toArray, List.set_cons_zero, List.set_cons_succ]
  refine wpAnyH_take (i := 6) (v := .int .i64 (i : Int)) (get_ops _ _ _ rfl) (by kernel_rfl) (by kernel_rfl) (by kernel_rfl) (fun _ _ _ h => h) (Or.inl ⟨by rfl, fun wS hSw => by (try dsimp only at hSw); go_simp⟩) hHeld ?_
  try simp only [Act.put, List.setIfInBounds_toArray, List.set_cons_zero, List.set_cons_succ]
  refine wpAnyH_take (i := 7) (v := .pointer (some ⟨b, k + i * 11, none⟩)) (get_ops _ _ _ rfl) (by kernel_rfl) (by kernel_rfl) (by kernel_rfl) (fun _ _ _ h => h) (Or.inl ⟨by rfl, fun wS hSw => by (try dsimp only at hSw); go_simp⟩) hHeld ?_
  try simp only [Act.put, List.setIfInBounds_toArray, List.set_cons_zero, List.set_cons_succ]
  refine wpAnyH_take (i := 8) (v := .pointer (some ⟨b, k + i * 11, none⟩)) (get_ops _ _ _ rfl) (by kernel_rfl) (by kernel_rfl) (by kernel_rfl) (fun _ _ _ h => h) (Or.inl ⟨by rfl, fun wS hSw => by (try dsimp only at hSw); go_simp⟩) hHeld ?_
  try simp only [Act.put, List.setIfInBounds_toArray, List.set_cons_zero, List.set_cons_succ]
  refine wpAnyH_take (i := 9) (v := .int .i64 x.f.id) (get_ops _ _ _ rfl) (by kernel_rfl) (by kernel_rfl) (by kernel_rfl) (fun _ _ _ h => h) (Or.inl ⟨by rfl, fun wS hSw => by (try dsimp only at hSw); have cS : wS.cell? ⟨b, k + i * 11, none⟩ = some (.int .i64 x.f.id) := hSw.2.2 0 _ rfl; clear hSw; go_simp⟩) hHeld ?_
  try simp only [Act.put, List.setIfInBounds_toArray, List.set_cons_zero, List.set_cons_succ]
  refine wpAnyH_take (i := 10) (v := pkV (pk2 o.f.id x.f.id) PA.zero) (get_ops _ _ _ rfl) (by kernel_rfl) (by kernel_rfl) (by kernel_rfl) (fun _ _ _ h => h) (Or.inl ⟨by rfl, fun wS hSw => by (try dsimp only at hSw); go_simp; rfl⟩) hHeld ?_
  try simp only [Act.put, List.setIfInBounds_toArray, List.set_cons_zero, List.set_cons_succ]
  refine wpAnyH_ready (rs := [11]) (by kernel_rfl) (by simp) ?_
  refine (AllReadyH.cons (get_ops _ _ _ rfl) (fun K hK => ?_) AllReadyH.nil)
  refine S2.wp_store_all 40 _ _ rfl rfl (w.heap.size + 1 + 1) (by go_simp) (pkC (pk2 o.f.id x.f.id) PA.zero) (by first | rfl | go_simp) 40 zeroPk K_h1.out pktSize rfl (pkOnes _ _) ?_
  intro h2 hM hP
  have K_h2 : Hid (BK 40 h2 (w.heap.size + 1 + 1) (pkC (pk2 o.f.id x.f.id) PA.zero)) := Lib.hid (hM)
  have T_h2 : Hid (BK 27 h2 w.heap.size (wcs L (some ⟨b, k, none⟩) c xs A2 c2 X l)) := Lib.hid (hP.other T_h1.out (by omega))
  have O_h2 : Hid (BK 77 h2 (w.heap.size + 1) (gF o)) := Lib.hid (hP.other O_h1.out (by omega))
  have B_h2 : Hid (Below w.heap.size w h2) := Lib.hid (hP.below B_h1.out (by omega))
  have C_h2 : Hid (∀ j v, (gF x)[j]? = some v → h2.cell? ⟨b, k + i * 11 + j, none⟩ = some v) := Lib.hid (fun j v hv => (hP.cell (p := ⟨b, k + i * 11 + j, none⟩) (by have := HBL.out; show b ≠ w.heap.size + 1 + 1; omega)).trans (C_h1.out j v hv))
  clear T_h1 O_h1 K_h1 B_h1 C_h1
  clear hM hP hHeld
  refine hK.out _ _ ⟨T_h2.out, O_h2.out, C_h2.out⟩ (fun hHeld => ?_)
  clear hK K
  try simp only [Act.put, List.setIfInBounds_toArray, List.set_cons_zero, List.set_cons_succ]
  refine wpAnyH_done (by kernel_rfl) ?_ _
  go_wp2_with fail
  rw [← HF.out]
  exact bodyPost_ret (v := pkV (pk2 o.f.id x.f.id) PA.zero) (S2.res_cell rfl _ _ (w.heap.size + 1 + 1) 40 (pkC (pk2 o.f.id x.f.id) PA.zero) _ rfl K_h2.out Tryd.underlying40 rfl pktSize) rfl ⟨rfl, B_h2.out⟩
end Go.Proofs.YtomlideijhejfaaDoor
namespace Go.Proofs.YtomlideijhejfaaDoor

def ItOk (x : Fl) : Prop := checkR x.m = 0 ∧ x.m.level ≠ 0 ∧ (x.st = 1 ∨ (x.st = 2 ∧ x.m.level = 2))
/-- a valid window -/
structure VW (W : PW) : Prop where
  lim : 0 ≤ W.1 ∧ W.1 ≤ 32
  len : W.2.1.length ≤ 32
  ck : S2.ckI W.2.2.1 W.2.2.2 = 0
  nd : (W.2.1.map Fl.id).Nodup
  ids : ∀ x ∈ W.2.1, x.id ∈ W.2.2.1
  its : ∀ x ∈ W.2.1, ItOk x
  few : W.2.2.1.length ≤ W.2.1.length

theorem posF_first {F : List Fl} {n : Int} {i : Nat} {x : Fl} (h : F[i]? = some x) (hn : x.id = n) : posF F n ≤ i := by
  rcases Nat.lt_or_ge i (posF F n) with hl | hl
  · obtain ⟨hi, e⟩ := List.getElem?_eq_some_iff.1 h
    have := List.not_of_lt_findIdx hl
    rw [e] at this
    simp [hn] at this
  · exact hl
theorem posF_is {F : List Fl} {n : Int} (h : posF F n < F.length) : ∃ x, F[posF F n]? = some x ∧ x.id = n := by
  refine ⟨F[posF F n], List.getElem?_eq_getElem h, ?_⟩
  have h' : F.findIdx (fun x : Fl => decide (x.id = n)) < F.length := h
  have := List.findIdx_getElem (xs := F) (p := fun x : Fl => decide (x.id = n)) (w := h')
  exact of_decide_eq_true this
theorem nd_inj {F : List Fl} (h : (F.map Fl.id).Nodup) {i j : Nat} {x y : Fl} (hi : F[i]? = some x) (hj : F[j]? = some y) (e : x.id = y.id) : i = j := by
  have h1 : (F.map Fl.id)[i]? = some x.id := by rw [List.getElem?_map, hi]; rfl
  have h2 : (F.map Fl.id)[j]? = some x.id := by rw [List.getElem?_map, hj, e]; rfl
  have hli : i < (F.map Fl.id).length := (List.getElem?_eq_some_iff.1 h1).1
  exact (List.getElem?_inj hli h).1 (by rw [h1, h2])
theorem posF_nd {F : List Fl} (h : (F.map Fl.id).Nodup) {i : Nat} {x : Fl} (hi : F[i]? = some x) : posF F x.id = i := by
  obtain ⟨y, hy, e⟩ := posF_is (posF_lt hi)
  exact nd_inj h hy hi e
theorem item_ok {F : List Fl} {X : List Int} {i : Nat} {x : Fl} : itemR F X i x = 0 ↔ x.id ∈ X ∧ ¬ posF F x.id < i ∧ ItOk x := by
  constructor
  · intro h
    have hc := item_cases h
    by_cases h1 : x.id ∈ X
    rotate_left
    · have := hc.1 h1; omega
    have h2 := hc.2 h1
    by_cases h3 : posF F x.id < i
    · have := h2.1 h3; omega
    have h4 := h2.2 h3
    by_cases h5 : checkR x.m = 0
    rotate_left
    · have := h4.1 h5; omega
    have h6 := h4.2 h5
    by_cases h7 : x.m.level = 0
    · have := h6.1 h7; omega
    have h8 := h6.2 h7
    by_cases h9 : x.st = 1 ∨ (x.st = 2 ∧ x.m.level = 2)
    rotate_left
    · have := h8.2 h9; omega
    exact ⟨h1, h3, h5, h7, h9⟩
  · rintro ⟨h1, h2, h3, h4, h5⟩
    exact ((((item_cases (rfl : itemR F X i x = _)).2 h1).2 h2).2 h3).2 h4 |>.1 h5 |>.symm
theorem items_ok {F : List Fl} {X : List Int} : ∀ (r : List Fl) (i : Nat), itemsR F X i r = 0 ↔ ∀ j x, r[j]? = some x → itemR F X (i + j) x = 0
  | [], _ => by
    refine ⟨fun _ j x h => by simp at h, fun _ => rfl⟩
  | y :: r, i => by
    have he : itemsR F X i (y :: r) = if itemR F X i y ≠ 0 then itemR F X i y else itemsR F X (i + 1) r := rfl
    rw [he]
    by_cases h0 : itemR F X i y = 0
    · rw [if_neg (by simpa using h0), items_ok r (i + 1)]
      constructor
      · intro h j x hx
        cases j with
        | zero => simp at hx; subst hx; simpa using h0
        | succ j => simp at hx; have := h j x hx; rwa [Nat.add_assoc, Nat.add_comm 1 j] at this
      · intro h j x hx
        have := h (j + 1) x (by simpa using hx)
        rwa [Nat.add_assoc, Nat.add_comm 1 j]
    · rw [if_pos h0]
      refine ⟨fun h => absurd h h0, fun h => h 0 y rfl⟩
theorem win_iff {W : PW} : winR W = 0 ↔ VW W := by
  obtain ⟨L, F, X, l⟩ := W
  constructor
  · intro h
    have hc := win_cases h
    by_cases h1 : L < 0 ∨ 32 < L
    · have := hc.1 h1; omega
    have h2 := hc.2 h1
    by_cases h3 : S2.ckI X l = 0
    rotate_left
    · have := h2.1 h3; omega
    have h4 := h2.2 h3
    by_cases h5 : 32 < F.length
    · have := h4.1 h5; omega
    have h6 := h4.2 h5
    by_cases h7 : itemsR F X 0 F = 0
    rotate_left
    · have := h6.1 h7; omega
    have h8 := h6.2 h7
    by_cases h9 : F.length < X.length
    · have := h8.1 h9; omega
    have hit : ∀ j x, F[j]? = some x → x.id ∈ X ∧ ¬ posF F x.id < j ∧ ItOk x := fun j x hx => by
      have := (items_ok F 0).1 h7 j x hx
      rw [Nat.zero_add] at this
      exact item_ok.1 this
    refine ⟨by show 0 ≤ L ∧ L ≤ 32; omega, by show F.length ≤ 32; omega, h3, ?_, fun x hx => ?_, fun x hx => ?_, by show X.length ≤ F.length; omega⟩
    · refine List.pairwise_iff_getElem.2 (fun i j hi hj hij e => ?_)
      dsimp only at hi hj e
      rw [List.length_map] at hj hi
      rw [List.getElem_map, List.getElem_map] at e
      have h10 := (hit j _ (List.getElem?_eq_getElem hj)).2.1
      have h11 := posF_first (F := F) (n := F[j].id) (i := i) (List.getElem?_eq_getElem (by omega)) e
      omega
    · obtain ⟨j, hj⟩ := List.mem_iff_getElem?.1 hx
      exact (hit j x hj).1
    · obtain ⟨j, hj⟩ := List.mem_iff_getElem?.1 hx
      exact (hit j x hj).2.2
  · intro h
    have hi : itemsR F X 0 F = 0 := (items_ok F 0).2 (fun j x hx => item_ok.2 ⟨h.ids x (List.mem_of_getElem? hx), by rw [posF_nd h.nd hx]; omega, h.its x (List.mem_of_getElem? hx)⟩)
    have hl := h.lim
    have hn := h.len
    have hf := h.few
    dsimp only at hl hn hf
    exact ((((win_cases (rfl : winR (L, F, X, l) = _)).2 (by omega)).2 h.ck).2 (by omega)).2 hi |>.2 (by omega) |>.symm

theorem vw_start {L : Int} {F : List Fl} {X : List Int} {l : Int} {m : Msg} (h : VW (L, F, X, l)) (h1 : m.level ≠ 0) (h2 : leftR L F.length ≠ 0) (h3 : checkR m = 0) : VW (L, F ++ [⟨S2.tkI X l, 1, m⟩], S2.insI X (S2.tkI X l), S2.tkI X l) := by
  have hl := h.lim
  have hn := h.len
  have hf := h.few
  dsimp only at hl hn hf
  have hlt : (F.length : Int) < L := by
    unfold leftR at h2
    split at h2
    · exact absurd rfl h2
    · omega
  obtain ⟨c1, c2, c3, c4⟩ := S2.ck_ok.1 h.ck
  dsimp only at c1 c2 c3 c4
  have hnew : S2.tkI X l ∉ X := S2.tk_new (by omega) c3 c4
  have hr := S2.tk_range (X := X) c3 c4
  refine ⟨hl, by show (F ++ [_]).length ≤ 32; simp; omega, ?_, ?_, fun x hx => ?_, fun x hx => ?_, ?_⟩
  · exact S2.ck_ok.2 ⟨by rw [S2.ins_len]; omega, S2.ins_up c2 (by omega) hr.2 hnew, by show 0 ≤ S2.tkI X l; omega, hr.2⟩
  · show ((F ++ [_]).map Fl.id).Nodup
    rw [List.map_append, List.nodup_append]
    refine ⟨h.nd, by simp, fun a ha b hb => ?_⟩
    simp at hb
    subst hb
    intro e
    subst e
    obtain ⟨x, hx, e⟩ := List.mem_map.1 ha
    exact hnew (by rw [← e]; exact h.ids x hx)
  · show x.id ∈ S2.insI X _
    rw [S2.ins_mem]
    rcases List.mem_append.1 hx with hx | hx
    · exact Or.inr (h.ids x hx)
    · simp at hx; subst hx; exact Or.inl rfl
  · rcases List.mem_append.1 hx with hx | hx
    · exact h.its x hx
    · simp at hx; subst hx; exact ⟨h3, h1, Or.inl rfl⟩
  · show (S2.insI X _).length ≤ (F ++ [_]).length
    rw [S2.ins_len]; simp; omega
theorem vw_rel {W : PW} {i : Nat} (h : VW W) (ha : ∀ x, W.2.1[i]? = some x → x.m.level = 2) : VW (relR W i) := by
  obtain ⟨L, F, X, l⟩ := W
  unfold relR
  dsimp only at ha ⊢
  cases hx : F[i]? with
  | none => rw [setRel_none hx]; exact h
  | some x =>
    rw [setRel_at hx]
    obtain ⟨hi, e⟩ := List.getElem?_eq_some_iff.1 hx
    have hm : (F.set i { x with st := 2 }).map Fl.id = F.map Fl.id := by
      rw [List.map_set]
      show (F.map Fl.id).set i x.id = _
      have : (F.map Fl.id)[i]'(by rw [List.length_map]; exact hi) = x.id := by rw [List.getElem_map, e]
      rw [← this, List.set_getElem_self]
    have hmem : ∀ y ∈ F.set i { x with st := 2 }, y ∈ F ∨ y = { x with st := 2 } := fun y hy => (List.mem_or_eq_of_mem_set hy)
    refine ⟨h.lim, by show (F.set _ _).length ≤ 32; rw [List.length_set]; exact h.len, h.ck, by show ((F.set _ _).map _).Nodup; rw [hm]; exact h.nd, fun y hy => ?_, fun y hy => ?_, by show X.length ≤ (F.set _ _).length; rw [List.length_set]; exact h.few⟩
    · rcases hmem y hy with hy | rfl
      · exact h.ids y hy
      · exact h.ids x (List.mem_of_getElem? hx)
    · rcases hmem y hy with hy | rfl
      · exact h.its y hy
      · have := h.its x (List.mem_of_getElem? hx)
        exact ⟨this.1, this.2.1, Or.inr ⟨rfl, ha x hx⟩⟩
theorem vw_rem {W : PW} {i : Nat} (h : VW W) : VW (remR W i) := by
  obtain ⟨L, F, X, l⟩ := W
  unfold remR
  dsimp only
  cases hx : F[i]? with
  | none => exact h
  | some x =>
    obtain ⟨hi, e⟩ := List.getElem?_eq_some_iff.1 hx
    obtain ⟨c1, c2, c3, c4⟩ := S2.ck_ok.1 h.ck
    dsimp only at c1 c2 c3 c4
    have hxX := h.ids x (List.mem_of_getElem? hx)
    have hdl := (S2.del_lt X x.id).2 hxX
    have hlen : (F.eraseIdx i).length = F.length - 1 := List.length_eraseIdx_of_lt hi
    have hf := h.few
    have hn := h.len
    dsimp only at hf hn
    have hsub := List.eraseIdx_sublist (l := F) i
    have hne : ∀ y ∈ F.eraseIdx i, y.id ≠ x.id := fun y hy e2 => by
      obtain ⟨j, hj⟩ := List.mem_iff_getElem?.1 hy
      rw [List.getElem?_eraseIdx] at hj
      split at hj
      · have := nd_inj h.nd hj hx e2; omega
      · have := nd_inj h.nd hj hx e2; omega
    refine ⟨h.lim, by show (F.eraseIdx i).length ≤ 32; omega, ?_, ?_, fun y hy => ?_, fun y hy => h.its y (hsub.subset hy), by show (S2.delI X x.id).length ≤ (F.eraseIdx i).length; omega⟩
    · exact S2.ck_ok.2 ⟨by have := S2.del_len X x.id; show (S2.delI X x.id).length ≤ 32; omega, S2.del_up c2, c3, c4⟩
    · exact (hsub.map Fl.id).nodup h.nd
    · exact (S2.del_mem X x.id y.id).2 ⟨h.ids y (hsub.subset hy), hne y hy⟩
theorem vw_handle {W : PW} {k n : Int} (h : VW W) (h0 : (handleR W k n).2.2 = 0) : VW (handleR W k n).1 := by
  unfold handleR at h0 ⊢
  by_cases h1 : k ≠ 4 ∧ k ≠ 5 ∧ k ≠ 7
  · rw [if_pos h1] at h0; simp at h0
  rw [if_neg h1] at h0 ⊢
  by_cases h2 : mayR W.2.1 (posF W.2.1 n) k = false
  · rw [if_pos h2] at h0; simp at h0
  rw [if_neg h2] at h0 ⊢
  by_cases h3 : k = 5
  · rw [if_pos h3]
    refine vw_rel h (fun x hx => ?_)
    rw [mayR_at hx, h3] at h2
    unfold awaitsR at h2
    simpa using h2
  · rw [if_neg h3]
    exact vw_rem h
end Go.Proofs.YtomlideijhejfaaDoor
namespace Go.Proofs.YtomlideijhejfaaDoor

/-- the kind of the packet with which an item is sent again -/
def kdP (x : Fl) : Int := if x.st = 2 then 6 else 3
theorem again_id (x : Fl) : (againP x).id = x.id := by unfold againP; split <;> rfl
theorem again_kind (x : Fl) : (againP x).kind = kdP x := by unfold againP kdP; split <;> rfl
theorem sentR_cons (p : Pkt) (l : List Pkt) (k n : Int) : sentR (p :: l) k n = (if p.kind = k ∧ p.id = n then 1 else 0) + sentR l k n := by
  unfold sentR
  rw [List.filter_cons]
  by_cases h1 : p.kind = k <;> by_cases h2 : p.id = n <;> simp [h1, h2, Nat.add_comm]
theorem sent_out {F : List Fl} {n : Int} (k : Int) (h : ∀ y ∈ F, y.id ≠ n) : sentR (F.map againP) k n = 0 := by
  induction F with
  | nil => rfl
  | cons y r ih =>
    rw [List.map_cons, sentR_cons, ih (fun z hz => h z (List.mem_cons_of_mem _ hz)), if_neg (fun e => h y List.mem_cons_self (by rw [← again_id]; exact e.2))]
theorem sent_nd {F : List Fl} (k : Int) (h : (F.map Fl.id).Nodup) : ∀ x ∈ F, sentR (F.map againP) k x.id = if kdP x = k then 1 else 0 := by
  induction F with
  | nil => intro x hx; cases hx
  | cons y r ih =>
    intro x hx
    rw [List.map_cons, List.nodup_cons] at h
    rw [List.map_cons, sentR_cons]
    rcases List.mem_cons.1 hx with rfl | hx
    · rw [sent_out k (fun z hz e => h.1 (by rw [← e]; exact List.mem_map_of_mem hz)), again_kind, again_id]
      by_cases hk : kdP x = k <;> simp [hk]
    · rw [ih h.2 x hx, again_id, if_neg (fun e => h.1 (by rw [e.2]; exact List.mem_map_of_mem hx)), Nat.zero_add]
theorem keep_rel {F : List Fl} {i : Nat} {x : Fl} (h : x ∈ F) (hi : ∀ y, F[i]? = some y → y.id ≠ x.id) : x ∈ setRel F i := by
  cases hy : F[i]? with
  | none => rw [setRel_none hy]; exact h
  | some y =>
    rw [setRel_at hy]
    obtain ⟨j, hj⟩ := List.mem_iff_getElem?.1 h
    have hne : i ≠ j := fun e => by subst e; rw [hy] at hj; exact hi y hy (by rw [Option.some.inj hj])
    exact List.mem_of_getElem? (i := j) (by rw [List.getElem?_set_ne hne]; exact hj)
theorem keep_rem {W : PW} {i : Nat} {x : Fl} (h : x ∈ W.2.1) (hi : ∀ y, W.2.1[i]? = some y → y.id ≠ x.id) : x ∈ (remR W i).2.1 := by
  obtain ⟨L, F, X, l⟩ := W
  unfold remR
  dsimp only at h hi ⊢
  cases hy : F[i]? with
  | none => exact h
  | some y =>
    obtain ⟨j, hj⟩ := List.mem_iff_getElem?.1 h
    have hne : i ≠ j := fun e => by subst e; rw [hy] at hj; exact hi y hy (by rw [Option.some.inj hj])
    show x ∈ F.eraseIdx i
    rcases Nat.lt_or_ge j i with hl | hl
    · exact List.mem_of_getElem? (i := j) (by rw [List.getElem?_eraseIdx_of_lt hl]; exact hj)
    · exact List.mem_of_getElem? (i := j - 1) (by rw [List.getElem?_eraseIdx_of_ge (by omega), show j - 1 + 1 = j by omega]; exact hj)
theorem pos_other {F : List Fl} {n m : Int} (hn : n ≠ m) : ∀ y, F[posF F n]? = some y → y.id ≠ m := fun y hy e => by
  obtain ⟨z, hz, hzn⟩ := posF_is (List.getElem?_eq_some_iff.1 hy).1
  rw [hy] at hz
  obtain rfl := Option.some.inj hz
  exact hn (hzn.symm.trans e)
/-- an acknowledgement of another identifier leaves an item as it is -/
theorem keep_handle {W : PW} {k n : Int} {x : Fl} (h : x ∈ W.2.1) (hn : n ≠ x.id) (h0 : (handleR W k n).2.2 = 0) : x ∈ (handleR W k n).1.2.1 := by
  unfold handleR at h0 ⊢
  by_cases h1 : k ≠ 4 ∧ k ≠ 5 ∧ k ≠ 7
  · rw [if_pos h1] at h0; simp at h0
  rw [if_neg h1] at h0 ⊢
  by_cases h2 : mayR W.2.1 (posF W.2.1 n) k = false
  · rw [if_pos h2] at h0; simp at h0
  rw [if_neg h2] at h0 ⊢
  by_cases h3 : k = 5
  · rw [if_pos h3]
    exact keep_rel h (pos_other hn)
  · rw [if_neg h3]
    exact keep_rem h (pos_other hn)
/-- the item that an acknowledgement takes away is gone -/
theorem gone_rem {W : PW} {x : Fl} (h : VW W) (hx : x ∈ W.2.1) : ∀ y ∈ (remR W (posF W.2.1 x.id)).2.1, y.id ≠ x.id := by
  obtain ⟨L, F, X, l⟩ := W
  obtain ⟨j, hj⟩ := List.mem_iff_getElem?.1 hx
  dsimp only at hj ⊢
  rw [posF_nd h.nd hj]
  unfold remR
  dsimp only
  rw [hj]
  intro y hy e2
  obtain ⟨i, hi⟩ := List.mem_iff_getElem?.1 hy
  rw [List.getElem?_eraseIdx] at hi
  split at hi
  · have := nd_inj h.nd hi hj e2; omega
  · have := nd_inj h.nd hi hj e2; omega
/-- the item that a Pubrec releases -/
theorem rel_item {W : PW} {x : Fl} (h : VW W) (hx : x ∈ W.2.1) : { x with st := 2 } ∈ (relR W (posF W.2.1 x.id)).2.1 := by
  obtain ⟨L, F, X, l⟩ := W
  obtain ⟨j, hj⟩ := List.mem_iff_getElem?.1 hx
  dsimp only at hj ⊢
  rw [posF_nd h.nd hj]
  show _ ∈ setRel F j
  rw [setRel_at hj]
  exact List.mem_of_getElem? (i := j) (by rw [List.getElem?_set_self (List.getElem?_eq_some_iff.1 hj).1])
theorem at_gone {F : List Fl} {n : Int} (h : ∀ y ∈ F, y.id ≠ n) : atR F n = -1 := by
  refine atR_neg (fun hl => ?_)
  obtain ⟨x, hx, e⟩ := posF_is hl
  exact h x (List.mem_of_getElem? hx) e
theorem at_in {W : PW} {x : Fl} (h : VW W) (hx : x ∈ W.2.1) : ∃ i, i < W.2.1.length ∧ atR W.2.1 x.id = (i : Nat) ∧ W.2.1[i]? = some x := by
  obtain ⟨j, hj⟩ := List.mem_iff_getElem?.1 hx
  have hp := posF_nd h.nd hj
  have hl := (List.getElem?_eq_some_iff.1 hj).1
  exact ⟨j, hl, by rw [atR_pos (by rw [hp]; exact hl), hp], hj⟩
end Go.Proofs.YtomlideijhejfaaDoor
namespace Go.Proofs.YtomlideijhejfaaDoor
open Go.RowKit
open S2 (BK Put)

/-- no list of a window lies in block g -/
def OffG (g : Nat) (A : Option Addr) (xs : List FE) (A2 : Option Addr) (X : List Int) : Prop := (0 < xs.length → ∀ b o, A = some ⟨b, o, none⟩ → b ≠ g) ∧ (∀ x ∈ xs, Away g x.a x.f.m.props.length) ∧ (0 < X.length → ∀ b o, A2 = some ⟨b, o, none⟩ → b ≠ g)
theorem wok_putA {w w' : World} {g : Nat} {A : Option Addr} {c : Nat} {xs : List FE} {A2 : Option Addr} {c2 : Nat} {X : List Int} (h : WOk w A c xs A2 c2 X) (hp : Put g w w') (ho : OffG g A xs A2 X) : WOk w' A c xs A2 c2 X := by
  refine ⟨?_, h.2.1, ILput h.2.2.1 hp ho.2.2, h.2.2.2⟩
  rw [hp.size]
  exact ⟨fun hn => by
    obtain ⟨b, o, e, hb, hc⟩ := h.1.1 hn
    exact ⟨b, o, e, hb, fun j x i v hx hv => (hp.cell (p := ⟨b, o + j * 11 + i, none⟩) (ho.1 hn b o e)).trans (hc j x i v hx hv)⟩, fun x hx => (h.1.2 x hx).putA hp (ho.2.1 x hx)⟩
theorem WOk.off {w : World} {g : Nat} {A : Option Addr} {c : Nat} {xs : List FE} {A2 : Option Addr} {c2 : Nat} {X : List Int} (h : WOk w A c xs A2 c2 X) (hg : w.heap.size ≤ g) : OffG g A xs A2 X :=
  ⟨fun hn b o e => by
    obtain ⟨b', o', e', hb, _⟩ := h.1.1 hn
    rw [e] at e'
    simp only [Option.some.injEq, Addr.mk.injEq, and_true] at e'
    omega, fun x hx hn b o e => by have := (h.1.2 x hx).lt hn b o e; omega, fun hn b o e => by have := S2.IL.lt h.2.2.1 b o e hn; omega⟩
theorem off_new {B g : Nat} {A : Option Addr} {xs : List FE} {A2 : Option Addr} {X : List Int} (h : NewL B A ∧ (∀ y ∈ xs, NewL B y.a) ∧ NewN B A2 X.length) (hg : g < B) : OffG g A xs A2 X :=
  ⟨fun _ b o e => by have := h.1 b o e; omega, fun x hx _ b o e => by have := h.2.1 x hx b o e; omega, fun hn b o e => by have := h.2.2 hn b o e; omega⟩
/-- what holds between two operations -/
structure InvO (P : Nat → Prop) (W w : World) (x0 : Fl) (L : Int) (A : Option Addr) (c : Nat) (xs : List FE) (A2 : Option Addr) (c2 : Nat) (X : List Int) (l : Int) : Prop where
  t : BK 27 w W.heap.size (wcs L A c xs A2 c2 X l)
  r : BK 27 w (W.heap.size + 1) (wcs 0 none 0 [] none 0 [] 0)
  b : Below W.heap.size W w
  o : WOk w A c xs A2 c2 X
  v : VW (L, xs.map FE.f, X, l)
  x : x0 ∈ xs.map FE.f
  f0 : OffG W.heap.size A xs A2 X
  f1 : OffG (W.heap.size + 1) A xs A2 X
  fo : ∀ g, g < W.heap.size → P g → OffG g A xs A2 X
section
variable {P : Nat → Prop} {W w w' : World} {x0 : Fl} {L : Int} {A : Option Addr} {c : Nat} {xs : List FE} {A2 : Option Addr} {c2 : Nat} {X : List Int} {l : Int}
theorem InvO.step (h : InvO P W w x0 L A c xs A2 c2 X l) (hb : Below w.heap.size w w') : InvO P W w' x0 L A c xs A2 c2 X l := ⟨h.t.step hb, h.r.step hb, stepB h.b hb, h.o.step hb, h.v, h.x, h.f0, h.f1, h.fo⟩
theorem InvO.put (h : InvO P W w x0 L A c xs A2 c2 X l) {g : Nat} (hp : Put g w w') (hg : W.heap.size + 1 < g) (ho : OffG g A xs A2 X) : InvO P W w' x0 L A c xs A2 c2 X l := ⟨hp.other h.t (by omega), hp.other h.r (by omega), hp.below h.b (by omega), wok_putA h.o hp ho, h.v, h.x, h.f0, h.f1, h.fo⟩
theorem VW.facts (h : VW (L, xs.map FE.f, X, l)) : (0 ≤ L ∧ L ≤ 32) ∧ xs.length ≤ 32 ∧ S2.ckI X l = 0 ∧ X.length ≤ xs.length ∧ (∀ x ∈ xs, x.f.m.props.length ≤ 100000) ∧ (∀ x ∈ xs, -9223372036854775808 ≤ x.f.id ∧ x.f.id ≤ 9223372036854775807) := by
  have hn := h.len
  have hf := h.few
  dsimp only at hn hf
  rw [List.length_map] at hn hf
  refine ⟨h.lim, hn, h.ck, hf, fun x hx => ?_, fun x hx => ?_⟩
  · have := checkR_props (h.its x.f (List.mem_map_of_mem hx)).1
    omega
  · have h1 := h.ids x.f (List.mem_map_of_mem hx)
    have h2 := S2.up_mem (S2.ck_ok.1 h.ck).2.1 _ h1
    omega
end
theorem start_keeps {W : PW} {m : Msg} {x0 : Fl} (h : VW W) (hx : x0 ∈ W.2.1) (h0 : (startR W m).2.2 = 0) : VW (startR W m).1 ∧ x0 ∈ (startR W m).1.2.1 := by
  obtain ⟨L, F, X, l⟩ := W
  unfold startR at h0 ⊢
  dsimp only at h0 ⊢ hx
  by_cases h1 : m.level = 0
  · rw [if_pos h1] at h0; simp at h0
  rw [if_neg h1] at h0 ⊢
  by_cases h2 : leftR L F.length = 0
  · rw [if_pos h2] at h0; simp at h0
  rw [if_neg h2] at h0 ⊢
  by_cases h3 : checkR m = 0
  · rw [if_neg (by simpa using h3)]
    exact ⟨vw_start h h1 h2 h3, List.mem_append_left _ hx⟩
  · rw [if_pos h3] at h0
    dsimp only at h0
    omega
theorem load_op {w : World} {b o : Nat} {x : FE} (hc : ∀ i v, (gF x)[i]? = some v → w.cell? ⟨b, o + i, none⟩ = some v) : (loadVar 77 ⟨b, o, none⟩).run Tryd.prog w = .ok (fV x) w :=
  run_load_cells w b o (gF x) 77 _ hc Tryd.underlying77 rfl opCells
/-- a valid window with an item in it that a call answers -/
def RetO (P : Nat → Prop) (x0 : Fl) (W : World) (e : Ending) (w' : World) : Prop := ∃ L A c ys A2 c2 X l, e = .returned (wv L A c ys A2 c2 X l) ∧ VW (L, ys.map FE.f, X, l) ∧ x0 ∈ ys.map FE.f ∧ WOk w' A c ys A2 c2 X ∧ Below W.heap.size W w' ∧ ∀ g, g < W.heap.size → P g → OffG g A ys A2 X

set_option maxRecDepth 20000 in
set_option maxHeartbeats 8000000 in
theorem others_any (P : Nat → Prop) (L : Int) (A : Option Addr) (c : Nat) (xs : List FE) (A2 : Option Addr) (c2 : Nat) (X : List Int) (l n : Int) (Ao : Option Addr) (co : Nat) (os : List FE) (x0 : Fl) (w : World) (hok : S1.Okw w) (hw : WOk w A c xs A2 c2 X) (hv : VW (L, xs.map FE.f, X, l)) (ho : FI w w.heap.size Ao os) (hs : ∀ o ∈ os, -9223372036854775808 ≤ o.f.st) (hx0 : x0 ∈ xs.map FE.f) (hid : x0.id = n) (hPo : ∀ g, g < w.heap.size → P g → OffG g A xs A2 X) :
    Calls Tryd.prog 10 #[wv L A c xs A2 c2 X l, .int .i64 n, .slice Ao os.length co] w (RetO P x0 w) := by
  have HOK := Lib.hid hok
  have HO := Lib.hid ho
  have HS := Lib.hid hs
  have HID := Lib.hid hid
  have HIN : Hid (∀ w1, Below w.heap.size w w1 → BK 27 w1 w.heap.size (wcs L A c xs A2 c2 X l) → BK 27 w1 (w.heap.size + 1) (wcs 0 none 0 [] none 0 [] 0) → InvO P w w1 x0 L A c xs A2 c2 X l) := Lib.hid (fun w1 h1 h2 h3 => ⟨h2, h3, h1, hw.step h1, hv, hx0, hw.off (Nat.le_refl _), hw.off (Nat.le_succ _), hPo⟩)
  clear hok hw hv ho hs hx0 hid hPo
  go_enter Tryd.func10, Tryd.ntmps10
  go_upto_region 1 with fail
  refine name_world (C := fun w1 => Code.wp _ _ _ _ w1) ((w.alloc (.cells (wcs L A c xs A2 c2 X l).toArray 27)).alloc (.cells (wcs 0 none 0 [] none 0 [] 0).toArray 27)) ?_
  intro w1 hw1
  obtain ⟨t1, t2, hs0, hB0⟩ := S2.two_laid (v1 := wcs L A c xs A2 c2 X l) (v2 := wcs 0 none 0 [] none 0 [] 0) hw1
  have HI1 := Lib.hid (HIN.out w1 hB0 t1 t2)
  clear hw1 t1 t2 hs0 hB0 HIN
  go_wp2_with fail
  go_loopg [7] 30 (fun g v wr => ∃ (k : Nat) (L : Int) (A : Option Addr) (c : Nat) (xs : List FE) (A2 : Option Addr) (c2 : Nat) (X : List Int) (l : Int), k + g = 30 ∧ v = .int .i64 k ∧ InvO P w wr x0 L A c xs A2 c2 X l)
  case atStart => exact ⟨0, L, A, c, xs, A2, c2, X, l, by omega, rfl, HI1.out⟩
  case round =>
    clear HI1
    obtain ⟨k, L, A, c, xs, A2, c2, X, l, hkg, rfl, hinv⟩ := hrel
    have HK := Lib.hid hkg
    have HI := Lib.hid hinv
    clear hinv
    cases gk with
    | zero =>
      obtain rfl : k = 30 := by omega
      clear hkg
      have e2 : decide (((30 : Nat) : Int) < 30) = false := by decide
      by_cases hlen : 30 < os.length
      · have e1 : decide (((30 : Nat) : Int) < (os.length : Int)) = true := decide_eq_true (by omega)
        have e1' : decide (30 < os.length) = true := decide_eq_true hlen
        have e1s : decide ((30 : Int) < (os.length : Int)) = true := decide_eq_true (by omega)
        clear hlen
        go_wp2_with first
          | (refine wpList_load_v (by rfl) 27 (.tmp 3) rfl ⟨w.heap.size, 0, none⟩ rfl (wv L A c xs A2 c2 X l) (S2.run_load_all HI.out.t Tryd.underlying27 rfl winSize) ?_)
          | (refine S2.wpList_store_all (by rfl) 27 (.tmp 6) (.tmp 58) rfl rfl (w.heap.size + 1) rfl (wcs L A c xs A2 c2 X l) rfl 27 (wcs 0 none 0 [] none 0 [] 0) HI.out.r winSize rfl (ones rfl) ?_; intro wf hM hP; have MF := Lib.hid hM; have PF := Lib.hid hP; clear hM hP)
        exact bodyPost_ret (v := wv L A c xs A2 c2 X l) (S2.res_cell rfl _ _ (w.heap.size + 1) 27 (wcs L A c xs A2 c2 X l) _ rfl MF.out Tryd.underlying27 rfl winSize) rfl ⟨L, A, c, xs, A2, c2, X, l, rfl, HI.out.v, HI.out.x, wok_putA HI.out.o PF.out HI.out.f1, PF.out.below HI.out.b (by omega), HI.out.fo⟩
      · have e1 : decide (((30 : Nat) : Int) < (os.length : Int)) = false := decide_eq_false (by omega)
        have e1' : decide (30 < os.length) = false := decide_eq_false hlen
        have e1s : decide ((30 : Int) < (os.length : Int)) = false := decide_eq_false (by omega)
        clear hlen
        go_wp2_with first
          | (refine wpList_load_v (by rfl) 27 (.tmp 3) rfl ⟨w.heap.size, 0, none⟩ rfl (wv L A c xs A2 c2 X l) (S2.run_load_all HI.out.t Tryd.underlying27 rfl winSize) ?_)
          | (refine S2.wpList_store_all (by rfl) 27 (.tmp 6) (.tmp 58) rfl rfl (w.heap.size + 1) rfl (wcs L A c xs A2 c2 X l) rfl 27 (wcs 0 none 0 [] none 0 [] 0) HI.out.r winSize rfl (ones rfl) ?_; intro wf hM hP; have MF := Lib.hid hM; have PF := Lib.hid hP; clear hM hP)
        exact bodyPost_ret (v := wv L A c xs A2 c2 X l) (S2.res_cell rfl _ _ (w.heap.size + 1) 27 (wcs L A c xs A2 c2 X l) _ rfl MF.out Tryd.underlying27 rfl winSize) rfl ⟨L, A, c, xs, A2, c2, X, l, rfl, HI.out.v, HI.out.x, wok_putA HI.out.o PF.out HI.out.f1, PF.out.below HI.out.b (by omega), HI.out.fo⟩
    | succ g =>
      have e2 : decide ((k : Int) < 30) = true := decide_eq_true (by omega)
      have hk30 : k < 30 := by omega
      by_cases hlen : k < os.length
      rotate_left
      · have e1 : decide ((k : Int) < (os.length : Int)) = false := decide_eq_false (by omega)
        have e1' : decide (k < os.length) = false := decide_eq_false hlen
        clear hlen hkg
        go_wp2_with first
          | (refine wpList_load_v (by rfl) 27 (.tmp 3) rfl ⟨w.heap.size, 0, none⟩ rfl (wv L A c xs A2 c2 X l) (S2.run_load_all HI.out.t Tryd.underlying27 rfl winSize) ?_)
          | (refine S2.wpList_store_all (by rfl) 27 (.tmp 6) (.tmp 58) rfl rfl (w.heap.size + 1) rfl (wcs L A c xs A2 c2 X l) rfl 27 (wcs 0 none 0 [] none 0 [] 0) HI.out.r winSize rfl (ones rfl) ?_; intro wf hM hP; have MF := Lib.hid hM; have PF := Lib.hid hP; clear hM hP)
        exact bodyPost_ret (v := wv L A c xs A2 c2 X l) (S2.res_cell rfl _ _ (w.heap.size + 1) 27 (wcs L A c xs A2 c2 X l) _ rfl MF.out Tryd.underlying27 rfl winSize) rfl ⟨L, A, c, xs, A2, c2, X, l, rfl, HI.out.v, HI.out.x, wok_putA HI.out.o PF.out HI.out.f1, PF.out.below HI.out.b (by omega), HI.out.fo⟩
      have e1 : decide ((k : Int) < (os.length : Int)) = true := decide_eq_true (by omega)
      have e1' : decide (k < os.length) = true := decide_eq_true hlen
      obtain ⟨o, ho⟩ : ∃ o, os[k]? = some o := ⟨_, List.getElem?_eq_getElem hlen⟩
      have hso := HS.out o (List.mem_of_getElem? ho)
      obtain ⟨v1, v2, v3, v4, v5, v6⟩ := HI.out.v.facts
      have HOV : Hid (OffG wr.heap.size A xs A2 X) := Lib.hid (HI.out.o.off (Nat.le_refl _))
      have HGV : Hid (w.heap.size + 1 < wr.heap.size) := Lib.hid (by have := HI.out.r.lt; omega)
      have HST := Lib.hid (fun w1 h1 h2 h3 => start_any L A c xs A2 c2 X l o.f.m o.a o.c w1 h1 h2 h3 v1.1 v1.2 v2 v5 v3 v4)
      have HHA := Lib.hid (fun p a w1 h => handle_any L A c xs A2 c2 X l p a w1 h (by omega) v5 v3 v6)
      have HPC := Lib.hid (fun w1 h => packet_any L A c xs A2 c2 X l o w1 h (by omega) hso)
      have HVW := Lib.hid HI.out.v
      have HX0 := Lib.hid HI.out.x
      have j1 : (0 : Int) ≤ (k : Int) := by omega
      have j2 : (k : Int) < (os.length : Int) := by omega
      clear hso v1 v2 v3 v4 v5 v6 hkg
      go_upto_region 6 with fail
      refine name_world (C := fun w1 => Code.wp _ _ _ _ w1) (wr.alloc (.cells (wcs 0 none 0 [] none 0 [] 0).toArray 27)) ?_
      intro w2 hw2
      have hb2 : Below wr.heap.size wr w2 := by rw [hw2]; exact S2.below_new wr _
      have V_w2 : Hid (BK 27 w2 wr.heap.size (wcs 0 none 0 [] none 0 [] 0)) := Lib.hid (by rw [hw2]; exact BK.new wr _ _)
      have J_w2 := Lib.hid (HI.out.step hb2)
      have T_w2 : Hid (BK 27 w2 w.heap.size (wcs L A c xs A2 c2 X l)) := Lib.hid J_w2.out.t
      have K_w2 := Lib.hid (HOK.out.step J_w2.out.b)
      obtain ⟨b, q, hA3, hbB, hc, hpl⟩ := (HO.out.step J_w2.out.b).at_ ho
      have C_w2 : Hid (∀ i v, (gF o)[i]? = some v → w2.cell? ⟨b, q + k * 11 + i, none⟩ = some v) := Lib.hid hc
      have Q_w2 : Hid (PL w2 w2.heap.size o.a o.f.m.props) := Lib.hid hpl
      have G_w2 : Hid (wr.heap.size < w2.heap.size) := Lib.hid V_w2.out.lt
      have HBL : Hid (b < wr.heap.size) := Lib.hid (by
        obtain ⟨b2, q2, hA2, hb2', _⟩ := HO.out.at_ ho
        rw [hA3] at hA2
        simp only [Option.some.injEq, Addr.mk.injEq, and_true] at hA2
        have := HGV.out
        omega)
      subst hA3
      have c0 := hc 0 _ rfl
      rw [Nat.add_zero] at c0
      clear hw2 hb2 hc hpl hbB ho hlen HI
      by_cases hk : o.f.id = 0
      · have q0 : (o.f.id == 0) = true := by simp [hk]
        clear hk HHA HPC
        obtain ⟨r, hr⟩ : ∃ r, startR (L, xs.map FE.f, X, l) o.f.m = r := ⟨_, rfl⟩
        have HKE : Hid (r.2.2 = 0 → VW r.1 ∧ x0 ∈ r.1.2.1) := Lib.hid (fun h => by rw [← hr] at h ⊢; exact start_keeps HVW.out HX0.out h)
        rw [hr] at HST
        obtain ⟨⟨L', F', X', l'⟩, p', z'⟩ := r
        dsimp only [RetS] at HST HKE
        clear hr HVW HX0
        go_upto_region 7 with fail
        clear c0
        obtain ⟨h1, hh1⟩ : ∃ h1, h1 = World.drew w2 := ⟨_, rfl⟩
        have hbD : Below w2.heap.size w2 h1 := by rw [hh1]; exact (Below.refl _ _).drew
        have J_h1 : Hid (InvO P w h1 x0 L A c xs A2 c2 X l) := Lib.hid (InvO.step J_w2.out hbD)
        have T_h1 : Hid (BK 27 h1 w.heap.size (wcs L A c xs A2 c2 X l)) := Lib.hid (BK.step T_w2.out hbD)
        have V_h1 : Hid (BK 27 h1 wr.heap.size (wcs 0 none 0 [] none 0 [] 0)) := Lib.hid (BK.step V_w2.out hbD)
        have K_h1 : Hid (S1.Okw h1) := Lib.hid (S1.Okw.step K_w2.out hbD)
        have C_h1 : Hid (∀ i v, (gF o)[i]? = some v → h1.cell? ⟨b, q + k * 11 + i, none⟩ = some v) := Lib.hid (cells_stepG C_w2.out hbD)
        have Q_h1 : Hid (PL h1 h1.heap.size o.a o.f.m.props) := Lib.hid (GL.step Q_w2.out hbD)
        have G_h1 : Hid (wr.heap.size < h1.heap.size) := Lib.hid (Nat.lt_of_lt_of_le G_w2.out hbD.size)
        clear J_w2 T_w2 V_w2 K_w2 C_w2 Q_w2 G_w2
        have hbd : (fun w' => BK 27 w' w.heap.size (wcs L A c xs A2 c2 X l) ∧ ∀ i v, (gF o)[i]? = some v → w'.cell? ⟨b, q + k * 11 + i, none⟩ = some v) (World.drew w2) := by rw [← hh1]; exact ⟨T_h1.out, C_h1.out⟩
        have hSD : (fun w' => BK 27 w' w.heap.size (wcs L A c xs A2 c2 X l) ∧ ∀ i v, (gF o)[i]? = some v → w'.cell? ⟨b, q + k * 11 + i, none⟩ = some v) h1 := ⟨T_h1.out, C_h1.out⟩
        have HWD := Lib.hid hh1
        clear hh1 hbD
        refine wp_region_held_drew (S := fun w' => BK 27 w' w.heap.size (wcs L A c xs A2 c2 X l) ∧ ∀ i v, (gF o)[i]? = some v → w'.cell? ⟨b, q + k * 11 + i, none⟩ = some v) (by kernel_rfl) hbd (fun hHeld => ?_)
        rw [← HWD.out]
        clear hHeld
        have hHeld := hSD
        clear hSD hbd HWD
        refine wpAnyH_take (i := 0) (v := wv L A c xs A2 c2 X l) (get_ops _ _ _ rfl) (by kernel_rfl) (by kernel_rfl) (by kernel_rfl) (fun _ _ _ h => h) (Or.inl ⟨by rfl, fun wS hSw => by (try dsimp only at hSw); exact exec_load 27 _ rfl ⟨w.heap.size, 0, none⟩ (by go_simp) _ (S2.run_load_all hSw.1 Tryd.underlying27 rfl winSize)⟩) hHeld ?_
        try simp only [Act.put, List.setIfInBounds_toArray, List.set_cons_zero, List.set_cons_succ]
        refine wpAnyH_take (i := 1) (v := .slice (some ⟨b, q, none⟩) os.length co) (get_ops _ _ _ rfl) (by kernel_rfl) (by kernel_rfl) (by kernel_rfl) (fun _ _ _ h => h) (Or.inl ⟨by rfl, fun wS hSw => by (try dsimp only at hSw); go_simp⟩) hHeld ?_
        try simp only [Act.put, List.setIfInBounds_toArray, List.set_cons_zero, List.set_cons_succ]
        refine wpAnyH_take (i := 2) (v := .int .i64 (k : Int)) (get_ops _ _ _ rfl) (by kernel_rfl) (by kernel_rfl) (by kernel_rfl) (fun _ _ _ h => h) (Or.inl ⟨by rfl, fun wS hSw => by (try dsimp only at hSw); go_simp⟩) hHeld ?_
        try simp only [Act.put, List.setIfInBounds_toArray, List.set_cons_zero, List.set_cons_succ]
        refine wpAnyH_take (i := 3) (v := .pointer (some ⟨b, q + k * 11, none⟩)) (get_ops _ _ _ rfl) (by kernel_rfl) (by kernel_rfl) (by kernel_rfl) (fun _ _ _ h => h) (Or.inl ⟨by rfl, fun wS hSw => by (try dsimp only at hSw); go_simp⟩) hHeld ?_
        try simp only [Act.put, List.setIfInBounds_toArray, List.set_cons_zero, List.set_cons_succ]
        refine wpAnyH_take (i := 4) (v := .pointer (some ⟨b, q + k * 11 + 2, none⟩)) (get_ops _ _ _ rfl) (by kernel_rfl) (by kernel_rfl) (by kernel_rfl) (fun _ _ _ h => h) (Or.inl ⟨by rfl, fun wS hSw => by (try dsimp only at hSw); go_simp⟩) hHeld ?_
        try simp only [Act.put, List.setIfInBounds_toArray, List.set_cons_zero, List.set_cons_succ]
        refine wpAnyH_take (i := 5) (v := msgV o.f.m o.a o.c) (get_ops _ _ _ rfl) (by kernel_rfl) (by kernel_rfl) (by kernel_rfl) (fun _ _ _ h => h) (Or.inl ⟨by rfl, fun wS hSw => by (try dsimp only at hSw); exact exec_load 30 _ rfl ⟨b, q + k * 11 + 2, none⟩ (by go_simp) _ (load_item_msg hSw.2)⟩) hHeld ?_
        try simp only [Act.put, List.setIfInBounds_toArray, List.set_cons_zero, List.set_cons_succ]
        refine wpAnyH_ready (rs := [6]) (by kernel_rfl) (by simp) ?_
        refine (AllReadyH.cons (get_ops _ _ _ rfl) (fun K hK => ?_) AllReadyH.nil)
        have GO := G_h1
        go_simp
        refine (HST.out h1 K_h1.out J_h1.out.o Q_h1.out).mono ?_
        rintro e h2 ⟨A9, c9, ys, B9, d9, a3, c3, rfl, hys, hwk, hnew, hpl, hnl, hb⟩
        have J_h2 : Hid (InvO P w h2 x0 L A c xs A2 c2 X l) := Lib.hid (InvO.step J_h1.out hb)
        have T_h2 : Hid (BK 27 h2 w.heap.size (wcs L A c xs A2 c2 X l)) := Lib.hid (BK.step T_h1.out hb)
        have V_h2 : Hid (BK 27 h2 wr.heap.size (wcs 0 none 0 [] none 0 [] 0)) := Lib.hid (BK.step V_h1.out hb)
        have K_h2 : Hid (S1.Okw h2) := Lib.hid (S1.Okw.step K_h1.out hb)
        have C_h2 : Hid (∀ i v, (gF o)[i]? = some v → h2.cell? ⟨b, q + k * 11 + i, none⟩ = some v) := Lib.hid (cells_stepG C_h1.out hb)
        have Q_h2 : Hid (PL h2 h2.heap.size o.a o.f.m.props) := Lib.hid (GL.step Q_h1.out hb)
        have G_h2 : Hid (wr.heap.size < h2.heap.size) := Lib.hid (Nat.lt_of_lt_of_le G_h1.out hb.size)
        clear J_h1 T_h1 V_h1 K_h1 C_h1 Q_h1 G_h1
        have HYS := Lib.hid hys
        have HF0 : Hid (OffG w.heap.size A9 ys B9 X') := Lib.hid (off_new hnew (by have := GO.out; have := HGV.out; omega))
        have HF1 : Hid (OffG (w.heap.size + 1) A9 ys B9 X') := Lib.hid (off_new hnew (by have := GO.out; have := HGV.out; omega))
        have HFG : Hid (∀ g, g < w.heap.size → OffG g A9 ys B9 X') := Lib.hid (fun g hg => off_new hnew (by have := GO.out; have := HGV.out; omega))
        have HFV : Hid (OffG wr.heap.size A9 ys B9 X') := Lib.hid (off_new hnew GO.out)
        have N_h2 : Hid (WOk h2 A9 c9 ys B9 d9 X') := Lib.hid (hwk)
        clear hys hwk hnew hpl hnl GO
        clear hHeld hb
        go_wp2_with fail
        refine hK.out _ _ ⟨T_h2.out, C_h2.out⟩ (fun hHeld => ?_)
        clear hK K
        try simp only [Act.put, List.setIfInBounds_toArray, List.set_cons_zero, List.set_cons_succ]
        refine wpAnyH_take (i := 7) (v := .tuple #[wv L' A9 c9 ys B9 d9 X' l', pkV p' (pubA a3 c3), .int .i64 z']) (get_ops _ _ _ rfl) (by kernel_rfl) (by kernel_rfl) (by kernel_rfl) (fun _ _ _ h => h) (Or.inl ⟨by rfl, fun wS hSw => by (try dsimp only at hSw); go_simp⟩) hHeld ?_
        try simp only [Act.put, List.setIfInBounds_toArray, List.set_cons_zero, List.set_cons_succ]
        refine wpAnyH_take (i := 8) (v := wv L' A9 c9 ys B9 d9 X' l') (get_ops _ _ _ rfl) (by kernel_rfl) (by kernel_rfl) (by kernel_rfl) (fun _ _ _ h => h) (Or.inl ⟨by rfl, fun wS hSw => by (try dsimp only at hSw); go_simp⟩) hHeld ?_
        try simp only [Act.put, List.setIfInBounds_toArray, List.set_cons_zero, List.set_cons_succ]
        refine wpAnyH_take (i := 9) (v := pkV p' (pubA a3 c3)) (get_ops _ _ _ rfl) (by kernel_rfl) (by kernel_rfl) (by kernel_rfl) (fun _ _ _ h => h) (Or.inl ⟨by rfl, fun wS hSw => by (try dsimp only at hSw); go_simp⟩) hHeld ?_
        try simp only [Act.put, List.setIfInBounds_toArray, List.set_cons_zero, List.set_cons_succ]
        refine wpAnyH_take (i := 10) (v := .int .i64 z') (get_ops _ _ _ rfl) (by kernel_rfl) (by kernel_rfl) (by kernel_rfl) (fun _ _ _ h => h) (Or.inl ⟨by rfl, fun wS hSw => by (try dsimp only at hSw); go_simp⟩) hHeld ?_
        try simp only [Act.put, List.setIfInBounds_toArray, List.set_cons_zero, List.set_cons_succ]
        refine wpAnyH_ready (rs := [11]) (by kernel_rfl) (by simp) ?_
        refine (AllReadyH.cons (get_ops _ _ _ rfl) (fun K hK => ?_) AllReadyH.nil)
        refine S2.wp_store_all 27 _ _ rfl rfl wr.heap.size (by go_simp) (wcs L' A9 c9 ys B9 d9 X' l') (by first | rfl | go_simp) 27 (wcs 0 none 0 [] none 0 [] 0) V_h2.out winSize rfl (ones rfl) ?_
        intro h3 hM hP
        have V_h3 : Hid (BK 27 h3 wr.heap.size (wcs L' A9 c9 ys B9 d9 X' l')) := Lib.hid (hM)
        have J_h3 : Hid (InvO P w h3 x0 L A c xs A2 c2 X l) := Lib.hid (InvO.put J_h2.out hP HGV.out HOV.out)
        have T_h3 : Hid (BK 27 h3 w.heap.size (wcs L A c xs A2 c2 X l)) := Lib.hid (hP.other T_h2.out (by have := HGV.out; omega))
        have C_h3 : Hid (∀ i v, (gF o)[i]? = some v → h3.cell? ⟨b, q + k * 11 + i, none⟩ = some v) := Lib.hid (fun j v hv => (hP.cell (p := ⟨b, q + k * 11 + j, none⟩) (by have := HBL.out; show b ≠ wr.heap.size; omega)).trans (C_h2.out j v hv))
        have G_h3 : Hid (wr.heap.size < h3.heap.size) := Lib.hid ((by rw [hP.size]; exact G_h2.out))
        have N_h3 : Hid (WOk h3 A9 c9 ys B9 d9 X') := Lib.hid (wok_putA N_h2.out hP HFV.out)
        clear J_h2 T_h2 V_h2 K_h2 C_h2 Q_h2 G_h2 N_h2
        clear hM hP hHeld
        refine hK.out _ _ ⟨T_h3.out, C_h3.out⟩ (fun hHeld => ?_)
        clear hK K
        try simp only [Act.put, List.setIfInBounds_toArray, List.set_cons_zero, List.set_cons_succ]
        refine wpAnyH_take (i := 12) (v := .int .i64 z') (get_ops _ _ _ rfl) (by kernel_rfl) (by kernel_rfl) (by kernel_rfl) (fun _ _ _ h => h) (Or.inl ⟨by rfl, fun wS hSw => by (try dsimp only at hSw); go_simp⟩) hHeld ?_
        try simp only [Act.put, List.setIfInBounds_toArray, List.set_cons_zero, List.set_cons_succ]
        refine wpAnyH_done (by kernel_rfl) ?_ _
        go_upto_region 11 with fail
        by_cases hz : z' = 0
        · have qz : (z' == 0) = true := by simp [hz]
          obtain ⟨hv9, hx9⟩ := HKE.out hz
          have HV9 : Hid (VW (L', ys.map FE.f, X', l')) := Lib.hid (by rw [HYS.out]; exact hv9)
          have HX9 : Hid (x0 ∈ ys.map FE.f) := Lib.hid (by rw [HYS.out]; exact hx9)
          clear hz hv9 hx9
          go_wp2_with first
            | (refine wpList_load_v (by rfl) 27 (.tmp 8) rfl ⟨wr.heap.size, 0, none⟩ rfl (wv L' A9 c9 ys B9 d9 X' l') (S2.run_load_all V_h3.out Tryd.underlying27 rfl winSize) ?_)
            | (refine S2.wpList_store_all (by rfl) 27 (.tmp 3) (.tmp 57) rfl rfl w.heap.size rfl (wcs L' A9 c9 ys B9 d9 X' l') rfl 27 (wcs L A c xs A2 c2 X l) J_h3.out.t winSize rfl (ones rfl) ?_; intro wf hM hP; have MF := Lib.hid hM; have PF := Lib.hid hP; clear hM hP)
          go_roundg g
          case measure => omega
          case rel => exact ⟨k + 1, L', A9, c9, ys, B9, d9, X', l', by have := HK.out; omega, by go_num, ⟨MF.out, PF.out.other J_h3.out.r (by omega), PF.out.below J_h3.out.b (Nat.le_refl _), wok_putA N_h3.out PF.out HF0.out, HV9.out, HX9.out, HF0.out, HF1.out, fun g hg _ => HFG.out g hg⟩⟩
        · have qz : (z' == 0) = false := by simp [hz]
          clear hz
          go_wp2
          go_roundg g
          case measure => omega
          case rel => exact ⟨k + 1, L, A, c, xs, A2, c2, X, l, by have := HK.out; omega, by go_num, J_h3.out⟩
      · have q0 : (o.f.id == 0) = false := by simp [hk]
        clear hk HST
        go_upto_region 8 with fail
        clear c0
        obtain ⟨h1, hh1⟩ : ∃ h1, h1 = World.drew w2 := ⟨_, rfl⟩
        have hbD : Below w2.heap.size w2 h1 := by rw [hh1]; exact (Below.refl _ _).drew
        have J_h1 : Hid (InvO P w h1 x0 L A c xs A2 c2 X l) := Lib.hid (InvO.step J_w2.out hbD)
        have T_h1 : Hid (BK 27 h1 w.heap.size (wcs L A c xs A2 c2 X l)) := Lib.hid (BK.step T_w2.out hbD)
        have V_h1 : Hid (BK 27 h1 wr.heap.size (wcs 0 none 0 [] none 0 [] 0)) := Lib.hid (BK.step V_w2.out hbD)
        have K_h1 : Hid (S1.Okw h1) := Lib.hid (S1.Okw.step K_w2.out hbD)
        have C_h1 : Hid (∀ i v, (gF o)[i]? = some v → h1.cell? ⟨b, q + k * 11 + i, none⟩ = some v) := Lib.hid (cells_stepG C_w2.out hbD)
        have Q_h1 : Hid (PL h1 h1.heap.size o.a o.f.m.props) := Lib.hid (GL.step Q_w2.out hbD)
        have G_h1 : Hid (wr.heap.size < h1.heap.size) := Lib.hid (Nat.lt_of_lt_of_le G_w2.out hbD.size)
        clear J_w2 T_w2 V_w2 K_w2 C_w2 Q_w2 G_w2
        have hbd : (fun w' => BK 27 w' w.heap.size (wcs L A c xs A2 c2 X l) ∧ ∀ i v, (gF o)[i]? = some v → w'.cell? ⟨b, q + k * 11 + i, none⟩ = some v) (World.drew w2) := by rw [← hh1]; exact ⟨T_h1.out, C_h1.out⟩
        have hSD : (fun w' => BK 27 w' w.heap.size (wcs L A c xs A2 c2 X l) ∧ ∀ i v, (gF o)[i]? = some v → w'.cell? ⟨b, q + k * 11 + i, none⟩ = some v) h1 := ⟨T_h1.out, C_h1.out⟩
        have HWD := Lib.hid hh1
        clear hh1 hbD
        refine wp_region_held_drew (S := fun w' => BK 27 w' w.heap.size (wcs L A c xs A2 c2 X l) ∧ ∀ i v, (gF o)[i]? = some v → w'.cell? ⟨b, q + k * 11 + i, none⟩ = some v) (by kernel_rfl) hbd (fun hHeld => ?_)
        rw [← HWD.out]
        clear hHeld
        have hHeld := hSD
        clear hSD hbd HWD
        refine wpAnyH_take (i := 0) (v := wv L A c xs A2 c2 X l) (get_ops _ _ _ rfl) (by kernel_rfl) (by kernel_rfl) (by kernel_rfl) (fun _ _ _ h => h) (Or.inl ⟨by rfl, fun wS hSw => by (try dsimp only at hSw); exact exec_load 27 _ rfl ⟨w.heap.size, 0, none⟩ (by go_simp) _ (S2.run_load_all hSw.1 Tryd.underlying27 rfl winSize)⟩) hHeld ?_
        try simp only [Act.put, List.setIfInBounds_toArray, List.set_cons_zero, List.set_cons_succ]
        refine wpAnyH_take (i := 1) (v := .slice (some ⟨b, q, none⟩) os.length co) (get_ops _ _ _ rfl) (by kernel_rfl) (by kernel_rfl) (by kernel_rfl) (fun _ _ _ h => h) (Or.inl ⟨by rfl, fun wS hSw => by (try dsimp only at hSw); go_simp⟩) hHeld ?_
        try simp only [Act.put, List.setIfInBounds_toArray, List.set_cons_zero, List.set_cons_succ]
        refine wpAnyH_take (i := 2) (v := .int .i64 (k : Int)) (get_ops _ _ _ rfl) (by kernel_rfl) (by kernel_rfl) (by kernel_rfl) (fun _ _ _ h => h) (Or.inl ⟨by rfl, fun wS hSw => by (try dsimp only at hSw); go_simp⟩) hHeld ?_
        try simp only [Act.put, List.setIfInBounds_toArray, List.set_cons_zero, List.set_cons_succ]
        refine wpAnyH_take (i := 3) (v := .pointer (some ⟨b, q + k * 11, none⟩)) (get_ops _ _ _ rfl) (by kernel_rfl) (by kernel_rfl) (by kernel_rfl) (fun _ _ _ h => h) (Or.inl ⟨by rfl, fun wS hSw => by (try dsimp only at hSw); go_simp⟩) hHeld ?_
        try simp only [Act.put, List.setIfInBounds_toArray, List.set_cons_zero, List.set_cons_succ]
        refine wpAnyH_take (i := 4) (v := fV o) (get_ops _ _ _ rfl) (by kernel_rfl) (by kernel_rfl) (by kernel_rfl) (fun _ _ _ h => h) (Or.inl ⟨by rfl, fun wS hSw => by (try dsimp only at hSw); exact exec_load 77 _ rfl ⟨b, q + k * 11, none⟩ (by go_simp) _ (load_op hSw.2)⟩) hHeld ?_
        try simp only [Act.put, List.setIfInBounds_toArray, List.set_cons_zero, List.set_cons_succ]
        refine wpAnyH_ready (rs := [5, 6]) (by kernel_rfl) (by simp) ?_
        refine (AllReadyH.cons (get_ops _ _ _ rfl) (fun K hK => ?_) (AllReadyH.cons (get_ops _ _ _ rfl) (fun K hK => ?_) AllReadyH.nil))
        · go_simp
          refine (HPC.out h1 J_h1.out.o.1).mono ?_
          rintro e h2 ⟨rfl, hb⟩
          have J_h2 : Hid (InvO P w h2 x0 L A c xs A2 c2 X l) := Lib.hid (InvO.step J_h1.out hb)
          have T_h2 : Hid (BK 27 h2 w.heap.size (wcs L A c xs A2 c2 X l)) := Lib.hid (BK.step T_h1.out hb)
          have V_h2 : Hid (BK 27 h2 wr.heap.size (wcs 0 none 0 [] none 0 [] 0)) := Lib.hid (BK.step V_h1.out hb)
          have K_h2 : Hid (S1.Okw h2) := Lib.hid (S1.Okw.step K_h1.out hb)
          have C_h2 : Hid (∀ i v, (gF o)[i]? = some v → h2.cell? ⟨b, q + k * 11 + i, none⟩ = some v) := Lib.hid (cells_stepG C_h1.out hb)
          have Q_h2 : Hid (PL h2 h2.heap.size o.a o.f.m.props) := Lib.hid (GL.step Q_h1.out hb)
          have G_h2 : Hid (wr.heap.size < h2.heap.size) := Lib.hid (Nat.lt_of_lt_of_le G_h1.out hb.size)
          clear J_h1 T_h1 V_h1 K_h1 C_h1 Q_h1 G_h1
          clear hHeld hb
          go_wp2_with fail
          refine hK.out _ _ ⟨T_h2.out, C_h2.out⟩ (fun hHeld => ?_)
          clear hK K
          try simp only [Act.put, List.setIfInBounds_toArray, List.set_cons_zero, List.set_cons_succ]
          refine wpAnyH_ready (rs := [6]) (by kernel_rfl) (by simp) ?_
          refine (AllReadyH.cons (get_ops _ _ _ rfl) (fun K hK => ?_) AllReadyH.nil)
          go_simp
          obtain ⟨vp, hvp⟩ : ∃ vp, vp = h2.heap.size := ⟨_, rfl⟩
          refine name_world (C := fun w9 => K _ w9) (h2.alloc (.cells zeroPk.toArray 40)) ?_
          intro h3 hh3
          have hb : Below h2.heap.size h2 h3 := by rw [hh3]; exact S2.below_new _ _
          have hN : BK 40 h3 vp zeroPk := by rw [hh3, hvp]; exact BK.new _ _ _
          have HVP : Hid (wr.heap.size < vp) := Lib.hid (by rw [hvp]; exact G_h2.out)
          have HOP : Hid (OffG vp A xs A2 X) := Lib.hid (by rw [hvp]; exact J_h2.out.o.off (Nat.le_refl _))
          have J_h3 : Hid (InvO P w h3 x0 L A c xs A2 c2 X l) := Lib.hid (InvO.step J_h2.out hb)
          have T_h3 : Hid (BK 27 h3 w.heap.size (wcs L A c xs A2 c2 X l)) := Lib.hid (BK.step T_h2.out hb)
          have V_h3 : Hid (BK 27 h3 wr.heap.size (wcs 0 none 0 [] none 0 [] 0)) := Lib.hid (BK.step V_h2.out hb)
          have K_h3 : Hid (S1.Okw h3) := Lib.hid (S1.Okw.step K_h2.out hb)
          have C_h3 : Hid (∀ i v, (gF o)[i]? = some v → h3.cell? ⟨b, q + k * 11 + i, none⟩ = some v) := Lib.hid (cells_stepG C_h2.out hb)
          have Q_h3 : Hid (PL h3 h3.heap.size o.a o.f.m.props) := Lib.hid (GL.step Q_h2.out hb)
          have G_h3 : Hid (wr.heap.size < h3.heap.size) := Lib.hid (Nat.lt_of_lt_of_le G_h2.out hb.size)
          clear J_h2 T_h2 V_h2 K_h2 C_h2 Q_h2 G_h2
          have P_h3 := Lib.hid hN
          try rw [← hvp]
          clear hHeld hb hN hh3 hvp
          refine hK.out _ _ ⟨T_h3.out, C_h3.out⟩ (fun hHeld => ?_)
          clear hK K
          try simp only [Act.put, List.setIfInBounds_toArray, List.set_cons_zero, List.set_cons_succ]
          refine wpAnyH_ready (rs := [7]) (by kernel_rfl) (by simp) ?_
          refine (AllReadyH.cons (get_ops _ _ _ rfl) (fun K hK => ?_) AllReadyH.nil)
          refine S2.wp_store_all 40 _ _ rfl rfl vp (by go_simp) (pkC (opPk (xs.map FE.f) o.f) PA.zero) (by first | rfl | go_simp) 40 zeroPk P_h3.out pktSize rfl (pkOnes _ _) ?_
          intro h4 hM hP
          have P_h4 : Hid (BK 40 h4 vp (pkC (opPk (xs.map FE.f) o.f) PA.zero)) := Lib.hid (hM)
          have J_h4 : Hid (InvO P w h4 x0 L A c xs A2 c2 X l) := Lib.hid (InvO.put J_h3.out hP (by have := HVP.out; have := HGV.out; omega) HOP.out)
          have T_h4 : Hid (BK 27 h4 w.heap.size (wcs L A c xs A2 c2 X l)) := Lib.hid (hP.other T_h3.out (by have := HVP.out; have := HGV.out; omega))
          have V_h4 : Hid (BK 27 h4 wr.heap.size (wcs 0 none 0 [] none 0 [] 0)) := Lib.hid (hP.other V_h3.out (by have := HVP.out; have := HGV.out; omega))
          have C_h4 : Hid (∀ i v, (gF o)[i]? = some v → h4.cell? ⟨b, q + k * 11 + i, none⟩ = some v) := Lib.hid (fun j v hv => (hP.cell (p := ⟨b, q + k * 11 + j, none⟩) (by have := HBL.out; have := HVP.out; show b ≠ vp; omega)).trans (C_h3.out j v hv))
          have G_h4 : Hid (wr.heap.size < h4.heap.size) := Lib.hid ((by rw [hP.size]; exact G_h3.out))
          clear J_h3 T_h3 V_h3 K_h3 C_h3 Q_h3 G_h3 P_h3
          clear hM hP hHeld
          refine hK.out _ _ ⟨T_h4.out, C_h4.out⟩ (fun hHeld => ?_)
          clear hK K
          try simp only [Act.put, List.setIfInBounds_toArray, List.set_cons_zero, List.set_cons_succ]
          refine wpAnyH_done (by kernel_rfl) ?_ _
          have p1 := P_h4.out.cell 1 (pk1 _ _)
          by_cases hpn : (opPk (xs.map FE.f) o.f).id = n
          · have qn : ((opPk (xs.map FE.f) o.f).id == n) = true := by simp [hpn]
            clear hpn HHA HPC
            go_wp2
            go_roundg g
            case measure => omega
            case rel => exact ⟨k + 1, L, A, c, xs, A2, c2, X, l, by have := HK.out; omega, by go_num, J_h4.out⟩
          have qn : ((opPk (xs.map FE.f) o.f).id == n) = false := by simp [hpn]
          obtain ⟨r, hr⟩ : ∃ r, handleR (L, xs.map FE.f, X, l) (opPk (xs.map FE.f) o.f).kind (opPk (xs.map FE.f) o.f).id = r := ⟨_, rfl⟩
          have HKE : Hid (r.2.2 = 0 → VW r.1 ∧ x0 ∈ r.1.2.1) := Lib.hid (fun h => by rw [← hr] at h ⊢; exact ⟨vw_handle HVW.out h, keep_handle HX0.out (by rw [HID.out]; exact hpn) h⟩)
          have HH := Lib.hid (HHA.out (opPk (xs.map FE.f) o.f) PA.zero h4 J_h4.out.o)
          rw [hr] at HH
          obtain ⟨⟨L', F', X', l'⟩, p', z'⟩ := r
          dsimp only [RetH] at HH HKE
          clear hr HVW HX0 hpn HHA HPC
          go_wp2_with first
            | (refine wpList_load_v (by rfl) 27 (.tmp 3) rfl ⟨w.heap.size, 0, none⟩ rfl (wv L A c xs A2 c2 X l) (S2.run_load_all T_h4.out Tryd.underlying27 rfl winSize) ?_)
            | (refine wpList_load_v (by rfl) 40 (.tmp 10) rfl ⟨vp, 0, none⟩ rfl (pkV (opPk (xs.map FE.f) o.f) PA.zero) (S2.run_load_all P_h4.out Tryd.underlying40 rfl pktSize) ?_)
          refine HH.out.mono ?_
          rintro e w8 ⟨A9, c9, ys, B9, d9, A10, c10, ks, rfl, hys, hwk, hnew, hks, hkk, hb⟩
          have GO := G_h4
          have J_w8 := Lib.hid (J_h4.out.step hb)
          have V_w8 := Lib.hid (V_h4.out.step hb)
          have HYS := Lib.hid hys
          have HF0 : Hid (OffG w.heap.size A9 ys B9 X') := Lib.hid (off_new hnew (by have := GO.out; have := HGV.out; omega))
          have HF1 : Hid (OffG (w.heap.size + 1) A9 ys B9 X') := Lib.hid (off_new hnew (by have := GO.out; have := HGV.out; omega))
          have HFG : Hid (∀ g, g < w.heap.size → OffG g A9 ys B9 X') := Lib.hid (fun g hg => off_new hnew (by have := GO.out; have := HGV.out; omega))
          have HFV : Hid (OffG wr.heap.size A9 ys B9 X') := Lib.hid (off_new hnew GO.out)
          have N_w8 := Lib.hid hwk
          clear hys hwk hnew hks hkk GO hb p1 qn
          go_upto_region 11 with first
            | (refine S2.wpList_store_all (by rfl) 27 (.tmp 8) (.tmp 52) rfl rfl wr.heap.size rfl (wcs L' A9 c9 ys B9 d9 X' l') rfl 27 (wcs 0 none 0 [] none 0 [] 0) V_w8.out winSize rfl (ones rfl) ?_; intro w9 hM hP; have V_w9 := Lib.hid hM; have J_w9 := Lib.hid (J_w8.out.put hP HGV.out HOV.out); have N_w9 := Lib.hid (wok_putA N_w8.out hP HFV.out); clear hM hP)
          by_cases hz : z' = 0
          · have qz : (z' == 0) = true := by simp [hz]
            obtain ⟨hv9, hx9⟩ := HKE.out hz
            have HV9 : Hid (VW (L', ys.map FE.f, X', l')) := Lib.hid (by rw [HYS.out]; exact hv9)
            have HX9 : Hid (x0 ∈ ys.map FE.f) := Lib.hid (by rw [HYS.out]; exact hx9)
            clear hz hv9 hx9
            go_wp2_with first
              | (refine wpList_load_v (by rfl) 27 (.tmp 8) rfl ⟨wr.heap.size, 0, none⟩ rfl (wv L' A9 c9 ys B9 d9 X' l') (S2.run_load_all V_w9.out Tryd.underlying27 rfl winSize) ?_)
              | (refine S2.wpList_store_all (by rfl) 27 (.tmp 3) (.tmp 57) rfl rfl w.heap.size rfl (wcs L' A9 c9 ys B9 d9 X' l') rfl 27 (wcs L A c xs A2 c2 X l) J_w9.out.t winSize rfl (ones rfl) ?_; intro wf hM hP; have MF := Lib.hid hM; have PF := Lib.hid hP; clear hM hP)
            go_roundg g
            case measure => omega
            case rel => exact ⟨k + 1, L', A9, c9, ys, B9, d9, X', l', by have := HK.out; omega, by go_num, ⟨MF.out, PF.out.other J_w9.out.r (by omega), PF.out.below J_w9.out.b (Nat.le_refl _), wok_putA N_w9.out PF.out HF0.out, HV9.out, HX9.out, HF0.out, HF1.out, fun g hg _ => HFG.out g hg⟩⟩
          · have qz : (z' == 0) = false := by simp [hz]
            clear hz
            go_wp2
            go_roundg g
            case measure => omega
            case rel => exact ⟨k + 1, L, A, c, xs, A2, c2, X, l, by have := HK.out; omega, by go_num, J_w9.out⟩
        · go_simp
          obtain ⟨vp, hvp⟩ : ∃ vp, vp = h1.heap.size := ⟨_, rfl⟩
          refine name_world (C := fun w9 => K _ w9) (h1.alloc (.cells zeroPk.toArray 40)) ?_
          intro h2 hh2
          have hb : Below h1.heap.size h1 h2 := by rw [hh2]; exact S2.below_new _ _
          have hN : BK 40 h2 vp zeroPk := by rw [hh2, hvp]; exact BK.new _ _ _
          have HVP : Hid (wr.heap.size < vp) := Lib.hid (by rw [hvp]; exact G_h1.out)
          have HOP : Hid (OffG vp A xs A2 X) := Lib.hid (by rw [hvp]; exact J_h1.out.o.off (Nat.le_refl _))
          have J_h2 : Hid (InvO P w h2 x0 L A c xs A2 c2 X l) := Lib.hid (InvO.step J_h1.out hb)
          have T_h2 : Hid (BK 27 h2 w.heap.size (wcs L A c xs A2 c2 X l)) := Lib.hid (BK.step T_h1.out hb)
          have V_h2 : Hid (BK 27 h2 wr.heap.size (wcs 0 none 0 [] none 0 [] 0)) := Lib.hid (BK.step V_h1.out hb)
          have K_h2 : Hid (S1.Okw h2) := Lib.hid (S1.Okw.step K_h1.out hb)
          have C_h2 : Hid (∀ i v, (gF o)[i]? = some v → h2.cell? ⟨b, q + k * 11 + i, none⟩ = some v) := Lib.hid (cells_stepG C_h1.out hb)
          have Q_h2 : Hid (PL h2 h2.heap.size o.a o.f.m.props) := Lib.hid (GL.step Q_h1.out hb)
          have G_h2 : Hid (wr.heap.size < h2.heap.size) := Lib.hid (Nat.lt_of_lt_of_le G_h1.out hb.size)
          clear J_h1 T_h1 V_h1 K_h1 C_h1 Q_h1 G_h1
          have P_h2 := Lib.hid hN
          try rw [← hvp]
          clear hHeld hb hN hh2 hvp
          refine hK.out _ _ ⟨T_h2.out, C_h2.out⟩ (fun hHeld => ?_)
          clear hK K
          try simp only [Act.put, List.setIfInBounds_toArray, List.set_cons_zero, List.set_cons_succ]
          refine wpAnyH_ready (rs := [5]) (by kernel_rfl) (by simp) ?_
          refine (AllReadyH.cons (get_ops _ _ _ rfl) (fun K hK => ?_) AllReadyH.nil)
          go_simp
          refine (HPC.out h2 J_h2.out.o.1).mono ?_
          rintro e h3 ⟨rfl, hb⟩
          have J_h3 : Hid (InvO P w h3 x0 L A c xs A2 c2 X l) := Lib.hid (InvO.step J_h2.out hb)
          have T_h3 : Hid (BK 27 h3 w.heap.size (wcs L A c xs A2 c2 X l)) := Lib.hid (BK.step T_h2.out hb)
          have V_h3 : Hid (BK 27 h3 wr.heap.size (wcs 0 none 0 [] none 0 [] 0)) := Lib.hid (BK.step V_h2.out hb)
          have K_h3 : Hid (S1.Okw h3) := Lib.hid (S1.Okw.step K_h2.out hb)
          have C_h3 : Hid (∀ i v, (gF o)[i]? = some v → h3.cell? ⟨b, q + k * 11 + i, none⟩ = some v) := Lib.hid (cells_stepG C_h2.out hb)
          have Q_h3 : Hid (PL h3 h3.heap.size o.a o.f.m.props) := Lib.hid (GL.step Q_h2.out hb)
          have G_h3 : Hid (wr.heap.size < h3.heap.size) := Lib.hid (Nat.lt_of_lt_of_le G_h2.out hb.size)
          have P_h3 : Hid (BK 40 h3 vp zeroPk) := Lib.hid (BK.step P_h2.out hb)
          clear J_h2 T_h2 V_h2 K_h2 C_h2 Q_h2 G_h2 P_h2
          clear hHeld hb
          go_wp2_with fail
          refine hK.out _ _ ⟨T_h3.out, C_h3.out⟩ (fun hHeld => ?_)
          clear hK K
          try simp only [Act.put, List.setIfInBounds_toArray, List.set_cons_zero, List.set_cons_succ]
          refine wpAnyH_ready (rs := [7]) (by kernel_rfl) (by simp) ?_
          refine (AllReadyH.cons (get_ops _ _ _ rfl) (fun K hK => ?_) AllReadyH.nil)
          refine S2.wp_store_all 40 _ _ rfl rfl vp (by go_simp) (pkC (opPk (xs.map FE.f) o.f) PA.zero) (by first | rfl | go_simp) 40 zeroPk P_h3.out pktSize rfl (pkOnes _ _) ?_
          intro h4 hM hP
          have P_h4 : Hid (BK 40 h4 vp (pkC (opPk (xs.map FE.f) o.f) PA.zero)) := Lib.hid (hM)
          have J_h4 : Hid (InvO P w h4 x0 L A c xs A2 c2 X l) := Lib.hid (InvO.put J_h3.out hP (by have := HVP.out; have := HGV.out; omega) HOP.out)
          have T_h4 : Hid (BK 27 h4 w.heap.size (wcs L A c xs A2 c2 X l)) := Lib.hid (hP.other T_h3.out (by have := HVP.out; have := HGV.out; omega))
          have V_h4 : Hid (BK 27 h4 wr.heap.size (wcs 0 none 0 [] none 0 [] 0)) := Lib.hid (hP.other V_h3.out (by have := HVP.out; have := HGV.out; omega))
          have C_h4 : Hid (∀ i v, (gF o)[i]? = some v → h4.cell? ⟨b, q + k * 11 + i, none⟩ = some v) := Lib.hid (fun j v hv => (hP.cell (p := ⟨b, q + k * 11 + j, none⟩) (by have := HBL.out; have := HVP.out; show b ≠ vp; omega)).trans (C_h3.out j v hv))
          have G_h4 : Hid (wr.heap.size < h4.heap.size) := Lib.hid ((by rw [hP.size]; exact G_h3.out))
          clear J_h3 T_h3 V_h3 K_h3 C_h3 Q_h3 G_h3 P_h3
          clear hM hP hHeld
          refine hK.out _ _ ⟨T_h4.out, C_h4.out⟩ (fun hHeld => ?_)
          clear hK K
          try simp only [Act.put, List.setIfInBounds_toArray, List.set_cons_zero, List.set_cons_succ]
          refine wpAnyH_done (by kernel_rfl) ?_ _
          have p1 := P_h4.out.cell 1 (pk1 _ _)
          by_cases hpn : (opPk (xs.map FE.f) o.f).id = n
          · have qn : ((opPk (xs.map FE.f) o.f).id == n) = true := by simp [hpn]
            clear hpn HHA HPC
            go_wp2
            go_roundg g
            case measure => omega
            case rel => exact ⟨k + 1, L, A, c, xs, A2, c2, X, l, by have := HK.out; omega, by go_num, J_h4.out⟩
          have qn : ((opPk (xs.map FE.f) o.f).id == n) = false := by simp [hpn]
          obtain ⟨r, hr⟩ : ∃ r, handleR (L, xs.map FE.f, X, l) (opPk (xs.map FE.f) o.f).kind (opPk (xs.map FE.f) o.f).id = r := ⟨_, rfl⟩
          have HKE : Hid (r.2.2 = 0 → VW r.1 ∧ x0 ∈ r.1.2.1) := Lib.hid (fun h => by rw [← hr] at h ⊢; exact ⟨vw_handle HVW.out h, keep_handle HX0.out (by rw [HID.out]; exact hpn) h⟩)
          have HH := Lib.hid (HHA.out (opPk (xs.map FE.f) o.f) PA.zero h4 J_h4.out.o)
          rw [hr] at HH
          obtain ⟨⟨L', F', X', l'⟩, p', z'⟩ := r
          dsimp only [RetH] at HH HKE
          clear hr HVW HX0 hpn HHA HPC
          go_wp2_with first
            | (refine wpList_load_v (by rfl) 27 (.tmp 3) rfl ⟨w.heap.size, 0, none⟩ rfl (wv L A c xs A2 c2 X l) (S2.run_load_all T_h4.out Tryd.underlying27 rfl winSize) ?_)
            | (refine wpList_load_v (by rfl) 40 (.tmp 10) rfl ⟨vp, 0, none⟩ rfl (pkV (opPk (xs.map FE.f) o.f) PA.zero) (S2.run_load_all P_h4.out Tryd.underlying40 rfl pktSize) ?_)
          refine HH.out.mono ?_
          rintro e w8 ⟨A9, c9, ys, B9, d9, A10, c10, ks, rfl, hys, hwk, hnew, hks, hkk, hb⟩
          have GO := G_h4
          have J_w8 := Lib.hid (J_h4.out.step hb)
          have V_w8 := Lib.hid (V_h4.out.step hb)
          have HYS := Lib.hid hys
          have HF0 : Hid (OffG w.heap.size A9 ys B9 X') := Lib.hid (off_new hnew (by have := GO.out; have := HGV.out; omega))
          have HF1 : Hid (OffG (w.heap.size + 1) A9 ys B9 X') := Lib.hid (off_new hnew (by have := GO.out; have := HGV.out; omega))
          have HFG : Hid (∀ g, g < w.heap.size → OffG g A9 ys B9 X') := Lib.hid (fun g hg => off_new hnew (by have := GO.out; have := HGV.out; omega))
          have HFV : Hid (OffG wr.heap.size A9 ys B9 X') := Lib.hid (off_new hnew GO.out)
          have N_w8 := Lib.hid hwk
          clear hys hwk hnew hks hkk GO hb p1 qn
          go_upto_region 11 with first
            | (refine S2.wpList_store_all (by rfl) 27 (.tmp 8) (.tmp 52) rfl rfl wr.heap.size rfl (wcs L' A9 c9 ys B9 d9 X' l') rfl 27 (wcs 0 none 0 [] none 0 [] 0) V_w8.out winSize rfl (ones rfl) ?_; intro w9 hM hP; have V_w9 := Lib.hid hM; have J_w9 := Lib.hid (J_w8.out.put hP HGV.out HOV.out); have N_w9 := Lib.hid (wok_putA N_w8.out hP HFV.out); clear hM hP)
          by_cases hz : z' = 0
          · have qz : (z' == 0) = true := by simp [hz]
            obtain ⟨hv9, hx9⟩ := HKE.out hz
            have HV9 : Hid (VW (L', ys.map FE.f, X', l')) := Lib.hid (by rw [HYS.out]; exact hv9)
            have HX9 : Hid (x0 ∈ ys.map FE.f) := Lib.hid (by rw [HYS.out]; exact hx9)
            clear hz hv9 hx9
            go_wp2_with first
              | (refine wpList_load_v (by rfl) 27 (.tmp 8) rfl ⟨wr.heap.size, 0, none⟩ rfl (wv L' A9 c9 ys B9 d9 X' l') (S2.run_load_all V_w9.out Tryd.underlying27 rfl winSize) ?_)
              | (refine S2.wpList_store_all (by rfl) 27 (.tmp 3) (.tmp 57) rfl rfl w.heap.size rfl (wcs L' A9 c9 ys B9 d9 X' l') rfl 27 (wcs L A c xs A2 c2 X l) J_w9.out.t winSize rfl (ones rfl) ?_; intro wf hM hP; have MF := Lib.hid hM; have PF := Lib.hid hP; clear hM hP)
            go_roundg g
            case measure => omega
            case rel => exact ⟨k + 1, L', A9, c9, ys, B9, d9, X', l', by have := HK.out; omega, by go_num, ⟨MF.out, PF.out.other J_w9.out.r (by omega), PF.out.below J_w9.out.b (Nat.le_refl _), wok_putA N_w9.out PF.out HF0.out, HV9.out, HX9.out, HF0.out, HF1.out, fun g hg _ => HFG.out g hg⟩⟩
          · have qz : (z' == 0) = false := by simp [hz]
            clear hz
            go_wp2
            go_roundg g
            case measure => omega
            case rel => exact ⟨k + 1, L, A, c, xs, A2, c2, X, l, by have := HK.out; omega, by go_num, J_w9.out⟩
end Go.Proofs.YtomlideijhejfaaDoor
