/-
  IdentLate answers true, walked. Conditions: the pool reads as data.
-/
import Derived.Test.YtdjlggfipabciaaIdV
namespace Go.Proofs.Ytdjlggfipabciaa
open Go.RowKit

/-- where the search stands, i identifiers later at most -/
def LateI (first last : Int) (k : Nat) : Prop := ∃ D : Nat, D ≤ 33 * k ∧ last = elI first D
theorem LateI.start {first : Int} (h0 : 1 ≤ first) (h1 : first ≤ 65535) : LateI first first 0 := ⟨0, by omega, (el_zero h0 h1).symm⟩
theorem LateI.next {first last : Int} {k : Nat} {X : List Int} (h : LateI first last k) (hX : X.length < 32) : LateI first (tkI X last) (k + 1) := by
  obtain ⟨D, hD, rfl⟩ := h
  have hr := el_range first D
  obtain ⟨j, hj, e, _⟩ := tk_el (X := X) (L := elI first D) hX (by omega) hr.2
  exact ⟨D + (1 + j), by omega, by rw [e, el_el]⟩
theorem LateI.ne {first last : Int} {k : Nat} {X : List Int} (h : LateI first last k) (hX : X.length < 32) (hk : k ≤ 200) (h0 : 1 ≤ first) (h1 : first ≤ 65535) : tkI X last ≠ first := by
  obtain ⟨D, hD, rfl⟩ := h
  have hr := el_range first D
  obtain ⟨j, hj, e, _⟩ := tk_el (X := X) (L := elI first D) hX (by omega) hr.2
  rw [e, el_el]
  intro h
  have := el_inj (n := first) (a := D + (1 + j)) (b := 0) (by omega) (by omega) (by rw [h, el_zero h0 h1])
  omega
theorem LateI.range {first last : Int} {k : Nat} (h : LateI first last k) : 1 ≤ last ∧ last ≤ 65535 := by
  obtain ⟨D, _, rfl⟩ := h
  exact el_range _ _
theorem ck_last {X : List Int} {L M : Int} (h : ckI X L = 0) (h0 : 0 ≤ M) (h1 : M ≤ 65535) : ckI X M = 0 := ck_ok.2 ⟨(ck_ok.1 h).1, (ck_ok.1 h).2.1, h0, h1⟩

set_option maxRecDepth 20000 in
set_option maxHeartbeats 4000000 in
theorem identLate_bad (A : Option Addr) (c : Nat) (X : List Int) (L : Int) (y : UInt8) (w : World) (hsl : IL w w.heap.size A X) (hc : X.length ≤ c) (hX : X.length ≤ 9223372036854775807) (hbx : ∀ x ∈ X, -9223372036854775808 ≤ x ∧ x ≤ 9223372036854775807) (hv : ckI X L ≠ 0) :
    Calls Try.prog 8 #[pv A c X L, .int .u8 (y.toNat : Int)] w fun e w' => e = .returned (.bool true) ∧ Below w.heap.size w w' := by
  have HA := Lib.hid (fun w => awake13_any w)
  obtain ⟨w0, hw0⟩ : ∃ w0, w0 = w.alloc (.cells #[.slice A X.length c, .int .i64 L] 24) := ⟨_, rfl⟩
  have M0 : BK 24 w0 w.heap.size [.slice A X.length c, .int .i64 L] := by rw [hw0]; exact BK.new w _ _
  have hb0 : Below w.heap.size w w0 := by rw [hw0]; exact below_new w _
  have B_w0 := Lib.hid hb0
  have Mt_w0 := Lib.hid M0
  have Sx_w0 : Hid (IL w0 w0.heap.size A X) := Lib.hid (CL.step hsl hb0)
  have HW0 := Lib.hid hw0
  have C2 := Lib.hid (fun w h => rCheck_any A c X L w h hX)
  generalize hC : ckI X L = C at C2 hv
  have q0 : ((C : Int) != 0) = true := by simp [hv]
  clear hC hv
  have _u := And.intro hc (And.intro hX hbx)
  clear hw0 M0 hb0 hsl hc hX hbx _u
  go_enter Try.func8, Try.ntmps8
  go_upto_region 1 with fail
  rw [← HW0.out]
  clear HW0
  have dt0 := Mt_w0.out.cell 0 rfl
  have dt1 := Mt_w0.out.cell 1 rfl
  go_wp2_with fail
  refine (C2.out w0 Sx_w0.out).mono ?_
  rintro e w1 ⟨rfl, hb⟩
  have B_w1 : Hid (Below w.heap.size w w1) := Lib.hid (stepB B_w0.out hb)
  have Mt_w1 : Hid (BK 24 w1 (w.heap.size) [.slice A X.length c, .int .i64 L]) := Lib.hid (Mt_w0.out.step hb)
  have Sx_w1 : Hid (IL w1 w1.heap.size A X) := Lib.hid (CL.step Sx_w0.out hb)
  clear dt0 dt1
  clear B_w0 Mt_w0 Sx_w0
  clear hb
  go_wp2_with fail
  refine (HA.out w1).mono ?_
  rintro e w2 ⟨rfl, hb⟩
  have B_w2 : Hid (Below w.heap.size w w2) := Lib.hid (stepB B_w1.out hb)
  have Mt_w2 : Hid (BK 24 w2 (w.heap.size) [.slice A X.length c, .int .i64 L]) := Lib.hid (Mt_w1.out.step hb)
  have Sx_w2 : Hid (IL w2 w2.heap.size A X) := Lib.hid (CL.step Sx_w1.out hb)
  clear B_w1 Mt_w1 Sx_w1
  clear hb
  go_wp2_with fail
  go_ret
  exact ⟨rfl, B_w2.out⟩
set_option maxRecDepth 20000 in
set_option maxHeartbeats 4000000 in
theorem identLate_full (A : Option Addr) (c : Nat) (X : List Int) (L : Int) (y : UInt8) (w : World) (hsl : IL w w.heap.size A X) (hc : X.length ≤ c) (hX : X.length ≤ 9223372036854775807) (hbx : ∀ x ∈ X, -9223372036854775808 ≤ x ∧ x ≤ 9223372036854775807) (h32 : X.length = 32) (hv : ckI X L = 0) :
    Calls Try.prog 8 #[pv A c X L, .int .u8 (y.toNat : Int)] w fun e w' => e = .returned (.bool true) ∧ Below w.heap.size w w' := by
  have HA := Lib.hid (fun w => awake13_any w)
  obtain ⟨w0, hw0⟩ : ∃ w0, w0 = w.alloc (.cells #[.slice A X.length c, .int .i64 L] 24) := ⟨_, rfl⟩
  have M0 : BK 24 w0 w.heap.size [.slice A X.length c, .int .i64 L] := by rw [hw0]; exact BK.new w _ _
  have hb0 : Below w.heap.size w w0 := by rw [hw0]; exact below_new w _
  have B_w0 := Lib.hid hb0
  have Mt_w0 := Lib.hid M0
  have Sx_w0 : Hid (IL w0 w0.heap.size A X) := Lib.hid (CL.step hsl hb0)
  have HW0 := Lib.hid hw0
  have C2 := Lib.hid (fun w h => rCheck_any A c X L w h hX)
  have q32 : decide ((32 : Int) ≤ (X.length : Int)) = true := decide_eq_true (by omega)
  clear h32
  rw [hv] at C2
  clear hv
  have _u := And.intro hc (And.intro hX hbx)
  clear hw0 M0 hb0 hsl hc hX hbx _u
  go_enter Try.func8, Try.ntmps8
  go_upto_region 1 with fail
  rw [← HW0.out]
  clear HW0
  have dt0 := Mt_w0.out.cell 0 rfl
  have dt1 := Mt_w0.out.cell 1 rfl
  go_wp2_with fail
  refine (C2.out w0 Sx_w0.out).mono ?_
  rintro e w1 ⟨rfl, hb⟩
  have B_w1 : Hid (Below w.heap.size w w1) := Lib.hid (stepB B_w0.out hb)
  have Mt_w1 : Hid (BK 24 w1 (w.heap.size) [.slice A X.length c, .int .i64 L]) := Lib.hid (Mt_w0.out.step hb)
  have Sx_w1 : Hid (IL w1 w1.heap.size A X) := Lib.hid (CL.step Sx_w0.out hb)
  clear dt0 dt1
  clear B_w0 Mt_w0 Sx_w0
  clear hb
  have dt0 := Mt_w1.out.cell 0 rfl
  have dt1 := Mt_w1.out.cell 1 rfl
  go_wp2_with fail
  refine (HA.out w1).mono ?_
  rintro e w2 ⟨rfl, hb⟩
  have B_w2 : Hid (Below w.heap.size w w2) := Lib.hid (stepB B_w1.out hb)
  have Mt_w2 : Hid (BK 24 w2 (w.heap.size) [.slice A X.length c, .int .i64 L]) := Lib.hid (Mt_w1.out.step hb)
  have Sx_w2 : Hid (IL w2 w2.heap.size A X) := Lib.hid (CL.step Sx_w1.out hb)
  clear dt0 dt1
  clear B_w1 Mt_w1 Sx_w1
  clear hb
  go_wp2_with fail
  go_ret
  exact ⟨rfl, B_w2.out⟩
set_option maxRecDepth 20000 in
set_option maxHeartbeats 4000000 in
theorem identLate_part (A : Option Addr) (c : Nat) (X : List Int) (L : Int) (y : UInt8) (w : World) (hsl : IL w w.heap.size A X) (hc : X.length ≤ c) (hX : X.length ≤ 9223372036854775807) (hbx : ∀ x ∈ X, -9223372036854775808 ≤ x ∧ x ≤ 9223372036854775807) (h32 : X.length < 32) (hv : ckI X L = 0) :
    Calls Try.prog 8 #[pv A c X L, .int .u8 (y.toNat : Int)] w fun e w' => e = .returned (.bool true) ∧ Below w.heap.size w w' := by
  have HA := Lib.hid (fun w => awake13_any w)
  obtain ⟨w0, hw0⟩ : ∃ w0, w0 = w.alloc (.cells #[.slice A X.length c, .int .i64 L] 24) := ⟨_, rfl⟩
  have M0 : BK 24 w0 w.heap.size [.slice A X.length c, .int .i64 L] := by rw [hw0]; exact BK.new w _ _
  have hb0 : Below w.heap.size w w0 := by rw [hw0]; exact below_new w _
  have B_w0 := Lib.hid hb0
  have Mt_w0 := Lib.hid M0
  have Sx_w0 : Hid (IL w0 w0.heap.size A X) := Lib.hid (CL.step hsl hb0)
  have HW0 := Lib.hid hw0
  have C2 := Lib.hid (fun w h => rCheck_any A c X L w h hX)
  have q32 : decide ((32 : Int) ≤ (X.length : Int)) = false := decide_eq_false (by omega)
  have C3 := Lib.hid (fun w h => iTake_any A c X L w h hc hv)
  rw [tkR_part h32] at C3
  obtain ⟨g1, g2, g3, g4⟩ := tk_ok hv h32
  have C9 := Lib.hid (fun A1 c1 w h hc1 => iFree_any A1 c1 (insI X (tkI X L)) (tkI X L) (tkI X L) w h hc1 g4 (by omega) (by omega))
  rw [del_ins g1, decide_eq_true ((ins_mem X (tkI X L) (tkI X L)).2 (.inl rfl))] at C9
  have C4 := Lib.hid (fun M A1 c1 w h hc1 (hM : 1 ≤ M ∧ M ≤ 65535) => iTake_any A1 c1 X M w h hc1 (ck_last hv (by omega) hM.2))
  have C5 : Hid (∀ M A1 c1 w, IL w w.heap.size A1 (insI X (tkI X M)) → (insI X (tkI X M)).length ≤ c1 → (1 ≤ M ∧ M ≤ 65535) → Calls Try.prog 15 #[pv A1 c1 (insI X (tkI X M)) (tkI X M), .int .i64 (tkI X M)] w (RetPB A1 (insI X (tkI X M)) X (tkI X M) true w)) := Lib.hid (fun M A1 c1 w h hc1 hM => by
    obtain ⟨k1, k2, k3, k4⟩ := tk_ok (ck_last hv (by omega) hM.2 : ckI X M = 0) h32
    have := iFree_any A1 c1 (insI X (tkI X M)) (tkI X M) (tkI X M) w h hc1 k4 (by omega) (by omega)
    rw [del_ins k1, decide_eq_true ((ins_mem X (tkI X M) (tkI X M)).2 (.inl rfl))] at this
    exact this)
  have HF := Lib.hid (And.intro g2 g3)
  have H32 := Lib.hid h32
  have HT := Lib.hid (fun (M : Int) => tkR_part (L := M) h32)
  have Ox_t : Hid (Off w.heap.size A X) := Lib.hid (Off.lt hsl (Nat.le_refl _))
  have Zt : Hid (w.heap.size ≤ w.heap.size) := Lib.hid (Nat.le_refl _)
  generalize insI X (tkI X L) = Y at C3 C9 g4
  generalize tkI X L = n at C3 C9 g1 g2 g3 g4 HF
  obtain ⟨N, hN⟩ : ∃ N : Nat, (y.toNat : Int) % 201 = N := ⟨y.toNat % 201, by omega⟩
  have hN2 : (N : Int) < 201 := by omega
  have hy0 := y.toNat_lt
  have hy1 : wrap64 (y.toNat : Int) = (y.toNat : Int) := wrap64_id _ (by omega) (by omega)
  have hy2 : Int.tmod (y.toNat : Int) 201 = (N : Int) := by rw [Int.tmod_eq_emod_of_nonneg (by omega)]; exact hN
  have HN := Lib.hid hN2
  clear g1 g2 g3 g4 h32 hN2 hN hy0
  rw [hv] at C2
  clear hv
  have _u := And.intro hc (And.intro hX hbx)
  clear hw0 M0 hb0 hsl hc hX hbx _u
  go_enter Try.func8, Try.ntmps8
  go_upto_region 1 with fail
  rw [← HW0.out]
  clear HW0
  have dt0 := Mt_w0.out.cell 0 rfl
  have dt1 := Mt_w0.out.cell 1 rfl
  go_wp2_with fail
  refine (C2.out w0 Sx_w0.out).mono ?_
  rintro e w1 ⟨rfl, hb⟩
  have B_w1 : Hid (Below w.heap.size w w1) := Lib.hid (stepB B_w0.out hb)
  have Mt_w1 : Hid (BK 24 w1 (w.heap.size) [.slice A X.length c, .int .i64 L]) := Lib.hid (Mt_w0.out.step hb)
  have Sx_w1 : Hid (IL w1 w1.heap.size A X) := Lib.hid (CL.step Sx_w0.out hb)
  clear dt0 dt1
  clear B_w0 Mt_w0 Sx_w0
  clear hb
  have dt0 := Mt_w1.out.cell 0 rfl
  have dt1 := Mt_w1.out.cell 1 rfl
  go_wp2_with fail
  have LW1 : Hid (w.heap.size < w1.heap.size) := Lib.hid Mt_w1.out.lt
  refine (C3.out w1 Sx_w1.out).mono ?_
  rintro e w2 ⟨A1, c1, rfl, hc1, hs1, hf1, hb⟩
  have B_w2 : Hid (Below w.heap.size w w2) := Lib.hid (stepB B_w1.out hb)
  have Mt_w2 : Hid (BK 24 w2 (w.heap.size) [.slice A X.length c, .int .i64 L]) := Lib.hid (Mt_w1.out.step hb)
  have Sx_w2 : Hid (IL w2 w2.heap.size A X) := Lib.hid (CL.step Sx_w1.out hb)
  clear dt0 dt1
  clear B_w1 Mt_w1 Sx_w1
  clear hb
  have Sa_w2 := Lib.hid (hs1)
  have HC1 := Lib.hid hc1
  have Oa_t : Hid (Off w.heap.size A1 Y) := Lib.hid (Ox_t.out.fr hf1 LW1.out)
  clear hs1 hc1 hf1
  have dt0 := Mt_w2.out.cell 0 rfl
  have dt1 := Mt_w2.out.cell 1 rfl
  go_wp2_with first | (refine wpList_store_all (by rfl) 24 (.tmp 2) (.tmp 26) rfl rfl (w.heap.size) rfl [.slice A1 Y.length c1, .int .i64 n] rfl 24 [.slice A X.length c, .int .i64 L] Mt_w2.out infoP2 rfl (one2 _ _ _ _) ?_; intro w3 hM hP; have Mt_w3 : Hid (BK 24 w3 (w.heap.size) [.slice A1 Y.length c1, .int .i64 n]) := Lib.hid hM; have B_w3 : Hid (Below w.heap.size w w3) := Lib.hid (hP.below B_w2.out Zt.out); have Sx_w3 : Hid (IL w3 w3.heap.size A X) := Lib.hid (IL.put Sx_w2.out hP Ox_t.out); have Sa_w3 : Hid (IL w3 w3.heap.size A1 Y) := Lib.hid (IL.put Sa_w2.out hP Oa_t.out); clear B_w2 Mt_w2 Sx_w2 Sa_w2 hM hP dt0 dt1; have dt0 := Mt_w3.out.cell 0 rfl; have dt1 := Mt_w3.out.cell 1 rfl)
  have LW2 : Hid (w.heap.size < w3.heap.size) := Lib.hid Mt_w3.out.lt
  refine (C9.out A1 c1 w3 Sa_w3.out HC1.out).mono ?_
  rintro e w4 ⟨A2, c2, rfl, hc2, hs2, hf2, hb⟩
  have B_w4 : Hid (Below w.heap.size w w4) := Lib.hid (stepB B_w3.out hb)
  have Mt_w4 : Hid (BK 24 w4 (w.heap.size) [.slice A1 Y.length c1, .int .i64 n]) := Lib.hid (Mt_w3.out.step hb)
  have Sx_w4 : Hid (IL w4 w4.heap.size A X) := Lib.hid (CL.step Sx_w3.out hb)
  have Sa_w4 : Hid (IL w4 w4.heap.size A1 Y) := Lib.hid (CL.step Sa_w3.out hb)
  clear dt0 dt1
  clear B_w3 Mt_w3 Sx_w3 Sa_w3
  clear hb
  have Sb_w4 := Lib.hid (hs2)
  have HC2 := Lib.hid hc2
  have Ob_t : Hid (Off w.heap.size A2 X) := Lib.hid (Oa_t.out.fr hf2 LW2.out)
  clear hs2 hc2 hf2
  clear Sx_w4
  clear Sa_w4
  go_wp2_with first | (refine wpList_store_all (by rfl) 24 (.tmp 2) (.tmp 34) rfl rfl (w.heap.size) rfl [.slice A2 X.length c2, .int .i64 n] rfl 24 [.slice A1 Y.length c1, .int .i64 n] Mt_w4.out infoP2 rfl (one2 _ _ _ _) ?_; intro w5 hM hP; have Mt_w5 : Hid (BK 24 w5 (w.heap.size) [.slice A2 X.length c2, .int .i64 n]) := Lib.hid hM; have B_w5 : Hid (Below w.heap.size w w5) := Lib.hid (hP.below B_w4.out Zt.out); have Sb_w5 : Hid (IL w5 w5.heap.size A2 X) := Lib.hid (IL.put Sb_w4.out hP Ob_t.out); clear B_w4 Mt_w4 Sb_w4 hM hP)
  clear C2 C3 C9 Ox_t Oa_t HC1 LW1 LW2
  go_loopg [8] N (fun g v wr => ∃ (k : Nat) (A3 : Option Addr) (c3 : Nat) (M : Int), k + g = N ∧ v = .int .i64 k ∧ LateI n M k ∧ BK 24 wr w.heap.size [.slice A3 X.length c3, .int .i64 M] ∧ IL wr wr.heap.size A3 X ∧ X.length ≤ c3 ∧ Off w.heap.size A3 X ∧ Below w.heap.size w wr)
  case atStart => exact ⟨0, A2, c2, n, by omega, rfl, LateI.start HF.out.1 HF.out.2, Mt_w5.out, Sb_w5.out, HC2.out, Ob_t.out, B_w5.out⟩
  case round =>
    clear Mt_w5 Sb_w5 B_w5 HC2 Ob_t
    obtain ⟨k, A3, c3, M, hkg, rfl, hlate, hM, hS, hc3, hO, hB⟩ := hrel
    have Mt_wr := Lib.hid hM
    have Sp_wr := Lib.hid hS
    have HC3 := Lib.hid hc3
    have Op_t := Lib.hid hO
    have B_wr := Lib.hid hB
    have HL := Lib.hid hlate
    have HG := Lib.hid hkg
    clear hM hS hc3 hO hB hlate
    cases gk with
    | zero =>
      obtain rfl : k = N := by omega
      clear hkg
      go_wp2_with fail
      refine (HA.out wr).mono ?_
      rintro e w1 ⟨rfl, hb⟩
      have B_w1 : Hid (Below w.heap.size w w1) := Lib.hid (stepB B_wr.out hb)
      have Mt_w1 : Hid (BK 24 w1 (w.heap.size) [.slice A3 X.length c3, .int .i64 M]) := Lib.hid (Mt_wr.out.step hb)
      have Sp_w1 : Hid (IL w1 w1.heap.size A3 X) := Lib.hid (CL.step Sp_wr.out hb)
      clear B_wr Mt_wr Sp_wr
      clear hb
      go_wp2_with fail
      go_ret
      exact ⟨rfl, B_w1.out⟩
    | succ g =>
      have hlt : k < N := by omega
      have e3 : decide ((k : Int) < (N : Int)) = true := decide_eq_true (by omega)
      have e3 : decide (k < N) = true := decide_eq_true (by omega)
      have hk2 : k ≤ 200 := by have := HN.out; omega
      have c4 := fun w h => C4.out M A3 c3 w h HC3.out (LateI.range HL.out)
      rw [HT.out M] at c4
      have C4x := Lib.hid c4
      have c5 := fun A1 c1 w h hc1 => C5.out M A1 c1 w h hc1 (LateI.range HL.out)
      have C5x := Lib.hid c5
      have hne := HL.out.ne H32.out hk2 HF.out.1 HF.out.2
      have hnx := HL.out.next H32.out
      clear c4 c5 hk2
      generalize insI X (tkI X M) = Y1 at C4x C5x
      generalize tkI X M = m at C4x C5x hne hnx
      have qne : (m == n) = false := by simp [hne]
      have HNX := Lib.hid hnx
      clear hne hnx hkg
      have dt0 := Mt_wr.out.cell 0 rfl
      have dt1 := Mt_wr.out.cell 1 rfl
      go_wp2_with fail
      have LW3 : Hid (w.heap.size < wr.heap.size) := Lib.hid Mt_wr.out.lt
      refine (C4x.out wr Sp_wr.out).mono ?_
      rintro e w1 ⟨A4, c4, rfl, hc4, hs4, hf4, hb⟩
      have B_w1 : Hid (Below w.heap.size w w1) := Lib.hid (stepB B_wr.out hb)
      have Mt_w1 : Hid (BK 24 w1 (w.heap.size) [.slice A3 X.length c3, .int .i64 M]) := Lib.hid (Mt_wr.out.step hb)
      have Sp_w1 : Hid (IL w1 w1.heap.size A3 X) := Lib.hid (CL.step Sp_wr.out hb)
      clear dt0 dt1
      clear B_wr Mt_wr Sp_wr
      clear hb
      have Sq_w1 := Lib.hid (hs4)
      have HC4 := Lib.hid hc4
      have Oq_t : Hid (Off w.heap.size A4 Y1) := Lib.hid (Op_t.out.fr hf4 LW3.out)
      clear hs4 hc4 hf4
      go_wp2_with first | (refine wpList_store_all (by rfl) 24 (.tmp 10) (.tmp 49) rfl rfl (w1.heap.size) rfl [.slice A4 Y1.length c4, .int .i64 m] rfl 24 [.slice none 0 0, .int .i64 0] (BK.new w1 _ _) infoP2 rfl (one2 _ _ _ _) ?_; intro w2 hM hP; have Mq_w2 : Hid (BK 24 w2 (w1.heap.size) [.slice A4 Y1.length c4, .int .i64 m]) := Lib.hid hM; have Lt_q : Hid (w.heap.size < w1.heap.size) := Lib.hid Mt_w1.out.lt; have Zq : Hid (w.heap.size ≤ w1.heap.size) := Lib.hid B_w1.out.size; have B_w2 : Hid (Below w.heap.size w w2) := Lib.hid (hP.below (stepB B_w1.out (below_new w1 _)) B_w1.out.size); have Mt_w2 : Hid (BK 24 w2 (w.heap.size) [.slice A3 X.length c3, .int .i64 M]) := Lib.hid (hP.other (BK.alloc Mt_w1.out _) (Nat.ne_of_lt Mt_w1.out.lt)); have Sp_w2 : Hid (IL w2 w2.heap.size A3 X) := Lib.hid (CL.step Sp_w1.out (hP.below (below_new w1 _) (Nat.le_refl _))); have Sq_w2 : Hid (IL w2 w2.heap.size A4 Y1) := Lib.hid (CL.step Sq_w1.out (hP.below (below_new w1 _) (Nat.le_refl _))); clear B_w1 Mt_w1 Sp_w1 Sq_w1 hM hP; have dq0 := Mq_w2.out.cell 0 rfl; have dq1 := Mq_w2.out.cell 1 rfl)
      have LW4 : Hid (w.heap.size < w2.heap.size) := Lib.hid Mt_w2.out.lt
      refine (C5x.out A4 c4 w2 Sq_w2.out HC4.out).mono ?_
      rintro e w3 ⟨A5, c5, rfl, hc5, hs5, hf5, hb⟩
      have B_w3 : Hid (Below w.heap.size w w3) := Lib.hid (stepB B_w2.out hb)
      have Mt_w3 : Hid (BK 24 w3 (w.heap.size) [.slice A3 X.length c3, .int .i64 M]) := Lib.hid (Mt_w2.out.step hb)
      have Mq_w3 : Hid (BK 24 w3 (w1.heap.size) [.slice A4 Y1.length c4, .int .i64 m]) := Lib.hid (Mq_w2.out.step hb)
      have Sp_w3 : Hid (IL w3 w3.heap.size A3 X) := Lib.hid (CL.step Sp_w2.out hb)
      have Sq_w3 : Hid (IL w3 w3.heap.size A4 Y1) := Lib.hid (CL.step Sq_w2.out hb)
      clear dq0 dq1
      clear B_w2 Mt_w2 Mq_w2 Sp_w2 Sq_w2
      clear hb
      have Sr_w3 := Lib.hid (hs5)
      have HC5 := Lib.hid hc5
      have Or_t : Hid (Off w.heap.size A5 X) := Lib.hid (Oq_t.out.fr hf5 LW4.out)
      clear hs5 hc5 hf5
      clear Sp_w3
      clear Sq_w3
      have Zt : Hid (w.heap.size ≤ w.heap.size) := Lib.hid (Nat.le_refl _)
      go_wp2_with first | (refine wpList_store_all (by rfl) 24 (.tmp 2) (.tmp 62) rfl rfl (w.heap.size) rfl [.slice A5 X.length c5, .int .i64 m] rfl 24 [.slice A3 X.length c3, .int .i64 M] Mt_w3.out infoP2 rfl (one2 _ _ _ _) ?_; intro w4 hM hP; have Mt_w4 : Hid (BK 24 w4 (w.heap.size) [.slice A5 X.length c5, .int .i64 m]) := Lib.hid hM; have B_w4 : Hid (Below w.heap.size w w4) := Lib.hid (hP.below B_w3.out Zt.out); have Mq_w4 : Hid (BK 24 w4 (w1.heap.size) [.slice A4 Y1.length c4, .int .i64 m]) := Lib.hid (hP.other Mq_w3.out (Nat.ne_of_gt Lt_q.out)); have Sr_w4 : Hid (IL w4 w4.heap.size A5 X) := Lib.hid (IL.put Sr_w3.out hP Or_t.out); clear B_w3 Mt_w3 Mq_w3 Sr_w3 hM hP)
      go_roundg g
      case measure => omega
      case rel => exact ⟨k + 1, A5, c5, m, by have := HG.out; omega, by first | rfl | exact nxt k (by have := HN.out; have := HG.out; omega), HNX.out, Mt_w4.out, Sr_w4.out, HC5.out, Or_t.out, B_w4.out⟩
theorem identLate_walk (A : Option Addr) (c : Nat) (X : List Int) (L : Int) (y : UInt8) (w : World) (hsl : IL w w.heap.size A X) (hc : X.length ≤ c) (hX : X.length ≤ 9223372036854775807) (hbx : ∀ x ∈ X, -9223372036854775808 ≤ x ∧ x ≤ 9223372036854775807) :
    Calls Try.prog 8 #[pv A c X L, .int .u8 (y.toNat : Int)] w fun e w' => e = .returned (.bool true) ∧ Below w.heap.size w w' := by
  by_cases hv : ckI X L = 0
  · by_cases h32 : X.length = 32
    · exact identLate_full A c X L y w hsl hc hX hbx h32 hv
    · exact identLate_part A c X L y w hsl hc hX hbx (by have := (ck_ok.1 hv).1; omega) hv
  · exact identLate_bad A c X L y w hsl hc hX hbx hv
end Go.Proofs.Ytdjlggfipabciaa
