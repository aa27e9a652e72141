/-
  IdentRuns answers true, walked. Conditions: the list reads as data.
-/
import Derived.Test.YtdjlggfipabciaaIdL
namespace Go.Proofs.Ytdjlggfipabciaa
open Go.RowKit

/-- the index that a negative number names -/
def ixI (v : Int) (n : Nat) : Nat := ((v % 18446744073709551616) % (n : Int)).toNat
theorem ixI_lt {v : Int} {n : Nat} (h : 0 < n) : ixI v n < n := by
  unfold ixI
  have := Int.emod_nonneg (v % 18446744073709551616) (by omega : (n : Int) ≠ 0)
  have := Int.emod_lt_of_pos (v % 18446744073709551616) (by omega : (0 : Int) < (n : Int))
  omega
theorem ck_mem {X : List Int} {L x : Int} (h : ckI X L = 0) (hx : x ∈ X) : 1 ≤ x ∧ x ≤ 65535 := by
  have := up_mem (ck_ok.1 h).2.1 x hx
  omega
theorem iCheck_ok (A : Option Addr) (c : Nat) (X : List Int) (L : Int) (w : World) (hsl : IL w w.heap.size A X) (hc : X.length ≤ c) (hv : ckI X L = 0) :
    Calls Try.prog 10 #[pv A c X L] w fun e w' => e = .returned (.int .i64 0) ∧ Below w.heap.size w w' := by
  have := iCheck_any A c X L w hsl hc (by have := (ck_ok.1 hv).1; omega) (fun x hx => by have := ck_mem hv hx; omega)
  rw [hv] at this
  exact this
theorem tkR_ok {X : List Int} {L : Int} (h : ckI X L = 0) : (tkR X L).2.1.length ≤ 1000000 := tkR_len h

/-- what holds of the two pools at each round -/
structure RunI (w : World) (P Q : Nat) (X : List Int) (L : Int) (A1 : Option Addr) (c1 : Nat) (A2 : Option Addr) (c2 : Nat) (wr : World) : Prop where
  ok : ckI X L = 0
  p : BK 24 wr P [.slice A1 X.length c1, .int .i64 L]
  q : BK 24 wr Q [.slice A2 X.length c2, .int .i64 L]
  s1 : IL wr wr.heap.size A1 X
  s2 : IL wr wr.heap.size A2 X
  h1 : X.length ≤ c1
  h2 : X.length ≤ c2
  o1p : Off P A1 X
  o1q : Off Q A1 X
  o2p : Off P A2 X
  o2q : Off Q A2 X
  b : Below w.heap.size w wr

set_option maxRecDepth 20000 in
set_option maxHeartbeats 16000000 in
theorem identRuns_walk (last : Int) (Ao : Option Addr) (co : Nat) (Xo : List Int) (w : World) (_hl1 : -9223372036854775808 ≤ last) (_hl2 : last ≤ 9223372036854775807) (hsl : IL w w.heap.size Ao Xo) (_hc : Xo.length ≤ co) (hX : Xo.length ≤ 9223372036854775807) (hbx : ∀ x ∈ Xo, -9223372036854775808 ≤ x ∧ x ≤ 9223372036854775807) :
    Calls Try.prog 7 #[.int .i64 last, .slice Ao Xo.length co] w fun e w' => e = .returned (.bool true) ∧ Below w.heap.size w w' := by
  have HA := Lib.hid (fun w => awake13_any w)
  have C1 := Lib.hid (fun w => rCheck_any none 0 [] last w (CL.nil _ _ _) (by simp))
  have HBX := Lib.hid hbx
  have So_w := Lib.hid hsl
  have hsl0 := Lib.hid hsl
  obtain ⟨C, hC⟩ : ∃ C, ckI [] last = C := ⟨_, rfl⟩
  rw [hC] at C1
  have HC := Lib.hid hC
  clear hsl hbx hC
  by_cases hv : C = 0
  · subst hv
    go_enter Try.func7, Try.ntmps7
    go_wp2_with first | (refine wpList_store_all (by rfl) 24 (.tmp 5) (.tmp 20) rfl rfl (w.heap.size) rfl [.slice none 0 0, .int .i64 last] rfl 24 [.slice none 0 0, .int .i64 0] (BK.new w _ _) infoP2 rfl (one2 _ _ _ _) ?_; intro w1 hM hP; have Mp_w1 : Hid (BK 24 w1 (w.heap.size) [.slice none 0 0, .int .i64 last]) := Lib.hid hM; have Zp : Hid (w.heap.size ≤ w.heap.size) := Lib.hid (Nat.le_refl _); have B_w1 : Hid (Below w.heap.size w w1) := Lib.hid (hP.below (below_new w _) (Nat.le_refl _)); have So_w1 : Hid (IL w1 w1.heap.size Ao Xo) := Lib.hid (CL.step So_w.out (hP.below (below_new w _) (Nat.le_refl _))); clear So_w hM hP; have dp0 := Mp_w1.out.cell 0 rfl; have dp1 := Mp_w1.out.cell 1 rfl)
    refine (C1.out w1).mono ?_
    rintro e w2 ⟨rfl, hb⟩
    have B_w2 : Hid (Below w.heap.size w w2) := Lib.hid (stepB B_w1.out hb)
    have Mp_w2 : Hid (BK 24 w2 (w.heap.size) [.slice none 0 0, .int .i64 last]) := Lib.hid (Mp_w1.out.step hb)
    have So_w2 : Hid (IL w2 w2.heap.size Ao Xo) := Lib.hid (CL.step So_w1.out hb)
    clear dp0 dp1
    clear B_w1 Mp_w1 So_w1
    clear hb
    have dp0 := Mp_w2.out.cell 0 rfl
    have dp1 := Mp_w2.out.cell 1 rfl
    go_wp2_with first | (refine wpList_store_all (by rfl) 24 (.tmp 6) (.tmp 25) rfl rfl (w2.heap.size) rfl [.slice none 0 0, .int .i64 last] rfl 24 [.slice none 0 0, .int .i64 0] (BK.new w2 _ _) infoP2 rfl (one2 _ _ _ _) ?_; intro w3 hM hP; have Mq_w3 : Hid (BK 24 w3 (w2.heap.size) [.slice none 0 0, .int .i64 last]) := Lib.hid hM; have Lp_q : Hid (w.heap.size < w2.heap.size) := Lib.hid Mp_w2.out.lt; have Zq : Hid (w.heap.size ≤ w2.heap.size) := Lib.hid B_w2.out.size; have B_w3 : Hid (Below w.heap.size w w3) := Lib.hid (hP.below (stepB B_w2.out (below_new w2 _)) B_w2.out.size); have Mp_w3 : Hid (BK 24 w3 (w.heap.size) [.slice none 0 0, .int .i64 last]) := Lib.hid (hP.other (BK.alloc Mp_w2.out _) (Nat.ne_of_lt Mp_w2.out.lt)); have So_w3 : Hid (IL w3 w3.heap.size Ao Xo) := Lib.hid (CL.step So_w2.out (hP.below (below_new w2 _) (Nat.le_refl _))); clear B_w2 Mp_w2 So_w2 hM hP dp0 dp1)
    have HRun : Hid (RunI w (w.heap.size) (w2.heap.size) [] last none 0 none 0 w3) := Lib.hid ⟨HC.out, Mp_w3.out, Mq_w3.out, CL.nil _ _ _, CL.nil _ _ _, Nat.le_refl _, Nat.le_refl _, fun b o e => by simp at e, fun b o e => by simp at e, fun b o e => by simp at e, fun b o e => by simp at e, B_w3.out⟩
    clear Mp_w3 Mq_w3 B_w3 C1 HC
    have HSo : Hid (∀ wr, Below w.heap.size w wr → IL wr wr.heap.size Ao Xo) := Lib.hid (fun wr hb => CL.step hsl0.out hb)
    clear So_w3
    have Oo_q : Hid (Off (w2.heap.size) Ao Xo) := Lib.hid (Off.lt hsl0.out Zq.out)
    generalize hQ : w2.heap.size = Q at *
    clear hQ hsl0
    go_loopg [7] Xo.length (fun g v wr => ∃ (k : Nat) (X : List Int) (L : Int) (A1 : Option Addr) (c1 : Nat) (A2 : Option Addr) (c2 : Nat), k + g = Xo.length ∧ v = .int .i64 k ∧ RunI w (w.heap.size) Q X L A1 c1 A2 c2 wr)
    case atStart => exact ⟨0, [], last, none, 0, none, 0, by omega, rfl, HRun.out⟩
    case round =>
      clear HRun
      obtain ⟨k, X, L, A1, c1, A2, c2, hkg, rfl, hrun⟩ := hrel
      have Mp_wr := Lib.hid hrun.p
      have Mq_wr := Lib.hid hrun.q
      have Sa_wr := Lib.hid hrun.s1
      have Sb_wr := Lib.hid hrun.s2
      have B_wr := Lib.hid hrun.b
      have HC1 := Lib.hid hrun.h1
      have HC2 := Lib.hid hrun.h2
      have Oa_p := Lib.hid hrun.o1p
      have Oa_q := Lib.hid hrun.o1q
      have Ob_p := Lib.hid hrun.o2p
      have Ob_q := Lib.hid hrun.o2q
      have HV := Lib.hid hrun.ok
      have So := HSo.out wr hrun.b
      have HG := Lib.hid hkg
      clear hrun
      cases gk with
      | zero =>
        obtain rfl : k = Xo.length := by omega
        have e3 : decide ((Xo.length : Int) < (Xo.length : Int)) = false := decide_eq_false (by omega)
        clear hkg So
        go_wp2_with fail
        refine (HA.out wr).mono ?_
        rintro e w1 ⟨rfl, hb⟩
        have B_w1 : Hid (Below w.heap.size w w1) := Lib.hid (stepB B_wr.out hb)
        have Mp_w1 : Hid (BK 24 w1 (w.heap.size) [.slice A1 X.length c1, .int .i64 L]) := Lib.hid (Mp_wr.out.step hb)
        have Mq_w1 : Hid (BK 24 w1 (Q) [.slice A2 X.length c2, .int .i64 L]) := Lib.hid (Mq_wr.out.step hb)
        have Sa_w1 : Hid (IL w1 w1.heap.size A1 X) := Lib.hid (CL.step Sa_wr.out hb)
        have Sb_w1 : Hid (IL w1 w1.heap.size A2 X) := Lib.hid (CL.step Sb_wr.out hb)
        clear B_wr Mp_wr Mq_wr Sa_wr Sb_wr
        clear hb
        go_wp2_with fail
        go_ret
        exact ⟨rfl, B_w1.out⟩
      | succ g =>
        have hlt : k < Xo.length := by omega
        have e3 : decide ((k : Int) < (Xo.length : Int)) = true := decide_eq_true (by omega)
        by_cases h80 : k < 80
        · have q80 : decide ((k : Int) < 80) = true := decide_eq_true (by omega)
          have q80n : decide (k < 80) = true := decide_eq_true (by omega)
          obtain ⟨x, hx⟩ : ∃ x, Xo[k]? = some x := ⟨_, List.getElem?_eq_getElem hlt⟩
          obtain ⟨b, o, hA, hbB, kv⟩ := IL.at_ So hx
          subst hA
          have j1 : (0 : Int) ≤ (k : Int) := by omega
          have j2 : (k : Int) < (Xo.length : Int) := by omega
          have hxr := HBX.out x (List.mem_of_getElem? hx)
          have HK := Lib.hid h80
          clear hx hkg So hlt h80 hbB
          by_cases hx0 : x = 0
          · have hb0 : (x == 0) = true := by simp [hx0]
            clear hx0 hxr
            by_cases h32 : X.length = 32
            · have c3 := fun w h => iTake_any A1 c1 X L w h HC1.out HV.out
              have c4 := fun w h => rTake_any A2 c2 X L w h HC2.out (by have := (ck_ok.1 HV.out).1; omega) (ck_ok.1 HV.out).2.2.1 (ck_ok.1 HV.out).2.2.2
              rw [tkR_full h32] at c3 c4
              have C3 := Lib.hid c3
              have C4 := Lib.hid c4
              clear c3 c4 h32
              have dp0 := Mp_wr.out.cell 0 rfl
              have dp1 := Mp_wr.out.cell 1 rfl
              go_wp2_with fail
              refine (C3.out wr Sa_wr.out).mono ?_
              rintro e w1 ⟨A3, c3, rfl, _, _, _, hb⟩
              have B_w1 : Hid (Below w.heap.size w w1) := Lib.hid (stepB B_wr.out hb)
              have Mp_w1 : Hid (BK 24 w1 (w.heap.size) [.slice A1 X.length c1, .int .i64 L]) := Lib.hid (Mp_wr.out.step hb)
              have Mq_w1 : Hid (BK 24 w1 (Q) [.slice A2 X.length c2, .int .i64 L]) := Lib.hid (Mq_wr.out.step hb)
              have Sa_w1 : Hid (IL w1 w1.heap.size A1 X) := Lib.hid (CL.step Sa_wr.out hb)
              have Sb_w1 : Hid (IL w1 w1.heap.size A2 X) := Lib.hid (CL.step Sb_wr.out hb)
              clear dp0 dp1
              clear B_wr Mp_wr Mq_wr Sa_wr Sb_wr
              clear hb
              clear kv
              have dq0 := Mq_w1.out.cell 0 rfl
              have dq1 := Mq_w1.out.cell 1 rfl
              go_wp2_with first | (refine wpList_store_all (by rfl) 24 (.tmp 9) (.tmp 45) rfl rfl (w1.heap.size) rfl [.slice A3 0 c3, .int .i64 0] rfl 24 [.slice none 0 0, .int .i64 0] (BK.new w1 _ _) infoP2 rfl (one2 _ _ _ _) ?_; intro w2 hM hP; have Mn_w2 : Hid (BK 24 w2 (w1.heap.size) [.slice A3 0 c3, .int .i64 0]) := Lib.hid hM; have Lp_n : Hid (w.heap.size < w1.heap.size) := Lib.hid Mp_w1.out.lt; have Lq_n : Hid (Q < w1.heap.size) := Lib.hid Mq_w1.out.lt; have Zn : Hid (w.heap.size ≤ w1.heap.size) := Lib.hid B_w1.out.size; have B_w2 : Hid (Below w.heap.size w w2) := Lib.hid (hP.below (stepB B_w1.out (below_new w1 _)) B_w1.out.size); have Mp_w2 : Hid (BK 24 w2 (w.heap.size) [.slice A1 X.length c1, .int .i64 L]) := Lib.hid (hP.other (BK.alloc Mp_w1.out _) (Nat.ne_of_lt Mp_w1.out.lt)); have Mq_w2 : Hid (BK 24 w2 (Q) [.slice A2 X.length c2, .int .i64 L]) := Lib.hid (hP.other (BK.alloc Mq_w1.out _) (Nat.ne_of_lt Mq_w1.out.lt)); have Sa_w2 : Hid (IL w2 w2.heap.size A1 X) := Lib.hid (CL.step Sa_w1.out (hP.below (below_new w1 _) (Nat.le_refl _))); have Sb_w2 : Hid (IL w2 w2.heap.size A2 X) := Lib.hid (CL.step Sb_w1.out (hP.below (below_new w1 _) (Nat.le_refl _))); clear B_w1 Mp_w1 Mq_w1 Sa_w1 Sb_w1 hM hP dq0 dq1; have dq0 := Mq_w2.out.cell 0 rfl; have dq1 := Mq_w2.out.cell 1 rfl)
              refine (C4.out w2 Sb_w2.out).mono ?_
              rintro e w3 ⟨A4, c4, rfl, _, _, _, hb⟩
              have B_w3 : Hid (Below w.heap.size w w3) := Lib.hid (stepB B_w2.out hb)
              have Mp_w3 : Hid (BK 24 w3 (w.heap.size) [.slice A1 X.length c1, .int .i64 L]) := Lib.hid (Mp_w2.out.step hb)
              have Mq_w3 : Hid (BK 24 w3 (Q) [.slice A2 X.length c2, .int .i64 L]) := Lib.hid (Mq_w2.out.step hb)
              have Mn_w3 : Hid (BK 24 w3 (w1.heap.size) [.slice A3 0 c3, .int .i64 0]) := Lib.hid (Mn_w2.out.step hb)
              have Sa_w3 : Hid (IL w3 w3.heap.size A1 X) := Lib.hid (CL.step Sa_w2.out hb)
              have Sb_w3 : Hid (IL w3 w3.heap.size A2 X) := Lib.hid (CL.step Sb_w2.out hb)
              clear dq0 dq1
              clear B_w2 Mp_w2 Mq_w2 Mn_w2 Sa_w2 Sb_w2
              clear hb
              go_wp2_with first | (refine wpList_store_all (by rfl) 24 (.tmp 12) (.tmp 51) rfl rfl (w3.heap.size) rfl [.slice A4 0 c4, .int .i64 0] rfl 24 [.slice none 0 0, .int .i64 0] (BK.new w3 _ _) infoP2 rfl (one2 _ _ _ _) ?_; intro w4 hM hP; have Mm_w4 : Hid (BK 24 w4 (w3.heap.size) [.slice A4 0 c4, .int .i64 0]) := Lib.hid hM; have Lp_m : Hid (w.heap.size < w3.heap.size) := Lib.hid Mp_w3.out.lt; have Lq_m : Hid (Q < w3.heap.size) := Lib.hid Mq_w3.out.lt; have Ln_m : Hid (w1.heap.size < w3.heap.size) := Lib.hid Mn_w3.out.lt; have Zm : Hid (w.heap.size ≤ w3.heap.size) := Lib.hid B_w3.out.size; have B_w4 : Hid (Below w.heap.size w w4) := Lib.hid (hP.below (stepB B_w3.out (below_new w3 _)) B_w3.out.size); have Mp_w4 : Hid (BK 24 w4 (w.heap.size) [.slice A1 X.length c1, .int .i64 L]) := Lib.hid (hP.other (BK.alloc Mp_w3.out _) (Nat.ne_of_lt Mp_w3.out.lt)); have Mq_w4 : Hid (BK 24 w4 (Q) [.slice A2 X.length c2, .int .i64 L]) := Lib.hid (hP.other (BK.alloc Mq_w3.out _) (Nat.ne_of_lt Mq_w3.out.lt)); have Mn_w4 : Hid (BK 24 w4 (w1.heap.size) [.slice A3 0 c3, .int .i64 0]) := Lib.hid (hP.other (BK.alloc Mn_w3.out _) (Nat.ne_of_lt Mn_w3.out.lt)); have Sa_w4 : Hid (IL w4 w4.heap.size A1 X) := Lib.hid (CL.step Sa_w3.out (hP.below (below_new w3 _) (Nat.le_refl _))); have Sb_w4 : Hid (IL w4 w4.heap.size A2 X) := Lib.hid (CL.step Sb_w3.out (hP.below (below_new w3 _) (Nat.le_refl _))); clear B_w3 Mp_w3 Mq_w3 Mn_w3 Sa_w3 Sb_w3 hM hP; have dp0 := Mp_w4.out.cell 0 rfl; have dp1 := Mp_w4.out.cell 1 rfl; have dq0 := Mq_w4.out.cell 0 rfl; have dq1 := Mq_w4.out.cell 1 rfl)
              refine (same_self A1 A2 c1 c2 X L w4 Sa_w4.out Sb_w4.out (by have := (ck_ok.1 HV.out).1; omega)).mono ?_
              rintro e w5 ⟨rfl, hb⟩
              have B_w5 : Hid (Below w.heap.size w w5) := Lib.hid (stepB B_w4.out hb)
              have Mp_w5 : Hid (BK 24 w5 (w.heap.size) [.slice A1 X.length c1, .int .i64 L]) := Lib.hid (Mp_w4.out.step hb)
              have Mq_w5 : Hid (BK 24 w5 (Q) [.slice A2 X.length c2, .int .i64 L]) := Lib.hid (Mq_w4.out.step hb)
              have Mn_w5 : Hid (BK 24 w5 (w1.heap.size) [.slice A3 0 c3, .int .i64 0]) := Lib.hid (Mn_w4.out.step hb)
              have Mm_w5 : Hid (BK 24 w5 (w3.heap.size) [.slice A4 0 c4, .int .i64 0]) := Lib.hid (Mm_w4.out.step hb)
              have Sa_w5 : Hid (IL w5 w5.heap.size A1 X) := Lib.hid (CL.step Sa_w4.out hb)
              have Sb_w5 : Hid (IL w5 w5.heap.size A2 X) := Lib.hid (CL.step Sb_w4.out hb)
              clear dp0 dp1 dq0 dq1
              clear B_w4 Mp_w4 Mq_w4 Mn_w4 Mm_w4 Sa_w4 Sb_w4
              clear hb
              have dp0 := Mp_w5.out.cell 0 rfl
              have dp1 := Mp_w5.out.cell 1 rfl
              go_wp2_with fail
              refine (iCheck_ok A1 c1 X L w5 Sa_w5.out HC1.out HV.out).mono ?_
              rintro e w6 ⟨rfl, hb⟩
              have B_w6 : Hid (Below w.heap.size w w6) := Lib.hid (stepB B_w5.out hb)
              have Mp_w6 : Hid (BK 24 w6 (w.heap.size) [.slice A1 X.length c1, .int .i64 L]) := Lib.hid (Mp_w5.out.step hb)
              have Mq_w6 : Hid (BK 24 w6 (Q) [.slice A2 X.length c2, .int .i64 L]) := Lib.hid (Mq_w5.out.step hb)
              have Mn_w6 : Hid (BK 24 w6 (w1.heap.size) [.slice A3 0 c3, .int .i64 0]) := Lib.hid (Mn_w5.out.step hb)
              have Mm_w6 : Hid (BK 24 w6 (w3.heap.size) [.slice A4 0 c4, .int .i64 0]) := Lib.hid (Mm_w5.out.step hb)
              have Sa_w6 : Hid (IL w6 w6.heap.size A1 X) := Lib.hid (CL.step Sa_w5.out hb)
              have Sb_w6 : Hid (IL w6 w6.heap.size A2 X) := Lib.hid (CL.step Sb_w5.out hb)
              clear dp0 dp1
              clear B_w5 Mp_w5 Mq_w5 Mn_w5 Mm_w5 Sa_w5 Sb_w5
              clear hb
              go_wp2_with fail
              go_roundg g
              case measure => omega
              case rel => exact ⟨k + 1, X, L, A1, c1, A2, c2, by have := HG.out; omega, by first | rfl | exact nxt k (by have := HK.out; omega), ⟨HV.out, Mp_w6.out, Mq_w6.out, Sa_w6.out, Sb_w6.out, HC1.out, HC2.out, Oa_p.out, Oa_q.out, Ob_p.out, Ob_q.out, B_w6.out⟩⟩
            · have h32 : X.length < 32 := by have := (ck_ok.1 HV.out).1; omega
              have c3 := fun w h => iTake_any A1 c1 X L w h HC1.out HV.out
              have c4 := fun w h => rTake_any A2 c2 X L w h HC2.out (by have := (ck_ok.1 HV.out).1; omega) (ck_ok.1 HV.out).2.2.1 (ck_ok.1 HV.out).2.2.2
              rw [tkR_part h32] at c3 c4
              have HT := Lib.hid (tk_ok HV.out h32).2.2.2
              generalize insI X (tkI X L) = Y at c3 c4 HT
              generalize tkI X L = n at c3 c4 HT
              have C3 := Lib.hid c3
              have C4 := Lib.hid c4
              clear c3 c4 h32
              have dp0 := Mp_wr.out.cell 0 rfl
              have dp1 := Mp_wr.out.cell 1 rfl
              go_wp2_with fail
              have LWpc : Hid (w.heap.size < wr.heap.size) := Lib.hid Mp_wr.out.lt
              have LWqc : Hid (Q < wr.heap.size) := Lib.hid Mq_wr.out.lt
              refine (C3.out wr Sa_wr.out).mono ?_
              rintro e w1 ⟨A3, c3, rfl, hc3, hs3, hf3, hb⟩
              have B_w1 : Hid (Below w.heap.size w w1) := Lib.hid (stepB B_wr.out hb)
              have Mp_w1 : Hid (BK 24 w1 (w.heap.size) [.slice A1 X.length c1, .int .i64 L]) := Lib.hid (Mp_wr.out.step hb)
              have Mq_w1 : Hid (BK 24 w1 (Q) [.slice A2 X.length c2, .int .i64 L]) := Lib.hid (Mq_wr.out.step hb)
              have Sa_w1 : Hid (IL w1 w1.heap.size A1 X) := Lib.hid (CL.step Sa_wr.out hb)
              have Sb_w1 : Hid (IL w1 w1.heap.size A2 X) := Lib.hid (CL.step Sb_wr.out hb)
              clear dp0 dp1
              clear B_wr Mp_wr Mq_wr Sa_wr Sb_wr
              clear hb
              clear kv
              have Sc_w1 := Lib.hid (hs3)
              have HC3 := Lib.hid hc3
              have Oc_p : Hid (Off (w.heap.size) A3 Y) := Lib.hid (Oa_p.out.fr hf3 LWpc.out)
              have Oc_q : Hid (Off (Q) A3 Y) := Lib.hid (Oa_q.out.fr hf3 LWqc.out)
              clear hs3 hc3 hf3
              have dq0 := Mq_w1.out.cell 0 rfl
              have dq1 := Mq_w1.out.cell 1 rfl
              go_wp2_with first | (refine wpList_store_all (by rfl) 24 (.tmp 9) (.tmp 45) rfl rfl (w1.heap.size) rfl [.slice A3 Y.length c3, .int .i64 n] rfl 24 [.slice none 0 0, .int .i64 0] (BK.new w1 _ _) infoP2 rfl (one2 _ _ _ _) ?_; intro w2 hM hP; have Mn_w2 : Hid (BK 24 w2 (w1.heap.size) [.slice A3 Y.length c3, .int .i64 n]) := Lib.hid hM; have Lp_n : Hid (w.heap.size < w1.heap.size) := Lib.hid Mp_w1.out.lt; have Lq_n : Hid (Q < w1.heap.size) := Lib.hid Mq_w1.out.lt; have Zn : Hid (w.heap.size ≤ w1.heap.size) := Lib.hid B_w1.out.size; have B_w2 : Hid (Below w.heap.size w w2) := Lib.hid (hP.below (stepB B_w1.out (below_new w1 _)) B_w1.out.size); have Mp_w2 : Hid (BK 24 w2 (w.heap.size) [.slice A1 X.length c1, .int .i64 L]) := Lib.hid (hP.other (BK.alloc Mp_w1.out _) (Nat.ne_of_lt Mp_w1.out.lt)); have Mq_w2 : Hid (BK 24 w2 (Q) [.slice A2 X.length c2, .int .i64 L]) := Lib.hid (hP.other (BK.alloc Mq_w1.out _) (Nat.ne_of_lt Mq_w1.out.lt)); have Sa_w2 : Hid (IL w2 w2.heap.size A1 X) := Lib.hid (CL.step Sa_w1.out (hP.below (below_new w1 _) (Nat.le_refl _))); have Sb_w2 : Hid (IL w2 w2.heap.size A2 X) := Lib.hid (CL.step Sb_w1.out (hP.below (below_new w1 _) (Nat.le_refl _))); have Sc_w2 : Hid (IL w2 w2.heap.size A3 Y) := Lib.hid (CL.step Sc_w1.out (hP.below (below_new w1 _) (Nat.le_refl _))); clear B_w1 Mp_w1 Mq_w1 Sa_w1 Sb_w1 Sc_w1 hM hP dq0 dq1; have dq0 := Mq_w2.out.cell 0 rfl; have dq1 := Mq_w2.out.cell 1 rfl)
              have LWpd : Hid (w.heap.size < w2.heap.size) := Lib.hid Mp_w2.out.lt
              have LWqd : Hid (Q < w2.heap.size) := Lib.hid Mq_w2.out.lt
              refine (C4.out w2 Sb_w2.out).mono ?_
              rintro e w3 ⟨A4, c4, rfl, hc4, hs4, hf4, hb⟩
              have B_w3 : Hid (Below w.heap.size w w3) := Lib.hid (stepB B_w2.out hb)
              have Mp_w3 : Hid (BK 24 w3 (w.heap.size) [.slice A1 X.length c1, .int .i64 L]) := Lib.hid (Mp_w2.out.step hb)
              have Mq_w3 : Hid (BK 24 w3 (Q) [.slice A2 X.length c2, .int .i64 L]) := Lib.hid (Mq_w2.out.step hb)
              have Mn_w3 : Hid (BK 24 w3 (w1.heap.size) [.slice A3 Y.length c3, .int .i64 n]) := Lib.hid (Mn_w2.out.step hb)
              have Sa_w3 : Hid (IL w3 w3.heap.size A1 X) := Lib.hid (CL.step Sa_w2.out hb)
              have Sb_w3 : Hid (IL w3 w3.heap.size A2 X) := Lib.hid (CL.step Sb_w2.out hb)
              have Sc_w3 : Hid (IL w3 w3.heap.size A3 Y) := Lib.hid (CL.step Sc_w2.out hb)
              clear dq0 dq1
              clear B_w2 Mp_w2 Mq_w2 Mn_w2 Sa_w2 Sb_w2 Sc_w2
              clear hb
              have Sd_w3 := Lib.hid (hs4)
              have HC4 := Lib.hid hc4
              have Od_p : Hid (Off (w.heap.size) A4 Y) := Lib.hid (Ob_p.out.fr hf4 LWpd.out)
              have Od_q : Hid (Off (Q) A4 Y) := Lib.hid (Ob_q.out.fr hf4 LWqd.out)
              clear hs4 hc4 hf4
              clear Sa_w3
              clear Sb_w3
              go_upto_region 14 with first | (refine wpList_store_all (by rfl) 24 (.tmp 12) (.tmp 51) rfl rfl (w3.heap.size) rfl [.slice A4 Y.length c4, .int .i64 n] rfl 24 [.slice none 0 0, .int .i64 0] (BK.new w3 _ _) infoP2 rfl (one2 _ _ _ _) ?_; intro w4 hM hP; have Mm_w4 : Hid (BK 24 w4 (w3.heap.size) [.slice A4 Y.length c4, .int .i64 n]) := Lib.hid hM; have Lp_m : Hid (w.heap.size < w3.heap.size) := Lib.hid Mp_w3.out.lt; have Lq_m : Hid (Q < w3.heap.size) := Lib.hid Mq_w3.out.lt; have Ln_m : Hid (w1.heap.size < w3.heap.size) := Lib.hid Mn_w3.out.lt; have Zm : Hid (w.heap.size ≤ w3.heap.size) := Lib.hid B_w3.out.size; have B_w4 : Hid (Below w.heap.size w w4) := Lib.hid (hP.below (stepB B_w3.out (below_new w3 _)) B_w3.out.size); have Mp_w4 : Hid (BK 24 w4 (w.heap.size) [.slice A1 X.length c1, .int .i64 L]) := Lib.hid (hP.other (BK.alloc Mp_w3.out _) (Nat.ne_of_lt Mp_w3.out.lt)); have Mq_w4 : Hid (BK 24 w4 (Q) [.slice A2 X.length c2, .int .i64 L]) := Lib.hid (hP.other (BK.alloc Mq_w3.out _) (Nat.ne_of_lt Mq_w3.out.lt)); have Mn_w4 : Hid (BK 24 w4 (w1.heap.size) [.slice A3 Y.length c3, .int .i64 n]) := Lib.hid (hP.other (BK.alloc Mn_w3.out _) (Nat.ne_of_lt Mn_w3.out.lt)); have Sc_w4 : Hid (IL w4 w4.heap.size A3 Y) := Lib.hid (CL.step Sc_w3.out (hP.below (below_new w3 _) (Nat.le_refl _))); have Sd_w4 : Hid (IL w4 w4.heap.size A4 Y) := Lib.hid (CL.step Sd_w3.out (hP.below (below_new w3 _) (Nat.le_refl _))); clear B_w3 Mp_w3 Mq_w3 Mn_w3 Sc_w3 Sd_w3 hM hP)
              obtain ⟨x4v1, hx4v1⟩ : ∃ x4v1, x4v1 = World.drew w4 := ⟨_, rfl⟩
              have hbD : Below w4.heap.size w4 x4v1 := by rw [hx4v1]; exact (Below.refl _ _).drew
              have B_x4v1 : Hid (Below w.heap.size w x4v1) := Lib.hid (stepB B_w4.out hbD)
              have Mp_x4v1 : Hid (BK 24 x4v1 (w.heap.size) [.slice A1 X.length c1, .int .i64 L]) := Lib.hid (Mp_w4.out.step hbD)
              have Mq_x4v1 : Hid (BK 24 x4v1 (Q) [.slice A2 X.length c2, .int .i64 L]) := Lib.hid (Mq_w4.out.step hbD)
              have Mn_x4v1 : Hid (BK 24 x4v1 (w1.heap.size) [.slice A3 Y.length c3, .int .i64 n]) := Lib.hid (Mn_w4.out.step hbD)
              have Mm_x4v1 : Hid (BK 24 x4v1 (w3.heap.size) [.slice A4 Y.length c4, .int .i64 n]) := Lib.hid (Mm_w4.out.step hbD)
              have Sc_x4v1 : Hid (IL x4v1 x4v1.heap.size A3 Y) := Lib.hid (CL.step Sc_w4.out hbD)
              have Sd_x4v1 : Hid (IL x4v1 x4v1.heap.size A4 Y) := Lib.hid (CL.step Sd_w4.out hbD)
              clear B_w4 Mp_w4 Mq_w4 Mn_w4 Mm_w4 Sc_w4 Sd_w4
              have hbd : (fun w' => BK 24 w' (w1.heap.size) [.slice A3 Y.length c3, .int .i64 n] ∧ BK 24 w' (w3.heap.size) [.slice A4 Y.length c4, .int .i64 n]) (World.drew w4) := by rw [← hx4v1]; exact ⟨Mn_x4v1.out, Mm_x4v1.out⟩
              have hSD : (fun w' => BK 24 w' (w1.heap.size) [.slice A3 Y.length c3, .int .i64 n] ∧ BK 24 w' (w3.heap.size) [.slice A4 Y.length c4, .int .i64 n]) x4v1 := ⟨Mn_x4v1.out, Mm_x4v1.out⟩
              have HWD := Lib.hid hx4v1
              clear hx4v1 hbD
              refine wp_region_held_drew (S := fun w' => BK 24 w' (w1.heap.size) [.slice A3 Y.length c3, .int .i64 n] ∧ BK 24 w' (w3.heap.size) [.slice A4 Y.length c4, .int .i64 n]) (by kernel_rfl) hbd (fun hHeld => ?_)
              rw [← HWD.out]
              clear hHeld
              have hHeld := hSD
              clear hSD hbd HWD
              refine wpAnyH_take (i := 0) (v := .agg [.slice A3 Y.length c3, .int .i64 n].toArray) (get_ops _ _ _ rfl) (by kernel_rfl) (by kernel_rfl) (by kernel_rfl) (fun _ _ _ h => h) (Or.inl ⟨by rfl, fun wS hSw => by (try dsimp only at hSw); exact exec_load 24 _ rfl ⟨(w1.heap.size), 0, none⟩ (by go_simp) _ (run_load_all hSw.1 Try.underlying24 rfl infoP2)⟩) hHeld ?_
              try simp only [Act.put, List.setIfInBounds_toArray, List.set_cons_zero, List.set_cons_succ]
              refine wpAnyH_take (i := 1) (v := .agg [.slice A4 Y.length c4, .int .i64 n].toArray) (get_ops _ _ _ rfl) (by kernel_rfl) (by kernel_rfl) (by kernel_rfl) (fun _ _ _ h => h) (Or.inl ⟨by rfl, fun wS hSw => by (try dsimp only at hSw); exact exec_load 24 _ rfl ⟨(w3.heap.size), 0, none⟩ (by go_simp) _ (run_load_all hSw.2 Try.underlying24 rfl infoP2)⟩) hHeld ?_
              try simp only [Act.put, List.setIfInBounds_toArray, List.set_cons_zero, List.set_cons_succ]
              refine wpAnyH_ready (rs := [2]) (by kernel_rfl) (by simp) ?_
              refine (AllReadyH.cons (get_ops _ _ _ rfl) (fun K hK => ?_) AllReadyH.nil)
              refine wp_store_all 24 _ _ rfl rfl (w.heap.size) (by go_simp) [.slice A3 Y.length c3, .int .i64 n] (by go_simp) 24 [.slice A1 X.length c1, .int .i64 L] Mp_x4v1.out infoP2 rfl (one2 _ _ _ _) ?_
              intro x4v2 hM hP
              have Mp_x4v2 : Hid (BK 24 x4v2 (w.heap.size) [.slice A3 Y.length c3, .int .i64 n]) := Lib.hid hM
              have B_x4v2 : Hid (Below w.heap.size w x4v2) := Lib.hid (hP.below B_x4v1.out Zp.out)
              have Mq_x4v2 : Hid (BK 24 x4v2 (Q) [.slice A2 X.length c2, .int .i64 L]) := Lib.hid (hP.other Mq_x4v1.out (Nat.ne_of_gt Lp_q.out))
              have Mn_x4v2 : Hid (BK 24 x4v2 (w1.heap.size) [.slice A3 Y.length c3, .int .i64 n]) := Lib.hid (hP.other Mn_x4v1.out (Nat.ne_of_gt Lp_n.out))
              have Mm_x4v2 : Hid (BK 24 x4v2 (w3.heap.size) [.slice A4 Y.length c4, .int .i64 n]) := Lib.hid (hP.other Mm_x4v1.out (Nat.ne_of_gt Lp_m.out))
              have Sc_x4v2 : Hid (IL x4v2 x4v2.heap.size A3 Y) := Lib.hid (IL.put Sc_x4v1.out hP Oc_p.out)
              have Sd_x4v2 : Hid (IL x4v2 x4v2.heap.size A4 Y) := Lib.hid (IL.put Sd_x4v1.out hP Od_p.out)
              clear B_x4v1 Mp_x4v1 Mq_x4v1 Mn_x4v1 Mm_x4v1 Sc_x4v1 Sd_x4v1 hM hP
              clear hHeld
              refine hK.out _ _ ⟨Mn_x4v2.out, Mm_x4v2.out⟩ (fun hHeld => ?_)
              clear hK K
              try simp only [Act.put, List.setIfInBounds_toArray, List.set_cons_zero, List.set_cons_succ]
              refine wpAnyH_ready (rs := [3]) (by kernel_rfl) (by simp) ?_
              refine (AllReadyH.cons (get_ops _ _ _ rfl) (fun K hK => ?_) AllReadyH.nil)
              refine wp_store_all 24 _ _ rfl rfl (Q) (by go_simp) [.slice A4 Y.length c4, .int .i64 n] (by go_simp) 24 [.slice A2 X.length c2, .int .i64 L] Mq_x4v2.out infoP2 rfl (one2 _ _ _ _) ?_
              intro x4v3 hM hP
              have Mq_x4v3 : Hid (BK 24 x4v3 (Q) [.slice A4 Y.length c4, .int .i64 n]) := Lib.hid hM
              have B_x4v3 : Hid (Below w.heap.size w x4v3) := Lib.hid (hP.below B_x4v2.out Zq.out)
              have Mp_x4v3 : Hid (BK 24 x4v3 (w.heap.size) [.slice A3 Y.length c3, .int .i64 n]) := Lib.hid (hP.other Mp_x4v2.out (Nat.ne_of_lt Lp_q.out))
              have Mn_x4v3 : Hid (BK 24 x4v3 (w1.heap.size) [.slice A3 Y.length c3, .int .i64 n]) := Lib.hid (hP.other Mn_x4v2.out (Nat.ne_of_gt Lq_n.out))
              have Mm_x4v3 : Hid (BK 24 x4v3 (w3.heap.size) [.slice A4 Y.length c4, .int .i64 n]) := Lib.hid (hP.other Mm_x4v2.out (Nat.ne_of_gt Lq_m.out))
              have Sc_x4v3 : Hid (IL x4v3 x4v3.heap.size A3 Y) := Lib.hid (IL.put Sc_x4v2.out hP Oc_q.out)
              have Sd_x4v3 : Hid (IL x4v3 x4v3.heap.size A4 Y) := Lib.hid (IL.put Sd_x4v2.out hP Od_q.out)
              clear B_x4v2 Mp_x4v2 Mq_x4v2 Mn_x4v2 Mm_x4v2 Sc_x4v2 Sd_x4v2 hM hP
              clear hHeld
              refine hK.out _ _ ⟨Mn_x4v3.out, Mm_x4v3.out⟩ (fun hHeld => ?_)
              clear hK K
              try simp only [Act.put, List.setIfInBounds_toArray, List.set_cons_zero, List.set_cons_succ]
              refine wpAnyH_done (by kernel_rfl) ?_ _
              have dp0 := Mp_x4v3.out.cell 0 rfl
              have dp1 := Mp_x4v3.out.cell 1 rfl
              have dq0 := Mq_x4v3.out.cell 0 rfl
              have dq1 := Mq_x4v3.out.cell 1 rfl
              go_wp2_with fail
              refine (same_self A3 A4 c3 c4 Y n x4v3 Sc_x4v3.out Sd_x4v3.out (by have := (ck_ok.1 HT.out).1; omega)).mono ?_
              rintro e w6 ⟨rfl, hb⟩
              have B_w6 : Hid (Below w.heap.size w w6) := Lib.hid (stepB B_x4v3.out hb)
              have Mp_w6 : Hid (BK 24 w6 (w.heap.size) [.slice A3 Y.length c3, .int .i64 n]) := Lib.hid (Mp_x4v3.out.step hb)
              have Mq_w6 : Hid (BK 24 w6 (Q) [.slice A4 Y.length c4, .int .i64 n]) := Lib.hid (Mq_x4v3.out.step hb)
              have Mn_w6 : Hid (BK 24 w6 (w1.heap.size) [.slice A3 Y.length c3, .int .i64 n]) := Lib.hid (Mn_x4v3.out.step hb)
              have Mm_w6 : Hid (BK 24 w6 (w3.heap.size) [.slice A4 Y.length c4, .int .i64 n]) := Lib.hid (Mm_x4v3.out.step hb)
              have Sc_w6 : Hid (IL w6 w6.heap.size A3 Y) := Lib.hid (CL.step Sc_x4v3.out hb)
              have Sd_w6 : Hid (IL w6 w6.heap.size A4 Y) := Lib.hid (CL.step Sd_x4v3.out hb)
              clear dp0 dp1 dq0 dq1
              clear B_x4v3 Mp_x4v3 Mq_x4v3 Mn_x4v3 Mm_x4v3 Sc_x4v3 Sd_x4v3
              clear hb
              have dp0 := Mp_w6.out.cell 0 rfl
              have dp1 := Mp_w6.out.cell 1 rfl
              go_wp2_with fail
              refine (iCheck_ok A3 c3 Y n w6 Sc_w6.out HC3.out HT.out).mono ?_
              rintro e w7 ⟨rfl, hb⟩
              have B_w7 : Hid (Below w.heap.size w w7) := Lib.hid (stepB B_w6.out hb)
              have Mp_w7 : Hid (BK 24 w7 (w.heap.size) [.slice A3 Y.length c3, .int .i64 n]) := Lib.hid (Mp_w6.out.step hb)
              have Mq_w7 : Hid (BK 24 w7 (Q) [.slice A4 Y.length c4, .int .i64 n]) := Lib.hid (Mq_w6.out.step hb)
              have Mn_w7 : Hid (BK 24 w7 (w1.heap.size) [.slice A3 Y.length c3, .int .i64 n]) := Lib.hid (Mn_w6.out.step hb)
              have Mm_w7 : Hid (BK 24 w7 (w3.heap.size) [.slice A4 Y.length c4, .int .i64 n]) := Lib.hid (Mm_w6.out.step hb)
              have Sc_w7 : Hid (IL w7 w7.heap.size A3 Y) := Lib.hid (CL.step Sc_w6.out hb)
              have Sd_w7 : Hid (IL w7 w7.heap.size A4 Y) := Lib.hid (CL.step Sd_w6.out hb)
              clear dp0 dp1
              clear B_w6 Mp_w6 Mq_w6 Mn_w6 Mm_w6 Sc_w6 Sd_w6
              clear hb
              go_wp2_with fail
              go_roundg g
              case measure => omega
              case rel => exact ⟨k + 1, Y, n, A3, c3, A4, c4, by have := HG.out; omega, by first | rfl | exact nxt k (by have := HK.out; omega), ⟨HT.out, Mp_w7.out, Mq_w7.out, Sc_w7.out, Sd_w7.out, HC3.out, HC4.out, Oc_p.out, Oc_q.out, Od_p.out, Od_q.out, B_w7.out⟩⟩
          · have hb0 : (x == 0) = false := by simp [hx0]
            by_cases hneg : x < 0
            · by_cases hpos : 0 < X.length

              · have qn : decide (x < 0) = true := decide_eq_true hneg
                have ql : decide ((0 : Int) < (X.length : Int)) = true := decide_eq_true (by omega)
                have hix := ixI_lt (v := x) hpos
                obtain ⟨n, hn⟩ : ∃ n, X[ixI x X.length]? = some n := ⟨_, List.getElem?_eq_getElem hix⟩
                obtain ⟨bq, oq, hAq, _, kn⟩ := IL.at_ Sb_wr.out hn
                subst hAq
                have hnr := ck_mem HV.out (List.mem_of_getElem? hn)
                have hn1 : -9223372036854775808 ≤ n := by omega
                have hn2 : n ≤ 9223372036854775807 := by omega
                have c3 := fun w h => iFree_any A1 c1 X L n w h HC1.out HV.out hn1 hn2
                have c4 := fun w h => rFree_any (some ⟨bq, oq, none⟩) c2 X L n w h (by have := (ck_ok.1 HV.out).1; omega)
                have HT := Lib.hid (del_ok (n := n) HV.out)
                have C3 := Lib.hid c3
                have C4 := Lib.hid c4
                generalize delI X n = Y at C3 C4 HT
                generalize decide (n ∈ X) = Bv at C3 C4
                have hbv : (Bv != Bv) = false := by simp
                clear c3 c4 hn1 hn2
                have hXl : X.length ≤ 32 := (ck_ok.1 HV.out).1
                have u1 : IntKind.u64.wrap x = x % 18446744073709551616 := by simp [IntKind.wrap, IntKind.bits, IntKind.signed]
                have u2 : IntKind.u64.wrap (X.length : Int) = (X.length : Int) := by simp [IntKind.wrap, IntKind.bits, IntKind.signed]; omega
                have u3 : Int.tmod (x % 18446744073709551616) (X.length : Int) = (ixI x X.length : Int) := by rw [Int.tmod_eq_emod_of_nonneg (by omega)]; unfold ixI; have := Int.emod_nonneg (x % 18446744073709551616) (by omega : (X.length : Int) ≠ 0); omega
                have u4 : (0 : Int) ≤ (ixI x X.length : Int) := by omega
                have u5 : (ixI x X.length : Int) < (X.length : Int) := by omega
                have u6 : wrap64 (ixI x X.length : Int) = (ixI x X.length : Int) := wrap64_id _ (by omega) (by omega)
                have u7 : ¬ ((X.length : Int) = 0) := by omega
                clear hx0 hxr hneg hn hnr hix hXl
                have dq0 := Mq_wr.out.cell 0 rfl
                have dq1 := Mq_wr.out.cell 1 rfl
                go_upto_region 17 with fail
                go_quiet (fail)
                obtain ⟨wq, hwq⟩ : ∃ wq, wq = wr.drewN nq := ⟨_, rfl⟩
                rw [← hwq]
                have hb : Below wr.heap.size wr wq := by rw [hwq]; exact bDN _ _
                have B_wq : Hid (Below w.heap.size w wq) := Lib.hid (stepB B_wr.out hb)
                have Mp_wq : Hid (BK 24 wq (w.heap.size) [.slice A1 X.length c1, .int .i64 L]) := Lib.hid (Mp_wr.out.step hb)
                have Mq_wq : Hid (BK 24 wq (Q) [.slice (some ⟨bq, oq, none⟩) X.length c2, .int .i64 L]) := Lib.hid (Mq_wr.out.step hb)
                have Sa_wq : Hid (IL wq wq.heap.size A1 X) := Lib.hid (CL.step Sa_wr.out hb)
                have Sb_wq : Hid (IL wq wq.heap.size (some ⟨bq, oq, none⟩) X) := Lib.hid (CL.step Sb_wr.out hb)
                clear dq0 dq1 kv kn
                clear B_wr Mp_wr Mq_wr Sa_wr Sb_wr
                clear hb hwq
                have dp0 := Mp_wq.out.cell 0 rfl
                have dp1 := Mp_wq.out.cell 1 rfl
                go_wp2_with fail
                have LWpc : Hid (w.heap.size < wq.heap.size) := Lib.hid Mp_wq.out.lt
                have LWqc : Hid (Q < wq.heap.size) := Lib.hid Mq_wq.out.lt
                refine (C3.out wq Sa_wq.out).mono ?_
                rintro e w1 ⟨A3, c3, rfl, hc3, hs3, hf3, hb⟩
                have B_w1 : Hid (Below w.heap.size w w1) := Lib.hid (stepB B_wq.out hb)
                have Mp_w1 : Hid (BK 24 w1 (w.heap.size) [.slice A1 X.length c1, .int .i64 L]) := Lib.hid (Mp_wq.out.step hb)
                have Mq_w1 : Hid (BK 24 w1 (Q) [.slice (some ⟨bq, oq, none⟩) X.length c2, .int .i64 L]) := Lib.hid (Mq_wq.out.step hb)
                have Sa_w1 : Hid (IL w1 w1.heap.size A1 X) := Lib.hid (CL.step Sa_wq.out hb)
                have Sb_w1 : Hid (IL w1 w1.heap.size (some ⟨bq, oq, none⟩) X) := Lib.hid (CL.step Sb_wq.out hb)
                clear dp0 dp1
                clear B_wq Mp_wq Mq_wq Sa_wq Sb_wq
                clear hb
                have Sc_w1 := Lib.hid (hs3)
                have HC3 := Lib.hid hc3
                have Oc_p : Hid (Off (w.heap.size) A3 Y) := Lib.hid (Oa_p.out.fr hf3 LWpc.out)
                have Oc_q : Hid (Off (Q) A3 Y) := Lib.hid (Oa_q.out.fr hf3 LWqc.out)
                clear hs3 hc3 hf3
                have dq0 := Mq_w1.out.cell 0 rfl
                have dq1 := Mq_w1.out.cell 1 rfl
                go_wp2_with first | (refine wpList_store_all (by rfl) 24 (.tmp 15) (.tmp 93) rfl rfl (w1.heap.size) rfl [.slice A3 Y.length c3, .int .i64 L] rfl 24 [.slice none 0 0, .int .i64 0] (BK.new w1 _ _) infoP2 rfl (one2 _ _ _ _) ?_; intro w2 hM hP; have Mn_w2 : Hid (BK 24 w2 (w1.heap.size) [.slice A3 Y.length c3, .int .i64 L]) := Lib.hid hM; have Lp_n : Hid (w.heap.size < w1.heap.size) := Lib.hid Mp_w1.out.lt; have Lq_n : Hid (Q < w1.heap.size) := Lib.hid Mq_w1.out.lt; have Zn : Hid (w.heap.size ≤ w1.heap.size) := Lib.hid B_w1.out.size; have B_w2 : Hid (Below w.heap.size w w2) := Lib.hid (hP.below (stepB B_w1.out (below_new w1 _)) B_w1.out.size); have Mp_w2 : Hid (BK 24 w2 (w.heap.size) [.slice A1 X.length c1, .int .i64 L]) := Lib.hid (hP.other (BK.alloc Mp_w1.out _) (Nat.ne_of_lt Mp_w1.out.lt)); have Mq_w2 : Hid (BK 24 w2 (Q) [.slice (some ⟨bq, oq, none⟩) X.length c2, .int .i64 L]) := Lib.hid (hP.other (BK.alloc Mq_w1.out _) (Nat.ne_of_lt Mq_w1.out.lt)); have Sa_w2 : Hid (IL w2 w2.heap.size A1 X) := Lib.hid (CL.step Sa_w1.out (hP.below (below_new w1 _) (Nat.le_refl _))); have Sb_w2 : Hid (IL w2 w2.heap.size (some ⟨bq, oq, none⟩) X) := Lib.hid (CL.step Sb_w1.out (hP.below (below_new w1 _) (Nat.le_refl _))); have Sc_w2 : Hid (IL w2 w2.heap.size A3 Y) := Lib.hid (CL.step Sc_w1.out (hP.below (below_new w1 _) (Nat.le_refl _))); clear B_w1 Mp_w1 Mq_w1 Sa_w1 Sb_w1 Sc_w1 hM hP dq0 dq1; have dq0 := Mq_w2.out.cell 0 rfl; have dq1 := Mq_w2.out.cell 1 rfl)
                have LWpd : Hid (w.heap.size < w2.heap.size) := Lib.hid Mp_w2.out.lt
                have LWqd : Hid (Q < w2.heap.size) := Lib.hid Mq_w2.out.lt
                refine (C4.out w2 Sb_w2.out).mono ?_
                rintro e w3 ⟨A4, c4, rfl, hc4, hs4, hf4, hb⟩
                have B_w3 : Hid (Below w.heap.size w w3) := Lib.hid (stepB B_w2.out hb)
                have Mp_w3 : Hid (BK 24 w3 (w.heap.size) [.slice A1 X.length c1, .int .i64 L]) := Lib.hid (Mp_w2.out.step hb)
                have Mq_w3 : Hid (BK 24 w3 (Q) [.slice (some ⟨bq, oq, none⟩) X.length c2, .int .i64 L]) := Lib.hid (Mq_w2.out.step hb)
                have Mn_w3 : Hid (BK 24 w3 (w1.heap.size) [.slice A3 Y.length c3, .int .i64 L]) := Lib.hid (Mn_w2.out.step hb)
                have Sa_w3 : Hid (IL w3 w3.heap.size A1 X) := Lib.hid (CL.step Sa_w2.out hb)
                have Sb_w3 : Hid (IL w3 w3.heap.size (some ⟨bq, oq, none⟩) X) := Lib.hid (CL.step Sb_w2.out hb)
                have Sc_w3 : Hid (IL w3 w3.heap.size A3 Y) := Lib.hid (CL.step Sc_w2.out hb)
                clear dq0 dq1
                clear B_w2 Mp_w2 Mq_w2 Mn_w2 Sa_w2 Sb_w2 Sc_w2
                clear hb
                have Sd_w3 := Lib.hid (hs4)
                have HC4 := Lib.hid hc4
                have Od_p : Hid (Off (w.heap.size) A4 Y) := Lib.hid (Ob_p.out.fr hf4 LWpd.out)
                have Od_q : Hid (Off (Q) A4 Y) := Lib.hid (Ob_q.out.fr hf4 LWqd.out)
                clear hs4 hc4 hf4
                clear Sa_w3
                clear Sb_w3
                go_upto_region 22 with first | (refine wpList_store_all (by rfl) 24 (.tmp 17) (.tmp 99) rfl rfl (w3.heap.size) rfl [.slice A4 Y.length c4, .int .i64 L] rfl 24 [.slice none 0 0, .int .i64 0] (BK.new w3 _ _) infoP2 rfl (one2 _ _ _ _) ?_; intro w4 hM hP; have Mm_w4 : Hid (BK 24 w4 (w3.heap.size) [.slice A4 Y.length c4, .int .i64 L]) := Lib.hid hM; have Lp_m : Hid (w.heap.size < w3.heap.size) := Lib.hid Mp_w3.out.lt; have Lq_m : Hid (Q < w3.heap.size) := Lib.hid Mq_w3.out.lt; have Ln_m : Hid (w1.heap.size < w3.heap.size) := Lib.hid Mn_w3.out.lt; have Zm : Hid (w.heap.size ≤ w3.heap.size) := Lib.hid B_w3.out.size; have B_w4 : Hid (Below w.heap.size w w4) := Lib.hid (hP.below (stepB B_w3.out (below_new w3 _)) B_w3.out.size); have Mp_w4 : Hid (BK 24 w4 (w.heap.size) [.slice A1 X.length c1, .int .i64 L]) := Lib.hid (hP.other (BK.alloc Mp_w3.out _) (Nat.ne_of_lt Mp_w3.out.lt)); have Mq_w4 : Hid (BK 24 w4 (Q) [.slice (some ⟨bq, oq, none⟩) X.length c2, .int .i64 L]) := Lib.hid (hP.other (BK.alloc Mq_w3.out _) (Nat.ne_of_lt Mq_w3.out.lt)); have Mn_w4 : Hid (BK 24 w4 (w1.heap.size) [.slice A3 Y.length c3, .int .i64 L]) := Lib.hid (hP.other (BK.alloc Mn_w3.out _) (Nat.ne_of_lt Mn_w3.out.lt)); have Sc_w4 : Hid (IL w4 w4.heap.size A3 Y) := Lib.hid (CL.step Sc_w3.out (hP.below (below_new w3 _) (Nat.le_refl _))); have Sd_w4 : Hid (IL w4 w4.heap.size A4 Y) := Lib.hid (CL.step Sd_w3.out (hP.below (below_new w3 _) (Nat.le_refl _))); clear B_w3 Mp_w3 Mq_w3 Mn_w3 Sc_w3 Sd_w3 hM hP)
                obtain ⟨x4v1, hx4v1⟩ : ∃ x4v1, x4v1 = World.drew w4 := ⟨_, rfl⟩
                have hbD : Below w4.heap.size w4 x4v1 := by rw [hx4v1]; exact (Below.refl _ _).drew
                have B_x4v1 : Hid (Below w.heap.size w x4v1) := Lib.hid (stepB B_w4.out hbD)
                have Mp_x4v1 : Hid (BK 24 x4v1 (w.heap.size) [.slice A1 X.length c1, .int .i64 L]) := Lib.hid (Mp_w4.out.step hbD)
                have Mq_x4v1 : Hid (BK 24 x4v1 (Q) [.slice (some ⟨bq, oq, none⟩) X.length c2, .int .i64 L]) := Lib.hid (Mq_w4.out.step hbD)
                have Mn_x4v1 : Hid (BK 24 x4v1 (w1.heap.size) [.slice A3 Y.length c3, .int .i64 L]) := Lib.hid (Mn_w4.out.step hbD)
                have Mm_x4v1 : Hid (BK 24 x4v1 (w3.heap.size) [.slice A4 Y.length c4, .int .i64 L]) := Lib.hid (Mm_w4.out.step hbD)
                have Sc_x4v1 : Hid (IL x4v1 x4v1.heap.size A3 Y) := Lib.hid (CL.step Sc_w4.out hbD)
                have Sd_x4v1 : Hid (IL x4v1 x4v1.heap.size A4 Y) := Lib.hid (CL.step Sd_w4.out hbD)
                clear B_w4 Mp_w4 Mq_w4 Mn_w4 Mm_w4 Sc_w4 Sd_w4
                have hbd : (fun w' => BK 24 w' (w1.heap.size) [.slice A3 Y.length c3, .int .i64 L] ∧ BK 24 w' (w3.heap.size) [.slice A4 Y.length c4, .int .i64 L]) (World.drew w4) := by rw [← hx4v1]; exact ⟨Mn_x4v1.out, Mm_x4v1.out⟩
                have hSD : (fun w' => BK 24 w' (w1.heap.size) [.slice A3 Y.length c3, .int .i64 L] ∧ BK 24 w' (w3.heap.size) [.slice A4 Y.length c4, .int .i64 L]) x4v1 := ⟨Mn_x4v1.out, Mm_x4v1.out⟩
                have HWD := Lib.hid hx4v1
                clear hx4v1 hbD
                refine wp_region_held_drew (S := fun w' => BK 24 w' (w1.heap.size) [.slice A3 Y.length c3, .int .i64 L] ∧ BK 24 w' (w3.heap.size) [.slice A4 Y.length c4, .int .i64 L]) (by kernel_rfl) hbd (fun hHeld => ?_)
                rw [← HWD.out]
                clear hHeld
                have hHeld := hSD
                clear hSD hbd HWD
                refine wpAnyH_take (i := 0) (v := .agg [.slice A3 Y.length c3, .int .i64 L].toArray) (get_ops _ _ _ rfl) (by kernel_rfl) (by kernel_rfl) (by kernel_rfl) (fun _ _ _ h => h) (Or.inl ⟨by rfl, fun wS hSw => by (try dsimp only at hSw); exact exec_load 24 _ rfl ⟨(w1.heap.size), 0, none⟩ (by go_simp) _ (run_load_all hSw.1 Try.underlying24 rfl infoP2)⟩) hHeld ?_
                try simp only [Act.put, List.setIfInBounds_toArray, List.set_cons_zero, List.set_cons_succ]
                refine wpAnyH_take (i := 1) (v := .agg [.slice A4 Y.length c4, .int .i64 L].toArray) (get_ops _ _ _ rfl) (by kernel_rfl) (by kernel_rfl) (by kernel_rfl) (fun _ _ _ h => h) (Or.inl ⟨by rfl, fun wS hSw => by (try dsimp only at hSw); exact exec_load 24 _ rfl ⟨(w3.heap.size), 0, none⟩ (by go_simp) _ (run_load_all hSw.2 Try.underlying24 rfl infoP2)⟩) hHeld ?_
                try simp only [Act.put, List.setIfInBounds_toArray, List.set_cons_zero, List.set_cons_succ]
                refine wpAnyH_ready (rs := [2]) (by kernel_rfl) (by simp) ?_
                refine (AllReadyH.cons (get_ops _ _ _ rfl) (fun K hK => ?_) AllReadyH.nil)
                refine wp_store_all 24 _ _ rfl rfl (w.heap.size) (by go_simp) [.slice A3 Y.length c3, .int .i64 L] (by go_simp) 24 [.slice A1 X.length c1, .int .i64 L] Mp_x4v1.out infoP2 rfl (one2 _ _ _ _) ?_
                intro x4v2 hM hP
                have Mp_x4v2 : Hid (BK 24 x4v2 (w.heap.size) [.slice A3 Y.length c3, .int .i64 L]) := Lib.hid hM
                have B_x4v2 : Hid (Below w.heap.size w x4v2) := Lib.hid (hP.below B_x4v1.out Zp.out)
                have Mq_x4v2 : Hid (BK 24 x4v2 (Q) [.slice (some ⟨bq, oq, none⟩) X.length c2, .int .i64 L]) := Lib.hid (hP.other Mq_x4v1.out (Nat.ne_of_gt Lp_q.out))
                have Mn_x4v2 : Hid (BK 24 x4v2 (w1.heap.size) [.slice A3 Y.length c3, .int .i64 L]) := Lib.hid (hP.other Mn_x4v1.out (Nat.ne_of_gt Lp_n.out))
                have Mm_x4v2 : Hid (BK 24 x4v2 (w3.heap.size) [.slice A4 Y.length c4, .int .i64 L]) := Lib.hid (hP.other Mm_x4v1.out (Nat.ne_of_gt Lp_m.out))
                have Sc_x4v2 : Hid (IL x4v2 x4v2.heap.size A3 Y) := Lib.hid (IL.put Sc_x4v1.out hP Oc_p.out)
                have Sd_x4v2 : Hid (IL x4v2 x4v2.heap.size A4 Y) := Lib.hid (IL.put Sd_x4v1.out hP Od_p.out)
                clear B_x4v1 Mp_x4v1 Mq_x4v1 Mn_x4v1 Mm_x4v1 Sc_x4v1 Sd_x4v1 hM hP
                clear hHeld
                refine hK.out _ _ ⟨Mn_x4v2.out, Mm_x4v2.out⟩ (fun hHeld => ?_)
                clear hK K
                try simp only [Act.put, List.setIfInBounds_toArray, List.set_cons_zero, List.set_cons_succ]
                refine wpAnyH_ready (rs := [3]) (by kernel_rfl) (by simp) ?_
                refine (AllReadyH.cons (get_ops _ _ _ rfl) (fun K hK => ?_) AllReadyH.nil)
                refine wp_store_all 24 _ _ rfl rfl (Q) (by go_simp) [.slice A4 Y.length c4, .int .i64 L] (by go_simp) 24 [.slice (some ⟨bq, oq, none⟩) X.length c2, .int .i64 L] Mq_x4v2.out infoP2 rfl (one2 _ _ _ _) ?_
                intro x4v3 hM hP
                have Mq_x4v3 : Hid (BK 24 x4v3 (Q) [.slice A4 Y.length c4, .int .i64 L]) := Lib.hid hM
                have B_x4v3 : Hid (Below w.heap.size w x4v3) := Lib.hid (hP.below B_x4v2.out Zq.out)
                have Mp_x4v3 : Hid (BK 24 x4v3 (w.heap.size) [.slice A3 Y.length c3, .int .i64 L]) := Lib.hid (hP.other Mp_x4v2.out (Nat.ne_of_lt Lp_q.out))
                have Mn_x4v3 : Hid (BK 24 x4v3 (w1.heap.size) [.slice A3 Y.length c3, .int .i64 L]) := Lib.hid (hP.other Mn_x4v2.out (Nat.ne_of_gt Lq_n.out))
                have Mm_x4v3 : Hid (BK 24 x4v3 (w3.heap.size) [.slice A4 Y.length c4, .int .i64 L]) := Lib.hid (hP.other Mm_x4v2.out (Nat.ne_of_gt Lq_m.out))
                have Sc_x4v3 : Hid (IL x4v3 x4v3.heap.size A3 Y) := Lib.hid (IL.put Sc_x4v2.out hP Oc_q.out)
                have Sd_x4v3 : Hid (IL x4v3 x4v3.heap.size A4 Y) := Lib.hid (IL.put Sd_x4v2.out hP Od_q.out)
                clear B_x4v2 Mp_x4v2 Mq_x4v2 Mn_x4v2 Mm_x4v2 Sc_x4v2 Sd_x4v2 hM hP
                clear hHeld
                refine hK.out _ _ ⟨Mn_x4v3.out, Mm_x4v3.out⟩ (fun hHeld => ?_)
                clear hK K
                try simp only [Act.put, List.setIfInBounds_toArray, List.set_cons_zero, List.set_cons_succ]
                refine wpAnyH_done (by kernel_rfl) ?_ _
                have dp0 := Mp_x4v3.out.cell 0 rfl
                have dp1 := Mp_x4v3.out.cell 1 rfl
                have dq0 := Mq_x4v3.out.cell 0 rfl
                have dq1 := Mq_x4v3.out.cell 1 rfl
                go_wp2_with fail
                refine (same_self A3 A4 c3 c4 Y L x4v3 Sc_x4v3.out Sd_x4v3.out (by have := (ck_ok.1 HT.out).1; omega)).mono ?_
                rintro e w6 ⟨rfl, hb⟩
                have B_w6 : Hid (Below w.heap.size w w6) := Lib.hid (stepB B_x4v3.out hb)
                have Mp_w6 : Hid (BK 24 w6 (w.heap.size) [.slice A3 Y.length c3, .int .i64 L]) := Lib.hid (Mp_x4v3.out.step hb)
                have Mq_w6 : Hid (BK 24 w6 (Q) [.slice A4 Y.length c4, .int .i64 L]) := Lib.hid (Mq_x4v3.out.step hb)
                have Mn_w6 : Hid (BK 24 w6 (w1.heap.size) [.slice A3 Y.length c3, .int .i64 L]) := Lib.hid (Mn_x4v3.out.step hb)
                have Mm_w6 : Hid (BK 24 w6 (w3.heap.size) [.slice A4 Y.length c4, .int .i64 L]) := Lib.hid (Mm_x4v3.out.step hb)
                have Sc_w6 : Hid (IL w6 w6.heap.size A3 Y) := Lib.hid (CL.step Sc_x4v3.out hb)
                have Sd_w6 : Hid (IL w6 w6.heap.size A4 Y) := Lib.hid (CL.step Sd_x4v3.out hb)
                clear dp0 dp1 dq0 dq1
                clear B_x4v3 Mp_x4v3 Mq_x4v3 Mn_x4v3 Mm_x4v3 Sc_x4v3 Sd_x4v3
                clear hb
                have dp0 := Mp_w6.out.cell 0 rfl
                have dp1 := Mp_w6.out.cell 1 rfl
                go_wp2_with fail
                refine (iCheck_ok A3 c3 Y L w6 Sc_w6.out HC3.out HT.out).mono ?_
                rintro e w7 ⟨rfl, hb⟩
                have B_w7 : Hid (Below w.heap.size w w7) := Lib.hid (stepB B_w6.out hb)
                have Mp_w7 : Hid (BK 24 w7 (w.heap.size) [.slice A3 Y.length c3, .int .i64 L]) := Lib.hid (Mp_w6.out.step hb)
                have Mq_w7 : Hid (BK 24 w7 (Q) [.slice A4 Y.length c4, .int .i64 L]) := Lib.hid (Mq_w6.out.step hb)
                have Mn_w7 : Hid (BK 24 w7 (w1.heap.size) [.slice A3 Y.length c3, .int .i64 L]) := Lib.hid (Mn_w6.out.step hb)
                have Mm_w7 : Hid (BK 24 w7 (w3.heap.size) [.slice A4 Y.length c4, .int .i64 L]) := Lib.hid (Mm_w6.out.step hb)
                have Sc_w7 : Hid (IL w7 w7.heap.size A3 Y) := Lib.hid (CL.step Sc_w6.out hb)
                have Sd_w7 : Hid (IL w7 w7.heap.size A4 Y) := Lib.hid (CL.step Sd_w6.out hb)
                clear dp0 dp1
                clear B_w6 Mp_w6 Mq_w6 Mn_w6 Mm_w6 Sc_w6 Sd_w6
                clear hb
                go_wp2_with fail
                go_roundg g
                case measure => omega
                case rel => exact ⟨k + 1, Y, L, A3, c3, A4, c4, by have := HG.out; omega, by first | rfl | exact nxt k (by have := HK.out; omega), ⟨HT.out, Mp_w7.out, Mq_w7.out, Sc_w7.out, Sd_w7.out, HC3.out, HC4.out, Oc_p.out, Oc_q.out, Od_p.out, Od_q.out, B_w7.out⟩⟩
              · have qn : decide (x < 0) = true := decide_eq_true hneg
                have ql : decide ((0 : Int) < (X.length : Int)) = false := decide_eq_false (by omega)
                have ql2 : decide (0 < X.length) = false := decide_eq_false (by omega)
                have hn1 : -9223372036854775808 ≤ x := hxr.1
                have hn2 : x ≤ 9223372036854775807 := hxr.2
                have c3 := fun w h => iFree_any A1 c1 X L x w h HC1.out HV.out hn1 hn2
                have c4 := fun w h => rFree_any A2 c2 X L x w h (by have := (ck_ok.1 HV.out).1; omega)
                have HT := Lib.hid (del_ok (n := x) HV.out)
                have C3 := Lib.hid c3
                have C4 := Lib.hid c4
                generalize delI X x = Y at C3 C4 HT
                generalize decide (x ∈ X) = Bv at C3 C4
                have hbv : (Bv != Bv) = false := by simp
                clear c3 c4 hn1 hn2
                clear hx0 hxr hneg
                have dp0 := Mp_wr.out.cell 0 rfl
                have dp1 := Mp_wr.out.cell 1 rfl
                have dq0 := Mq_wr.out.cell 0 rfl
                have dq1 := Mq_wr.out.cell 1 rfl
                go_wp2_with fail
                have LWpc : Hid (w.heap.size < wr.heap.size) := Lib.hid Mp_wr.out.lt
                have LWqc : Hid (Q < wr.heap.size) := Lib.hid Mq_wr.out.lt
                refine (C3.out wr Sa_wr.out).mono ?_
                rintro e w1 ⟨A3, c3, rfl, hc3, hs3, hf3, hb⟩
                have B_w1 : Hid (Below w.heap.size w w1) := Lib.hid (stepB B_wr.out hb)
                have Mp_w1 : Hid (BK 24 w1 (w.heap.size) [.slice A1 X.length c1, .int .i64 L]) := Lib.hid (Mp_wr.out.step hb)
                have Mq_w1 : Hid (BK 24 w1 (Q) [.slice A2 X.length c2, .int .i64 L]) := Lib.hid (Mq_wr.out.step hb)
                have Sa_w1 : Hid (IL w1 w1.heap.size A1 X) := Lib.hid (CL.step Sa_wr.out hb)
                have Sb_w1 : Hid (IL w1 w1.heap.size A2 X) := Lib.hid (CL.step Sb_wr.out hb)
                clear dp0 dp1 dq0 dq1 kv
                clear B_wr Mp_wr Mq_wr Sa_wr Sb_wr
                clear hb
                have Sc_w1 := Lib.hid (hs3)
                have HC3 := Lib.hid hc3
                have Oc_p : Hid (Off (w.heap.size) A3 Y) := Lib.hid (Oa_p.out.fr hf3 LWpc.out)
                have Oc_q : Hid (Off (Q) A3 Y) := Lib.hid (Oa_q.out.fr hf3 LWqc.out)
                clear hs3 hc3 hf3
                have dq0 := Mq_w1.out.cell 0 rfl
                have dq1 := Mq_w1.out.cell 1 rfl
                go_wp2_with first | (refine wpList_store_all (by rfl) 24 (.tmp 15) (.tmp 93) rfl rfl (w1.heap.size) rfl [.slice A3 Y.length c3, .int .i64 L] rfl 24 [.slice none 0 0, .int .i64 0] (BK.new w1 _ _) infoP2 rfl (one2 _ _ _ _) ?_; intro w2 hM hP; have Mn_w2 : Hid (BK 24 w2 (w1.heap.size) [.slice A3 Y.length c3, .int .i64 L]) := Lib.hid hM; have Lp_n : Hid (w.heap.size < w1.heap.size) := Lib.hid Mp_w1.out.lt; have Lq_n : Hid (Q < w1.heap.size) := Lib.hid Mq_w1.out.lt; have Zn : Hid (w.heap.size ≤ w1.heap.size) := Lib.hid B_w1.out.size; have B_w2 : Hid (Below w.heap.size w w2) := Lib.hid (hP.below (stepB B_w1.out (below_new w1 _)) B_w1.out.size); have Mp_w2 : Hid (BK 24 w2 (w.heap.size) [.slice A1 X.length c1, .int .i64 L]) := Lib.hid (hP.other (BK.alloc Mp_w1.out _) (Nat.ne_of_lt Mp_w1.out.lt)); have Mq_w2 : Hid (BK 24 w2 (Q) [.slice A2 X.length c2, .int .i64 L]) := Lib.hid (hP.other (BK.alloc Mq_w1.out _) (Nat.ne_of_lt Mq_w1.out.lt)); have Sa_w2 : Hid (IL w2 w2.heap.size A1 X) := Lib.hid (CL.step Sa_w1.out (hP.below (below_new w1 _) (Nat.le_refl _))); have Sb_w2 : Hid (IL w2 w2.heap.size A2 X) := Lib.hid (CL.step Sb_w1.out (hP.below (below_new w1 _) (Nat.le_refl _))); have Sc_w2 : Hid (IL w2 w2.heap.size A3 Y) := Lib.hid (CL.step Sc_w1.out (hP.below (below_new w1 _) (Nat.le_refl _))); clear B_w1 Mp_w1 Mq_w1 Sa_w1 Sb_w1 Sc_w1 hM hP dq0 dq1; have dq0 := Mq_w2.out.cell 0 rfl; have dq1 := Mq_w2.out.cell 1 rfl)
                have LWpd : Hid (w.heap.size < w2.heap.size) := Lib.hid Mp_w2.out.lt
                have LWqd : Hid (Q < w2.heap.size) := Lib.hid Mq_w2.out.lt
                refine (C4.out w2 Sb_w2.out).mono ?_
                rintro e w3 ⟨A4, c4, rfl, hc4, hs4, hf4, hb⟩
                have B_w3 : Hid (Below w.heap.size w w3) := Lib.hid (stepB B_w2.out hb)
                have Mp_w3 : Hid (BK 24 w3 (w.heap.size) [.slice A1 X.length c1, .int .i64 L]) := Lib.hid (Mp_w2.out.step hb)
                have Mq_w3 : Hid (BK 24 w3 (Q) [.slice A2 X.length c2, .int .i64 L]) := Lib.hid (Mq_w2.out.step hb)
                have Mn_w3 : Hid (BK 24 w3 (w1.heap.size) [.slice A3 Y.length c3, .int .i64 L]) := Lib.hid (Mn_w2.out.step hb)
                have Sa_w3 : Hid (IL w3 w3.heap.size A1 X) := Lib.hid (CL.step Sa_w2.out hb)
                have Sb_w3 : Hid (IL w3 w3.heap.size A2 X) := Lib.hid (CL.step Sb_w2.out hb)
                have Sc_w3 : Hid (IL w3 w3.heap.size A3 Y) := Lib.hid (CL.step Sc_w2.out hb)
                clear dq0 dq1
                clear B_w2 Mp_w2 Mq_w2 Mn_w2 Sa_w2 Sb_w2 Sc_w2
                clear hb
                have Sd_w3 := Lib.hid (hs4)
                have HC4 := Lib.hid hc4
                have Od_p : Hid (Off (w.heap.size) A4 Y) := Lib.hid (Ob_p.out.fr hf4 LWpd.out)
                have Od_q : Hid (Off (Q) A4 Y) := Lib.hid (Ob_q.out.fr hf4 LWqd.out)
                clear hs4 hc4 hf4
                clear Sa_w3
                clear Sb_w3
                go_upto_region 22 with first | (refine wpList_store_all (by rfl) 24 (.tmp 17) (.tmp 99) rfl rfl (w3.heap.size) rfl [.slice A4 Y.length c4, .int .i64 L] rfl 24 [.slice none 0 0, .int .i64 0] (BK.new w3 _ _) infoP2 rfl (one2 _ _ _ _) ?_; intro w4 hM hP; have Mm_w4 : Hid (BK 24 w4 (w3.heap.size) [.slice A4 Y.length c4, .int .i64 L]) := Lib.hid hM; have Lp_m : Hid (w.heap.size < w3.heap.size) := Lib.hid Mp_w3.out.lt; have Lq_m : Hid (Q < w3.heap.size) := Lib.hid Mq_w3.out.lt; have Ln_m : Hid (w1.heap.size < w3.heap.size) := Lib.hid Mn_w3.out.lt; have Zm : Hid (w.heap.size ≤ w3.heap.size) := Lib.hid B_w3.out.size; have B_w4 : Hid (Below w.heap.size w w4) := Lib.hid (hP.below (stepB B_w3.out (below_new w3 _)) B_w3.out.size); have Mp_w4 : Hid (BK 24 w4 (w.heap.size) [.slice A1 X.length c1, .int .i64 L]) := Lib.hid (hP.other (BK.alloc Mp_w3.out _) (Nat.ne_of_lt Mp_w3.out.lt)); have Mq_w4 : Hid (BK 24 w4 (Q) [.slice A2 X.length c2, .int .i64 L]) := Lib.hid (hP.other (BK.alloc Mq_w3.out _) (Nat.ne_of_lt Mq_w3.out.lt)); have Mn_w4 : Hid (BK 24 w4 (w1.heap.size) [.slice A3 Y.length c3, .int .i64 L]) := Lib.hid (hP.other (BK.alloc Mn_w3.out _) (Nat.ne_of_lt Mn_w3.out.lt)); have Sc_w4 : Hid (IL w4 w4.heap.size A3 Y) := Lib.hid (CL.step Sc_w3.out (hP.below (below_new w3 _) (Nat.le_refl _))); have Sd_w4 : Hid (IL w4 w4.heap.size A4 Y) := Lib.hid (CL.step Sd_w3.out (hP.below (below_new w3 _) (Nat.le_refl _))); clear B_w3 Mp_w3 Mq_w3 Mn_w3 Sc_w3 Sd_w3 hM hP)
                obtain ⟨x4v1, hx4v1⟩ : ∃ x4v1, x4v1 = World.drew w4 := ⟨_, rfl⟩
                have hbD : Below w4.heap.size w4 x4v1 := by rw [hx4v1]; exact (Below.refl _ _).drew
                have B_x4v1 : Hid (Below w.heap.size w x4v1) := Lib.hid (stepB B_w4.out hbD)
                have Mp_x4v1 : Hid (BK 24 x4v1 (w.heap.size) [.slice A1 X.length c1, .int .i64 L]) := Lib.hid (Mp_w4.out.step hbD)
                have Mq_x4v1 : Hid (BK 24 x4v1 (Q) [.slice A2 X.length c2, .int .i64 L]) := Lib.hid (Mq_w4.out.step hbD)
                have Mn_x4v1 : Hid (BK 24 x4v1 (w1.heap.size) [.slice A3 Y.length c3, .int .i64 L]) := Lib.hid (Mn_w4.out.step hbD)
                have Mm_x4v1 : Hid (BK 24 x4v1 (w3.heap.size) [.slice A4 Y.length c4, .int .i64 L]) := Lib.hid (Mm_w4.out.step hbD)
                have Sc_x4v1 : Hid (IL x4v1 x4v1.heap.size A3 Y) := Lib.hid (CL.step Sc_w4.out hbD)
                have Sd_x4v1 : Hid (IL x4v1 x4v1.heap.size A4 Y) := Lib.hid (CL.step Sd_w4.out hbD)
                clear B_w4 Mp_w4 Mq_w4 Mn_w4 Mm_w4 Sc_w4 Sd_w4
                have hbd : (fun w' => BK 24 w' (w1.heap.size) [.slice A3 Y.length c3, .int .i64 L] ∧ BK 24 w' (w3.heap.size) [.slice A4 Y.length c4, .int .i64 L]) (World.drew w4) := by rw [← hx4v1]; exact ⟨Mn_x4v1.out, Mm_x4v1.out⟩
                have hSD : (fun w' => BK 24 w' (w1.heap.size) [.slice A3 Y.length c3, .int .i64 L] ∧ BK 24 w' (w3.heap.size) [.slice A4 Y.length c4, .int .i64 L]) x4v1 := ⟨Mn_x4v1.out, Mm_x4v1.out⟩
                have HWD := Lib.hid hx4v1
                clear hx4v1 hbD
                refine wp_region_held_drew (S := fun w' => BK 24 w' (w1.heap.size) [.slice A3 Y.length c3, .int .i64 L] ∧ BK 24 w' (w3.heap.size) [.slice A4 Y.length c4, .int .i64 L]) (by kernel_rfl) hbd (fun hHeld => ?_)
                rw [← HWD.out]
                clear hHeld
                have hHeld := hSD
                clear hSD hbd HWD
                refine wpAnyH_take (i := 0) (v := .agg [.slice A3 Y.length c3, .int .i64 L].toArray) (get_ops _ _ _ rfl) (by kernel_rfl) (by kernel_rfl) (by kernel_rfl) (fun _ _ _ h => h) (Or.inl ⟨by rfl, fun wS hSw => by (try dsimp only at hSw); exact exec_load 24 _ rfl ⟨(w1.heap.size), 0, none⟩ (by go_simp) _ (run_load_all hSw.1 Try.underlying24 rfl infoP2)⟩) hHeld ?_
                try simp only [Act.put, List.setIfInBounds_toArray, List.set_cons_zero, List.set_cons_succ]
                refine wpAnyH_take (i := 1) (v := .agg [.slice A4 Y.length c4, .int .i64 L].toArray) (get_ops _ _ _ rfl) (by kernel_rfl) (by kernel_rfl) (by kernel_rfl) (fun _ _ _ h => h) (Or.inl ⟨by rfl, fun wS hSw => by (try dsimp only at hSw); exact exec_load 24 _ rfl ⟨(w3.heap.size), 0, none⟩ (by go_simp) _ (run_load_all hSw.2 Try.underlying24 rfl infoP2)⟩) hHeld ?_
                try simp only [Act.put, List.setIfInBounds_toArray, List.set_cons_zero, List.set_cons_succ]
                refine wpAnyH_ready (rs := [2]) (by kernel_rfl) (by simp) ?_
                refine (AllReadyH.cons (get_ops _ _ _ rfl) (fun K hK => ?_) AllReadyH.nil)
                refine wp_store_all 24 _ _ rfl rfl (w.heap.size) (by go_simp) [.slice A3 Y.length c3, .int .i64 L] (by go_simp) 24 [.slice A1 X.length c1, .int .i64 L] Mp_x4v1.out infoP2 rfl (one2 _ _ _ _) ?_
                intro x4v2 hM hP
                have Mp_x4v2 : Hid (BK 24 x4v2 (w.heap.size) [.slice A3 Y.length c3, .int .i64 L]) := Lib.hid hM
                have B_x4v2 : Hid (Below w.heap.size w x4v2) := Lib.hid (hP.below B_x4v1.out Zp.out)
                have Mq_x4v2 : Hid (BK 24 x4v2 (Q) [.slice A2 X.length c2, .int .i64 L]) := Lib.hid (hP.other Mq_x4v1.out (Nat.ne_of_gt Lp_q.out))
                have Mn_x4v2 : Hid (BK 24 x4v2 (w1.heap.size) [.slice A3 Y.length c3, .int .i64 L]) := Lib.hid (hP.other Mn_x4v1.out (Nat.ne_of_gt Lp_n.out))
                have Mm_x4v2 : Hid (BK 24 x4v2 (w3.heap.size) [.slice A4 Y.length c4, .int .i64 L]) := Lib.hid (hP.other Mm_x4v1.out (Nat.ne_of_gt Lp_m.out))
                have Sc_x4v2 : Hid (IL x4v2 x4v2.heap.size A3 Y) := Lib.hid (IL.put Sc_x4v1.out hP Oc_p.out)
                have Sd_x4v2 : Hid (IL x4v2 x4v2.heap.size A4 Y) := Lib.hid (IL.put Sd_x4v1.out hP Od_p.out)
                clear B_x4v1 Mp_x4v1 Mq_x4v1 Mn_x4v1 Mm_x4v1 Sc_x4v1 Sd_x4v1 hM hP
                clear hHeld
                refine hK.out _ _ ⟨Mn_x4v2.out, Mm_x4v2.out⟩ (fun hHeld => ?_)
                clear hK K
                try simp only [Act.put, List.setIfInBounds_toArray, List.set_cons_zero, List.set_cons_succ]
                refine wpAnyH_ready (rs := [3]) (by kernel_rfl) (by simp) ?_
                refine (AllReadyH.cons (get_ops _ _ _ rfl) (fun K hK => ?_) AllReadyH.nil)
                refine wp_store_all 24 _ _ rfl rfl (Q) (by go_simp) [.slice A4 Y.length c4, .int .i64 L] (by go_simp) 24 [.slice A2 X.length c2, .int .i64 L] Mq_x4v2.out infoP2 rfl (one2 _ _ _ _) ?_
                intro x4v3 hM hP
                have Mq_x4v3 : Hid (BK 24 x4v3 (Q) [.slice A4 Y.length c4, .int .i64 L]) := Lib.hid hM
                have B_x4v3 : Hid (Below w.heap.size w x4v3) := Lib.hid (hP.below B_x4v2.out Zq.out)
                have Mp_x4v3 : Hid (BK 24 x4v3 (w.heap.size) [.slice A3 Y.length c3, .int .i64 L]) := Lib.hid (hP.other Mp_x4v2.out (Nat.ne_of_lt Lp_q.out))
                have Mn_x4v3 : Hid (BK 24 x4v3 (w1.heap.size) [.slice A3 Y.length c3, .int .i64 L]) := Lib.hid (hP.other Mn_x4v2.out (Nat.ne_of_gt Lq_n.out))
                have Mm_x4v3 : Hid (BK 24 x4v3 (w3.heap.size) [.slice A4 Y.length c4, .int .i64 L]) := Lib.hid (hP.other Mm_x4v2.out (Nat.ne_of_gt Lq_m.out))
                have Sc_x4v3 : Hid (IL x4v3 x4v3.heap.size A3 Y) := Lib.hid (IL.put Sc_x4v2.out hP Oc_q.out)
                have Sd_x4v3 : Hid (IL x4v3 x4v3.heap.size A4 Y) := Lib.hid (IL.put Sd_x4v2.out hP Od_q.out)
                clear B_x4v2 Mp_x4v2 Mq_x4v2 Mn_x4v2 Mm_x4v2 Sc_x4v2 Sd_x4v2 hM hP
                clear hHeld
                refine hK.out _ _ ⟨Mn_x4v3.out, Mm_x4v3.out⟩ (fun hHeld => ?_)
                clear hK K
                try simp only [Act.put, List.setIfInBounds_toArray, List.set_cons_zero, List.set_cons_succ]
                refine wpAnyH_done (by kernel_rfl) ?_ _
                have dp0 := Mp_x4v3.out.cell 0 rfl
                have dp1 := Mp_x4v3.out.cell 1 rfl
                have dq0 := Mq_x4v3.out.cell 0 rfl
                have dq1 := Mq_x4v3.out.cell 1 rfl
                go_wp2_with fail
                refine (same_self A3 A4 c3 c4 Y L x4v3 Sc_x4v3.out Sd_x4v3.out (by have := (ck_ok.1 HT.out).1; omega)).mono ?_
                rintro e w6 ⟨rfl, hb⟩
                have B_w6 : Hid (Below w.heap.size w w6) := Lib.hid (stepB B_x4v3.out hb)
                have Mp_w6 : Hid (BK 24 w6 (w.heap.size) [.slice A3 Y.length c3, .int .i64 L]) := Lib.hid (Mp_x4v3.out.step hb)
                have Mq_w6 : Hid (BK 24 w6 (Q) [.slice A4 Y.length c4, .int .i64 L]) := Lib.hid (Mq_x4v3.out.step hb)
                have Mn_w6 : Hid (BK 24 w6 (w1.heap.size) [.slice A3 Y.length c3, .int .i64 L]) := Lib.hid (Mn_x4v3.out.step hb)
                have Mm_w6 : Hid (BK 24 w6 (w3.heap.size) [.slice A4 Y.length c4, .int .i64 L]) := Lib.hid (Mm_x4v3.out.step hb)
                have Sc_w6 : Hid (IL w6 w6.heap.size A3 Y) := Lib.hid (CL.step Sc_x4v3.out hb)
                have Sd_w6 : Hid (IL w6 w6.heap.size A4 Y) := Lib.hid (CL.step Sd_x4v3.out hb)
                clear dp0 dp1 dq0 dq1
                clear B_x4v3 Mp_x4v3 Mq_x4v3 Mn_x4v3 Mm_x4v3 Sc_x4v3 Sd_x4v3
                clear hb
                have dp0 := Mp_w6.out.cell 0 rfl
                have dp1 := Mp_w6.out.cell 1 rfl
                go_wp2_with fail
                refine (iCheck_ok A3 c3 Y L w6 Sc_w6.out HC3.out HT.out).mono ?_
                rintro e w7 ⟨rfl, hb⟩
                have B_w7 : Hid (Below w.heap.size w w7) := Lib.hid (stepB B_w6.out hb)
                have Mp_w7 : Hid (BK 24 w7 (w.heap.size) [.slice A3 Y.length c3, .int .i64 L]) := Lib.hid (Mp_w6.out.step hb)
                have Mq_w7 : Hid (BK 24 w7 (Q) [.slice A4 Y.length c4, .int .i64 L]) := Lib.hid (Mq_w6.out.step hb)
                have Mn_w7 : Hid (BK 24 w7 (w1.heap.size) [.slice A3 Y.length c3, .int .i64 L]) := Lib.hid (Mn_w6.out.step hb)
                have Mm_w7 : Hid (BK 24 w7 (w3.heap.size) [.slice A4 Y.length c4, .int .i64 L]) := Lib.hid (Mm_w6.out.step hb)
                have Sc_w7 : Hid (IL w7 w7.heap.size A3 Y) := Lib.hid (CL.step Sc_w6.out hb)
                have Sd_w7 : Hid (IL w7 w7.heap.size A4 Y) := Lib.hid (CL.step Sd_w6.out hb)
                clear dp0 dp1
                clear B_w6 Mp_w6 Mq_w6 Mn_w6 Mm_w6 Sc_w6 Sd_w6
                clear hb
                go_wp2_with fail
                go_roundg g
                case measure => omega
                case rel => exact ⟨k + 1, Y, L, A3, c3, A4, c4, by have := HG.out; omega, by first | rfl | exact nxt k (by have := HK.out; omega), ⟨HT.out, Mp_w7.out, Mq_w7.out, Sc_w7.out, Sd_w7.out, HC3.out, HC4.out, Oc_p.out, Oc_q.out, Od_p.out, Od_q.out, B_w7.out⟩⟩
            · have qn : decide (x < 0) = false := decide_eq_false hneg
              have hn1 : -9223372036854775808 ≤ x := hxr.1
              have hn2 : x ≤ 9223372036854775807 := hxr.2
              have c3 := fun w h => iFree_any A1 c1 X L x w h HC1.out HV.out hn1 hn2
              have c4 := fun w h => rFree_any A2 c2 X L x w h (by have := (ck_ok.1 HV.out).1; omega)
              have HT := Lib.hid (del_ok (n := x) HV.out)
              have C3 := Lib.hid c3
              have C4 := Lib.hid c4
              generalize delI X x = Y at C3 C4 HT
              generalize decide (x ∈ X) = Bv at C3 C4
              have hbv : (Bv != Bv) = false := by simp
              clear c3 c4 hn1 hn2
              clear hx0 hxr hneg
              have dp0 := Mp_wr.out.cell 0 rfl
              have dp1 := Mp_wr.out.cell 1 rfl
              have dq0 := Mq_wr.out.cell 0 rfl
              have dq1 := Mq_wr.out.cell 1 rfl
              go_wp2_with fail
              have LWpc : Hid (w.heap.size < wr.heap.size) := Lib.hid Mp_wr.out.lt
              have LWqc : Hid (Q < wr.heap.size) := Lib.hid Mq_wr.out.lt
              refine (C3.out wr Sa_wr.out).mono ?_
              rintro e w1 ⟨A3, c3, rfl, hc3, hs3, hf3, hb⟩
              have B_w1 : Hid (Below w.heap.size w w1) := Lib.hid (stepB B_wr.out hb)
              have Mp_w1 : Hid (BK 24 w1 (w.heap.size) [.slice A1 X.length c1, .int .i64 L]) := Lib.hid (Mp_wr.out.step hb)
              have Mq_w1 : Hid (BK 24 w1 (Q) [.slice A2 X.length c2, .int .i64 L]) := Lib.hid (Mq_wr.out.step hb)
              have Sa_w1 : Hid (IL w1 w1.heap.size A1 X) := Lib.hid (CL.step Sa_wr.out hb)
              have Sb_w1 : Hid (IL w1 w1.heap.size A2 X) := Lib.hid (CL.step Sb_wr.out hb)
              clear dp0 dp1 dq0 dq1 kv
              clear B_wr Mp_wr Mq_wr Sa_wr Sb_wr
              clear hb
              have Sc_w1 := Lib.hid (hs3)
              have HC3 := Lib.hid hc3
              have Oc_p : Hid (Off (w.heap.size) A3 Y) := Lib.hid (Oa_p.out.fr hf3 LWpc.out)
              have Oc_q : Hid (Off (Q) A3 Y) := Lib.hid (Oa_q.out.fr hf3 LWqc.out)
              clear hs3 hc3 hf3
              have dq0 := Mq_w1.out.cell 0 rfl
              have dq1 := Mq_w1.out.cell 1 rfl
              go_wp2_with first | (refine wpList_store_all (by rfl) 24 (.tmp 15) (.tmp 93) rfl rfl (w1.heap.size) rfl [.slice A3 Y.length c3, .int .i64 L] rfl 24 [.slice none 0 0, .int .i64 0] (BK.new w1 _ _) infoP2 rfl (one2 _ _ _ _) ?_; intro w2 hM hP; have Mn_w2 : Hid (BK 24 w2 (w1.heap.size) [.slice A3 Y.length c3, .int .i64 L]) := Lib.hid hM; have Lp_n : Hid (w.heap.size < w1.heap.size) := Lib.hid Mp_w1.out.lt; have Lq_n : Hid (Q < w1.heap.size) := Lib.hid Mq_w1.out.lt; have Zn : Hid (w.heap.size ≤ w1.heap.size) := Lib.hid B_w1.out.size; have B_w2 : Hid (Below w.heap.size w w2) := Lib.hid (hP.below (stepB B_w1.out (below_new w1 _)) B_w1.out.size); have Mp_w2 : Hid (BK 24 w2 (w.heap.size) [.slice A1 X.length c1, .int .i64 L]) := Lib.hid (hP.other (BK.alloc Mp_w1.out _) (Nat.ne_of_lt Mp_w1.out.lt)); have Mq_w2 : Hid (BK 24 w2 (Q) [.slice A2 X.length c2, .int .i64 L]) := Lib.hid (hP.other (BK.alloc Mq_w1.out _) (Nat.ne_of_lt Mq_w1.out.lt)); have Sa_w2 : Hid (IL w2 w2.heap.size A1 X) := Lib.hid (CL.step Sa_w1.out (hP.below (below_new w1 _) (Nat.le_refl _))); have Sb_w2 : Hid (IL w2 w2.heap.size A2 X) := Lib.hid (CL.step Sb_w1.out (hP.below (below_new w1 _) (Nat.le_refl _))); have Sc_w2 : Hid (IL w2 w2.heap.size A3 Y) := Lib.hid (CL.step Sc_w1.out (hP.below (below_new w1 _) (Nat.le_refl _))); clear B_w1 Mp_w1 Mq_w1 Sa_w1 Sb_w1 Sc_w1 hM hP dq0 dq1; have dq0 := Mq_w2.out.cell 0 rfl; have dq1 := Mq_w2.out.cell 1 rfl)
              have LWpd : Hid (w.heap.size < w2.heap.size) := Lib.hid Mp_w2.out.lt
              have LWqd : Hid (Q < w2.heap.size) := Lib.hid Mq_w2.out.lt
              refine (C4.out w2 Sb_w2.out).mono ?_
              rintro e w3 ⟨A4, c4, rfl, hc4, hs4, hf4, hb⟩
              have B_w3 : Hid (Below w.heap.size w w3) := Lib.hid (stepB B_w2.out hb)
              have Mp_w3 : Hid (BK 24 w3 (w.heap.size) [.slice A1 X.length c1, .int .i64 L]) := Lib.hid (Mp_w2.out.step hb)
              have Mq_w3 : Hid (BK 24 w3 (Q) [.slice A2 X.length c2, .int .i64 L]) := Lib.hid (Mq_w2.out.step hb)
              have Mn_w3 : Hid (BK 24 w3 (w1.heap.size) [.slice A3 Y.length c3, .int .i64 L]) := Lib.hid (Mn_w2.out.step hb)
              have Sa_w3 : Hid (IL w3 w3.heap.size A1 X) := Lib.hid (CL.step Sa_w2.out hb)
              have Sb_w3 : Hid (IL w3 w3.heap.size A2 X) := Lib.hid (CL.step Sb_w2.out hb)
              have Sc_w3 : Hid (IL w3 w3.heap.size A3 Y) := Lib.hid (CL.step Sc_w2.out hb)
              clear dq0 dq1
              clear B_w2 Mp_w2 Mq_w2 Mn_w2 Sa_w2 Sb_w2 Sc_w2
              clear hb
              have Sd_w3 := Lib.hid (hs4)
              have HC4 := Lib.hid hc4
              have Od_p : Hid (Off (w.heap.size) A4 Y) := Lib.hid (Ob_p.out.fr hf4 LWpd.out)
              have Od_q : Hid (Off (Q) A4 Y) := Lib.hid (Ob_q.out.fr hf4 LWqd.out)
              clear hs4 hc4 hf4
              clear Sa_w3
              clear Sb_w3
              go_upto_region 22 with first | (refine wpList_store_all (by rfl) 24 (.tmp 17) (.tmp 99) rfl rfl (w3.heap.size) rfl [.slice A4 Y.length c4, .int .i64 L] rfl 24 [.slice none 0 0, .int .i64 0] (BK.new w3 _ _) infoP2 rfl (one2 _ _ _ _) ?_; intro w4 hM hP; have Mm_w4 : Hid (BK 24 w4 (w3.heap.size) [.slice A4 Y.length c4, .int .i64 L]) := Lib.hid hM; have Lp_m : Hid (w.heap.size < w3.heap.size) := Lib.hid Mp_w3.out.lt; have Lq_m : Hid (Q < w3.heap.size) := Lib.hid Mq_w3.out.lt; have Ln_m : Hid (w1.heap.size < w3.heap.size) := Lib.hid Mn_w3.out.lt; have Zm : Hid (w.heap.size ≤ w3.heap.size) := Lib.hid B_w3.out.size; have B_w4 : Hid (Below w.heap.size w w4) := Lib.hid (hP.below (stepB B_w3.out (below_new w3 _)) B_w3.out.size); have Mp_w4 : Hid (BK 24 w4 (w.heap.size) [.slice A1 X.length c1, .int .i64 L]) := Lib.hid (hP.other (BK.alloc Mp_w3.out _) (Nat.ne_of_lt Mp_w3.out.lt)); have Mq_w4 : Hid (BK 24 w4 (Q) [.slice A2 X.length c2, .int .i64 L]) := Lib.hid (hP.other (BK.alloc Mq_w3.out _) (Nat.ne_of_lt Mq_w3.out.lt)); have Mn_w4 : Hid (BK 24 w4 (w1.heap.size) [.slice A3 Y.length c3, .int .i64 L]) := Lib.hid (hP.other (BK.alloc Mn_w3.out _) (Nat.ne_of_lt Mn_w3.out.lt)); have Sc_w4 : Hid (IL w4 w4.heap.size A3 Y) := Lib.hid (CL.step Sc_w3.out (hP.below (below_new w3 _) (Nat.le_refl _))); have Sd_w4 : Hid (IL w4 w4.heap.size A4 Y) := Lib.hid (CL.step Sd_w3.out (hP.below (below_new w3 _) (Nat.le_refl _))); clear B_w3 Mp_w3 Mq_w3 Mn_w3 Sc_w3 Sd_w3 hM hP)
              obtain ⟨x4v1, hx4v1⟩ : ∃ x4v1, x4v1 = World.drew w4 := ⟨_, rfl⟩
              have hbD : Below w4.heap.size w4 x4v1 := by rw [hx4v1]; exact (Below.refl _ _).drew
              have B_x4v1 : Hid (Below w.heap.size w x4v1) := Lib.hid (stepB B_w4.out hbD)
              have Mp_x4v1 : Hid (BK 24 x4v1 (w.heap.size) [.slice A1 X.length c1, .int .i64 L]) := Lib.hid (Mp_w4.out.step hbD)
              have Mq_x4v1 : Hid (BK 24 x4v1 (Q) [.slice A2 X.length c2, .int .i64 L]) := Lib.hid (Mq_w4.out.step hbD)
              have Mn_x4v1 : Hid (BK 24 x4v1 (w1.heap.size) [.slice A3 Y.length c3, .int .i64 L]) := Lib.hid (Mn_w4.out.step hbD)
              have Mm_x4v1 : Hid (BK 24 x4v1 (w3.heap.size) [.slice A4 Y.length c4, .int .i64 L]) := Lib.hid (Mm_w4.out.step hbD)
              have Sc_x4v1 : Hid (IL x4v1 x4v1.heap.size A3 Y) := Lib.hid (CL.step Sc_w4.out hbD)
              have Sd_x4v1 : Hid (IL x4v1 x4v1.heap.size A4 Y) := Lib.hid (CL.step Sd_w4.out hbD)
              clear B_w4 Mp_w4 Mq_w4 Mn_w4 Mm_w4 Sc_w4 Sd_w4
              have hbd : (fun w' => BK 24 w' (w1.heap.size) [.slice A3 Y.length c3, .int .i64 L] ∧ BK 24 w' (w3.heap.size) [.slice A4 Y.length c4, .int .i64 L]) (World.drew w4) := by rw [← hx4v1]; exact ⟨Mn_x4v1.out, Mm_x4v1.out⟩
              have hSD : (fun w' => BK 24 w' (w1.heap.size) [.slice A3 Y.length c3, .int .i64 L] ∧ BK 24 w' (w3.heap.size) [.slice A4 Y.length c4, .int .i64 L]) x4v1 := ⟨Mn_x4v1.out, Mm_x4v1.out⟩
              have HWD := Lib.hid hx4v1
              clear hx4v1 hbD
              refine wp_region_held_drew (S := fun w' => BK 24 w' (w1.heap.size) [.slice A3 Y.length c3, .int .i64 L] ∧ BK 24 w' (w3.heap.size) [.slice A4 Y.length c4, .int .i64 L]) (by kernel_rfl) hbd (fun hHeld => ?_)
              rw [← HWD.out]
              clear hHeld
              have hHeld := hSD
              clear hSD hbd HWD
              refine wpAnyH_take (i := 0) (v := .agg [.slice A3 Y.length c3, .int .i64 L].toArray) (get_ops _ _ _ rfl) (by kernel_rfl) (by kernel_rfl) (by kernel_rfl) (fun _ _ _ h => h) (Or.inl ⟨by rfl, fun wS hSw => by (try dsimp only at hSw); exact exec_load 24 _ rfl ⟨(w1.heap.size), 0, none⟩ (by go_simp) _ (run_load_all hSw.1 Try.underlying24 rfl infoP2)⟩) hHeld ?_
              try simp only [Act.put, List.setIfInBounds_toArray, List.set_cons_zero, List.set_cons_succ]
              refine wpAnyH_take (i := 1) (v := .agg [.slice A4 Y.length c4, .int .i64 L].toArray) (get_ops _ _ _ rfl) (by kernel_rfl) (by kernel_rfl) (by kernel_rfl) (fun _ _ _ h => h) (Or.inl ⟨by rfl, fun wS hSw => by (try dsimp only at hSw); exact exec_load 24 _ rfl ⟨(w3.heap.size), 0, none⟩ (by go_simp) _ (run_load_all hSw.2 Try.underlying24 rfl infoP2)⟩) hHeld ?_
              try simp only [Act.put, List.setIfInBounds_toArray, List.set_cons_zero, List.set_cons_succ]
              refine wpAnyH_ready (rs := [2]) (by kernel_rfl) (by simp) ?_
              refine (AllReadyH.cons (get_ops _ _ _ rfl) (fun K hK => ?_) AllReadyH.nil)
              refine wp_store_all 24 _ _ rfl rfl (w.heap.size) (by go_simp) [.slice A3 Y.length c3, .int .i64 L] (by go_simp) 24 [.slice A1 X.length c1, .int .i64 L] Mp_x4v1.out infoP2 rfl (one2 _ _ _ _) ?_
              intro x4v2 hM hP
              have Mp_x4v2 : Hid (BK 24 x4v2 (w.heap.size) [.slice A3 Y.length c3, .int .i64 L]) := Lib.hid hM
              have B_x4v2 : Hid (Below w.heap.size w x4v2) := Lib.hid (hP.below B_x4v1.out Zp.out)
              have Mq_x4v2 : Hid (BK 24 x4v2 (Q) [.slice A2 X.length c2, .int .i64 L]) := Lib.hid (hP.other Mq_x4v1.out (Nat.ne_of_gt Lp_q.out))
              have Mn_x4v2 : Hid (BK 24 x4v2 (w1.heap.size) [.slice A3 Y.length c3, .int .i64 L]) := Lib.hid (hP.other Mn_x4v1.out (Nat.ne_of_gt Lp_n.out))
              have Mm_x4v2 : Hid (BK 24 x4v2 (w3.heap.size) [.slice A4 Y.length c4, .int .i64 L]) := Lib.hid (hP.other Mm_x4v1.out (Nat.ne_of_gt Lp_m.out))
              have Sc_x4v2 : Hid (IL x4v2 x4v2.heap.size A3 Y) := Lib.hid (IL.put Sc_x4v1.out hP Oc_p.out)
              have Sd_x4v2 : Hid (IL x4v2 x4v2.heap.size A4 Y) := Lib.hid (IL.put Sd_x4v1.out hP Od_p.out)
              clear B_x4v1 Mp_x4v1 Mq_x4v1 Mn_x4v1 Mm_x4v1 Sc_x4v1 Sd_x4v1 hM hP
              clear hHeld
              refine hK.out _ _ ⟨Mn_x4v2.out, Mm_x4v2.out⟩ (fun hHeld => ?_)
              clear hK K
              try simp only [Act.put, List.setIfInBounds_toArray, List.set_cons_zero, List.set_cons_succ]
              refine wpAnyH_ready (rs := [3]) (by kernel_rfl) (by simp) ?_
              refine (AllReadyH.cons (get_ops _ _ _ rfl) (fun K hK => ?_) AllReadyH.nil)
              refine wp_store_all 24 _ _ rfl rfl (Q) (by go_simp) [.slice A4 Y.length c4, .int .i64 L] (by go_simp) 24 [.slice A2 X.length c2, .int .i64 L] Mq_x4v2.out infoP2 rfl (one2 _ _ _ _) ?_
              intro x4v3 hM hP
              have Mq_x4v3 : Hid (BK 24 x4v3 (Q) [.slice A4 Y.length c4, .int .i64 L]) := Lib.hid hM
              have B_x4v3 : Hid (Below w.heap.size w x4v3) := Lib.hid (hP.below B_x4v2.out Zq.out)
              have Mp_x4v3 : Hid (BK 24 x4v3 (w.heap.size) [.slice A3 Y.length c3, .int .i64 L]) := Lib.hid (hP.other Mp_x4v2.out (Nat.ne_of_lt Lp_q.out))
              have Mn_x4v3 : Hid (BK 24 x4v3 (w1.heap.size) [.slice A3 Y.length c3, .int .i64 L]) := Lib.hid (hP.other Mn_x4v2.out (Nat.ne_of_gt Lq_n.out))
              have Mm_x4v3 : Hid (BK 24 x4v3 (w3.heap.size) [.slice A4 Y.length c4, .int .i64 L]) := Lib.hid (hP.other Mm_x4v2.out (Nat.ne_of_gt Lq_m.out))
              have Sc_x4v3 : Hid (IL x4v3 x4v3.heap.size A3 Y) := Lib.hid (IL.put Sc_x4v2.out hP Oc_q.out)
              have Sd_x4v3 : Hid (IL x4v3 x4v3.heap.size A4 Y) := Lib.hid (IL.put Sd_x4v2.out hP Od_q.out)
              clear B_x4v2 Mp_x4v2 Mq_x4v2 Mn_x4v2 Mm_x4v2 Sc_x4v2 Sd_x4v2 hM hP
              clear hHeld
              refine hK.out _ _ ⟨Mn_x4v3.out, Mm_x4v3.out⟩ (fun hHeld => ?_)
              clear hK K
              try simp only [Act.put, List.setIfInBounds_toArray, List.set_cons_zero, List.set_cons_succ]
              refine wpAnyH_done (by kernel_rfl) ?_ _
              have dp0 := Mp_x4v3.out.cell 0 rfl
              have dp1 := Mp_x4v3.out.cell 1 rfl
              have dq0 := Mq_x4v3.out.cell 0 rfl
              have dq1 := Mq_x4v3.out.cell 1 rfl
              go_wp2_with fail
              refine (same_self A3 A4 c3 c4 Y L x4v3 Sc_x4v3.out Sd_x4v3.out (by have := (ck_ok.1 HT.out).1; omega)).mono ?_
              rintro e w6 ⟨rfl, hb⟩
              have B_w6 : Hid (Below w.heap.size w w6) := Lib.hid (stepB B_x4v3.out hb)
              have Mp_w6 : Hid (BK 24 w6 (w.heap.size) [.slice A3 Y.length c3, .int .i64 L]) := Lib.hid (Mp_x4v3.out.step hb)
              have Mq_w6 : Hid (BK 24 w6 (Q) [.slice A4 Y.length c4, .int .i64 L]) := Lib.hid (Mq_x4v3.out.step hb)
              have Mn_w6 : Hid (BK 24 w6 (w1.heap.size) [.slice A3 Y.length c3, .int .i64 L]) := Lib.hid (Mn_x4v3.out.step hb)
              have Mm_w6 : Hid (BK 24 w6 (w3.heap.size) [.slice A4 Y.length c4, .int .i64 L]) := Lib.hid (Mm_x4v3.out.step hb)
              have Sc_w6 : Hid (IL w6 w6.heap.size A3 Y) := Lib.hid (CL.step Sc_x4v3.out hb)
              have Sd_w6 : Hid (IL w6 w6.heap.size A4 Y) := Lib.hid (CL.step Sd_x4v3.out hb)
              clear dp0 dp1 dq0 dq1
              clear B_x4v3 Mp_x4v3 Mq_x4v3 Mn_x4v3 Mm_x4v3 Sc_x4v3 Sd_x4v3
              clear hb
              have dp0 := Mp_w6.out.cell 0 rfl
              have dp1 := Mp_w6.out.cell 1 rfl
              go_wp2_with fail
              refine (iCheck_ok A3 c3 Y L w6 Sc_w6.out HC3.out HT.out).mono ?_
              rintro e w7 ⟨rfl, hb⟩
              have B_w7 : Hid (Below w.heap.size w w7) := Lib.hid (stepB B_w6.out hb)
              have Mp_w7 : Hid (BK 24 w7 (w.heap.size) [.slice A3 Y.length c3, .int .i64 L]) := Lib.hid (Mp_w6.out.step hb)
              have Mq_w7 : Hid (BK 24 w7 (Q) [.slice A4 Y.length c4, .int .i64 L]) := Lib.hid (Mq_w6.out.step hb)
              have Mn_w7 : Hid (BK 24 w7 (w1.heap.size) [.slice A3 Y.length c3, .int .i64 L]) := Lib.hid (Mn_w6.out.step hb)
              have Mm_w7 : Hid (BK 24 w7 (w3.heap.size) [.slice A4 Y.length c4, .int .i64 L]) := Lib.hid (Mm_w6.out.step hb)
              have Sc_w7 : Hid (IL w7 w7.heap.size A3 Y) := Lib.hid (CL.step Sc_w6.out hb)
              have Sd_w7 : Hid (IL w7 w7.heap.size A4 Y) := Lib.hid (CL.step Sd_w6.out hb)
              clear dp0 dp1
              clear B_w6 Mp_w6 Mq_w6 Mn_w6 Mm_w6 Sc_w6 Sd_w6
              clear hb
              go_wp2_with fail
              go_roundg g
              case measure => omega
              case rel => exact ⟨k + 1, Y, L, A3, c3, A4, c4, by have := HG.out; omega, by first | rfl | exact nxt k (by have := HK.out; omega), ⟨HT.out, Mp_w7.out, Mq_w7.out, Sc_w7.out, Sd_w7.out, HC3.out, HC4.out, Oc_p.out, Oc_q.out, Od_p.out, Od_q.out, B_w7.out⟩⟩
        · have q80 : decide ((k : Int) < 80) = false := decide_eq_false (by omega)
          have q80n : decide (k < 80) = false := decide_eq_false (by omega)
          have j2 : (k : Int) < (Xo.length : Int) := by omega
          have e3n : decide (k < Xo.length) = true := decide_eq_true hlt
          clear hkg So hlt h80
          go_wp2_with fail
          refine (HA.out wr).mono ?_
          rintro e w1 ⟨rfl, hb⟩
          have B_w1 : Hid (Below w.heap.size w w1) := Lib.hid (stepB B_wr.out hb)
          have Mp_w1 : Hid (BK 24 w1 (w.heap.size) [.slice A1 X.length c1, .int .i64 L]) := Lib.hid (Mp_wr.out.step hb)
          have Mq_w1 : Hid (BK 24 w1 (Q) [.slice A2 X.length c2, .int .i64 L]) := Lib.hid (Mq_wr.out.step hb)
          have Sa_w1 : Hid (IL w1 w1.heap.size A1 X) := Lib.hid (CL.step Sa_wr.out hb)
          have Sb_w1 : Hid (IL w1 w1.heap.size A2 X) := Lib.hid (CL.step Sb_wr.out hb)
          clear B_wr Mp_wr Mq_wr Sa_wr Sb_wr
          clear hb
          go_wp2_with fail
          go_ret
          exact ⟨rfl, B_w1.out⟩
  · have q0 : ((C : Int) != 0) = true := by simp [hv]
    clear hv
    clear So_w HBX HC
    go_enter Try.func7, Try.ntmps7
    go_wp2_with first | (refine wpList_store_all (by rfl) 24 (.tmp 5) (.tmp 20) rfl rfl (w.heap.size) rfl [.slice none 0 0, .int .i64 last] rfl 24 [.slice none 0 0, .int .i64 0] (BK.new w _ _) infoP2 rfl (one2 _ _ _ _) ?_; intro w1 hM hP; have Mp_w1 : Hid (BK 24 w1 (w.heap.size) [.slice none 0 0, .int .i64 last]) := Lib.hid hM; have Zp : Hid (w.heap.size ≤ w.heap.size) := Lib.hid (Nat.le_refl _); have B_w1 : Hid (Below w.heap.size w w1) := Lib.hid (hP.below (below_new w _) (Nat.le_refl _)); clear hM hP; have dp0 := Mp_w1.out.cell 0 rfl; have dp1 := Mp_w1.out.cell 1 rfl)
    refine (C1.out w1).mono ?_
    rintro e w2 ⟨rfl, hb⟩
    have B_w2 : Hid (Below w.heap.size w w2) := Lib.hid (stepB B_w1.out hb)
    have Mp_w2 : Hid (BK 24 w2 (w.heap.size) [.slice none 0 0, .int .i64 last]) := Lib.hid (Mp_w1.out.step hb)
    clear dp0 dp1
    clear B_w1 Mp_w1
    clear hb
    go_wp2_with fail
    refine (HA.out w2).mono ?_
    rintro e w3 ⟨rfl, hb⟩
    have B_w3 : Hid (Below w.heap.size w w3) := Lib.hid (stepB B_w2.out hb)
    have Mp_w3 : Hid (BK 24 w3 (w.heap.size) [.slice none 0 0, .int .i64 last]) := Lib.hid (Mp_w2.out.step hb)
    clear B_w2 Mp_w2
    clear hb
    go_wp2_with fail
    go_ret
    exact ⟨rfl, B_w3.out⟩
end Go.Proofs.Ytdjlggfipabciaa
