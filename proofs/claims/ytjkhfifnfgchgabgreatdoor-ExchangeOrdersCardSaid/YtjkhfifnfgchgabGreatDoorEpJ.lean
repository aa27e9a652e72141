/-
  What Declare of exchange and of brokerref24 answer: the routes with an exchange more, or the error. Conditions: the lists read as data, the names ascend; few elements; lengths fit an int.
-/
import Derived.Test.YtjkhfifnfgchgabGreatDoorEpI
namespace Go.Proofs.YtjkhfifnfgchgabGreatDoor
open Go.RowKit
open S2 (BK Put get_ops)

theorem three_laid {T1 T2 T3 : TypeId} {w w1 : World} {v1 v2 v3 : List Value} (h : w1 = ((w.alloc (.cells v1.toArray T1)).alloc (.cells v2.toArray T2)).alloc (.cells v3.toArray T3)) :
    BK T1 w1 w.heap.size v1 ∧ BK T2 w1 (w.heap.size + 1) v2 ∧ BK T3 w1 (w.heap.size + 2) v3 ∧ Below w.heap.size w w1 ∧ w1.heap.size = w.heap.size + 3 := by
  obtain ⟨wa, ha⟩ : ∃ x, x = (w.alloc (.cells v1.toArray T1)).alloc (.cells v2.toArray T2) := ⟨_, rfl⟩
  rw [← ha] at h
  obtain ⟨h1, h2, h3, h4⟩ := S2.two_laid ha
  have hb : Below wa.heap.size wa w1 := by rw [h]; exact S2.below_new wa _
  exact ⟨h1.step hb, h2.step hb, by rw [h, ← h3]; exact BK.new wa _ _, stepB h4 hb, by rw [h]; simp; omega⟩
/-- from world to world, below a lower block -/
theorem stepO {a w w' : World} {B0 B : Nat} (h : Below B0 a w) (h' : Below B w w') (hB : B0 ≤ B) : Below B0 a w' := h.trans (h'.mono hB)
theorem RtN.nil {B : Nat} {w : World} : RtN B w (.slice none 0 0) [] (.slice none 0 0) [] := ⟨OwnG.nil _ _, Lst.nil, fun k e => by simp [Value.ownBlock] at e⟩
theorem RtN.ins {B : Nat} {w w' : World} {v1 v1' v2 : Value} {l l' : List Ex} {ys : List BE} (h : RtN B w v1 l v2 ys) (ho : OwnE w' B v1' l') (hk : Kpv v1 v1' w w') : RtN B w' v1' l' v2 ys :=
  ⟨ho, h.b.keepb hk.size (fun b e => hk.keep b (own_lt h.b.1 b e).2 (fun e2 => (h.d b e2).1 e)) (fun x hx b o e hn hlt => hk.keep b hlt (fun e2 => (h.d b e2).2 x hx b o e hn rfl)), fun k e => by
    rcases hk.own k e with h2 | h2
    · exact h.d k h2
    · exact ⟨fun e2 => by have := (own_lt h.b.1 k e2).2; omega, fun y hy b o e2 hn e3 => by have := PL.lt (h.b.2 y hy).1 hn b o e2; omega⟩⟩
theorem RtOff.ins {g : Nat} {w w' : World} {v1 v1' v2 : Value} {ys : List BE} (h : RtOff g v1 v2 ys) (hk : Kpv v1 v1' w w') (hg : g < w.heap.size) : RtOff g v1' v2 ys :=
  ⟨fun e => by rcases hk.own g e with h2 | h2; exact h.e h2; omega, h.b, h.p⟩
theorem RtN.app {B : Nat} {w w' : World} {v1 v2 v2' : Value} {l : List Ex} {ys : List BE} {y : BE} (h : RtN B w v1 l v2 ys) (hl : LstB B w' v2' (ys ++ [y])) (hk : Kpv v2 v2' w w') (hy : ∀ k, v1.ownBlock = some k → ∀ b o, y.a = some ⟨b, o, none⟩ → b ≠ k) : RtN B w' v1 l v2' (ys ++ [y]) :=
  ⟨h.e.keepb (fun b e => hk.keep b (own_lt h.e b e).2 (h.d b e).1), hl, fun k e => ⟨fun e2 => by
    rcases hk.own k e2 with h2 | h2
    · exact (h.d k e).1 h2
    · have := (own_lt h.e k e).2; omega, fun z hz b o e2 hn => by
    rcases List.mem_append.1 hz with hz | hz
    · exact (h.d k e).2 z hz b o e2 hn
    · simp at hz
      subst hz
      exact hy k e b o e2⟩⟩
theorem RtOff.app {g : Nat} {w w' : World} {v1 v2 v2' : Value} {ys : List BE} {y : BE} (h : RtOff g v1 v2 ys) (hk : Kpv v2 v2' w w') (hg : g < w.heap.size) (hy : ∀ b o, y.a = some ⟨b, o, none⟩ → b ≠ g) : RtOff g v1 v2' (ys ++ [y]) :=
  ⟨h.e, fun e => by rcases hk.own g e with h2 | h2; exact h.b h2; omega, fun z hz b o e hn => by
    rcases List.mem_append.1 hz with hz | hz
    · exact h.p z hz b o e hn
    · simp at hz
      subst hz
      exact hy b o e⟩
theorem declR_err {l : List Ex} {x : Ex} (h : exR x ≠ 0) : declR l x = ([], exR x) := by unfold declR; rw [if_pos h]
theorem declR_same {l : List Ex} {x : Ex} (h0 : exR x = 0) (hg : getE l x.nm = some x) : declR l x = (l, 0) := by unfold declR; rw [if_neg (by simp [h0]), hg]; simp
theorem declR_other {l : List Ex} {x y : Ex} (h0 : exR x = 0) (hg : getE l x.nm = some y) (hne : y ≠ x) : declR l x = ([], 7) := by unfold declR; rw [if_neg (by simp [h0]), hg]; simp [hne]
theorem declR_full {l : List Ex} {x : Ex} (h0 : exR x = 0) (hg : getE l x.nm = none) (h : 32 ≤ l.length) : declR l x = ([], 6) := by unfold declR; rw [if_neg (by simp [h0]), hg]; simp [h]
theorem declR_new {l : List Ex} {x : Ex} (h0 : exR x = 0) (hg : getE l x.nm = none) (h : ¬ 32 ≤ l.length) : declR l x = (insE l x, 0) := by unfold declR; rw [if_neg (by simp [h0]), hg]; simp [h]
/-- what Declare answers -/
def RetDe (l : List Ex) (bs : List Bd) (x : Ex) (W : World) (e : Ending) (w' : World) : Prop := ∃ v1 v2 ys, e = .returned (.tuple #[.agg #[v1, v2], .int .i64 (declR l x).2]) ∧ ys.map BE.d = (if (declR l x).2 = 0 then bs else []) ∧ RtN W.heap.size w' v1 (declR l x).1 v2 ys ∧ Below W.heap.size W w'
theorem pos_of {l : List Ex} {n : ByteArray} (ha : BsE l n (posE l n) (posE l n)) {k : Nat} (hk : k ≤ l.length) (h1 : ∀ j y, j < k → l[j]? = some y → ltS y.nm n = true) (h2 : ∀ y, l[k]? = some y → ltS y.nm n = false) : posE l n = k := by
  rcases Nat.lt_trichotomy (posE l n) k with h | h | h
  · obtain ⟨y, hy⟩ : ∃ y, l[posE l n]? = some y := ⟨_, List.getElem?_eq_getElem (by omega)⟩
    have := h1 _ y h hy
    rw [ha.2.2.2 _ y (Nat.le_refl _) hy] at this
    cases this
  · exact h
  · obtain ⟨y, hy⟩ : ∃ y, l[k]? = some y := ⟨_, List.getElem?_eq_getElem (by have := ha.2.1; omega)⟩
    have := h2 y hy
    rw [ha.2.2.1 _ y h hy] at this
    cases this
theorem zeroRt (w : World) : (zeroValue 25).run Tryz.prog w = .ok (.agg #[.slice none 0 0, .slice none 0 0]) w := by kernel_rfl

set_option maxRecDepth 20000 in
set_option maxHeartbeats 8000000 in
theorem xDeclare_any (A1 : Option Addr) (c1 : Nat) (l : List Ex) (A2 : Option Addr) (c2 : Nat) (xs : List BE) (x : Ex) (w : World) (h1 : EL w w.heap.size A1 l) (h2 : BI w w.heap.size A2 xs) (hf : Few xs) (hn1 : l.length ≤ 100000) (hn2 : xs.length ≤ 100000) (ha : AscE l) :
    Calls Tryz.prog 10 #[rtV A1 l.length c1 A2 xs.length c2, exV x] w (RetDe l (xs.map BE.d) x w) := by
  have HCX := Lib.hid (fun w1 => checkExchange_any x w1)
  have HFI := Lib.hid (fun w1 h1 => find_any A1 c1 l x.nm w1 h1 ha (by omega))
  have HCR := Lib.hid (fun w1 h1 h2 => copyRoutes_any A1 c1 l A2 c2 xs w1 h1 h2 hf hn1 hn2)
  have HGP := Lib.hid (fun y h => @getE_pos l ha x.nm y h)
  have HPB := Lib.hid (posE_bs ha x.nm)
  have HL := Lib.hid h1
  have HX := Lib.hid h2
  have HN1 := Lib.hid hn1
  clear h1 h2 hf hn1 hn2 ha
  unfold rtV at HCR
  have HV : Hid (exV x = .agg (gE x).toArray) := Lib.hid rfl
  rw [HV.out]
  have CX : gE x = [.string x.nm, .int .i64 x.kd, .string x.alt] := rfl
  rw [CX]
  clear CX
  go_enter Tryz.func10, Tryz.ntmps10
  go_upto_region 1 with fail
  refine name_world (C := fun w1 => Code.wp _ _ _ _ w1) (((w.alloc (.cells [.slice A1 l.length c1, .slice A2 xs.length c2].toArray 25)).alloc (.cells [.string x.nm, .int .i64 x.kd, .string x.alt].toArray 32)).alloc (.cells [.slice none 0 0, .slice none 0 0].toArray 25)) ?_
  intro w1 hw1
  obtain ⟨u1, u2, u3, hB0, hs0⟩ := three_laid hw1
  have T_w1 := Lib.hid u1
  have X_w1 : Hid (BK 32 w1 (w.heap.size + 1) (gE x)) := Lib.hid u2
  have Z_w1 := Lib.hid u3
  have B_w1 := Lib.hid hB0
  have L_w1 := Lib.hid (GL.step HL.out hB0)
  have S_w1 := Lib.hid (LI.step HX.out hB0)
  clear hw1 u1 u2 u3 hB0 hs0 HL HX HV
  have HLX := Lib.hid (load_ex0 X_w1.out)
  go_wp2_with first
    | (refine wpList_load_v (by rfl) 32 (.tmp 3) rfl ⟨w.heap.size + 1, 0, none⟩ rfl _ HLX.out ?_)
  obtain ⟨er, her0⟩ : ∃ er, exR x = er := ⟨_, rfl⟩
  rw [her0] at HCX
  have HER := Lib.hid her0
  clear her0
  refine (HCX.out _).mono ?_
  rintro e w2 ⟨rfl, hb⟩
  have T_w2 := Lib.hid (T_w1.out.step hb)
  have X_w2 := Lib.hid (X_w1.out.step hb)
  have Z_w2 := Lib.hid (Z_w1.out.step hb)
  have B_w2 := Lib.hid (stepB B_w1.out hb)
  have L_w2 := Lib.hid (GL.step L_w1.out hb)
  have S_w2 := Lib.hid (LI.step S_w1.out hb)
  clear hb T_w1 X_w1 Z_w1 B_w1 L_w1 S_w1
  clear HLX HCX
  by_cases her : er = 0
  · subst her
    unfold retS foundE at HFI
    have HPL := Lib.hid (posE_le l x.nm)
    have HIN : Hid (insE l x = insX l (posE l x.nm) x) := Lib.hid (by unfold insE insX; simp)
    generalize posE l x.nm = pos at *
    have d0 := X_w2.out.cell 0 rfl
    have t0 := T_w2.out.cell 0 rfl
    obtain ⟨og, hog⟩ : ∃ o, getE l x.nm = o := ⟨_, rfl⟩
    rw [hog] at HFI HGP
    have HOG := Lib.hid hog
    clear hog
    go_wp2_with fail
    refine (HFI.out _ L_w2.out).mono ?_
    rintro e w3 ⟨rfl, hb⟩
    clear d0 t0 HFI
    have T_w3 := Lib.hid (T_w2.out.step hb)
    have X_w3 := Lib.hid (X_w2.out.step hb)
    have Z_w3 := Lib.hid (Z_w2.out.step hb)
    have B_w3 := Lib.hid (stepB B_w2.out hb)
    have L_w3 := Lib.hid (GL.step L_w2.out hb)
    have S_w3 := Lib.hid (LI.step S_w2.out hb)
    clear hb T_w2 X_w2 Z_w2 B_w2 L_w2 S_w2
    cases og with
    | some y =>
      have hy := HGP.out y rfl
      obtain ⟨b, o, hA, hbB, hcl⟩ := EL.at_ L_w3.out hy
      have j1 : (0 : Int) ≤ (pos : Int) := by omega
      have j2 : (pos : Int) < (l.length : Int) := by have := (List.getElem?_eq_some_iff.1 hy).1; omega
      have k0 : w3.cell? ⟨b, o + pos * 3, none⟩ = some (.string y.nm) := hcl 0 _ rfl
      have k1 : w3.cell? ⟨b, o + pos * 3 + 1, none⟩ = some (.int .i64 y.kd) := hcl 1 _ rfl
      have k2 : w3.cell? ⟨b, o + pos * 3 + 2, none⟩ = some (.string y.alt) := hcl 2 _ rfl
      subst hA
      have t0 := T_w3.out.cell 0 rfl
      have d0 := X_w3.out.cell 0 rfl
      have d1 := X_w3.out.cell 1 rfl
      have d2 := X_w3.out.cell 2 rfl
      have hx2 := eqEx y x
      have hg2 := guardEx .eql (.tmp 31) (.tmp 32) (gE y).toArray (gE x).toArray
      unfold exV gE at hx2
      unfold gE at hg2
      clear hy hcl hbB HPL HPB HGP HIN
      by_cases hyx : y = x
      · have HYX := Lib.hid hyx
        rw [decide_eq_true hyx] at hx2
        clear hyx
        go_upto_region 5 with fail
        go_quiet (fail)
        rename Nat => nq
        have hb := S2.bDN w3 nq
        obtain ⟨w4, hw4⟩ : ∃ w4, w4 = World.drewN w3 nq := ⟨_, rfl⟩
        rw [← hw4] at hb ⊢
        clear hw4 k0 k1 k2 t0 d0 d1 d2 hx2 hg2
        have T_w4 := Lib.hid (T_w3.out.step hb)
        have X_w4 := Lib.hid (X_w3.out.step hb)
        have Z_w4 := Lib.hid (Z_w3.out.step hb)
        have B_w4 := Lib.hid (stepB B_w3.out hb)
        have L_w4 := Lib.hid (GL.step L_w3.out hb)
        have S_w4 := Lib.hid (LI.step S_w3.out hb)
        clear hb T_w3 X_w3 Z_w3 B_w3 L_w3 S_w3
        have HLT : Hid ((loadVar 25 ⟨w.heap.size, 0, none⟩).run Tryz.prog w4 = .ok (.agg #[.slice (some ⟨b, o, none⟩) l.length c1, .slice A2 xs.length c2]) w4) := Lib.hid (S2.run_load_all T_w4.out Tryz.underlying25 rfl rtSize)
        go_wp2_with first
          | (refine wpList_load_v (by rfl) 25 (.tmp 2) rfl ⟨w.heap.size, 0, none⟩ rfl _ HLT.out ?_)
        refine (HCR.out _ L_w4.out S_w4.out).mono ?_
        rintro e w5 ⟨v1, v2, ys, rfl, hys, hrt, hb⟩
        have HYS := Lib.hid hys
        obtain ⟨Ae, ce, Av, cv, hv1, hv2, _⟩ := hrt.ret
        subst hv1
        subst hv2
        have HOFF : Hid (RtOff (w.heap.size + 2) (.slice Ae l.length ce) (.slice Av ys.length cv) ys) := Lib.hid (hrt.low Z_w4.out.lt)
        have R_w5 := Lib.hid (RtN.weak hrt B_w4.out.size)
        clear hys hrt HLT
        have Z_w5 := Lib.hid (Z_w4.out.step hb)
        have B_w5 := Lib.hid (stepB B_w4.out hb)
        clear hb Z_w4 B_w4
        have HZL := Lib.hid Z_w5.out
        go_wp2_with first
          | (refine S2.wpList_store_all (by rfl) 25 (.tmp 4) (.tmp 36) rfl rfl (w.heap.size + 2) rfl [.slice Ae l.length ce, .slice Av ys.length cv] rfl 25 [.slice none 0 0, .slice none 0 0] HZL.out rtSize rfl (ones rfl) ?_; intro wz hM hP; have M9 := Lib.hid hM; have P9 := Lib.hid hP; clear hM hP)
        refine bodyPost_ret (v := .tuple #[.agg #[.slice Ae l.length ce, .slice Av ys.length cv], .int .i64 0]) (S2.res_cell_tmp rfl _ _ (w.heap.size + 2) 25 [.slice Ae l.length ce, .slice Av ys.length cv] _ _ rfl rfl M9.out Tryz.underlying25 rfl rtSize) rfl ?_
        unfold RetDe
        rw [declR_same HER.out (by rw [HOG.out, HYX.out])]
        exact ⟨_, _, ys, rfl, by rw [if_pos rfl]; exact HYS.out, RtN.weak (RtN.put R_w5.out HOFF.out P9.out) (by omega), P9.out.below B_w5.out (by omega)⟩
      · have HYX := Lib.hid hyx
        rw [decide_eq_false hyx] at hx2
        clear hyx
        go_upto_region 5 with fail
        go_quiet (fail)
        rename Nat => nq
        have hb := S2.bDN w3 nq
        obtain ⟨w4, hw4⟩ : ∃ w4, w4 = World.drewN w3 nq := ⟨_, rfl⟩
        rw [← hw4] at hb ⊢
        clear hw4 k0 k1 k2 t0 d0 d1 d2 hx2 hg2
        have T_w4 := Lib.hid (T_w3.out.step hb)
        have X_w4 := Lib.hid (X_w3.out.step hb)
        have Z_w4 := Lib.hid (Z_w3.out.step hb)
        have B_w4 := Lib.hid (stepB B_w3.out hb)
        have L_w4 := Lib.hid (GL.step L_w3.out hb)
        have S_w4 := Lib.hid (LI.step S_w3.out hb)
        clear hb T_w3 X_w3 Z_w3 B_w3 L_w3 S_w3
        have HZL := Lib.hid Z_w4.out
        go_wp2_with first
          | (refine S2.wpList_store_all (by rfl) 25 (.tmp 4) (.tmp 39) rfl rfl (w.heap.size + 2) rfl [.slice none 0 0, .slice none 0 0] rfl 25 [.slice none 0 0, .slice none 0 0] HZL.out rtSize rfl (ones rfl) ?_; intro wz hM hP; have M9 := Lib.hid hM; have P9 := Lib.hid hP; clear hM hP)
        refine bodyPost_ret (v := .tuple #[.agg #[.slice none 0 0, .slice none 0 0], .int .i64 7]) (S2.res_cell_tmp rfl _ _ (w.heap.size + 2) 25 [.slice none 0 0, .slice none 0 0] _ _ rfl rfl M9.out Tryz.underlying25 rfl rtSize) rfl ?_
        unfold RetDe
        rw [declR_other HER.out HOG.out HYX.out]
        exact ⟨_, _, [], rfl, by first | rfl | (rw [if_neg (by first | decide | assumption)]; rfl), RtN.nil, P9.out.below B_w4.out (by omega)⟩
    | none =>
      go_upto_region 5 with fail
      go_quiet (fail)
      rename Nat => nq
      have hb := S2.bDN w3 nq
      obtain ⟨w4, hw4⟩ : ∃ w4, w4 = World.drewN w3 nq := ⟨_, rfl⟩
      rw [← hw4] at hb ⊢
      clear hw4
      have T_w4 := Lib.hid (T_w3.out.step hb)
      have X_w4 := Lib.hid (X_w3.out.step hb)
      have Z_w4 := Lib.hid (Z_w3.out.step hb)
      have B_w4 := Lib.hid (stepB B_w3.out hb)
      have L_w4 := Lib.hid (GL.step L_w3.out hb)
      have S_w4 := Lib.hid (LI.step S_w3.out hb)
      clear hb T_w3 X_w3 Z_w3 B_w3 L_w3 S_w3
      have t0 := T_w4.out.cell 0 rfl
      by_cases h32 : 32 ≤ l.length
      · have q1 : decide ((32 : Int) ≤ (l.length : Int)) = true := decide_eq_true (by omega)
        have H32 := Lib.hid h32
        clear h32
        have HZL := Lib.hid Z_w4.out
        go_wp2_with first
          | (refine S2.wpList_store_all (by rfl) 25 (.tmp 4) (.tmp 45) rfl rfl (w.heap.size + 2) rfl [.slice none 0 0, .slice none 0 0] rfl 25 [.slice none 0 0, .slice none 0 0] HZL.out rtSize rfl (ones rfl) ?_; intro wz hM hP; have M9 := Lib.hid hM; have P9 := Lib.hid hP; clear hM hP)
        refine bodyPost_ret (v := .tuple #[.agg #[.slice none 0 0, .slice none 0 0], .int .i64 6]) (S2.res_cell_tmp rfl _ _ (w.heap.size + 2) 25 [.slice none 0 0, .slice none 0 0] _ _ rfl rfl M9.out Tryz.underlying25 rfl rtSize) rfl ?_
        unfold RetDe
        rw [declR_full HER.out HOG.out H32.out]
        exact ⟨_, _, [], rfl, by first | rfl | (rw [if_neg (by first | decide | assumption)]; rfl), RtN.nil, P9.out.below B_w4.out (by omega)⟩
      · have q1 : decide ((32 : Int) ≤ (l.length : Int)) = false := decide_eq_false (by omega)
        have H32 := Lib.hid h32
        clear h32
        have HLT : Hid ((loadVar 25 ⟨w.heap.size, 0, none⟩).run Tryz.prog w4 = .ok (.agg #[.slice A1 l.length c1, .slice A2 xs.length c2]) w4) := Lib.hid (S2.run_load_all T_w4.out Tryz.underlying25 rfl rtSize)
        go_wp2_with first
          | (refine wpList_load_v (by rfl) 25 (.tmp 2) rfl ⟨w.heap.size, 0, none⟩ rfl _ HLT.out ?_)
        refine (HCR.out _ L_w4.out S_w4.out).mono ?_
        rintro e w5 ⟨v1, v2, ys, rfl, hys, hrt, hb⟩
        have HYS := Lib.hid hys
        obtain ⟨Ae, ce, Av, cv, hv1, hv2, _⟩ := hrt.ret
        subst hv1
        subst hv2
        have HOFZ : Hid (RtOff (w.heap.size + 2) (.slice Ae l.length ce) (.slice Av ys.length cv) ys) := Lib.hid (hrt.low Z_w4.out.lt)
        have R_w5 := Lib.hid (RtN.weak hrt B_w4.out.size)
        clear hys hrt HLT t0
        have Z_w5 := Lib.hid (Z_w4.out.step hb)
        have B_w5 := Lib.hid (stepB B_w4.out hb)
        have X_w5 := Lib.hid (X_w4.out.step hb)
        clear hb Z_w4 B_w4 X_w4
        go_upto_region 12 with first
          | (refine S2.wpList_store_all (by rfl) 25 (.tmp 9) (.tmp 47) rfl rfl w5.heap.size rfl [.slice Ae l.length ce, .slice Av ys.length cv] rfl 25 _ (BK.new w5 _ _) rtSize rfl (ones rfl) ?_; intro w6 hM hP; have hb := hP.below (S2.below_new w5 _) (Nat.le_refl _); have B_w6 := Lib.hid (stepB B_w5.out hb); have Z_w6 := Lib.hid (Z_w5.out.step hb); have X_w6 := Lib.hid (X_w5.out.step hb); have G_w6 := Lib.hid hM; have R_w6 := Lib.hid (RtN.step R_w5.out hb); have HOFG := Lib.hid (R_w5.out.high (Nat.le_refl _)); have HGZ : Hid (w.heap.size + 2 < w5.heap.size) := Lib.hid Z_w5.out.lt; clear hM hP hb)
        obtain ⟨g9, hg9⟩ : ∃ g, g = w5.heap.size := ⟨_, rfl⟩
        rw [← hg9] at G_w6 HOFG HGZ ⊢
        clear hg9 B_w5 Z_w5 X_w5 R_w5
        have g0 := G_w6.out.cell 0 rfl
        have f0 := G_w6.out.free 0
        have HLX6 := Lib.hid (load_ex0 X_w6.out)
        unfold exV gE at HLX6
        go_wp2_with first
          | (refine wpList_load_v (by rfl) 32 (.tmp 3) rfl ⟨w.heap.size + 1, 0, none⟩ rfl _ HLX6.out ?_)
        refine name_world (C := fun w9 => Calls _ _ _ w9 _) (w6.alloc (.cells (gE x).toArray 32)) ?_
        intro w7 hw7
        have hb : Below w6.heap.size w6 w7 := by rw [hw7]; exact S2.below_new _ _
        have HVX : Hid (VX w7 w6.heap.size x) := Lib.hid (by rw [hw7]; exact heap_alloc_new w6 _)
        have B_w7 := Lib.hid (stepB B_w6.out hb)
        have Z_w7 := Lib.hid (Z_w6.out.step hb)
        have G_w7 := Lib.hid (G_w6.out.step hb)
        have R_w7 := Lib.hid (RtN.step R_w6.out hb)
        have HSEP : Hid (∀ q n c, Value.slice Ae l.length ce = .slice (some ⟨q, 0, none⟩) n c → w6.heap.size ≠ q) := Lib.hid (fun q n c e e2 => by have := (own_lt R_w6.out.e q (by rw [e]; rfl)).2; omega)
        clear hw7 hb HLX6 B_w6 Z_w6 G_w6 R_w6 X_w6 g0 f0
        refine (insertE_any _ l pos x w7 w.heap.size w6.heap.size R_w7.out.e HVX.out HSEP.out B_w7.out.size HPB.out.2.1 (by have := HN1.out; omega)).mono ?_
        rintro e w8 ⟨v8, rfl, hown, hbw, hkp⟩
        have hrt := RtN.ins R_w7.out hown hkp
        have hofg := RtOff.ins HOFG.out hkp G_w7.out.lt
        have hofz := RtOff.ins HOFZ.out hkp Z_w7.out.lt
        have hG : BK 25 w8 g9 [.slice Ae l.length ce, .slice Av ys.length cv] := (hkp.keep g9 G_w7.out.lt HOFG.out.e).trans G_w7.out
        have hZ : BK 25 w8 (w.heap.size + 2) [.slice none 0 0, .slice none 0 0] := (hkp.keep _ Z_w7.out.lt HOFZ.out.e).trans Z_w7.out
        have hB : Below w.heap.size w w8 := stepO B_w7.out hbw (Nat.le_refl _)
        obtain ⟨A8, c8, hv8, _⟩ := OwnG.ret gE_len hown
        obtain ⟨n8, hn8⟩ : ∃ n, (insX l pos x).length = n := ⟨_, rfl⟩
        rw [hn8] at hv8
        subst hv8
        have R_w8 := Lib.hid hrt
        have G_w8 := Lib.hid hG
        have Z_w8 := Lib.hid hZ
        have B_w8 := Lib.hid hB
        have HOFG8 := Lib.hid hofg
        have HOFZ8 := Lib.hid hofz
        have g0 := hG.cell 0 rfl
        have f0 := hG.free 0
        clear hrt hofg hofz hG hZ hB hown hkp hn8 hbw R_w7 G_w7 Z_w7 B_w7 HVX HSEP
        go_upto_region 13 with fail
        refine name_world (C := fun w9 => Code.wp _ _ _ _ w9) (w8.setCell ⟨g9, 0, none⟩ (.slice A8 n8 c8)) ?_
        intro w9 hw9
        have G_w9 : Hid (BK 25 w9 g9 [.slice A8 n8 c8, .slice Av ys.length cv]) := Lib.hid (by rw [hw9]; exact G_w8.out.set 0 _)
        have Z_w9 : Hid (BK 25 w9 (w.heap.size + 2) [.slice none 0 0, .slice none 0 0]) := Lib.hid (by rw [hw9]; exact Z_w8.out.other (by show w.heap.size + 2 ≠ g9; have := HGZ.out; omega) _)
        have R_w9 : Hid (RtN w.heap.size w9 (.slice A8 n8 c8) (insE l x) (.slice Av ys.length cv) ys) := Lib.hid (by rw [hw9, HIN.out]; exact RtN.set R_w8.out HOFG8.out 0 _)
        have B_w9 : Hid (Below w.heap.size w w9) := Lib.hid (by rw [hw9]; exact B_w8.out.setCell (p := ⟨g9, 0, none⟩) (by show w.heap.size ≤ g9; have := HGZ.out; omega) _)
        clear hw9 g0 f0 G_w8 Z_w8 R_w8 B_w8
        have HLG := Lib.hid (S2.run_load_all G_w9.out Tryz.underlying25 rfl rtSize)
        have HZL := Lib.hid Z_w9.out
        go_wp2_with first
          | (refine wpList_load_v (by rfl) 25 (.tmp 9) rfl ⟨g9, 0, none⟩ rfl (.agg #[.slice A8 n8 c8, .slice Av ys.length cv]) HLG.out ?_)
          | (refine S2.wpList_store_all (by rfl) 25 (.tmp 4) (.tmp 55) rfl rfl (w.heap.size + 2) rfl [.slice A8 n8 c8, .slice Av ys.length cv] rfl 25 [.slice none 0 0, .slice none 0 0] HZL.out rtSize rfl (ones rfl) ?_; intro wz hM hP; have M9 := Lib.hid hM; have P9 := Lib.hid hP; clear hM hP)
        refine bodyPost_ret (v := .tuple #[.agg #[.slice A8 n8 c8, .slice Av ys.length cv], .int .i64 0]) (S2.res_cell_tmp rfl _ _ (w.heap.size + 2) 25 [.slice A8 n8 c8, .slice Av ys.length cv] _ _ rfl rfl M9.out Tryz.underlying25 rfl rtSize) rfl ?_
        unfold RetDe
        rw [declR_new HER.out HOG.out H32.out]
        exact ⟨_, _, ys, rfl, by rw [if_pos rfl]; exact HYS.out, RtN.weak (RtN.put R_w9.out HOFZ8.out P9.out) (by omega), P9.out.below B_w9.out (by omega)⟩
  · have q1 : (er != 0) = true := bne_iff_ne.2 her
    have HNE := Lib.hid her
    clear her
    have HZL := Lib.hid Z_w2.out
    go_wp2_with first
      | (refine S2.wpList_store_all (by rfl) 25 (.tmp 4) (.tmp 14) rfl rfl (w.heap.size + 2) rfl [.slice none 0 0, .slice none 0 0] rfl 25 [.slice none 0 0, .slice none 0 0] HZL.out rtSize rfl (ones rfl) ?_; intro wz hM hP; have M9 := Lib.hid hM; have P9 := Lib.hid hP; clear hM hP)
    refine bodyPost_ret (v := .tuple #[.agg #[.slice none 0 0, .slice none 0 0], .int .i64 er]) (S2.res_cell_tmp rfl _ _ (w.heap.size + 2) 25 [.slice none 0 0, .slice none 0 0] _ _ rfl rfl M9.out Tryz.underlying25 rfl rtSize) rfl ?_
    unfold RetDe
    rw [declR_err (by rw [HER.out]; exact HNE.out), HER.out]
    exact ⟨_, _, [], rfl, by first | rfl | (rw [if_neg HNE.out]; rfl), RtN.nil, P9.out.below B_w2.out (by omega)⟩
end Go.Proofs.YtjkhfifnfgchgabGreatDoor
