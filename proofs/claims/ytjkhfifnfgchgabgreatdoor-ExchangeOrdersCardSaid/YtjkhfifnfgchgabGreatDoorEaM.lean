/-
  What Declare of brokerref24 answers: the routes with an exchange more, or the error. Conditions: the lists read as data, the names ascend; few elements; lengths fit an int.
  What slices.Delete answers at bindings, and slices.DeleteFunc with Drop's closure: over a row of the call's own. Conditions: the row holds the bindings; lengths fit.
  What Unbind of exchange and of brokerref24 answers: the routes without a binding, or the error. Conditions: the lists read as data; few elements.
  What Drop of exchange answers: the routes without the bindings of a queue. Conditions: the lists read as data; few elements.
  What Drop of brokerref24 answers: the routes without the bindings of a queue. Conditions: the lists read as data; few elements.
-/
import Derived.Test.YtjkhfifnfgchgabGreatDoorEpJ
import Derived.Test.YtjkhfifnfgchgabGreatDoorEpX
import Derived.Test.YtjkhfifnfgchgabGreatDoorRws
import Derived.Deep.RegionLaw
import Derived.Lib.SliceRun
import Derived.Deep.Upon
import Derived.Deep.QuietTactic
import Derived.BigQuiet
namespace Go.Proofs.YtjkhfifnfgchgabGreatDoor
open Go.RowKit
open S2 (BK Put get_ops)

set_option maxRecDepth 20000 in
set_option maxHeartbeats 8000000 in
theorem rDeclare_any (A1 : Option Addr) (c1 : Nat) (l : List Ex) (A2 : Option Addr) (c2 : Nat) (xs : List BE) (x : Ex) (w : World) (h1 : EL w w.heap.size A1 l) (h2 : BI w w.heap.size A2 xs) (hf : Few xs) (hn1 : l.length ≤ 100000) (hn2 : xs.length ≤ 100000) (ha : AscE l) (hz : SzX x) :
    Calls Tryz.prog 11 #[rtV A1 l.length c1 A2 xs.length c2, exV x] w (RetDe l (xs.map BE.d) x w) := by
  have HCX := Lib.hid (fun w1 => rexchange_any x w1 hz)
  have HFI := Lib.hid (fun w1 h1 => rfind_get A1 c1 l A2 xs.length c2 x.nm w1 h1 (by omega))
  have HCR := Lib.hid (fun w1 h1 h2 => rclone24_any A1 c1 l A2 c2 xs w1 h1 h2 hf hn1 hn2)
  have HGP := Lib.hid (fun y h => @getE_pos l ha x.nm y h)
  have HPB := Lib.hid (posE_bs ha x.nm)
  have HL := Lib.hid h1
  have HX := Lib.hid h2
  have HN1 := Lib.hid hn1
  clear h1 h2 hf hn1 hn2 ha hz
  unfold rtV at HCR HFI
  have HV : Hid (exV x = .agg (gE x).toArray) := Lib.hid rfl
  rw [HV.out]
  have CX : gE x = [.string x.nm, .int .i64 x.kd, .string x.alt] := rfl
  rw [CX]
  clear CX
  go_enter Tryz.func11, Tryz.ntmps11
  go_upto_region 1 with fail
  refine name_world (C := fun w1 => Code.wp _ _ _ _ w1) (((w.alloc (.cells [.slice A1 l.length c1, .slice A2 xs.length c2].toArray 25)).alloc (.cells [.string x.nm, .int .i64 x.kd, .string x.alt].toArray 32)).alloc (.cells [.slice none 0 0, .slice none 0 0].toArray 25)) ?_
  intro w1 hw1
  obtain ⟨u1, u2, u3, hB0, hs0⟩ := three_laid hw1
  have T_w1 := Lib.hid u1
  have X_w1 : Hid (BK 32 w1 (w.heap.size + 1) (gE x)) := Lib.hid u2
  have Z_w1 := Lib.hid u3
  have B_w1 := Lib.hid hB0
  have L_w1 := Lib.hid (GL.step HL.out hB0)
  have S_w1 := Lib.hid (LI.step HX.out hB0)
  clear hw1 u1 u2 u3 hB0 hs0 HL HX HV
  have HLX := Lib.hid (load_ex0 X_w1.out)
  go_wp2_with first
    | (refine wpList_load_v (by rfl) 32 (.tmp 3) rfl ⟨w.heap.size + 1, 0, none⟩ rfl _ HLX.out ?_)
  obtain ⟨er, her0⟩ : ∃ er, exR x = er := ⟨_, rfl⟩
  rw [her0] at HCX
  have HER := Lib.hid her0
  clear her0
  refine (HCX.out _).mono ?_
  rintro e w2 ⟨rfl, hb⟩
  have T_w2 := Lib.hid (T_w1.out.step hb)
  have X_w2 := Lib.hid (X_w1.out.step hb)
  have Z_w2 := Lib.hid (Z_w1.out.step hb)
  have B_w2 := Lib.hid (stepB B_w1.out hb)
  have L_w2 := Lib.hid (GL.step L_w1.out hb)
  have S_w2 := Lib.hid (LI.step S_w1.out hb)
  clear hb T_w1 X_w1 Z_w1 B_w1 L_w1 S_w1
  clear HLX HCX
  by_cases her : er = 0
  · subst her
    have HIN : Hid (insE l x = insX l (posE l x.nm) x) := Lib.hid (by unfold insE insX; simp)
    have HPO := Lib.hid (fun k h1 h2 h3 => pos_of (l := l) (n := x.nm) HPB.out (k := k) h1 h2 h3)
    obtain ⟨pos, hpos⟩ : ∃ p, posE l x.nm = p := ⟨_, rfl⟩
    rw [hpos] at HIN HPO HPB
    clear hpos
    have HLT : Hid ((loadVar 25 ⟨w.heap.size, 0, none⟩).run Tryz.prog w2 = .ok (.agg #[.slice A1 l.length c1, .slice A2 xs.length c2]) w2) := Lib.hid (S2.run_load_all T_w2.out Tryz.underlying25 rfl rtSize)
    go_wp2_with first
      | (refine wpList_load_v (by rfl) 25 (.tmp 2) rfl ⟨w.heap.size, 0, none⟩ rfl _ HLT.out ?_)
    refine (HCR.out _ L_w2.out S_w2.out).mono ?_
    rintro e w5 ⟨v1, v2, ys, rfl, hys, hrt, hb⟩
    have HYS := Lib.hid hys
    obtain ⟨Ae, ce, Av, cv, hv1, hv2, _⟩ := hrt.ret
    subst hv1
    subst hv2
    have HOFZ : Hid (RtOff (w.heap.size + 2) (.slice Ae l.length ce) (.slice Av ys.length cv) ys) := Lib.hid (hrt.low Z_w2.out.lt)
    have R_w5 := Lib.hid (RtN.weak hrt B_w2.out.size)
    clear hys hrt HLT HCR
    have T_w5 := Lib.hid (T_w2.out.step hb)
    have X_w5 := Lib.hid (X_w2.out.step hb)
    have Z_w5 := Lib.hid (Z_w2.out.step hb)
    have B_w5 := Lib.hid (stepB B_w2.out hb)
    have L_w5 := Lib.hid (GL.step L_w2.out hb)
    clear hb T_w2 X_w2 Z_w2 B_w2 L_w2
    clear S_w2
    go_upto_region 5 with first
      | (refine S2.wpList_store_all (by rfl) 25 (.tmp 7) (.tmp 17) rfl rfl w5.heap.size rfl [.slice Ae l.length ce, .slice Av ys.length cv] rfl 25 _ (BK.new w5 _ _) rtSize rfl (ones rfl) ?_; intro w6 hM hP; have hb := hP.below (S2.below_new w5 _) (Nat.le_refl _); have B_w6 := Lib.hid (stepB B_w5.out hb); have T_w6 := Lib.hid (T_w5.out.step hb); have Z_w6 := Lib.hid (Z_w5.out.step hb); have X_w6 := Lib.hid (X_w5.out.step hb); have L_w6 := Lib.hid (GL.step L_w5.out hb); have G_w6 := Lib.hid hM; have R_w6 := Lib.hid (RtN.step R_w5.out hb); have HOFG := Lib.hid (R_w5.out.high (Nat.le_refl _)); have HGZ : Hid (w.heap.size + 2 < w5.heap.size) := Lib.hid Z_w5.out.lt; clear hM hP hb)
    obtain ⟨g9, hg9⟩ : ∃ g, g = w5.heap.size := ⟨_, rfl⟩
    rw [← hg9] at G_w6 HOFG HGZ ⊢
    clear hg9 B_w5 Z_w5 X_w5 R_w5 T_w5 L_w5
    have HLT : Hid ((loadVar 25 ⟨w.heap.size, 0, none⟩).run Tryz.prog w6 = .ok (.agg #[.slice A1 l.length c1, .slice A2 xs.length c2]) w6) := Lib.hid (S2.run_load_all T_w6.out Tryz.underlying25 rfl rtSize)
    have d0 := X_w6.out.cell 0 rfl
    go_wp2_with first
      | (refine wpList_load_v (by rfl) 25 (.tmp 2) rfl ⟨w.heap.size, 0, none⟩ rfl _ HLT.out ?_)
    refine (HFI.out _ L_w6.out).mono ?_
    rintro e w7 ⟨hb, hres⟩
    clear d0 HLT HFI
    have T_w7 := Lib.hid (T_w6.out.step hb)
    have X_w7 := Lib.hid (X_w6.out.step hb)
    have Z_w7 := Lib.hid (Z_w6.out.step hb)
    have B_w7 := Lib.hid (stepB B_w6.out hb)
    have L_w7 := Lib.hid (GL.step L_w6.out hb)
    have G_w7 := Lib.hid (G_w6.out.step hb)
    have R_w7 := Lib.hid (RtN.step R_w6.out hb)
    clear hb T_w6 X_w6 Z_w6 B_w6 L_w6 G_w6 R_w6
    rcases hres with ⟨hg, rfl⟩ | ⟨i, y, rfl, hy, hg⟩
    · have HOG := Lib.hid hg
      clear hg HGP
      have t0 := T_w7.out.cell 0 rfl
      by_cases h32 : 32 ≤ l.length
      · have q1 : decide ((32 : Int) ≤ (l.length : Int)) = true := decide_eq_true (by omega)
        have H32 := Lib.hid h32
        clear h32
        have HZL := Lib.hid Z_w7.out
        go_wp2_with first
          | (refine S2.wpList_store_all (by rfl) 25 (.tmp 4) (.tmp 37) rfl rfl (w.heap.size + 2) rfl [.slice none 0 0, .slice none 0 0] rfl 25 [.slice none 0 0, .slice none 0 0] HZL.out rtSize rfl (ones rfl) ?_; intro wz hM hP; have M9 := Lib.hid hM; have P9 := Lib.hid hP; clear hM hP)
        refine bodyPost_ret (v := .tuple #[.agg #[.slice none 0 0, .slice none 0 0], .int .i64 6]) (S2.res_cell_tmp rfl _ _ (w.heap.size + 2) 25 [.slice none 0 0, .slice none 0 0] _ _ rfl rfl M9.out Tryz.underlying25 rfl rtSize) rfl ?_
        unfold RetDe
        rw [declR_full HER.out HOG.out H32.out]
        exact ⟨_, _, [], rfl, by first | rfl | (rw [if_neg (by first | decide | assumption)]; rfl), RtN.nil, P9.out.below B_w7.out (by omega)⟩
      · have q1 : decide ((32 : Int) ≤ (l.length : Int)) = false := decide_eq_false (by omega)
        have H32 := Lib.hid h32
        clear h32
        go_wp2_with fail
        clear t0
        go_loopg [9] l.length (fun g v wr => ∃ k : Nat, k + g = l.length ∧ v = .int .i64 k ∧ (∀ j y, j < k → l[j]? = some y → ltS y.nm x.nm = true) ∧ BK 32 wr (w.heap.size + 1) (gE x) ∧ BK 25 wr (w.heap.size + 2) [.slice none 0 0, .slice none 0 0] ∧ BK 25 wr g9 [.slice Ae l.length ce, .slice Av ys.length cv] ∧ RtN w.heap.size wr (.slice Ae l.length ce) l (.slice Av ys.length cv) ys ∧ Below w.heap.size w wr)
        case atStart => exact ⟨0, by omega, rfl, fun j y h => absurd h (Nat.not_lt_zero _), X_w7.out, Z_w7.out, G_w7.out, R_w7.out, B_w7.out⟩
        case round =>
          obtain ⟨k, hkg, rfl, hless, hx, hz, hg, hr, hb0⟩ := hrel
          have HLS := Lib.hid hless
          have X_wr := Lib.hid hx
          have Z_wr := Lib.hid hz
          have G_wr := Lib.hid hg
          have R_wr := Lib.hid hr
          have B_wr := Lib.hid hb0
          have HKG := Lib.hid hkg
          clear hless hx hz hg hr hb0 X_w7 Z_w7 G_w7 R_w7 B_w7
          have g0 := G_wr.out.cell 0 rfl
          by_cases hlt : k < l.length
          · obtain ⟨n, rfl⟩ : ∃ n, gk = n + 1 := ⟨gk - 1, by omega⟩
            obtain ⟨y, hy⟩ : ∃ y, l[k]? = some y := ⟨_, List.getElem?_eq_getElem hlt⟩
            obtain ⟨A0, c0, _, _, hv0, _, _, _, hel, _⟩ := R_wr.out.ret
            simp only [Value.slice.injEq] at hv0
            obtain ⟨rfl, _, rfl⟩ := hv0
            obtain ⟨b, o, hA, hbB, hcl⟩ := EL.at_ hel hy
            subst hA
            have k0 : wr.cell? ⟨b, o + k * 3, none⟩ = some (.string y.nm) := hcl 0 _ rfl
            have d0 := X_wr.out.cell 0 rfl
            have e3 : decide ((k : Int) < (l.length : Int)) = true := decide_eq_true (by omega)
            have e3' : decide (k < l.length) = true := decide_eq_true (by omega)
            have j1 : (0 : Int) ≤ (k : Int) := by omega
            have j2 : (k : Int) < (l.length : Int) := by omega
            have HY := Lib.hid hy
            clear hel hcl hbB hy hlt hkg
            cases hlt2 : ltS y.nm x.nm with
            | true =>
              have q3 : Op.bytesLess y.nm.toList x.nm.toList = true := by rw [lt_data, hlt2]
              have HLT2 := Lib.hid hlt2
              clear hlt2
              go_wp2_with fail
              go_quiet (fail)
              clear g0 k0 d0 q3
              rename Nat => nq
              have hb := S2.bDN wr nq
              obtain ⟨w8, hw8⟩ : ∃ z, z = World.drewN wr nq := ⟨_, rfl⟩
              rw [← hw8] at hb ⊢
              clear hw8
              have X_w8 := Lib.hid (X_wr.out.step hb)
              have Z_w8 := Lib.hid (Z_wr.out.step hb)
              have G_w8 := Lib.hid (G_wr.out.step hb)
              have R_w8 := Lib.hid (RtN.step R_wr.out hb)
              have B_w8 := Lib.hid (stepB B_wr.out hb)
              clear hb X_wr Z_wr G_wr R_wr B_wr
              go_wp2_with fail
              go_roundg n
              case measure => omega
              case rel => exact ⟨k + 1, by have := HKG.out; omega, nxt k (by have := HN1.out; have := HKG.out; omega), (fun j z hj hz => by
                by_cases e : j = k
                · subst e; rw [HY.out] at hz; rw [← Option.some.inj hz]; exact HLT2.out
                · exact HLS.out j z (by omega) hz), X_w8.out, Z_w8.out, G_w8.out, R_w8.out, B_w8.out⟩
            | false =>
              have q3 : Op.bytesLess y.nm.toList x.nm.toList = false := by rw [lt_data, hlt2]
              have HPK : Hid (pos = k) := Lib.hid (HPO.out k (by have := (List.getElem?_eq_some_iff.1 HY.out).1; omega) HLS.out (fun z hz => by rw [HY.out] at hz; rw [← Option.some.inj hz]; exact hlt2))
              clear hlt2
              go_upto_region 13 with fail
              go_quiet (fail)
              clear g0 k0 d0 q3
              rename Nat => nq
              have hb := S2.bDN wr nq
              obtain ⟨w6, hw6⟩ : ∃ z, z = World.drewN wr nq := ⟨_, rfl⟩
              rw [← hw6] at hb ⊢
              clear hw6
              have X_w6 := Lib.hid (X_wr.out.step hb)
              have Z_w6 := Lib.hid (Z_wr.out.step hb)
              have G_w6 := Lib.hid (G_wr.out.step hb)
              have R_w6 := Lib.hid (RtN.step R_wr.out hb)
              have B_w6 := Lib.hid (stepB B_wr.out hb)
              clear hb X_wr Z_wr G_wr R_wr B_wr
              have g0 := G_w6.out.cell 0 rfl
              have f0 := G_w6.out.free 0
              have HLX6 := Lib.hid (load_ex0 X_w6.out)
              unfold exV gE at HLX6
              go_wp2_with first
                | (refine wpList_load_v (by rfl) 32 (.tmp 3) rfl ⟨w.heap.size + 1, 0, none⟩ rfl _ HLX6.out ?_)
              refine name_world (C := fun w9 => Calls _ _ _ w9 _) (w6.alloc (.cells (gE x).toArray 32)) ?_
              intro w7 hw7
              have hb : Below w6.heap.size w6 w7 := by rw [hw7]; exact S2.below_new _ _
              have HVX : Hid (VX w7 w6.heap.size x) := Lib.hid (by rw [hw7]; exact heap_alloc_new w6 _)
              have B_w7 := Lib.hid (stepB B_w6.out hb)
              have Z_w7 := Lib.hid (Z_w6.out.step hb)
              have G_w7 := Lib.hid (G_w6.out.step hb)
              have R_w7 := Lib.hid (RtN.step R_w6.out hb)
              have HSEP : Hid (∀ q n c, Value.slice (some ⟨b, o, none⟩) l.length ce = .slice (some ⟨q, 0, none⟩) n c → w6.heap.size ≠ q) := Lib.hid (fun q n c e e2 => by have := (own_lt R_w6.out.e q (by rw [e]; rfl)).2; omega)
              clear hw7 hb HLX6 B_w6 Z_w6 G_w6 R_w6 X_w6 g0 f0
              refine (insertE_any _ l k x w7 w.heap.size w6.heap.size R_w7.out.e HVX.out HSEP.out B_w7.out.size (by rw [← HPK.out]; exact HPB.out.2.1) (by have := HN1.out; omega)).mono ?_
              rintro e w8 ⟨v8, rfl, hown, hbw, hkp⟩
              have hrt := RtN.ins R_w7.out hown hkp
              have hofg := RtOff.ins HOFG.out hkp G_w7.out.lt
              have hofz := RtOff.ins HOFZ.out hkp Z_w7.out.lt
              have hG : BK 25 w8 g9 [.slice (some ⟨b, o, none⟩) l.length ce, .slice Av ys.length cv] := (hkp.keep g9 G_w7.out.lt HOFG.out.e).trans G_w7.out
              have hZ : BK 25 w8 (w.heap.size + 2) [.slice none 0 0, .slice none 0 0] := (hkp.keep _ Z_w7.out.lt HOFZ.out.e).trans Z_w7.out
              have hB : Below w.heap.size w w8 := stepO B_w7.out hbw (Nat.le_refl _)
              obtain ⟨A8, c8, hv8, _⟩ := OwnG.ret gE_len hown
              obtain ⟨n8, hn8⟩ : ∃ n, (insX l k x).length = n := ⟨_, rfl⟩
              rw [hn8] at hv8
              subst hv8
              have R_w8 := Lib.hid hrt
              have G_w8 := Lib.hid hG
              have Z_w8 := Lib.hid hZ
              have B_w8 := Lib.hid hB
              have HOFG8 := Lib.hid hofg
              have HOFZ8 := Lib.hid hofz
              have g0 := hG.cell 0 rfl
              have f0 := hG.free 0
              clear hrt hofg hofz hG hZ hB hown hkp hn8 hbw R_w7 G_w7 Z_w7 B_w7 HVX HSEP
              go_upto_region 16 with fail
              refine name_world (C := fun w9 => Code.wp _ _ _ _ w9) (w8.setCell ⟨g9, 0, none⟩ (.slice A8 n8 c8)) ?_
              intro w9 hw9
              have G_w9 : Hid (BK 25 w9 g9 [.slice A8 n8 c8, .slice Av ys.length cv]) := Lib.hid (by rw [hw9]; exact G_w8.out.set 0 _)
              have Z_w9 : Hid (BK 25 w9 (w.heap.size + 2) [.slice none 0 0, .slice none 0 0]) := Lib.hid (by rw [hw9]; exact Z_w8.out.other (by show w.heap.size + 2 ≠ g9; have := HGZ.out; omega) _)
              have R_w9 : Hid (RtN w.heap.size w9 (.slice A8 n8 c8) (insE l x) (.slice Av ys.length cv) ys) := Lib.hid (by rw [hw9, HIN.out, HPK.out]; exact RtN.set R_w8.out HOFG8.out 0 _)
              have B_w9 : Hid (Below w.heap.size w w9) := Lib.hid (by rw [hw9]; exact B_w8.out.setCell (p := ⟨g9, 0, none⟩) (by show w.heap.size ≤ g9; have := HGZ.out; omega) _)
              clear hw9 g0 f0 G_w8 Z_w8 R_w8 B_w8
              have HLG := Lib.hid (S2.run_load_all G_w9.out Tryz.underlying25 rfl rtSize)
              have HZL := Lib.hid Z_w9.out
              go_wp2_with first
                | (refine wpList_load_v (by rfl) 25 (.tmp 7) rfl ⟨g9, 0, none⟩ rfl (.agg #[.slice A8 n8 c8, .slice Av ys.length cv]) HLG.out ?_)
                | (refine S2.wpList_store_all (by rfl) 25 (.tmp 4) (.tmp 63) rfl rfl (w.heap.size + 2) rfl [.slice A8 n8 c8, .slice Av ys.length cv] rfl 25 [.slice none 0 0, .slice none 0 0] HZL.out rtSize rfl (ones rfl) ?_; intro wz hM hP; have M9 := Lib.hid hM; have P9 := Lib.hid hP; clear hM hP)
              refine bodyPost_ret (v := .tuple #[.agg #[.slice A8 n8 c8, .slice Av ys.length cv], .int .i64 0]) (S2.res_cell_tmp rfl _ _ (w.heap.size + 2) 25 [.slice A8 n8 c8, .slice Av ys.length cv] _ _ rfl rfl M9.out Tryz.underlying25 rfl rtSize) rfl ?_
              unfold RetDe
              rw [declR_new HER.out HOG.out H32.out]
              exact ⟨_, _, ys, rfl, by rw [if_pos rfl]; exact HYS.out, RtN.weak (RtN.put R_w9.out HOFZ8.out P9.out) (by omega), P9.out.below B_w9.out (by omega)⟩
          · obtain rfl : k = l.length := by omega
            obtain rfl : gk = 0 := by omega
            have HPK : Hid (pos = l.length) := Lib.hid (HPO.out l.length (Nat.le_refl _) HLS.out (fun z hz => by have := (List.getElem?_eq_some_iff.1 hz).1; omega))
            have e3 : decide ((l.length : Int) < (l.length : Int)) = false := decide_eq_false (by omega)
            have e3' : decide (l.length < l.length) = false := decide_eq_false (by omega)
            clear hkg hlt
            go_upto_region 13 with fail
            go_quiet (fail)
            clear g0
            rename Nat => nq
            have hb := S2.bDN wr nq
            obtain ⟨w6, hw6⟩ : ∃ z, z = World.drewN wr nq := ⟨_, rfl⟩
            rw [← hw6] at hb ⊢
            clear hw6
            have X_w6 := Lib.hid (X_wr.out.step hb)
            have Z_w6 := Lib.hid (Z_wr.out.step hb)
            have G_w6 := Lib.hid (G_wr.out.step hb)
            have R_w6 := Lib.hid (RtN.step R_wr.out hb)
            have B_w6 := Lib.hid (stepB B_wr.out hb)
            clear hb X_wr Z_wr G_wr R_wr B_wr
            have g0 := G_w6.out.cell 0 rfl
            have f0 := G_w6.out.free 0
            have HLX6 := Lib.hid (load_ex0 X_w6.out)
            unfold exV gE at HLX6
            go_wp2_with first
              | (refine wpList_load_v (by rfl) 32 (.tmp 3) rfl ⟨w.heap.size + 1, 0, none⟩ rfl _ HLX6.out ?_)
            refine name_world (C := fun w9 => Calls _ _ _ w9 _) (w6.alloc (.cells (gE x).toArray 32)) ?_
            intro w7 hw7
            have hb : Below w6.heap.size w6 w7 := by rw [hw7]; exact S2.below_new _ _
            have HVX : Hid (VX w7 w6.heap.size x) := Lib.hid (by rw [hw7]; exact heap_alloc_new w6 _)
            have B_w7 := Lib.hid (stepB B_w6.out hb)
            have Z_w7 := Lib.hid (Z_w6.out.step hb)
            have G_w7 := Lib.hid (G_w6.out.step hb)
            have R_w7 := Lib.hid (RtN.step R_w6.out hb)
            have HSEP : Hid (∀ q n c, Value.slice Ae l.length ce = .slice (some ⟨q, 0, none⟩) n c → w6.heap.size ≠ q) := Lib.hid (fun q n c e e2 => by have := (own_lt R_w6.out.e q (by rw [e]; rfl)).2; omega)
            clear hw7 hb HLX6 B_w6 Z_w6 G_w6 R_w6 X_w6 g0 f0
            refine (insertE_any _ l l.length x w7 w.heap.size w6.heap.size R_w7.out.e HVX.out HSEP.out B_w7.out.size (Nat.le_refl _) (by have := HN1.out; omega)).mono ?_
            rintro e w8 ⟨v8, rfl, hown, hbw, hkp⟩
            have hrt := RtN.ins R_w7.out hown hkp
            have hofg := RtOff.ins HOFG.out hkp G_w7.out.lt
            have hofz := RtOff.ins HOFZ.out hkp Z_w7.out.lt
            have hG : BK 25 w8 g9 [.slice Ae l.length ce, .slice Av ys.length cv] := (hkp.keep g9 G_w7.out.lt HOFG.out.e).trans G_w7.out
            have hZ : BK 25 w8 (w.heap.size + 2) [.slice none 0 0, .slice none 0 0] := (hkp.keep _ Z_w7.out.lt HOFZ.out.e).trans Z_w7.out
            have hB : Below w.heap.size w w8 := stepO B_w7.out hbw (Nat.le_refl _)
            obtain ⟨A8, c8, hv8, _⟩ := OwnG.ret gE_len hown
            obtain ⟨n8, hn8⟩ : ∃ n, (insX l l.length x).length = n := ⟨_, rfl⟩
            rw [hn8] at hv8
            subst hv8
            have R_w8 := Lib.hid hrt
            have G_w8 := Lib.hid hG
            have Z_w8 := Lib.hid hZ
            have B_w8 := Lib.hid hB
            have HOFG8 := Lib.hid hofg
            have HOFZ8 := Lib.hid hofz
            have g0 := hG.cell 0 rfl
            have f0 := hG.free 0
            clear hrt hofg hofz hG hZ hB hown hkp hn8 hbw R_w7 G_w7 Z_w7 B_w7 HVX HSEP
            go_upto_region 16 with fail
            refine name_world (C := fun w9 => Code.wp _ _ _ _ w9) (w8.setCell ⟨g9, 0, none⟩ (.slice A8 n8 c8)) ?_
            intro w9 hw9
            have G_w9 : Hid (BK 25 w9 g9 [.slice A8 n8 c8, .slice Av ys.length cv]) := Lib.hid (by rw [hw9]; exact G_w8.out.set 0 _)
            have Z_w9 : Hid (BK 25 w9 (w.heap.size + 2) [.slice none 0 0, .slice none 0 0]) := Lib.hid (by rw [hw9]; exact Z_w8.out.other (by show w.heap.size + 2 ≠ g9; have := HGZ.out; omega) _)
            have R_w9 : Hid (RtN w.heap.size w9 (.slice A8 n8 c8) (insE l x) (.slice Av ys.length cv) ys) := Lib.hid (by rw [hw9, HIN.out, HPK.out]; exact RtN.set R_w8.out HOFG8.out 0 _)
            have B_w9 : Hid (Below w.heap.size w w9) := Lib.hid (by rw [hw9]; exact B_w8.out.setCell (p := ⟨g9, 0, none⟩) (by show w.heap.size ≤ g9; have := HGZ.out; omega) _)
            clear hw9 g0 f0 G_w8 Z_w8 R_w8 B_w8
            have HLG := Lib.hid (S2.run_load_all G_w9.out Tryz.underlying25 rfl rtSize)
            have HZL := Lib.hid Z_w9.out
            go_wp2_with first
              | (refine wpList_load_v (by rfl) 25 (.tmp 7) rfl ⟨g9, 0, none⟩ rfl (.agg #[.slice A8 n8 c8, .slice Av ys.length cv]) HLG.out ?_)
              | (refine S2.wpList_store_all (by rfl) 25 (.tmp 4) (.tmp 63) rfl rfl (w.heap.size + 2) rfl [.slice A8 n8 c8, .slice Av ys.length cv] rfl 25 [.slice none 0 0, .slice none 0 0] HZL.out rtSize rfl (ones rfl) ?_; intro wz hM hP; have M9 := Lib.hid hM; have P9 := Lib.hid hP; clear hM hP)
            refine bodyPost_ret (v := .tuple #[.agg #[.slice A8 n8 c8, .slice Av ys.length cv], .int .i64 0]) (S2.res_cell_tmp rfl _ _ (w.heap.size + 2) 25 [.slice A8 n8 c8, .slice Av ys.length cv] _ _ rfl rfl M9.out Tryz.underlying25 rfl rtSize) rfl ?_
            unfold RetDe
            rw [declR_new HER.out HOG.out H32.out]
            exact ⟨_, _, ys, rfl, by rw [if_pos rfl]; exact HYS.out, RtN.weak (RtN.put R_w9.out HOFZ8.out P9.out) (by omega), P9.out.below B_w9.out (by omega)⟩
    · have HOG := Lib.hid hg
      obtain ⟨b, o, hA, hbB, hcl⟩ := EL.at_ L_w7.out hy
      have j1 : (0 : Int) ≤ (i : Int) := by omega
      have j2 : (i : Int) < (l.length : Int) := by have := (List.getElem?_eq_some_iff.1 hy).1; omega
      have k0 : w7.cell? ⟨b, o + i * 3, none⟩ = some (.string y.nm) := hcl 0 _ rfl
      have k1 : w7.cell? ⟨b, o + i * 3 + 1, none⟩ = some (.int .i64 y.kd) := hcl 1 _ rfl
      have k2 : w7.cell? ⟨b, o + i * 3 + 2, none⟩ = some (.string y.alt) := hcl 2 _ rfl
      subst hA
      have t0 := T_w7.out.cell 0 rfl
      have d0 := X_w7.out.cell 0 rfl
      have d1 := X_w7.out.cell 1 rfl
      have d2 := X_w7.out.cell 2 rfl
      have hx2 := neqEx y x
      have hg2 := guardEx .neq (.tmp 28) (.tmp 29) (gE y).toArray (gE x).toArray
      unfold exV gE at hx2
      unfold gE at hg2
      clear hy hcl hbB hg HGP HIN HPO HPB
      by_cases hyx : y = x
      · have HYX := Lib.hid hyx
        rw [decide_eq_true hyx] at hx2
        clear hyx
        go_upto_region 7 with fail
        go_quiet (fail)
        clear k0 k1 k2 t0 d0 d1 d2 hx2 hg2
        rename Nat => nq
        have hb := S2.bDN w7 nq
        obtain ⟨w8, hw8⟩ : ∃ z, z = World.drewN w7 nq := ⟨_, rfl⟩
        rw [← hw8] at hb ⊢
        clear hw8
        have Z_w8 := Lib.hid (Z_w7.out.step hb)
        have B_w8 := Lib.hid (stepB B_w7.out hb)
        have G_w8 := Lib.hid (G_w7.out.step hb)
        have R_w8 := Lib.hid (RtN.step R_w7.out hb)
        clear hb Z_w7 B_w7 G_w7 R_w7
        have HLG := Lib.hid (S2.run_load_all G_w8.out Tryz.underlying25 rfl rtSize)
        have HZL := Lib.hid Z_w8.out
        go_wp2_with first
          | (refine wpList_load_v (by rfl) 25 (.tmp 7) rfl ⟨g9, 0, none⟩ rfl (.agg #[.slice Ae l.length ce, .slice Av ys.length cv]) HLG.out ?_)
          | (refine S2.wpList_store_all (by rfl) 25 (.tmp 4) (.tmp 32) rfl rfl (w.heap.size + 2) rfl [.slice Ae l.length ce, .slice Av ys.length cv] rfl 25 [.slice none 0 0, .slice none 0 0] HZL.out rtSize rfl (ones rfl) ?_; intro wz hM hP; have M9 := Lib.hid hM; have P9 := Lib.hid hP; clear hM hP)
        refine bodyPost_ret (v := .tuple #[.agg #[.slice Ae l.length ce, .slice Av ys.length cv], .int .i64 0]) (S2.res_cell_tmp rfl _ _ (w.heap.size + 2) 25 [.slice Ae l.length ce, .slice Av ys.length cv] _ _ rfl rfl M9.out Tryz.underlying25 rfl rtSize) rfl ?_
        unfold RetDe
        rw [declR_same HER.out (by rw [HOG.out, HYX.out])]
        exact ⟨_, _, ys, rfl, by rw [if_pos rfl]; exact HYS.out, RtN.weak (RtN.put R_w8.out HOFZ.out P9.out) (by omega), P9.out.below B_w8.out (by omega)⟩
      · have HYX := Lib.hid hyx
        rw [decide_eq_false hyx] at hx2
        clear hyx
        go_upto_region 7 with fail
        go_quiet (fail)
        clear k0 k1 k2 t0 d0 d1 d2 hx2 hg2
        rename Nat => nq
        have hb := S2.bDN w7 nq
        obtain ⟨w8, hw8⟩ : ∃ z, z = World.drewN w7 nq := ⟨_, rfl⟩
        rw [← hw8] at hb ⊢
        clear hw8
        have Z_w8 := Lib.hid (Z_w7.out.step hb)
        have B_w8 := Lib.hid (stepB B_w7.out hb)
        have G_w8 := Lib.hid (G_w7.out.step hb)
        have R_w8 := Lib.hid (RtN.step R_w7.out hb)
        clear hb Z_w7 B_w7 G_w7 R_w7
        have HZL := Lib.hid Z_w8.out
        go_wp2_with first
          | (refine S2.wpList_store_all (by rfl) 25 (.tmp 4) (.tmp 31) rfl rfl (w.heap.size + 2) rfl [.slice none 0 0, .slice none 0 0] rfl 25 [.slice none 0 0, .slice none 0 0] HZL.out rtSize rfl (ones rfl) ?_; intro wz hM hP; have M9 := Lib.hid hM; have P9 := Lib.hid hP; clear hM hP)
        refine bodyPost_ret (v := .tuple #[.agg #[.slice none 0 0, .slice none 0 0], .int .i64 7]) (S2.res_cell_tmp rfl _ _ (w.heap.size + 2) 25 [.slice none 0 0, .slice none 0 0] _ _ rfl rfl M9.out Tryz.underlying25 rfl rtSize) rfl ?_
        unfold RetDe
        rw [declR_other HER.out HOG.out HYX.out]
        exact ⟨_, _, [], rfl, by first | rfl | (rw [if_neg (by first | decide | assumption)]; rfl), RtN.nil, P9.out.below B_w8.out (by omega)⟩
  · have q1 : (er != 0) = true := bne_iff_ne.2 her
    have HNE := Lib.hid her
    clear her
    have HZL := Lib.hid Z_w2.out
    go_wp2_with first
      | (refine S2.wpList_store_all (by rfl) 25 (.tmp 4) (.tmp 14) rfl rfl (w.heap.size + 2) rfl [.slice none 0 0, .slice none 0 0] rfl 25 [.slice none 0 0, .slice none 0 0] HZL.out rtSize rfl (ones rfl) ?_; intro wz hM hP; have M9 := Lib.hid hM; have P9 := Lib.hid hP; clear hM hP)
    refine bodyPost_ret (v := .tuple #[.agg #[.slice none 0 0, .slice none 0 0], .int .i64 er]) (S2.res_cell_tmp rfl _ _ (w.heap.size + 2) 25 [.slice none 0 0, .slice none 0 0] _ _ rfl rfl M9.out Tryz.underlying25 rfl rtSize) rfl ?_
    unfold RetDe
    rw [declR_err (by rw [HER.out]; exact HNE.out), HER.out]
    exact ⟨_, _, [], rfl, by first | rfl | (rw [if_neg HNE.out]; rfl), RtN.nil, P9.out.below B_w2.out (by omega)⟩
end Go.Proofs.YtjkhfifnfgchgabGreatDoor
namespace Go.Proofs.YtjkhfifnfgchgabGreatDoor
open Go.RowKit
open S2 (BK Put)

theorem S2.Put.refl (g : Nat) (w : World) : Put g w w := ⟨fun h _ => h, fun h _ => h, rfl, fun _ => rfl⟩
theorem S2.Put.trans {g : Nat} {a b c : World} (h : Put g a b) (k : Put g b c) : Put g a c := ⟨fun hM hne => k.other (h.other hM hne) hne, fun hb hg => k.below (h.below hb hg) hg, k.size.trans h.size, fun hp => (k.cell hp).trans (h.cell hp)⟩
theorem S2.Put.drew {g : Nat} {a b : World} (h : Put g a b) : Put g a b.drew := ⟨fun hM hne => (h.other hM hne).drew, fun hb hg => (h.below hb hg).drew, h.size, fun hp => h.cell hp⟩
theorem size_sets (g : Nat) : ∀ (vs : List Value) (o : Nat) (w : World), (w.setCells g o vs).heap.size = w.heap.size
  | [], _, _ => rfl
  | v :: r, o, w => by rw [World.setCells, size_sets g r]; simp
theorem S2.Put.sets {g : Nat} {a b : World} (h : Put g a b) (o : Nat) (vs : List Value) : Put g a (b.setCells g o vs) :=
  ⟨fun hM hne => S2.bk_sets_other hne vs o b _ (h.other hM hne), fun hb hg => S2.below_sets hg vs o b (h.below hb hg), (size_sets g vs o b).trans h.size, fun {p} hp => (World.cell?_setCells_out g vs o b p (fun e => absurd e hp)).trans (h.cell hp)⟩

def zerosB (m : Nat) : List Value := (Builtin.zeroCells (Value.cells (.agg (gB BE.zero).toArray)) m).toList
theorem zerosB_len (m : Nat) : (zerosB m).length = m * 5 := by
  unfold zerosB
  rw [Array.length_toList, size_zeroCells]
  rfl
theorem zerosB_one (m : Nat) : ∀ u ∈ zerosB m, u.oneCell' = true := by
  intro u hu
  unfold zerosB Builtin.zeroCells at hu
  simp only [Array.toList_map, List.mem_map] at hu
  obtain ⟨i, _, rfl⟩ := hu
  have h5 : (Value.cells (.agg (gB BE.zero).toArray)).size = 5 := rfl
  rw [h5]
  have hm : i % 5 < 5 := Nat.mod_lt _ (by decide)
  generalize i % 5 = j at hm
  match j, hm with
  | 0, _ => rfl
  | 1, _ => rfl
  | 2, _ => rfl
  | 3, _ => rfl
  | 4, _ => rfl
theorem sets_heap (g b : Nat) (hne : b ≠ g) : ∀ (vs : List Value) (o : Nat) (w : World), (w.setCells g o vs).heap[b]? = w.heap[b]?
  | [], _, _ => rfl
  | v :: r, o, w => by
    rw [World.setCells, sets_heap g b hne r]
    exact heap_setCell_other w ⟨g, o, none⟩ b v hne
/-- all but block g is as it was, or new -/
structure Kg (g : Nat) (w w' : World) : Prop where
  keep : ∀ b, b < w.heap.size → b ≠ g → w'.heap[b]? = w.heap[b]?
  size : w.heap.size ≤ w'.heap.size
  lt : g < w.heap.size
  below : ∀ B w0, Below B w0 w → B ≤ g → Below B w0 w'
theorem Kg.step {g : Nat} {w w1 w2 : World} (h : Kg g w w1) (hb : Below w1.heap.size w1 w2) : Kg g w w2 :=
  ⟨fun b h1 h2 => (hb.block b (Nat.lt_of_lt_of_le h1 h.size)).trans (h.keep b h1 h2), Nat.le_trans h.size hb.size, h.lt, fun B w0 h1 h2 => (h.below B w0 h1 h2).trans (hb.mono (by have := h.lt; have := h.size; omega))⟩
theorem Kg.put {g : Nat} {w w1 w2 : World} (h : Kg g w w1) (hk : ∀ b, b ≠ g → w2.heap[b]? = w1.heap[b]?) (hp : Put g w1 w2) : Kg g w w2 :=
  ⟨fun b h1 h2 => (hk b h2).trans (h.keep b h1 h2), by rw [hp.size]; exact h.size, h.lt, fun B w0 h1 h2 => hp.below (h.below B w0 h1 h2) h2⟩
theorem Kg.refl {g : Nat} {w : World} (h : g < w.heap.size) : Kg g w w := ⟨fun _ _ _ => rfl, Nat.le_refl _, h, fun _ _ h _ => h⟩
theorem wpList_store_row {P : Program} {ops : Array Oper} {rest : List Oper} {o : Oper} {a : Act} {w : World} {Q : Exit → Act → World → Prop} (hgd : Region.wanted o (yielded ops a.tmps) = true) (ty : TypeId) (x y : Operand) (ho : o.op = .store ty x y) (hd : o.dst = none) (g off n : Nat) (hx : a.eval x = .pointer (some ⟨g, off, none⟩))
    (v : Value) (hy : a.eval y = v) (T : TypeId) (vs cs : List Value) (hM : BK T w g vs) (hv : v.cells = cs.toArray) (hn : cs.length = n) (hi : (P.info? ty).map (·.size) = some n) (hf : off + n ≤ vs.length) (h1 : ∀ u ∈ cs, u.oneCell' = true)
    (h : ∀ w', BK T w' g (putC vs off cs) → Put g w w' → (∀ b, b ≠ g → w'.heap[b]? = w.heap[b]?) → wpList P ops Q rest a w') : wpList P ops Q (o :: rest) a w :=
  S2.wpList_wanted hgd fun _ hK => S2.wp_store ty x y ho hd _ hx v hy _ (run_store_part w g off n T ty vs cs v hv hn hi hM hf h1) (hK _ _ (h _ (MT.put hM off cs) (S2.put_row w g _) (fun b hb => setRow_other w g b _ hb)))
theorem run_clearB (w : World) (ty : TypeId) (b o m c : Nat) (hm : 0 < m) (hc : ∀ j, j < m * 5 → (w.cell? ⟨b, o + j, none⟩).isSome = true) (hf : ∀ j, j < m * 5 → w.frozen? ⟨b, o + j, none⟩ = false) :
    (Builtin.clear_ #[23] ty #[.slice (some ⟨b, o, none⟩) m c]).run Tryz.prog w = .ok (.tuple #[]) (w.setCells b o (zerosB m)) := by
  have hv := Tryz.zeroValue35
  have hst := run_storeCells_cells (P := Tryz.prog) b o (zerosB m) 0 w (by simpa [zerosB_len] using hc) (by simpa [zerosB_len] using hf) (zerosB_one m)
  simp only [Nat.add_zero] at hst
  have hv' : ∀ w, (zeroValue 35).run Tryz.prog w = .ok (.agg (gB BE.zero).toArray) w := hv
  obtain ⟨m', rfl⟩ : ∃ m', m = m' + 1 := ⟨m - 1, by omega⟩
  unfold zerosB at hst ⊢
  simp [Builtin.clear_, run_underlying Tryz.underlying23, hv', hst]

theorem erase_eq {α : Type} (xs : List α) (i : Nat) : xs.eraseIdx i = xs.take i ++ xs.drop (i + 1) := List.eraseIdx_eq_take_drop_succ ..

set_option maxRecDepth 20000 in
set_option maxHeartbeats 1000000 in
theorem deleteB_any (g cap i : Nat) (xs : List BE) (sp : List Value) (W : World) (hg : BK 35 W g (xs.flatMap gB ++ sp)) (hi : i < xs.length) (hn : xs.length ≤ cap) (hcs : (xs.flatMap gB ++ sp).length = cap * 5) :
    Calls Tryz.prog 44 #[.slice (some ⟨g, 0, none⟩) xs.length cap, .int .i64 i, .int .i64 ((i : Int) + 1)] W fun e w' => ∃ sp', e = .returned (.slice (some ⟨g, 0, none⟩) (xs.eraseIdx i).length cap) ∧ BK 35 w' g ((xs.eraseIdx i).flatMap gB ++ sp') ∧ ((xs.eraseIdx i).flatMap gB ++ sp').length = cap * 5 ∧ Put g W w' ∧ ∀ b, b ≠ g → w'.heap[b]? = W.heap[b]? := by
  obtain ⟨i0, hi0, hz0, hzs, hzb⟩ := info_parts bdInfo
  obtain ⟨A, hA, hAe⟩ : ∃ A : Addr, (if cap = i + 1 then some (⟨g, 0, none⟩ : Addr) else some ⟨g, (i + 1) * 5, none⟩) = some A ∧ (i + 1 < cap → A = ⟨g, (i + 1) * 5, none⟩) := by
    by_cases h : cap = i + 1
    · exact ⟨⟨g, 0, none⟩, by rw [if_pos h], fun h' => by omega⟩
    · exact ⟨⟨g, (i + 1) * 5, none⟩, by rw [if_neg h], fun _ => rfl⟩
  have hel : (xs.eraseIdx i).length = xs.length - 1 := by rw [List.length_eraseIdx, if_pos hi]
  obtain ⟨news, hnews⟩ : ∃ news, news = (xs.drop (i + 1)).flatMap gB := ⟨_, rfl⟩
  have hnl : news.length = (xs.length - (i + 1)) * 5 := by rw [hnews, flat_len gB_len, List.length_drop]
  have htl : ((xs.take i).flatMap gB).length = i * 5 := by rw [flat_len gB_len, List.length_take]; congr 1; omega
  have hspl : xs.flatMap gB = (xs.take i).flatMap gB ++ ((xs.drop i).take 1).flatMap gB ++ news := by
    rw [hnews, ← List.flatMap_append, ← List.flatMap_append, List.append_assoc, ← List.drop_drop, List.take_append_drop, List.take_append_drop]
  have hmid : (((xs.drop i).take 1).flatMap gB).length = 5 := by
    rw [flat_len gB_len, List.length_take, List.length_drop]
    have : min 1 (xs.length - i) = 1 := by omega
    rw [this]
  obtain ⟨W1, hW1⟩ : ∃ W1, W1 = W.drew.setCells g (0 + i * 5) news := ⟨_, rfl⟩
  obtain ⟨row1, hrow1⟩ : ∃ r : List Value, r = (xs.flatMap gB ++ sp).take (i * 5) ++ news ++ (xs.flatMap gB ++ sp).drop (i * 5 + news.length) := ⟨_, rfl⟩
  have hB1 : BK 35 W1 g row1 := by
    rw [hW1, hrow1, Nat.zero_add]
    exact S2.bk_setCells news (i * 5) W.drew _ hg.drew (by rw [hcs, hnl]; omega)
  have hP1 : Put g W W1 := by rw [hW1]; exact (S2.Put.refl g W).drew.sets _ _
  have hrl1 : row1.length = cap * 5 := by rw [hrow1]; simp only [List.length_append, List.length_take, List.length_drop] at hcs ⊢; omega
  have htake1 : row1.take ((xs.length - 1) * 5) = (xs.eraseIdx i).flatMap gB := by
    have e1 : (xs.flatMap gB ++ sp).take (i * 5) = (xs.take i).flatMap gB := by
      rw [hspl, List.append_assoc, List.append_assoc, ← htl, List.take_left' rfl]
    rw [hrow1, e1, erase_eq, List.flatMap_append, ← hnews]
    have e2 : (xs.length - 1) * 5 = ((xs.take i).flatMap gB ++ news).length := by rw [List.length_append, htl, hnl]; omega
    rw [e2, List.take_left' rfl]
  obtain ⟨W2, hW2⟩ : ∃ W2, W2 = W1.setCells g ((xs.length - 1) * 5) (zerosB 1) := ⟨_, rfl⟩
  have hB2 : BK 35 W2 g (row1.take ((xs.length - 1) * 5) ++ zerosB 1 ++ row1.drop ((xs.length - 1) * 5 + (zerosB 1).length)) := by
    rw [hW2]
    exact S2.bk_setCells (zerosB 1) ((xs.length - 1) * 5) W1 row1 hB1 (by rw [hrl1, zerosB_len]; omega)
  have hP2 : Put g W W2 := by rw [hW2]; exact hP1.sets _ _
  have hcl : ∀ ty, (Builtin.clear_ #[23] ty #[.slice (some ⟨g, (i + (xs.length - (i + 1))) * 5, none⟩) (xs.length - (i + (xs.length - (i + 1)))) (cap - (i + (xs.length - (i + 1))))]).run Tryz.prog W1 = .ok (.tuple #[]) W2 := fun ty => by
    rw [hW2, show i + (xs.length - (i + 1)) = xs.length - 1 by omega, show xs.length - (xs.length - 1) = 1 by omega]
    exact run_clearB W1 ty g ((xs.length - 1) * 5) 1 _ (by omega) (fun j _ => by
      obtain ⟨u, hu⟩ : ∃ u, row1[(xs.length - 1) * 5 + j]? = some u := ⟨_, List.getElem?_eq_getElem (by omega)⟩
      rw [hB1.cell _ hu]; rfl) (fun j _ => hB1.free _)
  have s1 : Hid (news.length = (xs.length - (i + 1)) * 5) := Lib.hid hnl
  have s2 : Hid (∀ u ∈ news, u.oneCell' = true) := Lib.hid (fun u hu => by
    rw [hnews] at hu
    obtain ⟨x, _, hx⟩ := List.mem_flatMap.1 hu
    exact gB_one x u hx)
  have s3 : Hid (∀ t, t < news.length → (W.drew.cell? ⟨g, 0 + i * 5 + t, none⟩).isSome = true ∧ W.drew.frozen? ⟨g, 0 + i * 5 + t, none⟩ = false) := Lib.hid (fun t ht => by
    rw [Nat.zero_add]
    obtain ⟨u, hu⟩ : ∃ u, (xs.flatMap gB ++ sp)[i * 5 + t]? = some u := ⟨_, List.getElem?_eq_getElem (by omega)⟩
    exact ⟨by rw [hg.drew.cell _ hu]; rfl, hg.drew.free _⟩)
  have s4 : Hid (∀ j u, news[j]? = some u → W.drew.cell? (A.add j) = some u) := Lib.hid (fun j u hj => by
    have hjl := (List.getElem?_eq_some_iff.1 hj).1
    rw [hAe (by omega), Addr.add_lit]
    refine hg.drew.cell _ ?_
    rw [hspl, List.append_assoc, List.append_assoc, List.getElem?_append_right (by omega), List.getElem?_append_right (by omega), List.getElem?_append_left (by omega), ← hj]
    congr 1
    omega)
  have HW := Lib.hid hW1
  have HB2 := Lib.hid hB2
  have HT := Lib.hid htake1
  have HP2 := Lib.hid hP2
  have HK2 : Hid (∀ b, b ≠ g → W2.heap[b]? = W.heap[b]?) := Lib.hid (fun b hb => by rw [hW2, sets_heap _ _ hb, hW1, sets_heap _ _ hb]; rfl)
  have HL1 := Lib.hid hrl1
  have HEL := Lib.hid hel
  have q1 : ((i : Int) == (i : Int) + 1) = false := beq_eq_false_iff_ne.2 (by omega)
  have q2 : (0 : Int) ≤ (i : Int) + 1 := by omega
  have q3 : (i : Int) + 1 ≤ (xs.length : Int) := by omega
  have hic : i ≤ cap := by omega
  have hjc : i + 1 ≤ cap := by omega
  have hlast : i + (xs.length - (i + 1)) = xs.length - 1 := by omega
  have HLA := Lib.hid hlast
  clear hB1 hP1 hB2 hP2 hW1 hW2 hrow1 hg hcs hspl hmid htl hnl hAe htake1 hrl1 hel hnews hlast
  go_enter Tryz.func44, Tryz.ntmps44
  go_wp2_with fail
  go_region_law (refine step_append_room rfl (.tmp 22) (.tmp 25) 23 rfl 35 i0 5 Tryz.underlying23 hi0 hzs g 0 i cap (by simp [Act.eval, Act.put]) A (xs.length - (i + 1)) (cap - (i + 1)) news (by simp [Act.eval, Act.put]) s1.out s4.out s2.out (by omega) s3.out ?_; rw [← HW.out])
  go_wp2
  go_ret
  refine ⟨zerosB 1 ++ row1.drop ((xs.length - 1) * 5 + (zerosB 1).length), by rw [HEL.out, HLA.out]; rfl, ?_, ?_, HP2.out, HK2.out⟩
  · have := HB2.out
    rw [HT.out, List.append_assoc] at this
    exact this
  · have h1 := HL1.out
    have h2 := HEL.out
    rw [← HT.out]
    simp only [List.length_append, List.length_take, List.length_drop, zerosB_len] at h1 ⊢
    omega


/-! ### DeleteFunc -/
/-- what stays -/
def kpQ (q : ByteArray) (x : BE) : Bool := !decide (x.d.qu = q)
theorem kpQ_map (q : ByteArray) (xs : List BE) : (xs.filter (kpQ q)).map BE.d = dropR (xs.map BE.d) q := by
  unfold dropR
  rw [List.filter_map]
  rfl
def gone (q : ByteArray) : List BE → Nat → Int
  | [], _ => -1
  | x :: r, k => if x.d.qu = q then (k : Int) else gone q r (k + 1)
theorem gone_spec (q : ByteArray) : ∀ (r : List BE) (k : Nat), (gone q r k = -1 ∧ r.filter (kpQ q) = r) ∨ ∃ i x, gone q r k = ((k + i : Nat) : Int) ∧ r[i]? = some x ∧ x.d.qu = q ∧ (r.take i).filter (kpQ q) = r.take i
  | [], k => .inl ⟨rfl, rfl⟩
  | x :: r, k => by
    unfold gone
    by_cases h : x.d.qu = q
    · rw [if_pos h]
      exact .inr ⟨0, x, rfl, rfl, h, rfl⟩
    · rw [if_neg h]
      have hk : kpQ q x = true := by unfold kpQ; rw [decide_eq_false h]; rfl
      rcases gone_spec q r (k + 1) with ⟨h1, h2⟩ | ⟨i, y, h1, h2, h3, h4⟩
      · exact .inl ⟨h1, by rw [List.filter_cons_of_pos hk, h2]⟩
      · exact .inr ⟨i + 1, y, by rw [h1]; congr 1; omega, by rw [List.getElem?_cons_succ]; exact h2, h3, by rw [List.take_succ_cons, List.filter_cons_of_pos hk, h4]⟩
/-- behind j: what stays, then what may be written over, then the rest -/
structure Dfi (q : ByteArray) (xs : List BE) (j : Nat) (ys zs : List BE) : Prop where
  a : ys = (xs.take j).filter (kpQ q)
  l : ys.length + zs.length = j
  p : 0 < zs.length
  n : j ≤ xs.length
theorem Dfi.start {q : ByteArray} {xs : List BE} {i : Nat} {x : BE} (hx : xs[i]? = some x) (hq : x.d.qu = q) (h : (xs.take i).filter (kpQ q) = xs.take i) : Dfi q xs (i + 1) (xs.take i) [x] ∧ xs.take i ++ [x] ++ xs.drop (i + 1) = xs := by
  have hi := (List.getElem?_eq_some_iff.1 hx).1
  have hk : kpQ q x = false := by unfold kpQ; rw [decide_eq_true hq]; rfl
  refine ⟨⟨?_, by rw [List.length_take]; simp; omega, by simp, by omega⟩, ?_⟩
  · rw [List.take_add_one, hx, Option.toList_some, List.filter_append, h, List.filter_cons_of_neg (by simp [hk]), List.filter_nil, List.append_nil]
  · have e : xs.take i ++ [x] = xs.take (i + 1) := by rw [List.take_add_one, hx]; rfl
    rw [e, List.take_append_drop]
theorem Dfi.at_ {q : ByteArray} {xs ys zs : List BE} {j : Nat} (h : Dfi q xs j ys zs) : (ys ++ zs ++ xs.drop j)[j]? = xs[j]? := by
  rw [List.getElem?_append_right (by rw [List.length_append, h.l]; exact Nat.le_refl _), List.length_append, h.l, Nat.sub_self, List.getElem?_drop, Nat.add_zero]
theorem Dfi.len {q : ByteArray} {xs ys zs : List BE} {j : Nat} (h : Dfi q xs j ys zs) : (ys ++ zs ++ xs.drop j).length = xs.length := by
  rw [List.length_append, List.length_append, h.l, List.length_drop]; have := h.n; omega
theorem Dfi.skip {q : ByteArray} {xs ys zs : List BE} {j : Nat} {x : BE} (h : Dfi q xs j ys zs) (hx : xs[j]? = some x) (hk : kpQ q x = false) : Dfi q xs (j + 1) ys (zs ++ [x]) ∧ ys ++ (zs ++ [x]) ++ xs.drop (j + 1) = ys ++ zs ++ xs.drop j := by
  have hi := (List.getElem?_eq_some_iff.1 hx).1
  refine ⟨⟨?_, by have := h.l; rw [List.length_append]; simp; omega, by rw [List.length_append]; simp, by omega⟩, ?_⟩
  · rw [List.take_add_one, hx, Option.toList_some, List.filter_append, ← h.a, List.filter_cons_of_neg (by simp [hk]), List.filter_nil, List.append_nil]
  · rw [dropC hx]; simp
theorem Dfi.take {q : ByteArray} {xs ys zs : List BE} {j : Nat} {x : BE} (h : Dfi q xs j ys zs) (hx : xs[j]? = some x) (hk : kpQ q x = true) : Dfi q xs (j + 1) (ys ++ [x]) (zs.tail ++ [x]) ∧ (ys ++ zs ++ xs.drop j).set ys.length x = (ys ++ [x]) ++ (zs.tail ++ [x]) ++ xs.drop (j + 1) ∧ ∃ z, (ys ++ zs ++ xs.drop j)[ys.length]? = some z := by
  have hi := (List.getElem?_eq_some_iff.1 hx).1
  have hp := h.p
  obtain ⟨z, zr, rfl⟩ : ∃ z zr, zs = z :: zr := List.exists_cons_of_length_pos hp
  refine ⟨⟨?_, by have := h.l; simp at this ⊢; omega, by simp, by omega⟩, ?_, z, ?_⟩
  · rw [List.take_add_one, hx, Option.toList_some, List.filter_append, ← h.a, List.filter_cons_of_pos hk, List.filter_nil]
  · rw [dropC hx, List.append_assoc, List.set_append_right _ _ (Nat.le_refl _), Nat.sub_self]
    simp
  · rw [List.append_assoc, List.getElem?_append_right (Nat.le_refl _), Nat.sub_self]
    rfl
theorem dropf_any (x : BE) (q : ByteArray) (g : Nat) (T : TypeId) (w : World) (hg : BK T w g [.string q]) :
    Calls Tryz.prog 46 #[bdV x, .pointer (some ⟨g, 0, none⟩)] w fun e w' => e = .returned (.bool (decide (x.d.qu = q))) ∧ Below w.heap.size w w' := by
  have q1 : (x.d.qu.toList == q.toList) = decide (x.d.qu = q) := str_dec _ _
  generalize decide (x.d.qu = q) = b1 at *
  have HG := Lib.hid hg
  clear hg
  have HV : Hid (bdV x = .agg (gB x).toArray) := Lib.hid rfl
  rw [HV.out]
  have CX : gB x = [.string x.d.ex, .string x.d.qu, .string x.d.ky, .bool x.d.all, .slice x.a x.d.ml.length x.c] := rfl
  rw [CX]
  clear CX
  go_enter Tryz.func46, Tryz.ntmps46
  go_upto_region 1 with fail
  refine name_world (C := fun w1 => Code.wp _ _ _ _ w1) (w.alloc (.cells (gB x).toArray 35)) ?_
  intro w1 hw1
  have hb1 : Below w.heap.size w w1 := by rw [hw1]; exact S2.below_new w _
  have X_w1 : Hid (BK 35 w1 w.heap.size (gB x)) := Lib.hid (by rw [hw1]; exact BK.new w _ _)
  have B_w1 := Lib.hid hb1
  have G_w1 := Lib.hid (HG.out.step hb1)
  have z1 : w1.cell? ⟨w.heap.size, 1, none⟩ = some (.string x.d.qu) := X_w1.out.cell 1 rfl
  have z2 := G_w1.out.cell 0 rfl
  clear hw1 hb1
  cases b1
  all_goals
    go_wp2
    go_ret
    exact ⟨rfl, B_w1.out⟩
set_option maxRecDepth 20000 in
set_option maxHeartbeats 4000000 in
theorem idxD_any (A : Option Addr) (c : Nat) (xs : List BE) (q : ByteArray) (g : Nat) (T : TypeId) (w : World) (h : BI w w.heap.size A xs) (hn : xs.length ≤ 1000000) (hg : BK T w g [.string q]) :
    Calls Tryz.prog 68 #[.slice A xs.length c, .func (.func 46) #[] #[.pointer (some ⟨g, 0, none⟩)]] w fun e w' => e = .returned (.int .i64 (gone q xs 0)) ∧ Below w.heap.size w w' := by
  have HS := Lib.hid h
  have HGB := Lib.hid hg
  have HC := Lib.hid (fun x w1 h1 => dropf_any x q g T w1 h1)
  obtain ⟨R, hR⟩ : ∃ R, gone q xs 0 = R := ⟨_, rfl⟩
  have HR : Hid (R = gone q (xs.drop 0) 0) := Lib.hid (by rw [← hR]; rfl)
  rw [hR]
  clear h hg hR
  go_enter Tryz.func68, Tryz.ntmps68
  go_wp2
  go_loopg [8] xs.length (fun n v wr => ∃ k : Nat, k + n = xs.length ∧ v = .int .i64 k ∧ R = gone q (xs.drop k) k ∧ Below w.heap.size w wr)
  case atStart => exact ⟨0, by omega, rfl, HR.out, Below.refl _ _⟩
  case round =>
    obtain ⟨k, hkg, rfl, hrel, hb0⟩ := hrel
    have HREL := Lib.hid hrel
    have HB0 := Lib.hid hb0
    have HG := Lib.hid hkg
    clear hrel hb0 HR
    cases gk with
    | zero =>
      obtain rfl : k = xs.length := by omega
      have HV : Hid (R = -1) := Lib.hid (by rw [HREL.out, List.drop_length]; rfl)
      clear hkg
      go_wp2
      go_ret
      exact ⟨retI HV.out.symm, HB0.out⟩
    | succ n =>
      have hlt : k < xs.length := by omega
      have e3 : decide ((k : Int) < (xs.length : Int)) = true := decide_eq_true (by omega)
      obtain ⟨x, hx⟩ : ∃ x, xs[k]? = some x := ⟨_, List.getElem?_eq_getElem hlt⟩
      have hsr := HS.out.step HB0.out
      obtain ⟨b, o, hA, hbB, hcl, hpl⟩ := hsr.at_ hx
      have HLD := Lib.hid (load_bd hcl)
      have HGI := Lib.hid (HGB.out.step HB0.out)
      have HD : Hid (R = if x.d.qu = q then (k : Int) else gone q (xs.drop (k + 1)) (k + 1)) := Lib.hid (by rw [HREL.out, dropC hx]; rfl)
      subst hA
      have j1 : (0 : Int) ≤ (k : Int) := by omega
      have j2 : (k : Int) < (xs.length : Int) := by omega
      clear hx hkg hlt hbB hcl hpl hsr HREL
      go_wp2_with first
        | (refine wpList_load_v (by rfl) 35 _ rfl ⟨b, o + k * 5, none⟩ (by go_simp) _ HLD.out ?_)
      refine (HC.out x _ HGI.out).mono ?_
      rintro e w1 ⟨rfl, hb⟩
      have HB1 := Lib.hid (stepB HB0.out hb)
      clear hb HLD
      by_cases hxy : x.d.qu = q
      · have HV : Hid (R = (k : Int)) := Lib.hid (by rw [HD.out, if_pos hxy])
        rw [decide_eq_true hxy]
        clear hxy
        go_wp2_with fail
        go_ret
        exact ⟨retI HV.out.symm, HB1.out⟩
      · have HV : Hid (R = gone q (xs.drop (k + 1)) (k + 1)) := Lib.hid (by rw [HD.out, if_neg hxy])
        rw [decide_eq_false hxy]
        clear hxy
        go_wp2_with fail
        go_roundg n
        case measure => omega
        case rel => exact ⟨k + 1, by have := HG.out; omega, by go_num, HV.out, HB1.out⟩

set_option maxRecDepth 20000 in
set_option maxHeartbeats 8000000 in
theorem deleteF_any (g cap : Nat) (xs : List BE) (sp : List Value) (q : ByteArray) (gq : Nat) (T : TypeId) (w : World) (hg : BK 35 w g (xs.flatMap gB ++ sp)) (hn : xs.length ≤ cap) (hcs : (xs.flatMap gB ++ sp).length = cap * 5) (hn2 : xs.length ≤ 1000000) (hI : BI w w.heap.size (some ⟨g, 0, none⟩) xs) (hq : BK T w gq [.string q]) (hne : gq ≠ g) :
    Calls Tryz.prog 45 #[.slice (some ⟨g, 0, none⟩) xs.length cap, .func (.func 46) #[] #[.pointer (some ⟨gq, 0, none⟩)]] w fun e w' => ∃ sp', e = .returned (.slice (some ⟨g, 0, none⟩) (xs.filter (kpQ q)).length cap) ∧ BK 35 w' g ((xs.filter (kpQ q)).flatMap gB ++ sp') ∧ ((xs.filter (kpQ q)).flatMap gB ++ sp').length = cap * 5 ∧ Kg g w w' := by
  have HIX := Lib.hid (idxD_any (some ⟨g, 0, none⟩) cap xs q gq T w hI hn2 hq)
  have HGO := Lib.hid (gone_spec q xs 0)
  have HGR := Lib.hid hg
  have HCS := Lib.hid hcs
  have HQ := Lib.hid hq
  have HNE := Lib.hid hne
  have HN := Lib.hid hn
  have HDF := Lib.hid (fun x w1 h1 => dropf_any x q gq T w1 h1)
  generalize gone q xs 0 = R at *
  clear hI hq hg hcs hne
  go_enter Tryz.func45, Tryz.ntmps45
  go_wp2_with fail
  refine HIX.out.mono ?_
  rintro e w1 ⟨rfl, hb⟩
  have G_w1 := Lib.hid (HGR.out.step hb)
  have Q_w1 := Lib.hid (HQ.out.step hb)
  have KB : Hid (Kg g w w1) := Lib.hid ((Kg.refl HGR.out.lt).step hb)
  clear hb HIX HGR HQ
  rcases HGO.out with ⟨hR, hf⟩ | ⟨i, x0, hR, hx0, hxq, hf⟩
  · subst hR
    have HF := Lib.hid hf
    clear hf
    go_wp2_with fail
    go_ret
    rw [HF.out]
    exact ⟨sp, rfl, G_w1.out, HCS.out, KB.out⟩
  · rw [Nat.zero_add] at hR
    subst hR
    have hi := (List.getElem?_eq_some_iff.1 hx0).1
    have HST := Lib.hid (Dfi.start hx0 hxq hf)
    have q1 : ((i : Int) == -1) = false := beq_eq_false_iff_ne.2 (by omega)
    have hi1 : ((i + 1 : Nat) : Int) = (i : Int) + 1 := by omega
    have u0 : wrap64 ((i : Int) + 1) = (i : Int) + 1 := S2.wrap64_id _ (by omega) (by omega)
    clear hx0 hxq hf HGO
    have HL0 : Hid ((xs.take i).length = i) := Lib.hid (by rw [List.length_take]; omega)
    go_wp2_with fail
    go_loopg [5, 6] (xs.length - (i + 1)) (fun n u v wr => ∃ (j : Nat) (ys zs : List BE), j + n = xs.length ∧ u = .int .i64 ys.length ∧ v = .int .i64 j ∧ Dfi q xs j ys zs ∧ BK 35 wr g ((ys ++ zs ++ xs.drop j).flatMap gB ++ sp) ∧ BK T wr gq [.string q] ∧ Kg g w wr)
    case atStart => exact ⟨i + 1, xs.take i, [x0], by omega, by rw [HL0.out], by rw [hi1], HST.out.1, by rw [HST.out.2]; exact G_w1.out, Q_w1.out, KB.out⟩
    case round =>
      obtain ⟨j, ys, zs, hjn, rfl, rfl, hdf, hrow, hbq, hk⟩ := hrel
      have HD := Lib.hid hdf
      have ROW := Lib.hid hrow
      have BQ := Lib.hid hbq
      have K := Lib.hid hk
      have HJ := Lib.hid hjn
      have hdn := hdf.n
      have hdl := hdf.l
      have hdp := hdf.p
      clear hdf hrow hbq hk G_w1 Q_w1 KB HST
      cases gk with
      | zero =>
        obtain rfl : j = xs.length := by omega
        have e3 : decide ((xs.length : Int) < (xs.length : Int)) = false := decide_eq_false (by omega)
        have hyf : ys = xs.filter (kpQ q) := by have := HD.out.a; rwa [List.take_length] at this
        have HYF := Lib.hid hyf
        have HR0 := ROW.out
        rw [List.drop_length, List.append_nil, List.flatMap_append] at HR0
        have hln : (ys.flatMap gB).length = ys.length * 5 := flat_len gB_len ys
        have hlz : (zs.flatMap gB).length = zs.length * 5 := flat_len gB_len zs
        have hrl : (ys.flatMap gB ++ zs.flatMap gB ++ sp).length = cap * 5 := by
          have h1 := HCS.out
          rw [List.length_append, flat_len gB_len] at h1
          rw [List.length_append, List.length_append, hln, hlz]
          rw [← hdl] at h1
          omega
        obtain ⟨W2, hW2⟩ : ∃ W2, W2 = wr.setCells g (ys.length * 5) (zerosB zs.length) := ⟨_, rfl⟩
        have hcl : ∀ ty, (Builtin.clear_ #[23] ty #[.slice (some ⟨g, ys.length * 5, none⟩) (xs.length - ys.length) (cap - ys.length)]).run Tryz.prog wr = .ok (.tuple #[]) W2 := fun ty => by
          rw [hW2, show xs.length - ys.length = zs.length by omega]
          exact run_clearB wr ty g (ys.length * 5) zs.length _ hdp (fun t ht => by
            obtain ⟨u, hu⟩ : ∃ u, (ys.flatMap gB ++ zs.flatMap gB ++ sp)[ys.length * 5 + t]? = some u := ⟨_, List.getElem?_eq_getElem (by rw [List.length_append, List.length_append, hln, hlz]; omega)⟩
            rw [HR0.cell _ hu]; rfl) (fun t _ => HR0.free _)
        have hB2 := S2.bk_setCells (zerosB zs.length) (ys.length * 5) wr _ HR0 (by rw [zerosB_len, List.length_append, List.length_append, hln, hlz]; omega)
        rw [← hW2] at hB2
        have hP2 : Put g wr W2 := by rw [hW2]; exact (S2.Put.refl g wr).sets _ _
        have htk : (ys.flatMap gB ++ zs.flatMap gB ++ sp).take (ys.length * 5) = ys.flatMap gB := by rw [List.append_assoc, ← hln, List.take_left' rfl]
        rw [htk, List.append_assoc] at hB2
        have HB2 := Lib.hid hB2
        have HP2 := Lib.hid hP2
        have HK2 : Hid (∀ b, b ≠ g → W2.heap[b]? = wr.heap[b]?) := Lib.hid (fun b hb => by rw [hW2, sets_heap _ _ hb])
        have HLL : Hid ((ys.flatMap gB ++ (zerosB zs.length ++ (ys.flatMap gB ++ zs.flatMap gB ++ sp).drop (ys.length * 5 + (zerosB zs.length).length))).length = cap * 5) := Lib.hid (by
          simp only [List.length_append, List.length_drop, zerosB_len, hln, hlz] at hrl ⊢
          omega)
        have c0 : (0 : Int) ≤ (ys.length : Int) := by omega
        have c1 : (ys.length : Int) ≤ (xs.length : Int) := by omega
        have c2 : (ys.length : Int) ≤ (cap : Int) := by have := HN.out; omega
        have c3 : decide ((ys.length : Int) ≤ (cap : Int)) = true := decide_eq_true c2
        have c4 : ¬ (cap = ys.length) := by have := HN.out; omega
        clear hW2 hB2 hP2 htk hrl hln hlz HR0 hyf hdn hdl hdp hjn
        go_wp2
        go_ret
        rw [← HYF.out]
        exact ⟨_, rfl, HB2.out, HLL.out, K.out.put HK2.out HP2.out⟩
      | succ n =>
        have hlt : j < xs.length := by omega
        have e3 : decide ((j : Int) < (xs.length : Int)) = true := decide_eq_true (by omega)
        obtain ⟨x, hx⟩ : ∃ x, xs[j]? = some x := ⟨_, List.getElem?_eq_getElem hlt⟩
        have hat := HD.out.at_
        rw [hx] at hat
        have HLD : Hid ((loadVar 35 ⟨g, j * 5, none⟩).run Tryz.prog wr = .ok (bdV x) wr) := Lib.hid (load_bd (fun i v hv => row_atG gB_len ROW.out hat i v hv))
        have HX := Lib.hid hx
        have j1 : (0 : Int) ≤ (j : Int) := by omega
        have j2 : (j : Int) < (xs.length : Int) := by omega
        have i1 : (0 : Int) ≤ (ys.length : Int) := by omega
        have i2 : (ys.length : Int) < (xs.length : Int) := by omega
        have HGL : Hid (g < wr.heap.size) := Lib.hid ROW.out.lt
        clear hx hat hjn hdl hdp
        go_wp2_with first
          | (refine wpList_load_v (by rfl) 35 _ rfl ⟨g, j * 5, none⟩ (by go_simp) _ HLD.out ?_)
          | (refine S2.wpList_store_all (by rfl) 35 (.tmp 7) (.tmp 25) rfl rfl wr.heap.size rfl (gB x) rfl 35 _ (BK.new wr _ _) bdSize rfl (gB_one _) ?_; intro w2 hM hP; have hb := hP.below (S2.below_new wr _) (Nat.le_refl _); have V_w2 := Lib.hid hM; have R_w2 := Lib.hid (ROW.out.step hb); have Q_w2 := Lib.hid (BQ.out.step hb); have K_w2 := Lib.hid (K.out.step hb); have HLV := Lib.hid (load_bd0 hM); clear hM hP hb HLD ROW BQ K)
          | (refine wpList_load_v (by rfl) 35 (.tmp 7) rfl ⟨wr.heap.size, 0, none⟩ rfl _ HLV.out ?_)
        refine (HDF.out x w2 Q_w2.out).mono ?_
        rintro e w3 ⟨rfl, hb⟩
        have V_w3 := Lib.hid (V_w2.out.step hb)
        have R_w3 := Lib.hid (R_w2.out.step hb)
        have Q_w3 := Lib.hid (Q_w2.out.step hb)
        have K_w3 := Lib.hid (K_w2.out.step hb)
        clear hb V_w2 R_w2 Q_w2 K_w2 HLV
        by_cases hxq : x.d.qu = q
        · have hk : kpQ q x = false := by unfold kpQ; rw [decide_eq_true hxq]; rfl
          have HS2 := Lib.hid (HD.out.skip HX.out hk)
          rw [decide_eq_true hxq]
          clear hxq hk
          go_wp2_with fail
          go_roundg n
          case measure => omega
          case rel => exact ⟨j + 1, ys, zs ++ [x], by have := HJ.out; omega, rfl, by go_num, HS2.out.1, by rw [HS2.out.2]; exact R_w3.out, Q_w3.out, K_w3.out⟩
        · have hk : kpQ q x = true := by unfold kpQ; rw [decide_eq_false hxq]; rfl
          obtain ⟨hd2, hset, z, hz⟩ := HD.out.take HX.out hk
          have HD2 := Lib.hid hd2
          have HPUT := Lib.hid (put_atG (g := gB) gB_len hz x 0 (gB x) sp (by unfold putC; simp [gB_len]) (by rw [gB_len]; decide))
          have HSET := Lib.hid hset
          have HFIT : Hid (ys.length * 5 + 5 ≤ ((ys ++ zs ++ xs.drop j).flatMap gB ++ sp).length) := Lib.hid (by rw [List.length_append, flat_len gB_len, HD.out.len]; omega)
          have HLV := Lib.hid (load_bd0 V_w3.out)
          have HNG : Hid (wr.heap.size ≠ g) := Lib.hid (by have := HGL.out; omega)
          rw [decide_eq_false hxq]
          clear hxq hk hd2 hset hz
          go_wp2_with first
            | (refine wpList_load_v (by rfl) 35 (.tmp 7) rfl ⟨wr.heap.size, 0, none⟩ rfl _ HLV.out ?_)
            | (refine wpList_store_row (by rfl) 35 (.tmp 33) (.tmp 32) rfl rfl g (ys.length * 5) 5 (by simp [Act.eval]) (bdV x) rfl 35 _ (gB x) R_w3.out rfl rfl bdSize HFIT.out (gB_one _) ?_; intro w4 hM hP hk4; have M4 := Lib.hid hM; have P4 := Lib.hid hP; have K4 := Lib.hid hk4; clear hM hP hk4)
          go_roundg n
          case measure => omega
          case rel =>
            refine ⟨j + 1, ys ++ [x], zs.tail ++ [x], by have := HJ.out; omega, by rw [List.length_append]; go_num, by go_num, HD2.out, ?_, P4.out.other Q_w3.out HNE.out, K_w3.out.put K4.out P4.out⟩
            have h := M4.out
            have h2 := HPUT.out
            rw [Nat.add_zero] at h2
            rw [h2, HSET.out] at h
            exact h
end Go.Proofs.YtjkhfifnfgchgabGreatDoor
namespace Go.Proofs.YtjkhfifnfgchgabGreatDoor
open Go.RowKit
open S2 (BK Put get_ops)

theorem unbR_none {bs : List Bd} {b : Bd} (h : fB b bs 0 < 0) : unbR bs b = ([], 8) := by unfold unbR; rw [if_pos h]
theorem unbR_some {bs : List Bd} {b : Bd} {i : Nat} (h : fB b bs 0 = (i : Int)) : unbR bs b = (bs.eraseIdx i, 0) := by unfold unbR; rw [h, if_neg (by omega), Int.toNat_natCast]
/-- what Unbind answers -/
def RetUn (l : List Ex) (bs : List Bd) (b : Bd) (W : World) (e : Ending) (w' : World) : Prop := ∃ v1 v2 ys, e = .returned (.tuple #[.agg #[v1, v2], .int .i64 (unbR bs b).2]) ∧ ys.map BE.d = (unbR bs b).1 ∧ RtN W.heap.size w' v1 (if (unbR bs b).2 = 0 then l else []) v2 ys ∧ Below W.heap.size W w'
/-- some of the bindings, in the same row -/
theorem RtN.sub {B : Nat} {w w' : World} {v1 v2 : Value} {g n' cap : Nat} {l : List Ex} {ys ys' : List BE} (h : RtN B w v1 l v2 ys) (hg : v2.ownBlock = some g) (hk : ∀ b, b < w.heap.size → b ≠ g → w'.heap[b]? = w.heap[b]?) (hs : w.heap.size ≤ w'.heap.size) (hsub : ∀ x ∈ ys', x ∈ ys)
    (ho : OwnB w' B (.slice (some ⟨g, 0, none⟩) n' cap) ys') : RtN B w' v1 l (.slice (some ⟨g, 0, none⟩) n' cap) ys' :=
  ⟨h.e.keepb (fun b e => hk b (own_lt h.e b e).2 (fun e2 => (h.d b e).1 (by rw [e2]; exact hg))),
   ⟨ho, fun x hx => ⟨PL.keepb (h.b.2 x (hsub x hx)).1 hs (fun b o e hn hb => hk b hb (fun e2 => h.b.off (hsub x hx) e hn (by rw [e2]; exact hg))), fun b o e hn q n c ev eb => by
      simp only [Value.slice.injEq, Option.some.injEq, Addr.mk.injEq, and_true] at ev
      exact h.b.off (hsub x hx) e hn (by rw [eb, ← ev.1]; exact hg), (h.b.2 x (hsub x hx)).2.2⟩⟩,
   fun k e => ⟨fun e2 => by
      simp only [Value.ownBlock, Option.some.injEq] at e2
      exact (h.d k e).1 (by rw [← e2]; exact hg), fun y hy => (h.d k e).2 y (hsub y hy)⟩⟩
theorem RtOff.sub {g0 g n' cap : Nat} {v1 v2 : Value} {ys ys' : List BE} (h : RtOff g0 v1 v2 ys) (hg : v2.ownBlock = some g) (hsub : ∀ x ∈ ys', x ∈ ys) : RtOff g0 v1 (.slice (some ⟨g, 0, none⟩) n' cap) ys' :=
  ⟨h.e, fun e => h.b (hg.trans e), fun y hy => h.p y (hsub y hy)⟩
theorem mem_erase {ys : List BE} {i : Nat} : ∀ x ∈ ys.eraseIdx i, x ∈ ys := fun _ h => List.mem_of_mem_eraseIdx h
theorem map_erase {ys : List BE} {bs : List Bd} (h : ys.map BE.d = bs) (i : Nat) : (ys.eraseIdx i).map BE.d = bs.eraseIdx i := by
  rw [erase_eq, erase_eq, List.map_append, List.map_take, List.map_drop, h]

set_option maxRecDepth 20000 in
set_option maxHeartbeats 8000000 in
theorem xUnbind_any (A1 : Option Addr) (c1 : Nat) (l : List Ex) (A2 : Option Addr) (c2 : Nat) (xs : List BE) (y : BE) (w : World) (h1 : EL w w.heap.size A1 l) (h2 : BI w w.heap.size A2 xs) (hf : Few xs) (hn1 : l.length ≤ 100000) (hn2 : xs.length ≤ 100000) (hy : BIn w y) :
    Calls Tryz.prog 14 #[rtV A1 l.length c1 A2 xs.length c2, bdV y] w (RetUn l (xs.map BE.d) y.d w) := by
  have HIX := Lib.hid (fun w1 h1 h2 => indexOf_any A2 c2 xs y w1 h1 hf (by omega) h2)
  have HCR := Lib.hid (fun w1 h1 h2 => copyRoutes_any A1 c1 l A2 c2 xs w1 h1 h2 hf hn1 hn2)
  have HL := Lib.hid h1
  have HX := Lib.hid h2
  have HY := Lib.hid hy
  have HN2 := Lib.hid hn2
  clear h1 h2 hf hn1 hn2 hy
  unfold rtV at *
  have HV : Hid (bdV y = .agg (gB y).toArray) := Lib.hid rfl
  rw [HV.out]
  have CX : gB y = [.string y.d.ex, .string y.d.qu, .string y.d.ky, .bool y.d.all, .slice y.a y.d.ml.length y.c] := rfl
  rw [CX]
  clear CX
  go_enter Tryz.func14, Tryz.ntmps14
  go_upto_region 1 with fail
  refine name_world (C := fun w1 => Code.wp _ _ _ _ w1) (((w.alloc (.cells [.slice A1 l.length c1, .slice A2 xs.length c2].toArray 25)).alloc (.cells [.string y.d.ex, .string y.d.qu, .string y.d.ky, .bool y.d.all, .slice y.a y.d.ml.length y.c].toArray 35)).alloc (.cells [.slice none 0 0, .slice none 0 0].toArray 25)) ?_
  intro w1 hw1
  obtain ⟨u1, u2, u3, hB0, hs0⟩ := three_laid hw1
  have T_w1 := Lib.hid u1
  have X_w1 : Hid (BK 35 w1 (w.heap.size + 1) (gB y)) := Lib.hid u2
  have Z_w1 := Lib.hid u3
  have B_w1 := Lib.hid hB0
  have L_w1 := Lib.hid (GL.step HL.out hB0)
  have S_w1 := Lib.hid (LI.step HX.out hB0)
  have Y_w1 := Lib.hid (HY.out.step hB0)
  clear hw1 u1 u2 u3 hB0 hs0 HL HX HV HY
  obtain ⟨fi, hfi⟩ : ∃ fi, fB y.d (xs.map BE.d) 0 = fi := ⟨_, rfl⟩
  rw [hfi] at HIX
  have HFI := Lib.hid hfi
  clear hfi
  have t1 := T_w1.out.cell 1 rfl
  have HLY := Lib.hid (load_bd0 X_w1.out)
  go_wp2_with first
    | (refine wpList_load_v (by rfl) 35 (.tmp 3) rfl ⟨w.heap.size + 1, 0, none⟩ rfl _ HLY.out ?_)
  refine (HIX.out _ S_w1.out Y_w1.out).mono ?_
  rintro e w3 ⟨rfl, hb⟩
  clear HLY t1 HIX
  have T_w3 := Lib.hid (T_w1.out.step hb)
  have X_w3 := Lib.hid (X_w1.out.step hb)
  have Z_w3 := Lib.hid (Z_w1.out.step hb)
  have B_w3 := Lib.hid (stepB B_w1.out hb)
  have L_w3 := Lib.hid (GL.step L_w1.out hb)
  have S_w3 := Lib.hid (LI.step S_w1.out hb)
  have Y_w3 := Lib.hid (Y_w1.out.step hb)
  clear hb T_w1 X_w1 Z_w1 B_w1 L_w1 S_w1 Y_w1
  by_cases hfn : fi < 0
  · have HFN : Hid (fB y.d (xs.map BE.d) 0 < 0) := Lib.hid (by rw [HFI.out]; exact hfn)
    have q1 : decide (fi < 0) = true := decide_eq_true hfn
    clear hfn
    have HZL := Lib.hid Z_w3.out
    go_wp2_with first
      | (refine S2.wpList_store_all (by rfl) 25 (.tmp 4) (.tmp 14) rfl rfl (w.heap.size + 2) rfl [.slice none 0 0, .slice none 0 0] rfl 25 [.slice none 0 0, .slice none 0 0] HZL.out rtSize rfl (ones rfl) ?_; intro wz hM hP; have M9 := Lib.hid hM; have P9 := Lib.hid hP; clear hM hP)
    refine bodyPost_ret (v := .tuple #[.agg #[.slice none 0 0, .slice none 0 0], .int .i64 8]) (S2.res_cell_tmp rfl _ _ (w.heap.size + 2) 25 [.slice none 0 0, .slice none 0 0] _ _ rfl rfl M9.out Tryz.underlying25 rfl rtSize) rfl ?_
    unfold RetUn
    rw [unbR_none HFN.out]
    exact ⟨_, _, [], rfl, rfl, by (first | rw [if_neg (by first | decide | exact HNE.out)]); exact RtN.nil, P9.out.below B_w3.out (by omega)⟩
  · have q1 : decide (fi < 0) = false := decide_eq_false hfn
    have hat := fB_at y.d (xs.map BE.d) (by rw [HFI.out]; omega)
    obtain ⟨i, hi, hil⟩ := hat
    rw [List.length_map] at hil
    have HIE := Lib.hid hi
    rw [HFI.out] at hi
    subst hi
    have HIL := Lib.hid hil
    clear hfn hil
    have HLT : Hid ((loadVar 25 ⟨w.heap.size, 0, none⟩).run Tryz.prog w3 = .ok (.agg #[.slice A1 l.length c1, .slice A2 xs.length c2]) w3) := Lib.hid (S2.run_load_all T_w3.out Tryz.underlying25 rfl rtSize)
    go_wp2_with first
      | (refine wpList_load_v (by rfl) 25 (.tmp 2) rfl ⟨w.heap.size, 0, none⟩ rfl _ HLT.out ?_)
    refine (HCR.out _ L_w3.out S_w3.out).mono ?_
    rintro e w5 ⟨v1, v2, ys, rfl, hys, hrt, hb⟩
    have HYS := Lib.hid hys
    have hyl : ys.length = xs.length := by have := congrArg List.length hys; rwa [List.length_map, List.length_map] at this
    obtain ⟨Ae, ce, Av, cv, hv1, hv2, _⟩ := hrt.ret
    subst hv1
    have hst := own_rowG hrt.b.1
    subst hv2
    rcases hst with ⟨_, h0⟩ | ⟨g, cap, sp, hvg, hg0, hBK, hnc, hcm, hcs⟩
    · have := HIL.out; rw [h0] at hyl; simp at hyl; omega
    · simp only [Value.slice.injEq, true_and] at hvg
      obtain ⟨rfl, rfl⟩ := hvg
      have HOFZ : Hid (RtOff (w.heap.size + 2) (.slice Ae l.length ce) (.slice (some ⟨g, 0, none⟩) ys.length cv) ys) := Lib.hid (hrt.low Z_w3.out.lt)
      have R_w5 := Lib.hid (RtN.weak hrt B_w3.out.size)
      have ROW_w5 := Lib.hid hBK
      have HYI : Hid (i < ys.length) := Lib.hid (by have := HIL.out; omega)
      have HGG : Hid (w3.heap.size ≤ g ∧ g < w5.heap.size ∧ ys.length ≤ cv ∧ cv ≤ maxLen ∧ (ys.flatMap gB ++ sp).length = cv * 5) := Lib.hid ⟨hg0, hBK.lt, hnc, hcm, hcs⟩
      have HZ3 : Hid (w.heap.size + 2 < w3.heap.size) := Lib.hid Z_w3.out.lt
      have q2 : wrap64 ((i : Int) + 1) = (i : Int) + 1 := S2.wrap64_id _ (by omega) (by have := HN2.out; have := HIL.out; omega)
      clear hys hrt HLT hyl hg0 hBK hnc hcm hcs
      have Z_w5 := Lib.hid (Z_w3.out.step hb)
      have B_w5 := Lib.hid (stepB B_w3.out hb)
      clear hb Z_w3 B_w3
      go_upto_region 5 with first
        | (refine S2.wpList_store_all (by rfl) 25 (.tmp 7) (.tmp 16) rfl rfl w5.heap.size rfl [.slice Ae l.length ce, .slice (some ⟨g, 0, none⟩) ys.length cv] rfl 25 _ (BK.new w5 _ _) rtSize rfl (ones rfl) ?_; intro w6 hM hP; have hb := hP.below (S2.below_new w5 _) (Nat.le_refl _); have B_w6 := Lib.hid (stepB B_w5.out hb); have Z_w6 := Lib.hid (Z_w5.out.step hb); have G_w6 := Lib.hid hM; have R_w6 := Lib.hid (RtN.step R_w5.out hb); have ROW_w6 := Lib.hid (ROW_w5.out.step hb); have HOFG := Lib.hid (R_w5.out.high (Nat.le_refl _)); have HGZ : Hid (w.heap.size + 2 < w5.heap.size ∧ g < w5.heap.size) := Lib.hid ⟨Z_w5.out.lt, HGG.out.2.1⟩; clear hM hP hb)
      obtain ⟨g9, hg9⟩ : ∃ g, g = w5.heap.size := ⟨_, rfl⟩
      rw [← hg9] at G_w6 HOFG HGZ ⊢
      clear hg9 B_w5 Z_w5 R_w5 ROW_w5
      have g1 := G_w6.out.cell 1 rfl
      have HDE := Lib.hid (deleteB_any g cv i ys sp w6 ROW_w6.out HYI.out HGG.out.2.2.1 HGG.out.2.2.2.2)
      go_wp2_with fail
      refine HDE.out.mono ?_
      rintro e w7 ⟨sp', rfl, hBK7, hl7, hP7, hk7⟩
      have hne : g9 ≠ g := by have := HGZ.out; omega
      have hnz : w.heap.size + 2 ≠ g := by have := HGG.out; have := HZ3.out; omega
      have HEL : Hid ((ys.eraseIdx i).length ≤ cv) := Lib.hid (by rw [List.length_eraseIdx, if_pos HYI.out]; have := HGG.out; omega)
      have B_w7 := Lib.hid (hP7.below B_w6.out (by have := HGG.out; have := HZ3.out; omega))
      have Z_w7 := Lib.hid (hP7.other Z_w6.out hnz)
      have G_w7 := Lib.hid (hP7.other G_w6.out hne)
      have R_w7 : Hid (RtN w.heap.size w7 (.slice Ae l.length ce) l (.slice (some ⟨g, 0, none⟩) (ys.eraseIdx i).length cv) (ys.eraseIdx i)) := Lib.hid (RtN.sub R_w6.out rfl (fun b _ h => hk7 b h) (by rw [hP7.size]; exact Nat.le_refl _) mem_erase (row_ownG gB_len (by have := HGG.out; have := HZ3.out; omega) hBK7 HEL.out HGG.out.2.2.2.1 hl7))
      have HOFG7 : Hid (RtOff g9 (.slice Ae l.length ce) (.slice (some ⟨g, 0, none⟩) (ys.eraseIdx i).length cv) (ys.eraseIdx i)) := Lib.hid (HOFG.out.sub rfl mem_erase)
      have HOFZ7 : Hid (RtOff (w.heap.size + 2) (.slice Ae l.length ce) (.slice (some ⟨g, 0, none⟩) (ys.eraseIdx i).length cv) (ys.eraseIdx i)) := Lib.hid (HOFZ.out.sub rfl mem_erase)
      clear hBK7 hl7 hP7 hk7 hne hnz g1 HDE B_w6 Z_w6 G_w6 R_w6 ROW_w6 HOFG HOFZ
      have HYE := Lib.hid (map_erase HYS.out i)
      obtain ⟨zs, hzs⟩ : ∃ zs, ys.eraseIdx i = zs := ⟨_, rfl⟩
      rw [hzs] at R_w7 HOFG7 HOFZ7 HYE HEL ⊢
      clear hzs
      have g1 := G_w7.out.cell 1 rfl
      have f1 := G_w7.out.free 1
      have hlt := G_w7.out.lt
      go_upto_region 6 with fail
      refine name_world (C := fun w9 => Code.wp _ _ _ _ w9) (w7.setCell ⟨g9, 1, none⟩ (.slice (some ⟨g, 0, none⟩) zs.length cv)) ?_
      intro w8 hw8
      have R_w8 : Hid (RtN w.heap.size w8 (.slice Ae l.length ce) l (.slice (some ⟨g, 0, none⟩) zs.length cv) zs) := Lib.hid (by rw [hw8]; exact RtN.set R_w7.out HOFG7.out 1 _)
      have G_w8 : Hid (BK 25 w8 g9 [.slice Ae l.length ce, .slice (some ⟨g, 0, none⟩) zs.length cv]) := Lib.hid (by rw [hw8]; exact G_w7.out.set 1 _)
      have Z_w8 : Hid (BK 25 w8 (w.heap.size + 2) [.slice none 0 0, .slice none 0 0]) := Lib.hid (by rw [hw8]; exact Z_w7.out.other (by show w.heap.size + 2 ≠ g9; have := HGZ.out; omega) _)
      have B_w8 : Hid (Below w.heap.size w w8) := Lib.hid (by rw [hw8]; exact B_w7.out.setCell (p := ⟨g9, 1, none⟩) (by show w.heap.size ≤ g9; have := HGZ.out; omega) _)
      clear g1 f1 hlt hw8 R_w7 G_w7 Z_w7 B_w7
      have HLG := Lib.hid (S2.run_load_all G_w8.out Tryz.underlying25 rfl rtSize)
      have HZL := Lib.hid Z_w8.out
      go_wp2_with first
        | (refine wpList_load_v (by rfl) 25 (.tmp 7) rfl ⟨g9, 0, none⟩ rfl (.agg #[.slice Ae l.length ce, .slice (some ⟨g, 0, none⟩) zs.length cv]) HLG.out ?_)
        | (refine S2.wpList_store_all (by rfl) 25 (.tmp 4) (.tmp 24) rfl rfl (w.heap.size + 2) rfl [.slice Ae l.length ce, .slice (some ⟨g, 0, none⟩) zs.length cv] rfl 25 [.slice none 0 0, .slice none 0 0] HZL.out rtSize rfl (ones rfl) ?_; intro wz hM hP; have M9 := Lib.hid hM; have P9 := Lib.hid hP; clear hM hP)
      refine bodyPost_ret (v := .tuple #[.agg #[.slice Ae l.length ce, .slice (some ⟨g, 0, none⟩) zs.length cv], .int .i64 0]) (S2.res_cell_tmp rfl _ _ (w.heap.size + 2) 25 [.slice Ae l.length ce, .slice (some ⟨g, 0, none⟩) zs.length cv] _ _ rfl rfl M9.out Tryz.underlying25 rfl rtSize) rfl ?_
      unfold RetUn
      rw [unbR_some HIE.out]
      exact ⟨_, _, zs, rfl, HYE.out, by rw [if_pos rfl]; exact RtN.weak (RtN.put R_w8.out HOFZ7.out P9.out) (by omega), P9.out.below B_w8.out (by omega)⟩

set_option maxRecDepth 20000 in
set_option maxHeartbeats 8000000 in
theorem rUnbind_any (A1 : Option Addr) (c1 : Nat) (l : List Ex) (A2 : Option Addr) (c2 : Nat) (xs : List BE) (y : BE) (w : World) (h1 : EL w w.heap.size A1 l) (h2 : BI w w.heap.size A2 xs) (hf : Few xs) (hn1 : l.length ≤ 100000) (hn2 : xs.length ≤ 100000) (hy : BIn w y) :
    Calls Tryz.prog 15 #[rtV A1 l.length c1 A2 xs.length c2, bdV y] w (RetUn l (xs.map BE.d) y.d w) := by
  have HIX := Lib.hid (fun w1 h1 h2 => rhas_any A2 c2 xs y w1 h1 hf (by omega) h2)
  have HCR := Lib.hid (fun w1 h1 h2 => rclone24_any A1 c1 l A2 c2 xs w1 h1 h2 hf hn1 hn2)
  have HL := Lib.hid h1
  have HX := Lib.hid h2
  have HY := Lib.hid hy
  have HN2 := Lib.hid hn2
  clear h1 h2 hf hn1 hn2 hy
  unfold rtV at *
  have HV : Hid (bdV y = .agg (gB y).toArray) := Lib.hid rfl
  rw [HV.out]
  have CX : gB y = [.string y.d.ex, .string y.d.qu, .string y.d.ky, .bool y.d.all, .slice y.a y.d.ml.length y.c] := rfl
  rw [CX]
  clear CX
  go_enter Tryz.func15, Tryz.ntmps15
  go_upto_region 1 with fail
  refine name_world (C := fun w1 => Code.wp _ _ _ _ w1) (((w.alloc (.cells [.slice A1 l.length c1, .slice A2 xs.length c2].toArray 25)).alloc (.cells [.string y.d.ex, .string y.d.qu, .string y.d.ky, .bool y.d.all, .slice y.a y.d.ml.length y.c].toArray 35)).alloc (.cells [.slice none 0 0, .slice none 0 0].toArray 25)) ?_
  intro w1 hw1
  obtain ⟨u1, u2, u3, hB0, hs0⟩ := three_laid hw1
  have T_w1 := Lib.hid u1
  have X_w1 : Hid (BK 35 w1 (w.heap.size + 1) (gB y)) := Lib.hid u2
  have Z_w1 := Lib.hid u3
  have B_w1 := Lib.hid hB0
  have L_w1 := Lib.hid (GL.step HL.out hB0)
  have S_w1 := Lib.hid (LI.step HX.out hB0)
  have Y_w1 := Lib.hid (HY.out.step hB0)
  clear hw1 u1 u2 u3 hB0 hs0 HL HX HV HY
  obtain ⟨fi, hfi⟩ : ∃ fi, fB y.d (xs.map BE.d) 0 = fi := ⟨_, rfl⟩
  rw [hfi] at HIX
  have HFI := Lib.hid hfi
  clear hfi
  have t1 := T_w1.out.cell 1 rfl
  have HLY := Lib.hid (load_bd0 X_w1.out)
  go_wp2_with first
    | (refine wpList_load_v (by rfl) 35 (.tmp 3) rfl ⟨w.heap.size + 1, 0, none⟩ rfl _ HLY.out ?_)
  refine (HIX.out _ S_w1.out Y_w1.out).mono ?_
  rintro e w3 ⟨rfl, hb⟩
  clear HLY t1 HIX
  have T_w3 := Lib.hid (T_w1.out.step hb)
  have X_w3 := Lib.hid (X_w1.out.step hb)
  have Z_w3 := Lib.hid (Z_w1.out.step hb)
  have B_w3 := Lib.hid (stepB B_w1.out hb)
  have L_w3 := Lib.hid (GL.step L_w1.out hb)
  have S_w3 := Lib.hid (LI.step S_w1.out hb)
  have Y_w3 := Lib.hid (Y_w1.out.step hb)
  clear hb T_w1 X_w1 Z_w1 B_w1 L_w1 S_w1 Y_w1
  by_cases hfn : fi < 0
  · have HFN : Hid (fB y.d (xs.map BE.d) 0 < 0) := Lib.hid (by rw [HFI.out]; exact hfn)
    have q1 : decide (fi < 0) = true := decide_eq_true hfn
    clear hfn
    have HZL := Lib.hid Z_w3.out
    go_wp2_with first
      | (refine S2.wpList_store_all (by rfl) 25 (.tmp 4) (.tmp 14) rfl rfl (w.heap.size + 2) rfl [.slice none 0 0, .slice none 0 0] rfl 25 [.slice none 0 0, .slice none 0 0] HZL.out rtSize rfl (ones rfl) ?_; intro wz hM hP; have M9 := Lib.hid hM; have P9 := Lib.hid hP; clear hM hP)
    refine bodyPost_ret (v := .tuple #[.agg #[.slice none 0 0, .slice none 0 0], .int .i64 8]) (S2.res_cell_tmp rfl _ _ (w.heap.size + 2) 25 [.slice none 0 0, .slice none 0 0] _ _ rfl rfl M9.out Tryz.underlying25 rfl rtSize) rfl ?_
    unfold RetUn
    rw [unbR_none HFN.out]
    exact ⟨_, _, [], rfl, rfl, by (first | rw [if_neg (by first | decide | exact HNE.out)]); exact RtN.nil, P9.out.below B_w3.out (by omega)⟩
  · have q1 : decide (fi < 0) = false := decide_eq_false hfn
    have hat := fB_at y.d (xs.map BE.d) (by rw [HFI.out]; omega)
    obtain ⟨i, hi, hil⟩ := hat
    rw [List.length_map] at hil
    have HIE := Lib.hid hi
    rw [HFI.out] at hi
    subst hi
    have HIL := Lib.hid hil
    clear hfn hil
    have HLT : Hid ((loadVar 25 ⟨w.heap.size, 0, none⟩).run Tryz.prog w3 = .ok (.agg #[.slice A1 l.length c1, .slice A2 xs.length c2]) w3) := Lib.hid (S2.run_load_all T_w3.out Tryz.underlying25 rfl rtSize)
    go_wp2_with first
      | (refine wpList_load_v (by rfl) 25 (.tmp 2) rfl ⟨w.heap.size, 0, none⟩ rfl _ HLT.out ?_)
    refine (HCR.out _ L_w3.out S_w3.out).mono ?_
    rintro e w5 ⟨v1, v2, ys, rfl, hys, hrt, hb⟩
    have HYS := Lib.hid hys
    have hyl : ys.length = xs.length := by have := congrArg List.length hys; rwa [List.length_map, List.length_map] at this
    obtain ⟨Ae, ce, Av, cv, hv1, hv2, _⟩ := hrt.ret
    subst hv1
    have hst := own_rowG hrt.b.1
    subst hv2
    rcases hst with ⟨_, h0⟩ | ⟨g, cap, sp, hvg, hg0, hBK, hnc, hcm, hcs⟩
    · have := HIL.out; rw [h0] at hyl; simp at hyl; omega
    · simp only [Value.slice.injEq, true_and] at hvg
      obtain ⟨rfl, rfl⟩ := hvg
      have HOFZ : Hid (RtOff (w.heap.size + 2) (.slice Ae l.length ce) (.slice (some ⟨g, 0, none⟩) ys.length cv) ys) := Lib.hid (hrt.low Z_w3.out.lt)
      have R_w5 := Lib.hid (RtN.weak hrt B_w3.out.size)
      have ROW_w5 := Lib.hid hBK
      have HYI : Hid (i < ys.length) := Lib.hid (by have := HIL.out; omega)
      have HGG : Hid (w3.heap.size ≤ g ∧ g < w5.heap.size ∧ ys.length ≤ cv ∧ cv ≤ maxLen ∧ (ys.flatMap gB ++ sp).length = cv * 5) := Lib.hid ⟨hg0, hBK.lt, hnc, hcm, hcs⟩
      have HZ3 : Hid (w.heap.size + 2 < w3.heap.size) := Lib.hid Z_w3.out.lt
      have q2 : wrap64 ((i : Int) + 1) = (i : Int) + 1 := S2.wrap64_id _ (by omega) (by have := HN2.out; have := HIL.out; omega)
      clear hys hrt HLT hyl hg0 hBK hnc hcm hcs
      have Z_w5 := Lib.hid (Z_w3.out.step hb)
      have B_w5 := Lib.hid (stepB B_w3.out hb)
      clear hb Z_w3 B_w3
      go_upto_region 5 with first
        | (refine S2.wpList_store_all (by rfl) 25 (.tmp 7) (.tmp 16) rfl rfl w5.heap.size rfl [.slice Ae l.length ce, .slice (some ⟨g, 0, none⟩) ys.length cv] rfl 25 _ (BK.new w5 _ _) rtSize rfl (ones rfl) ?_; intro w6 hM hP; have hb := hP.below (S2.below_new w5 _) (Nat.le_refl _); have B_w6 := Lib.hid (stepB B_w5.out hb); have Z_w6 := Lib.hid (Z_w5.out.step hb); have G_w6 := Lib.hid hM; have R_w6 := Lib.hid (RtN.step R_w5.out hb); have ROW_w6 := Lib.hid (ROW_w5.out.step hb); have HOFG := Lib.hid (R_w5.out.high (Nat.le_refl _)); have HGZ : Hid (w.heap.size + 2 < w5.heap.size ∧ g < w5.heap.size) := Lib.hid ⟨Z_w5.out.lt, HGG.out.2.1⟩; clear hM hP hb)
      obtain ⟨g9, hg9⟩ : ∃ g, g = w5.heap.size := ⟨_, rfl⟩
      rw [← hg9] at G_w6 HOFG HGZ ⊢
      clear hg9 B_w5 Z_w5 R_w5 ROW_w5
      have g1 := G_w6.out.cell 1 rfl
      have HDE := Lib.hid (deleteB_any g cv i ys sp w6 ROW_w6.out HYI.out HGG.out.2.2.1 HGG.out.2.2.2.2)
      go_wp2_with fail
      refine HDE.out.mono ?_
      rintro e w7 ⟨sp', rfl, hBK7, hl7, hP7, hk7⟩
      have hne : g9 ≠ g := by have := HGZ.out; omega
      have hnz : w.heap.size + 2 ≠ g := by have := HGG.out; have := HZ3.out; omega
      have HEL : Hid ((ys.eraseIdx i).length ≤ cv) := Lib.hid (by rw [List.length_eraseIdx, if_pos HYI.out]; have := HGG.out; omega)
      have B_w7 := Lib.hid (hP7.below B_w6.out (by have := HGG.out; have := HZ3.out; omega))
      have Z_w7 := Lib.hid (hP7.other Z_w6.out hnz)
      have G_w7 := Lib.hid (hP7.other G_w6.out hne)
      have R_w7 : Hid (RtN w.heap.size w7 (.slice Ae l.length ce) l (.slice (some ⟨g, 0, none⟩) (ys.eraseIdx i).length cv) (ys.eraseIdx i)) := Lib.hid (RtN.sub R_w6.out rfl (fun b _ h => hk7 b h) (by rw [hP7.size]; exact Nat.le_refl _) mem_erase (row_ownG gB_len (by have := HGG.out; have := HZ3.out; omega) hBK7 HEL.out HGG.out.2.2.2.1 hl7))
      have HOFG7 : Hid (RtOff g9 (.slice Ae l.length ce) (.slice (some ⟨g, 0, none⟩) (ys.eraseIdx i).length cv) (ys.eraseIdx i)) := Lib.hid (HOFG.out.sub rfl mem_erase)
      have HOFZ7 : Hid (RtOff (w.heap.size + 2) (.slice Ae l.length ce) (.slice (some ⟨g, 0, none⟩) (ys.eraseIdx i).length cv) (ys.eraseIdx i)) := Lib.hid (HOFZ.out.sub rfl mem_erase)
      clear hBK7 hl7 hP7 hk7 hne hnz g1 HDE B_w6 Z_w6 G_w6 R_w6 ROW_w6 HOFG HOFZ
      have HYE := Lib.hid (map_erase HYS.out i)
      obtain ⟨zs, hzs⟩ : ∃ zs, ys.eraseIdx i = zs := ⟨_, rfl⟩
      rw [hzs] at R_w7 HOFG7 HOFZ7 HYE HEL ⊢
      clear hzs
      have g1 := G_w7.out.cell 1 rfl
      have f1 := G_w7.out.free 1
      have hlt := G_w7.out.lt
      go_upto_region 6 with fail
      refine name_world (C := fun w9 => Code.wp _ _ _ _ w9) (w7.setCell ⟨g9, 1, none⟩ (.slice (some ⟨g, 0, none⟩) zs.length cv)) ?_
      intro w8 hw8
      have R_w8 : Hid (RtN w.heap.size w8 (.slice Ae l.length ce) l (.slice (some ⟨g, 0, none⟩) zs.length cv) zs) := Lib.hid (by rw [hw8]; exact RtN.set R_w7.out HOFG7.out 1 _)
      have G_w8 : Hid (BK 25 w8 g9 [.slice Ae l.length ce, .slice (some ⟨g, 0, none⟩) zs.length cv]) := Lib.hid (by rw [hw8]; exact G_w7.out.set 1 _)
      have Z_w8 : Hid (BK 25 w8 (w.heap.size + 2) [.slice none 0 0, .slice none 0 0]) := Lib.hid (by rw [hw8]; exact Z_w7.out.other (by show w.heap.size + 2 ≠ g9; have := HGZ.out; omega) _)
      have B_w8 : Hid (Below w.heap.size w w8) := Lib.hid (by rw [hw8]; exact B_w7.out.setCell (p := ⟨g9, 1, none⟩) (by show w.heap.size ≤ g9; have := HGZ.out; omega) _)
      clear g1 f1 hlt hw8 R_w7 G_w7 Z_w7 B_w7
      have HLG := Lib.hid (S2.run_load_all G_w8.out Tryz.underlying25 rfl rtSize)
      have HZL := Lib.hid Z_w8.out
      go_wp2_with first
        | (refine wpList_load_v (by rfl) 25 (.tmp 7) rfl ⟨g9, 0, none⟩ rfl (.agg #[.slice Ae l.length ce, .slice (some ⟨g, 0, none⟩) zs.length cv]) HLG.out ?_)
        | (refine S2.wpList_store_all (by rfl) 25 (.tmp 4) (.tmp 24) rfl rfl (w.heap.size + 2) rfl [.slice Ae l.length ce, .slice (some ⟨g, 0, none⟩) zs.length cv] rfl 25 [.slice none 0 0, .slice none 0 0] HZL.out rtSize rfl (ones rfl) ?_; intro wz hM hP; have M9 := Lib.hid hM; have P9 := Lib.hid hP; clear hM hP)
      refine bodyPost_ret (v := .tuple #[.agg #[.slice Ae l.length ce, .slice (some ⟨g, 0, none⟩) zs.length cv], .int .i64 0]) (S2.res_cell_tmp rfl _ _ (w.heap.size + 2) 25 [.slice Ae l.length ce, .slice (some ⟨g, 0, none⟩) zs.length cv] _ _ rfl rfl M9.out Tryz.underlying25 rfl rtSize) rfl ?_
      unfold RetUn
      rw [unbR_some HIE.out]
      exact ⟨_, _, zs, rfl, HYE.out, by rw [if_pos rfl]; exact RtN.weak (RtN.put R_w8.out HOFZ7.out P9.out) (by omega), P9.out.below B_w8.out (by omega)⟩
end Go.Proofs.YtjkhfifnfgchgabGreatDoor
namespace Go.Proofs.YtjkhfifnfgchgabGreatDoor
open Go.RowKit
open S2 (BK Put get_ops)

theorem deleteF_nil (q : ByteArray) (gq : Nat) (T : TypeId) (w : World) (hq : BK T w gq [.string q]) :
    Calls Tryz.prog 45 #[.slice none 0 0, .func (.func 46) #[] #[.pointer (some ⟨gq, 0, none⟩)]] w fun e w' => e = .returned (.slice none 0 0) ∧ Below w.heap.size w w' := by
  have HIX := Lib.hid (idxD_any none 0 [] q gq T w (LI.nil _ _ _) (by simp) hq)
  clear hq
  unfold gone at HIX
  go_enter Tryz.func45, Tryz.ntmps45
  go_wp2_with fail
  refine HIX.out.mono ?_
  rintro e w1 ⟨rfl, hb⟩
  have HB := Lib.hid hb
  clear hb
  go_wp2_with fail
  go_ret
  exact ⟨rfl, HB.out⟩
theorem mem_filter_sub {q : ByteArray} {ys : List BE} : ∀ x ∈ ys.filter (kpQ q), x ∈ ys := fun _ h => (List.mem_filter.1 h).1
theorem map_drop {ys : List BE} {bs : List Bd} (h : ys.map BE.d = bs) (q : ByteArray) : (ys.filter (kpQ q)).map BE.d = dropR bs q := by rw [kpQ_map, h]

set_option maxRecDepth 20000 in
set_option maxHeartbeats 8000000 in
theorem xDrop_any (A1 : Option Addr) (c1 : Nat) (l : List Ex) (A2 : Option Addr) (c2 : Nat) (xs : List BE) (q : ByteArray) (w : World) (h1 : EL w w.heap.size A1 l) (h2 : BI w w.heap.size A2 xs) (hf : Few xs) (hn1 : l.length ≤ 100000) (hn2 : xs.length ≤ 100000) :
    Calls Tryz.prog 16 #[rtV A1 l.length c1 A2 xs.length c2, .string q] w (RetRt l (dropR (xs.map BE.d) q) w) := by
  have HCR := Lib.hid (fun w1 h1 h2 => copyRoutes_any A1 c1 l A2 c2 xs w1 h1 h2 hf hn1 hn2)
  have HL := Lib.hid h1
  have HX := Lib.hid h2
  have HN2 := Lib.hid hn2
  clear h1 h2 hf hn1 hn2
  unfold rtV at *
  have hmf : ∀ (fn : Fn) (first cap : Array Value) (w : World), (Instr.makeFunc fn first cap).run Tryz.prog w = .ok (.func fn first cap) w := fun _ _ _ _ => rfl
  go_enter Tryz.func16, Tryz.ntmps16
  go_upto_region 1 with fail
  refine name_world (C := fun w1 => Code.wp _ _ _ _ w1) (((w.alloc (.cells [.slice A1 l.length c1, .slice A2 xs.length c2].toArray 25)).alloc (.cells ([.string q] : List Value).toArray 9)).alloc (.cells [.slice none 0 0, .slice none 0 0].toArray 25)) ?_
  intro w1 hw1
  obtain ⟨u1, u2, u3, hB0, hs0⟩ := three_laid (v2 := [.string q]) hw1
  have T_w1 := Lib.hid u1
  have Q_w1 := Lib.hid u2
  have Z_w1 := Lib.hid u3
  have B_w1 := Lib.hid hB0
  have L_w1 := Lib.hid (GL.step HL.out hB0)
  have S_w1 := Lib.hid (LI.step HX.out hB0)
  clear hw1 u1 u2 u3 hB0 hs0 HL HX
  have HLT : Hid ((loadVar 25 ⟨w.heap.size, 0, none⟩).run Tryz.prog w1 = .ok (.agg #[.slice A1 l.length c1, .slice A2 xs.length c2]) w1) := Lib.hid (S2.run_load_all T_w1.out Tryz.underlying25 rfl rtSize)
  go_wp2_with first
    | (refine wpList_load_v (by rfl) 25 (.tmp 2) rfl ⟨w.heap.size, 0, none⟩ rfl _ HLT.out ?_)
  refine (HCR.out _ L_w1.out S_w1.out).mono ?_
  rintro e w5 ⟨v1, v2, ys, rfl, hys, hrt, hb⟩
  have HYS := Lib.hid hys
  have HYL : Hid (ys.length ≤ 100000) := Lib.hid (by have := congrArg List.length hys; rw [List.length_map, List.length_map] at this; have := HN2.out; omega)
  have B_w5 := Lib.hid (stepB B_w1.out hb)
  have Z_w5 := Lib.hid (Z_w1.out.step hb)
  have Q_w5 := Lib.hid (Q_w1.out.step hb)
  have HZ1 : Hid (w.heap.size + 2 < w1.heap.size) := Lib.hid Z_w1.out.lt
  obtain ⟨Ae, ce, Av, cv, hv1, hv2, _, _, _, hbi, _⟩ := hrt.ret
  subst hv1
  have hst := own_rowG hrt.b.1
  subst hv2
  have HOFZ : Hid (RtOff (w.heap.size + 2) (.slice Ae l.length ce) (.slice Av ys.length cv) ys) := Lib.hid (hrt.low Z_w1.out.lt)
  have R_w5 := Lib.hid (RtN.weak hrt B_w1.out.size)
  have HST := Lib.hid hst
  have HBI := Lib.hid hbi
  have HLOW : Hid (∀ g, (Value.slice Av ys.length cv).ownBlock = some g → w1.heap.size ≤ g ∧ g < w5.heap.size) := Lib.hid (fun g e => own_lt hrt.b.1 g e)
  clear hys hrt hb hst hbi HLT T_w1 Q_w1 Z_w1 B_w1 L_w1 S_w1 HCR
  go_upto_region 2 with first
    | (refine S2.wpList_store_all (by rfl) 25 (.tmp 5) (.tmp 7) rfl rfl w5.heap.size rfl [.slice Ae l.length ce, .slice Av ys.length cv] rfl 25 _ (BK.new w5 _ _) rtSize rfl (ones rfl) ?_; intro w6 hM hP; have hb := hP.below (S2.below_new w5 _) (Nat.le_refl _); have B_w6 := Lib.hid (stepB B_w5.out hb); have Z_w6 := Lib.hid (Z_w5.out.step hb); have Q_w6 := Lib.hid (Q_w5.out.step hb); have G_w6 := Lib.hid hM; have R_w6 := Lib.hid (RtN.step R_w5.out hb); have I_w6 := Lib.hid (LI.step HBI.out hb); have HOFG := Lib.hid (R_w5.out.high (Nat.le_refl _)); have HGZ : Hid (w.heap.size + 2 < w5.heap.size ∧ ∀ g, (Value.slice Av ys.length cv).ownBlock = some g → g < w5.heap.size) := Lib.hid ⟨Z_w5.out.lt, fun g e => (HLOW.out g e).2⟩; have HROW : Hid ((Value.slice Av ys.length cv = .slice none 0 0 ∧ ys = []) ∨ ∃ q cap sp, Value.slice Av ys.length cv = .slice (some ⟨q, 0, none⟩) ys.length cap ∧ w1.heap.size ≤ q ∧ BK 35 w6 q (ys.flatMap gB ++ sp) ∧ ys.length ≤ cap ∧ cap ≤ maxLen ∧ (ys.flatMap gB ++ sp).length = cap * 5) := Lib.hid (HST.out.imp id (fun ⟨q, cap, sp, h1, h2, h3, h4⟩ => ⟨q, cap, sp, h1, h2, h3.step hb, h4⟩)); clear hM hP hb)
  obtain ⟨g9, hg9⟩ : ∃ g, g = w5.heap.size := ⟨_, rfl⟩
  rw [← hg9] at G_w6 HOFG HGZ ⊢
  clear hg9 B_w5 Z_w5 R_w5 Q_w5 HST HBI
  have g1 := G_w6.out.cell 1 rfl
  go_upto_region 2 with fail
  obtain ⟨V, zs, hV⟩ : ∃ (V : Value) (zs : List BE), Calls Tryz.prog 45 #[.slice Av ys.length cv, .func (.func 46) #[] #[.pointer (some ⟨w.heap.size + 1, 0, none⟩)]] w6 fun e w' => e = .returned V ∧ (∃ A n c, V = .slice A n c) ∧ zs.map BE.d = dropR (xs.map BE.d) q ∧ RtN w.heap.size w' (.slice Ae l.length ce) l V zs ∧ RtOff g9 (.slice Ae l.length ce) V zs ∧ RtOff (w.heap.size + 2) (.slice Ae l.length ce) V zs ∧ BK 25 w' g9 [.slice Ae l.length ce, .slice Av ys.length cv] ∧ BK 25 w' (w.heap.size + 2) [.slice none 0 0, .slice none 0 0] ∧ Below w.heap.size w w' := by
    rcases HROW.out with ⟨hv, h0⟩ | ⟨g, cap, sp, hv, hg0, hBK, hnc, hcm, hcs⟩
    · simp only [Value.slice.injEq] at hv
      obtain ⟨rfl, _, rfl⟩ := hv
      subst h0
      refine ⟨.slice none 0 0, [], (deleteF_nil q _ _ w6 Q_w6.out).mono fun e w' h => ?_⟩
      obtain ⟨rfl, hb⟩ := h
      exact ⟨rfl, ⟨none, 0, 0, rfl⟩, by have := map_drop HYS.out q; simpa using this, R_w6.out.step hb, HOFG.out, HOFZ.out, G_w6.out.step hb, Z_w6.out.step hb, stepB B_w6.out hb⟩
    · simp only [Value.slice.injEq, true_and] at hv
      obtain ⟨rfl, rfl⟩ := hv
      have hgl := HGZ.out.2 g rfl
      have hne : g9 ≠ g := by omega
      have hnz : w.heap.size + 2 ≠ g := by have := HZ1.out; omega
      refine ⟨.slice (some ⟨g, 0, none⟩) (ys.filter (kpQ q)).length cv, ys.filter (kpQ q), (deleteF_any g cv ys sp q (w.heap.size + 1) _ w6 hBK hnc hcs (by have := HYL.out; omega) I_w6.out Q_w6.out (by have := HZ1.out; omega)).mono fun e w' h => ?_⟩
      obtain ⟨sp', rfl, hBK7, hl7, hk⟩ := h
      have hle : (ys.filter (kpQ q)).length ≤ cv := Nat.le_trans (List.length_filter_le _ _) hnc
      exact ⟨rfl, ⟨_, _, _, rfl⟩, map_drop HYS.out q, RtN.sub R_w6.out rfl hk.keep hk.size mem_filter_sub (row_ownG gB_len (by have := HZ1.out; omega) hBK7 hle hcm hl7), HOFG.out.sub rfl mem_filter_sub, HOFZ.out.sub rfl mem_filter_sub, (hk.keep g9 G_w6.out.lt hne).trans G_w6.out, (hk.keep _ Z_w6.out.lt hnz).trans Z_w6.out, hk.below _ _ B_w6.out (by have := HZ1.out; omega)⟩
  have HDE := Lib.hid hV
  clear hV
  go_wp2_with fail
  refine HDE.out.mono ?_
  rintro e w7 ⟨rfl, ⟨A9, n9, c9, rfl⟩, hmap, hr7, hog, hoz, hg7, hz7, hb7⟩
  have HYE := Lib.hid hmap
  have R_w7 := Lib.hid hr7
  have HOFG7 := Lib.hid hog
  have HOFZ7 := Lib.hid hoz
  have G_w7 := Lib.hid hg7
  have Z_w7 := Lib.hid hz7
  have B_w7 := Lib.hid hb7
  clear hmap hr7 hog hoz hg7 hz7 hb7 g1 HDE B_w6 Z_w6 G_w6 R_w6 Q_w6 I_w6 HROW HOFG HOFZ
  have g1 := G_w7.out.cell 1 rfl
  have f1 := G_w7.out.free 1
  have hlt := G_w7.out.lt
  go_upto_region 3 with fail
  refine name_world (C := fun w9 => Code.wp _ _ _ _ w9) (w7.setCell ⟨g9, 1, none⟩ (.slice A9 n9 c9)) ?_
  intro w8 hw8
  have R_w8 : Hid (RtN w.heap.size w8 (.slice Ae l.length ce) l (.slice A9 n9 c9) zs) := Lib.hid (by rw [hw8]; exact RtN.set R_w7.out HOFG7.out 1 _)
  have G_w8 : Hid (BK 25 w8 g9 [.slice Ae l.length ce, .slice A9 n9 c9]) := Lib.hid (by rw [hw8]; exact G_w7.out.set 1 _)
  have Z_w8 : Hid (BK 25 w8 (w.heap.size + 2) [.slice none 0 0, .slice none 0 0]) := Lib.hid (by rw [hw8]; exact Z_w7.out.other (by show w.heap.size + 2 ≠ g9; have := HGZ.out; omega) _)
  have B_w8 : Hid (Below w.heap.size w w8) := Lib.hid (by rw [hw8]; exact B_w7.out.setCell (p := ⟨g9, 1, none⟩) (by show w.heap.size ≤ g9; have := HGZ.out; omega) _)
  clear g1 f1 hlt hw8 R_w7 G_w7 Z_w7 B_w7
  have HLG := Lib.hid (S2.run_load_all G_w8.out Tryz.underlying25 rfl rtSize)
  have HZL := Lib.hid Z_w8.out
  go_wp2_with first
    | (refine wpList_load_v (by rfl) 25 (.tmp 5) rfl ⟨g9, 0, none⟩ rfl (.agg #[.slice Ae l.length ce, .slice A9 n9 c9]) HLG.out ?_)
    | (refine S2.wpList_store_all (by rfl) 25 (.tmp 4) (.tmp 13) rfl rfl (w.heap.size + 2) rfl [.slice Ae l.length ce, .slice A9 n9 c9] rfl 25 [.slice none 0 0, .slice none 0 0] HZL.out rtSize rfl (ones rfl) ?_; intro wz hM hP; have M9 := Lib.hid hM; have P9 := Lib.hid hP; clear hM hP)
  refine bodyPost_ret (v := .agg #[.slice Ae l.length ce, .slice A9 n9 c9]) (S2.res_cell rfl _ _ (w.heap.size + 2) 25 [.slice Ae l.length ce, .slice A9 n9 c9] _ rfl M9.out Tryz.underlying25 rfl rtSize) rfl ?_
  unfold RetRt
  exact ⟨_, _, zs, rfl, HYE.out, RtN.weak (RtN.put R_w8.out HOFZ7.out P9.out) (by omega), P9.out.below B_w8.out (by omega)⟩
end Go.Proofs.YtjkhfifnfgchgabGreatDoor
namespace Go.Proofs.YtjkhfifnfgchgabGreatDoor
open Go.RowKit
open S2 (BK Put get_ops)

theorem dropR_no {xs : List BE} {q : ByteArray} {k : Nat} {x : BE} (hx : xs[k]? = some x) (h : x.d.qu = q) : dropR ((xs.take (k + 1)).map BE.d) q = dropR ((xs.take k).map BE.d) q := by
  unfold dropR
  rw [List.take_add_one, hx, Option.toList_some, List.map_append, List.filter_append]
  simp [h]
theorem dropR_yes {xs ys : List BE} {q : ByteArray} {k : Nat} {x : BE} (hx : xs[k]? = some x) (h : x.d.qu ≠ q) (hm : ys.map BE.d = dropR ((xs.take k).map BE.d) q) (a : Option Addr) (c : Nat) : (ys ++ [(⟨x.d, a, c⟩ : BE)]).map BE.d = dropR ((xs.take (k + 1)).map BE.d) q := by
  rw [List.map_append, hm]
  unfold dropR
  rw [List.take_add_one, hx, Option.toList_some, List.map_append, List.filter_append]
  simp [h]
theorem dropR_le (bs : List Bd) (q : ByteArray) : (dropR bs q).length ≤ bs.length := List.length_filter_le _ _

set_option maxRecDepth 20000 in
set_option maxHeartbeats 8000000 in
theorem rDrop_any (A1 : Option Addr) (c1 : Nat) (l : List Ex) (A2 : Option Addr) (c2 : Nat) (xs : List BE) (q : ByteArray) (w : World) (h1 : EL w w.heap.size A1 l) (h2 : BI w w.heap.size A2 xs) (hf : Few xs) (hn1 : l.length ≤ 100000) (hn2 : xs.length ≤ 100000) :
    Calls Tryz.prog 17 #[rtV A1 l.length c1 A2 xs.length c2, .string q] w (RetRt l (dropR (xs.map BE.d) q) w) := by
  have HCR := Lib.hid (fun w1 h1 h2 => rclone24_any A1 c1 l A2 c2 xs w1 h1 h2 hf hn1 hn2)
  have HCBX := Lib.hid (fun x w1 h => rClone_any x w1 h)
  have HL := Lib.hid h1
  have HX := Lib.hid h2
  have HF := Lib.hid hf
  have HN1 := Lib.hid hn1
  have HNX := Lib.hid hn2
  clear h1 h2 hf hn1 hn2
  unfold rtV at *
  go_enter Tryz.func17, Tryz.ntmps17
  go_upto_region 1 with fail
  refine name_world (C := fun w1 => Code.wp _ _ _ _ w1) ((w.alloc (.cells [.slice A1 l.length c1, .slice A2 xs.length c2].toArray 25)).alloc (.cells [.slice none 0 0, .slice none 0 0].toArray 25)) ?_
  intro w1 hw1
  obtain ⟨u1, u2, hs0, hB0⟩ := S2.two_laid hw1
  have T_w1 := Lib.hid u1
  have Z_w1 := Lib.hid u2
  have B_w1 := Lib.hid hB0
  have HZ1 := Lib.hid hs0
  clear hw1 u1 u2 hs0 hB0
  have HLT : Hid ((loadVar 25 ⟨w.heap.size, 0, none⟩).run Tryz.prog w1 = .ok (.agg #[.slice A1 l.length c1, .slice A2 xs.length c2]) w1) := Lib.hid (S2.run_load_all T_w1.out Tryz.underlying25 rfl rtSize)
  go_wp2_with first
    | (refine wpList_load_v (by rfl) 25 (.tmp 2) rfl ⟨w.heap.size, 0, none⟩ rfl _ HLT.out ?_)
  refine (HCR.out _ (GL.step HL.out B_w1.out) (LI.step HX.out B_w1.out)).mono ?_
  rintro e w2 ⟨v1, v2, ys0, rfl, _, hrt, hb⟩
  have T_w2 := Lib.hid (T_w1.out.step hb)
  have Z_w2 := Lib.hid (Z_w1.out.step hb)
  have B_w2 := Lib.hid (stepB B_w1.out hb)
  have HZZ := Lib.hid hb.size
  have HOWN := Lib.hid hrt.e
  have hown2 := OwnG.weak hrt.e B_w1.out.size
  obtain ⟨Ae, ce, Av, cv, hv1, hv2, _⟩ := hrt.ret
  subst hv1
  subst hv2
  have E_w2 := Lib.hid hown2
  clear hb hrt hown2 HLT T_w1 Z_w1 HCR
  have HG3 : Hid (w.heap.size + 1 < w2.heap.size) := Lib.hid (by have := HZ1.out; have := HZZ.out; omega)
  have HEZ : Hid ((Value.slice Ae l.length ce).ownBlock ≠ some (w.heap.size + 1)) := Lib.hid (OwnG.off HOWN.out (by have := HZ1.out; omega))
  go_upto_region 2 with first
    | (refine S2.wpList_store_all (by rfl) 25 (.tmp 5) (.tmp 9) rfl rfl w2.heap.size rfl [.slice Ae l.length ce, .slice Av ys0.length cv] rfl 25 _ (BK.new w2 _ _) rtSize rfl (ones rfl) ?_; intro wa hM hP; have hb := hP.below (S2.below_new w2 _) (Nat.le_refl _); have B_wa := Lib.hid (stepB B_w2.out hb); have T_wa := Lib.hid (T_w2.out.step hb); have Z_wa := Lib.hid (Z_w2.out.step hb); have E_wa := Lib.hid (OwnG.step E_w2.out hb); have G_wa := Lib.hid hM; have HEG := Lib.hid (OwnG.high E_w2.out (Nat.le_refl _)); clear hM hP hb)
  obtain ⟨g3, hg3⟩ : ∃ g, g = w2.heap.size := ⟨_, rfl⟩
  rw [← hg3] at G_wa HG3 HEG ⊢
  clear hg3 T_w2 Z_w2 B_w2 E_w2 HZZ HOWN
  have g1 := G_wa.out.cell 1 rfl
  have f1 := G_wa.out.free 1
  have hlt0 := G_wa.out.lt
  go_upto_region 3 with fail
  refine name_world (C := fun w9 => Code.wp _ _ _ _ w9) (wa.setCell ⟨g3, 1, none⟩ (.slice none 0 0)) ?_
  intro w3 hw3
  have E_w3 : Hid (OwnE w3 w.heap.size (.slice Ae l.length ce) l) := Lib.hid (by rw [hw3]; exact OwnG.set E_wa.out HEG.out 1 _)
  have G_w3 : Hid (BK 25 w3 g3 [.slice Ae l.length ce, .slice none 0 0]) := Lib.hid (by rw [hw3]; exact G_wa.out.set 1 _)
  have Z_w3 : Hid (BK 25 w3 (w.heap.size + 1) [.slice none 0 0, .slice none 0 0]) := Lib.hid (by rw [hw3]; exact Z_wa.out.other (by show w.heap.size + 1 ≠ g3; have := HG3.out; omega) _)
  have T_w3 : Hid (BK 25 w3 w.heap.size [.slice A1 l.length c1, .slice A2 xs.length c2]) := Lib.hid (by rw [hw3]; exact T_wa.out.other (by show w.heap.size ≠ g3; have := HG3.out; omega) _)
  have B_w3 : Hid (Below w.heap.size w w3) := Lib.hid (by rw [hw3]; exact B_wa.out.setCell (p := ⟨g3, 1, none⟩) (by show w.heap.size ≤ g3; have := HG3.out; omega) _)
  clear g1 f1 hlt0 hw3 E_wa G_wa Z_wa T_wa B_wa
  obtain ⟨v1, hv1⟩ : ∃ v, v = Value.slice Ae l.length ce := ⟨_, rfl⟩
  rw [← hv1] at G_w3 HEG E_w3 HEZ ⊢
  have HV1 := Lib.hid hv1
  clear hv1
  have t1 := T_w3.out.cell 1 rfl
  obtain ⟨B2, hB2⟩ : ∃ B, B = w3.heap.size := ⟨_, rfl⟩
  have HB2G : Hid (g3 < B2) := Lib.hid (by rw [hB2]; exact G_w3.out.lt)
  have HEL : Hid (∀ k, v1.ownBlock = some k → k < B2) := Lib.hid (fun k e => by rw [hB2]; exact (own_lt E_w3.out k e).2)
  have W_w3 : Hid (B2 ≤ w3.heap.size) := Lib.hid (by rw [hB2]; exact Nat.le_refl _)
  clear hB2
  go_wp2_with fail
  go_loopg [14] xs.length (fun g v wr => ∃ (k : Nat) (ys : List BE) (Av : Option Addr) (nv cv : Nat), k + g = xs.length ∧ v = .int .i64 k ∧ ys.map BE.d = dropR ((xs.take k).map BE.d) q ∧ (∀ b, v1.ownBlock = some b → (Value.slice Av nv cv).ownBlock ≠ some b) ∧ OwnE wr w.heap.size v1 l ∧ LstB B2 wr (.slice Av nv cv) ys ∧ BK 25 wr g3 [v1, .slice Av nv cv] ∧ BK 25 wr (w.heap.size + 1) [.slice none 0 0, .slice none 0 0] ∧ BK 25 wr w.heap.size [.slice A1 l.length c1, .slice A2 xs.length c2] ∧ B2 ≤ wr.heap.size ∧ Below w.heap.size w wr)
  case atStart => exact ⟨0, [], none, 0, 0, by omega, rfl, rfl, fun b _ e => by simp [Value.ownBlock] at e, E_w3.out, Lst.nil, G_w3.out, Z_w3.out, T_w3.out, W_w3.out, B_w3.out⟩
  case round =>
    obtain ⟨k, ys, Av, nv, cv, hkg, rfl, hmp, hsep, he, hl, hg, hz, ht, hw0, hb0⟩ := hrel
    have HMP0 := Lib.hid hmp
    have HSEP := Lib.hid hsep
    have E_wr := Lib.hid he
    have L_wr := Lib.hid hl
    have G_wr := Lib.hid hg
    have Z_wr := Lib.hid hz
    have T_wr := Lib.hid ht
    have W_wr := Lib.hid hw0
    have B_wr := Lib.hid hb0
    have HG := Lib.hid hkg
    clear hmp hsep he hl hg hz ht hb0 hw0 W_w3 t1 E_w3 G_w3 Z_w3 T_w3 B_w3
    cases gk with
    | zero =>
      obtain rfl : k = xs.length := by omega
      clear hkg
      have HLG := Lib.hid (S2.run_load_all G_wr.out Tryz.underlying25 rfl rtSize)
      have HZL := Lib.hid Z_wr.out
      obtain ⟨Ax, cx, hvx, _⟩ := OwnG.ret gE_len E_wr.out
      have HVX := Lib.hid hvx
      clear hvx
      go_wp2_with first
        | (refine wpList_load_v (by rfl) 25 (.tmp 5) rfl ⟨g3, 0, none⟩ rfl (.agg #[v1, .slice Av nv cv]) HLG.out ?_)
        | (refine S2.wpList_store_all (by rfl) 25 (.tmp 4) (.tmp 30) rfl rfl (w.heap.size + 1) rfl [v1, .slice Av nv cv] rfl 25 [.slice none 0 0, .slice none 0 0] HZL.out rtSize rfl (by rw [HVX.out]; exact ones rfl) ?_; intro w4 hM hP; have M4 := Lib.hid hM; have P4 := Lib.hid hP; clear hM hP)
      refine bodyPost_ret (v := .agg #[v1, .slice Av nv cv]) (S2.res_cell rfl _ _ (w.heap.size + 1) 25 [v1, .slice Av nv cv] _ rfl M4.out Tryz.underlying25 rfl rtSize) rfl ⟨v1, .slice Av nv cv, ys, rfl, by rw [HMP0.out, List.take_length], ?_, P4.out.below B_wr.out (by omega)⟩
      have hoff : RtOff (w.heap.size + 1) v1 (.slice Av nv cv) ys := ⟨HEZ.out, L_wr.out.1.off (by have := HG3.out; have := HB2G.out; omega), fun y hy b o e hn => by have := (L_wr.out.2 y hy).2.2 b o e; have := HG3.out; have := HB2G.out; omega⟩
      exact RtN.put ⟨E_wr.out, LstB.weak L_wr.out (by have := HG3.out; have := HB2G.out; omega), fun k e => ⟨HSEP.out k e, fun y hy b o e2 hn e3 => by have h1 := (L_wr.out.2 y hy).2.2 b o e2; have h2 := HEL.out k e; omega⟩⟩ hoff P4.out
    | succ n =>
      have hlt : k < xs.length := by omega
      have e3 : decide ((k : Int) < (xs.length : Int)) = true := decide_eq_true (by omega)
      obtain ⟨x, hx⟩ : ∃ x, xs[k]? = some x := ⟨_, List.getElem?_eq_getElem hlt⟩
      have hsr := HX.out.step B_wr.out
      obtain ⟨b, o, hA, hbB, hcl, hpl⟩ := hsr.at_ hx
      have HLD := Lib.hid (load_bd hcl)
      have Y_wr := Lib.hid (BI.inn hsr HF.out (List.mem_of_getElem? hx))
      have HXK := Lib.hid hx
      have HCB := Lib.hid (fun w1 h => HCBX.out x w1 h)
      have HYL : Hid (ys.length ≤ 100000) := Lib.hid (by have := congrArg List.length HMP0.out; rw [List.length_map] at this; have h2 := dropR_le ((xs.take k).map BE.d) q; rw [List.length_map, List.length_take] at h2; have := HNX.out; omega)
      have HGWR : Hid (g3 < wr.heap.size) := Lib.hid G_wr.out.lt
      have HVO : Hid ((Value.slice Av nv cv).ownBlock ≠ some wr.heap.size) := Lib.hid (L_wr.out.1.high (Nat.le_refl _))
      subst hA
      have j1 : (0 : Int) ≤ (k : Int) := by omega
      have j2 : (k : Int) < (xs.length : Int) := by omega
      clear hx hkg hlt hbB hcl hpl hsr
      go_upto_region 6 with first
        | (refine wpList_load_v (by rfl) 35 (.tmp 16) rfl ⟨b, o + k * 5, none⟩ (by go_simp) _ HLD.out ?_)
        | (refine S2.wpList_store_all (by rfl) 35 (.tmp 7) (.tmp 17) rfl rfl wr.heap.size rfl (gB x) rfl 35 _ (BK.new wr _ _) bdSize rfl (gB_one _) ?_; intro w4 hM hP; have hb := hP.below (S2.below_new wr _) (Nat.le_refl _); have B_w4 := Lib.hid (stepB B_wr.out hb); have V_w4 := Lib.hid hM; have T_w4 := Lib.hid (T_wr.out.step hb); have Z_w4 := Lib.hid (Z_wr.out.step hb); have G_w4 := Lib.hid (G_wr.out.step hb); have E_w4 := Lib.hid (OwnG.step E_wr.out hb); have L_w4 := Lib.hid (Lst.step L_wr.out hb); have Y_w4 := Lib.hid (Y_wr.out.step hb); have W_w4 := Lib.hid (Nat.le_trans W_wr.out hb.size); clear hM hP hb)
      clear HLD W_wr B_wr T_wr Z_wr G_wr E_wr L_wr Y_wr HCBX
      have z1 : w4.cell? ⟨wr.heap.size, 1, none⟩ = some (.string x.d.qu) := V_w4.out.cell 1 rfl
      have p1 : (x.d.qu.toList == q.toList) = decide (x.d.qu = q) := str_dec _ _
      by_cases hxq : x.d.qu = q
      · have HMP := Lib.hid (HMP0.out.trans (dropR_no HXK.out hxq).symm)
        rw [decide_eq_true hxq] at p1
        clear hxq
        go_wp2_with fail
        go_roundg n
        case measure => omega
        case rel => exact ⟨k + 1, ys, Av, nv, cv, by have := HG.out; omega, nxt k (by have := HNX.out; have := HG.out; omega), HMP.out, HSEP.out, E_w4.out, L_w4.out, G_w4.out, Z_w4.out, T_w4.out, W_w4.out, B_w4.out⟩
      · have HMP := Lib.hid (fun a c => dropR_yes HXK.out hxq HMP0.out a c)
        rw [decide_eq_false hxq] at p1
        clear hxq
        go_upto_region 7 with fail
        clear z1 p1
        obtain ⟨x1, hx1⟩ : ∃ x1, x1 = World.drew w4 := ⟨_, rfl⟩
        have hbD : Below w4.heap.size w4 x1 := by rw [hx1]; exact (Below.refl _ _).drew
        have B_x1 : Hid (Below w.heap.size w x1) := Lib.hid (stepB B_w4.out hbD)
        have E_x1 : Hid (OwnE x1 w.heap.size v1 l) := Lib.hid (OwnG.step E_w4.out hbD)
        have L_x1 : Hid (LstB B2 x1 (.slice Av nv cv) ys) := Lib.hid (Lst.step L_w4.out hbD)
        have G_x1 : Hid (BK 25 x1 g3 [v1, .slice Av nv cv]) := Lib.hid (G_w4.out.step hbD)
        have Z_x1 : Hid (BK 25 x1 (w.heap.size + 1) [.slice none 0 0, .slice none 0 0]) := Lib.hid (Z_w4.out.step hbD)
        have W_x1 : Hid (B2 ≤ x1.heap.size) := Lib.hid (Nat.le_trans W_w4.out hbD.size)
        have T_x1 : Hid (BK 25 x1 w.heap.size [.slice A1 l.length c1, .slice (some ⟨b, o, none⟩) xs.length c2]) := Lib.hid (T_w4.out.step hbD)
        have V_x1 : Hid (BK 35 x1 wr.heap.size (gB x)) := Lib.hid (V_w4.out.step hbD)
        have Y_x1 : Hid (BIn x1 x) := Lib.hid (Y_w4.out.step hbD)
        clear B_w4 E_w4 L_w4 G_w4 Z_w4 W_w4 T_w4 V_w4 Y_w4
        have hbd : (fun w' => BK 35 w' wr.heap.size (gB x)) (World.drew w4) := by rw [← hx1]; exact V_x1.out
        have hSD : (fun w' => BK 35 w' wr.heap.size (gB x)) x1 := V_x1.out
        have HWD := Lib.hid hx1
        clear hx1 hbD
        refine wp_region_held_drew (S := fun w' => BK 35 w' wr.heap.size (gB x)) (by kernel_rfl) hbd (fun hHeld => ?_)
        rw [← HWD.out]
        clear hHeld
        have hHeld := hSD
        clear hSD hbd HWD
        refine wpAnyH_take (i := 0) (v := .pointer (some ⟨g3, 1, none⟩)) (get_ops _ _ _ rfl) (by kernel_rfl) (by kernel_rfl) (by kernel_rfl) (fun _ _ _ h => h) (Or.inl ⟨by rfl, fun wS hSw => by (try dsimp only at hSw); go_simp⟩) hHeld ?_
        try simp only [Act.put, List.setIfInBounds_toArray, List.set_cons_zero, List.set_cons_succ]
        refine wpAnyH_take (i := 2) (v := bdV x) (get_ops _ _ _ rfl) (by kernel_rfl) (by kernel_rfl) (by kernel_rfl) (fun _ _ _ h => h) (Or.inl ⟨by rfl, fun wS hSw => by (try dsimp only at hSw); exact exec_load 35 _ rfl ⟨wr.heap.size, 0, none⟩ (by go_simp) _ (load_bd0 hSw)⟩) hHeld ?_
        try simp only [Act.put, List.setIfInBounds_toArray, List.set_cons_zero, List.set_cons_succ]
        refine wpAnyH_ready (rs := [1, 3]) (by kernel_rfl) (by simp) ?_
        refine (AllReadyH.cons (get_ops _ _ _ rfl) (fun K hK => ?_) (AllReadyH.cons (get_ops _ _ _ rfl) (fun K hK => ?_) AllReadyH.nil))
        · have g1 := G_x1.out.cell 1 rfl
          go_simp
          clear g1 hHeld
          refine hK.out _ _ V_x1.out (fun hHeld => ?_)
          clear hK K
          try simp only [Act.put, List.setIfInBounds_toArray, List.set_cons_zero, List.set_cons_succ]
          refine wpAnyH_ready (rs := [3]) (by kernel_rfl) (by simp) ?_
          refine (AllReadyH.cons (get_ops _ _ _ rfl) (fun K hK => ?_) AllReadyH.nil)
          have hlo : ∀ b, x1.heap.size ≤ b → (Value.slice Av nv cv).ownBlock ≠ some b := fun b hb => L_x1.out.1.high hb
          have HGW : Hid (B2 ≤ x1.heap.size) := Lib.hid W_x1.out
          go_simp
          refine (HCB.out x1 Y_x1.out).mono ?_
          rintro e x2 ⟨a, c, rfl, hp, hn, hb⟩
          have B_x2 : Hid (Below w.heap.size w x2) := Lib.hid (stepB B_x1.out hb)
          have E_x2 : Hid (OwnE x2 w.heap.size v1 l) := Lib.hid (OwnG.step E_x1.out hb)
          have L_x2 : Hid (LstB B2 x2 (.slice Av nv cv) ys) := Lib.hid (Lst.step L_x1.out hb)
          have G_x2 : Hid (BK 25 x2 g3 [v1, .slice Av nv cv]) := Lib.hid (G_x1.out.step hb)
          have Z_x2 : Hid (BK 25 x2 (w.heap.size + 1) [.slice none 0 0, .slice none 0 0]) := Lib.hid (Z_x1.out.step hb)
          have W_x2 : Hid (B2 ≤ x2.heap.size) := Lib.hid (Nat.le_trans W_x1.out hb.size)
          have T_x2 : Hid (BK 25 x2 w.heap.size [.slice A1 l.length c1, .slice (some ⟨b, o, none⟩) xs.length c2]) := Lib.hid (T_x1.out.step hb)
          have V_x2 : Hid (BK 35 x2 wr.heap.size (gB x)) := Lib.hid (V_x1.out.step hb)
          have Y_x2 : Hid (BIn x2 x) := Lib.hid (Y_x1.out.step hb)
          clear B_x1 E_x1 L_x1 G_x1 Z_x1 W_x1 T_x1 V_x1 Y_x1
          have P_x2 : Hid (PL x2 x2.heap.size a x.d.ml) := Lib.hid hp
          have HNA : Hid (NewL x1.heap.size a) := Lib.hid hn
          have HPO : Hid ((Value.slice Av nv cv).ownBlock ≠ some x2.heap.size ∧ ∀ b o, a = some ⟨b, o, none⟩ → (Value.slice Av nv cv).ownBlock ≠ some b) := Lib.hid ⟨L_x2.out.1.high (Nat.le_refl _), fun b o e => hlo b (hn b o e)⟩
          clear hHeld hb hp hn hlo
          simp only [bdV_lit]
          go_wp2_with fail
          refine hK.out _ _ V_x2.out (fun hHeld => ?_)
          clear hK K
          try simp only [Act.put, List.setIfInBounds_toArray, List.set_cons_zero, List.set_cons_succ]
          refine wpAnyH_ready (rs := [4]) (by kernel_rfl) (by simp) ?_
          refine (AllReadyH.cons (get_ops _ _ _ rfl) (fun K hK => ?_) AllReadyH.nil)
          go_simp
          obtain ⟨bq, hbq⟩ : ∃ n, n = x2.heap.size := ⟨_, rfl⟩
          refine name_world (C := fun w9 => K _ w9) (x2.alloc (.cells (gB ⟨x.d, a, c⟩).toArray 35)) ?_
          intro x3 hx3
          have hb : Below x2.heap.size x2 x3 := by rw [hx3]; exact S2.below_new _ _
          have hN : BK 35 x3 bq (gB ⟨x.d, a, c⟩) := by rw [hx3, hbq]; exact BK.new _ _ _
          have B_x3 : Hid (Below w.heap.size w x3) := Lib.hid (stepB B_x2.out hb)
          have E_x3 : Hid (OwnE x3 w.heap.size v1 l) := Lib.hid (OwnG.step E_x2.out hb)
          have L_x3 : Hid (LstB B2 x3 (.slice Av nv cv) ys) := Lib.hid (Lst.step L_x2.out hb)
          have G_x3 : Hid (BK 25 x3 g3 [v1, .slice Av nv cv]) := Lib.hid (G_x2.out.step hb)
          have Z_x3 : Hid (BK 25 x3 (w.heap.size + 1) [.slice none 0 0, .slice none 0 0]) := Lib.hid (Z_x2.out.step hb)
          have W_x3 : Hid (B2 ≤ x3.heap.size) := Lib.hid (Nat.le_trans W_x2.out hb.size)
          have T_x3 : Hid (BK 25 x3 w.heap.size [.slice A1 l.length c1, .slice (some ⟨b, o, none⟩) xs.length c2]) := Lib.hid (T_x2.out.step hb)
          have V_x3 : Hid (BK 35 x3 wr.heap.size (gB x)) := Lib.hid (V_x2.out.step hb)
          have Y_x3 : Hid (BIn x3 x) := Lib.hid (Y_x2.out.step hb)
          have P_x3 : Hid (PL x3 x3.heap.size a x.d.ml) := Lib.hid (GL.step P_x2.out hb)
          clear B_x2 E_x2 L_x2 G_x2 Z_x2 W_x2 T_x2 V_x2 Y_x2 P_x2
          have X_x3 := Lib.hid hN
          try rw [← hbq]
          clear hHeld hb hN hx3 hbq
          refine hK.out _ _ V_x3.out (fun hHeld => ?_)
          clear hK K
          try simp only [Act.put, List.setIfInBounds_toArray, List.set_cons_zero, List.set_cons_succ]
          refine wpAnyH_ready (rs := [5]) (by kernel_rfl) (by simp) ?_
          refine (AllReadyH.cons (get_ops _ _ _ rfl) (fun K hK => ?_) AllReadyH.nil)
          refine oper_lst (ad := BE.a) (ps := bps) gB_len gB_one (by decide) (.tmp 23) (.tmp 26) 23 rfl (.agg #[.string ByteArray.empty, .string ByteArray.empty, .string ByteArray.empty, .bool false, .slice none 0 0]) 80 Tryz.underlying23 bdInfo rfl (by decide) B2 (.slice Av nv cv) ys ⟨x.d, a, c⟩ (by go_simp) L_x3.out bq (by go_simp) X_x3.out P_x3.out (fun b o e => by have := HNA.out b o e; have := HGW.out; omega) (fun b o e _ => HPO.out.2 b o e) W_x3.out (by have := HYL.out; omega) ?_
          intro v9 x4 hl hkp hbel
          obtain ⟨A9, c9, hv9, _⟩ := OwnG.ret gB_len hl.1
          obtain ⟨n9, hn9⟩ : ∃ n, (ys ++ [(⟨x.d, a, c⟩ : BE)]).length = n := ⟨_, rfl⟩
          rw [hn9] at hv9
          subst hv9
          have L_x4 : Hid (LstB B2 x4 (.slice A9 n9 c9) (ys ++ [(⟨x.d, a, c⟩ : BE)])) := Lib.hid hl
          have B_x4 : Hid (Below w.heap.size w x4) := Lib.hid (hbel _ _ B_x3.out (by have := HG3.out; have := HB2G.out; omega))
          have E_x4 : Hid (OwnE x4 w.heap.size v1 l) := Lib.hid (E_x3.out.keepb (fun b e => hkp.keep b (own_lt E_x3.out b e).2 (HSEP.out b e)))
          have G_x4 : Hid (BK 25 x4 g3 [v1, .slice Av nv cv]) := Lib.hid ((hkp.keep g3 G_x3.out.lt (L_x3.out.1.off HB2G.out)).trans G_x3.out)
          have Z_x4 : Hid (BK 25 x4 (w.heap.size + 1) [.slice none 0 0, .slice none 0 0]) := Lib.hid ((hkp.keep _ Z_x3.out.lt (L_x3.out.1.off (by have := HG3.out; have := HB2G.out; omega))).trans Z_x3.out)
          have T_x4 : Hid (BK 25 x4 w.heap.size [.slice A1 l.length c1, .slice (some ⟨b, o, none⟩) xs.length c2]) := Lib.hid ((hkp.keep _ T_x3.out.lt (L_x3.out.1.off (by have := HG3.out; have := HB2G.out; omega))).trans T_x3.out)
          have V_x4 : Hid (BK 35 x4 wr.heap.size (gB x)) := Lib.hid ((hkp.keep _ V_x3.out.lt HVO.out).trans V_x3.out)
          have hsz := hkp.size
          have W_x4 : Hid (B2 ≤ x4.heap.size) := Lib.hid (Nat.le_trans W_x3.out hsz)
          have HS9 : Hid (∀ b, v1.ownBlock = some b → (Value.slice A9 n9 c9).ownBlock ≠ some b) := Lib.hid (fun b e e2 => by rcases hkp.own b e2 with h | h; exact HSEP.out b e h; have := (own_lt E_x3.out b e).2; omega)
          clear hl hkp hbel hsz hHeld hn9 B_x3 E_x3 L_x3 G_x3 Z_x3 W_x3 T_x3 V_x3 Y_x3 P_x3 X_x3
          refine hK.out _ _ V_x4.out (fun hHeld => ?_)
          clear hK K
          try simp only [Act.put, List.setIfInBounds_toArray, List.set_cons_zero, List.set_cons_succ]
          refine wpAnyH_take (i := 6) (v := .pointer (some ⟨g3, 1, none⟩)) (get_ops _ _ _ rfl) (by kernel_rfl) (by kernel_rfl) (by kernel_rfl) (fun _ _ _ h => h) (Or.inl ⟨by rfl, fun wS hSw => by (try dsimp only at hSw); go_simp⟩) hHeld ?_
          try simp only [Act.put, List.setIfInBounds_toArray, List.set_cons_zero, List.set_cons_succ]
          refine wpAnyH_ready (rs := [7]) (by kernel_rfl) (by simp) ?_
          refine (AllReadyH.cons (get_ops _ _ _ rfl) (fun K hK => ?_) AllReadyH.nil)
          have g1 := G_x4.out.cell 1 rfl
          have f1 := G_x4.out.free 1
          go_simp
          refine name_world (C := fun w9 => K _ w9) (x4.setCell ⟨g3, 1, none⟩ (.slice A9 n9 c9)) ?_
          intro x5 hx5
          have L_x5 : Hid (LstB B2 x5 (.slice A9 n9 c9) (ys ++ [(⟨x.d, a, c⟩ : BE)])) := Lib.hid (by rw [hx5]; exact Lst.set L_x4.out HB2G.out 1 _)
          have E_x5 : Hid (OwnE x5 w.heap.size v1 l) := Lib.hid (by rw [hx5]; exact OwnG.set E_x4.out HEG.out 1 _)
          have G_x5 : Hid (BK 25 x5 g3 [v1, .slice A9 n9 c9]) := Lib.hid (by rw [hx5]; exact G_x4.out.set 1 _)
          have Z_x5 : Hid (BK 25 x5 (w.heap.size + 1) [.slice none 0 0, .slice none 0 0]) := Lib.hid (by rw [hx5]; exact Z_x4.out.other (by show w.heap.size + 1 ≠ g3; have := HG3.out; omega) _)
          have T_x5 : Hid (BK 25 x5 w.heap.size [.slice A1 l.length c1, .slice (some ⟨b, o, none⟩) xs.length c2]) := Lib.hid (by rw [hx5]; exact T_x4.out.other (by show w.heap.size ≠ g3; have := HG3.out; omega) _)
          have V_x5 : Hid (BK 35 x5 wr.heap.size (gB x)) := Lib.hid (by rw [hx5]; exact V_x4.out.other (by show wr.heap.size ≠ g3; have := HGWR.out; omega) _)
          have W_x5 : Hid (B2 ≤ x5.heap.size) := Lib.hid (by rw [hx5]; simpa using W_x4.out)
          have B_x5 : Hid (Below w.heap.size w x5) := Lib.hid (by rw [hx5]; exact B_x4.out.setCell (p := ⟨g3, 1, none⟩) (by show w.heap.size ≤ g3; have := HG3.out; omega) _)
          clear g1 f1 hHeld hx5 B_x4 E_x4 L_x4 G_x4 Z_x4 W_x4 T_x4 V_x4
          refine hK.out _ _ V_x5.out (fun hHeld => ?_)
          clear hK K
          try simp only [Act.put, List.setIfInBounds_toArray, List.set_cons_zero, List.set_cons_succ]
          refine wpAnyH_done (by kernel_rfl) ?_ _
          go_wp2_with fail
          go_roundg n
          case measure => omega
          case rel => exact ⟨k + 1, ys ++ [(⟨x.d, a, c⟩ : BE)], A9, n9, c9, by have := HG.out; omega, nxt k (by have := HNX.out; have := HG.out; omega), HMP.out a c, HS9.out, E_x5.out, L_x5.out, G_x5.out, Z_x5.out, T_x5.out, W_x5.out, B_x5.out⟩
        · have hlo : ∀ b, x1.heap.size ≤ b → (Value.slice Av nv cv).ownBlock ≠ some b := fun b hb => L_x1.out.1.high hb
          have HGW : Hid (B2 ≤ x1.heap.size) := Lib.hid W_x1.out
          go_simp
          refine (HCB.out x1 Y_x1.out).mono ?_
          rintro e x2 ⟨a, c, rfl, hp, hn, hb⟩
          have B_x2 : Hid (Below w.heap.size w x2) := Lib.hid (stepB B_x1.out hb)
          have E_x2 : Hid (OwnE x2 w.heap.size v1 l) := Lib.hid (OwnG.step E_x1.out hb)
          have L_x2 : Hid (LstB B2 x2 (.slice Av nv cv) ys) := Lib.hid (Lst.step L_x1.out hb)
          have G_x2 : Hid (BK 25 x2 g3 [v1, .slice Av nv cv]) := Lib.hid (G_x1.out.step hb)
          have Z_x2 : Hid (BK 25 x2 (w.heap.size + 1) [.slice none 0 0, .slice none 0 0]) := Lib.hid (Z_x1.out.step hb)
          have W_x2 : Hid (B2 ≤ x2.heap.size) := Lib.hid (Nat.le_trans W_x1.out hb.size)
          have T_x2 : Hid (BK 25 x2 w.heap.size [.slice A1 l.length c1, .slice (some ⟨b, o, none⟩) xs.length c2]) := Lib.hid (T_x1.out.step hb)
          have V_x2 : Hid (BK 35 x2 wr.heap.size (gB x)) := Lib.hid (V_x1.out.step hb)
          have Y_x2 : Hid (BIn x2 x) := Lib.hid (Y_x1.out.step hb)
          clear B_x1 E_x1 L_x1 G_x1 Z_x1 W_x1 T_x1 V_x1 Y_x1
          have P_x2 : Hid (PL x2 x2.heap.size a x.d.ml) := Lib.hid hp
          have HNA : Hid (NewL x1.heap.size a) := Lib.hid hn
          have HPO : Hid ((Value.slice Av nv cv).ownBlock ≠ some x2.heap.size ∧ ∀ b o, a = some ⟨b, o, none⟩ → (Value.slice Av nv cv).ownBlock ≠ some b) := Lib.hid ⟨L_x2.out.1.high (Nat.le_refl _), fun b o e => hlo b (hn b o e)⟩
          clear hHeld hb hp hn hlo
          simp only [bdV_lit]
          go_wp2_with fail
          refine hK.out _ _ V_x2.out (fun hHeld => ?_)
          clear hK K
          try simp only [Act.put, List.setIfInBounds_toArray, List.set_cons_zero, List.set_cons_succ]
          refine wpAnyH_ready (rs := [1, 4]) (by kernel_rfl) (by simp) ?_
          refine (AllReadyH.cons (get_ops _ _ _ rfl) (fun K hK => ?_) (AllReadyH.cons (get_ops _ _ _ rfl) (fun K hK => ?_) AllReadyH.nil))
          · have g1 := G_x2.out.cell 1 rfl
            go_simp
            clear g1 hHeld
            refine hK.out _ _ V_x2.out (fun hHeld => ?_)
            clear hK K
            try simp only [Act.put, List.setIfInBounds_toArray, List.set_cons_zero, List.set_cons_succ]
            refine wpAnyH_ready (rs := [4]) (by kernel_rfl) (by simp) ?_
            refine (AllReadyH.cons (get_ops _ _ _ rfl) (fun K hK => ?_) AllReadyH.nil)
            go_simp
            obtain ⟨bq, hbq⟩ : ∃ n, n = x2.heap.size := ⟨_, rfl⟩
            refine name_world (C := fun w9 => K _ w9) (x2.alloc (.cells (gB ⟨x.d, a, c⟩).toArray 35)) ?_
            intro x3 hx3
            have hb : Below x2.heap.size x2 x3 := by rw [hx3]; exact S2.below_new _ _
            have hN : BK 35 x3 bq (gB ⟨x.d, a, c⟩) := by rw [hx3, hbq]; exact BK.new _ _ _
            have B_x3 : Hid (Below w.heap.size w x3) := Lib.hid (stepB B_x2.out hb)
            have E_x3 : Hid (OwnE x3 w.heap.size v1 l) := Lib.hid (OwnG.step E_x2.out hb)
            have L_x3 : Hid (LstB B2 x3 (.slice Av nv cv) ys) := Lib.hid (Lst.step L_x2.out hb)
            have G_x3 : Hid (BK 25 x3 g3 [v1, .slice Av nv cv]) := Lib.hid (G_x2.out.step hb)
            have Z_x3 : Hid (BK 25 x3 (w.heap.size + 1) [.slice none 0 0, .slice none 0 0]) := Lib.hid (Z_x2.out.step hb)
            have W_x3 : Hid (B2 ≤ x3.heap.size) := Lib.hid (Nat.le_trans W_x2.out hb.size)
            have T_x3 : Hid (BK 25 x3 w.heap.size [.slice A1 l.length c1, .slice (some ⟨b, o, none⟩) xs.length c2]) := Lib.hid (T_x2.out.step hb)
            have V_x3 : Hid (BK 35 x3 wr.heap.size (gB x)) := Lib.hid (V_x2.out.step hb)
            have Y_x3 : Hid (BIn x3 x) := Lib.hid (Y_x2.out.step hb)
            have P_x3 : Hid (PL x3 x3.heap.size a x.d.ml) := Lib.hid (GL.step P_x2.out hb)
            clear B_x2 E_x2 L_x2 G_x2 Z_x2 W_x2 T_x2 V_x2 Y_x2 P_x2
            have X_x3 := Lib.hid hN
            try rw [← hbq]
            clear hHeld hb hN hx3 hbq
            refine hK.out _ _ V_x3.out (fun hHeld => ?_)
            clear hK K
            try simp only [Act.put, List.setIfInBounds_toArray, List.set_cons_zero, List.set_cons_succ]
            refine wpAnyH_ready (rs := [5]) (by kernel_rfl) (by simp) ?_
            refine (AllReadyH.cons (get_ops _ _ _ rfl) (fun K hK => ?_) AllReadyH.nil)
            refine oper_lst (ad := BE.a) (ps := bps) gB_len gB_one (by decide) (.tmp 23) (.tmp 26) 23 rfl (.agg #[.string ByteArray.empty, .string ByteArray.empty, .string ByteArray.empty, .bool false, .slice none 0 0]) 80 Tryz.underlying23 bdInfo rfl (by decide) B2 (.slice Av nv cv) ys ⟨x.d, a, c⟩ (by go_simp) L_x3.out bq (by go_simp) X_x3.out P_x3.out (fun b o e => by have := HNA.out b o e; have := HGW.out; omega) (fun b o e _ => HPO.out.2 b o e) W_x3.out (by have := HYL.out; omega) ?_
            intro v9 x4 hl hkp hbel
            obtain ⟨A9, c9, hv9, _⟩ := OwnG.ret gB_len hl.1
            obtain ⟨n9, hn9⟩ : ∃ n, (ys ++ [(⟨x.d, a, c⟩ : BE)]).length = n := ⟨_, rfl⟩
            rw [hn9] at hv9
            subst hv9
            have L_x4 : Hid (LstB B2 x4 (.slice A9 n9 c9) (ys ++ [(⟨x.d, a, c⟩ : BE)])) := Lib.hid hl
            have B_x4 : Hid (Below w.heap.size w x4) := Lib.hid (hbel _ _ B_x3.out (by have := HG3.out; have := HB2G.out; omega))
            have E_x4 : Hid (OwnE x4 w.heap.size v1 l) := Lib.hid (E_x3.out.keepb (fun b e => hkp.keep b (own_lt E_x3.out b e).2 (HSEP.out b e)))
            have G_x4 : Hid (BK 25 x4 g3 [v1, .slice Av nv cv]) := Lib.hid ((hkp.keep g3 G_x3.out.lt (L_x3.out.1.off HB2G.out)).trans G_x3.out)
            have Z_x4 : Hid (BK 25 x4 (w.heap.size + 1) [.slice none 0 0, .slice none 0 0]) := Lib.hid ((hkp.keep _ Z_x3.out.lt (L_x3.out.1.off (by have := HG3.out; have := HB2G.out; omega))).trans Z_x3.out)
            have T_x4 : Hid (BK 25 x4 w.heap.size [.slice A1 l.length c1, .slice (some ⟨b, o, none⟩) xs.length c2]) := Lib.hid ((hkp.keep _ T_x3.out.lt (L_x3.out.1.off (by have := HG3.out; have := HB2G.out; omega))).trans T_x3.out)
            have V_x4 : Hid (BK 35 x4 wr.heap.size (gB x)) := Lib.hid ((hkp.keep _ V_x3.out.lt HVO.out).trans V_x3.out)
            have hsz := hkp.size
            have W_x4 : Hid (B2 ≤ x4.heap.size) := Lib.hid (Nat.le_trans W_x3.out hsz)
            have HS9 : Hid (∀ b, v1.ownBlock = some b → (Value.slice A9 n9 c9).ownBlock ≠ some b) := Lib.hid (fun b e e2 => by rcases hkp.own b e2 with h | h; exact HSEP.out b e h; have := (own_lt E_x3.out b e).2; omega)
            clear hl hkp hbel hsz hHeld hn9 B_x3 E_x3 L_x3 G_x3 Z_x3 W_x3 T_x3 V_x3 Y_x3 P_x3 X_x3
            refine hK.out _ _ V_x4.out (fun hHeld => ?_)
            clear hK K
            try simp only [Act.put, List.setIfInBounds_toArray, List.set_cons_zero, List.set_cons_succ]
            refine wpAnyH_take (i := 6) (v := .pointer (some ⟨g3, 1, none⟩)) (get_ops _ _ _ rfl) (by kernel_rfl) (by kernel_rfl) (by kernel_rfl) (fun _ _ _ h => h) (Or.inl ⟨by rfl, fun wS hSw => by (try dsimp only at hSw); go_simp⟩) hHeld ?_
            try simp only [Act.put, List.setIfInBounds_toArray, List.set_cons_zero, List.set_cons_succ]
            refine wpAnyH_ready (rs := [7]) (by kernel_rfl) (by simp) ?_
            refine (AllReadyH.cons (get_ops _ _ _ rfl) (fun K hK => ?_) AllReadyH.nil)
            have g1 := G_x4.out.cell 1 rfl
            have f1 := G_x4.out.free 1
            go_simp
            refine name_world (C := fun w9 => K _ w9) (x4.setCell ⟨g3, 1, none⟩ (.slice A9 n9 c9)) ?_
            intro x5 hx5
            have L_x5 : Hid (LstB B2 x5 (.slice A9 n9 c9) (ys ++ [(⟨x.d, a, c⟩ : BE)])) := Lib.hid (by rw [hx5]; exact Lst.set L_x4.out HB2G.out 1 _)
            have E_x5 : Hid (OwnE x5 w.heap.size v1 l) := Lib.hid (by rw [hx5]; exact OwnG.set E_x4.out HEG.out 1 _)
            have G_x5 : Hid (BK 25 x5 g3 [v1, .slice A9 n9 c9]) := Lib.hid (by rw [hx5]; exact G_x4.out.set 1 _)
            have Z_x5 : Hid (BK 25 x5 (w.heap.size + 1) [.slice none 0 0, .slice none 0 0]) := Lib.hid (by rw [hx5]; exact Z_x4.out.other (by show w.heap.size + 1 ≠ g3; have := HG3.out; omega) _)
            have T_x5 : Hid (BK 25 x5 w.heap.size [.slice A1 l.length c1, .slice (some ⟨b, o, none⟩) xs.length c2]) := Lib.hid (by rw [hx5]; exact T_x4.out.other (by show w.heap.size ≠ g3; have := HG3.out; omega) _)
            have V_x5 : Hid (BK 35 x5 wr.heap.size (gB x)) := Lib.hid (by rw [hx5]; exact V_x4.out.other (by show wr.heap.size ≠ g3; have := HGWR.out; omega) _)
            have W_x5 : Hid (B2 ≤ x5.heap.size) := Lib.hid (by rw [hx5]; simpa using W_x4.out)
            have B_x5 : Hid (Below w.heap.size w x5) := Lib.hid (by rw [hx5]; exact B_x4.out.setCell (p := ⟨g3, 1, none⟩) (by show w.heap.size ≤ g3; have := HG3.out; omega) _)
            clear g1 f1 hHeld hx5 B_x4 E_x4 L_x4 G_x4 Z_x4 W_x4 T_x4 V_x4
            refine hK.out _ _ V_x5.out (fun hHeld => ?_)
            clear hK K
            try simp only [Act.put, List.setIfInBounds_toArray, List.set_cons_zero, List.set_cons_succ]
            refine wpAnyH_done (by kernel_rfl) ?_ _
            go_wp2_with fail
            go_roundg n
            case measure => omega
            case rel => exact ⟨k + 1, ys ++ [(⟨x.d, a, c⟩ : BE)], A9, n9, c9, by have := HG.out; omega, nxt k (by have := HNX.out; have := HG.out; omega), HMP.out a c, HS9.out, E_x5.out, L_x5.out, G_x5.out, Z_x5.out, T_x5.out, W_x5.out, B_x5.out⟩
          · go_simp
            obtain ⟨bq, hbq⟩ : ∃ n, n = x2.heap.size := ⟨_, rfl⟩
            refine name_world (C := fun w9 => K _ w9) (x2.alloc (.cells (gB ⟨x.d, a, c⟩).toArray 35)) ?_
            intro x3 hx3
            have hb : Below x2.heap.size x2 x3 := by rw [hx3]; exact S2.below_new _ _
            have hN : BK 35 x3 bq (gB ⟨x.d, a, c⟩) := by rw [hx3, hbq]; exact BK.new _ _ _
            have B_x3 : Hid (Below w.heap.size w x3) := Lib.hid (stepB B_x2.out hb)
            have E_x3 : Hid (OwnE x3 w.heap.size v1 l) := Lib.hid (OwnG.step E_x2.out hb)
            have L_x3 : Hid (LstB B2 x3 (.slice Av nv cv) ys) := Lib.hid (Lst.step L_x2.out hb)
            have G_x3 : Hid (BK 25 x3 g3 [v1, .slice Av nv cv]) := Lib.hid (G_x2.out.step hb)
            have Z_x3 : Hid (BK 25 x3 (w.heap.size + 1) [.slice none 0 0, .slice none 0 0]) := Lib.hid (Z_x2.out.step hb)
            have W_x3 : Hid (B2 ≤ x3.heap.size) := Lib.hid (Nat.le_trans W_x2.out hb.size)
            have T_x3 : Hid (BK 25 x3 w.heap.size [.slice A1 l.length c1, .slice (some ⟨b, o, none⟩) xs.length c2]) := Lib.hid (T_x2.out.step hb)
            have V_x3 : Hid (BK 35 x3 wr.heap.size (gB x)) := Lib.hid (V_x2.out.step hb)
            have Y_x3 : Hid (BIn x3 x) := Lib.hid (Y_x2.out.step hb)
            have P_x3 : Hid (PL x3 x3.heap.size a x.d.ml) := Lib.hid (GL.step P_x2.out hb)
            clear B_x2 E_x2 L_x2 G_x2 Z_x2 W_x2 T_x2 V_x2 Y_x2 P_x2
            have X_x3 := Lib.hid hN
            try rw [← hbq]
            clear hHeld hb hN hx3 hbq
            refine hK.out _ _ V_x3.out (fun hHeld => ?_)
            clear hK K
            try simp only [Act.put, List.setIfInBounds_toArray, List.set_cons_zero, List.set_cons_succ]
            refine wpAnyH_ready (rs := [1]) (by kernel_rfl) (by simp) ?_
            refine (AllReadyH.cons (get_ops _ _ _ rfl) (fun K hK => ?_) AllReadyH.nil)
            have g1 := G_x3.out.cell 1 rfl
            go_simp
            clear g1 hHeld
            refine hK.out _ _ V_x3.out (fun hHeld => ?_)
            clear hK K
            try simp only [Act.put, List.setIfInBounds_toArray, List.set_cons_zero, List.set_cons_succ]
            refine wpAnyH_ready (rs := [5]) (by kernel_rfl) (by simp) ?_
            refine (AllReadyH.cons (get_ops _ _ _ rfl) (fun K hK => ?_) AllReadyH.nil)
            refine oper_lst (ad := BE.a) (ps := bps) gB_len gB_one (by decide) (.tmp 23) (.tmp 26) 23 rfl (.agg #[.string ByteArray.empty, .string ByteArray.empty, .string ByteArray.empty, .bool false, .slice none 0 0]) 80 Tryz.underlying23 bdInfo rfl (by decide) B2 (.slice Av nv cv) ys ⟨x.d, a, c⟩ (by go_simp) L_x3.out bq (by go_simp) X_x3.out P_x3.out (fun b o e => by have := HNA.out b o e; have := HGW.out; omega) (fun b o e _ => HPO.out.2 b o e) W_x3.out (by have := HYL.out; omega) ?_
            intro v9 x4 hl hkp hbel
            obtain ⟨A9, c9, hv9, _⟩ := OwnG.ret gB_len hl.1
            obtain ⟨n9, hn9⟩ : ∃ n, (ys ++ [(⟨x.d, a, c⟩ : BE)]).length = n := ⟨_, rfl⟩
            rw [hn9] at hv9
            subst hv9
            have L_x4 : Hid (LstB B2 x4 (.slice A9 n9 c9) (ys ++ [(⟨x.d, a, c⟩ : BE)])) := Lib.hid hl
            have B_x4 : Hid (Below w.heap.size w x4) := Lib.hid (hbel _ _ B_x3.out (by have := HG3.out; have := HB2G.out; omega))
            have E_x4 : Hid (OwnE x4 w.heap.size v1 l) := Lib.hid (E_x3.out.keepb (fun b e => hkp.keep b (own_lt E_x3.out b e).2 (HSEP.out b e)))
            have G_x4 : Hid (BK 25 x4 g3 [v1, .slice Av nv cv]) := Lib.hid ((hkp.keep g3 G_x3.out.lt (L_x3.out.1.off HB2G.out)).trans G_x3.out)
            have Z_x4 : Hid (BK 25 x4 (w.heap.size + 1) [.slice none 0 0, .slice none 0 0]) := Lib.hid ((hkp.keep _ Z_x3.out.lt (L_x3.out.1.off (by have := HG3.out; have := HB2G.out; omega))).trans Z_x3.out)
            have T_x4 : Hid (BK 25 x4 w.heap.size [.slice A1 l.length c1, .slice (some ⟨b, o, none⟩) xs.length c2]) := Lib.hid ((hkp.keep _ T_x3.out.lt (L_x3.out.1.off (by have := HG3.out; have := HB2G.out; omega))).trans T_x3.out)
            have V_x4 : Hid (BK 35 x4 wr.heap.size (gB x)) := Lib.hid ((hkp.keep _ V_x3.out.lt HVO.out).trans V_x3.out)
            have hsz := hkp.size
            have W_x4 : Hid (B2 ≤ x4.heap.size) := Lib.hid (Nat.le_trans W_x3.out hsz)
            have HS9 : Hid (∀ b, v1.ownBlock = some b → (Value.slice A9 n9 c9).ownBlock ≠ some b) := Lib.hid (fun b e e2 => by rcases hkp.own b e2 with h | h; exact HSEP.out b e h; have := (own_lt E_x3.out b e).2; omega)
            clear hl hkp hbel hsz hHeld hn9 B_x3 E_x3 L_x3 G_x3 Z_x3 W_x3 T_x3 V_x3 Y_x3 P_x3 X_x3
            refine hK.out _ _ V_x4.out (fun hHeld => ?_)
            clear hK K
            try simp only [Act.put, List.setIfInBounds_toArray, List.set_cons_zero, List.set_cons_succ]
            refine wpAnyH_take (i := 6) (v := .pointer (some ⟨g3, 1, none⟩)) (get_ops _ _ _ rfl) (by kernel_rfl) (by kernel_rfl) (by kernel_rfl) (fun _ _ _ h => h) (Or.inl ⟨by rfl, fun wS hSw => by (try dsimp only at hSw); go_simp⟩) hHeld ?_
            try simp only [Act.put, List.setIfInBounds_toArray, List.set_cons_zero, List.set_cons_succ]
            refine wpAnyH_ready (rs := [7]) (by kernel_rfl) (by simp) ?_
            refine (AllReadyH.cons (get_ops _ _ _ rfl) (fun K hK => ?_) AllReadyH.nil)
            have g1 := G_x4.out.cell 1 rfl
            have f1 := G_x4.out.free 1
            go_simp
            refine name_world (C := fun w9 => K _ w9) (x4.setCell ⟨g3, 1, none⟩ (.slice A9 n9 c9)) ?_
            intro x5 hx5
            have L_x5 : Hid (LstB B2 x5 (.slice A9 n9 c9) (ys ++ [(⟨x.d, a, c⟩ : BE)])) := Lib.hid (by rw [hx5]; exact Lst.set L_x4.out HB2G.out 1 _)
            have E_x5 : Hid (OwnE x5 w.heap.size v1 l) := Lib.hid (by rw [hx5]; exact OwnG.set E_x4.out HEG.out 1 _)
            have G_x5 : Hid (BK 25 x5 g3 [v1, .slice A9 n9 c9]) := Lib.hid (by rw [hx5]; exact G_x4.out.set 1 _)
            have Z_x5 : Hid (BK 25 x5 (w.heap.size + 1) [.slice none 0 0, .slice none 0 0]) := Lib.hid (by rw [hx5]; exact Z_x4.out.other (by show w.heap.size + 1 ≠ g3; have := HG3.out; omega) _)
            have T_x5 : Hid (BK 25 x5 w.heap.size [.slice A1 l.length c1, .slice (some ⟨b, o, none⟩) xs.length c2]) := Lib.hid (by rw [hx5]; exact T_x4.out.other (by show w.heap.size ≠ g3; have := HG3.out; omega) _)
            have V_x5 : Hid (BK 35 x5 wr.heap.size (gB x)) := Lib.hid (by rw [hx5]; exact V_x4.out.other (by show wr.heap.size ≠ g3; have := HGWR.out; omega) _)
            have W_x5 : Hid (B2 ≤ x5.heap.size) := Lib.hid (by rw [hx5]; simpa using W_x4.out)
            have B_x5 : Hid (Below w.heap.size w x5) := Lib.hid (by rw [hx5]; exact B_x4.out.setCell (p := ⟨g3, 1, none⟩) (by show w.heap.size ≤ g3; have := HG3.out; omega) _)
            clear g1 f1 hHeld hx5 B_x4 E_x4 L_x4 G_x4 Z_x4 W_x4 T_x4 V_x4
            refine hK.out _ _ V_x5.out (fun hHeld => ?_)
            clear hK K
            try simp only [Act.put, List.setIfInBounds_toArray, List.set_cons_zero, List.set_cons_succ]
            refine wpAnyH_done (by kernel_rfl) ?_ _
            go_wp2_with fail
            go_roundg n
            case measure => omega
            case rel => exact ⟨k + 1, ys ++ [(⟨x.d, a, c⟩ : BE)], A9, n9, c9, by have := HG.out; omega, nxt k (by have := HNX.out; have := HG.out; omega), HMP.out a c, HS9.out, E_x5.out, L_x5.out, G_x5.out, Z_x5.out, T_x5.out, W_x5.out, B_x5.out⟩
end Go.Proofs.YtjkhfifnfgchgabGreatDoor
