/-
  The law ExchangeUndoes: it answers true. Conditions: the library's bound on short texts holds a number; the lists read as data; lengths fit an int.
-/
import Derived.Test.YtjkhfifnfgchgabGreatDoorEaS
import Derived.Test.YtjkhfifnfgchgabGreatDoorEaN
import Derived.Test.YtjkhfifnfgchgabGreatDoorEaM
namespace Go.Proofs.YtjkhfifnfgchgabGreatDoor
open Go.RowKit
open S2 (BK Put get_ops exec_load)

/-- routes that lie in memory -/
structure Rts (w : World) (A1 : Option Addr) (l : List Ex) (A2 : Option Addr) (ys : List BE) : Prop where
  e : EL w w.heap.size A1 l
  b : BI w w.heap.size A2 ys
theorem Rts.step {w w' : World} {A1 A2 : Option Addr} {l : List Ex} {ys : List BE} (h : Rts w A1 l A2 ys) (hb : Below w.heap.size w w') : Rts w' A1 l A2 ys := ⟨GL.step h.e hb, LI.step h.b hb⟩
theorem RetUn.undo {l : List Ex} {bs cs : List Bd} {b : Bd} {W w' : World} {e : Ending} (hm : cs = bs ++ [b]) (hn : b ∉ bs) (h : RetUn l cs b W e w') : ∃ v1 v2 ys, e = .returned (.tuple #[.agg #[v1, v2], .int .i64 0]) ∧ ys.map BE.d = bs ∧ RtN W.heap.size w' v1 l v2 ys ∧ Below W.heap.size W w' := by
  obtain ⟨v1, v2, ys, he, hy, hr, hb⟩ := h
  rw [hm, unb_app hn] at he hy hr
  rw [if_pos rfl] at hr
  exact ⟨v1, v2, ys, he, hy, hr, hb⟩
theorem RetDe.same {l : List Ex} {bs : List Bd} {x : Ex} {W w' : World} {e : Ending} (hd : declR l x = (l, 0)) (h : RetDe l bs x W e w') : ∃ v1 v2 ys, e = .returned (.tuple #[.agg #[v1, v2], .int .i64 0]) ∧ ys.map BE.d = bs ∧ RtN W.heap.size w' v1 l v2 ys ∧ Below W.heap.size W w' := by
  obtain ⟨v1, v2, ys, he, hy, hr, hb⟩ := h
  rw [hd] at he hy hr
  rw [if_pos rfl] at hy
  exact ⟨v1, v2, ys, he, hy, hr, hb⟩
set_option maxRecDepth 20000 in
set_option maxHeartbeats 32000000 in
theorem exchangeUndoes_walk (A0 : Option Addr) (c0 : Nat) (l0 : List Ex) (B0 : Option Addr) (e0 : Nat) (xs0 : List BE) (y : BE) (to0 to1 : ByteArray) (w : World) (ho : S1.Okw w) (h1 : EL w w.heap.size A0 l0) (h2 : BI w w.heap.size B0 xs0) (hc2 : xs0.length ≤ e0) (hz1 : ∀ X ∈ l0, SzX X) (hz2 : ∀ X ∈ xs0, X.d.ml.length ≤ 4398046511104 ∧ SzB X.d)
    (hy : PL w w.heap.size y.a y.d.ml) (hyz : OkB y.d) :
    Calls Tryz.prog 6 #[rtV A0 l0.length c0 B0 xs0.length e0, bdV y, .agg #[.string to0, .string to1]] w fun e w' => e = .returned (.bool true) ∧ Below w.heap.size w w' := by
  have HX := Lib.hid (fun w1 h => exHolds_any w1 h)
  have HFW := Lib.hid (fun w1 => few_any A0 l0.length c0 B0 xs0.length e0 w1)
  have HC0 := Lib.hid (fun w1 h1 h2 => rCheck24_any A0 c0 l0 B0 e0 xs0 w1 h1 h2 hc2 (fun X h => (hz2 X h).1) ⟨hz1, fun X h => (hz2 X h).2⟩)
  have HFE : Hid (Few xs0) := Lib.hid (fun X h => (hz2 X h).1)
  have HO := Lib.hid ho
  have HR0 : Hid (Rts w A0 l0 B0 xs0) := Lib.hid ⟨h1, h2⟩
  have HOB : Hid (∀ b ∈ xs0.map BE.d, OkB b) := Lib.hid (fun b hb => by obtain ⟨X, hX, rfl⟩ := List.mem_map.1 hb; exact hz2 X hX)
  have HCC0 := Lib.hid hc2
  have HYI : Hid (BIn w y) := Lib.hid ⟨hy, hyz.1⟩
  have HYZ := Lib.hid hyz
  have HVV := Lib.hid (@vr_iff l0 (xs0.map BE.d))
  generalize ckR l0 (xs0.map BE.d) = R at HC0 HVV
  generalize fewR l0.length xs0.length = F at HFW
  unfold rtV at HFW HC0 ⊢
  have HV : Hid (bdV y = .agg (gB y).toArray) := Lib.hid rfl
  rw [HV.out]
  have CX : gB y = [.string y.d.ex, .string y.d.qu, .string y.d.ky, .bool y.d.all, .slice y.a y.d.ml.length y.c] := rfl
  rw [CX]
  clear ho h1 h2 hy hyz hz1 hz2 hc2 HV CX
  go_enter Tryz.func6, Tryz.ntmps6
  go_upto_region 1 with fail
  refine name_world (C := fun w1 => Code.wp _ _ _ _ w1) (((w.alloc (.cells [.slice A0 l0.length c0, .slice B0 xs0.length e0].toArray 25)).alloc (.cells [.string y.d.ex, .string y.d.qu, .string y.d.ky, .bool y.d.all, .slice y.a y.d.ml.length y.c].toArray 35)).alloc (.cells [.string to0, .string to1].toArray 44)) ?_
  intro w1 hw1
  obtain ⟨u1, u2, u3, hB0, hs0⟩ := three_laid hw1
  have T_w1 := Lib.hid u1
  have Y_w1 : Hid (BK 35 w1 (w.heap.size + 1) (gB y)) := Lib.hid u2
  have Z_w1 := Lib.hid u3
  have B_w1 := Lib.hid hB0
  clear hw1 u1 u2 u3 hB0 hs0
  have HLT := Lib.hid (S2.run_load_all T_w1.out Tryz.underlying25 rfl rtSize)
  go_wp2_with (refine wpList_load_v (by rfl) 25 (.tmp 3) rfl ⟨w.heap.size, 0, none⟩ rfl _ HLT.out ?_)
  refine (HFW.out w1).mono ?_
  rintro e w2 ⟨rfl, hb⟩
  have T_w2 := Lib.hid (T_w1.out.step hb)
  have Y_w2 := Lib.hid (Y_w1.out.step hb)
  have Z_w2 := Lib.hid (Z_w1.out.step hb)
  have B_w2 := Lib.hid (stepB B_w1.out hb)
  clear hb HLT T_w1 Y_w1 Z_w1 B_w1 HFW
  cases F with
  | false =>
    go_wp2_with fail
    refine (HX.out w2 (HO.out.step B_w2.out)).mono ?_
    rintro e w3 ⟨rfl, hb⟩
    have B_w3 := Lib.hid (stepB B_w2.out hb)
    clear hb
    go_wp2_with fail
    go_ret
    exact ⟨rfl, B_w3.out⟩
  | true =>
  have HLT := Lib.hid (S2.run_load_all T_w2.out Tryz.underlying25 rfl rtSize)
  go_wp2_with (refine wpList_load_v (by rfl) 25 (.tmp 3) rfl ⟨w.heap.size, 0, none⟩ rfl _ HLT.out ?_)
  refine (HC0.out w2 (GL.step HR0.out.e B_w2.out) (LI.step HR0.out.b B_w2.out)).mono ?_
  rintro e w3 ⟨rfl, hb⟩
  have T_w3 := Lib.hid (T_w2.out.step hb)
  have Y_w3 := Lib.hid (Y_w2.out.step hb)
  have Z_w3 := Lib.hid (Z_w2.out.step hb)
  have B_w3 := Lib.hid (stepB B_w2.out hb)
  clear hb HLT T_w2 Y_w2 Z_w2 B_w2 HC0
  by_cases hR : R = 0
  case neg =>
    have q1 : (R != 0) = true := bne_iff_ne.2 hR
    clear hR
    go_wp2_with fail
    refine (HX.out w3 (HO.out.step B_w3.out)).mono ?_
    rintro e w4 ⟨rfl, hb⟩
    have B_w4 := Lib.hid (stepB B_w3.out hb)
    clear hb
    go_wp2_with fail
    go_ret
    exact ⟨rfl, B_w4.out⟩
  have q1 : (R != 0) = false := by rw [hR]; rfl
  have HV := Lib.hid (HVV.out.1 hR)
  clear hR HVV
  have hnl : l0.length ≤ 32 := HV.out.nl
  have hnb : xs0.length ≤ 256 := by have := HV.out.nb; rwa [List.length_map] at this
  have HNL := Lib.hid hnl
  have HNB := Lib.hid hnb
  -- the calls
  have HBI := Lib.hid (fun w1 h1 h2 hy => xBind_any A0 c0 l0 B0 e0 xs0 y w1 h1 h2 HFE.out (by omega) (by omega) HV.out.asc hy)
  have HDE := Lib.hid (fun x w1 h1 h2 => xDeclare_any A0 c0 l0 B0 e0 xs0 x w1 h1 h2 HFE.out (by omega) (by omega) HV.out.asc)
  have HDR := Lib.hid (fun w1 h1 h2 => xDrop_any A0 c0 l0 B0 e0 xs0 y.d.qu w1 h1 h2 HFE.out (by omega) (by omega))
  have HSR := Lib.hid (fun B1 d1 B2 d2 ys w1 h1 h2 h3 h4 hf hm => sameR_any B1 d1 l0 B2 d2 ys A0 c0 B0 e0 xs0 w1 h1 h2 h3 h4 hf HFE.out hm (by omega))
  clear hnl hnb
  obtain ⟨E1, hE1⟩ : ∃ E, (bindR l0 (xs0.map BE.d) y.d).2 = E := ⟨_, rfl⟩
  obtain ⟨L1, hL1⟩ : ∃ L, (if E1 = 0 then l0 else []) = L := ⟨_, rfl⟩
  have HE1 := Lib.hid hE1
  have HL1 := Lib.hid hL1
  unfold RetBi at HBI
  rw [hE1, hL1] at HBI
  clear hE1 hL1
  unfold rtV at HBI HDE HDR HSR
  have HLT := Lib.hid (S2.run_load_all T_w3.out Tryz.underlying25 rfl rtSize)
  have HLY := Lib.hid (load_bd0 Y_w3.out)
  go_wp2_with first
    | (refine wpList_load_v (by rfl) 25 (.tmp 3) rfl ⟨w.heap.size, 0, none⟩ rfl _ HLT.out ?_)
    | (refine wpList_load_v (by rfl) 35 (.tmp 4) rfl ⟨w.heap.size + 1, 0, none⟩ rfl _ HLY.out ?_)
  refine (HBI.out w3 (GL.step HR0.out.e B_w3.out) (LI.step HR0.out.b B_w3.out) (HYI.out.step B_w3.out)).mono ?_
  rintro e w4 ⟨v1, v2, ys1, rfl, hys, hrt, hb⟩
  have HY1 := Lib.hid hys
  obtain ⟨Aa, ca, Ab, cb, hv1, hv2, _, hcb, l1, l2, _⟩ := hrt.ret
  subst hv1
  subst hv2
  have U_w4 : Hid (Rts w4 Aa L1 Ab ys1) := Lib.hid ⟨l1, l2⟩
  have T_w4 := Lib.hid (T_w3.out.step hb)
  have Y_w4 := Lib.hid (Y_w3.out.step hb)
  have Z_w4 := Lib.hid (Z_w3.out.step hb)
  have B_w4 := Lib.hid (stepB B_w3.out hb)
  clear hys hrt hb HLT HLY hcb l1 l2 T_w3 Y_w3 Z_w3 B_w3 HBI
  go_upto_region 4 with first
    | (refine S2.wpList_store_all (by rfl) 25 (.tmp 7) (.tmp 34) rfl rfl w4.heap.size rfl [.slice Aa L1.length ca, .slice Ab ys1.length cb] rfl 25 [.slice none 0 0, .slice none 0 0] (BK.new w4 _ _) rtSize rfl (ones rfl) ?_; intro w5 hM hP; have hb := hP.below (S2.below_new w4 _) (Nat.le_refl _); have G_w5 := Lib.hid hM; have U_w5 := Lib.hid (U_w4.out.step hb); have T_w5 := Lib.hid (T_w4.out.step hb); have Y_w5 := Lib.hid (Y_w4.out.step hb); have Z_w5 := Lib.hid (Z_w4.out.step hb); have B_w5 := Lib.hid (stepB B_w4.out hb); clear hM hP hb T_w4 Y_w4 Z_w4 B_w4 U_w4)
  obtain ⟨g7, hg7⟩ : ∃ g, g = w4.heap.size := ⟨_, rfl⟩
  rw [← hg7] at G_w5
  try rw [← hg7]
  clear hg7
  obtain ⟨TK, hTK⟩ : ∃ T : Nat → Bool, T = fun k => (xs0.take k).any fun x => decide (x.d = y.d) := ⟨_, rfl⟩
  have HTK0 : Hid (TK 0 = false) := Lib.hid (by rw [hTK]; rfl)
  have HTKS : Hid (∀ k x, xs0[k]? = some x → TK (k + 1) = (TK k || decide (x.d = y.d))) := Lib.hid (fun k x hx => by rw [hTK]; exact any_take hx)
  have HTKE : Hid (TK xs0.length = xs0.any fun x => decide (x.d = y.d)) := Lib.hid (by rw [hTK]; show (xs0.take xs0.length).any _ = _; rw [List.take_length])
  clear hTK
  have t1 := T_w5.out.cell 1 rfl
  go_wp2_with fail
  clear t1
  go_loopg [9, 39] xs0.length (fun g v9 v wr => ∃ (k : Nat), k + g = xs0.length ∧ v = .int .i64 k ∧ v9 = .bool (TK k) ∧ Below w5.heap.size w5 wr)
  case atStart => exact ⟨0, by omega, rfl, by rw [HTK0.out], Below.refl _ _⟩
  case round =>
    obtain ⟨k, hkg, rfl, rfl, hb0⟩ := hrel
    have HG := Lib.hid hkg
    have W_wr := Lib.hid hb0
    clear hb0
    cases gk with
    | succ n =>
      have hlt : k < xs0.length := by omega
      have e3 : decide ((k : Int) < (xs0.length : Int)) = true := decide_eq_true (by omega)
      obtain ⟨x, hx⟩ : ∃ x, xs0[k]? = some x := ⟨_, List.getElem?_eq_getElem hlt⟩
      have hbw := stepB B_w5.out W_wr.out
      have hsr := LI.step HR0.out.b hbw
      obtain ⟨b, o, hA, hbB, hcl, hpl⟩ := hsr.at_ hx
      have HLD := Lib.hid (load_bd hcl)
      have XI_wr : Hid (BIn wr x) := Lib.hid ⟨hpl, HFE.out x (List.mem_of_getElem? hx)⟩
      have YI_wr := Lib.hid (HYI.out.step hbw)
      have Y_wr := Lib.hid (Y_w5.out.step W_wr.out)
      have HTX := Lib.hid (HTKS.out k x hx)
      subst hA
      have j1 : (0 : Int) ≤ (k : Int) := by omega
      have j2 : (k : Int) < (xs0.length : Int) := by omega
      clear hx hkg hlt hbB hcl hpl hsr hbw
      obtain ⟨tb, htb⟩ : ∃ t, TK k = t := ⟨_, rfl⟩
      rw [htb] at HTX
      rw [htb]
      clear htb
      go_upto_region 8 with first
        | (refine wpList_load_v (by rfl) 35 (.tmp 41) rfl ⟨b, o + k * 5, none⟩ (by go_simp) _ HLD.out ?_)
        | (refine S2.wpList_store_all (by rfl) 35 (.tmp 11) (.tmp 42) rfl rfl wr.heap.size rfl (gB x) rfl 35 _ (BK.new wr _ _) bdSize rfl (gB_one _) ?_; intro w6 hM hP; have hb := hP.below (S2.below_new wr _) (Nat.le_refl _); have X_w6 := Lib.hid hM; have XI_w6 := Lib.hid (XI_wr.out.step hb); have YI_w6 := Lib.hid (YI_wr.out.step hb); have Y_w6 := Lib.hid (Y_wr.out.step hb); have W_w6 := Lib.hid (stepB W_wr.out hb); clear hM hP hb W_wr XI_wr YI_wr Y_wr)
      cases tb with
      | true =>
        go_wp2_with fail
        go_roundg n
        case measure => omega
        case rel => exact ⟨k + 1, by have := HG.out; omega, nxt k (by have := HNB.out; have := HG.out; omega), by rw [HTX.out]; rfl, W_w6.out⟩
      | false =>
        have HLX := Lib.hid (load_bd0 X_w6.out)
        have HLY := Lib.hid (load_bd0 Y_w6.out)
        have HSA := Lib.hid (rSame_any x y w6 XI_w6.out YI_w6.out)
        obtain ⟨sb, hsb⟩ : ∃ s, decide (x.d = y.d) = s := ⟨_, rfl⟩
        rw [hsb] at HSA HTX
        clear hsb
        go_wp2_with first
          | (refine wpList_load_v (by rfl) 35 (.tmp 11) rfl ⟨wr.heap.size, 0, none⟩ rfl _ HLX.out ?_)
          | (refine wpList_load_v (by rfl) 35 (.tmp 4) rfl ⟨w.heap.size + 1, 0, none⟩ rfl _ HLY.out ?_)
        refine HSA.out.mono ?_
        rintro e w7 ⟨rfl, hb⟩
        have W_w7 := Lib.hid (stepB W_w6.out hb)
        clear hb HLX HLY HSA W_w6 X_w6 XI_w6 YI_w6 Y_w6
        go_wp2_with fail
        go_roundg n
        case measure => omega
        case rel => exact ⟨k + 1, by have := HG.out; omega, nxt k (by have := HNB.out; have := HG.out; omega), by rw [HTX.out]; rfl, W_w7.out⟩
    | zero =>
    obtain rfl : k = xs0.length := by omega
    have e3 : decide ((xs0.length : Int) < (xs0.length : Int)) = false := decide_eq_false (by omega)
    obtain ⟨D, hD⟩ : ∃ D, TK xs0.length = D := ⟨_, rfl⟩
    rw [hD]
    have HD : Hid ((xs0.any fun x => decide (x.d = y.d)) = D) := Lib.hid (by rw [← HTKE.out]; exact hD)
    have B_w6 := Lib.hid (stepB B_w5.out W_wr.out)
    have T_w6 := Lib.hid (T_w5.out.step W_wr.out)
    have Y_w6 := Lib.hid (Y_w5.out.step W_wr.out)
    have Z_w6 := Lib.hid (Z_w5.out.step W_wr.out)
    have G_w6 := Lib.hid (G_w5.out.step W_wr.out)
    have U_w6 := Lib.hid (U_w5.out.step W_wr.out)
    clear hkg hD HTK0 HTKS HTKE W_wr T_w5 Y_w5 Z_w5 B_w5 G_w5 U_w5
    go_upto_if 51 with fail
    go_cut [12] from 12 to 88 (fun s wx => Below wr.heap.size wr wx)
    case first =>
      by_cases hE : E1 = 0
      case neg =>
        have q2 : (E1 == 0) = false := by simp [hE]
        clear hE
        try rw [q2]
        go_wp2_with fail
        go_meet
        exact Below.refl _ _
      case pos =>
        have q2 : (E1 == 0) = true := by rw [hE]; rfl
        try rw [q2]
        subst hE
        have hl1 : l0 = L1 := by rw [← HL1.out, if_pos rfl]
        subst hl1
        have HUN := Lib.hid (fun w1 h1 h2 hf hn hy => xUnbind_any Aa ca l0 Ab cb ys1 y w1 h1 h2 hf (by have := HNL.out; omega) hn hy)
        cases D with
        | true =>
          have hin := there_iff.1 HD.out
          have hbe := bind_in hin HE1.out
          have hm : ys1.map BE.d = xs0.map BE.d := by rw [HY1.out, hbe]
          have hf1 : Few ys1 := few_okB hm HOB.out
          have hn1 : ys1.length ≤ 256 := by have := congrArg List.length hm; rw [List.length_map, List.length_map] at this; have := HNB.out; omega
          have HUN2 := Lib.hid (fun w1 h1 h2 hy => HUN.out w1 h1 h2 hf1 (by omega) hy)
          have HSA := Lib.hid (fun w1 h1 h2 h3 h4 => HSR.out Aa ca Ab cb ys1 w1 h1 h2 h3 h4 hf1 hm (by omega))
          clear hin hbe hm hf1 hn1 HUN
          have HLG := Lib.hid (S2.run_load_all G_w6.out Tryz.underlying25 rfl rtSize)
          have HLY := Lib.hid (load_bd0 Y_w6.out)
          have HUB := Lib.hid (HUN2.out wr U_w6.out.e U_w6.out.b (HYI.out.step B_w6.out))
          unfold RetUn at HUB
          obtain ⟨L2, hL2⟩ : ∃ L, (if (unbR (ys1.map BE.d) y.d).2 = 0 then l0 else []) = L := ⟨_, rfl⟩
          rw [hL2] at HUB
          clear hL2
          generalize (unbR (ys1.map BE.d) y.d).2 = E2 at HUB
          unfold rtV at HUB
          go_wp2_with first
            | (refine wpList_load_v (by rfl) 25 (.tmp 7) rfl ⟨g7, 0, none⟩ rfl _ HLG.out ?_)
            | (refine wpList_load_v (by rfl) 35 (.tmp 4) rfl ⟨w.heap.size + 1, 0, none⟩ rfl _ HLY.out ?_)
          refine HUB.out.mono ?_
          rintro e w7 ⟨v1, v2, ys2, rfl, hys, hrt, hb⟩
          have HY2 := Lib.hid hys
          obtain ⟨Ac, cc, Ad, cd, hv1, hv2, _, _, l1, l2, _⟩ := hrt.ret
          subst hv1
          subst hv2
          have N_w7 : Hid (Rts w7 Ac L2 Ad ys2) := Lib.hid ⟨l1, l2⟩
          have W_w7 := Lib.hid hb
          have B_w7 := Lib.hid (stepB B_w6.out hb)
          have T_w7 := Lib.hid (T_w6.out.step hb)
          have G_w7 := Lib.hid (G_w6.out.step hb)
          have U_w7 := Lib.hid (U_w6.out.step hb)
          clear hys hrt hb l1 l2 HLG HLY HUB HUN2
          go_upto_region 12 with first
            | (refine S2.wpList_store_all (by rfl) 25 (.tmp 12) (.tmp 56) rfl rfl w7.heap.size rfl [.slice Ac (L2).length cc, .slice Ad ys2.length cd] rfl 25 [.slice none 0 0, .slice none 0 0] (BK.new w7 _ _) rtSize rfl (ones rfl) ?_; intro w8 hM hP; have hb := hP.below (S2.below_new w7 _) (Nat.le_refl _); have V_w8 := Lib.hid hM; have N_w8 := Lib.hid (N_w7.out.step hb); have U_w8 := Lib.hid (U_w7.out.step hb); have T_w8 := Lib.hid (T_w7.out.step hb); have G_w8 := Lib.hid (G_w7.out.step hb); have B_w8 := Lib.hid (stepB B_w7.out hb); have W_w8 := Lib.hid (stepB W_w7.out hb); clear hM hP hb N_w7 U_w7 T_w7 G_w7 B_w7 W_w7)
          obtain ⟨g12, hg12⟩ : ∃ g, g = w7.heap.size := ⟨_, rfl⟩
          rw [← hg12] at V_w8
          try rw [← hg12]
          clear hg12
          have HLG := Lib.hid (S2.run_load_all G_w8.out Tryz.underlying25 rfl rtSize)
          have HLT := Lib.hid (S2.run_load_all T_w8.out Tryz.underlying25 rfl rtSize)
          have HSB := Lib.hid (HSA.out w8 U_w8.out.e U_w8.out.b (GL.step HR0.out.e B_w8.out) (LI.step HR0.out.b B_w8.out))
          go_wp2_with first
            | (refine wpList_load_v (by rfl) 25 (.tmp 7) rfl ⟨g7, 0, none⟩ rfl _ HLG.out ?_)
            | (refine wpList_load_v (by rfl) 25 (.tmp 3) rfl ⟨w.heap.size, 0, none⟩ rfl _ HLT.out ?_)
          refine HSB.out.mono ?_
          rintro e w9 ⟨rfl, hb⟩
          have W_w9 := Lib.hid (stepB W_w8.out hb)
          clear hb HLG HLT HSB
          go_wp2_with fail
          go_meet
          exact W_w9.out
        | false =>
          have hni := there_no HD.out
          have hbe := bind_out hni HE1.out
          have hm : ys1.map BE.d = xs0.map BE.d ++ [y.d] := by rw [HY1.out, hbe]
          have hf1 : Few ys1 := few_okB hm (fun b hb => by rcases List.mem_append.1 hb with hb | hb; exact HOB.out b hb; rw [List.mem_singleton] at hb; exact hb ▸ HYZ.out)
          have hn1 : ys1.length = xs0.length + 1 := by have := congrArg List.length hm; rw [List.length_map, List.length_append, List.length_map] at this; exact this
          have HN1 := Lib.hid hn1
          have HUN2 := Lib.hid (fun w1 h1 h2 hy => (HUN.out w1 h1 h2 hf1 (by have := HNB.out; omega) hy).mono (fun e w' h => RetUn.undo hm hni h))
          clear hni hbe hm hf1 hn1 HUN
          have HLG := Lib.hid (S2.run_load_all G_w6.out Tryz.underlying25 rfl rtSize)
          have HLY := Lib.hid (load_bd0 Y_w6.out)
          have HUB := Lib.hid (HUN2.out wr U_w6.out.e U_w6.out.b (HYI.out.step B_w6.out))
          unfold rtV at HUB
          go_wp2_with first
            | (refine wpList_load_v (by rfl) 25 (.tmp 7) rfl ⟨g7, 0, none⟩ rfl _ HLG.out ?_)
            | (refine wpList_load_v (by rfl) 35 (.tmp 4) rfl ⟨w.heap.size + 1, 0, none⟩ rfl _ HLY.out ?_)
          refine HUB.out.mono ?_
          rintro e w7 ⟨v1, v2, ys2, rfl, hys, hrt, hb⟩
          have HY2 := Lib.hid hys
          obtain ⟨Ac, cc, Ad, cd, hv1, hv2, _, _, l1, l2, _⟩ := hrt.ret
          subst hv1
          subst hv2
          have N_w7 : Hid (Rts w7 Ac l0 Ad ys2) := Lib.hid ⟨l1, l2⟩
          have W_w7 := Lib.hid hb
          have B_w7 := Lib.hid (stepB B_w6.out hb)
          have T_w7 := Lib.hid (T_w6.out.step hb)
          have G_w7 := Lib.hid (G_w6.out.step hb)
          have U_w7 := Lib.hid (U_w6.out.step hb)
          clear hys hrt hb l1 l2 HLG HLY HUB HUN2
          go_upto_region 12 with first
            | (refine S2.wpList_store_all (by rfl) 25 (.tmp 12) (.tmp 56) rfl rfl w7.heap.size rfl [.slice Ac (l0).length cc, .slice Ad ys2.length cd] rfl 25 [.slice none 0 0, .slice none 0 0] (BK.new w7 _ _) rtSize rfl (ones rfl) ?_; intro w8 hM hP; have hb := hP.below (S2.below_new w7 _) (Nat.le_refl _); have V_w8 := Lib.hid hM; have N_w8 := Lib.hid (N_w7.out.step hb); have U_w8 := Lib.hid (U_w7.out.step hb); have T_w8 := Lib.hid (T_w7.out.step hb); have G_w8 := Lib.hid (G_w7.out.step hb); have B_w8 := Lib.hid (stepB B_w7.out hb); have W_w8 := Lib.hid (stepB W_w7.out hb); clear hM hP hb N_w7 U_w7 T_w7 G_w7 B_w7 W_w7)
          obtain ⟨g12, hg12⟩ : ∃ g, g = w7.heap.size := ⟨_, rfl⟩
          rw [← hg12] at V_w8
          try rw [← hg12]
          clear hg12
          have HLV := Lib.hid (S2.run_load_all V_w8.out Tryz.underlying25 rfl rtSize)
          have HLT := Lib.hid (S2.run_load_all T_w8.out Tryz.underlying25 rfl rtSize)
          have HSB := Lib.hid (HSR.out Ac cc Ad cd ys2 w8 N_w8.out.e N_w8.out.b (GL.step HR0.out.e B_w8.out) (LI.step HR0.out.b B_w8.out) (few_okB HY2.out HOB.out) HY2.out (by have := congrArg List.length HY2.out; rw [List.length_map, List.length_map] at this; have := HNB.out; omega))
          go_wp2_with first
            | (refine wpList_load_v (by rfl) 25 (.tmp 12) rfl ⟨g12, 0, none⟩ rfl _ HLV.out ?_)
            | (refine wpList_load_v (by rfl) 25 (.tmp 3) rfl ⟨w.heap.size, 0, none⟩ rfl _ HLT.out ?_)
          refine HSB.out.mono ?_
          rintro e w9 ⟨rfl, hb⟩
          have W_w9 := Lib.hid (stepB W_w8.out hb)
          have T_w9 := Lib.hid (T_w8.out.step hb)
          have G_w9 := Lib.hid (G_w8.out.step hb)
          clear hb HLV HLT HSB
          have t1 := T_w9.out.cell 1 rfl
          have g1 := G_w9.out.cell 1 rfl
          have q5 : ((ys1.length : Int) != (xs0.length : Int) + 1) = false := by rw [HN1.out]; simp
          have q6 : wrap64 ((xs0.length : Int) + 1) = (xs0.length : Int) + 1 := wrap64_id _ (by omega) (by have := HNB.out; omega)
          go_wp2_with fail
          go_meet
          exact W_w9.out
    case rest =>
      rename World => wx
      have W_wx := Lib.hid hcut
      have T_wx := Lib.hid (T_w6.out.step hcut)
      have Y_wx := Lib.hid (Y_w6.out.step hcut)
      have Z_wx := Lib.hid (Z_w6.out.step hcut)
      have B_wx := Lib.hid (stepB B_w6.out hcut)
      clear hcut W_wx T_w6 Y_w6 Z_w6 B_w6 G_w6 U_w6 HY1 HD HE1 HL1
      have t0 := T_wx.out.cell 0 rfl
      go_wp2_with fail
      clear t0
      go_loopg [92] l0.length (fun g v wr => ∃ (k : Nat), k + g = l0.length ∧ v = .int .i64 k ∧ Below wx.heap.size wx wr)
      case atStart => exact ⟨0, by omega, rfl, Below.refl _ _⟩
      case round =>
        obtain ⟨k, hkg, rfl, hb0⟩ := hrel
        have HG := Lib.hid hkg
        have W_wr := Lib.hid hb0
        have T_wr := Lib.hid (T_wx.out.step hb0)
        have B_wr := Lib.hid (stepB B_wx.out hb0)
        clear hb0
        cases gk with
        | succ n =>
          have hlt : k < l0.length := by omega
          have e3 : decide ((k : Int) < (l0.length : Int)) = true := decide_eq_true (by omega)
          obtain ⟨x, hx⟩ : ∃ x, l0[k]? = some x := ⟨_, List.getElem?_eq_getElem hlt⟩
          obtain ⟨b, o, hA, hbB, hcl⟩ := EL.at_ (GL.step HR0.out.e B_wr.out) hx
          have HLD := Lib.hid (load_ex hcl)
          have HDX : Hid (declR l0 x = (l0, 0)) := Lib.hid (decl_in HV.out (List.mem_of_getElem? hx))
          have HDC := Lib.hid (fun w1 h1 h2 => (HDE.out x w1 h1 h2).mono (fun e w' h => RetDe.same HDX.out h))
          subst hA
          have j1 : (0 : Int) ≤ (k : Int) := by omega
          have j2 : (k : Int) < (l0.length : Int) := by omega
          clear hx hkg hlt hbB hcl
          go_upto_region 17 with first
            | (refine wpList_load_v (by rfl) 32 (.tmp 94) rfl ⟨b, o + k * 3, none⟩ (by go_simp) _ HLD.out ?_)
            | (refine S2.wpList_store_all (by rfl) 32 (.tmp 15) (.tmp 95) rfl rfl wr.heap.size rfl (gE x) rfl 32 _ (BK.new wr _ _) exSize rfl (gE_one _) ?_; intro w7 hM hP; have hb := hP.below (S2.below_new wr _) (Nat.le_refl _); have X_w7 := Lib.hid hM; have T_w7 := Lib.hid (T_wr.out.step hb); have B_w7 := Lib.hid (stepB B_wr.out hb); have W_w7 := Lib.hid (stepB W_wr.out hb); clear hM hP hb T_wr B_wr W_wr HLD)
          obtain ⟨g15, hg15⟩ : ∃ g, g = wr.heap.size := ⟨_, rfl⟩
          rw [← hg15] at X_w7
          try rw [← hg15]
          clear hg15
          have HLX := Lib.hid (load_ex0 X_w7.out)
          have HLT := Lib.hid (S2.run_load_all T_w7.out Tryz.underlying25 rfl rtSize)
          go_wp2_with first
            | (refine wpList_load_v (by rfl) 25 (.tmp 3) rfl ⟨w.heap.size, 0, none⟩ rfl _ HLT.out ?_)
            | (refine wpList_load_v (by rfl) 32 (.tmp 15) rfl ⟨g15, 0, none⟩ rfl _ HLX.out ?_)
          refine (HDC.out w7 (GL.step HR0.out.e B_w7.out) (LI.step HR0.out.b B_w7.out)).mono ?_
          rintro e w8 ⟨v1, v2, ys3, rfl, hys, hrt, hb⟩
          have HY3 := Lib.hid hys
          obtain ⟨Ac, cc, Ad, cd, hv1, hv2, _, _, l1, l2, _⟩ := hrt.ret
          subst hv1
          subst hv2
          have N_w8 : Hid (Rts w8 Ac l0 Ad ys3) := Lib.hid ⟨l1, l2⟩
          have T_w8 := Lib.hid (T_w7.out.step hb)
          have B_w8 := Lib.hid (stepB B_w7.out hb)
          have W_w8 := Lib.hid (stepB W_w7.out hb)
          clear hys hrt hb l1 l2 HLX HLT HDC HDX X_w7 T_w7 B_w7 W_w7
          go_upto_region 18 with first
            | (refine S2.wpList_store_all (by rfl) 25 (.tmp 16) (.tmp 100) rfl rfl w8.heap.size rfl [.slice Ac l0.length cc, .slice Ad ys3.length cd] rfl 25 [.slice none 0 0, .slice none 0 0] (BK.new w8 _ _) rtSize rfl (ones rfl) ?_; intro w9 hM hP; have hb := hP.below (S2.below_new w8 _) (Nat.le_refl _); have V_w9 := Lib.hid hM; have N_w9 := Lib.hid (N_w8.out.step hb); have T_w9 := Lib.hid (T_w8.out.step hb); have B_w9 := Lib.hid (stepB B_w8.out hb); have W_w9 := Lib.hid (stepB W_w8.out hb); clear hM hP hb N_w8 T_w8 B_w8 W_w8)
          obtain ⟨g16, hg16⟩ : ∃ g, g = w8.heap.size := ⟨_, rfl⟩
          rw [← hg16] at V_w9
          try rw [← hg16]
          clear hg16
          have HLV := Lib.hid (S2.run_load_all V_w9.out Tryz.underlying25 rfl rtSize)
          have HLT := Lib.hid (S2.run_load_all T_w9.out Tryz.underlying25 rfl rtSize)
          have HSB := Lib.hid (HSR.out Ac cc Ad cd ys3 w9 N_w9.out.e N_w9.out.b (GL.step HR0.out.e B_w9.out) (LI.step HR0.out.b B_w9.out) (few_okB HY3.out HOB.out) HY3.out (by have := congrArg List.length HY3.out; rw [List.length_map, List.length_map] at this; have := HNB.out; omega))
          go_wp2_with first
            | (refine wpList_load_v (by rfl) 25 (.tmp 16) rfl ⟨g16, 0, none⟩ rfl _ HLV.out ?_)
            | (refine wpList_load_v (by rfl) 25 (.tmp 3) rfl ⟨w.heap.size, 0, none⟩ rfl _ HLT.out ?_)
          refine HSB.out.mono ?_
          rintro e wa ⟨rfl, hb⟩
          have W_wa := Lib.hid (stepB W_w9.out hb)
          clear hb HLV HLT HSB
          go_wp2_with fail
          go_roundg n
          case measure => omega
          case rel => exact ⟨k + 1, by have := HG.out; omega, nxt k (by have := HNL.out; have := HG.out; omega), W_wa.out⟩
        | zero =>
        obtain rfl : k = l0.length := by omega
        have e3 : decide ((l0.length : Int) < (l0.length : Int)) = false := decide_eq_false (by omega)
        have Y_wr := Lib.hid (Y_wx.out.step W_wr.out)
        have Z_wr := Lib.hid (Z_wx.out.step W_wr.out)
        have y1 := Y_wr.out.cell 1 rfl
        have HLT := Lib.hid (S2.run_load_all T_wr.out Tryz.underlying25 rfl rtSize)
        clear hkg W_wr T_wx Y_wx Z_wx B_wx HDE HSR
        go_wp2_with (refine wpList_load_v (by rfl) 25 (.tmp 3) rfl ⟨w.heap.size, 0, none⟩ rfl _ HLT.out ?_)
        refine (HDR.out wr (GL.step HR0.out.e B_wr.out) (LI.step HR0.out.b B_wr.out)).mono ?_
        rintro e w7 ⟨v1, v2, zs, rfl, hys, hrt, hb⟩
        have HZS := Lib.hid hys
        obtain ⟨Ac, cc, Ad, cd, hv1, hv2, _, hcd, l1, l2, _⟩ := hrt.ret
        subst hv1
        subst hv2
        have HCD := Lib.hid hcd
        have N_w7 : Hid (Rts w7 Ac l0 Ad zs) := Lib.hid ⟨l1, l2⟩
        have Y_w7 := Lib.hid (Y_wr.out.step hb)
        have Z_w7 := Lib.hid (Z_wr.out.step hb)
        have B_w7 := Lib.hid (stepB B_wr.out hb)
        clear hys hrt hb l1 l2 hcd HLT y1 T_wr Y_wr Z_wr B_wr HDR
        go_upto_region 22 with first
          | (refine S2.wpList_store_all (by rfl) 25 (.tmp 18) (.tmp 114) rfl rfl w7.heap.size rfl [.slice Ac l0.length cc, .slice Ad zs.length cd] rfl 25 [.slice none 0 0, .slice none 0 0] (BK.new w7 _ _) rtSize rfl (ones rfl) ?_; intro w8 hM hP; have hb := hP.below (S2.below_new w7 _) (Nat.le_refl _); have V_w8 := Lib.hid hM; have N_w8 := Lib.hid (N_w7.out.step hb); have Y_w8 := Lib.hid (Y_w7.out.step hb); have Z_w8 := Lib.hid (Z_w7.out.step hb); have B_w8 := Lib.hid (stepB B_w7.out hb); clear hM hP hb N_w7 Y_w7 Z_w7 B_w7)
        obtain ⟨g18, hg18⟩ : ∃ g, g = w7.heap.size := ⟨_, rfl⟩
        rw [← hg18] at V_w8
        try rw [← hg18]
        clear hg18
        have hzl : zs.length ≤ 256 := by have h1 := congrArg List.length HZS.out; rw [List.length_map] at h1; have h2 := dropR_le (xs0.map BE.d) y.d.qu; rw [List.length_map] at h2; have := HNB.out; omega
        have HZO : Hid (∀ b ∈ dropR (xs0.map BE.d) y.d.qu, OkB b) := Lib.hid (fun b hb => HOB.out b (drop_mem hb))
        have HFZ : Hid (Few zs) := Lib.hid (few_okB HZS.out HZO.out)
        have hck0 : ckR l0 (zs.map BE.d) = 0 := by rw [HZS.out]; exact vr_iff.2 (vr_drop HV.out _)
        have HCK := Lib.hid (fun w1 h1 h2 => xCheck_any Ac cc l0 Ad cd zs w1 h1 h2 HCD.out HFZ.out)
        rw [hck0] at HCK
        have hql : (routeR l0 (zs.map BE.d) to0 to1 []).1.length ≤ 1000 := route_len (by rw [List.length_map]; omega)
        have hqo : to0 ≠ ⟨#[]⟩ → (routeR l0 (zs.map BE.d) to0 to1 []).1.any (fun a => decide (a = y.d.qu)) = false := fun h => by rw [HZS.out]; exact route_off h
        have hro := Route2_any Ac cc l0 Ad cd zs to0 to1 [] none 0 w8 N_w8.out.e HV.out.asc HV.out.kinds (by have := HNL.out; omega) N_w8.out.b (by omega) (PL.none _ _) (HO.out.step B_w8.out) (Nat.zero_le _) HFZ.out
        obtain ⟨Q, hQ⟩ : ∃ Q, routeR l0 (zs.map BE.d) to0 to1 [] = Q := ⟨_, rfl⟩
        rw [hQ] at hql hqo hro
        obtain ⟨Q1, Q2⟩ := Q
        have HRO : Hid (Calls Tryz.prog 19 #[.agg #[.slice Ac l0.length cc, .slice Ad zs.length cd], .string to0, .string to1, .slice none 0 0] w8 (RetRu (Q1, Q2) w8)) := Lib.hid hro
        have HQL : Hid (Q1.length ≤ 1000) := Lib.hid hql
        have HQO : Hid (to0 ≠ ⟨#[]⟩ → Q1.any (fun a => decide (a = y.d.qu)) = false) := Lib.hid hqo
        unfold rtV at HCK
        clear hQ hql hqo hro hzl hck0 HZO
        have z0 := Z_w8.out.cell 0 rfl
        have z1 := Z_w8.out.cell 1 rfl
        have HLV := Lib.hid (S2.run_load_all V_w8.out Tryz.underlying25 rfl rtSize)
        go_wp2_with (refine wpList_load_v (by rfl) 25 (.tmp 18) rfl ⟨g18, 0, none⟩ rfl _ HLV.out ?_)
        refine HRO.out.mono ?_
        rintro e w9 ⟨v, rfl, hq, hb⟩
        obtain ⟨Aq, cq, hvq, hcq, hgl⟩ := OwnG.ret gT_len hq
        subst hvq
        have HHT := Lib.hid (hasT_any Aq cq w9.heap.size Q1 y.d.qu w9 hgl (by have := HQL.out; omega))
        have V_w9 := Lib.hid (V_w8.out.step hb)
        have N_w9 := Lib.hid (N_w8.out.step hb)
        have Y_w9 := Lib.hid (Y_w8.out.step hb)
        have Z_w9 := Lib.hid (Z_w8.out.step hb)
        have B_w9 := Lib.hid (stepB B_w8.out hb)
        clear hq hb hcq hgl z0 z1 HLV HRO V_w8 N_w8 Y_w8 Z_w8 B_w8
        by_cases h0 : Q2 = 0
        case neg =>
          have k0 : (Q2 == 0) = false := by simp [h0]
          clear h0
          go_upto_region 25 with fail
          have HLV := Lib.hid (S2.run_load_all V_w9.out Tryz.underlying25 rfl rtSize)
          have HCQ := Lib.hid (HCK.out w9 N_w9.out.e N_w9.out.b)
          go_wp2_with (refine wpList_load_v (by rfl) 25 (.tmp 18) rfl ⟨g18, 0, none⟩ rfl _ HLV.out ?_)
          refine HCQ.out.mono ?_
          rintro e wy ⟨rfl, hb⟩
          have B_wy := Lib.hid (stepB B_w9.out hb)
          clear hb HLV HCQ
          go_wp2_with fail
          refine (HX.out wy (HO.out.step B_wy.out)).mono ?_
          rintro e wz ⟨rfl, hb⟩
          have B_wz := Lib.hid (stepB B_wy.out hb)
          clear hb
          go_wp2_with fail
          go_ret
          exact ⟨rfl, B_wz.out⟩
        case pos =>
        subst h0
        have z0 := Z_w9.out.cell 0 rfl
        obtain ⟨be, hbe⟩ : ∃ b, decide (to0 = ⟨#[]⟩) = b := ⟨_, rfl⟩
        have q1 := nm_beq to0
        have q2 := nm_emp to0
        rw [hbe] at q1 q2
        have HBE := Lib.hid hbe
        clear hbe
        cases be with
        | true =>
          go_upto_region 25 with fail
          clear z0
          have HLV := Lib.hid (S2.run_load_all V_w9.out Tryz.underlying25 rfl rtSize)
          have HCQ := Lib.hid (HCK.out w9 N_w9.out.e N_w9.out.b)
          go_wp2_with (refine wpList_load_v (by rfl) 25 (.tmp 18) rfl ⟨g18, 0, none⟩ rfl _ HLV.out ?_)
          refine HCQ.out.mono ?_
          rintro e wy ⟨rfl, hb⟩
          have B_wy := Lib.hid (stepB B_w9.out hb)
          clear hb HLV HCQ
          go_wp2_with fail
          refine (HX.out wy (HO.out.step B_wy.out)).mono ?_
          rintro e wz ⟨rfl, hb⟩
          have B_wz := Lib.hid (stepB B_wy.out hb)
          clear hb
          go_wp2_with fail
          go_ret
          exact ⟨rfl, B_wz.out⟩
        | false =>
          have HNA := Lib.hid (HQO.out (of_decide_eq_false HBE.out))
          have y1 := Y_w9.out.cell 1 rfl
          rw [HNA.out] at HHT
          go_wp2_with fail
          refine HHT.out.mono ?_
          rintro e wq ⟨rfl, hw⟩
          have hw := hw.symm
          subst hw
          clear z0 y1 HHT
          have HLV := Lib.hid (S2.run_load_all V_w9.out Tryz.underlying25 rfl rtSize)
          have HCQ := Lib.hid (HCK.out w9 N_w9.out.e N_w9.out.b)
          go_wp2_with (refine wpList_load_v (by rfl) 25 (.tmp 18) rfl ⟨g18, 0, none⟩ rfl _ HLV.out ?_)
          refine HCQ.out.mono ?_
          rintro e wy ⟨rfl, hb⟩
          have B_wy := Lib.hid (stepB B_w9.out hb)
          clear hb HLV HCQ
          go_wp2_with fail
          refine (HX.out wy (HO.out.step B_wy.out)).mono ?_
          rintro e wz ⟨rfl, hb⟩
          have B_wz := Lib.hid (stepB B_wy.out hb)
          clear hb
          go_wp2_with fail
          go_ret
          exact ⟨rfl, B_wz.out⟩
end Go.Proofs.YtjkhfifnfgchgabGreatDoor
