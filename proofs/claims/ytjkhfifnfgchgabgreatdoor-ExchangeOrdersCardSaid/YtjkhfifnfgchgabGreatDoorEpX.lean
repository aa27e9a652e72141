/-
  The examples of the chapter hold: what exampleHolds answers. Conditions: the library's bound on short texts holds a number.
-/
import Derived.Test.YtjkhfifnfgchgabGreatDoorEpW
namespace Go.Proofs.YtjkhfifnfgchgabGreatDoor
open Go.RowKit
open S2 (BK Put get_ops)

theorem stepRo2 {l : List Ex} {bs : List Bd} {ex key : ByteArray} {xs : List ByteArray} {r : Int} (hq : routeR l bs ex key [] = (xs, r)) (ha : AscE l) (hk : ∀ x ∈ l, KO x.kd) (hl : l.length ≤ 1000) (hb : bs.length ≤ 1000) {B : Nat} {w : World} {v1 v2 : Value} {ys : List BE} (hys : ys.map BE.d = bs) (h : RtN B w v1 l v2 ys) :
    Calls Tryz.prog 19 #[.agg #[v1, v2], .string ex, .string key, .slice none 0 0] w fun e w' => ∃ A c, e = .returned (.tuple #[.slice A xs.length c, .int .i64 r]) ∧ TL w' w'.heap.size A xs ∧ Below w.heap.size w w' := by
  refine (stepRo hq ha hk hl hb hys h).mono ?_
  rintro e w' ⟨v, rfl, ho, hbl⟩
  obtain ⟨A, c, rfl, _, hg⟩ := OwnG.ret gT_len ho
  exact ⟨A, c, rfl, hg, hbl⟩
theorem stepMt {p k : ByteArray} {b : Bool} (h : mtR p k = b) {w : World} (hw : S1.Okw w) : Calls Tryz.prog 33 #[.string p, .string k] w fun e w' => e = .returned (.bool b) ∧ Below w.heap.size w w' := by subst h; exact xMatches_any p k w hw
theorem stepCk2 {l : List Ex} {bs : List Bd} {k : Int} (hk : ckR l bs = k) (hm : ∀ b ∈ bs, b.ml = []) {B : Nat} {w : World} {v1 v2 : Value} {ys : List BE} (hys : ys.map BE.d = bs) (h : RtN B w v1 l v2 ys) :
    Calls Tryz.prog 28 #[.agg #[v1, v2]] w fun e w' => e = .returned (.int .i64 k) ∧ Below w.heap.size w w' := by subst hk; exact stepCk hm hys h
theorem mlBs : ∀ b ∈ exBs, b.ml = [] := fun b h => by
  unfold exBs at h
  simp at h
  rcases h with rfl | rfl | rfl <;> rfl
theorem ko2 : ∀ x ∈ exL2, KO x.kd := fun x h => by
  unfold exL2 at h
  simp at h
  rcases h with rfl | rfl
  · exact Or.inl rfl
  · exact Or.inr rfl

set_option maxRecDepth 20000 in
set_option maxHeartbeats 8000000 in
theorem exHolds_any (w : World) (ho : S1.Okw w) : Calls Tryz.prog 9 #[] w fun e w' => e = .returned (.bool true) ∧ Below w.heap.size w w' := by
  have HO := Lib.hid ho
  clear ho
  go_enter Tryz.func9, Tryz.ntmps9
  go_wp2_with fail
  refine (example_any _).mono ?_
  rintro e w1 ⟨v1, v2, ys, rfl, hy, hr, hb⟩
  have B_w1 := Lib.hid hb
  have R_w1 := Lib.hid hr
  have HY := Lib.hid hy
  have O_w1 := Lib.hid (HO.out.step hb)
  have HOC := Lib.hid (rtn_ones hr)
  clear hb hr hy HO
  go_upto_region 2 with (refine S2.wpList_store_all (by rfl) 25 (.tmp 1) (.tmp 15) rfl rfl w1.heap.size rfl [v1, v2] rfl 25 [.slice none 0 0, .slice none 0 0] (BK.new w1 _ _) rtSize rfl HOC.out ?_; intro w2 hM hP; have hb := hP.below (S2.below_new w1 _) (Nat.le_refl _); have T_w2 := Lib.hid hM; have B_w2 := Lib.hid (stepB B_w1.out hb); have R_w2 := Lib.hid (RtN.step R_w1.out hb); have O_w2 := Lib.hid (O_w1.out.step hb); clear hM hP hb)
  obtain ⟨g, hg⟩ : ∃ g, g = w1.heap.size := ⟨_, rfl⟩
  rw [← hg] at T_w2
  try rw [← hg]
  clear hg B_w1 R_w1 O_w1 HOC
  have HL := Lib.hid (S2.run_load_all T_w2.out Tryz.underlying25 rfl rtSize)
  go_wp2_with (refine wpList_load_v (by rfl) 25 (.tmp 1) rfl ⟨g, 0, none⟩ (by go_simp) (.agg #[v1, v2]) HL.out ?_)
  refine (stepCk2 ck1 mlBs HY.out R_w2.out).mono ?_
  rintro e w3 ⟨rfl, hb⟩
  have T_w3 := Lib.hid (T_w2.out.step hb)
  have B_w3 := Lib.hid (stepB B_w2.out hb)
  have R_w3 := Lib.hid (RtN.step R_w2.out hb)
  have O_w3 := Lib.hid (O_w2.out.step hb)
  clear hb T_w2 B_w2 R_w2 O_w2 
  clear HL
  go_wp2_with fail
  refine (stepMt mt1 O_w3.out).mono ?_
  rintro e w4 ⟨rfl, hb⟩
  have T_w4 := Lib.hid (T_w3.out.step hb)
  have B_w4 := Lib.hid (stepB B_w3.out hb)
  have R_w4 := Lib.hid (RtN.step R_w3.out hb)
  have O_w4 := Lib.hid (O_w3.out.step hb)
  clear hb T_w3 B_w3 R_w3 O_w3 
  go_wp2_with fail
  refine (stepMt mt2 O_w4.out).mono ?_
  rintro e w5 ⟨rfl, hb⟩
  have T_w5 := Lib.hid (T_w4.out.step hb)
  have B_w5 := Lib.hid (stepB B_w4.out hb)
  have R_w5 := Lib.hid (RtN.step R_w4.out hb)
  have O_w5 := Lib.hid (O_w4.out.step hb)
  clear hb T_w4 B_w4 R_w4 O_w4 
  go_wp2_with fail
  refine (stepMt mt3 O_w5.out).mono ?_
  rintro e w6 ⟨rfl, hb⟩
  have T_w6 := Lib.hid (T_w5.out.step hb)
  have B_w6 := Lib.hid (stepB B_w5.out hb)
  have R_w6 := Lib.hid (RtN.step R_w5.out hb)
  have O_w6 := Lib.hid (O_w5.out.step hb)
  clear hb T_w5 B_w5 R_w5 O_w5 
  go_wp2_with fail
  refine (stepMt mt4 O_w6.out).mono ?_
  rintro e w7 ⟨rfl, hb⟩
  have T_w7 := Lib.hid (T_w6.out.step hb)
  have B_w7 := Lib.hid (stepB B_w6.out hb)
  have R_w7 := Lib.hid (RtN.step R_w6.out hb)
  have O_w7 := Lib.hid (O_w6.out.step hb)
  clear hb T_w6 B_w6 R_w6 O_w6 
  have HL := Lib.hid (S2.run_load_all T_w7.out Tryz.underlying25 rfl rtSize)
  go_wp2_with (refine wpList_load_v (by rfl) 25 (.tmp 1) rfl ⟨g, 0, none⟩ (by go_simp) (.agg #[v1, v2]) HL.out ?_)
  refine (stepRo2 ro1 asc2 ko2 (by decide) (by decide) HY.out R_w7.out).mono ?_
  rintro e w8 ⟨A1, c1, rfl, hl, hb⟩
  have T_w8 := Lib.hid (T_w7.out.step hb)
  have B_w8 := Lib.hid (stepB B_w7.out hb)
  have R_w8 := Lib.hid (RtN.step R_w7.out hb)
  have O_w8 := Lib.hid (O_w7.out.step hb)
  have L1_w8 := Lib.hid hl
  clear hl HL
  clear hb T_w7 B_w7 R_w7 O_w7 
  have HL := Lib.hid (S2.run_load_all T_w8.out Tryz.underlying25 rfl rtSize)
  go_wp2_with (refine wpList_load_v (by rfl) 25 (.tmp 1) rfl ⟨g, 0, none⟩ (by go_simp) (.agg #[v1, v2]) HL.out ?_)
  refine (stepRo2 ro2 asc2 ko2 (by decide) (by decide) HY.out R_w8.out).mono ?_
  rintro e w9 ⟨A2, c2, rfl, hl, hb⟩
  have T_w9 := Lib.hid (T_w8.out.step hb)
  have B_w9 := Lib.hid (stepB B_w8.out hb)
  have R_w9 := Lib.hid (RtN.step R_w8.out hb)
  have O_w9 := Lib.hid (O_w8.out.step hb)
  have L1_w9 := Lib.hid (GL.step L1_w8.out hb)
  have L2_w9 := Lib.hid hl
  clear hl HL
  clear hb T_w8 B_w8 R_w8 O_w8 L1_w8
  have HL := Lib.hid (S2.run_load_all T_w9.out Tryz.underlying25 rfl rtSize)
  go_wp2_with (refine wpList_load_v (by rfl) 25 (.tmp 1) rfl ⟨g, 0, none⟩ (by go_simp) (.agg #[v1, v2]) HL.out ?_)
  refine (stepRo2 ro3 asc2 ko2 (by decide) (by decide) HY.out R_w9.out).mono ?_
  rintro e w10 ⟨A3, c3, rfl, hl, hb⟩
  have T_w10 := Lib.hid (T_w9.out.step hb)
  have B_w10 := Lib.hid (stepB B_w9.out hb)
  have R_w10 := Lib.hid (RtN.step R_w9.out hb)
  have O_w10 := Lib.hid (O_w9.out.step hb)
  have L1_w10 := Lib.hid (GL.step L1_w9.out hb)
  have L2_w10 := Lib.hid (GL.step L2_w9.out hb)
  have L3_w10 := Lib.hid hl
  clear hl HL
  clear hb T_w9 B_w9 R_w9 O_w9 L1_w9 L2_w9
  have HL := Lib.hid (S2.run_load_all T_w10.out Tryz.underlying25 rfl rtSize)
  go_wp2_with (refine wpList_load_v (by rfl) 25 (.tmp 1) rfl ⟨g, 0, none⟩ (by go_simp) (.agg #[v1, v2]) HL.out ?_)
  refine (stepRo2 ro4 asc2 ko2 (by decide) (by decide) HY.out R_w10.out).mono ?_
  rintro e w11 ⟨A4, c4, rfl, hl, hb⟩
  have T_w11 := Lib.hid (T_w10.out.step hb)
  have B_w11 := Lib.hid (stepB B_w10.out hb)
  have R_w11 := Lib.hid (RtN.step R_w10.out hb)
  have O_w11 := Lib.hid (O_w10.out.step hb)
  have L1_w11 := Lib.hid (GL.step L1_w10.out hb)
  have L2_w11 := Lib.hid (GL.step L2_w10.out hb)
  have L3_w11 := Lib.hid (GL.step L3_w10.out hb)
  have L4_w11 := Lib.hid hl
  clear hl HL
  clear hb T_w10 B_w10 R_w10 O_w10 L1_w10 L2_w10 L3_w10
  have HL := Lib.hid (S2.run_load_all T_w11.out Tryz.underlying25 rfl rtSize)
  go_wp2_with (refine wpList_load_v (by rfl) 25 (.tmp 1) rfl ⟨g, 0, none⟩ (by go_simp) (.agg #[v1, v2]) HL.out ?_)
  refine (stepBi bi4 asc2 (by decide) (by decide) mlBs rfl HY.out R_w11.out).mono ?_
  rintro e w12 ⟨u1, u2, zs, rfl, hz, hr, hb⟩
  have T_w12 := Lib.hid (T_w11.out.step hb)
  have B_w12 := Lib.hid (stepB B_w11.out hb)
  have R_w12 := Lib.hid (RtN.step R_w11.out hb)
  have O_w12 := Lib.hid (O_w11.out.step hb)
  have L1_w12 := Lib.hid (GL.step L1_w11.out hb)
  have L2_w12 := Lib.hid (GL.step L2_w11.out hb)
  have L3_w12 := Lib.hid (GL.step L3_w11.out hb)
  have L4_w12 := Lib.hid (GL.step L4_w11.out hb)
  have HOC := Lib.hid (rtn_ones hr)
  clear hr hz HL
  clear hb T_w11 B_w11 R_w11 O_w11 L1_w11 L2_w11 L3_w11 L4_w11
  go_upto_region 9 with (refine S2.wpList_store_all (by rfl) 25 (.tmp 11) (.tmp 62) rfl rfl w12.heap.size rfl [u1, u2] rfl 25 [.slice none 0 0, .slice none 0 0] (BK.new w12 _ _) rtSize rfl HOC.out ?_; intro w13 hM hP; have hb := hP.below (S2.below_new w12 _) (Nat.le_refl _); have B_w13 := Lib.hid (stepB B_w12.out hb); have L1_w13 := Lib.hid (GL.step L1_w12.out hb); have L2_w13 := Lib.hid (GL.step L2_w12.out hb); have L3_w13 := Lib.hid (GL.step L3_w12.out hb); clear hM hP hb)
  clear HOC B_w12 T_w12 R_w12 O_w12 HY L1_w12 L2_w12 L3_w12 L4_w12
  go_wp2_with fail
  refine (eqT_same (A1 := A1) (xs := [⟨#[113, 49]⟩]) (GL.step L1_w13.out (S2.below_new w13 _)) (bk_tl (BK.new w13 9 (([⟨#[113, 49]⟩] : List ByteArray).map Value.string))) (by decide) (by decide)).mono ?_
  rintro e w14 ⟨rfl, hb1⟩
  have hb := stepB (S2.below_new w13 _) hb1
  have B_w14 := Lib.hid (stepB B_w13.out hb)
  have L2_w14 := Lib.hid (GL.step L2_w13.out hb)
  have L3_w14 := Lib.hid (GL.step L3_w13.out hb)
  clear hb hb1 B_w13 L1_w13 L2_w13 L3_w13
  go_wp2_with fail
  refine (eqT_same (A1 := A2) (xs := [⟨#[113, 49]⟩, ⟨#[113, 50]⟩]) (GL.step L2_w14.out (S2.below_new w14 _)) (bk_tl (BK.new w14 9 (([⟨#[113, 49]⟩, ⟨#[113, 50]⟩] : List ByteArray).map Value.string))) (by decide) (by decide)).mono ?_
  rintro e w15 ⟨rfl, hb1⟩
  have hb := stepB (S2.below_new w14 _) hb1
  have B_w15 := Lib.hid (stepB B_w14.out hb)
  have L3_w15 := Lib.hid (GL.step L3_w14.out hb)
  clear hb hb1 B_w14 L2_w14 L3_w14
  go_wp2_with fail
  refine (eqT_same (A1 := A3) (xs := [⟨#[113]⟩]) (GL.step L3_w15.out (S2.below_new w15 _)) (bk_tl (BK.new w15 9 (([⟨#[113]⟩] : List ByteArray).map Value.string))) (by decide) (by decide)).mono ?_
  rintro e w16 ⟨rfl, hb1⟩
  have hb := stepB (S2.below_new w15 _) hb1
  have B_w16 := Lib.hid (stepB B_w15.out hb)
  clear hb hb1 B_w15 L3_w15
  go_wp2_with fail
  go_ret
  exact ⟨rfl, B_w16.out⟩
end Go.Proofs.YtjkhfifnfgchgabGreatDoor
