/-
wire's DecodeAll: the packets of a joint form, or the first error. Conditions: the bytes read as data; at most a million of them.
-/
import Derived.Test.YtdkegoaflabjoaaGreatDoorWb0
set_option maxHeartbeats 8000000
set_option maxRecDepth 20000
namespace Go.Proofs.YtdkegoaflabjoaaGreatDoor
open Go.RowKit

theorem decodeAll_any (A : Option Addr) (c : Nat) (l : List UInt8) (w : World) (hw : S1.Okw w) (hsl : CL bv w w.heap.size A l) (hc : l.length ≤ c) (hn : l.length ≤ 1000000) :
 Calls Tryz.prog 11 #[.slice A l.length c] w (RetK (decAllR l) w) := by
 have HO := Lib.hid hw
 have HSL := Lib.hid hsl
 have HCC := Lib.hid hc
 have HN := Lib.hid hn
 obtain ⟨R, hR⟩ : ∃ R, R = decAllR l := ⟨_, rfl⟩
 rw [← hR]
 have HRR := Lib.hid hR
 clear hw hsl hc hn hR
 go_enter Tryz.func11, Tryz.ntmps11
 go_wp2_with fail
 go_loopg [4, 5] l.length (fun g v i wr => ∃ (k f : Nat) (xs : List (Pkt × PA)), k + g = l.length ∧ i = .int .i64 k ∧ l.length < f + k ∧ R = decAllF f l k (xs.map Prod.fst) ∧ xs.length ≤ k ∧ KOwn wr w.heap.size v xs ∧ Below w.heap.size w wr)
 case atStart => exact ⟨0, l.length + 1, [], by omega, rfl, by omega, HRR.out, Nat.le_refl _, KOwn.nil _ _, Below.refl _ _⟩
 case round =>
  obtain ⟨k, f, xs, hkg, rfl, hf, hd, hxs, hown, hb⟩ := hrel
  have HF := Lib.hid hf
  have HD := Lib.hid hd
  have HXS := Lib.hid hxs
  have HK := Lib.hid hown
  have HB := Lib.hid hb
  have HG := Lib.hid hkg
  clear hf hd hxs hown hb HRR
  cases gk with
  | zero =>
    have HE : Hid (R = (xs.map Prod.fst, 0)) := Lib.hid (by rw [HD.out, decAllF_end (by omega)])
    obtain ⟨A1, c1, rfl, hc1, hk1⟩ := HK.out.ret
    have HC1 := Lib.hid hc1
    have HK1 := Lib.hid hk1
    have hlt : ¬ k < l.length := by omega
    clear hc1 hk1 HK hkg HD
    go_wp2_with fail
    go_ret2
    rw [HE.out]
    exact ⟨A1, c1, xs, rfl, rfl, HK1.out, HC1.out, HB.out⟩
  | succ g =>
    have hlt : k < l.length := by omega
    have HT := Lib.hid (text_any A c l k 4096 (by omega) (by have := HN.out; omega) wr w.heap.size (HSL.out.below HB.out) HCC.out (by have := HN.out; omega))
    have hok := fun s nx => @textR_ok l k 4096 nx s
    have HE1 := Lib.hid (fun s nx ec h he => @decAllF_err l f k (xs.map Prod.fst) s nx ec hlt HF.out h he)
    have HE2 := Lib.hid (fun s nx y z h hd hz => @decAllF_bad l f k (xs.map Prod.fst) s nx y z hlt HF.out h hd hz)
    have HE3 := Lib.hid (fun n s y h hd => @decAllF_more l f k n (xs.map Prod.fst) s y hlt HF.out h hd)
    generalize hr : textR l k 4096 = r at HT hok HE1 HE2 HE3
    obtain ⟨s, nx, ec⟩ := r
    unfold triS at HT
    dsimp only at HT
    by_cases he : ec = 0
    · subst he
      obtain ⟨k', j, e1, e2, h1, h2, hs4, _⟩ := hok s nx rfl
      obtain rfl : k' = k := by omega
      subst e2
      have HJ1 := Lib.hid h1
      have HJ2 := Lib.hid h2
      obtain ⟨c3, w3, q3, hcl3, hc3, hb3⟩ := conv_bytes s wr
      have HCL3 := Lib.hid hcl3
      have HC3 := Lib.hid hc3
      have HB3 : Hid (Below w.heap.size w w3) := Lib.hid (stepB HB.out hb3)
      have HK3 := Lib.hid (HK.out.step hb3)
      have HDD := Lib.hid (decode_any (some ⟨wr.heap.size, 0, none⟩) c3 (dl s) w3 (HO.out.step HB3.out) HCL3.out HC3.out (by rw [← size_dl]; omega))
      have HP3 := Lib.hid (KOwn.block HK3.out)
      generalize hy : decodeR (dl s) = rr at HDD
      obtain ⟨y, z⟩ := rr
      have HY := Lib.hid hy
      by_cases hz : z = 0
      · subst hz
        obtain ⟨f', hff, hstep⟩ := HE3.out (k' + j) s y rfl HY.out
        have HS := Lib.hid (HD.out.trans hstep)
        have HFF : Hid (l.length < f' + (k' + j)) := Lib.hid (by have := HF.out; omega)
        clear hok hr hy h1 h2 hs4 hcl3 hc3 hb3 hff hstep HE1 HE2 HE3 HY HD HF HK HB HCL3 HC3 hkg
        go_upto_region 5 with fail
        refine HT.out.mono ?_
        rintro e w4 ⟨rfl, rfl⟩
        go_upto_region 8 with fail
        refine HDD.out.mono ?_
        rintro e w5 ⟨a, rfl, hpi, hb5⟩
        dsimp only at hpi
        have HPI5 : Hid (PInN w5 w3.heap.size w5.heap.size y a) := Lib.hid hpi
        have HB5 : Hid (Below w.heap.size w w5) := Lib.hid (stepB HB3.out hb5)
        have HK5 := Lib.hid (KOwn.step HK3.out hb5)
        have hz35 : w3.heap.size ≤ w5.heap.size := hb5.size
        have hz05 : w.heap.size ≤ w3.heap.size := HB3.out.size
        clear hpi hb5 HK3 HB3 HDD HT q3
        go_upto_region 10 with (refine wpList_store_blkE (by rfl) 38 (.tmp 9) (.tmp 28) rfl rfl w5.heap.size 0 34 rfl (.agg (pkC y a).toArray) rfl 38 (pkC Pkt.zero PA.zero) (pkC y a) (zero_new w5) rfl rfl info33 (by rw [pkC_len]; decide) (one_cells rfl) ?_; rintro w6 hM he hbel hsz; have HM6 := Lib.hid (put_pk hM); have HB6 : Hid (Below w5.heap.size w5 w6) := Lib.hid (hbel _ _ (Nat.le_refl _) (belA _ _)); clear hM he hbel hsz)
        have HBw6 : Hid (Below w.heap.size w w6) := Lib.hid (stepB HB5.out HB6.out)
        have HK6 := Lib.hid (KOwn.step HK5.out HB6.out)
        have HPI6 : Hid (PInN w6 w3.heap.size w5.heap.size y a) := Lib.hid (HPI5.out.keep (fun q _ h2 => HB6.out.block q h2))
        have hz56 : w5.heap.size ≤ w6.heap.size := HB6.out.size
        clear HK5 HPI5 HB5 HB6
        refine wp_region_list ?_
        refine wpList_val (by rfl) u4 (by rfl) ?_
        refine wpList_load_all (by rfl) 38 (.tmp 9) rfl w5.heap.size rfl 38 _ (0, 0) _ HM6.out Tryz.underlying38 rfl info33 ?_
        refine wpList_valW (by rfl) _ (exec_bsl (.tmp 34) rfl y a rfl) ?_
        refine wpList_appKL w6 rfl _ _ rfl w.heap.size _ xs (y, a) HK6.out.1 rfl rfl (by omega) (by have := HXS.out; have := HG.out; have := HN.out; omega) ?_
        intro v7 w7 ho hg hv
        refine wpList_val (by rfl) v7 (by rfl) ?_
        have HK7 := Lib.hid (KOwn.app HK6.out (lo := w3.heap.size) (hi := w5.heap.size) (y := (y, a)) HPI6.out hz56 (fun g hg => .inl (HP3.out g hg)) ho hg hv)
        have HB7 : Hid (Below w.heap.size w w7) := Lib.hid ((HBw6.out.alloc (by omega) _).grown hg (by simp; omega) (fun j hj => (World.ownsRow.lt HK6.out.1 j hj).1))
        clear ho hg hv HK6 HPI6 HBw6 HM6 HP3

        go_wp2_with fail
        go_roundg (l.length - (k' + j))
        case measure => have := HG.out; have := HJ1.out; have := HJ2.out; omega
        case rel => exact ⟨k' + j, f', xs ++ [(y, a)], by have := HJ2.out; omega, by push_cast; rfl, HFF.out, by rw [HS.out]; simp, by have := HXS.out; have := HJ1.out; simp; omega, HK7.out, HB7.out⟩
      · have HEF : Hid (R = ([], z)) := Lib.hid (HD.out.trans (HE2.out s _ y z rfl HY.out hz))
        have q : (z != 0) = true := by simp [hz]
        clear hok hr hy h1 h2 hs4 hcl3 hc3 hb3 HE1 HE2 HE3 HY HD HF HK HB HCL3 HC3 hkg hz
        go_upto_region 5 with fail
        refine HT.out.mono ?_
        rintro e w4 ⟨rfl, rfl⟩
        go_upto_region 8 with fail
        refine HDD.out.mono ?_
        rintro e w5 ⟨a, rfl, _, hb5⟩
        have HB5 : Hid (Below w.heap.size w w5) := Lib.hid (stepB HB3.out hb5)
        clear hb5 HK3 HB3 HDD HT q3 HP3
        go_wp2_with (refine wpList_store_blkE (by rfl) 38 (.tmp 9) (.tmp 28) rfl rfl w5.heap.size 0 34 rfl (.agg (pkC y a).toArray) rfl 38 (pkC Pkt.zero PA.zero) (pkC y a) (zero_new w5) rfl rfl info33 (by rw [pkC_len]; decide) (one_cells rfl) ?_; rintro w6 hM he hbel hsz; have HM6 := Lib.hid (put_pk hM); have HB6 : Hid (Below w5.heap.size w5 w6) := Lib.hid (hbel _ _ (Nat.le_refl _) (belA _ _)); clear hM he hbel hsz)
        have HBw6 : Hid (Below w.heap.size w w6) := Lib.hid (stepB HB5.out HB6.out)
        go_ret2
        rw [HEF.out]
        exact ⟨none, 0, [], rfl, rfl, KL.nil _ _ _, Nat.le_refl _, HBw6.out⟩
    · have HEF : Hid (R = ([], ec)) := Lib.hid (HD.out.trans (HE1.out s _ ec rfl he))
      have q : (ec != 0) = true := by simp [he]
      clear hok hr HE1 HE2 HE3 HD HF HK hkg he
      go_upto_region 5 with fail
      refine HT.out.mono ?_
      rintro e w4 ⟨rfl, rfl⟩
      go_wp2_with fail
      go_ret2
      rw [HEF.out]
      exact ⟨none, 0, [], rfl, rfl, KL.nil _ _ _, Nat.le_refl _, HB.out⟩

end Go.Proofs.YtdkegoaflabjoaaGreatDoor
