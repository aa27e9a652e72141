/-
wire's EncodeAll and DecodeAll: the joint form of packets, the packets of a joint form, or the first error. Conditions: the arguments read as data; at most 5000 packets, a million bytes.
-/
import Derived.Test.YtdkegoaflabjoaaGreatDoorKl
import Derived.Test.YtdkegoaflabjoaaGreatDoorRd
import Derived.Test.YtdkegoaflabjoaaGreatDoorWireA
set_option maxHeartbeats 8000000
set_option maxRecDepth 20000
namespace Go.Proofs.YtdkegoaflabjoaaGreatDoor
open Go.RowKit

theorem encodeAll_any (A : Option Addr) (c : Nat) (l : List (Pkt × PA)) (w : World) (hw : S1.Okw w) (h : KL w w.heap.size A l) (hl : l.length ≤ 5000) (hz : ∀ x ∈ l, PSz x.1 ∧ PTx x.1) :
 Calls Tryz.prog 10 #[.slice A l.length c] w (RetE (encAllR (l.map Prod.fst)) w) := by
 have HLen : Hid (∀ j, (∀ q ∈ (l.map Prod.fst).take j, checkP q = 0) → (encG encB ((l.map Prod.fst).take j)).length ≤ 5000 * 4020) := Lib.hid (fun j hv => Nat.le_trans (encG_len (P := fun q => checkP q = 0) (f := encB) (M := 4020) (fun q hq => encB_len hq) _ hv) (Nat.mul_le_mul (by rw [List.length_take, List.length_map]; omega) (Nat.le_refl _)))
 have HS := Lib.hid h
 have HZ := Lib.hid hz
 have HO := Lib.hid hw
 clear h hz hw
 go_enter Tryz.func10, Tryz.ntmps10
 go_wp2_with fail
 have hb0 : Below w.heap.size w (w.alloc (.cells #[.slice none 0 0] 51)) := belA _ _
 have hr0 : WR (w.alloc (.cells #[.slice none 0 0] 51)) w.heap.size (fun g => g < w.heap.size) [] := ⟨.slice none 0 0, heap_alloc_new _ _, Own.nil _ _, by omega, fun g hg => ⟨by simp; omega, by simp [Value.ownBlock]⟩⟩
 generalize w.alloc (.cells #[.slice none 0 0] 51) = w1 at hb0 hr0 ⊢
 have HB0 := Lib.hid hb0
 have HR0 := Lib.hid hr0
 clear hb0 hr0
 go_loopg [11] l.length (fun g v wr => ∃ j : Nat, j + g = l.length ∧ v = .int .i64 j ∧ (∀ q ∈ (l.map Prod.fst).take j, checkP q = 0) ∧ WR wr w.heap.size (fun g => g < w.heap.size) (encG encB ((l.map Prod.fst).take j)) ∧ Below w.heap.size w wr)
 case atStart => exact ⟨0, by omega, rfl, by simp, by rw [List.take_zero]; exact HR0.out, HB0.out⟩
 case round =>
  obtain ⟨j, hjg, rfl, hv, hr, hb⟩ := hrel
  have HV := Lib.hid hv
  have HR := Lib.hid hr
  have HB := Lib.hid hb
  have HG := Lib.hid hjg
  have hlen := HLen.out j hv
  clear hv hr hb HR0 HB0
  cases gk with
  | zero =>
    obtain rfl : j = l.length := by omega
    have HE : Hid (encAllR (l.map Prod.fst) = (encG encB (l.map Prod.fst), 0)) := Lib.hid (encAllR_good (by have := HV.out; rw [List.take_of_length_le (by rw [List.length_map]; exact Nat.le_refl _)] at this; exact this))
    have HR9 : Hid (WR wr w.heap.size (fun g => g < w.heap.size) (encG encB (l.map Prod.fst))) := Lib.hid (by have := HR.out; rw [List.take_of_length_le (by rw [List.length_map]; exact Nat.le_refl _)] at this; exact this)
    obtain ⟨v, h1, h2, _, _⟩ := HR9.out
    have k0 : wr.cell? ⟨w.heap.size, 0, none⟩ = some v := cells_w h1
    obtain ⟨A1, c1, rfl, hc1, hs1⟩ := h2.ret
    have HS1 := Lib.hid hs1
    have HC1 := Lib.hid hc1
    clear h1 h2 hc1 hs1 HR9 HR hlen hjg
    go_wp2_with fail
    go_ret2
    rw [HE.out]
    exact ⟨A1, c1, rfl, HS1.out, HC1.out, HB.out⟩
  | succ g =>
    have hlt : j < l.length := by omega
    have e3 : decide ((j : Int) < (l.length : Int)) = true := decide_eq_true (by omega)
    obtain ⟨x, hx⟩ : ∃ x, l[j]? = some x := ⟨_, List.getElem?_eq_getElem hlt⟩
    obtain ⟨b, o, hA, hbB, hload, hin⟩ := (HS.out.below HB.out).at_ hx
    subst hA
    have hmx : (l.map Prod.fst)[j]? = some x.1 := by rw [List.getElem?_map, hx]; rfl
    obtain ⟨hsz, htx⟩ := HZ.out x (List.mem_of_getElem? hx)
    obtain ⟨p, a⟩ := x
    dsimp only at hload hin hmx hsz htx
    have j1 : (0 : Int) ≤ (j : Int) := by omega
    have j2 : (j : Int) < (l.length : Int) := by omega
    have HLD := Lib.hid hload
    have HIN := Lib.hid hin
    have HE : Hid (∀ w1, S1.Okw w1 → PIn w1 p a → Calls Tryz.prog 7 #[.agg (pkC p a).toArray] w1 (RetE (encodeR p) w1)) := Lib.hid (fun w1 h1 h2 => encode_any p a w1 h1 h2 hsz htx)
    have HMX := Lib.hid hmx
    clear hx hload hin hsz htx hmx hjg
    go_upto_region 5 with (first | (refine wpList_load_v (by rfl) 38 _ rfl ⟨b, o + j * 34, none⟩ rfl _ HLD.out ?_) | (refine wpList_store_blkE (by rfl) 38 (.tmp 6) (.tmp 14) rfl rfl wr.heap.size 0 34 rfl (.agg (pkC p a).toArray) rfl 38 (pkC Pkt.zero PA.zero) (pkC p a) (zero_new wr) rfl rfl info33 (by rw [pkC_len]; decide) (one_cells rfl) ?_; rintro w2 hM he hbel hsz; have HM2 := Lib.hid (put_pk hM); have HB2 : Hid (Below wr.heap.size wr w2) := Lib.hid (hbel _ _ (Nat.le_refl _) (belA _ _)); clear hM he hbel hsz))
    have hwr : w.heap.size ≤ wr.heap.size := HB.out.size
    have HR2 := Lib.hid (HR.out.below HB2.out)
    have HBw2 : Hid (Below w.heap.size w w2) := Lib.hid (stepB HB.out HB2.out)
    have HI2 : Hid (PIn w2 p a) := Lib.hid (PInB.pin (((HIN.out.more hwr).below HB2.out).more HB2.out.size))
    have HK2 := Lib.hid (HE.out w2 (HO.out.step HBw2.out) HI2.out)
    clear HIN HLD HR HB HE HI2 HB2
    by_cases hp : checkP p = 0
    · have HV2 : Hid (∀ q ∈ (l.map Prod.fst).take (j + 1), checkP q = 0) := Lib.hid (by
       intro q hq
       rw [List.take_add_one, HMX.out] at hq
       rcases List.mem_append.1 hq with hq | hq
       · exact HV.out q hq
       · simp at hq; subst hq; exact hp)
      have HX : Hid (encG encB ((l.map Prod.fst).take (j + 1)) = encG encB ((l.map Prod.fst).take j) ++ encT (bs (encPk p))) := Lib.hid (encG_succ (f := encB) HMX.out)
      have hel := encPk_le hp
      have HT : Hid (∀ w1, WR w1 w.heap.size (fun g => g < w.heap.size) (encG encB ((l.map Prod.fst).take j)) → Calls Tryz.prog 23 #[.pointer (some ⟨w.heap.size, 0, none⟩), .string (bs (encPk p))] w1 (RetW w.heap.size (fun g => g < w.heap.size) (encG encB ((l.map Prod.fst).take j) ++ encT (bs (encPk p))) w1)) := Lib.hid (fun w1 h1 => wText_any _ _ _ (bs (encPk p)) w1 h1 (by omega) (by rw [size_bs]; omega))
      have HEQ : Hid (encodeR p = (encPk p, 0)) := Lib.hid (by unfold encodeR; rw [if_neg (by simpa using hp)])
      rw [HEQ.out] at HK2
      clear hp hel hlen HMX HEQ HLen
      go_wp2_with (refine wpList_load_all (by rfl) 38 (.tmp 6) rfl wr.heap.size rfl 38 _ (0, 0) _ HM2.out Tryz.underlying38 rfl info33 ?_)
      refine HK2.out.mono ?_
      rintro e w3 ⟨A3, c3, rfl, hs3, hc3, hb3⟩
      have q3 := conv_str hs3 c3
      dsimp only at q3
      have HR3 := Lib.hid (HR2.out.below hb3)
      have HB3 : Hid (Below w.heap.size w w3) := Lib.hid (stepB HBw2.out hb3)
      clear hs3 hc3 hb3 HK2 HR2 HBw2 HM2
      go_wp2_with fail
      refine (HT.out w3 HR3.out).mono ?_
      rintro e w4 ⟨rfl, hr, hk⟩
      have HR4 := Lib.hid hr
      have HB4 : Hid (Below w.heap.size w w4) := Lib.hid (HB3.out.trans (hk.below (fun g hg => hg)))
      clear hr hk HR3 HB3 HT q3
      go_wp2_with fail
      go_roundg g
      case measure => omega
      case rel => exact ⟨j + 1, by have := HG.out; omega, by go_num, HV2.out, by rw [HX.out]; exact HR4.out, HB4.out⟩
    · have HEQ : Hid (encodeR p = ([], checkP p)) := Lib.hid (by unfold encodeR; rw [if_pos (by simpa using hp)])
      have HF : Hid (encAllR (l.map Prod.fst) = ([], checkP p)) := Lib.hid (encAllR_bad HMX.out HV.out hp)
      have q : ((checkP p : Int) != 0) = true := by simp [hp]
      rw [HEQ.out] at HK2
      generalize checkP p = z at HK2 HF q
      clear hp hlen HMX HEQ HLen HV HR2
      go_wp2_with (refine wpList_load_all (by rfl) 38 (.tmp 6) rfl wr.heap.size rfl 38 _ (0, 0) _ HM2.out Tryz.underlying38 rfl info33 ?_)
      refine HK2.out.mono ?_
      rintro e w3 ⟨A3, c3, rfl, hs3, hc3, hb3⟩
      have HB3 : Hid (Below w.heap.size w w3) := Lib.hid (stepB HBw2.out hb3)
      clear hs3 hc3 hb3 HK2 HBw2 HM2
      go_wp2_with fail
      go_ret2
      rw [HF.out]
      exact ⟨none, 0, rfl, CL.nil _ _ _, Nat.le_refl _, HB3.out⟩

end Go.Proofs.YtdkegoaflabjoaaGreatDoor
