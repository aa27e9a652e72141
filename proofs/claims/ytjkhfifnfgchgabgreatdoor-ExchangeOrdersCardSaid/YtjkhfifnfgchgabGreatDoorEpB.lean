/-
  What find of exchange answers, by the library's search: the place of the first name that is not less, and whether it is the name. Conditions: the list reads as data, its names ascend; lengths fit an int.
-/
import Derived.Test.YtjkhfifnfgchgabGreatDoorEpA
import Derived.Test.YtjkhfifnfgchgabGreatDoorSearch
namespace Go.Proofs.YtjkhfifnfgchgabGreatDoor
open Go.RowKit
open S2 (BK Put)

def foundE (l : List Ex) (n : ByteArray) : Bool := (getE l n).isSome
theorem foundE_at {l : List Ex} {n : ByteArray} {i : Nat} (ha : AscE l) (hr : BsE l n i i) {x : Ex} (hx : l[i]? = some x) : foundE l n = decide (x.nm = n) := by
  unfold foundE
  rw [getE_at ha n, hr.pos, hx]
  by_cases h : x.nm = n
  · simp [h]
  · simp [h]
theorem foundE_end {l : List Ex} {n : ByteArray} {i : Nat} (ha : AscE l) (hr : BsE l n i i) (hx : l.length ≤ i) : foundE l n = false := by
  unfold foundE
  rw [getE_at ha n, hr.pos, List.getElem?_eq_none hx]
  rfl
set_option maxHeartbeats 1000000 in
theorem find1_any (x : Ex) (key : ByteArray) (w : World) :
    Calls Tryz.prog 64 #[exV x, .string key] w fun e w' => e = .returned (.int .i64 (cmpS x.nm key)) ∧ Below w.heap.size w w' := by
  have HC := Lib.hid (fun w => Tryz.strings_Compare x.nm key w)
  have HE := Lib.hid (cmpS_eq x.nm key)
  rw [HE.out] at HC
  unfold exV gE
  go_enter Tryz.func64, Tryz.ntmps64
  go_wp2_with fail
  refine (HC.out _).mono ?_
  rintro e w' ⟨rfl, hw⟩
  subst hw
  go_wp2
  go_ret
  exact ⟨rfl, (Below.refl _ _).alloc (Nat.le_refl _) _⟩

set_option maxRecDepth 20000 in
set_option maxHeartbeats 4000000 in
theorem searchE_any (A : Option Addr) (c : Nat) (l : List Ex) (key : ByteArray) (w : World) (hsl : EL w w.heap.size A l) (ha : AscE l) (hn : l.length ≤ 100000) :
    Calls Tryz.prog 63 #[.slice A l.length c, .string key, .func (.func 64) #[] #[]] w fun e w' => e = retS (posE l key) (foundE l key) ∧ Below w.heap.size w w' := by
  have HS := Lib.hid hsl
  have HA := Lib.hid ha
  have HCK := Lib.hid (fun x w => find1_any x key w)
  have HF := Lib.hid (fun i h => @foundE_at l key i ha h)
  have HF2 := Lib.hid (fun i h => @foundE_end l key i ha h)
  have HP := Lib.hid (fun i h => @BsE.pos l key i h)
  have H0 := Lib.hid (BsE.start l key)
  generalize foundE l key = fk at HF HF2 ⊢
  generalize posE l key = pk at HP ⊢
  clear hsl ha
  go_enter Tryz.func63, Tryz.ntmps63
  go_wp2
  go_loopg [9, 10] l.length (fun g s9 s10 wr => ∃ lo hi : Nat, s9 = .int .i64 lo ∧ s10 = .int .i64 hi ∧ hi - lo ≤ g ∧ BsE l key lo hi ∧ Below w.heap.size w wr)
  case atStart => exact ⟨0, l.length, rfl, rfl, by omega, H0.out, Below.refl _ _⟩
  case round =>
    obtain ⟨lo, hi, rfl, rfl, hg, hrel, hb⟩ := hrel
    have HR := Lib.hid hrel
    have HB := Lib.hid hb
    have hlh := hrel.1
    have hhn := hrel.2.1
    clear hrel
    by_cases hlt : lo < hi
    · obtain ⟨x, hx⟩ : ∃ x, l[(lo + hi) / 2]? = some x := ⟨_, List.getElem?_eq_getElem (by omega)⟩
      obtain ⟨b, o, hA, hbB, hcl⟩ := EL.at_ (HS.out.step hb) hx
      have HLD := Lib.hid (load_ex hcl)
      subst hA
      clear hcl hbB
      have HX := Lib.hid hx
      have HC := Lib.hid (HCK.out x wr)
      clear hb hx
      by_cases hl : ltS x.nm key = true
      · have HN := Lib.hid (HR.out.less HA.out (by omega) (by omega) HX.out hl)
        rw [cmpS_lt hl] at HC
        clear hl
        go_wp2_with first
          | (refine wpList_load_v (by rfl) 32 _ rfl ⟨b, o + (lo + hi) / 2 * 3, none⟩ (by go_simp) _ HLD.out ?_)
        refine HC.out.mono ?_
        rintro e w1 ⟨rfl, hb1⟩
        have HB1 := Lib.hid (stepB HB.out hb1)
        clear hb1
        go_wp2
        go_roundg (hi - ((lo + hi) / 2 + 1))
        case measure => omega
        case rel => exact ⟨(lo + hi) / 2 + 1, hi, by rw [show ((lo : Int) + (hi : Int)) / 2 + 1 = (((lo + hi) / 2 + 1 : Nat) : Int) by omega], rfl, Nat.le_refl _, HN.out, HB1.out⟩
      · have hl' : ltS x.nm key = false := by simpa using hl
        have HN := Lib.hid (HR.out.notless HA.out (by omega) (by omega) HX.out hl')
        obtain ⟨v, hv, hv0⟩ : ∃ v : Int, cmpS x.nm key = v ∧ 0 ≤ v := by
          by_cases he : x.nm = key
          · exact ⟨0, cmpS_eq0 he, by omega⟩
          · exact ⟨1, cmpS_gt hl' he, by omega⟩
        rw [hv] at HC
        have d1 : decide (v < 0) = false := decide_eq_false (by omega)
        clear hl hl' hv
        go_wp2_with first
          | (refine wpList_load_v (by rfl) 32 _ rfl ⟨b, o + (lo + hi) / 2 * 3, none⟩ (by go_simp) _ HLD.out ?_)
        refine HC.out.mono ?_
        rintro e w1 ⟨rfl, hb1⟩
        have HB1 := Lib.hid (stepB HB.out hb1)
        clear hb1
        go_wp2
        go_roundg ((lo + hi) / 2 - lo)
        case measure => omega
        case rel => exact ⟨lo, (lo + hi) / 2, rfl, by rw [show ((lo : Int) + (hi : Int)) / 2 = (((lo + hi) / 2 : Nat) : Int) by omega], Nat.le_refl _, HN.out, HB1.out⟩
    · obtain rfl : hi = lo := by omega
      have HPK := Lib.hid (HP.out _ HR.out)
      by_cases hin : hi < l.length
      · obtain ⟨x, hx⟩ : ∃ x, l[hi]? = some x := ⟨_, List.getElem?_eq_getElem hin⟩
        obtain ⟨b, o, hA, hbB, hcl⟩ := EL.at_ (HS.out.step hb) hx
        have HLD := Lib.hid (load_ex hcl)
        subst hA
        clear hcl hbB
        have HFK := Lib.hid (HF.out _ HR.out hx)
        have HC := Lib.hid (HCK.out x wr)
        have hnl : ltS x.nm key = false := HR.out.2.2.2 hi x (Nat.le_refl _) hx
        clear hb hx
        by_cases he : x.nm = key
        · rw [cmpS_eq0 he] at HC
          have HFV : Hid (fk = true) := Lib.hid (by rw [HFK.out]; exact decide_eq_true he)
          clear he hnl
          go_wp2_with first
            | (refine wpList_load_v (by rfl) 32 _ rfl ⟨b, o + hi * 3, none⟩ (by go_simp) _ HLD.out ?_)
          refine HC.out.mono ?_
          rintro e w1 ⟨rfl, hb1⟩
          have HB1 := Lib.hid (stepB HB.out hb1)
          clear hb1
          go_wp2
          go_ret2
          exact ⟨by rw [HPK.out, HFV.out]; rfl, HB1.out⟩
        · rw [cmpS_gt hnl he] at HC
          have HFV : Hid (fk = false) := Lib.hid (by rw [HFK.out]; exact decide_eq_false he)
          clear he hnl
          go_wp2_with first
            | (refine wpList_load_v (by rfl) 32 _ rfl ⟨b, o + hi * 3, none⟩ (by go_simp) _ HLD.out ?_)
          refine HC.out.mono ?_
          rintro e w1 ⟨rfl, hb1⟩
          have HB1 := Lib.hid (stepB HB.out hb1)
          clear hb1
          go_wp2
          go_ret2
          exact ⟨by rw [HPK.out, HFV.out]; rfl, HB1.out⟩
      · have HFV : Hid (fk = false) := Lib.hid (HF2.out _ HR.out (by omega))
        clear hb
        go_wp2
        go_ret2
        exact ⟨by rw [HPK.out, HFV.out]; rfl, HB.out⟩


theorem find_any (A : Option Addr) (c : Nat) (l : List Ex) (key : ByteArray) (w : World) (hsl : EL w w.heap.size A l) (ha : AscE l) (hn : l.length ≤ 100000) :
    Calls Tryz.prog 35 #[.slice A l.length c, .string key] w fun e w' => e = retS (posE l key) (foundE l key) ∧ Below w.heap.size w w' := by
  have HC := Lib.hid (searchE_any A c l key w hsl ha hn)
  unfold retS at HC
  generalize posE l key = pk at HC ⊢
  generalize foundE l key = fk at HC ⊢
  clear hsl ha hn
  go_enter Tryz.func35, Tryz.ntmps35
  go_wp2_with fail
  refine HC.out.mono ?_
  rintro e w1 ⟨rfl, hb⟩
  have HB := Lib.hid hb
  clear hb
  go_wp2
  go_ret2
  exact ⟨rfl, HB.out⟩
end Go.Proofs.YtjkhfifnfgchgabGreatDoor
