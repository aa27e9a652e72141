/-
  The walk of FrameOnly: it answers true. Conditions: the list reads as data.
-/
import Derived.Test.YtijdfadmmloclabBack
import Derived.Test.YtijdfadmmloclabAwake4
import Derived.Deep.RegionHeld3
namespace Go.Proofs.Ytijdfadmmloclab
open Go.RowKit

set_option maxHeartbeats 4000000 in
theorem frameOnly_walk (A : Option Addr) (c : Nat) (l : List UInt8) (w : World) (hsl : CL bv w w.heap.size A l) (hc : l.length ≤ c) (hn : l.length ≤ 140737488355328) :
    Calls Try.prog 4 #[.slice A l.length c] w fun e w' => e = .returned (.bool true) ∧ Below w.heap.size w w' := by
  by_cases h600 : 600 < l.length
  · clear hsl
    go_enter Try.func4, Try.ntmps4
    go_wp2_with fail
    refine (awake4_any _).mono ?_
    rintro e w1 ⟨rfl, hb1⟩
    go_wp2_with fail
    go_ret
    exact ⟨rfl, hb1⟩
  have HN := Lib.hid (next_any A c l 0 (by omega) (by omega) w hsl hc hn)
  have hok := fun T nx => @next_only l nx T
  have herr := fun T nx e => @nextR_err l 0 nx e T
  generalize nextR l 0 = r at HN hok herr
  obtain ⟨T, nx, er⟩ := r
  by_cases he : er = 0
  · subst he
    obtain ⟨k, rfl, hkl, hk5, hwt, hwl, hT6⟩ := hok T nx rfl
    clear hok herr
    obtain ⟨A2, hs, hcl2⟩ := slice_h A c l k hkl hc
    have htl : (l.take k).length = k := by rw [List.length_take]; omega
    rw [htl] at hs
    have HS := Lib.hid hsl
    have HW := Lib.hid (fun A c w h => wrap_any A c T w h (by omega))
    have hz := sizeR_in (n := T.length) hT6
    rw [← wrap_len hT6, hwl] at hz
    have HZ := Lib.hid (fun w => size_any T.length (by omega) (by omega) w)
    rw [hz] at HZ
    rw [hwt] at HW
    have HC2 := Lib.hid (fun w h => hcl2 w w.heap.size h)
    generalize l.take k = F at *
    obtain ⟨t, ht⟩ : ∃ t, T.length = t := ⟨_, rfl⟩
    rw [ht] at HW HZ hT6
    have HT := Lib.hid ht
    clear hcl2 hsl hwt hwl hz ht
    go_enter Try.func4, Try.ntmps4
    go_wp2_with fail
    refine HN.out.mono ?_
    rintro e w1 ⟨v1, rfl, hown1, hb1⟩
    obtain ⟨A1, c1, rfl, _, hsl1⟩ := hown1.ret
    rw [HT.out] at *
    have HS1 := Lib.hid (HS.out.step hb1)
    have hbd : Below w1.heap.size w1 w1.drew := (Below.refl _ _).drew
    have HWX : Hid (Calls Try.prog 8 #[.slice A1 t c1] w1.drew fun e w' => ∃ A6 c6, e = .returned (.slice A6 k c6) ∧ CL bv w' w'.heap.size A6 F ∧ Below w1.heap.size w1 w') := Lib.hid (by
      refine (HW.out A1 c1 w1.drew (hsl1.step hbd)).mono ?_
      rintro e w' ⟨v, rfl, hown, hb'⟩
      obtain ⟨A6, c6, rfl, _, hsl6⟩ := hown.ret
      rw [htl] at *
      exact ⟨A6, c6, rfl, hsl6, stepB hbd hb'⟩)
    have HCX : Hid (∀ A6 c6 w', CL bv w' w'.heap.size A6 F → Below w1.heap.size w1 w' → Calls Try.prog 10 #[.slice A6 k c6, .slice A2 k c] w' fun e w'' => e = .returned (.bool true) ∧ w' = w'') := Lib.hid (fun A6 c6 w' h hb' => by
      have := same_self4 (c := c6) (c' := c) h (HC2.out w' (HS1.out.step hb'))
      rw [htl] at this
      exact this)
    have d1 : decide ((k : Int) ≤ (l.length : Int)) = true := decide_eq_true (by omega)
    have d2 : decide ((5 : Int) ≤ (k : Int)) = true := decide_eq_true (by omega)
    clear HN HW hown1 hsl1 HC2 HS HT HS1
    go_wp2_with fail
    go_region_held3 (fun w' => Below w1.heap.size w1 w')
      (first | exact hb5' | exact hb4' | exact hb6 | exact hbd)
      (first
        | (go_at_call 8; refine HWX.out.mono ?_; rintro e w2 ⟨A6, c6, rfl, hsl6, hb6⟩)
        | (go_at_call 10; refine (HCX.out _ _ _ hsl6 hb6).mono ?_; rintro e w3 ⟨rfl, rfl⟩)
        | (go_at_call 11; refine (HZ.out _).mono ?_; rintro e w4 ⟨rfl, hb4⟩; have hb4' := stepB hb6 hb4)
        | (go_at_call 7; refine (awake4_any _).mono ?_; rintro e w5 ⟨rfl, hb5⟩; have hb5' := stepB hb4' hb5))
    all_goals
      have hbf := stepB hb1 hb5'
      clear hb1 hb4 hb4' hb5 hb5' hb6 hsl6 HWX HCX HZ hs hbd
      go_wp2
      go_ret
      exact ⟨rfl, hbf⟩
  · obtain ⟨rfl, rfl⟩ := herr T nx er rfl he
    have hb : (er != 0) = true := by simp [he]
    clear hok herr he hsl
    go_enter Try.func4, Try.ntmps4
    go_wp2_with fail
    refine HN.out.mono ?_
    rintro e w1 ⟨v1, rfl, hown1, hb1⟩
    obtain ⟨A1, c1, rfl, _, _⟩ := hown1.ret
    dsimp only
    clear hown1 HN
    go_wp2_with fail
    refine (awake4_any _).mono ?_
    rintro e w2 ⟨rfl, hb2⟩
    go_wp2_with fail
    go_ret
    exact ⟨rfl, stepB hb1 hb2⟩

end Go.Proofs.Ytijdfadmmloclab
