/-
  The walk of FrameBack: it answers true. Conditions: the lists read as data.
-/
import Derived.Test.YtijdfadmmloclabBack
import Derived.Test.YtijdfadmmloclabAwake4
namespace Go.Proofs.Ytijdfadmmloclab
open Go.RowKit

set_option maxHeartbeats 2000000 in
theorem frameBack_walk (A0 : Option Addr) (c0 : Nat) (l0 : List UInt8) (A1 : Option Addr) (c1 : Nat) (l1 : List UInt8) (A2 : Option Addr) (c2 : Nat) (l2 : List UInt8) (w : World)
    (hs0 : CL bv w w.heap.size A0 l0) (_hc0 : l0.length ≤ c0) (_hn0 : l0.length ≤ 140737488355328) (hs1 : CL bv w w.heap.size A1 l1) (_hc1 : l1.length ≤ c1) (hn1 : l1.length ≤ 140737488355328) (hs2 : CL bv w w.heap.size A2 l2) (_hc2 : l2.length ≤ c2) (_hn2 : l2.length ≤ 140737488355328) :
    Calls Try.prog 3 #[.slice A0 l0.length c0, .slice A1 l1.length c1, .slice A2 l2.length c2] w fun e w' => e = .returned (.bool true) ∧ Below w.heap.size w w' := by
  by_cases h600 : 600 < l0.length
  · clear hs0 hs1 hs2
    go_enter Try.func3, Try.ntmps3
    go_wp2_with fail
    refine (awake4_any _).mono ?_
    rintro e w1 ⟨rfl, hb1⟩
    go_wp2_with fail
    go_ret
    exact ⟨rfl, hb1⟩
  by_cases h601 : 600 < l1.length
  · clear hs0 hs1 hs2
    go_enter Try.func3, Try.ntmps3
    go_wp2_with fail
    refine (awake4_any _).mono ?_
    rintro e w1 ⟨rfl, hb1⟩
    go_wp2_with fail
    go_ret
    exact ⟨rfl, hb1⟩
  by_cases h602 : 600 < l2.length
  · clear hs0 hs1 hs2
    go_enter Try.func3, Try.ntmps3
    go_wp2_with fail
    refine (awake4_any _).mono ?_
    rintro e w1 ⟨rfl, hb1⟩
    go_wp2_with fail
    go_ret
    exact ⟨rfl, hb1⟩
  have HW := Lib.hid (fun w h => wrap_any A1 c1 l1 w h hn1)
  have hwl := wrap_len (p := l1) (by omega)
  have hel := (enc_len l1.length).2
  have hnx := next_frame l0 l1 l2 (by omega)
  obtain ⟨T, hT⟩ : ∃ T, T = wrapR l1 := ⟨_, rfl⟩
  rw [← hT] at hwl hnx HW
  have hTl : T.length ≤ 700 := by omega
  obtain ⟨al, hal⟩ : ∃ al, al = l0 ++ T ++ l2 := ⟨_, rfl⟩
  rw [← List.append_assoc, ← hal] at hnx
  have hall : al.length = l0.length + T.length + l2.length := by rw [hal, List.length_append, List.length_append]
  have HAL := Lib.hid hal
  have HNX := Lib.hid (fun A c w h hc => next_any A c al l0.length (by omega) (by omega) w h hc (by omega))
  rw [hnx] at HNX
  have HALL := Lib.hid hall
  have HSL := Lib.hid (copied hs0 (Nat.le_refl _) (.cells #[] 5))
  have HS1 := Lib.hid hs1
  have HS2 := Lib.hid hs2
  clear hwl hel hnx hT hal hs0 hs1 hs2 hall
  go_enter Try.func3, Try.ntmps3
  go_wp2_with first | (at_builtin; go_must (refine wpList_appB _ rfl (.tmp 25) (.tmp 26) rfl w.heap.size _ [] l0 A0 c0 rfl (Own.made w 0 #[] w.heap.size (Nat.le_refl _) (by decide) rfl) rfl w.heap.size HSL.out w ((Below.refl _ _).alloc (Nat.le_refl _) _) (by simp) (by simp; omega) ?_); intro v1 w1 hown1 hb1 hB1)
  rw [List.nil_append] at hown1
  refine (HW.out w1 ((HS1.out.below hb1).more hb1.size)).mono ?_
  rintro e w2 ⟨v2, rfl, hown2, hb2⟩
  obtain ⟨AT, cT, rfl, _, hslT⟩ := hown2.ret
  have hown1' := hown1.step hb2
  have hb2' := stepB hb1 hb2
  have hB2 := hb2'.size
  clear hown1 hown2 hb1 hb2 HSL HW
  go_wp2_with first | (at_builtin; refine wpList_appB w2 rfl (.tmp 27) (.tmp 29) rfl w.heap.size v1 l0 T AT cT rfl hown1' rfl w2.heap.size hslT w hb2' hB2 (by omega) ?_; intro v3 w3 hown3 hb3 hB3) | (at_builtin; go_must (refine wpList_appB w3 rfl (.tmp 30) (.tmp 31) rfl w.heap.size v3 (l0 ++ T) l2 A2 c2 rfl hown3 rfl w.heap.size (HS2.out.below hb3) w hb3 hB3 (by simp; omega) ?_); intro v4 w4 hown4 hb4 hB4; rw [← HAL.out] at hown4; obtain ⟨A4, c4, rfl, hc4, hsl4⟩ := hown4.ret)
  have HS1b := Lib.hid ((HS1.out.below hb4).more hb4.size)
  have HS4 := Lib.hid hsl4
  clear hown1' hown3 hown4 hsl4 hslT hb2' hb3 HS2
  refine (HNX.out A4 c4 w4 HS4.out hc4).mono ?_
  rintro e w5 ⟨v5, rfl, hown5, hb5⟩
  obtain ⟨A5, c5, rfl, _, hsl5⟩ := hown5.ret
  have CS := Lib.hid (same_self4 (c := c5) (c' := c1) hsl5 (HS1b.out.step hb5))
  have hb5' := stepB hb4 hb5
  have hall := HALL.out
  clear hown5 hsl5 HS1b hb4 hb5 HNX HS4
  dsimp only at CS ⊢
  go_wp2_with fail
  refine CS.out.mono ?_
  rintro e w6 ⟨rfl, rfl⟩
  go_wp2_with fail
  refine (awake4_any _).mono ?_
  rintro e w7 ⟨rfl, hb7⟩
  go_wp2_with fail
  go_ret
  exact ⟨rfl, stepB hb5' hb7⟩

end Go.Proofs.Ytijdfadmmloclab
