/-
  The walks of the first statements of brokerlaw03: each answers true. Conditions: the lists read as data; the numbers fit their kinds.
-/
import Derived.Test.YtijdfadmmloclaaAwake3
namespace Go.Proofs.Ytijdfadmmloclaa
open Go.RowKit

set_option maxHeartbeats 1000000 in
theorem packNumReads_walk (A : Option Addr) (c : Nat) (l : List UInt8) (p : Int) (w : World) (hsl : CL bv w w.heap.size A l) (hc : l.length ≤ c) (hn : l.length ≤ 140737488355328) (hp1 : -9223372036854775808 ≤ p) (hp2 : p ≤ 9223372036854775807) :
    Calls Try.prog 4 #[.slice A l.length c, .int .i64 p] w fun e w' => e = .returned (.bool true) ∧ Below w.heap.size w w' := by
  by_cases h400 : 400 < l.length
  · clear hsl
    go_enter Try.func4, Try.ntmps4
    go_wp2_with fail
    refine (awake3_any _).mono ?_
    rintro e w1 ⟨rfl, hb1⟩
    go_wp2_with fail
    go_ret
    exact ⟨rfl, hb1⟩
  · have HN := Lib.hid (num_any A c l p hp1 hp2 w _ hsl hc hn)
    have HR := Lib.hid (rNum_any A c l p hp1 hp2 w _ hsl hc hn)
    generalize numR l p = r at HN HR
    obtain ⟨n, nx, er⟩ := r
    clear hsl
    go_enter Try.func4, Try.ntmps4
    go_wp2_with fail
    refine HN.out.mono ?_
    rintro e w1 ⟨rfl, rfl⟩
    unfold tri
    go_wp2_with fail
    refine HR.out.mono ?_
    rintro e w1 ⟨rfl, rfl⟩
    unfold tri
    go_wp2_with fail
    refine (awake3_any _).mono ?_
    rintro e w1 ⟨rfl, hb1⟩
    go_wp2_with fail
    go_ret
    exact ⟨rfl, hb1⟩

set_option maxHeartbeats 2000000 in
theorem packNums_walk (A : Option Addr) (c : Nat) (l : List UInt8) (n : Int) (w : World) (hsl : CL bv w w.heap.size A l) (_hc : l.length ≤ c) (hn : l.length ≤ 140737488355328) (h1 : -9223372036854775808 ≤ n) (h2 : n ≤ 9223372036854775807) :
    Calls Try.prog 3 #[.slice A l.length c, .int .i64 n] w fun e w' => e = .returned (.bool true) ∧ Below w.heap.size w w' := by
  by_cases h400 : 400 < l.length
  · clear hsl
    go_enter Try.func3, Try.ntmps3
    go_wp2_with fail
    refine (awake3_any _).mono ?_
    rintro e w1 ⟨rfl, hb1⟩
    go_wp2_with fail
    go_ret
    exact ⟨rfl, hb1⟩
  · have HSL := Lib.hid (copied hsl (Nat.le_refl _) (.cells #[] 5))
    have HS := Lib.hid hsl
    have HP := Lib.hid (fun A c w hsl => putNum_any A c l n h1 h2 w hsl (by omega))
    have HQ := Lib.hid (fun A c w hsl => rPutNum_any A c l n h1 h2 w hsl (by omega))
    generalize l ++ enc n = T at HP HQ
    clear hsl h1 h2
    go_enter Try.func3, Try.ntmps3
    go_wp2_with first | (at_builtin; go_must (refine wpList_appB _ rfl _ _ rfl w.heap.size _ [] l A c rfl (Own.made w 0 #[] w.heap.size (Nat.le_refl _) (by decide) rfl) rfl w.heap.size HSL.out w ((Below.refl _ _).alloc (Nat.le_refl _) _) (by simp) (by simp; omega) ?_); intro v1 w1 hown1 hb1 hB1; obtain ⟨A1, c1, rfl, hc1, hsl1⟩ := hown1.ret) | fail
    rw [List.nil_append] at hsl1
    have hs1 := (HS.out.below hb1).more hb1.size
    go_wp2_with fail
    refine (HP.out A1 c1 w1 hsl1).mono ?_
    rintro e w2 ⟨v2, rfl, hown2, hb2⟩
    obtain ⟨A2, c2, rfl, hc2, hsl2⟩ := hown2.ret
    clear hown2 hown1 hc1 hc2 HSL
    have hs2 := hs1.step hb2
    have hsk2 := hsl1.step hb2
    have hb2' := stepB hb1 hb2
    go_wp2_with fail
    refine (HQ.out A c w2 hs2).mono ?_
    rintro e w3 ⟨v3, rfl, hown3, hb3⟩
    obtain ⟨A3, c3, rfl, hc3, hsl3⟩ := hown3.ret
    clear hown3 hc3 HP HQ
    have hs3 := hs2.step hb3
    have hsk3 := hsk2.step hb3
    have hsl23 := hsl2.step hb3
    have hb3' := stepB hb2' hb3
    have cs := sameB_any A2 A3 c2 c3 _ _ w3 _ _ hsl23 hsl3
    rw [decide_eq_true rfl] at cs
    have cs2 := sameB_any A1 A c1 c l l w3 _ _ hsk3 hs3
    rw [decide_eq_true rfl] at cs2
    have CS := Lib.hid cs
    have CS2 := Lib.hid cs2
    clear hs1 hs2 hsl1 hsl2 hsk2 hsk3 hsl23 hsl3 hs3 cs cs2 hb1 hb2 hb3 hb2' HS
    go_wp2_with fail
    refine CS.out.mono ?_
    rintro e w4 ⟨rfl, rfl⟩
    go_wp2_with fail
    refine CS2.out.mono ?_
    rintro e w4 ⟨rfl, rfl⟩
    go_wp2_with fail
    refine (awake3_any _).mono ?_
    rintro e w5 ⟨rfl, hb5⟩
    go_wp2_with fail
    go_ret
    exact ⟨rfl, stepB hb3' hb5⟩

end Go.Proofs.Ytijdfadmmloclaa
