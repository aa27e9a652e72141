/-
  Narrow and Select of the specification; MatchLists answers true: the walk of its function, from the contracts. Conditions: MaxLen holds a number; the list reads as texts.
-/
import Derived.Test.YtdoginjdlckbpaaDoorSpecNar
import Derived.Test.YtdoginjdlckbpaaDoorAwake2
namespace Go.Proofs.YtdoginjdlckbpaaDoor
open Go.RowKit

set_option maxHeartbeats 4000000 in
theorem sNarrow_any (A : Option Addr) (c : Nat) (xs : List ByteArray) (w : World) (h : SL w w.heap.size A xs) (hx63 : xs.length ≤ 1000000) :
    Calls Tryd.prog 45 #[.slice A xs.length c] w (RetStrs (narrowB xs xs.length) w) := by
  have HS := Lib.hid h
  clear h
  go_enter Tryd.func45, Tryd.ntmps45
  go_wp2
  go_loopg [3, 4] xs.length (fun g u v wr => ∃ k : Nat, k + g = xs.length ∧ v = .int .i64 k ∧ Own wr w.heap.size u (narrowB xs k) ∧ Below w.heap.size w wr)
  case atStart => exact ⟨0, by omega, rfl, Own.nil _ _, Below.refl _ _⟩
  case round =>
    obtain ⟨k, hkg, rfl, hown, hb⟩ := hrel
    cases gk with
    | zero =>
      obtain rfl : k = xs.length := by omega
      clear hkg
      go_wp2
      go_ret
      obtain ⟨A', c', hv, hc, hsl⟩ := hown.ret
      exact ⟨A', c', congrArg Ending.returned hv, hc, hsl, hb⟩
    | succ g =>
      have hlt : k < xs.length := by omega
      have HG := Lib.hid hkg
      have hslr := HS.out.at_ hb
      obtain ⟨x, hx⟩ : ∃ x, xs[k]? = some x := ⟨_, List.getElem?_eq_getElem hlt⟩
      have HXK := Lib.hid hx
      have HSLR := Lib.hid hslr
      have hnl := narrow_le xs k
      have HNO := Lib.hid (narrow_no (xs := xs) (k := k))
      have HYES := Lib.hid (narrow_yes hx)
      have cs := sStays_any A c xs k wr hslr hlt hx63
      generalize keepB xs k = kp at cs HNO HYES
      have CS := Lib.hid cs
      have HOWN := Lib.hid hown
      have HB := Lib.hid hb
      clear hx hkg hslr cs hown hb
      cases kp
      · go_wp2_with fail
        refine CS.out.mono ?_
        rintro e w2 ⟨rfl, hb2⟩
        have HB2 := Lib.hid hb2
        clear hb2
        go_wp2
        go_roundg g
        case measure => omega
        case rel => exact ⟨k + 1, by have := HG.out; omega, by go_num, by rw [HNO.out (by simp)]; exact HOWN.out.below HB2.out, Below.step HB.out HB2.out⟩
      · go_wp2_with fail
        refine CS.out.mono ?_
        rintro e w2 ⟨rfl, hb2⟩
        have hs2 := HSLR.out.step hb2
        have hown2 := HOWN.out.below hb2
        have hbz := Below.step HB.out hb2
        have hsz2 := hbz.size
        obtain ⟨b, o, rfl, hbB, hcl⟩ := hs2 (by omega)
        have k1 := hcl k x HXK.out
        clear hb2 hcl hs2 CS HSLR
        go_wp2_with (at_builtin; refine wpList_app1 _ rfl _ _ rfl w.heap.size u3 (narrowB xs k) x rfl hown2 rfl w hbz hsz2 (by omega) ?_; intro v' w4 hown4 hb4 hsz4)
        go_roundg g
        case measure => omega
        case rel => exact ⟨k + 1, by have := HG.out; omega, by go_num, by rw [HYES.out (by simp)]; exact hown4, hb4⟩

set_option maxHeartbeats 4000000 in
theorem sSelect_any (f : ByteArray) (A : Option Addr) (c : Nat) (xs : List ByteArray) (w : World) (h : SL w w.heap.size A xs) (hx63 : xs.length ≤ 1000000) (hxs : ∀ x ∈ xs, x.size ≤ 140737488355328) :
    Calls Tryd.prog 47 #[.string f, .slice A xs.length c] w (RetStrs (selectB f xs) w) := by
  have HS := Lib.hid h
  have HXS := Lib.hid hxs
  clear h hxs
  go_enter Tryd.func47, Tryd.ntmps47
  go_wp2
  go_loopg [5, 6] xs.length (fun g u v wr => ∃ k : Nat, k + g = xs.length ∧ v = .int .i64 k ∧ Own wr w.heap.size u (selectB f (xs.take k)) ∧ Below w.heap.size w wr)
  case atStart => exact ⟨0, by omega, rfl, Own.nil _ _, Below.refl _ _⟩
  case round =>
    obtain ⟨k, hkg, rfl, hown, hb⟩ := hrel
    cases gk with
    | zero =>
      obtain rfl : k = xs.length := by omega
      rw [List.take_length] at hown
      clear hkg
      go_wp2
      go_ret
      obtain ⟨A', c', hv, hc, hsl⟩ := hown.ret
      exact ⟨A', c', congrArg Ending.returned hv, hc, hsl, hb⟩
    | succ g =>
      have hlt : k < xs.length := by omega
      have HG := Lib.hid hkg
      have hslr := HS.out.at_ hb
      obtain ⟨b, o, rfl, hbB, hcl⟩ := hslr (by omega)
      obtain ⟨x, hx⟩ : ∃ x, xs[k]? = some x := ⟨_, List.getElem?_eq_getElem hlt⟩
      have k1 := hcl k x hx
      have hnl := sel_le f xs k
      have HNO := Lib.hid (sel_no (f := f) hx)
      have HYES := Lib.hid (sel_yes (f := f) hx)
      have cm := fun w => sMat_any f x w (HXS.out x (List.mem_of_getElem? hx))
      generalize matchesL f x = mt at cm HNO HYES
      have CM := Lib.hid cm
      have HOWN := Lib.hid hown
      have HB := Lib.hid hb
      have HSLR := Lib.hid hslr
      have HXK := Lib.hid hx
      clear hcl hx hkg hslr cm hown hb
      cases mt
      · go_wp2_with fail
        refine (CM.out _).mono ?_
        rintro e w2 ⟨rfl, hb2⟩
        have HB2 := Lib.hid hb2
        clear hb2
        go_wp2
        go_roundg g
        case measure => omega
        case rel => exact ⟨k + 1, by have := HG.out; omega, by go_num, by rw [HNO.out (by simp)]; exact HOWN.out.below HB2.out, Below.step HB.out HB2.out⟩
      · go_wp2_with fail
        refine (CM.out _).mono ?_
        rintro e w2 ⟨rfl, hb2⟩
        have hs2 := HSLR.out.step hb2
        have hown2 := HOWN.out.below hb2
        have hbz := Below.step HB.out hb2
        have hsz2 := hbz.size
        obtain ⟨_, hcl⟩ := hs2.some_ (by omega)
        have k1 := hcl k x HXK.out
        clear hb2 hcl hs2 HSLR
        go_wp2_with (at_builtin; refine wpList_app1 _ rfl _ _ rfl w.heap.size u5 (selectB f (xs.take k)) x rfl hown2 rfl w hbz hsz2 (by omega) ?_; intro v' w4 hown4 hb4 hsz4)
        go_roundg g
        case measure => omega
        case rel => exact ⟨k + 1, by have := HG.out; omega, by go_num, by rw [HYES.out (by simp)]; exact hown4, hb4⟩

theorem same_self (xs : List ByteArray) : sameB xs xs = true := decide_eq_true rfl

set_option maxHeartbeats 4000000 in
theorem matchLists_walk (A : Option Addr) (c : Nat) (xs : List ByteArray) (f : ByteArray) (w : World) (hw : Okw w) (hsl : SL w w.heap.size A xs) (_ : xs.length ≤ c) (hN : xs.length ≤ 140737488355328) (_ : f.size ≤ 140737488355328) :
    Calls Tryd.prog 11 #[.slice A xs.length c, .string f] w fun e w' => e = .returned (.bool true) ∧ Below w.heap.size w w' := by
  have hq0 := Qk.refl hw
  cases hl : lightB 32 xs
  · have cl := light32_any A c xs w _ hsl hN
    rw [hl] at cl
    have CL := Lib.hid cl
    clear cl hl hsl
    go_enter Tryd.func11, Tryd.ntmps11
    go_wp2_with fail
    refine CL.out.mono ?_
    rintro e w1 ⟨rfl, rfl⟩
    go_wp2_with fail
    refine (awake2_any _ hw).mono ?_
    rintro e w2 ⟨rfl, hb2⟩
    go_wp2_with fail
    go_ret
    exact ⟨rfl, hb2⟩
  · obtain ⟨h32, h4096⟩ := light_parts hl
    have cl := light32_any A c xs w _ hsl hN
    rw [hl] at cl
    have CL := Lib.hid cl
    have HS := Lib.hid hsl
    have HQ := Lib.hid hq0
    have hnl := narrow_le xs xs.length
    have hsel : (selectB f xs).length ≤ 32 := by
      unfold selectB
      exact Nat.le_trans (List.length_filter_le _ _) h32
    have CN := Lib.hid (fun w hw hs => mNarrow_any A c xs w hw hs (by omega))
    have CSN := Lib.hid (fun w hs => sNarrow_any A c xs w hs (by omega))
    have CE := Lib.hid (fun w hw hs => mSelect_any f A c xs w hw hs (by omega))
    have CSE := Lib.hid (fun w hs => sSelect_any f A c xs w hs (by omega) (fun x hx => Nat.le_trans (h4096 x hx) (by decide)))
    generalize narrowB xs xs.length = ys at hnl CN CSN
    generalize selectB f xs = zs at hsel CE CSE
    have HNL : Hid (ys.length ≤ 9223372036854775807) := Lib.hid (by omega)
    have HZL : Hid (zs.length ≤ 9223372036854775807) := Lib.hid (by omega)
    clear cl hl h4096 hsl hq0 hnl hsel
    go_enter Tryd.func11, Tryd.ntmps11
    go_wp2_with fail
    refine CL.out.mono ?_
    rintro e w1 ⟨rfl, rfl⟩
    go_wp2_with fail
    refine (awake2_any _ HQ.out.ok).mono ?_
    rintro e w2 ⟨rfl, hb2⟩
    have hq2 := HQ.out.step hb2
    have hs2 := HS.out.step hb2
    clear hb2
    go_wp2_with fail
    refine (CN.out _ hq2.ok hs2).mono ?_
    rintro e w3 ⟨A3, c3, rfl, hc3, hsl3, hb3⟩
    have hq3 := hq2.step hb3
    have hs3 := hs2.step hb3
    clear hb3 hs2
    go_wp2_with fail
    refine (CSN.out _ hs3).mono ?_
    rintro e w4 ⟨A4, c4, rfl, hc4, hsl4, hb4⟩
    have hq4 := hq3.step hb4
    have hs4 := hs3.step hb4
    have hsl34 := hsl3.step hb4
    clear hb4 hs3 hsl3
    go_wp2_with fail
    have cs := same_any A3 A4 c3 c4 ys ys w4 _ hsl34 hsl4 HNL.out HNL.out
    rw [same_self] at cs
    refine cs.mono ?_
    rintro e w5 ⟨rfl, n, rfl⟩
    have hq5 := hq4.drewN n
    have hs5 := hs4.step (below_draw w4 n)
    clear cs hsl34 hsl4 hs4
    go_wp2_with fail
    refine (CE.out _ hq5.ok hs5).mono ?_
    rintro e w6 ⟨A6, c6, rfl, hc6, hsl6, hb6⟩
    have hq6 := hq5.step hb6
    have hs6 := hs5.step hb6
    clear hb6 hs5
    go_wp2_with fail
    refine (CSE.out _ hs6).mono ?_
    rintro e w7 ⟨A7, c7, rfl, hc7, hsl7, hb7⟩
    have hq7 := hq6.step hb7
    have hsl67 := hsl6.step hb7
    clear hb7 hs6 hsl6
    go_wp2_with fail
    have cs := same_any A6 A7 c6 c7 zs zs w7 _ hsl67 hsl7 HZL.out HZL.out
    rw [same_self] at cs
    refine cs.mono ?_
    rintro e w8 ⟨rfl, n, rfl⟩
    have hq8 := hq7.drewN n
    clear cs
    go_wp2_with fail
    go_ret
    exact ⟨rfl, hq8.1⟩

end Go.Proofs.YtdoginjdlckbpaaDoor
