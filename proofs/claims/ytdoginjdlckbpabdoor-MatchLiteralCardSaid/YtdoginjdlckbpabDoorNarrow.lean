/-
  What Narrow and Select of the program answer. Conditions: MaxLen holds a number; the list reads as at most 1000000 texts.
-/
import Derived.Test.YtdoginjdlckbpabDoorMatch
namespace Go.Proofs.YtdoginjdlckbpabDoor
open Go.RowKit

theorem Own.below {w w' : World} {B : Nat} {v : Value} {xs : List ByteArray} (h : Own w B v xs) (hb : Below w.heap.size w w') : Own w' B v xs :=
  World.ownsRow.kept (row := none) h ⟨hb.os, hb.tape, hb.output, hb.size, fun i hi _ => hb.block i hi⟩ (by cases v.ownBlock <;> simp)
theorem Qk.of {W w : World} (hw : Okw W) (hb : Below W.heap.size W w) : Qk W w := ⟨hb, hw.step hb⟩
theorem SL.at_ {W w : World} {A : Option Addr} {xs : List ByteArray} (h : SL W W.heap.size A xs) (hb : Below W.heap.size W w) : SL w w.heap.size A xs := (h.below hb).more hb.size

theorem narrow_yes {xs : List ByteArray} {k : Nat} {x : ByteArray} (hx : xs[k]? = some x) (h : keepB xs k = true) : narrowB xs (k + 1) = narrowB xs k ++ [x] := by
  unfold narrowB
  rw [List.range_succ, List.filter_append, List.map_append]
  simp [h]
  rw [← getD_at hx, List.getD_eq_getElem?_getD]
theorem narrow_no {xs : List ByteArray} {k : Nat} (h : keepB xs k = false) : narrowB xs (k + 1) = narrowB xs k := by
  unfold narrowB
  rw [List.range_succ, List.filter_append, List.map_append]
  simp [h]
theorem narrow_le (xs : List ByteArray) (k : Nat) : (narrowB xs k).length ≤ k := by
  unfold narrowB
  rw [List.length_map]
  exact Nat.le_trans (List.length_filter_le _ _) (by simp)

set_option maxHeartbeats 4000000 in
theorem mNarrow_any (A : Option Addr) (c : Nat) (xs : List ByteArray) (w : World) (hw : Okw w) (h : SL w w.heap.size A xs) (hx63 : xs.length ≤ 1000000) :
    Calls Tryd.prog 11 #[.slice A xs.length c] w (RetStrs (narrowB xs xs.length) w) := by
  have HW := Lib.hid hw
  have HS := Lib.hid h
  clear h hw
  go_enter Tryd.func11, Tryd.ntmps11
  go_wp2
  go_loopg [3, 8] xs.length (fun g u v wr => ∃ k : Nat, k + g = xs.length ∧ v = .int .i64 k ∧ Own wr w.heap.size u (narrowB xs k) ∧ Below w.heap.size w wr)
  case atStart => exact ⟨0, by omega, rfl, Own.nil _ _, Below.refl _ _⟩
  case round =>
    obtain ⟨k, hkg, rfl, hown, hb⟩ := hrel
    cases gk with
    | zero =>
      obtain rfl : k = xs.length := by omega
      clear hkg
      go_wp2
      go_ret
      obtain ⟨A', c', hv, hc, hsl⟩ := hown.ret
      exact ⟨A', c', congrArg Ending.returned hv, hc, hsl, hb⟩
    | succ g =>
      have hlt : k < xs.length := by omega
      have HG := Lib.hid hkg
      have hslr := HS.out.at_ hb
      have HSL := Lib.hid hslr
      obtain ⟨b, o, rfl, hbB, hcl⟩ := hslr (by omega)
      obtain ⟨x, hx⟩ : ∃ x, xs[k]? = some x := ⟨_, List.getElem?_eq_getElem hlt⟩
      have k1 := hcl k x hx
      have hnl := narrow_le xs k
      have hkeep : keepB xs k = (T.filterL (dl x) && !dispB xs k) := by unfold keepB; rw [getD_at hx]
      have HNO := Lib.hid (narrow_no (xs := xs) (k := k))
      have HYES := Lib.hid (narrow_yes hx)
      have cf := fun w hw => tFilter_any x w hw
      have cd := fun (c : Nat) w hw hs => mDisp_any (some ⟨b, o, none⟩) c xs k w hw hs hlt (by omega)
      generalize T.filterL (dl x) = fl at cf hkeep
      generalize dispB xs k = dp at cd hkeep
      have HK := Lib.hid hkeep
      have CF := Lib.hid cf
      have CD := Lib.hid cd
      have HOWN := Lib.hid hown
      have hq := Qk.of HW.out hb
      have hszr := hb.size
      clear hcl hx hkg hslr hkeep cf cd hown hb
      cases fl
      · go_wp2_with fail
        refine (CF.out _ hq.ok).mono ?_
        rintro e w2 ⟨rfl, hb2⟩
        have HB2 := Lib.hid hb2
        clear hb2
        go_wp2
        go_roundg g
        case measure => omega
        case rel => exact ⟨k + 1, by have := HG.out; omega, by go_num, by rw [HNO.out (by rw [HK.out]; rfl)]; exact HOWN.out.below HB2.out, (hq.step HB2.out).1⟩
      · cases dp
        · go_wp2_with fail
          refine (CF.out _ hq.ok).mono ?_
          rintro e w2 ⟨rfl, hb2⟩
          have hq2 := hq.step hb2
          have hs2 := HSL.out.step hb2
          have hown2 := HOWN.out.below hb2
          clear hb2
          go_wp2_with fail
          refine (CD.out _ _ hq2.ok hs2).mono ?_
          rintro e w3 ⟨rfl, hb3⟩
          have hq3 := hq2.step hb3
          have hown3 := hown2.below hb3
          have hbz := hq3.1
          have hsz3 := hbz.size
          clear hb3 hs2
          go_wp2_with (at_builtin; refine wpList_app1 _ rfl _ _ rfl w.heap.size u3 (narrowB xs k) x rfl hown3 rfl w hbz hsz3 (by omega) ?_; intro v' w4 hown4 hb4 hsz4)
          go_roundg g
          case measure => omega
          case rel => exact ⟨k + 1, by have := HG.out; omega, by go_num, by rw [HYES.out (by rw [HK.out]; rfl)]; exact hown4, hb4⟩
        · go_wp2_with fail
          refine (CF.out _ hq.ok).mono ?_
          rintro e w2 ⟨rfl, hb2⟩
          have hq2 := hq.step hb2
          have hs2 := HSL.out.step hb2
          have hown2 := HOWN.out.below hb2
          clear hb2
          go_wp2_with fail
          refine (CD.out _ _ hq2.ok hs2).mono ?_
          rintro e w3 ⟨rfl, hb3⟩
          have hq3 := hq2.step hb3
          have hown3 := hown2.below hb3
          have hbz := hq3.1
          clear hb3 hs2
          go_wp2
          go_roundg g
          case measure => omega
          case rel => exact ⟨k + 1, by have := HG.out; omega, by go_num, by rw [HNO.out (by rw [HK.out]; rfl)]; exact hown3, hbz⟩

theorem sel_yes {f x : ByteArray} {xs : List ByteArray} {k : Nat} (hx : xs[k]? = some x) (h : matchesL f x = true) : selectB f (xs.take (k + 1)) = selectB f (xs.take k) ++ [x] := by
  unfold selectB
  rw [List.take_add_one, hx, List.filter_append]
  simp [h]
theorem sel_no {f x : ByteArray} {xs : List ByteArray} {k : Nat} (hx : xs[k]? = some x) (h : matchesL f x = false) : selectB f (xs.take (k + 1)) = selectB f (xs.take k) := by
  unfold selectB
  rw [List.take_add_one, hx, List.filter_append]
  simp [h]
theorem sel_le (f : ByteArray) (xs : List ByteArray) (k : Nat) : (selectB f (xs.take k)).length ≤ k := by
  unfold selectB
  exact Nat.le_trans (List.length_filter_le _ _) (List.length_take_le _ _)

set_option maxHeartbeats 4000000 in
theorem mSelect_any (f : ByteArray) (A : Option Addr) (c : Nat) (xs : List ByteArray) (w : World) (hw : Okw w) (h : SL w w.heap.size A xs) (hx63 : xs.length ≤ 1000000) :
    Calls Tryd.prog 12 #[.string f, .slice A xs.length c] w (RetStrs (selectB f xs) w) := by
  have HW := Lib.hid hw
  have HS := Lib.hid h
  clear h hw
  go_enter Tryd.func12, Tryd.ntmps12
  go_wp2
  go_loopg [5, 10] xs.length (fun g u v wr => ∃ k : Nat, k + g = xs.length ∧ v = .int .i64 k ∧ Own wr w.heap.size u (selectB f (xs.take k)) ∧ Below w.heap.size w wr)
  case atStart => exact ⟨0, by omega, rfl, Own.nil _ _, Below.refl _ _⟩
  case round =>
    obtain ⟨k, hkg, rfl, hown, hb⟩ := hrel
    cases gk with
    | zero =>
      obtain rfl : k = xs.length := by omega
      rw [List.take_length] at hown
      clear hkg
      go_wp2
      go_ret
      obtain ⟨A', c', hv, hc, hsl⟩ := hown.ret
      exact ⟨A', c', congrArg Ending.returned hv, hc, hsl, hb⟩
    | succ g =>
      have hlt : k < xs.length := by omega
      have HG := Lib.hid hkg
      have hslr := HS.out.at_ hb
      obtain ⟨b, o, rfl, hbB, hcl⟩ := hslr (by omega)
      obtain ⟨x, hx⟩ : ∃ x, xs[k]? = some x := ⟨_, List.getElem?_eq_getElem hlt⟩
      have k1 := hcl k x hx
      have hnl := sel_le f xs k
      have HNO := Lib.hid (sel_no (f := f) hx)
      have HYES := Lib.hid (sel_yes (f := f) hx)
      have cm := fun w hw => mMatches_any f x w hw
      generalize matchesL f x = mt at cm HNO HYES
      have CM := Lib.hid cm
      have HOWN := Lib.hid hown
      have hq := Qk.of HW.out hb
      clear hcl hx hkg hslr cm hown hb
      cases mt
      · go_wp2_with fail
        refine (CM.out _ hq.ok).mono ?_
        rintro e w2 ⟨rfl, hb2⟩
        have HB2 := Lib.hid hb2
        clear hb2
        go_wp2
        go_roundg g
        case measure => omega
        case rel => exact ⟨k + 1, by have := HG.out; omega, by go_num, by rw [HNO.out (by simp)]; exact HOWN.out.below HB2.out, (hq.step HB2.out).1⟩
      · go_wp2_with fail
        refine (CM.out _ hq.ok).mono ?_
        rintro e w2 ⟨rfl, hb2⟩
        have hq2 := hq.step hb2
        have hown2 := HOWN.out.below hb2
        have hbz := hq2.1
        have hsz2 := hbz.size
        clear hb2
        go_wp2_with (at_builtin; refine wpList_app1 _ rfl _ _ rfl w.heap.size u5 (selectB f (xs.take k)) x rfl hown2 rfl w hbz hsz2 (by omega) ?_; intro v' w4 hown4 hb4 hsz4)
        go_roundg g
        case measure => omega
        case rel => exact ⟨k + 1, by have := HG.out; omega, by go_num, by rw [HYES.out (by simp)]; exact hown4, hb4⟩

end Go.Proofs.YtdoginjdlckbpabDoor
