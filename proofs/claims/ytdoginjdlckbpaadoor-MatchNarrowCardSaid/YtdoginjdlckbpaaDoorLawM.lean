/-
  Three statements on matching answer true: the walks of MatchCovers, MatchMeets and MatchNarrow, from the contracts. Conditions: MaxLen holds a number; for the list statement the list reads as texts.
-/
import Derived.Test.YtdoginjdlckbpaaDoorPure4
import Derived.Test.YtdoginjdlckbpaaDoorAwake2
namespace Go.Proofs.YtdoginjdlckbpaaDoor
open Go.RowKit

set_option maxHeartbeats 2000000 in
theorem matchCovers_walk (a b n : ByteArray) (w : World) (hw : Okw w) (_ : a.size ≤ 140737488355328) (_ : b.size ≤ 140737488355328) (_ : n.size ≤ 140737488355328) :
    Calls Tryd.prog 12 #[.string a, .string b, .string n] w fun e w' => e = .returned (.bool true) ∧ Below w.heap.size w w' := by
  have HT := Lib.hid (match_covers (a := a) (b := b) (n := n))
  have c1 := fun w hw => mCov_any a b w hw
  have c2 := fun w hw => mMatches_any b n w hw
  have c3 := fun w hw => mMatches_any a n w hw
  generalize coversL a b = x at *
  generalize matchesL b n = y at *
  generalize matchesL a n = z at *
  have HQ := Lib.hid (Qk.refl hw)
  have C1 := Lib.hid c1
  have C2 := Lib.hid c2
  have C3 := Lib.hid c3
  clear c1 c2 c3
  cases x <;> cases y <;> cases z
  all_goals try (exact absurd (HT.out rfl rfl) (by decide))
  all_goals
    go_enter Tryd.func12, Tryd.ntmps12
    go_wp2_with first
      | (go_at_call 34; refine (awake2_any _ hw).mono ?_; rintro e w1 ⟨rfl, hb1⟩; have hq := HQ.out.step hb1; clear hb1)
      | (go_at_call 39; refine (C1.out _ hq.2).mono ?_; rintro e w2 ⟨rfl, hb⟩; have hq := hq.step hb; clear hb)
      | (go_at_call 35; (with_reducible refine (C2.out _ hq.ok).mono ?_); rintro e w2 ⟨rfl, hb⟩; have hq := hq.step hb; clear hb)
      | (go_at_call 35; (with_reducible refine (C3.out _ hq.ok).mono ?_); rintro e w2 ⟨rfl, hb⟩; have hq := hq.step hb; clear hb)
    go_ret
    exact ⟨rfl, hq.1⟩

set_option maxHeartbeats 4000000 in
theorem matchMeets_none (a b n : ByteArray) (w : World) (hw : Okw w) (hr : cmRes a b = none) :
    Calls Tryd.prog 13 #[.string a, .string b, .string n] w fun e w' => e = .returned (.bool true) ∧ Below w.heap.size w w' := by
  have HT : Hid (matchesL a n = true → matchesL b n = true → False) := Lib.hid fun h1 h2 => by
    have := meets_of h1 h2
    rw [hr] at this; cases this
  have c1 := fun w hw => mMatches_any a n w hw
  have c2 := fun w hw => mMatches_any b n w hw
  have c3 := fun w hw => mMeets_any a b w hw
  have c4 := fun w hw => mCom_x a b w hw
  rw [hr] at c3 c4
  generalize matchesL a n = x at *
  generalize matchesL b n = y at *
  have HQ := Lib.hid (Qk.refl hw)
  have C1 := Lib.hid c1
  have C2 := Lib.hid c2
  have C3 := Lib.hid c3
  have C4 := Lib.hid c4
  clear c1 c2 c3 c4 hr
  have hq := HQ.out
  cases x <;> cases y
  all_goals try (exact (HT.out rfl rfl).elim)
  all_goals
    go_enter Tryd.func13, Tryd.ntmps13
    go_wp2_with first
      | (go_at_call 34; refine (awake2_any _ hq.ok).mono ?_; rintro e w1 ⟨rfl, hb1⟩; have hq := hq.step hb1; clear hb1)
      | (go_at_call 41; refine (C3.out _ hq.ok).mono ?_; rintro e w2 ⟨rfl, hb⟩; have hq := hq.step hb; clear hb)
      | (go_at_call 37; refine (C4.out _ hq.ok).mono ?_; rintro e w2 ⟨rfl, hb⟩; have hq := hq.step hb; clear hb)
      | (go_at_call 35; (with_reducible refine (C1.out _ hq.ok).mono ?_); rintro e w2 ⟨rfl, hb⟩; have hq := hq.step hb; clear hb)
      | (go_at_call 35; (with_reducible refine (C2.out _ hq.ok).mono ?_); rintro e w2 ⟨rfl, hb⟩; have hq := hq.step hb; clear hb)
    go_ret
    exact ⟨rfl, hq.1⟩

set_option maxHeartbeats 4000000 in
theorem matchMeets_some (a b n c : ByteArray) (w : World) (hw : Okw w) (hr : cmRes a b = some c) :
    Calls Tryd.prog 13 #[.string a, .string b, .string n] w fun e w' => e = .returned (.bool true) ∧ Below w.heap.size w w' := by
  have HT := Lib.hid (com_matched hr)
  have c1 := fun w hw => mMatches_any a n w hw
  have c2 := fun w hw => mMatches_any b n w hw
  have c3 := fun w hw => mMeets_any a b w hw
  have c4 := fun w hw => mCom_x a b w hw
  have c5 := fun w hw => tValid_any c w hw
  have c6 := fun w hw => mMatches_any a c w hw
  have c7 := fun w hw => mMatches_any b c w hw
  rw [hr] at c3 c4
  generalize matchesL a n = x at *
  generalize matchesL b n = y at *
  generalize T.validL (dl c) = v at *
  generalize matchesL a c = p at *
  generalize matchesL b c = q at *
  have HQ := Lib.hid (Qk.refl hw)
  have C1 := Lib.hid c1
  have C2 := Lib.hid c2
  have C3 := Lib.hid c3
  have C4 := Lib.hid c4
  have C5 := Lib.hid c5
  have C6 := Lib.hid c6
  have C7 := Lib.hid c7
  clear c1 c2 c3 c4 c5 c6 c7 hr
  have hq := HQ.out
  have HP : Hid (v = true → p = true) := Lib.hid fun h => (HT.out h).1
  have HPQ : Hid (v = true → q = true) := Lib.hid fun h => (HT.out h).2
  clear HT
  cases v
  · clear HP HPQ C6 C7
    cases x <;> cases y
    all_goals
      go_enter Tryd.func13, Tryd.ntmps13
      go_wp2_with first
        | (go_at_call 34; refine (awake2_any _ hq.ok).mono ?_; rintro e w1 ⟨rfl, hb1⟩; have hq := hq.step hb1; clear hb1)
        | (go_at_call 18; refine (C5.out _ hq.ok).mono ?_; rintro e w2 ⟨rfl, hb⟩; have hq := hq.step hb; clear hb)
        | (go_at_call 41; refine (C3.out _ hq.ok).mono ?_; rintro e w2 ⟨rfl, hb⟩; have hq := hq.step hb; clear hb)
        | (go_at_call 37; refine (C4.out _ hq.ok).mono ?_; rintro e w2 ⟨rfl, hb⟩; have hq := hq.step hb; clear hb)
        | (go_at_call 35; (with_reducible refine (C1.out _ hq.ok).mono ?_); rintro e w2 ⟨rfl, hb⟩; have hq := hq.step hb; clear hb)
        | (go_at_call 35; (with_reducible refine (C2.out _ hq.ok).mono ?_); rintro e w2 ⟨rfl, hb⟩; have hq := hq.step hb; clear hb)
      go_ret
      exact ⟨rfl, hq.1⟩
  · obtain rfl := HP.out rfl
    obtain rfl := HPQ.out rfl
    clear HP HPQ
    cases x <;> cases y
    all_goals
      go_enter Tryd.func13, Tryd.ntmps13
      go_wp2_with first
        | (go_at_call 34; refine (awake2_any _ hq.ok).mono ?_; rintro e w1 ⟨rfl, hb1⟩; have hq := hq.step hb1; clear hb1)
        | (go_at_call 18; refine (C5.out _ hq.ok).mono ?_; rintro e w2 ⟨rfl, hb⟩; have hq := hq.step hb; clear hb)
        | (go_at_call 41; refine (C3.out _ hq.ok).mono ?_; rintro e w2 ⟨rfl, hb⟩; have hq := hq.step hb; clear hb)
        | (go_at_call 37; refine (C4.out _ hq.ok).mono ?_; rintro e w2 ⟨rfl, hb⟩; have hq := hq.step hb; clear hb)
        | (go_at_call 35; (with_reducible refine (C1.out _ hq.ok).mono ?_); rintro e w2 ⟨rfl, hb⟩; have hq := hq.step hb; clear hb)
        | (go_at_call 35; (with_reducible refine (C2.out _ hq.ok).mono ?_); rintro e w2 ⟨rfl, hb⟩; have hq := hq.step hb; clear hb)
        | (go_at_call 35; (with_reducible refine (C6.out _ hq.ok).mono ?_); rintro e w2 ⟨rfl, hb⟩; have hq := hq.step hb; clear hb)
        | (go_at_call 35; (with_reducible refine (C7.out _ hq.ok).mono ?_); rintro e w2 ⟨rfl, hb⟩; have hq := hq.step hb; clear hb)
      go_ret
      exact ⟨rfl, hq.1⟩

theorem matchMeets_walk (a b n : ByteArray) (w : World) (hw : Okw w) (_ : a.size ≤ 140737488355328) (_ : b.size ≤ 140737488355328) (_ : n.size ≤ 140737488355328) :
    Calls Tryd.prog 13 #[.string a, .string b, .string n] w fun e w' => e = .returned (.bool true) ∧ Below w.heap.size w w' := by
  cases hr : cmRes a b with
  | none => exact matchMeets_none a b n w hw hr
  | some c => exact matchMeets_some a b n c w hw hr

theorem any_succ {xs : List ByteArray} {n x : ByteArray} {k : Nat} (hx : xs[k]? = some x) : anyM (xs.take (k + 1)) n = (anyM (xs.take k) n || matchesL x n) := by
  unfold anyM
  rw [List.take_add_one, hx, List.any_append]
  simp

set_option maxHeartbeats 4000000 in
theorem matchNarrow_walk (A : Option Addr) (c : Nat) (xs : List ByteArray) (n : ByteArray) (w : World) (hw : Okw w) (hsl : SL w w.heap.size A xs) (_ : xs.length ≤ c) (hN : xs.length ≤ 140737488355328) (_ : n.size ≤ 140737488355328) :
    Calls Tryd.prog 14 #[.slice A xs.length c, .string n] w fun e w' => e = .returned (.bool true) ∧ Below w.heap.size w w' := by
  have hq0 := Qk.refl hw
  cases hl : lightB 32 xs
  · have cl := light32_any A c xs w _ hsl hN
    rw [hl] at cl
    have CL := Lib.hid cl
    clear cl hl hsl
    go_enter Tryd.func14, Tryd.ntmps14
    go_wp2_with fail
    refine CL.out.mono ?_
    rintro e w1 ⟨rfl, rfl⟩
    go_wp2_with fail
    refine (awake2_any _ hw).mono ?_
    rintro e w2 ⟨rfl, hb2⟩
    go_wp2_with fail
    go_ret
    exact ⟨rfl, hb2⟩
  · obtain ⟨h32, h4096⟩ := light_parts hl
    have cl := light32_any A c xs w _ hsl hN
    rw [hl] at cl
    have CL := Lib.hid cl
    have HS := Lib.hid hsl
    have HQ := Lib.hid hq0
    have HNA := Lib.hid (narrow_any xs n)
    have HNL := Lib.hid (narrow_le xs xs.length)
    have CN := Lib.hid (fun w hw hs => mNarrow_any A c xs w hw hs (by omega))
    generalize narrowB xs xs.length = ys at HNA HNL CN
    clear cl hl h4096 hsl hq0
    go_enter Tryd.func14, Tryd.ntmps14
    go_wp2_with fail
    refine CL.out.mono ?_
    rintro e w1 ⟨rfl, rfl⟩
    go_wp2_with fail
    go_loopg [5, 6] xs.length (fun g u v wr => ∃ k : Nat, k + g = xs.length ∧ v = .int .i64 k ∧ u = .bool (anyM (xs.take k) n) ∧ Qk w wr ∧ SL wr wr.heap.size A xs)
    case atStart => exact ⟨0, by omega, rfl, rfl, HQ.out, HS.out⟩
    case round =>
      obtain ⟨k, hkg, rfl, rfl, hq, hsl⟩ := hrel
      have HG := Lib.hid hkg
      have HR := Lib.hid hsl
      clear HQ HS
      cases gk with
      | zero =>
        obtain rfl : k = xs.length := by omega
        rw [List.take_length]
        have HAL := Lib.hid (rfl : anyM xs n = anyM xs n)
        generalize hal : anyM xs n = al at HNA ⊢
        clear hkg hsl hal HAL
        go_wp2_with fail
        refine (CN.out _ hq.ok HR.out).mono ?_
        rintro e w2 ⟨A2, c2, rfl, hc2, hsl2, hb2⟩
        have hq2 := hq.step hb2
        have hl2 := HNL.out
        have HS2 := Lib.hid hsl2
        clear hb2 hsl2 hq HR HG
        go_wp2_with fail
        go_loopg [8, 9] ys.length (fun g u v wr => ∃ k : Nat, k + g = ys.length ∧ v = .int .i64 k ∧ u = .bool (anyM (ys.take k) n) ∧ Qk w wr ∧ SL wr wr.heap.size A2 ys)
        case atStart => exact ⟨0, by omega, rfl, rfl, hq2, HS2.out⟩
        case round =>
          obtain ⟨k, hkg, rfl, rfl, hq, hsl⟩ := hrel
          have HG := Lib.hid hkg
          have HR := Lib.hid hsl
          clear HS2 hq2
          cases gk with
          | zero =>
            obtain rfl : k = ys.length := by omega
            rw [List.take_length, HNA.out]
            clear hkg hsl
            go_wp2_with fail
            refine (awake2_any _ hq.ok).mono ?_
            rintro e w3 ⟨rfl, hb3⟩
            have hq3 := hq.step hb3
            go_wp2_with fail
            go_ret
            exact ⟨retb (by simp), hq3.1⟩
          | succ g =>
            have hlt : k < ys.length := by omega
            obtain ⟨b, o, rfl, hbB, hcl⟩ := hsl (by omega)
            obtain ⟨x, hx⟩ : ∃ x, ys[k]? = some x := ⟨_, List.getElem?_eq_getElem hlt⟩
            have k1 := hcl k x hx
            have HA := Lib.hid (any_succ (n := n) hx)
            have cm := fun w hw => mMatches_any x n w hw
            generalize matchesL x n = m at cm HA
            generalize anyM (ys.take k) n = u at HA ⊢
            have CM := Lib.hid cm
            clear hcl hx hkg hsl cm
            cases u
            · go_wp2_with fail
              refine (CM.out _ hq.ok).mono ?_
              rintro e w2 ⟨rfl, hb2⟩
              have hq2 := hq.step hb2
              have hs2 := HR.out.step hb2
              clear hb2
              go_wp2_with fail
              go_roundg g
              case measure => omega
              case rel => exact ⟨k + 1, by have := HG.out; omega, by go_num, by rw [HA.out]; rfl, hq2, hs2⟩
            · go_wp2_with fail
              go_roundg g
              case measure => omega
              case rel => exact ⟨k + 1, by have := HG.out; omega, by go_num, by rw [HA.out]; rfl, hq, HR.out⟩
      | succ g =>
        have hlt : k < xs.length := by omega
        obtain ⟨b, o, rfl, hbB, hcl⟩ := hsl (by omega)
        obtain ⟨x, hx⟩ : ∃ x, xs[k]? = some x := ⟨_, List.getElem?_eq_getElem hlt⟩
        have k1 := hcl k x hx
        have HA := Lib.hid (any_succ (n := n) hx)
        have cm := fun w hw => mMatches_any x n w hw
        generalize matchesL x n = m at cm HA
        generalize anyM (xs.take k) n = u at HA ⊢
        have CM := Lib.hid cm
        clear hcl hx hkg hsl cm
        cases u
        · go_wp2_with fail
          refine (CM.out _ hq.ok).mono ?_
          rintro e w2 ⟨rfl, hb2⟩
          have hq2 := hq.step hb2
          have hs2 := HR.out.step hb2
          clear hb2
          go_wp2_with fail
          go_roundg g
          case measure => omega
          case rel => exact ⟨k + 1, by have := HG.out; omega, by go_num, by rw [HA.out]; rfl, hq2, hs2⟩
        · go_wp2_with fail
          go_roundg g
          case measure => omega
          case rel => exact ⟨k + 1, by have := HG.out; omega, by go_num, by rw [HA.out]; rfl, hq, HR.out⟩

end Go.Proofs.YtdoginjdlckbpaaDoor
