/-
  What Props of message answers. Conditions: the list reads as data; lengths fit an int.
-/
import Derived.Test.YtjhojpghllnoiaaDoorKeyP
namespace Go.Proofs.YtjhojpghllnoiaaDoor
open Go.RowKit

theorem PropsRel.err {l : List PR} {k : Nat} {x : PR} (h : PropsRel l k) (hx : l[k]? = some x) (hc : chkP x.1 x.2 ≠ 0) : propsF none l = chkP x.1 x.2 := by
  rw [h.unf hx]
  unfold chkP at hc ⊢
  split
  · rfl
  · split
    · rfl
    · next h1 h2 => rw [if_neg h1, if_neg h2] at hc; exact absurd rfl hc
theorem chkP_ok {k v : ByteArray} (h : chkP k v = 0) : keyR k = true ∧ ¬ 160 < v.size := by
  unfold chkP at h
  split at h
  · cases h
  · next h1 =>
    split at h
    · cases h
    · next h2 => exact ⟨by simpa using h1, h2⟩
/-- a block of its own for one property -/
theorem box_prop (wr : World) (x : PR) (w1 : World) (hb : Below (wr.alloc (.cells #[.string x.1, .string x.2] 82)).heap.size (wr.alloc (.cells #[.string x.1, .string x.2] 82)) w1) :
    w1.cell? ⟨wr.heap.size, 0, none⟩ = some (.string x.1) ∧ w1.cell? ⟨wr.heap.size, 1, none⟩ = some (.string x.2) := by
  refine ⟨(hb.cell (p := ⟨wr.heap.size, 0, none⟩) (by simp)).trans ?_, (hb.cell (p := ⟨wr.heap.size, 1, none⟩) (by simp)).trans ?_⟩
  · rw [World.cell?_alloc_at _ _ _ _ (by rfl)]; rfl
  · rw [World.cell?_alloc_at _ _ _ _ (by rfl)]; rfl

set_option maxRecDepth 20000 in
set_option maxHeartbeats 4000000 in
theorem props_any (A : Option Addr) (c : Nat) (l : List PR) (w : World) (hsl : PL w w.heap.size A l) :
    Calls Tryd.prog 52 #[.slice A l.length c] w fun e w' => e = .returned (.int .i64 (propsR l)) ∧ Below w.heap.size w w' := by
  unfold propsR
  by_cases h8 : 8 < l.length
  · rw [if_pos h8]
    have hd : decide ((8 : Int) < (l.length : Int)) = true := decide_eq_true (by omega)
    clear hsl
    go_enter Tryd.func52, Tryd.ntmps52
    go_wp2
    go_ret
    exact ⟨rfl, Below.refl _ _⟩
  rw [if_neg h8]
  have hd : decide ((8 : Int) < (l.length : Int)) = false := decide_eq_false (by omega)
  have HS := Lib.hid hsl
  have H8 := Lib.hid h8
  clear hsl h8
  go_enter Tryd.func52, Tryd.ntmps52
  go_wp2
  go_loopg [11] l.length (fun g v wr => ∃ k : Nat, k + g = l.length ∧ v = .int .i64 k ∧ PropsRel l k ∧ Below w.heap.size w wr)
  case atStart => exact ⟨0, by omega, rfl, PropsRel.start _, Below.refl _ _⟩
  case round =>
    obtain ⟨k, hkg, rfl, hrel, hb⟩ := hrel
    have HR := Lib.hid hrel
    have HB := Lib.hid hb
    have HG := Lib.hid hkg
    clear hrel
    cases gk with
    | zero =>
      obtain rfl : k = l.length := by omega
      have HV : Hid (propsF none l = 0) := Lib.hid (PropsRel.done HR.out)
      clear hkg hb
      go_wp2
      go_ret
      exact ⟨ret_i2 (by rw [HV.out]; rfl), HB.out⟩
    | succ g =>
      have hlt : k < l.length := by omega
      have e3 : decide ((k : Int) < (l.length : Int)) = true := decide_eq_true (by omega)
      obtain ⟨x, hx⟩ : ∃ x, l[k]? = some x := ⟨_, List.getElem?_eq_getElem hlt⟩
      obtain ⟨b, o, hA, hbB, kk, kv⟩ := PL.at_ (HS.out.step hb) hx
      subst hA
      have j1 : (0 : Int) ≤ (k : Int) := by omega
      have j2 : (k : Int) < (l.length : Int) := by omega
      have HX := Lib.hid hx
      have KX := fun w => checkProp_any x.1 x.2 w
      generalize hkx : chkP x.1 x.2 = ck at KX
      have HKX := Lib.hid hkx
      have HC := Lib.hid KX
      clear hkg hx hkx KX hb
      go_wp2_with fail
      refine (HC.out _).mono ?_
      rintro e w1 ⟨rfl, hb1⟩
      have HB1 := Lib.hid (stepB (stepB HB.out ((Below.refl _ _).alloc (Nat.le_refl _) (.cells #[.string x.1, .string x.2] 82))) hb1)
      obtain ⟨p0, p1⟩ := box_prop wr x w1 hb1
      clear hb1 kk kv
      by_cases hck : ck = 0
      · subst hck
        obtain ⟨hk1, hv1⟩ := chkP_ok HKX.out
        have HK1 := Lib.hid hk1
        have HV1 := Lib.hid hv1
        clear hk1 hv1
        by_cases hk0 : k = 0
        · have hpk : prevK l k = none := by unfold prevK; rw [if_pos hk0]
          have HN := Lib.hid (HR.out.next HX.out HK1.out HV1.out (by rw [hpk]))
          have q2 : decide ((0 : Int) < (k : Int)) = false := decide_eq_false (by omega)
          have q2' : decide (0 < k) = false := decide_eq_false (by omega)
          clear hpk hk0
          go_wp2
          go_quiet (fail)
          go_wp2
          go_roundg g
          case measure => omega
          case rel => exact ⟨k + 1, by have := HG.out; omega, nxt k (by have := H8.out; have := HG.out; omega), HN.out, stepB HB1.out (below_drewN _ _)⟩
        · obtain ⟨p, hp⟩ : ∃ p, k = p + 1 := ⟨k - 1, by omega⟩
          have hpl : p < l.length := by omega
          obtain ⟨y, hy⟩ : ∃ y, l[p]? = some y := ⟨_, List.getElem?_eq_getElem hpl⟩
          obtain ⟨b', o', hA', _, kp, _⟩ := PL.at_ (HS.out.step HB1.out) hy
          simp only [Option.some.injEq, Addr.mk.injEq, and_true] at hA'
          obtain ⟨rfl, rfl⟩ := hA'
          have hpk : prevK l k = some y.1 := by unfold prevK; rw [if_neg hk0, show k - 1 = p by omega, hy]; rfl
          have q2 : decide ((0 : Int) < (k : Int)) = true := decide_eq_true (by omega)
          have q2' : decide (0 < k) = true := decide_eq_true (by omega)
          have j3 : IntKind.i64.wrap ((k : Int) - 1) = (p : Int) := by rw [wrap_i64_id _ (by omega) (by have := H8.out; omega)]; omega
          have j4 : (0 : Int) ≤ (p : Int) := by omega
          have j5 : (p : Int) < (l.length : Int) := by omega
          have HPK := Lib.hid hpk
          clear hpk hy hp hk0
          cases hlt2 : ltS y.1 x.1
          · have q3 : (Op.bytesLess x.1.toList y.1.toList || x.1.toList == y.1.toList) = true := by rw [le_data, hlt2]; rfl
            have HV : Hid (propsF none l = 16) := Lib.hid (by rw [HR.out.unf HX.out, if_neg (by rw [HK1.out]; simp), if_neg HV1.out, if_pos (by rw [HPK.out]; simp [hlt2])])
            go_wp2
            go_quiet (fail)
            go_wp2
            go_ret
            exact ⟨ret_i2 (by rw [HV.out]; rfl), stepB HB1.out (below_drewN _ _)⟩
          · have q3 : (Op.bytesLess x.1.toList y.1.toList || x.1.toList == y.1.toList) = false := by rw [le_data, hlt2]; rfl
            have HN := Lib.hid (HR.out.next HX.out HK1.out HV1.out (by rw [HPK.out]; simp [hlt2]))
            go_wp2
            go_quiet (fail)
            go_wp2
            go_roundg g
            case measure => omega
            case rel => exact ⟨k + 1, by have := HG.out; omega, nxt k (by have := H8.out; have := HG.out; omega), HN.out, stepB HB1.out (below_drewN _ _)⟩
      · have HV := Lib.hid (HR.out.err HX.out (by rw [HKX.out]; exact hck))
        have q0 : ((ck : Int) != 0) = true := by simp; omega
        clear hck
        go_wp2
        go_ret
        exact ⟨ret_i2 (by rw [HV.out, HKX.out]), HB1.out⟩
end Go.Proofs.YtjhojpghllnoiaaDoor
