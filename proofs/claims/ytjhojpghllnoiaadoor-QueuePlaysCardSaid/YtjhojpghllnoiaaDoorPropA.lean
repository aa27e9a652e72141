/-
  What the specification's Props, Get and SameProps answer, and few of brokerlaw05. Conditions: the lists read as data; lengths fit an int.
-/
import Derived.Test.YtjhojpghllnoiaaDoorKeyA
import Derived.Deep.QuietTactic
import Derived.BigQuiet
import Derived.Deep.LoopGhost
namespace Go.Proofs.YtjhojpghllnoiaaDoor
open Go.RowKit

theorem nxt (k : Nat) (h : k ≤ 9223372036854775806) : Value.int .i64 (wrap64 ((k : Int) + 1)) = .int .i64 ((k + 1 : Nat) : Int) := by rw [wrap64_id _ (by omega) (by omega)]; rfl

def prevK (l : List PR) (k : Nat) : Option ByteArray := if k = 0 then none else (l[k - 1]?).map (·.1)
def PropsRel (l : List PR) (k : Nat) : Prop := propsF none l = propsF (prevK l k) (l.drop k)
theorem PropsRel.start (l : List PR) : PropsRel l 0 := rfl
theorem drop_at2 {l : List PR} {k : Nat} {x : PR} (hx : l[k]? = some x) : l.drop k = x :: l.drop (k + 1) := by
  obtain ⟨h, rfl⟩ := List.getElem?_eq_some_iff.1 hx
  exact List.drop_eq_getElem_cons h
theorem propsF_cons (p : Option ByteArray) (x : PR) (r : List PR) : propsF p (x :: r) = if keyR x.1 = false then 16 else if 160 < x.2.size then 5 else if (match p with | none => false | some q => !ltS q x.1) = true then 16 else propsF (some x.1) r := by cases p <;> rfl
theorem propsF_nil (p : Option ByteArray) : propsF p [] = 0 := by cases p <;> rfl
theorem PropsRel.unf {l : List PR} {k : Nat} {x : PR} (h : PropsRel l k) (hx : l[k]? = some x) :
    propsF none l = if keyR x.1 = false then 16 else if 160 < x.2.size then 5 else if (match prevK l k with | none => false | some q => !ltS q x.1) = true then 16 else propsF (some x.1) (l.drop (k + 1)) := by
  unfold PropsRel at h
  rw [h, drop_at2 hx, propsF_cons]
theorem PropsRel.next {l : List PR} {k : Nat} {x : PR} (h : PropsRel l k) (hx : l[k]? = some x) (h1 : keyR x.1 = true) (h2 : ¬ 160 < x.2.size) (h3 : (match prevK l k with | none => false | some q => !ltS q x.1) = false) : PropsRel l (k + 1) := by
  have h0 := h.unf hx
  rw [if_neg (by simp [h1]), if_neg h2, if_neg (by rw [h3]; simp)] at h0
  unfold PropsRel
  rw [h0]
  unfold prevK
  rw [if_neg (by omega), Nat.add_sub_cancel, hx]
  rfl
theorem PropsRel.done {l : List PR} (h : PropsRel l l.length) : propsF none l = 0 := by
  unfold PropsRel at h
  rw [h, List.drop_length, propsF_nil]

set_option maxRecDepth 20000 in
set_option maxHeartbeats 2000000 in
theorem vProps_any (A : Option Addr) (c : Nat) (l : List PR) (w : World) (hsl : PL w w.heap.size A l) (hz : ∀ x ∈ l, x.1.size ≤ 9223372036854775807) :
    Calls Tryd.prog 63 #[.slice A l.length c] w fun e w' => e = .returned (.int .i64 (propsR l)) ∧ Below w.heap.size w w' := by
  unfold propsR
  by_cases h8 : 8 < l.length
  · rw [if_pos h8]
    have hd : decide ((8 : Int) < (l.length : Int)) = true := decide_eq_true (by omega)
    clear hsl hz
    go_enter Tryd.func63, Tryd.ntmps63
    go_wp2
    go_ret
    exact ⟨rfl, Below.refl _ _⟩
  rw [if_neg h8]
  have hd : decide ((8 : Int) < (l.length : Int)) = false := decide_eq_false (by omega)
  have HS := Lib.hid hsl
  have HZ := Lib.hid hz
  have H8 := Lib.hid h8
  clear hsl hz h8
  go_enter Tryd.func63, Tryd.ntmps63
  go_wp2
  go_loopg [3] l.length (fun g v wr => ∃ k : Nat, k + g = l.length ∧ v = .int .i64 k ∧ PropsRel l k ∧ Below w.heap.size w wr)
  case atStart => exact ⟨0, by omega, rfl, PropsRel.start _, Below.refl _ _⟩
  case round =>
    obtain ⟨k, hkg, rfl, hrel, hb⟩ := hrel
    have HR := Lib.hid hrel
    have HB := Lib.hid hb
    have HG := Lib.hid hkg
    clear hrel
    cases gk with
    | zero =>
      obtain rfl : k = l.length := by omega
      have HV : Hid (propsF none l = 0) := Lib.hid (PropsRel.done HR.out)
      clear hkg hb
      go_wp2
      go_ret
      exact ⟨ret_i2 (by rw [HV.out]; rfl), HB.out⟩
    | succ g =>
      have hlt : k < l.length := by omega
      have e3 : decide ((k : Int) < (l.length : Int)) = true := decide_eq_true (by omega)
      obtain ⟨x, hx⟩ : ∃ x, l[k]? = some x := ⟨_, List.getElem?_eq_getElem hlt⟩
      obtain ⟨b, o, hA, hbB, kk, kv⟩ := PL.at_ (HS.out.step hb) hx
      subst hA
      have j1 : (0 : Int) ≤ (k : Int) := by omega
      have j2 : (k : Int) < (l.length : Int) := by omega
      have HX := Lib.hid hx
      have KX := fun w => vKey_any x.1 w (HZ.out x (List.mem_of_getElem? hx))
      generalize hkx : keyR x.1 = bk at KX
      have HKX := Lib.hid hkx
      have HC := Lib.hid KX
      clear hkg hx hkx KX
      cases bk
      · have HV : Hid (propsF none l = 16) := Lib.hid (by rw [HR.out.unf HX.out, if_pos HKX.out])
        clear hb
        go_wp2_with (go_at_call 74; refine (HC.out _).mono ?_; rintro e w' ⟨rfl, rfl⟩)
        go_ret
        exact ⟨ret_i2 (by rw [HV.out]; rfl), HB.out⟩
      by_cases hv : 160 < x.2.size
      · have HV : Hid (propsF none l = 5) := Lib.hid (by rw [HR.out.unf HX.out, if_neg (by rw [HKX.out]; simp), if_pos hv])
        have q1 : decide ((160 : Int) < (x.2.size : Int)) = true := decide_eq_true (by omega)
        clear hv hb
        go_wp2_with (go_at_call 74; refine (HC.out _).mono ?_; rintro e w' ⟨rfl, rfl⟩)
        go_ret
        exact ⟨ret_i2 (by rw [HV.out]; rfl), HB.out⟩
      have q1 : decide ((160 : Int) < (x.2.size : Int)) = false := decide_eq_false (by omega)
      have HV5 := Lib.hid hv
      clear hv
      have hbd : Below wr.heap.size wr wr.drew := (Below.refl _ _).drew
      by_cases hk0 : k = 0
      · have hpk : prevK l k = none := by unfold prevK; rw [if_pos hk0]
        have HN := Lib.hid (HR.out.next HX.out HKX.out HV5.out (by rw [hpk]))
        have q2 : decide ((0 : Int) < (k : Int)) = false := decide_eq_false (by omega)
        have q2' : decide (0 < k) = false := decide_eq_false (by omega)
        clear hb hpk hk0
        go_wp2_with (go_at_call 74; refine (HC.out _).mono ?_; rintro e w' ⟨rfl, rfl⟩)
        go_quiet (fail)
        go_wp2
        go_roundg g
        case measure => omega
        case rel => exact ⟨k + 1, by have := HG.out; omega, nxt k (by have := H8.out; have := HG.out; omega), HN.out, stepB HB.out (below_drewN _ _)⟩
      · obtain ⟨p, hp⟩ : ∃ p, k = p + 1 := ⟨k - 1, by omega⟩
        have hpl : p < l.length := by omega
        obtain ⟨y, hy⟩ : ∃ y, l[p]? = some y := ⟨_, List.getElem?_eq_getElem hpl⟩
        obtain ⟨b', o', hA', _, kp, _⟩ := PL.at_ (HS.out.step hb) hy
        simp only [Option.some.injEq, Addr.mk.injEq, and_true] at hA'
        obtain ⟨rfl, rfl⟩ := hA'
        have hpk : prevK l k = some y.1 := by unfold prevK; rw [if_neg hk0, show k - 1 = p by omega, hy]; rfl
        have q2 : decide ((0 : Int) < (k : Int)) = true := decide_eq_true (by omega)
        have q2' : decide (0 < k) = true := decide_eq_true (by omega)
        have j3 : IntKind.i64.wrap ((k : Int) - 1) = (p : Int) := by rw [wrap_i64_id _ (by omega) (by have := H8.out; omega)]; omega
        have j4 : (0 : Int) ≤ (p : Int) := by omega
        have j5 : (p : Int) < (l.length : Int) := by omega
        have HPK := Lib.hid hpk
        clear hpk hy hp hk0 hb
        cases hlt2 : ltS y.1 x.1
        · have q3 : (Op.bytesLess x.1.toList y.1.toList || x.1.toList == y.1.toList) = true := by rw [le_data, hlt2]; rfl
          have HV : Hid (propsF none l = 16) := Lib.hid (by rw [HR.out.unf HX.out, if_neg (by rw [HKX.out]; simp), if_neg HV5.out, if_pos (by rw [HPK.out]; simp [hlt2])])
          go_wp2_with (go_at_call 74; refine (HC.out _).mono ?_; rintro e w' ⟨rfl, rfl⟩)
          go_quiet (fail)
          go_wp2
          go_ret
          exact ⟨ret_i2 (by rw [HV.out]; rfl), stepB HB.out (below_drewN _ _)⟩
        · have q3 : (Op.bytesLess x.1.toList y.1.toList || x.1.toList == y.1.toList) = false := by rw [le_data, hlt2]; rfl
          have HN := Lib.hid (HR.out.next HX.out HKX.out HV5.out (by rw [HPK.out]; simp [hlt2]))
          go_wp2_with (go_at_call 74; refine (HC.out _).mono ?_; rintro e w' ⟨rfl, rfl⟩)
          go_quiet (fail)
          go_wp2
          go_roundg g
          case measure => omega
          case rel => exact ⟨k + 1, by have := HG.out; omega, nxt k (by have := H8.out; have := HG.out; omega), HN.out, stepB HB.out (below_drewN _ _)⟩
end Go.Proofs.YtjhojpghllnoiaaDoor
