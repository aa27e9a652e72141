/-
  Cells of a row stored one after the other. No function of the program is walked here.
-/
import Derived.Test.YthpplhhlhheopabGreatDoorBlk
namespace Go.Proofs.YthpplhhlhheopabGreatDoor.S2
open Go.RowKit

theorem bk_setCells {T : TypeId} {g : Nat} : ∀ (vs : List Value) (o : Nat) (w : World) (cs : List Value), BK T w g cs → o + vs.length ≤ cs.length → BK T (w.setCells g o vs) g (cs.take o ++ vs ++ cs.drop (o + vs.length))
  | [], o, w, cs, h, _ => by simpa [World.setCells] using h
  | v :: r, o, w, cs, h, hl => by
    have hl' : o < cs.length := by simp only [List.length_cons] at hl; omega
    have h1 := bk_setCells r (o + 1) _ _ (h.set o v) (by simp only [List.length_cons, List.length_set] at hl ⊢; omega)
    rw [World.setCells]
    have e : cs.set o v = cs.take o ++ v :: cs.drop (o + 1) := by rw [List.set_eq_take_append_cons_drop, if_pos hl']
    have htl : (cs.take o).length = o := by rw [List.length_take]; omega
    rw [e] at h1
    have e1 : (cs.take o ++ v :: cs.drop (o + 1)).take (o + 1) = cs.take o ++ [v] := by
      rw [List.take_append, htl, List.take_of_length_le (by omega)]
      simp
    have e2 : (cs.take o ++ v :: cs.drop (o + 1)).drop (o + 1 + r.length) = cs.drop (o + (r.length + 1)) := by
      rw [List.drop_append, htl, List.drop_of_length_le (by omega), show o + 1 + r.length - o = r.length + 1 by omega, List.drop_succ_cons, List.drop_drop]
      simp only [List.nil_append]
      congr 1
      omega
    rw [e1, e2] at h1
    simpa using h1
theorem below_sets {B g : Nat} (hg : B ≤ g) {a : World} : ∀ (vs : List Value) (o : Nat) (w : World), Below B a w → Below B a (w.setCells g o vs)
  | [], _, _, h => h
  | v :: r, o, _, h => below_sets hg r (o + 1) _ (h.setCell (p := ⟨g, o, none⟩) hg v)
theorem bk_sets_other {T : TypeId} {b g : Nat} (hne : b ≠ g) : ∀ (vs : List Value) (o : Nat) (w : World) (cs : List Value), BK T w b cs → BK T (w.setCells g o vs) b cs
  | [], _, _, _, h => h
  | v :: r, o, _, cs, h => bk_sets_other hne r (o + 1) _ cs (h.other (p := ⟨g, o, none⟩) hne v)
end Go.Proofs.YthpplhhlhheopabGreatDoor.S2
