/-
  What Mark of dead's reference answers: the marked message. Conditions: the message is valid, the queue's name a name, the reason one of the four.
-/
import Derived.Test.YthpplhhlhheopabGreatDoorDzG
namespace Go.Proofs.YthpplhhlhheopabGreatDoor
open Go.RowKit
open S2 (BK Put)

def keptF (l : List PR) (k : Nat) : List PR := ((l.take k).filter otherP).take 6
theorem keptF_zero (l : List PR) : keptF l 0 = [] := rfl
theorem keptF_all (l : List PR) : keptF l l.length = keptP l := by unfold keptF keptP restP; rw [List.take_length]
theorem keptF_len (l : List PR) (k : Nat) : (keptF l k).length ≤ 6 := by unfold keptF; rw [List.length_take]; omega
theorem keptF_skip {l : List PR} {k : Nat} {x : PR} (hx : l[k]? = some x) (h : otherP x = false) : keptF l (k + 1) = keptF l k := by
  unfold keptF
  rw [filt_no hx h]
theorem keptF_full {l : List PR} {k : Nat} (h : ¬ (keptF l k).length < 6) : keptF l (k + 1) = keptF l k := by
  unfold keptF at h ⊢
  rw [List.length_take] at h
  obtain ⟨r, hr⟩ : ∃ r, (l.take (k + 1)).filter otherP = (l.take k).filter otherP ++ r := by
    cases hc : l[k]? with
    | none => exact ⟨[], by rw [List.take_add_one, hc]; simp⟩
    | some x => exact ⟨[x].filter otherP, by rw [List.take_add_one, hc, List.filter_append]; rfl⟩
  rw [hr, List.take_append_of_le_length (by omega)]
theorem keptF_add {l : List PR} {k : Nat} {x : PR} (hx : l[k]? = some x) (h : otherP x = true) (h6 : (keptF l k).length < 6) : keptF l (k + 1) = keptF l k ++ [x] := by
  unfold keptF at h6 ⊢
  rw [List.length_take] at h6
  rw [filt_yes hx h, List.take_of_length_le (l := (l.take k).filter otherP ++ [x]) (by rw [List.length_append]; simp; omega), List.take_of_length_le (l := (l.take k).filter otherP) (by omega)]
theorem other_deaths {x : PR} (h : x.1 = kDeaths) : otherP x = false := by unfold otherP; rw [h]; simp
theorem other_died {x : PR} (h : x.1 = kDied) : otherP x = false := by unfold otherP; rw [h]; simp
theorem other_yes {x : PR} (h1 : x.1 ≠ kDeaths) (h2 : x.1 ≠ kDied) : otherP x = true := by unfold otherP; rw [decide_eq_true h1, decide_eq_true h2]; rfl
theorem own_put {g : Nat} {w w' : World} {B : Nat} {v : Value} {xs : List PR} (h : OwnP w B v xs) (hp : Put g w w') (hne : v.ownBlock ≠ some g) : OwnP w' B v xs := by
  rcases own_rowG h with ⟨rfl, rfl⟩ | ⟨q, cap, sp, rfl, hb, hq, hnc, hcm, hl⟩
  · exact OwnG.nil _ _
  · exact row_ownG gP_len hb (hp.other hq (fun e => hne (by rw [← e]; rfl))) hnc hcm hl
theorem own_new {w : World} {B : Nat} {v : Value} {xs : List PR} (h : OwnP w B v xs) : ∃ A c, v = .slice A xs.length c ∧ PL w w.heap.size A xs ∧ NewL B A := by
  obtain ⟨A, c, hv, _, hn, hg⟩ := h.retB gP_len
  exact ⟨A, c, hv, hg w (Nat.le_refl _) (fun _ _ => rfl), hn⟩

end Go.Proofs.YthpplhhlhheopabGreatDoor
