/-
  What the specification's Props, Get and SameProps answer, and few of brokerlaw05. Conditions: the lists read as data; lengths fit an int.
-/
import Derived.Test.YtglnkpgdmophlaaDoorKeyA
import Derived.Deep.QuietTactic
import Derived.BigQuiet
import Derived.Deep.LoopGhost
namespace Go.Proofs.YtglnkpgdmophlaaDoor
open Go.RowKit

theorem nxt (k : Nat) (h : k ≤ 9223372036854775806) : Value.int .i64 (wrap64 ((k : Int) + 1)) = .int .i64 ((k + 1 : Nat) : Int) := by rw [wrap64_id _ (by omega) (by omega)]; rfl

def prevK (l : List PR) (k : Nat) : Option ByteArray := if k = 0 then none else (l[k - 1]?).map (·.1)
def PropsRel (l : List PR) (k : Nat) : Prop := propsF none l = propsF (prevK l k) (l.drop k)
theorem PropsRel.start (l : List PR) : PropsRel l 0 := rfl
theorem drop_at2 {l : List PR} {k : Nat} {x : PR} (hx : l[k]? = some x) : l.drop k = x :: l.drop (k + 1) := by
  obtain ⟨h, rfl⟩ := List.getElem?_eq_some_iff.1 hx
  exact List.drop_eq_getElem_cons h
theorem propsF_cons (p : Option ByteArray) (x : PR) (r : List PR) : propsF p (x :: r) = if keyR x.1 = false then 16 else if 160 < x.2.size then 5 else if (match p with | none => false | some q => !ltS q x.1) = true then 16 else propsF (some x.1) r := by cases p <;> rfl
theorem propsF_nil (p : Option ByteArray) : propsF p [] = 0 := by cases p <;> rfl
theorem PropsRel.unf {l : List PR} {k : Nat} {x : PR} (h : PropsRel l k) (hx : l[k]? = some x) :
    propsF none l = if keyR x.1 = false then 16 else if 160 < x.2.size then 5 else if (match prevK l k with | none => false | some q => !ltS q x.1) = true then 16 else propsF (some x.1) (l.drop (k + 1)) := by
  unfold PropsRel at h
  rw [h, drop_at2 hx, propsF_cons]
theorem PropsRel.next {l : List PR} {k : Nat} {x : PR} (h : PropsRel l k) (hx : l[k]? = some x) (h1 : keyR x.1 = true) (h2 : ¬ 160 < x.2.size) (h3 : (match prevK l k with | none => false | some q => !ltS q x.1) = false) : PropsRel l (k + 1) := by
  have h0 := h.unf hx
  rw [if_neg (by simp [h1]), if_neg h2, if_neg (by rw [h3]; simp)] at h0
  unfold PropsRel
  rw [h0]
  unfold prevK
  rw [if_neg (by omega), Nat.add_sub_cancel, hx]
  rfl
theorem PropsRel.done {l : List PR} (h : PropsRel l l.length) : propsF none l = 0 := by
  unfold PropsRel at h
  rw [h, List.drop_length, propsF_nil]

end Go.Proofs.YtglnkpgdmophlaaDoor
