/-
The sizes of the lists of a packet that was read, and of their texts. No function of the program is walked here.
-/
import Derived.Test.YtdkegoaflabjoaaGreatDoorRl
import Derived.Test.YtdkegoaflabjoaaGreatDoorCheckP
namespace Go.Proofs.YtdkegoaflabjoaaGreatDoor
open Go.RowKit

theorem zCount_le (l : List UInt8) (lim : Int) (st : Int × Int) (h : 0 ≤ lim) : (sCount l lim st).1 ≤ lim := by
 unfold sCount
 split
 · exact h
 split
 · exact h
 unfold countR
 split
 · exact h
 split
 · exact h
 split
 · exact h
 · next h3 => dsimp only; omega
theorem sText_size (l : List UInt8) (lim : Int) (st : Int × Int) : (sText l lim st).1.size ≤ l.length := by
 unfold sText
 split
 · exact Nat.zero_le _
 split
 · exact Nat.zero_le _
 unfold textR
 split
 · exact Nat.zero_le _
 split
 · exact Nat.zero_le _
 · dsimp only
   rw [size_bs, List.length_take, List.length_drop]
   omega
theorem sList_len {α : Type} {f : Int × Int → α × (Int × Int)} : ∀ (n : Nat) (st : Int × Int) (acc : List α), (sList f n st acc).1.length ≤ acc.length + n
 | 0, _, _ => Nat.le_refl _
 | n + 1, st, acc => by
   rw [sList]
   split
   · show acc.length ≤ _; omega
   · have := sList_len (f := f) n (f st).2 (acc ++ [(f st).1])
     simp only [List.length_append, List.length_cons, List.length_nil] at this
     omega
theorem sList_every {α : Type} {f : Int × Int → α × (Int × Int)} {P : α → Prop} (hf : ∀ st, P (f st).1) : ∀ (n : Nat) (st : Int × Int) (acc : List α), (∀ x ∈ acc, P x) → ∀ x ∈ (sList f n st acc).1, P x
 | 0, _, _, h => h
 | n + 1, st, acc, h => by
   rw [sList]
   split
   · exact h
   · exact sList_every hf n _ _ (fun x hx => by
      rcases List.mem_append.1 hx with hx | hx
      · exact h x hx
      · rw [List.mem_singleton] at hx; subst hx; exact hf st)
theorem sMsg_props (l : List UInt8) (st : Int × Int) : (sMsg l st).1.props.length ≤ 32 := by
 unfold sMsg
 dsimp only
 rw [sPropsF_list]
 generalize hs : (sNum l (sText l 16 (sNum l (sNum l (sBelow l 2 (sNum l (sText l 256 (sText l 64 st).2).2).2).2).2).2).2).2 = s8
 have h1 := sList_len (f := sProp l) (sCount l 8 s8).1.toNat (sCount l 8 s8).2 []
 have h2 := zCount_le l 8 s8 (by decide)
 rw [List.length_nil] at h1
 omega
/-- few elements, short texts -/
def Sm (n : Nat) (p : Pkt) : Prop :=
 p.msg.props.length ≤ 32 ∧ p.wmsg.props.length ≤ 32 ∧ p.subs.length ≤ 32 ∧ p.filters.length ≤ 32 ∧ p.codes.length ≤ 32 ∧ (∀ x ∈ p.subs, x.1.size ≤ n) ∧ ∀ x ∈ p.filters, x.size ≤ n
theorem sm0 {n : Nat} {p : Pkt} (h1 : p.msg.props = []) (h2 : p.wmsg.props = []) (h3 : p.subs = []) (h4 : p.filters = []) (h5 : p.codes = []) : Sm n p := by
 unfold Sm
 rw [h1, h2, h3, h4, h5]
 simp
theorem Sm.sz {n : Nat} {p : Pkt} (h : Sm n p) : PSz p := by
 obtain ⟨h1, h2, h3, h4, h5, _⟩ := h
 exact ⟨by omega, by omega, by omega, by omega, by omega⟩
theorem Sm.tx {n : Nat} {p : Pkt} (h : Sm n p) (hn : n ≤ 140737488355328) : PTx p := by
 obtain ⟨_, _, _, _, _, h6, h7⟩ := h
 exact ⟨fun x hx => by have := h6 x hx; omega, fun x hx => by have := h7 x hx; omega⟩
theorem sConn_sm (l : List UInt8) (st : Int × Int) : Sm l.length (sConn l st).1 := by
 unfold sConn
 dsimp only
 split
 · have h := sMsg_props l (sNum l (sNum l (sNum l (sNum l (sBelow l 4 (sText l 16 (sText l 16 st).2).2).2).2).2).2).2
   refine ⟨by show (0 : Nat) ≤ 32; decide, h, by show (0 : Nat) ≤ 32; decide, by show (0 : Nat) ≤ 32; decide, by show (0 : Nat) ≤ 32; decide, fun x hx => (by cases hx), fun x hx => (by cases hx)⟩
 · exact sm0 rfl rfl rfl rfl rfl
theorem sLists_sm (l : List UInt8) (kind id : Int) (st : Int × Int) : Sm l.length (sLists l kind id st).1 := by
 have h2 := zCount_le l 32 st (by decide)
 unfold sLists
 dsimp only
 split
 · have h1 := sList_len (f := sSub l) (sCount l 32 st).1.toNat (sCount l 32 st).2 []
   rw [List.length_nil] at h1
   have h3 := sList_every (f := sSub l) (P := fun x => x.1.size ≤ l.length) (fun st => by unfold sSub; exact sText_size l 88 st) (sCount l 32 st).1.toNat (sCount l 32 st).2 [] (by simp)
   exact ⟨by show (0 : Nat) ≤ 32; decide, by show (0 : Nat) ≤ 32; decide, by show (sList (sSub l) (sCount l 32 st).1.toNat (sCount l 32 st).2 []).1.length ≤ 32; omega, by show (0 : Nat) ≤ 32; decide, by show (0 : Nat) ≤ 32; decide, h3, fun x hx => (by cases hx)⟩
 split
 · have h1 := sList_len (f := sText l 88) (sCount l 32 st).1.toNat (sCount l 32 st).2 []
   rw [List.length_nil] at h1
   have h3 := sList_every (f := sText l 88) (P := fun x => x.size ≤ l.length) (fun st => sText_size l 88 st) (sCount l 32 st).1.toNat (sCount l 32 st).2 [] (by simp)
   exact ⟨by show (0 : Nat) ≤ 32; decide, by show (0 : Nat) ≤ 32; decide, by show (0 : Nat) ≤ 32; decide, by show (sList (sText l 88) (sCount l 32 st).1.toNat (sCount l 32 st).2 []).1.length ≤ 32; omega, by show (0 : Nat) ≤ 32; decide, fun x hx => (by cases hx), h3⟩
 · have h1 := sList_len (f := sNum l) (sCount l 32 st).1.toNat (sCount l 32 st).2 []
   rw [List.length_nil] at h1
   exact ⟨by show (0 : Nat) ≤ 32; decide, by show (0 : Nat) ≤ 32; decide, by show (0 : Nat) ≤ 32; decide, by show (0 : Nat) ≤ 32; decide, by show (sList (sNum l) (sCount l 32 st).1.toNat (sCount l 32 st).2 []).1.length ≤ 32; omega, fun x hx => (by cases hx), fun x hx => (by cases hx)⟩
theorem sBody_sm (l : List UInt8) (kind : Int) (st : Int × Int) : Sm l.length (sBody l kind st).1 := by
 unfold sBody
 split
 · exact sConn_sm l st
 split
 · exact sm0 rfl rfl rfl rfl rfl
 split
 · exact sm0 rfl rfl rfl rfl rfl
 split
 · exact sm0 rfl rfl rfl rfl rfl
 split
 · unfold sPub
   exact ⟨sMsg_props l _, by show (0 : Nat) ≤ 32; decide, by show (0 : Nat) ≤ 32; decide, by show (0 : Nat) ≤ 32; decide, by show (0 : Nat) ≤ 32; decide, fun x hx => (by cases hx), fun x hx => (by cases hx)⟩
 split
 · exact sm0 rfl rfl rfl rfl rfl
 · exact sLists_sm l kind _ _
theorem pkX_sm (l : List UInt8) (st : Int × Int) : Sm l.length (pkX l st).1 := by
 unfold pkX
 split
 · exact sm0 rfl rfl rfl rfl rfl
 split
 · exact sm0 rfl rfl rfl rfl rfl
 · exact sBody_sm l _ _
theorem decodeR_pk (l : List UInt8) : decodeR l = if 4096 < l.length then (Pkt.zero, 5) else if (pkX l (0, 0)).2.2 ≠ 0 then (Pkt.zero, (pkX l (0, 0)).2.2) else if (pkX l (0, 0)).2.1 < l.length then (Pkt.zero, 2) else if checkP (pkX l (0, 0)).1 ≠ 0 then (Pkt.zero, (checkP (pkX l (0, 0)).1 : Int)) else ((pkX l (0, 0)).1, 0) := by
 unfold decodeR pkX
 by_cases h0 : 4096 < l.length
 · rw [if_pos h0, if_pos h0]
 · rw [if_neg h0, if_neg h0]
   by_cases h1 : (sNum l (0, 0)).2.2 ≠ 0
   · simp only [if_pos h1]
   · by_cases h2 : (sNum l (0, 0)).1 < 1 ∨ 14 < (sNum l (0, 0)).1
     · simp only [if_neg h1, if_pos h2]
       rfl
     · simp only [if_neg h1, if_neg h2]
end Go.Proofs.YtdkegoaflabjoaaGreatDoor
