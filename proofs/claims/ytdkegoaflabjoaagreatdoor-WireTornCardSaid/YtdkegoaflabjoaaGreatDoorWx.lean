/-
A packet's lists, below a block. No function of the program is walked here.
-/
import Derived.Test.YtdkegoaflabjoaaGreatDoorPkt2
namespace Go.Proofs.YtdkegoaflabjoaaGreatDoor
open Go.RowKit

/-- the lists are there, below block B -/
def PInB (w : World) (B : Nat) (p : Pkt) (a : PA) : Prop := PL w B a.m p.msg.props ∧ PL w B a.v p.wmsg.props ∧ BL w B a.s p.subs ∧ SL w B a.f p.filters ∧ IL w B a.c p.codes
theorem PInB.below {w w' : World} {B : Nat} {p : Pkt} {a : PA} (h : PInB w B p a) (hb : Below B w w') : PInB w' B p a := ⟨h.1.below hb, h.2.1.below hb, h.2.2.1.below hb, h.2.2.2.1.below hb, h.2.2.2.2.below hb⟩
theorem PIn.at_ {w : World} {p : Pkt} {a : PA} (h : PIn w p a) : PInB w w.heap.size p a := ⟨h.m, h.v, h.s, h.f, h.c⟩

/-- where a list that is not empty begins: no earlier than block lo -/
def AdN (lo : Nat) (A : Option Addr) (n : Nat) : Prop := 0 < n → ∃ b o, A = some ⟨b, o, none⟩ ∧ lo ≤ b
theorem AdN.low {lo lo' : Nat} {A : Option Addr} {n : Nat} (h : AdN lo A n) (hl : lo' ≤ lo) : AdN lo' A n := fun hn => by
 obtain ⟨b, o, e, hb⟩ := h hn
 exact ⟨b, o, e, by omega⟩
theorem AdN.nil (lo : Nat) (A : Option Addr) : AdN lo A 0 := fun h => absurd h (by omega)
theorem adN_own {w : World} {B k n c m : Nat} {e : TypeId} {A : Option Addr} {vs : List Value} (h : w.ownsRow B e k (.slice A n c) m vs) {lo : Nat} (hl : lo ≤ B) : AdN lo A n := fun hn => by
 rcases h.2 with ⟨h0, _⟩ | ⟨q, cap, cur, h0, hb, _⟩
 · injection h0 with h1 h2
   omega
 · injection h0 with h1 h2
   exact ⟨q, 0, h1, by omega⟩
/-- the lists are there, in blocks from lo to below hi -/
def PInN (w : World) (lo hi : Nat) (p : Pkt) (a : PA) : Prop :=
 PInB w hi p a ∧ AdN lo a.m p.msg.props.length ∧ AdN lo a.v p.wmsg.props.length ∧ AdN lo a.s p.subs.length ∧ AdN lo a.f p.filters.length ∧ AdN lo a.c p.codes.length
theorem GL.keepN {α : Type} {g : α → List Value} {k : Nat} {w w' : World} {lo hi : Nat} {A : Option Addr} {xs : List α} (h : GL g k w hi A xs) (ha : AdN lo A xs.length) (hk : ∀ q, lo ≤ q → q < hi → w'.heap[q]? = w.heap[q]?) : GL g k w' hi A xs := fun hn => by
 obtain ⟨b, o, e, hb, hc⟩ := h hn
 obtain ⟨b', o', e', hb'⟩ := ha hn
 rw [e] at e'
 injection e' with e'
 injection e' with e1 e2 e3
 subst e1
 exact ⟨b, o, e, hb, fun j x i v hx hv => (World.cell?_of_block (a := ⟨b, o + j * k + i, none⟩) (hk b hb' hb)).trans (hc j x i v hx hv)⟩
theorem CL.keepN {α : Type} {f : α → Value} {w w' : World} {lo hi : Nat} {A : Option Addr} {xs : List α} (h : CL f w hi A xs) (ha : AdN lo A xs.length) (hk : ∀ q, lo ≤ q → q < hi → w'.heap[q]? = w.heap[q]?) : CL f w' hi A xs := fun hn => by
 obtain ⟨b, o, e, hb, hc⟩ := h hn
 obtain ⟨b', o', e', hb'⟩ := ha hn
 rw [e] at e'
 injection e' with e'
 injection e' with e1 e2 e3
 subst e1
 exact ⟨b, o, e, hb, fun j x hx => (World.cell?_of_block (a := ⟨b, o + j, none⟩) (hk b hb' hb)).trans (hc j x hx)⟩
theorem PInN.keep {w w' : World} {lo hi : Nat} {p : Pkt} {a : PA} (h : PInN w lo hi p a) (hk : ∀ q, lo ≤ q → q < hi → w'.heap[q]? = w.heap[q]?) : PInN w' lo hi p a := by
 obtain ⟨⟨h1, h2, h3, h4, h5⟩, g1, g2, g3, g4, g5⟩ := h
 exact ⟨⟨h1.keepN g1 hk, h2.keepN g2 hk, h3.keepN g3 hk, CL.keepN (f := Value.string) h4 g4 hk, CL.keepN h5 g5 hk⟩, g1, g2, g3, g4, g5⟩
theorem PInN.low {w : World} {lo lo' hi : Nat} {p : Pkt} {a : PA} (h : PInN w lo hi p a) (hl : lo' ≤ lo) : PInN w lo' hi p a := ⟨h.1, h.2.1.low hl, h.2.2.1.low hl, h.2.2.2.1.low hl, h.2.2.2.2.1.low hl, h.2.2.2.2.2.low hl⟩
theorem PInN.more {w : World} {lo hi hi' : Nat} {p : Pkt} {a : PA} (h : PInN w lo hi p a) (hl : hi ≤ hi') : PInN w lo hi' p a := ⟨⟨h.1.1.more hl, h.1.2.1.more hl, h.1.2.2.1.more hl, h.1.2.2.2.1.more hl, h.1.2.2.2.2.more hl⟩, h.2⟩
theorem PInN.zero (w : World) (lo hi : Nat) : PInN w lo hi Pkt.zero PA.zero := ⟨⟨GL.nil _ _ _, GL.nil _ _ _, GL.nil _ _ _, CL.nil _ _ _, CL.nil _ _ _⟩, AdN.nil _ _, AdN.nil _ _, AdN.nil _ _, AdN.nil _ _, AdN.nil _ _⟩

end Go.Proofs.YtdkegoaflabjoaaGreatDoor
