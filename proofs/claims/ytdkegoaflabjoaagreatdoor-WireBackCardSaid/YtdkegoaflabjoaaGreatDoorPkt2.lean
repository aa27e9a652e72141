/-
Packets as plain data: which are valid, which fields a kind uses, what acknowledges them. No function of the program is walked here.
What the laws of layer 6 want of packets as plain data: a changed field that the kind does not use; the packet that acknowledges a valid one; the chain of acknowledgements. No function of the program is walked here.
-/
import Derived.Test.YtdkegoaflabjoaaGreatDoorMsg
import Derived.Test.YtdkegoaflabjoaaGreatDoorTopic
import Derived.Test.YtdkegoaflabjoaaGreatDoorBack3
namespace Go.Proofs.YtdkegoaflabjoaaGreatDoor
open Go.RowKit

/-- a subscription: filter, level, not its own -/
abbrev SB := ByteArray × (Int × Bool)
def gS (x : SB) : List Value := [.string x.1, .int .i64 x.2.1, .bool x.2.2]
theorem gS_len (x : SB) : (gS x).length = 3 := rfl
theorem gS_one (x : SB) : ∀ u ∈ gS x, u.oneCell' = true := fun u hu => by
 simp only [gS, List.mem_cons, List.not_mem_nil, or_false] at hu
 rcases hu with rfl | rfl | rfl <;> rfl
def iv (n : Int) : Value := .int .i64 n
abbrev BL (w : World) (B : Nat) (A : Option Addr) (xs : List SB) : Prop := GL gS 3 w B A xs
abbrev IL (w : World) (B : Nat) (A : Option Addr) (xs : List Int) : Prop := CL iv w B A xs
theorem BL.at_ {w : World} {B : Nat} {A : Option Addr} {xs : List SB} (h : BL w B A xs) {j : Nat} {x : SB} (hx : xs[j]? = some x) :
 ∃ b o, A = some ⟨b, o, none⟩ ∧ b < B ∧ w.cell? ⟨b, o + j * 3, none⟩ = some (.string x.1) ∧ w.cell? ⟨b, o + j * 3 + 1, none⟩ = some (.int .i64 x.2.1) ∧ w.cell? ⟨b, o + j * 3 + 2, none⟩ = some (.bool x.2.2) := by
 obtain ⟨b, o, e, hb, hc⟩ := h (Nat.lt_of_le_of_lt (Nat.zero_le _) (List.getElem?_eq_some_iff.1 hx).1)
 exact ⟨b, o, e, hb, hc j x 0 _ hx rfl, hc j x 1 _ hx rfl, hc j x 2 _ hx rfl⟩

structure Pkt where
 kind : Int
 id : Int
 dup : Bool
 msg : Msg
 client : ByteArray
 user : ByteArray
 clean : Bool
 keep : Int
 expiry : Int
 window : Int
 wset : Bool
 wdelay : Int
 wmsg : Msg
 present : Bool
 code : Int
 subs : List SB
 filters : List ByteArray
 codes : List Int
instance : DecidableEq Pkt := fun a b => by
 cases a; cases b
 simp only [Pkt.mk.injEq]
 exact inferInstance
/-- where a packet's five lists lie, and their capacities -/
structure PA where
 m : Option Addr
 mc : Nat
 v : Option Addr
 vc : Nat
 s : Option Addr
 sc : Nat
 f : Option Addr
 fc : Nat
 c : Option Addr
 cc : Nat
def pkC (p : Pkt) (a : PA) : List Value := [.int .i64 p.kind, .int .i64 p.id, .bool p.dup,
 .string p.msg.topic, .string p.msg.payload, .int .i64 p.msg.level, .bool p.msg.retain, .int .i64 p.msg.prio, .int .i64 p.msg.exps, .string p.msg.frm, .int .i64 p.msg.seq, .slice a.m p.msg.props.length a.mc,
 .string p.client, .string p.user, .bool p.clean, .int .i64 p.keep, .int .i64 p.expiry, .int .i64 p.window, .bool p.wset, .int .i64 p.wdelay,
 .string p.wmsg.topic, .string p.wmsg.payload, .int .i64 p.wmsg.level, .bool p.wmsg.retain, .int .i64 p.wmsg.prio, .int .i64 p.wmsg.exps, .string p.wmsg.frm, .int .i64 p.wmsg.seq, .slice a.v p.wmsg.props.length a.vc,
 .bool p.present, .int .i64 p.code, .slice a.s p.subs.length a.sc, .slice a.f p.filters.length a.fc, .slice a.c p.codes.length a.cc]
def pkV (p : Pkt) (a : PA) : Value := .agg (pkC p a).toArray
theorem pkC_len (p : Pkt) (a : PA) : (pkC p a).length = 34 := rfl
/-- the lists are there -/
structure PIn (w : World) (p : Pkt) (a : PA) : Prop where
 m : PL w w.heap.size a.m p.msg.props
 v : PL w w.heap.size a.v p.wmsg.props
 s : BL w w.heap.size a.s p.subs
 f : SL w w.heap.size a.f p.filters
 c : IL w w.heap.size a.c p.codes
theorem PIn.step {w w' : World} {p : Pkt} {a : PA} (h : PIn w p a) (hb : Below w.heap.size w w') : PIn w' p a := ⟨h.m.step hb, h.v.step hb, h.s.step hb, h.f.step hb, h.c.step hb⟩
def Pkt.zero : Pkt := ⟨0, 0, false, Msg.zero, ⟨#[]⟩, ⟨#[]⟩, false, 0, 0, 0, false, 0, Msg.zero, false, 0, [], [], []⟩
def PA.zero : PA := ⟨none, 0, none, 0, none, 0, none, 0, none, 0⟩
def sameP (p q : Pkt) : Bool := decide (p = q)

/-- the packet with the fields alone that its kind uses -/
def usedP (p : Pkt) : Pkt where
 kind := p.kind
 id := if 3 ≤ p.kind ∧ p.kind ≤ 11 then p.id else 0
 dup := if p.kind = 3 then p.dup else false
 msg := if p.kind = 3 then p.msg else Msg.zero
 client := if p.kind = 1 then p.client else ⟨#[]⟩
 user := if p.kind = 1 then p.user else ⟨#[]⟩
 clean := if p.kind = 1 then p.clean else false
 keep := if p.kind = 1 then p.keep else 0
 expiry := if p.kind = 1 then p.expiry else 0
 window := if p.kind = 1 then p.window else 0
 wset := if p.kind = 1 then p.wset else false
 wdelay := if p.kind = 1 then p.wdelay else 0
 wmsg := if p.kind = 1 then p.wmsg else Msg.zero
 present := if p.kind = 2 then p.present else false
 code := if p.kind = 2 ∨ p.kind = 14 then p.code else 0
 subs := if p.kind = 8 then p.subs else []
 filters := if p.kind = 10 then p.filters else []
 codes := if p.kind = 9 ∨ p.kind = 11 then p.codes else []
/-- the addresses that are kept -/
def usedA (p : Pkt) (a : PA) : PA where
 m := if p.kind = 3 then a.m else none
 mc := if p.kind = 3 then a.mc else 0
 v := if p.kind = 1 then a.v else none
 vc := if p.kind = 1 then a.vc else 0
 s := if p.kind = 8 then a.s else none
 sc := if p.kind = 8 then a.sc else 0
 f := if p.kind = 10 then a.f else none
 fc := if p.kind = 10 then a.fc else 0
 c := if p.kind = 9 ∨ p.kind = 11 then a.c else none
 cc := if p.kind = 9 ∨ p.kind = 11 then a.cc else 0
theorem PIn.used {w : World} {p : Pkt} {a : PA} (h : PIn w p a) : PIn w (usedP p) (usedA p a) := by
 constructor
 · unfold usedP usedA; dsimp only; split
   · exact h.m
   · exact GL.nil _ _ _
 · unfold usedP usedA; dsimp only; split
   · exact h.v
   · exact GL.nil _ _ _
 · unfold usedP usedA; dsimp only; split
   · exact h.s
   · exact GL.nil _ _ _
 · unfold usedP usedA; dsimp only; split
   · exact h.f
   · exact CL.nil _ _ _
 · unfold usedP usedA; dsimp only; split
   · exact h.c
   · exact CL.nil _ _ _

def hasSh (s : ByteArray) : Bool := Lib.hasPrefix (S1.dl s) S1.shp
def shOkB (s : ByteArray) : Bool := S1.shOk (S1.dl s)
/-- may this be the filter of a subscription -/
def wantedR (s : ByteArray) : Bool := if hasSh s then shOkB s else S1.T.filterL (S1.dl s)
theorem shOk_has {s : ByteArray} (h : shOkB s = true) : hasSh s = true := by
 unfold shOkB S1.shOk at h
 simp only [Bool.and_eq_true] at h
 exact h.1.1.1
theorem wanted_sh {s : ByteArray} (h : wantedR s = true) : shOkB s = hasSh s := by
 unfold wantedR at h
 cases hh : hasSh s with
 | true => rw [hh] at h; exact h
 | false =>
   cases ho : shOkB s with
   | false => rfl
   | true => rw [shOk_has ho] at hh; cases hh
def subR (x : SB) : Nat := if wantedR x.1 = false then 13 else if x.2.1 < 0 ∨ 2 < x.2.1 then 14 else if x.2.2 = true ∧ hasSh x.1 = true then 28 else 0
def filR (s : ByteArray) : Nat := if wantedR s = false then 13 else 0
def codR (n : Int) : Nat := if n < 0 ∨ 29 < n then 1 else 0
def idR (n : Int) : Nat := if n < 1 ∨ 65535 < n then 15 else 0
/-- the first error among the elements -/
def firstE {α : Type} (f : α → Nat) : List α → Nat
 | [] => 0
 | x :: r => if f x ≠ 0 then f x else firstE f r
def lenR (n : Nat) : Nat := if n = 0 then 1 else if 32 < n then 5 else 0
def listR {α : Type} (id : Int) (l : List α) (f : α → Nat) : Nat := if idR id ≠ 0 then idR id else if lenR l.length ≠ 0 then lenR l.length else firstE f l
def willR (s : Bool) (d : Int) (m : Msg) : Nat :=
 if s = false then (if d ≠ 0 ∨ m ≠ Msg.zero then 28 else 0) else if d < 0 ∨ 1099511627776 < d then 1 else checkR m
def connR (p : Pkt) : Nat :=
 if nameR p.client = false ∨ (p.user ≠ ⟨#[]⟩ ∧ nameR p.user = false) then 11
 else if (p.keep < 0 ∨ 1099511627776 < p.keep) ∨ (p.expiry < 0 ∨ 1099511627776 < p.expiry) ∨ (p.window < 1 ∨ 32 < p.window) then 1
 else willR p.wset p.wdelay p.wmsg
def ackR (p : Pkt) : Nat := if codR p.code ≠ 0 then codR p.code else if p.present = true ∧ p.code ≠ 0 then 28 else 0
def pubR (p : Pkt) : Nat := if checkR p.msg ≠ 0 then checkR p.msg else if 0 < p.msg.level then idR p.id else if p.id ≠ 0 then 15 else if p.dup = true then 28 else 0
def bodyR (p : Pkt) : Nat :=
 if p.kind = 1 then connR p else if p.kind = 2 then ackR p else if p.kind = 3 then pubR p
 else if p.kind = 4 ∨ p.kind = 5 ∨ p.kind = 6 ∨ p.kind = 7 then idR p.id
 else if p.kind = 8 then listR p.id p.subs subR else if p.kind = 10 then listR p.id p.filters filR
 else if p.kind = 9 ∨ p.kind = 11 then listR p.id p.codes codR else if p.kind = 14 then codR p.code else 0
def checkP (p : Pkt) : Nat := if p.kind < 1 ∨ 14 < p.kind then 10 else if p ≠ usedP p then 28 else bodyR p
theorem firstE_at {α : Type} {f : α → Nat} : ∀ {l : List α} {i : Nat} {x : α}, (∀ j y, j < i → l[j]? = some y → f y = 0) → l[i]? = some x → f x ≠ 0 → firstE f l = f x := by
 intro l
 induction l with
 | nil => intro i x _ h; simp at h
 | cons y r ih =>
   intro i x h hx hf
   unfold firstE
   cases i with
   | zero =>
     simp at hx
     subst hx
     rw [if_pos hf]
   | succ i =>
     have h0 : f y = 0 := h 0 y (Nat.succ_pos _) rfl
     rw [if_neg (by simp [h0])]
     exact ih (fun j z hj hz => h (j + 1) z (Nat.succ_lt_succ hj) (by simpa using hz)) (by simpa using hx) hf
theorem firstE_done {α : Type} {f : α → Nat} : ∀ {l : List α}, (∀ j y, j < l.length → l[j]? = some y → f y = 0) → firstE f l = 0 := by
 intro l
 induction l with
 | nil => intro _; rfl
 | cons y r ih =>
   intro h
   unfold firstE
   have h0 : f y = 0 := h 0 y (by simp) rfl
   rw [if_neg (by simp [h0])]
   exact ih (fun j z hj hz => h (j + 1) z (by simpa using hj) (by simpa using hz))

end Go.Proofs.YtdkegoaflabjoaaGreatDoor
namespace Go.Proofs.YtdkegoaflabjoaaGreatDoor
open Go.RowKit

theorem checkP_kind {p : Pkt} (h : checkP p = 0) : 1 ≤ p.kind ∧ p.kind ≤ 14 := by
 unfold checkP at h
 split at h
 · cases h
 · omega
theorem checkP_used {p : Pkt} (h : checkP p = 0) : p = usedP p := by
 unfold checkP at h
 split at h
 · cases h
 · split at h
   · cases h
   · next h2 => exact Decidable.not_not.1 h2
theorem checkP_body {p : Pkt} (h : checkP p = 0) : bodyR p = 0 := by
 unfold checkP at h
 split at h
 · cases h
 · split at h
   · cases h
   · exact h
/-- a packet that has a kind and an identifier alone -/
def plainP (k n : Int) : Pkt := { Pkt.zero with kind := k, id := n }
theorem plain_used {k n : Int} (hk : 4 ≤ k ∧ k ≤ 7) : plainP k n = usedP (plainP k n) := by
 have h1 : 3 ≤ k ∧ k ≤ 11 := by omega
 have e1 : k ≠ 1 := by omega
 have e2 : k ≠ 2 := by omega
 have e3 : k ≠ 3 := by omega
 have e8 : k ≠ 8 := by omega
 have e9 : k ≠ 9 := by omega
 have e10 : k ≠ 10 := by omega
 have e11 : k ≠ 11 := by omega
 have e14 : k ≠ 14 := by omega
 simp [plainP, usedP, Pkt.zero, h1, e1, e2, e3, e8, e9, e10, e11, e14]
theorem plain_check {k n : Int} (hk : 4 ≤ k ∧ k ≤ 7) : checkP (plainP k n) = idR n := by
 unfold checkP
 rw [if_neg (by show ¬ (k < 1 ∨ 14 < k); omega), if_neg (by rw [Decidable.not_not]; exact plain_used hk)]
 unfold bodyR
 show (if k = 1 then _ else if k = 2 then _ else if k = 3 then _ else if k = 4 ∨ k = 5 ∨ k = 6 ∨ k = 7 then idR n else _) = _
 rw [if_neg (by omega), if_neg (by omega), if_neg (by omega), if_pos (by omega)]
end Go.Proofs.YtdkegoaflabjoaaGreatDoor
