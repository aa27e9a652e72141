/-
The binary form of packets, as lists of bytes: writing, reading, recovered. No function of the program is walked here. Conditions: those named.
Reading the bytes that a message was written to gives the message again, and what was read was written. No function of the program is walked here. Conditions: those named.
A valid packet is recovered from its binary form, and the form is short. No function of the program is walked here. Conditions: the packet is valid.
A valid packet is recovered from its binary form: all kinds; the form is short. No function of the program is walked here. Conditions: the packet is valid.
Bytes that are read as a packet are the packet's form. No function of the program is walked here. Conditions: none.
A form that ends too early is read with error 3. No function of the program is walked here. Conditions: the packet is valid.
-/
import Derived.Test.YtdkegoaflabjoaaGreatDoorPkt2
import Derived.Test.YtdkegoaflabjoaaGreatDoorSetR
namespace Go.Proofs.YtdkegoaflabjoaaGreatDoor
open Go.RowKit

def b2i (b : Bool) : Int := if b then 1 else 0
def fl2 (a b : Bool) : Int := b2i a + 2 * b2i b
def encS (x : SB) : List UInt8 := encT x.1 ++ (enc x.2.1 ++ enc (b2i x.2.2))
def encG {α : Type} (f : α → List UInt8) (l : List α) : List UInt8 := (l.map f).flatten
theorem encG_cons {α : Type} (f : α → List UInt8) (x : α) (l : List α) : encG f (x :: l) = f x ++ encG f l := by simp [encG]
theorem encG_succ {α : Type} {f : α → List UInt8} {l : List α} {k : Nat} {x : α} (h : l[k]? = some x) : encG f (l.take (k + 1)) = encG f (l.take k) ++ f x := by
 unfold encG
 rw [List.take_add_one, h]
 simp
def encConn (p : Pkt) : List UInt8 :=
 encT p.client ++ (encT p.user ++ (enc (fl2 p.clean p.wset) ++ (enc p.keep ++ (enc p.expiry ++ (enc p.window ++ (if p.wset then enc p.wdelay ++ encM p.wmsg else []))))))
def encBody (p : Pkt) : List UInt8 :=
 if p.kind = 1 then encConn p else if p.kind = 2 then enc (b2i p.present) ++ enc p.code else if p.kind = 14 then enc p.code else if p.kind = 12 ∨ p.kind = 13 then []
 else enc p.id ++ (if p.kind = 3 then enc (b2i p.dup) ++ encM p.msg else if p.kind ≤ 7 then []
  else if p.kind = 8 then enc p.subs.length ++ encG encS p.subs else if p.kind = 10 then enc p.filters.length ++ encG encT p.filters else enc p.codes.length ++ encG enc p.codes)
def encPk (p : Pkt) : List UInt8 := enc p.kind ++ encBody p
def encodeR (p : Pkt) : List UInt8 × Nat := if checkP p ≠ 0 then ([], checkP p) else (encPk p, 0)

def sConn (l : List UInt8) (st : Int × Int) : Pkt × (Int × Int) :=
 let s1 := sText l 16 st
 let s2 := sText l 16 s1.2
 let s3 := sBelow l 4 s2.2
 let s4 := sNum l s3.2
 let s5 := sNum l s4.2
 let s6 := sNum l s5.2
 let w := decide (s3.1 = 2 ∨ s3.1 = 3)
 let p : Pkt := { Pkt.zero with kind := 1, client := s1.1, user := s2.1, clean := decide (s3.1 = 1 ∨ s3.1 = 3), wset := w, keep := s4.1, expiry := s5.1, window := s6.1 }
 if w = true ∧ s6.2.2 = 0 then
  let s7 := sNum l s6.2
  let s8 := sMsg l s7.2
  ({ p with wdelay := s7.1, wmsg := s8.1 }, s8.2)
 else (p, s6.2)
def sSub (l : List UInt8) (st : Int × Int) : SB × (Int × Int) :=
 let s1 := sText l 88 st
 let s2 := sNum l s1.2
 let s3 := sBelow l 2 s2.2
 ((s1.1, (s2.1, decide (s3.1 = 1))), s3.2)
def sList {α : Type} (f : Int × Int → α × (Int × Int)) : Nat → (Int × Int) → List α → List α × (Int × Int)
 | 0, st, acc => (acc, st)
 | n + 1, st, acc => if st.2 ≠ 0 then (acc, st) else sList f n (f st).2 (acc ++ [(f st).1])
def sPub (l : List UInt8) (id : Int) (st : Int × Int) : Pkt × (Int × Int) :=
 let s1 := sBelow l 2 st
 let s2 := sMsg l s1.2
 ({ Pkt.zero with kind := 3, id := id, dup := decide (s1.1 = 1), msg := s2.1 }, s2.2)
def sLists (l : List UInt8) (kind id : Int) (st : Int × Int) : Pkt × (Int × Int) :=
 let s1 := sCount l 32 st
 if kind = 8 then ({ Pkt.zero with kind := kind, id := id, subs := (sList (sSub l) s1.1.toNat s1.2 []).1 }, (sList (sSub l) s1.1.toNat s1.2 []).2)
 else if kind = 10 then ({ Pkt.zero with kind := kind, id := id, filters := (sList (sText l 88) s1.1.toNat s1.2 []).1 }, (sList (sText l 88) s1.1.toNat s1.2 []).2)
 else ({ Pkt.zero with kind := kind, id := id, codes := (sList (sNum l) s1.1.toNat s1.2 []).1 }, (sList (sNum l) s1.1.toNat s1.2 []).2)
def sBody (l : List UInt8) (kind : Int) (st : Int × Int) : Pkt × (Int × Int) :=
 if kind = 1 then sConn l st
 else if kind = 2 then ({ Pkt.zero with kind := 2, present := decide ((sBelow l 2 st).1 = 1), code := (sNum l (sBelow l 2 st).2).1 }, (sNum l (sBelow l 2 st).2).2)
 else if kind = 14 then ({ Pkt.zero with kind := 14, code := (sNum l st).1 }, (sNum l st).2)
 else if kind = 12 ∨ kind = 13 then ({ Pkt.zero with kind := kind }, st)
 else if kind = 3 then sPub l (sNum l st).1 (sNum l st).2
 else if kind ≤ 7 then ({ Pkt.zero with kind := kind, id := (sNum l st).1 }, (sNum l st).2)
 else sLists l kind (sNum l st).1 (sNum l st).2
/-- what Decode hands back -/
def decodeR (l : List UInt8) : Pkt × Int :=
 if 4096 < l.length then (Pkt.zero, 5)
 else
  let k := sNum l (0, 0)
  if k.2.2 ≠ 0 then (Pkt.zero, k.2.2) else if k.1 < 1 ∨ 14 < k.1 then (Pkt.zero, 10)
  else
   let b := sBody l k.1 k.2
   if b.2.2 ≠ 0 then (Pkt.zero, b.2.2) else if b.2.1 < l.length then (Pkt.zero, 2) else if checkP b.1 ≠ 0 then (Pkt.zero, (checkP b.1 : Int)) else (b.1, 0)

theorem drop_app {l e r : List UInt8} {k : Nat} (hk : k ≤ l.length) (h : l.drop k = e ++ r) : k + e.length ≤ l.length ∧ l.drop (k + e.length) = r := by
 have h1 : (l.drop k).length = e.length + r.length := by rw [h, List.length_append]
 rw [List.length_drop] at h1
 refine ⟨by omega, ?_⟩
 rw [← List.drop_drop, h, List.drop_left]
theorem sText_enc {l r : List UInt8} {k : Nat} {s : ByteArray} {limit : Int} (hk : k ≤ l.length) (hl : (s.size : Int) ≤ limit) (hm : limit ≤ 5000) (h : l.drop k = encT s ++ r) :
 sText l limit ((k : Int), 0) = (s, (((k + (encT s).length : Nat) : Int), 0)) := by
 unfold sText
 rw [if_neg (by simp), textR_enc hk (by omega) hl h]
 simp
theorem sNum_enc {l r : List UInt8} {k : Nat} {n : Int} (hk : k ≤ l.length) (h1 : -9223372036854775808 ≤ n) (h2 : n ≤ 9223372036854775807) (h : l.drop k = enc n ++ r) :
 sNum l ((k : Int), 0) = (n, (((k + (enc n).length : Nat) : Int), 0)) := by
 unfold sNum
 rw [if_neg (by simp), numR_enc hk h1 h2 h]
 simp
theorem sBelow_enc {l r : List UInt8} {k : Nat} {n most : Int} (hk : k ≤ l.length) (h1 : 0 ≤ n) (h2 : n < most) (hm : most ≤ 5000) (h : l.drop k = enc n ++ r) :
 sBelow l most ((k : Int), 0) = (n, (((k + (enc n).length : Nat) : Int), 0)) := by
 unfold sBelow
 rw [sNum_enc hk (by omega) (by omega) h]
 rw [if_neg (by dsimp only; omega), if_neg (by simp)]
theorem sCount_enc {l r : List UInt8} {k n : Nat} {limit : Int} (hk : k ≤ l.length) (hn : (n : Int) ≤ limit) (hm : limit ≤ 5000) (h : l.drop k = enc n ++ r) :
 sCount l limit ((k : Int), 0) = ((n : Int), (((k + (enc n).length : Nat) : Int), 0)) := by
 unfold sCount
 rw [if_neg (by simp), countR_enc hk (by omega) hn h]
 simp
/-- a list is recovered if each element is -/
theorem sList_enc {α : Type} {l r : List UInt8} {f : Int × Int → α × (Int × Int)} {g : α → List UInt8} (P : α → Prop)
 (hf : ∀ (x : α) (k : Nat) (r : List UInt8), P x → k ≤ l.length → l.drop k = g x ++ r → f ((k : Int), 0) = (x, (((k + (g x).length : Nat) : Int), 0))) :
 ∀ (xs : List α) (k : Nat) (acc : List α), k ≤ l.length → (∀ x ∈ xs, P x) → l.drop k = encG g xs ++ r →
 sList f xs.length ((k : Int), 0) acc = (acc ++ xs, (((k + (encG g xs).length : Nat) : Int), 0)) := by
 intro xs
 induction xs with
 | nil => intro k acc _ _ _; simp [sList, encG]
 | cons x xs ih =>
   intro k acc hk hx h
   rw [encG_cons, List.append_assoc] at h
   obtain ⟨b1, d1⟩ := drop_app hk h
   rw [List.length_cons, sList, if_neg (by simp), hf x k _ (hx x (by simp)) hk h]
   dsimp only
   rw [ih _ _ b1 (fun y hy => hx y (by simp [hy])) d1, encG_cons]
   simp [List.length_append, Nat.add_assoc]
theorem b2i_in (b : Bool) : 0 ≤ b2i b ∧ b2i b < 2 := by cases b <;> decide
theorem b2i_one (b : Bool) : decide (b2i b = 1) = b := by cases b <;> rfl
theorem fl2_in (a b : Bool) : 0 ≤ fl2 a b ∧ fl2 a b < 4 := by cases a <;> cases b <;> decide
theorem fl2_a (a b : Bool) : decide (fl2 a b = 1 ∨ fl2 a b = 3) = a := by cases a <;> cases b <;> decide
theorem fl2_b (a b : Bool) : decide (fl2 a b = 2 ∨ fl2 a b = 3) = b := by cases a <;> cases b <;> decide
theorem sSub_enc {l r : List UInt8} {k : Nat} {x : SB} (hs : x.1.size ≤ 88) (hn : 0 ≤ x.2.1 ∧ x.2.1 ≤ 2) (hk : k ≤ l.length) (h : l.drop k = encS x ++ r) :
 sSub l ((k : Int), 0) = (x, (((k + (encS x).length : Nat) : Int), 0)) := by
 unfold encS at h
 simp only [List.append_assoc] at h
 obtain ⟨b1, d1⟩ := drop_app hk h
 obtain ⟨b2, d2⟩ := drop_app b1 d1
 have e1 := sText_enc (limit := 88) hk (by omega) (by omega) h
 have e2 := sNum_enc b1 (by omega) (by omega) d1
 have e3 := sBelow_enc (most := 2) b2 (b2i_in x.2.2).1 (b2i_in x.2.2).2 (by omega) d2
 unfold sSub
 simp only [e1, e2, e3, b2i_one]
 unfold encS
 simp only [List.length_append, Nat.add_assoc]

end Go.Proofs.YtdkegoaflabjoaaGreatDoor
namespace Go.Proofs.YtdkegoaflabjoaaGreatDoor
open Go.RowKit

theorem sPropsF_enc {l r : List UInt8} : ∀ (xs : List PR) (k : Nat) (acc : List PR), k ≤ l.length → (∀ x ∈ xs, okP x) → l.drop k = encPs xs ++ r →
 sPropsF l xs.length ((k : Int), 0) acc = (acc ++ xs, (((k + (encPs xs).length : Nat) : Int), 0)) := by
 intro xs
 induction xs with
 | nil => intro k acc _ _ _; simp [sPropsF, encPs]
 | cons x xs ih =>
   intro k acc hk hx h
   obtain ⟨hk1, hv1⟩ := hx x (by simp)
   have hks := (keyR_len hk1).2
   rw [encPs_cons, List.append_assoc, List.append_assoc] at h
   obtain ⟨b1, d1⟩ := drop_app hk h
   obtain ⟨b2, d2⟩ := drop_app b1 d1
   rw [List.length_cons, sPropsF, if_neg (by simp), sText_enc hk (by omega) (by omega) h]
   dsimp only
   rw [sText_enc b1 (by omega) (by omega) d1]
   dsimp only
   rw [ih _ _ b2 (fun y hy => hx y (by simp [hy])) d2]
   rw [encPs_cons]
   simp [List.length_append, Nat.add_assoc]
theorem validT_size {s : ByteArray} (h : ¬ validT s = false) : s.size ≤ 64 := by
 have h : validT s = true := by simpa using h
 unfold validT S1.T.validL S1.T.filterL at h
 simp only [Bool.and_eq_true, decide_eq_true_eq] at h
 have := h.1.1.1.2
 rw [show (S1.dl s).length = s.size from rfl] at this
 exact this
theorem nameR_size {s : ByteArray} (h : nameR s = true) : s.size ≤ 16 := by
 unfold nameR S1.T.nameL at h
 simp only [Bool.and_eq_true, decide_eq_true_eq] at h
 exact h.1.2
/-- what the rules say of a message -/
theorem checkR_parts {m : Msg} (h : checkR m = 0) : m.topic.size ≤ 64 ∧ m.payload.size ≤ 256 ∧ m.frm.size ≤ 16 ∧ propsR m.props = 0 := by
 unfold checkR at h
 split at h
 · omega
 next h1 =>
 split at h
 · omega
 next h2 =>
 split at h
 · omega
 split at h
 · omega
 split at h
 · omega
 next h5 =>
 split at h
 · omega
 refine ⟨validT_size h1, by omega, ?_, h⟩
 by_cases he : m.frm = ⟨#[]⟩
 · rw [he]; decide
 · have hn : nameR m.frm = true := by
    cases hn : nameR m.frm with
    | true => rfl
    | false => exact absurd ⟨he, hn⟩ h5
   exact nameR_size hn
theorem sMsg_enc {l r : List UInt8} {k : Nat} {m : Msg} (hk : k ≤ l.length) (hc : checkR m = 0) (hf : m.fits) (h : l.drop k = encM m ++ r) :
 sMsg l ((k : Int), 0) = (m, (((k + (encM m).length : Nat) : Int), 0)) := by
 obtain ⟨p1, p2, p3, p4⟩ := checkR_parts hc
 obtain ⟨q1, _, q3⟩ := propsR_parts p4
 obtain ⟨⟨f1, f2⟩, ⟨f3, f4⟩, ⟨f5, f6⟩, f7, f8⟩ := hf
 unfold encM at h
 simp only [List.append_assoc] at h
 obtain ⟨b1, d1⟩ := drop_app hk h
 obtain ⟨b2, d2⟩ := drop_app b1 d1
 obtain ⟨b3, d3⟩ := drop_app b2 d2
 obtain ⟨b4, d4⟩ := drop_app b3 d3
 obtain ⟨b5, d5⟩ := drop_app b4 d4
 obtain ⟨b6, d6⟩ := drop_app b5 d5
 obtain ⟨b7, d7⟩ := drop_app b6 d6
 obtain ⟨b8, d8⟩ := drop_app b7 d7
 obtain ⟨b9, d9⟩ := drop_app b8 d8
 have e1 := sText_enc (limit := 64) hk (by omega) (by omega) h
 have e2 := sText_enc (limit := 256) b1 (by omega) (by omega) d1
 have e3 := sNum_enc b2 f1 f2 d2
 have e4 := sBelow_enc (most := 2) b3 (by split <;> omega) (by split <;> omega) (by omega) d3
 have e5 := sNum_enc b4 f3 f4 d4
 have e6 := sNum_enc b5 f5 f6 d5
 have e7 := sText_enc (limit := 16) b6 (by omega) (by omega) d6
 have e8 := sNum_enc b7 f7 f8 d7
 have e9 := sCount_enc (limit := 8) b8 (by omega) (by omega) d8
 have e10 := sPropsF_enc m.props _ [] b9 q3 d9
 unfold sMsg
 simp only [e1, e2, e3, e4, e5, e6, e7, e8, e9, Int.toNat_natCast, e10, List.nil_append]
 have hr : decide ((if m.retain = true then (1 : Int) else 0) = 1) = m.retain := by cases m.retain <;> simp
 rw [hr]
 unfold encM
 simp only [List.length_append, Nat.add_assoc]
theorem encM_small {m : Msg} (h : checkR m = 0) : (encM m).length ≤ 100000 := by
 obtain ⟨p1, p2, p3, p4⟩ := checkR_parts h
 obtain ⟨q1, _, q3⟩ := propsR_parts p4
 have h1 := encT_len m.topic
 have h2 := encT_len m.payload
 have h3 := encT_len m.frm
 have h4 := enc_len m.level
 have h5 := enc_len (if m.retain = true then 1 else 0)
 have h6 := enc_len m.prio
 have h7 := enc_len m.exps
 have h8 := enc_len m.seq
 have h9 := enc_len m.props.length
 have h10 := encPs_len m.props 160 (fun x hx => by have h1 := keyR_len (q3 x hx).1; have h2 := (q3 x hx).2; omega)
 have h11 : m.props.length * (20 + 2 * 160) ≤ 8 * (20 + 2 * 160) := Nat.mul_le_mul_right _ q1
 unfold encM
 simp only [List.length_append]
 omega

end Go.Proofs.YtdkegoaflabjoaaGreatDoor
namespace Go.Proofs.YtdkegoaflabjoaaGreatDoor
open Go.RowKit

theorem wanted_le {s : ByteArray} (h : wantedR s = true) : s.size ≤ 88 := by
 unfold wantedR at h
 split at h
 · unfold shOkB S1.shOk at h
   simp only [Bool.and_eq_true] at h
   obtain ⟨⟨⟨_, h2⟩, h3⟩, _⟩ := h
   unfold S1.T.nameL at h2
   simp only [Bool.and_eq_true, decide_eq_true_eq] at h2
   have a2 := h2.1.2
   have a3 := (S1.T.filterL_parts h3).1
   have a4 := (S1.T.filterL_parts h3).2.1
   unfold S1.aft at a3 a4
   rw [List.length_drop] at a3 a4
   have a5 : (S1.rst (S1.dl s)).length = s.size - 7 := by
    unfold S1.rst
    rw [List.length_drop]
    rfl
   omega
 · have := (S1.T.filterL_parts h).2.1
   rw [show (S1.dl s).length = s.size from rfl] at this
   omega
theorem checkR_fits {m : Msg} (h : checkR m = 0) : m.fits := by
 unfold checkR at h
 split at h
 · omega
 split at h
 · omega
 next h2 =>
 split at h
 · omega
 next h3 =>
 split at h
 · omega
 next h4 =>
 split at h
 · omega
 split at h
 · omega
 next h6 =>
 unfold Msg.fits
 omega
theorem firstE_zero {α : Type} {f : α → Nat} : ∀ {l : List α}, firstE f l = 0 → ∀ x ∈ l, f x = 0 := by
 intro l
 induction l with
 | nil => intro _ x hx; cases hx
 | cons y r ih =>
   intro h x hx
   rw [firstE] at h
   by_cases hy : f y ≠ 0
   · rw [if_pos hy] at h; exact absurd h hy
   · rw [if_neg hy] at h
     rcases List.mem_cons.1 hx with rfl | hx
     · exact Decidable.of_not_not hy
     · exact ih h x hx
theorem listR_parts {α : Type} {id : Int} {l : List α} {f : α → Nat} (h : listR id l f = 0) : (1 ≤ id ∧ id ≤ 65535) ∧ l.length ≤ 32 ∧ ∀ x ∈ l, f x = 0 := by
 unfold listR at h
 split at h
 · next h1 => exact absurd h h1
 next h1 =>
 split at h
 · next h2 => exact absurd h h2
 next h2 =>
 refine ⟨?_, ?_, firstE_zero h⟩
 · unfold idR at h1
   split at h1 <;> omega
 · unfold lenR at h2
   split at h2
   · omega
   · split at h2 <;> omega
theorem idR_in {n : Int} (h : idR n = 0) : 1 ≤ n ∧ n ≤ 65535 := by
 unfold idR at h
 split at h <;> omega
theorem codR_in {n : Int} (h : codR n = 0) : 0 ≤ n ∧ n ≤ 29 := by
 unfold codR at h
 split at h <;> omega
theorem subR_in {x : SB} (h : subR x = 0) : x.1.size ≤ 88 ∧ (0 ≤ x.2.1 ∧ x.2.1 ≤ 2) := by
 unfold subR at h
 split at h
 · omega
 next h1 =>
 split at h
 · omega
 next h2 => exact ⟨wanted_le (by simpa using h1), by omega⟩
theorem filR_in {s : ByteArray} (h : filR s = 0) : s.size ≤ 88 := by
 unfold filR at h
 split at h
 · omega
 next h1 => exact wanted_le (by simpa using h1)
theorem connR_parts {p : Pkt} (h : connR p = 0) : p.client.size ≤ 16 ∧ p.user.size ≤ 16 ∧ (0 ≤ p.keep ∧ p.keep ≤ 1099511627776) ∧ (0 ≤ p.expiry ∧ p.expiry ≤ 1099511627776) ∧ (1 ≤ p.window ∧ p.window ≤ 32) ∧
 (p.wset = false → p.wdelay = 0 ∧ p.wmsg = Msg.zero) ∧ (p.wset = true → (0 ≤ p.wdelay ∧ p.wdelay ≤ 1099511627776) ∧ checkR p.wmsg = 0) := by
 unfold connR at h
 split at h
 · omega
 next h1 =>
 split at h
 · omega
 next h2 =>
 refine ⟨nameR_size (by cases hn : nameR p.client <;> simp_all), ?_, by omega, by omega, by omega, ?_, ?_⟩
 · by_cases he : p.user = ⟨#[]⟩
   · rw [he]; decide
   · exact nameR_size (by cases hn : nameR p.user <;> simp_all)
 · intro hs
   unfold willR at h
   rw [if_pos hs] at h
   split at h
   · omega
   next h3 => exact ⟨by apply Decidable.of_not_not; intro hh; exact h3 (.inl hh), by apply Decidable.of_not_not; intro hh; exact h3 (.inr hh)⟩
 · intro hs
   unfold willR at h
   rw [if_neg (by rw [hs]; simp)] at h
   split at h
   · omega
   next h3 => exact ⟨by omega, h⟩
theorem pubR_parts {p : Pkt} (h : pubR p = 0) : checkR p.msg = 0 ∧ (0 ≤ p.id ∧ p.id ≤ 65535) := by
 unfold pubR at h
 split at h
 · next h1 => exact absurd h h1
 next h1 =>
 refine ⟨Decidable.of_not_not h1, ?_⟩
 split at h
 · have := idR_in h; omega
 · split at h
   · omega
   · omega
theorem ackR_parts {p : Pkt} (h : ackR p = 0) : 0 ≤ p.code ∧ p.code ≤ 29 := by
 unfold ackR at h
 split at h
 · next h1 => exact absurd h h1
 next h1 => exact codR_in (Decidable.of_not_not h1)

theorem sConn_enc {l r : List UInt8} {k : Nat} {p : Pkt} (hu : p = usedP p) (hk1 : p.kind = 1) (hc : connR p = 0) (hk : k ≤ l.length) (h : l.drop k = encConn p ++ r) :
 sConn l ((k : Int), 0) = (p, (((k + (encConn p).length : Nat) : Int), 0)) := by
 obtain ⟨p1, p2, p3, p4, p5, p6, p7⟩ := connR_parts hc
 have hl : (encConn p).length = (encT p.client).length + ((encT p.user).length + ((enc (fl2 p.clean p.wset)).length + ((enc p.keep).length + ((enc p.expiry).length + ((enc p.window).length + (if p.wset then enc p.wdelay ++ encM p.wmsg else []).length))))) := by
  unfold encConn
  simp only [List.length_append]
 rw [hl]
 unfold encConn at h
 simp only [List.append_assoc] at h
 obtain ⟨b1, d1⟩ := drop_app hk h
 obtain ⟨b2, d2⟩ := drop_app b1 d1
 obtain ⟨b3, d3⟩ := drop_app b2 d2
 obtain ⟨b4, d4⟩ := drop_app b3 d3
 obtain ⟨b5, d5⟩ := drop_app b4 d4
 obtain ⟨b6, d6⟩ := drop_app b5 d5
 have e1 := sText_enc (limit := 16) hk (by omega) (by omega) h
 have e2 := sText_enc (limit := 16) b1 (by omega) (by omega) d1
 have e3 := sBelow_enc (most := 4) b2 (fl2_in p.clean p.wset).1 (fl2_in p.clean p.wset).2 (by omega) d2
 have e4 := sNum_enc b3 (by omega) (by omega) d3
 have e5 := sNum_enc b4 (by omega) (by omega) d4
 have e6 := sNum_enc b5 (by omega) (by omega) d5
 unfold sConn
 simp only [e1, e2, e3, e4, e5, e6, fl2_a, fl2_b]
 cases hs : p.wset with
 | false =>
   obtain ⟨q1, q2⟩ := p6 hs
   rw [if_neg (by simp)]
   refine Prod.ext ?_ ?_
   · dsimp only
     conv => rhs; rw [hu]
     simp [usedP, hk1, Pkt.zero, hs, q1, q2]
   · simp [Nat.add_assoc]
 | true =>
   obtain ⟨q1, q2⟩ := p7 hs
   rw [if_pos hs, List.append_assoc] at d6
   obtain ⟨b7, d7⟩ := drop_app b6 d6
   have e7 := sNum_enc b6 (by omega) (by omega) d6
   have e8 := sMsg_enc b7 q2 (checkR_fits q2) d7
   rw [hs] at e7 e8
   rw [if_pos (by simp)]
   simp only [e7, e8]
   refine Prod.ext ?_ ?_
   · dsimp only
     conv => rhs; rw [hu]
     simp [usedP, hk1, Pkt.zero, hs]
   · simp [Nat.add_assoc]

end Go.Proofs.YtdkegoaflabjoaaGreatDoor
namespace Go.Proofs.YtdkegoaflabjoaaGreatDoor
open Go.RowKit

theorem sPub_enc {l r : List UInt8} {k : Nat} {p : Pkt} (hu : p = usedP p) (hk1 : p.kind = 3) (hc : pubR p = 0) (hk : k ≤ l.length) (h : l.drop k = enc (b2i p.dup) ++ encM p.msg ++ r) :
 sPub l p.id ((k : Int), 0) = (p, (((k + (enc (b2i p.dup) ++ encM p.msg).length : Nat) : Int), 0)) := by
 obtain ⟨p1, p2⟩ := pubR_parts hc
 rw [List.append_assoc] at h
 obtain ⟨b1, d1⟩ := drop_app hk h
 have e1 := sBelow_enc (most := 2) hk (b2i_in p.dup).1 (b2i_in p.dup).2 (by omega) h
 have e2 := sMsg_enc b1 p1 (checkR_fits p1) d1
 unfold sPub
 simp only [e1, e2, b2i_one]
 refine Prod.ext ?_ ?_
 · dsimp only
   conv => rhs; rw [hu]
   simp [usedP, hk1, Pkt.zero]
 · simp [Nat.add_assoc]
theorem sLists_enc8 {l r : List UInt8} {k : Nat} {p : Pkt} (hu : p = usedP p) (hk1 : p.kind = 8) (hc : listR p.id p.subs subR = 0) (hk : k ≤ l.length) (h : l.drop k = enc p.subs.length ++ encG encS p.subs ++ r) :
 sLists l p.kind p.id ((k : Int), 0) = (p, (((k + (enc p.subs.length ++ encG encS p.subs).length : Nat) : Int), 0)) := by
 obtain ⟨p1, p2, p3⟩ := listR_parts hc
 rw [List.append_assoc] at h
 obtain ⟨b1, d1⟩ := drop_app hk h
 have e1 := sCount_enc (limit := 32) hk (by omega) (by omega) h
 have e2 := sList_enc (f := sSub l) (g := encS) (fun x => subR x = 0) (fun x k r hx hk h => sSub_enc (subR_in hx).1 (subR_in hx).2 hk h) p.subs _ [] b1 p3 d1
 unfold sLists
 simp only [e1, if_pos hk1, Int.toNat_natCast, e2, List.nil_append]
 refine Prod.ext ?_ ?_
 · dsimp only
   conv => rhs; rw [hu]
   simp [usedP, hk1, Pkt.zero]
 · simp [Nat.add_assoc]
theorem sLists_enc10 {l r : List UInt8} {k : Nat} {p : Pkt} (hu : p = usedP p) (hk1 : p.kind = 10) (hc : listR p.id p.filters filR = 0) (hk : k ≤ l.length) (h : l.drop k = enc p.filters.length ++ encG encT p.filters ++ r) :
 sLists l p.kind p.id ((k : Int), 0) = (p, (((k + (enc p.filters.length ++ encG encT p.filters).length : Nat) : Int), 0)) := by
 obtain ⟨p1, p2, p3⟩ := listR_parts hc
 rw [List.append_assoc] at h
 obtain ⟨b1, d1⟩ := drop_app hk h
 have e1 := sCount_enc (limit := 32) hk (by omega) (by omega) h
 have e2 := sList_enc (f := sText l 88) (g := encT) (fun x => filR x = 0) (fun x k r hx hk h => sText_enc hk (by have := filR_in hx; omega) (by omega) h) p.filters _ [] b1 p3 d1
 unfold sLists
 simp only [e1, Int.toNat_natCast, e2, List.nil_append]
 rw [if_neg (by omega), if_pos hk1]
 refine Prod.ext ?_ ?_
 · dsimp only
   conv => rhs; rw [hu]
   simp [usedP, hk1, Pkt.zero]
 · simp [Nat.add_assoc]
theorem sLists_enc9 {l r : List UInt8} {k : Nat} {p : Pkt} (hu : p = usedP p) (hk1 : p.kind = 9 ∨ p.kind = 11) (hc : listR p.id p.codes codR = 0) (hk : k ≤ l.length) (h : l.drop k = enc p.codes.length ++ encG enc p.codes ++ r) :
 sLists l p.kind p.id ((k : Int), 0) = (p, (((k + (enc p.codes.length ++ encG enc p.codes).length : Nat) : Int), 0)) := by
 obtain ⟨p1, p2, p3⟩ := listR_parts hc
 rw [List.append_assoc] at h
 obtain ⟨b1, d1⟩ := drop_app hk h
 have e1 := sCount_enc (limit := 32) hk (by omega) (by omega) h
 have e2 := sList_enc (f := sNum l) (g := enc) (fun x => codR x = 0) (fun x k r hx hk h => sNum_enc hk (by have := codR_in hx; omega) (by have := codR_in hx; omega) h) p.codes _ [] b1 p3 d1
 unfold sLists
 simp only [e1, Int.toNat_natCast, e2, List.nil_append]
 rw [if_neg (by omega), if_neg (by omega)]
 refine Prod.ext ?_ ?_
 · dsimp only
   conv => rhs; rw [hu]
   rcases hk1 with hk1 | hk1 <;> simp [usedP, hk1, Pkt.zero]
 · simp [Nat.add_assoc]
/-- the values of a valid packet are recovered -/
theorem sBody_enc {l r : List UInt8} {k : Nat} {p : Pkt} (hc : checkP p = 0) (hk : k ≤ l.length) (h : l.drop k = encBody p ++ r) :
 sBody l p.kind ((k : Int), 0) = (p, (((k + (encBody p).length : Nat) : Int), 0)) := by
 have hu := checkP_used hc
 have hb := checkP_body hc
 have hkd := checkP_kind hc
 unfold bodyR at hb
 unfold encBody at h ⊢
 unfold sBody
 by_cases k1 : p.kind = 1
 · rw [if_pos k1] at hb h ⊢
   rw [if_pos k1]
   exact sConn_enc hu k1 hb hk h
 rw [if_neg k1] at hb h ⊢
 rw [if_neg k1]
 by_cases k2 : p.kind = 2
 · rw [if_pos k2] at hb h ⊢
   rw [if_pos k2]
   have p1 := ackR_parts hb
   rw [List.append_assoc] at h
   obtain ⟨b1, d1⟩ := drop_app hk h
   have e1 := sBelow_enc (most := 2) hk (b2i_in p.present).1 (b2i_in p.present).2 (by omega) h
   have e2 := sNum_enc b1 (by omega) (by omega) d1
   simp only [e1, e2, b2i_one]
   refine Prod.ext ?_ ?_
   · dsimp only
     conv => rhs; rw [hu]
     simp [usedP, k2, Pkt.zero]
   · simp [Nat.add_assoc]
 rw [if_neg k2] at hb h ⊢
 rw [if_neg k2]
 by_cases k14 : p.kind = 14
 · rw [if_pos k14] at h ⊢
   rw [if_pos k14]
   rw [if_neg (by omega), if_neg (by omega), if_neg (by omega), if_neg (by omega), if_neg (by omega), if_pos k14] at hb
   have p1 := codR_in hb
   have e1 := sNum_enc hk (by omega) (by omega) h
   simp only [e1]
   refine Prod.ext ?_ rfl
   · dsimp only
     conv => rhs; rw [hu]
     simp [usedP, k14, Pkt.zero]
 rw [if_neg k14] at h ⊢
 rw [if_neg k14]
 by_cases k12 : p.kind = 12 ∨ p.kind = 13
 · rw [if_pos k12] at h ⊢
   rw [if_pos k12]
   refine Prod.ext ?_ ?_
   · dsimp only
     conv => rhs; rw [hu]
     rcases k12 with k12 | k12 <;> simp [usedP, k12, Pkt.zero]
   · simp
 rw [if_neg k12] at h ⊢
 rw [if_neg k12]
 rw [List.append_assoc] at h
 have hid : 0 ≤ p.id ∧ p.id ≤ 65535 := by
  by_cases k3 : p.kind = 3
  · rw [if_pos k3] at hb; exact (pubR_parts hb).2
  rw [if_neg k3] at hb
  split at hb
  · have := idR_in hb; omega
  split at hb
  · have := (listR_parts hb).1; omega
  split at hb
  · have := (listR_parts hb).1; omega
  split at hb
  · have := (listR_parts hb).1; omega
  · omega
 obtain ⟨b1, d1⟩ := drop_app hk h
 have e1 := sNum_enc hk (by omega) (by omega) h
 rw [e1, List.length_append, ← Nat.add_assoc]
 dsimp only
 by_cases k3 : p.kind = 3
 · rw [if_pos k3] at hb d1 ⊢
   rw [if_pos k3]
   exact sPub_enc hu k3 hb b1 d1
 rw [if_neg k3] at hb d1 ⊢
 rw [if_neg k3]
 by_cases k7 : p.kind ≤ 7
 · rw [if_pos k7] at d1 ⊢
   rw [if_pos k7]
   refine Prod.ext ?_ ?_
   · dsimp only
     conv => rhs; rw [hu]
     have : p.kind = 4 ∨ p.kind = 5 ∨ p.kind = 6 ∨ p.kind = 7 := by omega
     rcases this with k | k | k | k <;> simp [usedP, k, Pkt.zero]
   · simp
 rw [if_neg (by omega)] at hb
 rw [if_neg k7] at d1 ⊢
 rw [if_neg k7]
 by_cases k8 : p.kind = 8
 · rw [if_pos k8] at hb d1
   rw [if_pos k8]
   exact sLists_enc8 hu k8 hb b1 d1
 rw [if_neg k8] at hb d1
 rw [if_neg k8]
 by_cases k10 : p.kind = 10
 · rw [if_pos k10] at hb d1
   rw [if_pos k10]
   exact sLists_enc10 hu k10 hb b1 d1
 rw [if_neg k10] at hb d1
 rw [if_neg k10]
 have k9 : p.kind = 9 ∨ p.kind = 11 := by omega
 rw [if_pos k9] at hb
 exact sLists_enc9 hu k9 hb b1 d1

theorem encG_len {α : Type} {f : α → List UInt8} {P : α → Prop} {M : Nat} (hf : ∀ x, P x → (f x).length ≤ M) : ∀ l : List α, (∀ x ∈ l, P x) → (encG f l).length ≤ l.length * M := by
 intro l
 induction l with
 | nil => intro _; simp [encG]
 | cons x l ih =>
   intro h
   have h1 := hf x (h x (by simp))
   have h2 := ih (fun y hy => h y (by simp [hy]))
   rw [encG_cons, List.length_append, List.length_cons, Nat.succ_mul]
   omega
theorem encM_le {m : Msg} (h : checkR m = 0) : (encM m).length ≤ 1998 := by
 obtain ⟨p1, p2, p3, p4⟩ := checkR_parts h
 obtain ⟨q1, _, q3⟩ := propsR_parts p4
 have h1 := encT_len m.topic
 have h2 := encT_len m.payload
 have h3 := encT_len m.frm
 have h4 := enc_len m.level
 have h5 := enc_len (if m.retain = true then 1 else 0)
 have h6 := enc_len m.prio
 have h7 := enc_len m.exps
 have h8 := enc_len m.seq
 have h9 := enc_len m.props.length
 have h10 : (encPs m.props).length ≤ m.props.length * 196 := encG_len (f := fun x : PR => encT x.1 ++ encT x.2) (P := okP) (M := 196) (fun x hx => by
  have h1 := keyR_len hx.1
  have h2 := hx.2
  have h3 := encT_len x.1
  have h4 := encT_len x.2
  rw [List.length_append]
  omega) m.props q3
 have h11 : m.props.length * 196 ≤ 8 * 196 := Nat.mul_le_mul_right _ q1
 unfold encM
 simp only [List.length_append]
 omega
theorem encS_le {x : SB} (h : subR x = 0) : (encS x).length ≤ 118 := by
 have h1 := (subR_in h).1
 have h2 := encT_len x.1
 have h3 := enc_len x.2.1
 have h4 := enc_len (b2i x.2.2)
 unfold encS
 simp only [List.length_append]
 omega
theorem encT_le {s : ByteArray} (h : filR s = 0) : (encT s).length ≤ 98 := by
 have h1 := filR_in h
 have h2 := encT_len s
 omega
theorem encConn_le {p : Pkt} (h : connR p = 0) : (encConn p).length ≤ 2200 := by
 obtain ⟨p1, p2, _, _, _, _, p7⟩ := connR_parts h
 have h1 := encT_len p.client
 have h2 := encT_len p.user
 have h3 := enc_len (fl2 p.clean p.wset)
 have h4 := enc_len p.keep
 have h5 := enc_len p.expiry
 have h6 := enc_len p.window
 have h7 : (if p.wset = true then enc p.wdelay ++ encM p.wmsg else []).length ≤ 2010 := by
  by_cases hs : p.wset = true
  · rw [if_pos hs, List.length_append]
    have h1 := encM_le (p7 hs).2
    have h2 := enc_len p.wdelay
    omega
  · rw [if_neg hs]; simp
 unfold encConn
 simp only [List.length_append]
 omega
theorem encBody_le {p : Pkt} (hc : checkP p = 0) : (encBody p).length ≤ 4000 := by
 have hb := checkP_body hc
 have hkd := checkP_kind hc
 unfold bodyR at hb
 unfold encBody
 have g1 := enc_len p.id
 have g2 := enc_len p.code
 by_cases k1 : p.kind = 1
 · rw [if_pos k1] at hb ⊢
   have := encConn_le hb
   omega
 rw [if_neg k1] at hb ⊢
 by_cases k2 : p.kind = 2
 · rw [if_pos k2, List.length_append]
   have := enc_len (b2i p.present)
   omega
 rw [if_neg k2] at hb ⊢
 by_cases k14 : p.kind = 14
 · rw [if_pos k14]; omega
 rw [if_neg k14]
 by_cases k12 : p.kind = 12 ∨ p.kind = 13
 · rw [if_pos k12]; simp
 rw [if_neg k12, List.length_append]
 by_cases k3 : p.kind = 3
 · rw [if_pos k3] at hb ⊢
   have := encM_le (pubR_parts hb).1
   have := enc_len (b2i p.dup)
   rw [List.length_append]
   omega
 rw [if_neg k3] at hb ⊢
 by_cases k7 : p.kind ≤ 7
 · rw [if_pos k7]; simp; omega
 rw [if_neg (by omega)] at hb
 rw [if_neg k7]
 by_cases k8 : p.kind = 8
 · rw [if_pos k8] at hb ⊢
   obtain ⟨_, p2, p3⟩ := listR_parts hb
   have g3 := enc_len (p.subs.length : Int)
   have g4 := encG_len (f := encS) (P := fun x => subR x = 0) (M := 118) (fun x hx => encS_le hx) p.subs p3
   have g5 : p.subs.length * 118 ≤ 32 * 118 := Nat.mul_le_mul_right _ p2
   rw [List.length_append]
   omega
 rw [if_neg k8] at hb ⊢
 by_cases k10 : p.kind = 10
 · rw [if_pos k10] at hb ⊢
   obtain ⟨_, p2, p3⟩ := listR_parts hb
   have g3 := enc_len (p.filters.length : Int)
   have g4 := encG_len (f := encT) (P := fun x => filR x = 0) (M := 98) (fun x hx => encT_le hx) p.filters p3
   have g5 : p.filters.length * 98 ≤ 32 * 98 := Nat.mul_le_mul_right _ p2
   rw [List.length_append]
   omega
 rw [if_neg k10] at hb ⊢
 have k9 : p.kind = 9 ∨ p.kind = 11 := by omega
 rw [if_pos k9] at hb
 obtain ⟨_, p2, p3⟩ := listR_parts hb
 have g3 := enc_len (p.codes.length : Int)
 have g4 := encG_len (f := enc) (P := fun x => codR x = 0) (M := 10) (fun x _ => (enc_len x).2) p.codes p3
 have g5 : p.codes.length * 10 ≤ 32 * 10 := Nat.mul_le_mul_right _ p2
 rw [List.length_append]
 omega
theorem encPk_le {p : Pkt} (hc : checkP p = 0) : (encPk p).length ≤ 4010 ∧ 1 ≤ (encPk p).length := by
 have h1 := encBody_le hc
 have h2 := enc_len p.kind
 unfold encPk
 rw [List.length_append]
 omega
/-- a valid packet is recovered from its form -/
theorem decodeR_enc {p : Pkt} (hc : checkP p = 0) : decodeR (encPk p) = (p, 0) := by
 have h1 := encPk_le hc
 have hkd := checkP_kind hc
 have e1 : sNum (encPk p) (0, 0) = (p.kind, (((enc p.kind).length : Int), 0)) := by
  have := sNum_enc (l := encPk p) (k := 0) (n := p.kind) (r := encBody p) (by omega) (by omega) (by omega) rfl
  simpa using this
 have e2 := sBody_enc (l := encPk p) (r := []) (k := (enc p.kind).length) hc (by unfold encPk; simp) (by unfold encPk; rw [List.drop_left, List.append_nil])
 have hl : (enc p.kind).length + (encBody p).length = (encPk p).length := by unfold encPk; rw [List.length_append]
 rw [hl] at e2
 unfold decodeR
 rw [if_neg (by omega)]
 simp only [e1, e2]
 rw [if_neg (by simp), if_neg (by omega), if_neg (by simp), if_neg (by omega), if_neg (by simp [hc])]

end Go.Proofs.YtdkegoaflabjoaaGreatDoor
namespace Go.Proofs.YtdkegoaflabjoaaGreatDoor
open Go.RowKit

end Go.Proofs.YtdkegoaflabjoaaGreatDoor
namespace Go.Proofs.YtdkegoaflabjoaaGreatDoor
open Go.RowKit

theorem sNum_z {l : List UInt8} {st : Int × Int} (h : st.2 = 3) : (sNum l st).2.2 = 3 := by
 unfold sNum
 rw [if_pos (by omega)]
 exact h
theorem sText_z {l : List UInt8} {lim : Int} {st : Int × Int} (h : st.2 = 3) : (sText l lim st).2.2 = 3 := by
 unfold sText
 rw [if_pos (by omega)]
 exact h
theorem sCount_z {l : List UInt8} {lim : Int} {st : Int × Int} (h : st.2 = 3) : (sCount l lim st).2.2 = 3 := by
 unfold sCount
 rw [if_pos (by omega)]
 exact h
theorem sBelow_z0 {l : List UInt8} {m : Int} {st : Int × Int} (h : (sNum l st).2.2 = 3) : (sBelow l m st).2.2 = 3 := by
 unfold sBelow
 rw [if_neg (by omega), if_pos (by omega)]
 exact h
theorem sBelow_z {l : List UInt8} {m : Int} {st : Int × Int} (h : st.2 = 3) : (sBelow l m st).2.2 = 3 := sBelow_z0 (sNum_z h)
theorem sPropsF_z {l : List UInt8} {n : Nat} {st : Int × Int} {acc : List PR} (h : st.2 = 3) : (sPropsF l n st acc).2.2 = 3 := by
 cases n with
 | zero => exact h
 | succ n => rw [sPropsF, if_pos (by omega)]; exact h
theorem sList_z {α : Type} {f : Int × Int → α × (Int × Int)} {n : Nat} {st : Int × Int} {acc : List α} (h : st.2 = 3) : (sList f n st acc).2.2 = 3 := by
 cases n with
 | zero => exact h
 | succ n => rw [sList, if_pos (by omega)]; exact h
/-- one step of the way to the end: what is read is whole, or it is torn -/
def Step {α : Type} (l : List UInt8) (f : Int × Int → α × (Int × Int)) (e : List UInt8) (x : α) : Prop :=
 ∀ (k j : Nat) (E : List UInt8), k ≤ l.length → l.drop k = (e ++ E).take j →
  (f ((k : Int), 0) = (x, (((k + e.length : Nat) : Int), 0)) ∧ e.length ≤ j ∧ k + e.length ≤ l.length ∧ l.drop (k + e.length) = E.take (j - e.length)) ∨ (f ((k : Int), 0)).2.2 = 3
theorem Step.of {α : Type} {l : List UInt8} {f : Int × Int → α × (Int × Int)} {e : List UInt8} {x : α}
 (h1 : ∀ (k : Nat) (r : List UInt8), k ≤ l.length → l.drop k = e ++ r → f ((k : Int), 0) = (x, (((k + e.length : Nat) : Int), 0)))
 (h2 : ∀ (k j : Nat), k ≤ l.length → j < e.length → l.drop k = e.take j → (f ((k : Int), 0)).2.2 = 3) : Step l f e x := by
 intro k j E hk h
 by_cases hj : j < e.length
 · exact .inr (h2 k j hk hj (by rw [h, List.take_append_of_le_length (by omega)]))
 · have h3 : l.drop k = e ++ E.take (j - e.length) := by
    rw [h, List.take_append, List.take_of_length_le (by omega)]
   obtain ⟨b, d⟩ := drop_app hk h3
   exact .inl ⟨h1 k _ hk h3, by omega, b, d⟩
theorem Step.torn {α : Type} {l : List UInt8} {f : Int × Int → α × (Int × Int)} {e : List UInt8} {x : α} (h : Step l f e x) {k j : Nat} (hk : k ≤ l.length) (hj : j < e.length) (hd : l.drop k = e.take j) : (f ((k : Int), 0)).2.2 = 3 := by
 rcases h k j [] hk (by rw [List.append_nil]; exact hd) with h | h
 · omega
 · exact h
theorem sNum_step {l : List UInt8} {n : Int} (h1 : -9223372036854775808 ≤ n) (h2 : n ≤ 9223372036854775807) : Step l (sNum l) (enc n) n :=
 .of (fun k r hk h => sNum_enc hk h1 h2 h) fun k j hk hj h => by
  unfold sNum
  rw [if_neg (by simp), numR_torn hk hj h]
  rfl
theorem sText_step {l : List UInt8} {s : ByteArray} {lim : Int} (hl : (s.size : Int) ≤ lim) (hm : lim ≤ 5000) : Step l (sText l lim) (encT s) s :=
 .of (fun k r hk h => sText_enc hk hl hm h) fun k j hk hj h => by
  unfold sText
  rw [if_neg (by simp), textR_torn hk (by omega) hl hj h]
  rfl
theorem sCount_step {l : List UInt8} {n : Nat} {lim : Int} (hl : (n : Int) ≤ lim) (hm : lim ≤ 5000) : Step l (sCount l lim) (enc n) (n : Int) :=
 .of (fun k r hk h => sCount_enc hk hl hm h) fun k j hk hj h => by
  unfold sCount
  rw [if_neg (by simp), countR_torn hk hj h]
  rfl
theorem sBelow_step {l : List UInt8} {n most : Int} (h1 : 0 ≤ n) (h2 : n < most) (hm : most ≤ 5000) : Step l (sBelow l most) (enc n) n :=
 .of (fun k r hk h => sBelow_enc hk h1 h2 hm h) fun k j hk hj h => sBelow_z0 (by
  unfold sNum
  rw [if_neg (by simp), numR_torn hk hj h]
  rfl)
macro "zap" t:term : tactic => `(tactic| repeat (first | with_reducible exact $t | with_reducible apply sNum_z | with_reducible apply sText_z | with_reducible apply sCount_z | with_reducible apply sBelow_z | with_reducible apply sPropsF_z | with_reducible apply sList_z))
theorem sPropsF_torn {l : List UInt8} : ∀ (xs : List PR) (k j : Nat) (acc : List PR), k ≤ l.length → (∀ x ∈ xs, okP x) → j < (encPs xs).length → l.drop k = (encPs xs).take j →
 (sPropsF l xs.length ((k : Int), 0) acc).2.2 = 3 := by
 intro xs
 induction xs with
 | nil => intro k j acc _ _ hj _; simp [encPs] at hj
 | cons x xs ih =>
   intro k j acc hk hx hj h
   obtain ⟨hk1, hv1⟩ := hx x (by simp)
   have hks := (keyR_len hk1).2
   rw [encPs_cons] at h hj
   rw [List.length_append, List.length_append] at hj
   rw [List.length_cons, sPropsF, if_neg (by simp)]
   rcases sText_step (l := l) (s := x.1) (lim := 16) (by omega) (by omega) k j _ hk h with ⟨e1, c1, b1, d1⟩ | t
   · rw [e1]
     dsimp only
     rcases sText_step (l := l) (s := x.2) (lim := 160) (by omega) (by omega) _ _ _ b1 d1 with ⟨e2, c2, b2, d2⟩ | t
     · rw [e2]
       dsimp only
       exact ih _ _ _ b2 (fun y hy => hx y (by simp [hy])) (by omega) d2
     · zap t
   · zap t
theorem sList_torn {α : Type} {l : List UInt8} {f : Int × Int → α × (Int × Int)} {g : α → List UInt8} (P : α → Prop) (hf : ∀ x, P x → Step l f (g x) x) :
 ∀ (xs : List α) (k j : Nat) (acc : List α), k ≤ l.length → (∀ x ∈ xs, P x) → j < (encG g xs).length → l.drop k = (encG g xs).take j → (sList f xs.length ((k : Int), 0) acc).2.2 = 3 := by
 intro xs
 induction xs with
 | nil => intro k j acc _ _ hj _; simp [encG] at hj
 | cons x xs ih =>
   intro k j acc hk hx hj h
   rw [encG_cons] at h hj
   rw [List.length_append] at hj
   rw [List.length_cons, sList, if_neg (by simp)]
   rcases hf x (hx x (by simp)) k j _ hk h with ⟨e1, c1, b1, d1⟩ | t
   · rw [e1]
     dsimp only
     exact ih _ _ _ b1 (fun y hy => hx y (by simp [hy])) (by omega) d1
   · exact sList_z t
theorem sSub_step {l : List UInt8} {x : SB} (hs : x.1.size ≤ 88) (hn : 0 ≤ x.2.1 ∧ x.2.1 ≤ 2) : Step l (sSub l) (encS x) x :=
 .of (fun k r hk h => sSub_enc hs hn hk h) fun k j hk hj h => by
  unfold encS at h hj
  simp only [List.length_append] at hj
  unfold sSub
  dsimp only
  rcases sText_step (l := l) (s := x.1) (lim := 88) (by omega) (by omega) k j _ hk h with ⟨e1, c1, b1, d1⟩ | t
  · rw [e1]
    dsimp only
    rcases sNum_step (l := l) (n := x.2.1) (by omega) (by omega) _ _ _ b1 d1 with ⟨e2, c2, b2, d2⟩ | t
    · rw [e2]
      dsimp only
      exact (sBelow_step (l := l) (b2i_in x.2.2).1 (b2i_in x.2.2).2 (by omega)).torn b2 (by omega) d2
    · zap t
  · zap t

theorem sMsg_z {l : List UInt8} {st : Int × Int} (h : st.2 = 3) : (sMsg l st).2.2 = 3 := by
 unfold sMsg
 dsimp only
 zap h
theorem sMsg_step {l : List UInt8} {m : Msg} (hc : checkR m = 0) : Step l (sMsg l) (encM m) m :=
 .of (fun k r hk h => sMsg_enc hk hc (checkR_fits hc) h) fun k j hk hj h => by
  obtain ⟨p1, p2, p3, p4⟩ := checkR_parts hc
  obtain ⟨q1, _, q3⟩ := propsR_parts p4
  obtain ⟨⟨f1, f2⟩, ⟨f3, f4⟩, ⟨f5, f6⟩, f7, f8⟩ := checkR_fits hc
  unfold encM at h hj
  simp only [List.append_assoc] at h hj
  simp only [List.length_append] at hj
  unfold sMsg
  dsimp only
  rcases sText_step (l := l) (s := m.topic) (lim := 64) (by omega) (by omega) k j _ hk h with ⟨e1, c1, b1, d1⟩ | t
  case inr => zap t
  rw [e1]
  dsimp only
  rcases sText_step (l := l) (s := m.payload) (lim := 256) (by omega) (by omega) _ _ _ b1 d1 with ⟨e2, c2, b2, d2⟩ | t
  case inr => zap t
  rw [e2]
  dsimp only
  rcases sNum_step (l := l) f1 f2 _ _ _ b2 d2 with ⟨e3, c3, b3, d3⟩ | t
  case inr => zap t
  rw [e3]
  dsimp only
  rcases sBelow_step (l := l) (n := if m.retain = true then 1 else 0) (most := 2) (by split <;> omega) (by split <;> omega) (by omega) _ _ _ b3 d3 with ⟨e4, c4, b4, d4⟩ | t
  case inr => zap t
  rw [e4]
  dsimp only
  rcases sNum_step (l := l) f3 f4 _ _ _ b4 d4 with ⟨e5, c5, b5, d5⟩ | t
  case inr => zap t
  rw [e5]
  dsimp only
  rcases sNum_step (l := l) f5 f6 _ _ _ b5 d5 with ⟨e6, c6, b6, d6⟩ | t
  case inr => zap t
  rw [e6]
  dsimp only
  rcases sText_step (l := l) (s := m.frm) (lim := 16) (by omega) (by omega) _ _ _ b6 d6 with ⟨e7, c7, b7, d7⟩ | t
  case inr => zap t
  rw [e7]
  dsimp only
  rcases sNum_step (l := l) f7 f8 _ _ _ b7 d7 with ⟨e8, c8, b8, d8⟩ | t
  case inr => zap t
  rw [e8]
  dsimp only
  rcases sCount_step (l := l) (n := m.props.length) (lim := 8) (by omega) (by omega) _ _ _ b8 d8 with ⟨e9, c9, b9, d9⟩ | t
  case inr => zap t
  rw [e9]
  dsimp only
  rw [Int.toNat_natCast]
  exact sPropsF_torn m.props _ _ [] b9 q3 (by omega) d9
theorem sConn_z {l : List UInt8} {p : Int × Int} (h : (sNum l (sNum l (sNum l (sBelow l 4 (sText l 16 (sText l 16 p).2).2).2).2).2).2.2 = 3) : (sConn l p).2.2 = 3 := by
 unfold sConn
 dsimp only
 rw [if_neg (by omega)]
 exact h
theorem sConn_torn {l : List UInt8} {p : Pkt} {k j : Nat} (hc : connR p = 0) (hk : k ≤ l.length) (hj : j < (encConn p).length) (h : l.drop k = (encConn p).take j) : (sConn l ((k : Int), 0)).2.2 = 3 := by
 obtain ⟨p1, p2, p3, p4, p5, p6, p7⟩ := connR_parts hc
 unfold encConn at h hj
 simp only [List.length_append] at hj
 have key : (sNum l (sNum l (sNum l (sBelow l 4 (sText l 16 (sText l 16 ((k : Int), 0)).2).2).2).2).2).2.2 = 3 → (sConn l ((k : Int), 0)).2.2 = 3 := sConn_z
 rcases sText_step (l := l) (s := p.client) (lim := 16) (by omega) (by omega) k j _ hk h with ⟨e1, c1, b1, d1⟩ | t
 case inr => exact key (by zap t)
 rw [e1] at key
 dsimp only at key
 rcases sText_step (l := l) (s := p.user) (lim := 16) (by omega) (by omega) _ _ _ b1 d1 with ⟨e2, c2, b2, d2⟩ | t
 case inr => exact key (by zap t)
 rw [e2] at key
 dsimp only at key
 rcases sBelow_step (l := l) (most := 4) (fl2_in p.clean p.wset).1 (fl2_in p.clean p.wset).2 (by omega) _ _ _ b2 d2 with ⟨e3, c3, b3, d3⟩ | t
 case inr => exact key (by zap t)
 rw [e3] at key
 dsimp only at key
 rcases sNum_step (l := l) (n := p.keep) (by omega) (by omega) _ _ _ b3 d3 with ⟨e4, c4, b4, d4⟩ | t
 case inr => exact key (by zap t)
 rw [e4] at key
 dsimp only at key
 rcases sNum_step (l := l) (n := p.expiry) (by omega) (by omega) _ _ _ b4 d4 with ⟨e5, c5, b5, d5⟩ | t
 case inr => exact key (by zap t)
 rw [e5] at key
 dsimp only at key
 rcases sNum_step (l := l) (n := p.window) (by omega) (by omega) _ _ _ b5 d5 with ⟨e6, c6, b6, d6⟩ | t
 case inr => exact key t
 clear key
 by_cases hs : p.wset = true
 case neg => rw [if_neg hs] at hj; simp at hj; omega
 rw [if_pos hs] at d6 hj
 rw [List.length_append] at hj
 obtain ⟨q1, q2⟩ := p7 hs
 unfold sConn
 simp only [e1, e2, e3, e4, e5, e6, fl2_a, fl2_b]
 rw [if_pos (by simp [hs])]
 dsimp only
 rcases sNum_step (l := l) (n := p.wdelay) (by omega) (by omega) _ _ _ b6 d6 with ⟨e7, c7, b7, d7⟩ | t
 case inr => exact sMsg_z t
 rw [e7]
 exact (sMsg_step q2).torn b7 (by omega) d7
/-- the values of a valid packet, torn -/
theorem sBody_torn {l : List UInt8} {p : Pkt} {k j : Nat} (hc : checkP p = 0) (hk : k ≤ l.length) (hj : j < (encBody p).length) (h : l.drop k = (encBody p).take j) : (sBody l p.kind ((k : Int), 0)).2.2 = 3 := by
 have hb := checkP_body hc
 have hkd := checkP_kind hc
 unfold bodyR at hb
 unfold encBody at h hj
 unfold sBody
 by_cases k1 : p.kind = 1
 · rw [if_pos k1] at hb h hj ⊢
   exact sConn_torn hb hk hj h
 rw [if_neg k1] at hb h hj ⊢
 by_cases k2 : p.kind = 2
 · rw [if_pos k2] at hb h hj ⊢
   rw [List.length_append] at hj
   have p1 := ackR_parts hb
   dsimp only
   rcases sBelow_step (l := l) (most := 2) (b2i_in p.present).1 (b2i_in p.present).2 (by omega) _ _ _ hk h with ⟨e1, c1, b1, d1⟩ | t
   case inr => zap t
   rw [e1]
   exact (sNum_step (by omega) (by omega)).torn b1 (by omega) d1
 rw [if_neg k2] at hb h hj ⊢
 by_cases k14 : p.kind = 14
 · rw [if_pos k14] at h hj ⊢
   rw [if_neg (by omega), if_neg (by omega), if_neg (by omega), if_neg (by omega), if_neg (by omega), if_pos k14] at hb
   have p1 := codR_in hb
   exact (sNum_step (l := l) (n := p.code) (by omega) (by omega)).torn hk hj h
 rw [if_neg k14] at h hj ⊢
 by_cases k12 : p.kind = 12 ∨ p.kind = 13
 · rw [if_pos k12] at hj; simp at hj
 rw [if_neg k12] at h hj ⊢
 rw [List.length_append] at hj
 have hid : 0 ≤ p.id ∧ p.id ≤ 65535 := by
  by_cases k3 : p.kind = 3
  · rw [if_pos k3] at hb; exact (pubR_parts hb).2
  rw [if_neg k3] at hb
  split at hb
  · have := idR_in hb; omega
  split at hb
  · have := (listR_parts hb).1; omega
  split at hb
  · have := (listR_parts hb).1; omega
  split at hb
  · have := (listR_parts hb).1; omega
  · omega
 rcases sNum_step (l := l) (n := p.id) (by omega) (by omega) _ _ _ hk h with ⟨e1, c1, b1, d1⟩ | t
 case inr =>
  by_cases k3 : p.kind = 3
  · rw [if_pos k3]; unfold sPub; dsimp only; exact sMsg_z (sBelow_z t)
  rw [if_neg k3]
  by_cases k7 : p.kind ≤ 7
  · rw [if_pos k7]; exact t
  rw [if_neg k7]
  unfold sLists
  dsimp only
  split
  · exact sList_z (sCount_z t)
  split
  · exact sList_z (sCount_z t)
  · exact sList_z (sCount_z t)
 rw [e1]
 dsimp only
 by_cases k3 : p.kind = 3
 · rw [if_pos k3] at hb d1 hj ⊢
   rw [List.length_append] at hj
   have p1 := (pubR_parts hb).1
   unfold sPub
   dsimp only
   rcases sBelow_step (l := l) (most := 2) (b2i_in p.dup).1 (b2i_in p.dup).2 (by omega) _ _ _ b1 d1 with ⟨e2, c2, b2, d2⟩ | t
   case inr => exact sMsg_z t
   rw [e2]
   exact (sMsg_step p1).torn b2 (by omega) d2
 rw [if_neg k3] at hb d1 hj ⊢
 by_cases k7 : p.kind ≤ 7
 · rw [if_pos k7] at hj; simp at hj; omega
 rw [if_neg (by omega)] at hb
 rw [if_neg k7] at d1 hj ⊢
 unfold sLists
 by_cases k8 : p.kind = 8
 · rw [if_pos k8] at hb d1 hj
   rw [List.length_append] at hj
   obtain ⟨_, p2, p3⟩ := listR_parts hb
   rcases sCount_step (l := l) (n := p.subs.length) (lim := 32) (by omega) (by omega) _ _ _ b1 d1 with ⟨e2, c2, b2, d2⟩ | t
   case inr => rw [if_pos k8]; exact sList_z t
   simp only [e2, Int.toNat_natCast]
   rw [if_pos k8]
   exact sList_torn (f := sSub l) (g := encS) (fun x => subR x = 0) (fun x hx => sSub_step (subR_in hx).1 (subR_in hx).2) p.subs _ _ [] b2 p3 (by omega) d2
 rw [if_neg k8] at hb d1 hj
 by_cases k10 : p.kind = 10
 · rw [if_pos k10] at hb d1 hj
   rw [List.length_append] at hj
   obtain ⟨_, p2, p3⟩ := listR_parts hb
   rcases sCount_step (l := l) (n := p.filters.length) (lim := 32) (by omega) (by omega) _ _ _ b1 d1 with ⟨e2, c2, b2, d2⟩ | t
   case inr => rw [if_neg k8, if_pos k10]; exact sList_z t
   simp only [e2, Int.toNat_natCast]
   rw [if_neg k8, if_pos k10]
   exact sList_torn (f := sText l 88) (g := encT) (fun x => filR x = 0) (fun x hx => sText_step (by have := filR_in hx; omega) (by omega)) p.filters _ _ [] b2 p3 (by omega) d2
 rw [if_neg k10] at hb d1 hj
 rw [List.length_append] at hj
 have k9 : p.kind = 9 ∨ p.kind = 11 := by omega
 rw [if_pos k9] at hb
 obtain ⟨_, p2, p3⟩ := listR_parts hb
 rcases sCount_step (l := l) (n := p.codes.length) (lim := 32) (by omega) (by omega) _ _ _ b1 d1 with ⟨e2, c2, b2, d2⟩ | t
 case inr => rw [if_neg k8, if_neg k10]; exact sList_z t
 simp only [e2, Int.toNat_natCast]
 rw [if_neg k8, if_neg k10]
 exact sList_torn (f := sNum l) (g := enc) (fun x => codR x = 0) (fun x hx => sNum_step (by have := codR_in hx; omega) (by have := codR_in hx; omega)) p.codes _ _ [] b2 p3 (by omega) d2
/-- a form that ends too early is error 3 -/
theorem decodeR_torn {p : Pkt} {j : Nat} (hc : checkP p = 0) (hj : j < (encPk p).length) : decodeR ((encPk p).take j) = (Pkt.zero, 3) := by
 have h1 := encPk_le hc
 have hkd := checkP_kind hc
 generalize hl : (encPk p).take j = l
 have hlen : l.length = j := by rw [← hl, List.length_take]; omega
 have h0 : l.drop 0 = (enc p.kind ++ encBody p).take j := by rw [List.drop_zero, ← hl]; rfl
 have hj2 : j < (enc p.kind).length + (encBody p).length := by
  unfold encPk at hj
  rw [List.length_append] at hj
  exact hj
 unfold decodeR
 rw [if_neg (by omega)]
 dsimp only
 rcases sNum_step (l := l) (n := p.kind) (by omega) (by omega) 0 j _ (by omega) h0 with ⟨e1, c1, b1, d1⟩ | t
 case inr =>
  rw [show ((0 : Nat) : Int) = 0 from rfl] at t
  rw [t, if_pos (by omega)]
 rw [show ((0 : Nat) : Int) = 0 from rfl] at e1
 rw [e1]
 dsimp only
 have t := sBody_torn hc b1 (by omega) d1
 rw [if_neg (by omega), if_neg (by omega), if_pos (by omega), t]

end Go.Proofs.YtdkegoaflabjoaaGreatDoor
