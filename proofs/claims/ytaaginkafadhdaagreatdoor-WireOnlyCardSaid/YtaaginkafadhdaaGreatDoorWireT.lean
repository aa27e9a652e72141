/-
  The binary form of packets, as lists of bytes: writing, reading, recovered. No function of the program is walked here. Conditions: those named.
  Reading the bytes that a message was written to gives the message again, and what was read was written. No function of the program is walked here. Conditions: those named.
  A valid packet is recovered from its binary form, and the form is short. No function of the program is walked here. Conditions: the packet is valid.
  A valid packet is recovered from its binary form: all kinds; the form is short. No function of the program is walked here. Conditions: the packet is valid.
  Bytes that are read as a packet are the packet's form. No function of the program is walked here. Conditions: none.
  A form that ends too early is read with error 3. No function of the program is walked here. Conditions: the packet is valid.
-/
import Derived.Test.YtaaginkafadhdaaGreatDoorPkt2
import Derived.Test.YtaaginkafadhdaaGreatDoorSetR
namespace Go.Proofs.YtaaginkafadhdaaGreatDoor
open Go.RowKit

def b2i (b : Bool) : Int := if b then 1 else 0
def fl2 (a b : Bool) : Int := b2i a + 2 * b2i b
def encS (x : SB) : List UInt8 := encT x.1 ++ (enc x.2.1 ++ enc (b2i x.2.2))
def encG {α : Type} (f : α → List UInt8) (l : List α) : List UInt8 := (l.map f).flatten
theorem encG_cons {α : Type} (f : α → List UInt8) (x : α) (l : List α) : encG f (x :: l) = f x ++ encG f l := by simp [encG]
theorem encG_succ {α : Type} {f : α → List UInt8} {l : List α} {k : Nat} {x : α} (h : l[k]? = some x) : encG f (l.take (k + 1)) = encG f (l.take k) ++ f x := by
  unfold encG
  rw [List.take_add_one, h]
  simp
def encConn (p : Pkt) : List UInt8 :=
  encT p.client ++ (encT p.user ++ (enc (fl2 p.clean p.wset) ++ (enc p.keep ++ (enc p.expiry ++ (enc p.window ++ (if p.wset then enc p.wdelay ++ encM p.wmsg else []))))))
def encBody (p : Pkt) : List UInt8 :=
  if p.kind = 1 then encConn p else if p.kind = 2 then enc (b2i p.present) ++ enc p.code else if p.kind = 14 then enc p.code else if p.kind = 12 ∨ p.kind = 13 then []
  else enc p.id ++ (if p.kind = 3 then enc (b2i p.dup) ++ encM p.msg else if p.kind ≤ 7 then []
    else if p.kind = 8 then enc p.subs.length ++ encG encS p.subs else if p.kind = 10 then enc p.filters.length ++ encG encT p.filters else enc p.codes.length ++ encG enc p.codes)
def encPk (p : Pkt) : List UInt8 := enc p.kind ++ encBody p
def encodeR (p : Pkt) : List UInt8 × Nat := if checkP p ≠ 0 then ([], checkP p) else (encPk p, 0)

def sConn (l : List UInt8) (st : Int × Int) : Pkt × (Int × Int) :=
  let s1 := sText l 16 st
  let s2 := sText l 16 s1.2
  let s3 := sBelow l 4 s2.2
  let s4 := sNum l s3.2
  let s5 := sNum l s4.2
  let s6 := sNum l s5.2
  let w := decide (s3.1 = 2 ∨ s3.1 = 3)
  let p : Pkt := { Pkt.zero with kind := 1, client := s1.1, user := s2.1, clean := decide (s3.1 = 1 ∨ s3.1 = 3), wset := w, keep := s4.1, expiry := s5.1, window := s6.1 }
  if w = true ∧ s6.2.2 = 0 then
    let s7 := sNum l s6.2
    let s8 := sMsg l s7.2
    ({ p with wdelay := s7.1, wmsg := s8.1 }, s8.2)
  else (p, s6.2)
def sSub (l : List UInt8) (st : Int × Int) : SB × (Int × Int) :=
  let s1 := sText l 88 st
  let s2 := sNum l s1.2
  let s3 := sBelow l 2 s2.2
  ((s1.1, (s2.1, decide (s3.1 = 1))), s3.2)
def sList {α : Type} (f : Int × Int → α × (Int × Int)) : Nat → (Int × Int) → List α → List α × (Int × Int)
  | 0, st, acc => (acc, st)
  | n + 1, st, acc => if st.2 ≠ 0 then (acc, st) else sList f n (f st).2 (acc ++ [(f st).1])
def sPub (l : List UInt8) (id : Int) (st : Int × Int) : Pkt × (Int × Int) :=
  let s1 := sBelow l 2 st
  let s2 := sMsg l s1.2
  ({ Pkt.zero with kind := 3, id := id, dup := decide (s1.1 = 1), msg := s2.1 }, s2.2)
def sLists (l : List UInt8) (kind id : Int) (st : Int × Int) : Pkt × (Int × Int) :=
  let s1 := sCount l 32 st
  if kind = 8 then ({ Pkt.zero with kind := kind, id := id, subs := (sList (sSub l) s1.1.toNat s1.2 []).1 }, (sList (sSub l) s1.1.toNat s1.2 []).2)
  else if kind = 10 then ({ Pkt.zero with kind := kind, id := id, filters := (sList (sText l 88) s1.1.toNat s1.2 []).1 }, (sList (sText l 88) s1.1.toNat s1.2 []).2)
  else ({ Pkt.zero with kind := kind, id := id, codes := (sList (sNum l) s1.1.toNat s1.2 []).1 }, (sList (sNum l) s1.1.toNat s1.2 []).2)
def sBody (l : List UInt8) (kind : Int) (st : Int × Int) : Pkt × (Int × Int) :=
  if kind = 1 then sConn l st
  else if kind = 2 then ({ Pkt.zero with kind := 2, present := decide ((sBelow l 2 st).1 = 1), code := (sNum l (sBelow l 2 st).2).1 }, (sNum l (sBelow l 2 st).2).2)
  else if kind = 14 then ({ Pkt.zero with kind := 14, code := (sNum l st).1 }, (sNum l st).2)
  else if kind = 12 ∨ kind = 13 then ({ Pkt.zero with kind := kind }, st)
  else if kind = 3 then sPub l (sNum l st).1 (sNum l st).2
  else if kind ≤ 7 then ({ Pkt.zero with kind := kind, id := (sNum l st).1 }, (sNum l st).2)
  else sLists l kind (sNum l st).1 (sNum l st).2
/-- what Decode hands back -/
def decodeR (l : List UInt8) : Pkt × Int :=
  if 4096 < l.length then (Pkt.zero, 5)
  else
    let k := sNum l (0, 0)
    if k.2.2 ≠ 0 then (Pkt.zero, k.2.2) else if k.1 < 1 ∨ 14 < k.1 then (Pkt.zero, 10)
    else
      let b := sBody l k.1 k.2
      if b.2.2 ≠ 0 then (Pkt.zero, b.2.2) else if b.2.1 < l.length then (Pkt.zero, 2) else if checkP b.1 ≠ 0 then (Pkt.zero, (checkP b.1 : Int)) else (b.1, 0)

theorem drop_app {l e r : List UInt8} {k : Nat} (hk : k ≤ l.length) (h : l.drop k = e ++ r) : k + e.length ≤ l.length ∧ l.drop (k + e.length) = r := by
  have h1 : (l.drop k).length = e.length + r.length := by rw [h, List.length_append]
  rw [List.length_drop] at h1
  refine ⟨by omega, ?_⟩
  rw [← List.drop_drop, h, List.drop_left]
theorem sText_enc {l r : List UInt8} {k : Nat} {s : ByteArray} {limit : Int} (hk : k ≤ l.length) (hl : (s.size : Int) ≤ limit) (hm : limit ≤ 5000) (h : l.drop k = encT s ++ r) :
    sText l limit ((k : Int), 0) = (s, (((k + (encT s).length : Nat) : Int), 0)) := by
  unfold sText
  rw [if_neg (by simp), textR_enc hk (by omega) hl h]
  simp
theorem sNum_enc {l r : List UInt8} {k : Nat} {n : Int} (hk : k ≤ l.length) (h1 : -9223372036854775808 ≤ n) (h2 : n ≤ 9223372036854775807) (h : l.drop k = enc n ++ r) :
    sNum l ((k : Int), 0) = (n, (((k + (enc n).length : Nat) : Int), 0)) := by
  unfold sNum
  rw [if_neg (by simp), numR_enc hk h1 h2 h]
  simp
theorem sBelow_enc {l r : List UInt8} {k : Nat} {n most : Int} (hk : k ≤ l.length) (h1 : 0 ≤ n) (h2 : n < most) (hm : most ≤ 5000) (h : l.drop k = enc n ++ r) :
    sBelow l most ((k : Int), 0) = (n, (((k + (enc n).length : Nat) : Int), 0)) := by
  unfold sBelow
  rw [sNum_enc hk (by omega) (by omega) h]
  rw [if_neg (by dsimp only; omega), if_neg (by simp)]
theorem sCount_enc {l r : List UInt8} {k n : Nat} {limit : Int} (hk : k ≤ l.length) (hn : (n : Int) ≤ limit) (hm : limit ≤ 5000) (h : l.drop k = enc n ++ r) :
    sCount l limit ((k : Int), 0) = ((n : Int), (((k + (enc n).length : Nat) : Int), 0)) := by
  unfold sCount
  rw [if_neg (by simp), countR_enc hk (by omega) hn h]
  simp
/-- a list is recovered if each element is -/
theorem sList_enc {α : Type} {l r : List UInt8} {f : Int × Int → α × (Int × Int)} {g : α → List UInt8} (P : α → Prop)
    (hf : ∀ (x : α) (k : Nat) (r : List UInt8), P x → k ≤ l.length → l.drop k = g x ++ r → f ((k : Int), 0) = (x, (((k + (g x).length : Nat) : Int), 0))) :
    ∀ (xs : List α) (k : Nat) (acc : List α), k ≤ l.length → (∀ x ∈ xs, P x) → l.drop k = encG g xs ++ r →
    sList f xs.length ((k : Int), 0) acc = (acc ++ xs, (((k + (encG g xs).length : Nat) : Int), 0)) := by
  intro xs
  induction xs with
  | nil => intro k acc _ _ _; simp [sList, encG]
  | cons x xs ih =>
    intro k acc hk hx h
    rw [encG_cons, List.append_assoc] at h
    obtain ⟨b1, d1⟩ := drop_app hk h
    rw [List.length_cons, sList, if_neg (by simp), hf x k _ (hx x (by simp)) hk h]
    dsimp only
    rw [ih _ _ b1 (fun y hy => hx y (by simp [hy])) d1, encG_cons]
    simp [List.length_append, Nat.add_assoc]
theorem b2i_in (b : Bool) : 0 ≤ b2i b ∧ b2i b < 2 := by cases b <;> decide
theorem b2i_one (b : Bool) : decide (b2i b = 1) = b := by cases b <;> rfl
theorem fl2_in (a b : Bool) : 0 ≤ fl2 a b ∧ fl2 a b < 4 := by cases a <;> cases b <;> decide
theorem fl2_a (a b : Bool) : decide (fl2 a b = 1 ∨ fl2 a b = 3) = a := by cases a <;> cases b <;> decide
theorem fl2_b (a b : Bool) : decide (fl2 a b = 2 ∨ fl2 a b = 3) = b := by cases a <;> cases b <;> decide
theorem sSub_enc {l r : List UInt8} {k : Nat} {x : SB} (hs : x.1.size ≤ 88) (hn : 0 ≤ x.2.1 ∧ x.2.1 ≤ 2) (hk : k ≤ l.length) (h : l.drop k = encS x ++ r) :
    sSub l ((k : Int), 0) = (x, (((k + (encS x).length : Nat) : Int), 0)) := by
  unfold encS at h
  simp only [List.append_assoc] at h
  obtain ⟨b1, d1⟩ := drop_app hk h
  obtain ⟨b2, d2⟩ := drop_app b1 d1
  have e1 := sText_enc (limit := 88) hk (by omega) (by omega) h
  have e2 := sNum_enc b1 (by omega) (by omega) d1
  have e3 := sBelow_enc (most := 2) b2 (b2i_in x.2.2).1 (b2i_in x.2.2).2 (by omega) d2
  unfold sSub
  simp only [e1, e2, e3, b2i_one]
  unfold encS
  simp only [List.length_append, Nat.add_assoc]

end Go.Proofs.YtaaginkafadhdaaGreatDoor
namespace Go.Proofs.YtaaginkafadhdaaGreatDoor
open Go.RowKit

theorem sPropsF_enc {l r : List UInt8} : ∀ (xs : List PR) (k : Nat) (acc : List PR), k ≤ l.length → (∀ x ∈ xs, okP x) → l.drop k = encPs xs ++ r →
    sPropsF l xs.length ((k : Int), 0) acc = (acc ++ xs, (((k + (encPs xs).length : Nat) : Int), 0)) := by
  intro xs
  induction xs with
  | nil => intro k acc _ _ _; simp [sPropsF, encPs]
  | cons x xs ih =>
    intro k acc hk hx h
    obtain ⟨hk1, hv1⟩ := hx x (by simp)
    have hks := (keyR_len hk1).2
    rw [encPs_cons, List.append_assoc, List.append_assoc] at h
    obtain ⟨b1, d1⟩ := drop_app hk h
    obtain ⟨b2, d2⟩ := drop_app b1 d1
    rw [List.length_cons, sPropsF, if_neg (by simp), sText_enc hk (by omega) (by omega) h]
    dsimp only
    rw [sText_enc b1 (by omega) (by omega) d1]
    dsimp only
    rw [ih _ _ b2 (fun y hy => hx y (by simp [hy])) d2]
    rw [encPs_cons]
    simp [List.length_append, Nat.add_assoc]
theorem validT_size {s : ByteArray} (h : ¬ validT s = false) : s.size ≤ 64 := by
  have h : validT s = true := by simpa using h
  unfold validT S1.T.validL S1.T.filterL at h
  simp only [Bool.and_eq_true, decide_eq_true_eq] at h
  have := h.1.1.1.2
  rw [show (S1.dl s).length = s.size from rfl] at this
  exact this
theorem nameR_size {s : ByteArray} (h : nameR s = true) : s.size ≤ 16 := by
  unfold nameR S1.T.nameL at h
  simp only [Bool.and_eq_true, decide_eq_true_eq] at h
  exact h.1.2
/-- what the rules say of a message -/
theorem checkR_parts {m : Msg} (h : checkR m = 0) : m.topic.size ≤ 64 ∧ m.payload.size ≤ 256 ∧ m.frm.size ≤ 16 ∧ propsR m.props = 0 := by
  unfold checkR at h
  split at h
  · omega
  next h1 =>
  split at h
  · omega
  next h2 =>
  split at h
  · omega
  split at h
  · omega
  split at h
  · omega
  next h5 =>
  split at h
  · omega
  refine ⟨validT_size h1, by omega, ?_, h⟩
  by_cases he : m.frm = ⟨#[]⟩
  · rw [he]; decide
  · have hn : nameR m.frm = true := by
      cases hn : nameR m.frm with
      | true => rfl
      | false => exact absurd ⟨he, hn⟩ h5
    exact nameR_size hn
theorem sMsg_enc {l r : List UInt8} {k : Nat} {m : Msg} (hk : k ≤ l.length) (hc : checkR m = 0) (hf : m.fits) (h : l.drop k = encM m ++ r) :
    sMsg l ((k : Int), 0) = (m, (((k + (encM m).length : Nat) : Int), 0)) := by
  obtain ⟨p1, p2, p3, p4⟩ := checkR_parts hc
  obtain ⟨q1, _, q3⟩ := propsR_parts p4
  obtain ⟨⟨f1, f2⟩, ⟨f3, f4⟩, ⟨f5, f6⟩, f7, f8⟩ := hf
  unfold encM at h
  simp only [List.append_assoc] at h
  obtain ⟨b1, d1⟩ := drop_app hk h
  obtain ⟨b2, d2⟩ := drop_app b1 d1
  obtain ⟨b3, d3⟩ := drop_app b2 d2
  obtain ⟨b4, d4⟩ := drop_app b3 d3
  obtain ⟨b5, d5⟩ := drop_app b4 d4
  obtain ⟨b6, d6⟩ := drop_app b5 d5
  obtain ⟨b7, d7⟩ := drop_app b6 d6
  obtain ⟨b8, d8⟩ := drop_app b7 d7
  obtain ⟨b9, d9⟩ := drop_app b8 d8
  have e1 := sText_enc (limit := 64) hk (by omega) (by omega) h
  have e2 := sText_enc (limit := 256) b1 (by omega) (by omega) d1
  have e3 := sNum_enc b2 f1 f2 d2
  have e4 := sBelow_enc (most := 2) b3 (by split <;> omega) (by split <;> omega) (by omega) d3
  have e5 := sNum_enc b4 f3 f4 d4
  have e6 := sNum_enc b5 f5 f6 d5
  have e7 := sText_enc (limit := 16) b6 (by omega) (by omega) d6
  have e8 := sNum_enc b7 f7 f8 d7
  have e9 := sCount_enc (limit := 8) b8 (by omega) (by omega) d8
  have e10 := sPropsF_enc m.props _ [] b9 q3 d9
  unfold sMsg
  simp only [e1, e2, e3, e4, e5, e6, e7, e8, e9, Int.toNat_natCast, e10, List.nil_append]
  have hr : decide ((if m.retain = true then (1 : Int) else 0) = 1) = m.retain := by cases m.retain <;> simp
  rw [hr]
  unfold encM
  simp only [List.length_append, Nat.add_assoc]
theorem encM_small {m : Msg} (h : checkR m = 0) : (encM m).length ≤ 100000 := by
  obtain ⟨p1, p2, p3, p4⟩ := checkR_parts h
  obtain ⟨q1, _, q3⟩ := propsR_parts p4
  have h1 := encT_len m.topic
  have h2 := encT_len m.payload
  have h3 := encT_len m.frm
  have h4 := enc_len m.level
  have h5 := enc_len (if m.retain = true then 1 else 0)
  have h6 := enc_len m.prio
  have h7 := enc_len m.exps
  have h8 := enc_len m.seq
  have h9 := enc_len m.props.length
  have h10 := encPs_len m.props 160 (fun x hx => by have h1 := keyR_len (q3 x hx).1; have h2 := (q3 x hx).2; omega)
  have h11 : m.props.length * (20 + 2 * 160) ≤ 8 * (20 + 2 * 160) := Nat.mul_le_mul_right _ q1
  unfold encM
  simp only [List.length_append]
  omega

theorem sNum_ez {l : List UInt8} {st : Int × Int} (h : (sNum l st).2.2 = 0) : st.2 = 0 := by
  unfold sNum at h
  split at h
  · exact h
  · omega
theorem sText_ez {l : List UInt8} {lim : Int} {st : Int × Int} (h : (sText l lim st).2.2 = 0) : st.2 = 0 := by
  unfold sText at h
  split at h
  · exact h
  · omega
theorem sCount_ez {l : List UInt8} {lim : Int} {st : Int × Int} (h : (sCount l lim st).2.2 = 0) : st.2 = 0 := by
  unfold sCount at h
  split at h
  · exact h
  · omega
theorem sBelow_ez {l : List UInt8} {m : Int} {st : Int × Int} (h : (sBelow l m st).2.2 = 0) : (sNum l st).2.2 = 0 ∧ ¬ ((sNum l st).1 < 0 ∨ m ≤ (sNum l st).1) ∧ sBelow l m st = sNum l st := by
  unfold sBelow at h ⊢
  split at h
  · simp at h
  · next h1 =>
    split at h
    · next h2 => exact absurd h h2
    · next h2 =>
      rw [if_neg h1, if_neg h2]
      exact ⟨h, fun hh => h1 ⟨h, hh⟩, rfl⟩
theorem sPropsF_ez {l : List UInt8} : ∀ (n : Nat) (st : Int × Int) (acc : List PR), (sPropsF l n st acc).2.2 = 0 → st.2 = 0 := by
  intro n
  cases n with
  | zero => intro st acc h; exact h
  | succ n =>
    intro st acc h
    rw [sPropsF] at h
    split at h
    · exact h
    · omega
theorem sNum_ok {l : List UInt8} {p : Nat} (h : (sNum l ((p : Int), 0)).2.2 = 0) : ∃ (n : Int) (j : Nat), sNum l ((p : Int), 0) = (n, (((p + j : Nat) : Int), 0)) ∧ 1 ≤ j ∧ p + j ≤ l.length ∧ (-9223372036854775808 ≤ n ∧ n ≤ 9223372036854775807) ∧ enc n = (l.drop p).take j := by
  unfold sNum at h ⊢
  rw [if_neg (by simp)] at h ⊢
  split at h
  · next h1 => exact absurd h h1
  · next h1 =>
    rw [if_neg h1]
    generalize hr : numR l (p : Int) = r at h1
    obtain ⟨n, nx, e⟩ := r
    obtain rfl : e = 0 := by dsimp only at h1; omega
    obtain ⟨k, j, a1, a2, a3, _, a5, a6, a7, a8⟩ := numR_ok hr
    obtain rfl : k = p := by omega
    exact ⟨n, j, by rw [a2], a3, a5, ⟨a6, a7⟩, a8⟩
theorem sText_ok {l : List UInt8} {p : Nat} {lim : Int} (h : (sText l lim ((p : Int), 0)).2.2 = 0) : ∃ (s : ByteArray) (j : Nat), sText l lim ((p : Int), 0) = (s, (((p + j : Nat) : Int), 0)) ∧ 1 ≤ j ∧ p + j ≤ l.length ∧ encT s = (l.drop p).take j := by
  unfold sText at h ⊢
  rw [if_neg (by simp)] at h ⊢
  split at h
  · next h1 => exact absurd h h1
  · next h1 =>
    rw [if_neg h1]
    generalize hr : textR l (p : Int) lim = r at h1
    obtain ⟨n, nx, e⟩ := r
    obtain rfl : e = 0 := by dsimp only at h1; omega
    obtain ⟨k, j, a1, a2, a3, a4, _, a6⟩ := textR_ok hr
    obtain rfl : k = p := by omega
    exact ⟨n, j, by rw [a2], a3, a4, a6⟩
theorem sCount_ok {l : List UInt8} {p : Nat} {lim : Int} (h : (sCount l lim ((p : Int), 0)).2.2 = 0) : ∃ (n j : Nat), sCount l lim ((p : Int), 0) = ((n : Int), (((p + j : Nat) : Int), 0)) ∧ 1 ≤ j ∧ p + j ≤ l.length ∧ enc n = (l.drop p).take j := by
  unfold sCount at h ⊢
  rw [if_neg (by simp)] at h ⊢
  split at h
  · next h1 => exact absurd h h1
  · next h1 =>
    rw [if_neg h1]
    generalize hr : countR l (p : Int) lim = r at h1
    obtain ⟨n, nx, e⟩ := r
    obtain rfl : e = 0 := by dsimp only at h1; omega
    obtain ⟨k, j, m, a1, a2, rfl, _, a4, _, a6, _, a8⟩ := countR_ok hr
    obtain rfl : k = p := by omega
    exact ⟨m, j, by rw [a2], a4, a6, a8⟩
theorem sPropsF_ok {l : List UInt8} : ∀ (n p : Nat) (acc : List PR), p ≤ l.length → (sPropsF l n ((p : Int), 0) acc).2.2 = 0 →
    ∃ (ys : List PR) (j : Nat), sPropsF l n ((p : Int), 0) acc = (acc ++ ys, (((p + j : Nat) : Int), 0)) ∧ ys.length = n ∧ p + j ≤ l.length ∧ encPs ys = (l.drop p).take j := by
  intro n
  induction n with
  | zero => intro p acc hp h; exact ⟨[], 0, by simp [sPropsF], rfl, by omega, by simp [encPs]⟩
  | succ n ih =>
    intro p acc hp h
    rw [sPropsF, if_neg (by simp)] at h ⊢
    have h2 := sPropsF_ez _ _ _ h
    have h1 := sText_ez h2
    obtain ⟨s, j, e1, _, b1, c1⟩ := sText_ok h1
    rw [e1] at h h2 ⊢
    dsimp only at h h2 ⊢
    obtain ⟨t, j', e2, _, b2, c2⟩ := sText_ok h2
    rw [e2] at h ⊢
    dsimp only at h ⊢
    obtain ⟨ys, j2, e3, b3, b4, c3⟩ := ih _ _ b2 h
    refine ⟨(s, t) :: ys, j + j' + j2, ?_, by simp [b3], by omega, ?_⟩
    · rw [e3]
      simp [Nat.add_assoc]
    · rw [encPs_cons, c1, c2, c3, take_join l (p + j) j' j2, take_join l p j (j' + j2), Nat.add_assoc]

end Go.Proofs.YtaaginkafadhdaaGreatDoor
namespace Go.Proofs.YtaaginkafadhdaaGreatDoor
open Go.RowKit

theorem wanted_le {s : ByteArray} (h : wantedR s = true) : s.size ≤ 88 := by
  unfold wantedR at h
  split at h
  · unfold shOkB S1.shOk at h
    simp only [Bool.and_eq_true] at h
    obtain ⟨⟨⟨_, h2⟩, h3⟩, _⟩ := h
    unfold S1.T.nameL at h2
    simp only [Bool.and_eq_true, decide_eq_true_eq] at h2
    have a2 := h2.1.2
    have a3 := (S1.T.filterL_parts h3).1
    have a4 := (S1.T.filterL_parts h3).2.1
    unfold S1.aft at a3 a4
    rw [List.length_drop] at a3 a4
    have a5 : (S1.rst (S1.dl s)).length = s.size - 7 := by
      unfold S1.rst
      rw [List.length_drop]
      rfl
    omega
  · have := (S1.T.filterL_parts h).2.1
    rw [show (S1.dl s).length = s.size from rfl] at this
    omega
theorem checkR_fits {m : Msg} (h : checkR m = 0) : m.fits := by
  unfold checkR at h
  split at h
  · omega
  split at h
  · omega
  next h2 =>
  split at h
  · omega
  next h3 =>
  split at h
  · omega
  next h4 =>
  split at h
  · omega
  split at h
  · omega
  next h6 =>
  unfold Msg.fits
  omega
theorem firstE_zero {α : Type} {f : α → Nat} : ∀ {l : List α}, firstE f l = 0 → ∀ x ∈ l, f x = 0 := by
  intro l
  induction l with
  | nil => intro _ x hx; cases hx
  | cons y r ih =>
    intro h x hx
    rw [firstE] at h
    by_cases hy : f y ≠ 0
    · rw [if_pos hy] at h; exact absurd h hy
    · rw [if_neg hy] at h
      rcases List.mem_cons.1 hx with rfl | hx
      · exact Decidable.of_not_not hy
      · exact ih h x hx
theorem listR_parts {α : Type} {id : Int} {l : List α} {f : α → Nat} (h : listR id l f = 0) : (1 ≤ id ∧ id ≤ 65535) ∧ l.length ≤ 32 ∧ ∀ x ∈ l, f x = 0 := by
  unfold listR at h
  split at h
  · next h1 => exact absurd h h1
  next h1 =>
  split at h
  · next h2 => exact absurd h h2
  next h2 =>
  refine ⟨?_, ?_, firstE_zero h⟩
  · unfold idR at h1
    split at h1 <;> omega
  · unfold lenR at h2
    split at h2
    · omega
    · split at h2 <;> omega
theorem idR_in {n : Int} (h : idR n = 0) : 1 ≤ n ∧ n ≤ 65535 := by
  unfold idR at h
  split at h <;> omega
theorem codR_in {n : Int} (h : codR n = 0) : 0 ≤ n ∧ n ≤ 29 := by
  unfold codR at h
  split at h <;> omega
theorem subR_in {x : SB} (h : subR x = 0) : x.1.size ≤ 88 ∧ (0 ≤ x.2.1 ∧ x.2.1 ≤ 2) := by
  unfold subR at h
  split at h
  · omega
  next h1 =>
  split at h
  · omega
  next h2 => exact ⟨wanted_le (by simpa using h1), by omega⟩
theorem filR_in {s : ByteArray} (h : filR s = 0) : s.size ≤ 88 := by
  unfold filR at h
  split at h
  · omega
  next h1 => exact wanted_le (by simpa using h1)
theorem connR_parts {p : Pkt} (h : connR p = 0) : p.client.size ≤ 16 ∧ p.user.size ≤ 16 ∧ (0 ≤ p.keep ∧ p.keep ≤ 1099511627776) ∧ (0 ≤ p.expiry ∧ p.expiry ≤ 1099511627776) ∧ (1 ≤ p.window ∧ p.window ≤ 32) ∧
    (p.wset = false → p.wdelay = 0 ∧ p.wmsg = Msg.zero) ∧ (p.wset = true → (0 ≤ p.wdelay ∧ p.wdelay ≤ 1099511627776) ∧ checkR p.wmsg = 0) := by
  unfold connR at h
  split at h
  · omega
  next h1 =>
  split at h
  · omega
  next h2 =>
  refine ⟨nameR_size (by cases hn : nameR p.client <;> simp_all), ?_, by omega, by omega, by omega, ?_, ?_⟩
  · by_cases he : p.user = ⟨#[]⟩
    · rw [he]; decide
    · exact nameR_size (by cases hn : nameR p.user <;> simp_all)
  · intro hs
    unfold willR at h
    rw [if_pos hs] at h
    split at h
    · omega
    next h3 => exact ⟨by apply Decidable.of_not_not; intro hh; exact h3 (.inl hh), by apply Decidable.of_not_not; intro hh; exact h3 (.inr hh)⟩
  · intro hs
    unfold willR at h
    rw [if_neg (by rw [hs]; simp)] at h
    split at h
    · omega
    next h3 => exact ⟨by omega, h⟩
theorem pubR_parts {p : Pkt} (h : pubR p = 0) : checkR p.msg = 0 ∧ (0 ≤ p.id ∧ p.id ≤ 65535) := by
  unfold pubR at h
  split at h
  · next h1 => exact absurd h h1
  next h1 =>
  refine ⟨Decidable.of_not_not h1, ?_⟩
  split at h
  · have := idR_in h; omega
  · split at h
    · omega
    · omega
theorem ackR_parts {p : Pkt} (h : ackR p = 0) : 0 ≤ p.code ∧ p.code ≤ 29 := by
  unfold ackR at h
  split at h
  · next h1 => exact absurd h h1
  next h1 => exact codR_in (Decidable.of_not_not h1)

theorem sConn_enc {l r : List UInt8} {k : Nat} {p : Pkt} (hu : p = usedP p) (hk1 : p.kind = 1) (hc : connR p = 0) (hk : k ≤ l.length) (h : l.drop k = encConn p ++ r) :
    sConn l ((k : Int), 0) = (p, (((k + (encConn p).length : Nat) : Int), 0)) := by
  obtain ⟨p1, p2, p3, p4, p5, p6, p7⟩ := connR_parts hc
  have hl : (encConn p).length = (encT p.client).length + ((encT p.user).length + ((enc (fl2 p.clean p.wset)).length + ((enc p.keep).length + ((enc p.expiry).length + ((enc p.window).length + (if p.wset then enc p.wdelay ++ encM p.wmsg else []).length))))) := by
    unfold encConn
    simp only [List.length_append]
  rw [hl]
  unfold encConn at h
  simp only [List.append_assoc] at h
  obtain ⟨b1, d1⟩ := drop_app hk h
  obtain ⟨b2, d2⟩ := drop_app b1 d1
  obtain ⟨b3, d3⟩ := drop_app b2 d2
  obtain ⟨b4, d4⟩ := drop_app b3 d3
  obtain ⟨b5, d5⟩ := drop_app b4 d4
  obtain ⟨b6, d6⟩ := drop_app b5 d5
  have e1 := sText_enc (limit := 16) hk (by omega) (by omega) h
  have e2 := sText_enc (limit := 16) b1 (by omega) (by omega) d1
  have e3 := sBelow_enc (most := 4) b2 (fl2_in p.clean p.wset).1 (fl2_in p.clean p.wset).2 (by omega) d2
  have e4 := sNum_enc b3 (by omega) (by omega) d3
  have e5 := sNum_enc b4 (by omega) (by omega) d4
  have e6 := sNum_enc b5 (by omega) (by omega) d5
  unfold sConn
  simp only [e1, e2, e3, e4, e5, e6, fl2_a, fl2_b]
  cases hs : p.wset with
  | false =>
    obtain ⟨q1, q2⟩ := p6 hs
    rw [if_neg (by simp)]
    refine Prod.ext ?_ ?_
    · dsimp only
      conv => rhs; rw [hu]
      simp [usedP, hk1, Pkt.zero, hs, q1, q2]
    · simp [Nat.add_assoc]
  | true =>
    obtain ⟨q1, q2⟩ := p7 hs
    rw [if_pos hs, List.append_assoc] at d6
    obtain ⟨b7, d7⟩ := drop_app b6 d6
    have e7 := sNum_enc b6 (by omega) (by omega) d6
    have e8 := sMsg_enc b7 q2 (checkR_fits q2) d7
    rw [hs] at e7 e8
    rw [if_pos (by simp)]
    simp only [e7, e8]
    refine Prod.ext ?_ ?_
    · dsimp only
      conv => rhs; rw [hu]
      simp [usedP, hk1, Pkt.zero, hs]
    · simp [Nat.add_assoc]

end Go.Proofs.YtaaginkafadhdaaGreatDoor
namespace Go.Proofs.YtaaginkafadhdaaGreatDoor
open Go.RowKit

theorem sPub_enc {l r : List UInt8} {k : Nat} {p : Pkt} (hu : p = usedP p) (hk1 : p.kind = 3) (hc : pubR p = 0) (hk : k ≤ l.length) (h : l.drop k = enc (b2i p.dup) ++ encM p.msg ++ r) :
    sPub l p.id ((k : Int), 0) = (p, (((k + (enc (b2i p.dup) ++ encM p.msg).length : Nat) : Int), 0)) := by
  obtain ⟨p1, p2⟩ := pubR_parts hc
  rw [List.append_assoc] at h
  obtain ⟨b1, d1⟩ := drop_app hk h
  have e1 := sBelow_enc (most := 2) hk (b2i_in p.dup).1 (b2i_in p.dup).2 (by omega) h
  have e2 := sMsg_enc b1 p1 (checkR_fits p1) d1
  unfold sPub
  simp only [e1, e2, b2i_one]
  refine Prod.ext ?_ ?_
  · dsimp only
    conv => rhs; rw [hu]
    simp [usedP, hk1, Pkt.zero]
  · simp [Nat.add_assoc]
theorem sLists_enc8 {l r : List UInt8} {k : Nat} {p : Pkt} (hu : p = usedP p) (hk1 : p.kind = 8) (hc : listR p.id p.subs subR = 0) (hk : k ≤ l.length) (h : l.drop k = enc p.subs.length ++ encG encS p.subs ++ r) :
    sLists l p.kind p.id ((k : Int), 0) = (p, (((k + (enc p.subs.length ++ encG encS p.subs).length : Nat) : Int), 0)) := by
  obtain ⟨p1, p2, p3⟩ := listR_parts hc
  rw [List.append_assoc] at h
  obtain ⟨b1, d1⟩ := drop_app hk h
  have e1 := sCount_enc (limit := 32) hk (by omega) (by omega) h
  have e2 := sList_enc (f := sSub l) (g := encS) (fun x => subR x = 0) (fun x k r hx hk h => sSub_enc (subR_in hx).1 (subR_in hx).2 hk h) p.subs _ [] b1 p3 d1
  unfold sLists
  simp only [e1, if_pos hk1, Int.toNat_natCast, e2, List.nil_append]
  refine Prod.ext ?_ ?_
  · dsimp only
    conv => rhs; rw [hu]
    simp [usedP, hk1, Pkt.zero]
  · simp [Nat.add_assoc]
theorem sLists_enc10 {l r : List UInt8} {k : Nat} {p : Pkt} (hu : p = usedP p) (hk1 : p.kind = 10) (hc : listR p.id p.filters filR = 0) (hk : k ≤ l.length) (h : l.drop k = enc p.filters.length ++ encG encT p.filters ++ r) :
    sLists l p.kind p.id ((k : Int), 0) = (p, (((k + (enc p.filters.length ++ encG encT p.filters).length : Nat) : Int), 0)) := by
  obtain ⟨p1, p2, p3⟩ := listR_parts hc
  rw [List.append_assoc] at h
  obtain ⟨b1, d1⟩ := drop_app hk h
  have e1 := sCount_enc (limit := 32) hk (by omega) (by omega) h
  have e2 := sList_enc (f := sText l 88) (g := encT) (fun x => filR x = 0) (fun x k r hx hk h => sText_enc hk (by have := filR_in hx; omega) (by omega) h) p.filters _ [] b1 p3 d1
  unfold sLists
  simp only [e1, Int.toNat_natCast, e2, List.nil_append]
  rw [if_neg (by omega), if_pos hk1]
  refine Prod.ext ?_ ?_
  · dsimp only
    conv => rhs; rw [hu]
    simp [usedP, hk1, Pkt.zero]
  · simp [Nat.add_assoc]
theorem sLists_enc9 {l r : List UInt8} {k : Nat} {p : Pkt} (hu : p = usedP p) (hk1 : p.kind = 9 ∨ p.kind = 11) (hc : listR p.id p.codes codR = 0) (hk : k ≤ l.length) (h : l.drop k = enc p.codes.length ++ encG enc p.codes ++ r) :
    sLists l p.kind p.id ((k : Int), 0) = (p, (((k + (enc p.codes.length ++ encG enc p.codes).length : Nat) : Int), 0)) := by
  obtain ⟨p1, p2, p3⟩ := listR_parts hc
  rw [List.append_assoc] at h
  obtain ⟨b1, d1⟩ := drop_app hk h
  have e1 := sCount_enc (limit := 32) hk (by omega) (by omega) h
  have e2 := sList_enc (f := sNum l) (g := enc) (fun x => codR x = 0) (fun x k r hx hk h => sNum_enc hk (by have := codR_in hx; omega) (by have := codR_in hx; omega) h) p.codes _ [] b1 p3 d1
  unfold sLists
  simp only [e1, Int.toNat_natCast, e2, List.nil_append]
  rw [if_neg (by omega), if_neg (by omega)]
  refine Prod.ext ?_ ?_
  · dsimp only
    conv => rhs; rw [hu]
    rcases hk1 with hk1 | hk1 <;> simp [usedP, hk1, Pkt.zero]
  · simp [Nat.add_assoc]
/-- the values of a valid packet are recovered -/
theorem sBody_enc {l r : List UInt8} {k : Nat} {p : Pkt} (hc : checkP p = 0) (hk : k ≤ l.length) (h : l.drop k = encBody p ++ r) :
    sBody l p.kind ((k : Int), 0) = (p, (((k + (encBody p).length : Nat) : Int), 0)) := by
  have hu := checkP_used hc
  have hb := checkP_body hc
  have hkd := checkP_kind hc
  unfold bodyR at hb
  unfold encBody at h ⊢
  unfold sBody
  by_cases k1 : p.kind = 1
  · rw [if_pos k1] at hb h ⊢
    rw [if_pos k1]
    exact sConn_enc hu k1 hb hk h
  rw [if_neg k1] at hb h ⊢
  rw [if_neg k1]
  by_cases k2 : p.kind = 2
  · rw [if_pos k2] at hb h ⊢
    rw [if_pos k2]
    have p1 := ackR_parts hb
    rw [List.append_assoc] at h
    obtain ⟨b1, d1⟩ := drop_app hk h
    have e1 := sBelow_enc (most := 2) hk (b2i_in p.present).1 (b2i_in p.present).2 (by omega) h
    have e2 := sNum_enc b1 (by omega) (by omega) d1
    simp only [e1, e2, b2i_one]
    refine Prod.ext ?_ ?_
    · dsimp only
      conv => rhs; rw [hu]
      simp [usedP, k2, Pkt.zero]
    · simp [Nat.add_assoc]
  rw [if_neg k2] at hb h ⊢
  rw [if_neg k2]
  by_cases k14 : p.kind = 14
  · rw [if_pos k14] at h ⊢
    rw [if_pos k14]
    rw [if_neg (by omega), if_neg (by omega), if_neg (by omega), if_neg (by omega), if_neg (by omega), if_pos k14] at hb
    have p1 := codR_in hb
    have e1 := sNum_enc hk (by omega) (by omega) h
    simp only [e1]
    refine Prod.ext ?_ rfl
    · dsimp only
      conv => rhs; rw [hu]
      simp [usedP, k14, Pkt.zero]
  rw [if_neg k14] at h ⊢
  rw [if_neg k14]
  by_cases k12 : p.kind = 12 ∨ p.kind = 13
  · rw [if_pos k12] at h ⊢
    rw [if_pos k12]
    refine Prod.ext ?_ ?_
    · dsimp only
      conv => rhs; rw [hu]
      rcases k12 with k12 | k12 <;> simp [usedP, k12, Pkt.zero]
    · simp
  rw [if_neg k12] at h ⊢
  rw [if_neg k12]
  rw [List.append_assoc] at h
  have hid : 0 ≤ p.id ∧ p.id ≤ 65535 := by
    by_cases k3 : p.kind = 3
    · rw [if_pos k3] at hb; exact (pubR_parts hb).2
    rw [if_neg k3] at hb
    split at hb
    · have := idR_in hb; omega
    split at hb
    · have := (listR_parts hb).1; omega
    split at hb
    · have := (listR_parts hb).1; omega
    split at hb
    · have := (listR_parts hb).1; omega
    · omega
  obtain ⟨b1, d1⟩ := drop_app hk h
  have e1 := sNum_enc hk (by omega) (by omega) h
  rw [e1, List.length_append, ← Nat.add_assoc]
  dsimp only
  by_cases k3 : p.kind = 3
  · rw [if_pos k3] at hb d1 ⊢
    rw [if_pos k3]
    exact sPub_enc hu k3 hb b1 d1
  rw [if_neg k3] at hb d1 ⊢
  rw [if_neg k3]
  by_cases k7 : p.kind ≤ 7
  · rw [if_pos k7] at d1 ⊢
    rw [if_pos k7]
    refine Prod.ext ?_ ?_
    · dsimp only
      conv => rhs; rw [hu]
      have : p.kind = 4 ∨ p.kind = 5 ∨ p.kind = 6 ∨ p.kind = 7 := by omega
      rcases this with k | k | k | k <;> simp [usedP, k, Pkt.zero]
    · simp
  rw [if_neg (by omega)] at hb
  rw [if_neg k7] at d1 ⊢
  rw [if_neg k7]
  by_cases k8 : p.kind = 8
  · rw [if_pos k8] at hb d1
    rw [if_pos k8]
    exact sLists_enc8 hu k8 hb b1 d1
  rw [if_neg k8] at hb d1
  rw [if_neg k8]
  by_cases k10 : p.kind = 10
  · rw [if_pos k10] at hb d1
    rw [if_pos k10]
    exact sLists_enc10 hu k10 hb b1 d1
  rw [if_neg k10] at hb d1
  rw [if_neg k10]
  have k9 : p.kind = 9 ∨ p.kind = 11 := by omega
  rw [if_pos k9] at hb
  exact sLists_enc9 hu k9 hb b1 d1

theorem encG_len {α : Type} {f : α → List UInt8} {P : α → Prop} {M : Nat} (hf : ∀ x, P x → (f x).length ≤ M) : ∀ l : List α, (∀ x ∈ l, P x) → (encG f l).length ≤ l.length * M := by
  intro l
  induction l with
  | nil => intro _; simp [encG]
  | cons x l ih =>
    intro h
    have h1 := hf x (h x (by simp))
    have h2 := ih (fun y hy => h y (by simp [hy]))
    rw [encG_cons, List.length_append, List.length_cons, Nat.succ_mul]
    omega
theorem encM_le {m : Msg} (h : checkR m = 0) : (encM m).length ≤ 1998 := by
  obtain ⟨p1, p2, p3, p4⟩ := checkR_parts h
  obtain ⟨q1, _, q3⟩ := propsR_parts p4
  have h1 := encT_len m.topic
  have h2 := encT_len m.payload
  have h3 := encT_len m.frm
  have h4 := enc_len m.level
  have h5 := enc_len (if m.retain = true then 1 else 0)
  have h6 := enc_len m.prio
  have h7 := enc_len m.exps
  have h8 := enc_len m.seq
  have h9 := enc_len m.props.length
  have h10 : (encPs m.props).length ≤ m.props.length * 196 := encG_len (f := fun x : PR => encT x.1 ++ encT x.2) (P := okP) (M := 196) (fun x hx => by
    have h1 := keyR_len hx.1
    have h2 := hx.2
    have h3 := encT_len x.1
    have h4 := encT_len x.2
    rw [List.length_append]
    omega) m.props q3
  have h11 : m.props.length * 196 ≤ 8 * 196 := Nat.mul_le_mul_right _ q1
  unfold encM
  simp only [List.length_append]
  omega
theorem encS_le {x : SB} (h : subR x = 0) : (encS x).length ≤ 118 := by
  have h1 := (subR_in h).1
  have h2 := encT_len x.1
  have h3 := enc_len x.2.1
  have h4 := enc_len (b2i x.2.2)
  unfold encS
  simp only [List.length_append]
  omega
theorem encT_le {s : ByteArray} (h : filR s = 0) : (encT s).length ≤ 98 := by
  have h1 := filR_in h
  have h2 := encT_len s
  omega
theorem encConn_le {p : Pkt} (h : connR p = 0) : (encConn p).length ≤ 2200 := by
  obtain ⟨p1, p2, _, _, _, _, p7⟩ := connR_parts h
  have h1 := encT_len p.client
  have h2 := encT_len p.user
  have h3 := enc_len (fl2 p.clean p.wset)
  have h4 := enc_len p.keep
  have h5 := enc_len p.expiry
  have h6 := enc_len p.window
  have h7 : (if p.wset = true then enc p.wdelay ++ encM p.wmsg else []).length ≤ 2010 := by
    by_cases hs : p.wset = true
    · rw [if_pos hs, List.length_append]
      have h1 := encM_le (p7 hs).2
      have h2 := enc_len p.wdelay
      omega
    · rw [if_neg hs]; simp
  unfold encConn
  simp only [List.length_append]
  omega
theorem encBody_le {p : Pkt} (hc : checkP p = 0) : (encBody p).length ≤ 4000 := by
  have hb := checkP_body hc
  have hkd := checkP_kind hc
  unfold bodyR at hb
  unfold encBody
  have g1 := enc_len p.id
  have g2 := enc_len p.code
  by_cases k1 : p.kind = 1
  · rw [if_pos k1] at hb ⊢
    have := encConn_le hb
    omega
  rw [if_neg k1] at hb ⊢
  by_cases k2 : p.kind = 2
  · rw [if_pos k2, List.length_append]
    have := enc_len (b2i p.present)
    omega
  rw [if_neg k2] at hb ⊢
  by_cases k14 : p.kind = 14
  · rw [if_pos k14]; omega
  rw [if_neg k14]
  by_cases k12 : p.kind = 12 ∨ p.kind = 13
  · rw [if_pos k12]; simp
  rw [if_neg k12, List.length_append]
  by_cases k3 : p.kind = 3
  · rw [if_pos k3] at hb ⊢
    have := encM_le (pubR_parts hb).1
    have := enc_len (b2i p.dup)
    rw [List.length_append]
    omega
  rw [if_neg k3] at hb ⊢
  by_cases k7 : p.kind ≤ 7
  · rw [if_pos k7]; simp; omega
  rw [if_neg (by omega)] at hb
  rw [if_neg k7]
  by_cases k8 : p.kind = 8
  · rw [if_pos k8] at hb ⊢
    obtain ⟨_, p2, p3⟩ := listR_parts hb
    have g3 := enc_len (p.subs.length : Int)
    have g4 := encG_len (f := encS) (P := fun x => subR x = 0) (M := 118) (fun x hx => encS_le hx) p.subs p3
    have g5 : p.subs.length * 118 ≤ 32 * 118 := Nat.mul_le_mul_right _ p2
    rw [List.length_append]
    omega
  rw [if_neg k8] at hb ⊢
  by_cases k10 : p.kind = 10
  · rw [if_pos k10] at hb ⊢
    obtain ⟨_, p2, p3⟩ := listR_parts hb
    have g3 := enc_len (p.filters.length : Int)
    have g4 := encG_len (f := encT) (P := fun x => filR x = 0) (M := 98) (fun x hx => encT_le hx) p.filters p3
    have g5 : p.filters.length * 98 ≤ 32 * 98 := Nat.mul_le_mul_right _ p2
    rw [List.length_append]
    omega
  rw [if_neg k10] at hb ⊢
  have k9 : p.kind = 9 ∨ p.kind = 11 := by omega
  rw [if_pos k9] at hb
  obtain ⟨_, p2, p3⟩ := listR_parts hb
  have g3 := enc_len (p.codes.length : Int)
  have g4 := encG_len (f := enc) (P := fun x => codR x = 0) (M := 10) (fun x _ => (enc_len x).2) p.codes p3
  have g5 : p.codes.length * 10 ≤ 32 * 10 := Nat.mul_le_mul_right _ p2
  rw [List.length_append]
  omega
theorem encPk_le {p : Pkt} (hc : checkP p = 0) : (encPk p).length ≤ 4010 ∧ 1 ≤ (encPk p).length := by
  have h1 := encBody_le hc
  have h2 := enc_len p.kind
  unfold encPk
  rw [List.length_append]
  omega
/-- a valid packet is recovered from its form -/
theorem decodeR_enc {p : Pkt} (hc : checkP p = 0) : decodeR (encPk p) = (p, 0) := by
  have h1 := encPk_le hc
  have hkd := checkP_kind hc
  have e1 : sNum (encPk p) (0, 0) = (p.kind, (((enc p.kind).length : Int), 0)) := by
    have := sNum_enc (l := encPk p) (k := 0) (n := p.kind) (r := encBody p) (by omega) (by omega) (by omega) rfl
    simpa using this
  have e2 := sBody_enc (l := encPk p) (r := []) (k := (enc p.kind).length) hc (by unfold encPk; simp) (by unfold encPk; rw [List.drop_left, List.append_nil])
  have hl : (enc p.kind).length + (encBody p).length = (encPk p).length := by unfold encPk; rw [List.length_append]
  rw [hl] at e2
  unfold decodeR
  rw [if_neg (by omega)]
  simp only [e1, e2]
  rw [if_neg (by simp), if_neg (by omega), if_neg (by simp), if_neg (by omega), if_neg (by simp [hc])]

end Go.Proofs.YtaaginkafadhdaaGreatDoor
namespace Go.Proofs.YtaaginkafadhdaaGreatDoor
open Go.RowKit

/-- what a reader of one value reads was written -/
structure RdO {α : Type} (l : List UInt8) (f : Int × Int → α × (Int × Int)) (g : α → List UInt8) : Prop where
  ez : ∀ st, (f st).2.2 = 0 → st.2 = 0
  ok : ∀ p : Nat, p ≤ l.length → (f ((p : Int), 0)).2.2 = 0 → ∃ (x : α) (j : Nat), f ((p : Int), 0) = (x, (((p + j : Nat) : Int), 0)) ∧ p + j ≤ l.length ∧ g x = (l.drop p).take j
theorem sNum_rd (l : List UInt8) : RdO l (sNum l) enc := ⟨fun _ h => sNum_ez h, fun p _ h => by
  obtain ⟨n, j, a1, _, a3, _, a5⟩ := sNum_ok h
  exact ⟨n, j, a1, a3, a5⟩⟩
theorem sText_rd (l : List UInt8) (lim : Int) : RdO l (sText l lim) encT := ⟨fun _ h => sText_ez h, fun p _ h => by
  obtain ⟨n, j, a1, _, a3, a5⟩ := sText_ok h
  exact ⟨n, j, a1, a3, a5⟩⟩
theorem sBelow_ok {l : List UInt8} {most : Int} {p : Nat} (h : (sBelow l most ((p : Int), 0)).2.2 = 0) : ∃ (n : Int) (j : Nat), sBelow l most ((p : Int), 0) = (n, (((p + j : Nat) : Int), 0)) ∧ p + j ≤ l.length ∧ (0 ≤ n ∧ n < most) ∧ enc n = (l.drop p).take j := by
  obtain ⟨h1, h2, h3⟩ := sBelow_ez h
  obtain ⟨n, j, a1, _, a3, _, a5⟩ := sNum_ok h1
  rw [h3, a1]
  rw [a1] at h2
  exact ⟨n, j, rfl, a3, by dsimp only at h2; omega, a5⟩
theorem sBelow_e0 {l : List UInt8} {most : Int} {st : Int × Int} (h : (sBelow l most st).2.2 = 0) : st.2 = 0 := sNum_ez (sBelow_ez h).1
theorem b2i_dec {n : Int} (h : 0 ≤ n ∧ n < 2) : b2i (decide (n = 1)) = n := by
  by_cases h1 : n = 1
  · rw [h1]; rfl
  · have : n = 0 := by omega
    rw [this]; rfl
theorem fl2_dec {n : Int} (h : 0 ≤ n ∧ n < 4) : fl2 (decide (n = 1 ∨ n = 3)) (decide (n = 2 ∨ n = 3)) = n := by
  have : n = 0 ∨ n = 1 ∨ n = 2 ∨ n = 3 := by omega
  rcases this with rfl | rfl | rfl | rfl <;> decide
theorem sSub_rd (l : List UInt8) : RdO l (sSub l) encS := by
  refine ⟨fun st h => ?_, fun p hp h => ?_⟩
  · unfold sSub at h
    exact sText_ez (sNum_ez (sBelow_e0 h))
  · unfold sSub at h ⊢
    have h2 := sBelow_e0 h
    have h1 := sNum_ez h2
    obtain ⟨x1, j1, e1, b1, c1⟩ := (sText_rd l 88).ok p hp h1
    rw [e1] at h h2 ⊢
    dsimp only at h h2 ⊢
    obtain ⟨x2, j2, e2, b2, c2⟩ := (sNum_rd l).ok _ b1 h2
    rw [e2] at h ⊢
    dsimp only at h ⊢
    obtain ⟨x3, j3, e3, b3, d3, c3⟩ := sBelow_ok h
    rw [e3]
    refine ⟨(x1, (x2, decide (x3 = 1))), j1 + j2 + j3, by simp [Nat.add_assoc], by omega, ?_⟩
    unfold encS
    rw [b2i_dec d3, c1, c2, c3, take_join l (p + j1) j2 j3, take_join l p j1 (j2 + j3), Nat.add_assoc]
theorem sList_ez {α : Type} {f : Int × Int → α × (Int × Int)} : ∀ (n : Nat) (st : Int × Int) (acc : List α), (sList f n st acc).2.2 = 0 → st.2 = 0 := by
  intro n
  cases n with
  | zero => intro st acc h; exact h
  | succ n =>
    intro st acc h
    rw [sList] at h
    split at h
    · exact h
    · omega
theorem sList_ok {α : Type} {l : List UInt8} {f : Int × Int → α × (Int × Int)} {g : α → List UInt8} (R : RdO l f g) : ∀ (n p : Nat) (acc : List α), p ≤ l.length → (sList f n ((p : Int), 0) acc).2.2 = 0 →
    ∃ (ys : List α) (j : Nat), sList f n ((p : Int), 0) acc = (acc ++ ys, (((p + j : Nat) : Int), 0)) ∧ ys.length = n ∧ p + j ≤ l.length ∧ encG g ys = (l.drop p).take j := by
  intro n
  induction n with
  | zero => intro p acc hp h; exact ⟨[], 0, by simp [sList], rfl, by omega, by simp [encG]⟩
  | succ n ih =>
    intro p acc hp h
    rw [sList, if_neg (by simp)] at h ⊢
    have h1 := sList_ez _ _ _ h
    obtain ⟨s, j, e1, b1, c1⟩ := R.ok p hp h1
    rw [e1] at h ⊢
    dsimp only at h ⊢
    obtain ⟨ys, j2, e3, b3, b4, c3⟩ := ih _ _ b1 h
    refine ⟨s :: ys, j + j2, ?_, by simp [b3], by omega, ?_⟩
    · rw [e3]
      simp [Nat.add_assoc]
    · rw [encG_cons, c1, c3, take_join l p j j2]
theorem sMsg_ez {l : List UInt8} {st : Int × Int} (h : (sMsg l st).2.2 = 0) : st.2 = 0 := by
  unfold sMsg at h
  dsimp only at h
  exact sText_ez (sText_ez (sNum_ez (sBelow_e0 (sNum_ez (sNum_ez (sText_ez (sNum_ez (sCount_ez (sPropsF_ez _ _ _ h)))))))))
theorem sMsg_rd (l : List UInt8) : RdO l (sMsg l) encM := by
  refine ⟨fun st h => sMsg_ez h, fun p hp h => ?_⟩
  unfold sMsg at h ⊢
  dsimp only at h ⊢
  have a9 := sPropsF_ez _ _ _ h
  have a8 := sCount_ez a9
  have a7 := sNum_ez a8
  have a6 := sText_ez a7
  have a5 := sNum_ez a6
  have a4 := sNum_ez a5
  have a3 := sBelow_e0 a4
  have a2 := sNum_ez a3
  have a1 := sText_ez a2
  obtain ⟨v1, j1, e1, _, b1, c1⟩ := sText_ok a1
  simp only [e1] at a2 a3 a4 a5 a6 a7 a8 a9 h ⊢
  obtain ⟨v2, j2, e2, _, b2, c2⟩ := sText_ok a2
  simp only [e2] at a3 a4 a5 a6 a7 a8 a9 h ⊢
  obtain ⟨v3, j3, e3, _, b3, d3, c3⟩ := sNum_ok a3
  simp only [e3] at a4 a5 a6 a7 a8 a9 h ⊢
  obtain ⟨v4, j4, e4, b4, d4, c4⟩ := sBelow_ok a4
  simp only [e4] at a5 a6 a7 a8 a9 h ⊢
  obtain ⟨v5, j5, e5, _, b5, d5, c5⟩ := sNum_ok a5
  simp only [e5] at a6 a7 a8 a9 h ⊢
  obtain ⟨v6, j6, e6, _, b6, d6, c6⟩ := sNum_ok a6
  simp only [e6] at a7 a8 a9 h ⊢
  obtain ⟨v7, j7, e7, _, b7, c7⟩ := sText_ok a7
  simp only [e7] at a8 a9 h ⊢
  obtain ⟨v8, j8, e8, _, b8, d8, c8⟩ := sNum_ok a8
  simp only [e8] at a9 h ⊢
  obtain ⟨v9, j9, e9, _, b9, c9⟩ := sCount_ok a9
  simp only [e9] at h ⊢
  rw [Int.toNat_natCast] at h ⊢
  obtain ⟨ys, j, e10, hl, b10, c10⟩ := sPropsF_ok _ _ [] b9 h
  simp only [e10, List.nil_append] at h ⊢
  refine ⟨_, j1 + (j2 + (j3 + (j4 + (j5 + (j6 + (j7 + (j8 + (j9 + j)))))))), Prod.ext rfl (by simp [Nat.add_assoc]), by omega, ?_⟩
  have hv : (if decide (v4 = 1) = true then (1 : Int) else 0) = v4 := by
    by_cases h1 : v4 = 1
    · simp [h1]
    · have : v4 = 0 := by omega
      simp [this]
  unfold encM
  dsimp only
  rw [hv, hl]
  simp only [List.append_assoc]
  rw [c10, c9, take_join, c8, take_join, c7, take_join, c6, take_join, c5, take_join, c4, take_join, c3, take_join, c2, take_join, c1, take_join]

theorem sConn_ok {l : List UInt8} {p : Nat} (h : (sConn l ((p : Int), 0)).2.2 = 0) :
    ∃ (x : Pkt) (j : Nat), sConn l ((p : Int), 0) = (x, (((p + j : Nat) : Int), 0)) ∧ p + j ≤ l.length ∧ encConn x = (l.drop p).take j ∧ x.kind = 1 := by
  have a6 : (sNum l (sNum l (sNum l (sBelow l 4 (sText l 16 (sText l 16 ((p : Int), 0)).2).2).2).2).2).2.2 = 0 := by
    unfold sConn at h
    dsimp only at h
    split at h
    · next hh => exact hh.2
    · exact h
  have a5 := sNum_ez a6
  have a4 := sNum_ez a5
  have a3 := sNum_ez a4
  have a2 := sBelow_e0 a3
  have a1 := sText_ez a2
  unfold sConn at h ⊢
  obtain ⟨v1, j1, e1, _, b1, c1⟩ := sText_ok a1
  simp only [e1] at a2 a3 a4 a5 a6 h ⊢
  obtain ⟨v2, j2, e2, _, b2, c2⟩ := sText_ok a2
  simp only [e2] at a3 a4 a5 a6 h ⊢
  obtain ⟨v3, j3, e3, b3, d3, c3⟩ := sBelow_ok a3
  simp only [e3] at a4 a5 a6 h ⊢
  obtain ⟨v4, j4, e4, _, b4, d4, c4⟩ := sNum_ok a4
  simp only [e4] at a5 a6 h ⊢
  obtain ⟨v5, j5, e5, _, b5, d5, c5⟩ := sNum_ok a5
  simp only [e5] at a6 h ⊢
  obtain ⟨v6, j6, e6, _, b6, d6, c6⟩ := sNum_ok a6
  simp only [e6] at h ⊢
  by_cases hw : v3 = 2 ∨ v3 = 3
  · rw [if_pos (by simp [hw])] at h ⊢
    dsimp only at h ⊢
    have a7 := sMsg_ez h
    obtain ⟨v7, j7, e7, _, b7, d7, c7⟩ := sNum_ok a7
    rw [e7] at h ⊢
    dsimp only at h ⊢
    obtain ⟨v8, j8, e8, b8, c8⟩ := (sMsg_rd l).ok _ b7 h
    rw [e8]
    refine ⟨_, j1 + (j2 + (j3 + (j4 + (j5 + (j6 + (j7 + j8)))))), Prod.ext rfl (by simp [Nat.add_assoc]), by omega, ?_, rfl⟩
    unfold encConn
    dsimp only
    rw [fl2_dec d3, if_pos (decide_eq_true hw)]
    rw [c8, c7, take_join, c6, take_join, c5, take_join, c4, take_join, c3, take_join, c2, take_join, c1, take_join]
  · rw [if_neg (fun hh => hw (of_decide_eq_true hh.1))]
    refine ⟨_, j1 + (j2 + (j3 + (j4 + (j5 + j6)))), Prod.ext rfl (by simp [Nat.add_assoc]), by omega, ?_, rfl⟩
    unfold encConn
    dsimp only
    rw [fl2_dec d3, if_neg (by simpa using hw), List.append_nil]
    rw [c6, c5, take_join, c4, take_join, c3, take_join, c2, take_join, c1, take_join]
/-- the values that are read are written so -/
theorem sBody_ok {l : List UInt8} {kind : Int} {p : Nat} (hp : p ≤ l.length) (h : (sBody l kind ((p : Int), 0)).2.2 = 0) :
    ∃ (x : Pkt) (j : Nat), sBody l kind ((p : Int), 0) = (x, (((p + j : Nat) : Int), 0)) ∧ p + j ≤ l.length ∧ encBody x = (l.drop p).take j ∧ x.kind = kind := by
  unfold sBody at h ⊢
  by_cases k1 : kind = 1
  · rw [if_pos k1] at h ⊢
    obtain ⟨x, j, e1, b1, c1, d1⟩ := sConn_ok h
    exact ⟨x, j, e1, b1, by unfold encBody; rw [if_pos d1]; exact c1, by rw [d1, k1]⟩
  rw [if_neg k1] at h ⊢
  by_cases k2 : kind = 2
  · rw [if_pos k2] at h ⊢
    dsimp only at h ⊢
    have a1 := sNum_ez h
    obtain ⟨v1, j1, e1, b1, d1, c1⟩ := sBelow_ok a1
    simp only [e1] at h ⊢
    obtain ⟨v2, j2, e2, _, b2, d2, c2⟩ := sNum_ok h
    simp only [e2]
    refine ⟨_, j1 + j2, Prod.ext rfl (by simp [Nat.add_assoc]), by omega, ?_, k2.symm⟩
    unfold encBody
    dsimp only
    rw [if_neg (by decide), if_pos rfl, b2i_dec d1, c2, c1, take_join]
  rw [if_neg k2] at h ⊢
  by_cases k14 : kind = 14
  · rw [if_pos k14] at h ⊢
    dsimp only at h ⊢
    obtain ⟨v2, j2, e2, _, b2, d2, c2⟩ := sNum_ok h
    simp only [e2]
    refine ⟨_, j2, rfl, by omega, ?_, k14.symm⟩
    unfold encBody
    dsimp only
    rw [if_neg (by decide), if_neg (by decide), if_pos rfl, c2]
  rw [if_neg k14] at h ⊢
  by_cases k12 : kind = 12 ∨ kind = 13
  · rw [if_pos k12] at h ⊢
    refine ⟨_, 0, rfl, by omega, ?_, rfl⟩
    unfold encBody
    dsimp only
    rw [if_neg k1, if_neg k2, if_neg k14, if_pos k12, List.take_zero]
  rw [if_neg k12] at h ⊢
  by_cases k3 : kind = 3
  · rw [if_pos k3] at h ⊢
    unfold sPub at h ⊢
    dsimp only at h ⊢
    have a2 := sMsg_ez h
    have a1 := sBelow_e0 a2
    obtain ⟨v1, j1, e1, _, b1, d1, c1⟩ := sNum_ok a1
    simp only [e1] at a2 h ⊢
    obtain ⟨v2, j2, e2, b2, d2, c2⟩ := sBelow_ok a2
    simp only [e2] at h ⊢
    obtain ⟨v3, j3, e3, b3, c3⟩ := (sMsg_rd l).ok _ b2 h
    simp only [e3]
    refine ⟨_, j1 + (j2 + j3), Prod.ext rfl (by simp [Nat.add_assoc]), by omega, ?_, k3.symm⟩
    unfold encBody
    dsimp only
    rw [if_neg (by decide), if_neg (by decide), if_neg (by decide), if_neg (by decide), if_pos rfl, b2i_dec d2, c3, c2, take_join, c1, take_join]
  rw [if_neg k3] at h ⊢
  by_cases k7 : kind ≤ 7
  · rw [if_pos k7] at h ⊢
    dsimp only at h ⊢
    obtain ⟨v2, j2, e2, _, b2, d2, c2⟩ := sNum_ok h
    simp only [e2]
    refine ⟨_, j2, rfl, by omega, ?_, rfl⟩
    unfold encBody
    dsimp only
    rw [if_neg k1, if_neg k2, if_neg k14, if_neg k12, if_neg k3, if_pos k7, c2, List.append_nil]
  rw [if_neg k7] at h ⊢
  have a2 : (sCount l 32 (sNum l ((p : Int), 0)).2).2.2 = 0 := by
    unfold sLists at h
    dsimp only at h
    split at h
    · exact sList_ez _ _ _ h
    split at h
    · exact sList_ez _ _ _ h
    · exact sList_ez _ _ _ h
  have a1 := sCount_ez a2
  obtain ⟨v1, j1, e1, _, b1, d1, c1⟩ := sNum_ok a1
  simp only [e1] at a2 h ⊢
  obtain ⟨v2, j2, e2, _, b2, c2⟩ := sCount_ok a2
  unfold sLists at h ⊢
  simp only [e2, Int.toNat_natCast] at h ⊢
  by_cases k8 : kind = 8
  · rw [if_pos k8] at h ⊢
    obtain ⟨ys, j3, e3, b3, d3, c3⟩ := sList_ok (sSub_rd l) _ _ _ b2 h
    simp only [e3, List.nil_append]
    refine ⟨_, j1 + (j2 + j3), Prod.ext rfl (by simp [Nat.add_assoc]), by omega, ?_, rfl⟩
    unfold encBody
    dsimp only
    rw [if_neg k1, if_neg k2, if_neg k14, if_neg k12, if_neg k3, if_neg k7, if_pos k8, b3, c3, c2, take_join, c1, take_join]
  rw [if_neg k8] at h ⊢
  by_cases k10 : kind = 10
  · rw [if_pos k10] at h ⊢
    obtain ⟨ys, j3, e3, b3, d3, c3⟩ := sList_ok (sText_rd l 88) _ _ _ b2 h
    simp only [e3, List.nil_append]
    refine ⟨_, j1 + (j2 + j3), Prod.ext rfl (by simp [Nat.add_assoc]), by omega, ?_, rfl⟩
    unfold encBody
    dsimp only
    rw [if_neg k1, if_neg k2, if_neg k14, if_neg k12, if_neg k3, if_neg k7, if_neg k8, if_pos k10, b3, c3, c2, take_join, c1, take_join]
  rw [if_neg k10] at h ⊢
  obtain ⟨ys, j3, e3, b3, d3, c3⟩ := sList_ok (sNum_rd l) _ _ _ b2 h
  simp only [e3, List.nil_append]
  refine ⟨_, j1 + (j2 + j3), Prod.ext rfl (by simp [Nat.add_assoc]), by omega, ?_, rfl⟩
  unfold encBody
  dsimp only
  rw [if_neg k1, if_neg k2, if_neg k14, if_neg k12, if_neg k3, if_neg k7, if_neg k8, if_neg k10, b3, c3, c2, take_join, c1, take_join]
/-- bytes that are accepted are the form of what is returned, which is valid -/
theorem decodeR_only {l : List UInt8} {x : Pkt} (h : decodeR l = (x, 0)) : encPk x = l ∧ checkP x = 0 := by
  unfold decodeR at h
  split at h
  · cases h
  dsimp only at h
  split at h
  · next h1 => exact absurd (congrArg Prod.snd h) h1
  next h1 =>
  have h1 := Decidable.of_not_not h1
  split at h
  · cases h
  next hkd =>
  obtain ⟨v1, j1, e1, _, b1, d1, c1⟩ := sNum_ok (p := 0) h1
  rw [show ((0 : Nat) : Int) = 0 from rfl] at e1
  rw [Nat.zero_add] at e1
  rw [e1] at h hkd
  dsimp only at h hkd
  split at h
  · next h5 => exact absurd (congrArg Prod.snd h) h5
  next h5 =>
  have h5 := Decidable.of_not_not h5
  obtain ⟨y, j2, e2, b2, c2, d2⟩ := sBody_ok (l := l) (kind := v1) (p := j1) (by omega) h5
  rw [e2] at h
  dsimp only at h
  split at h
  · cases h
  next h6 =>
  split at h
  · next h7 =>
    have h8 := congrArg Prod.snd h
    dsimp only at h8
    omega
  next h7 =>
  obtain rfl : y = x := congrArg Prod.fst h
  refine ⟨?_, Decidable.of_not_not h7⟩
  have h8 : j1 + j2 = l.length := by omega
  unfold encPk
  rw [d2, c1, c2, List.drop_zero]
  have := take_join l 0 j1 j2
  rw [Nat.zero_add, List.drop_zero] at this
  rw [this, h8, List.take_length]

end Go.Proofs.YtaaginkafadhdaaGreatDoor
namespace Go.Proofs.YtaaginkafadhdaaGreatDoor
open Go.RowKit

end Go.Proofs.YtaaginkafadhdaaGreatDoor
