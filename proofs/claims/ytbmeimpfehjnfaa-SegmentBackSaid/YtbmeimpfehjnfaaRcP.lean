/-
  Records as values: which are valid, their framed form, what is read of bytes, and what joins the two. No function of the program is walked here.
-/
import Derived.Test.YtbmeimpfehjnfaaTorn
namespace Go.Proofs.Ytbmeimpfehjnfaa
open Go.RowKit

structure Rc where
  off : Int
  kind : Int
  key : ByteArray
  val : ByteArray
def rcZ : Rc := ⟨0, 0, ⟨#[]⟩, ⟨#[]⟩⟩
def rcCk (r : Rc) : Int :=
  if r.off < 0 ∨ 1099511627776 < r.off then 1
  else if r.kind < 1 ∨ 3 < r.kind then 10
  else if r.key.size = 0 then 1
  else if 64 < r.key.size ∨ 4096 < r.val.size then 5
  else if r.kind ≠ 1 ∧ r.val.size ≠ 0 then 28
  else 0
def rcPay (r : Rc) : List UInt8 := enc r.off ++ enc r.kind ++ encT r.key ++ encT r.val
def rcEnc (r : Rc) : List UInt8 := if rcCk r ≠ 0 then [] else wrapR (rcPay r)
/-- what is read of a payload -/
def rcRd (p : List UInt8) : Rc × Int :=
  if (numR p 0).2.2 ≠ 0 then (rcZ, (numR p 0).2.2)
  else if (numR p (numR p 0).2.1).2.2 ≠ 0 then (rcZ, (numR p (numR p 0).2.1).2.2)
  else if (textR p (numR p (numR p 0).2.1).2.1 64).2.2 ≠ 0 then (rcZ, (textR p (numR p (numR p 0).2.1).2.1 64).2.2)
  else if (textR p (textR p (numR p (numR p 0).2.1).2.1 64).2.1 4096).2.2 ≠ 0 then (rcZ, (textR p (textR p (numR p (numR p 0).2.1).2.1 64).2.1 4096).2.2)
  else if (textR p (textR p (numR p (numR p 0).2.1).2.1 64).2.1 4096).2.1 < p.length then (rcZ, 2)
  else if rcCk ⟨(numR p 0).1, (numR p (numR p 0).2.1).1, (textR p (numR p (numR p 0).2.1).2.1 64).1, (textR p (textR p (numR p (numR p 0).2.1).2.1 64).2.1 4096).1⟩ ≠ 0 then (rcZ, rcCk ⟨(numR p 0).1, (numR p (numR p 0).2.1).1, (textR p (numR p (numR p 0).2.1).2.1 64).1, (textR p (textR p (numR p (numR p 0).2.1).2.1 64).2.1 4096).1⟩)
  else (⟨(numR p 0).1, (numR p (numR p 0).2.1).1, (textR p (numR p (numR p 0).2.1).2.1 64).1, (textR p (textR p (numR p (numR p 0).2.1).2.1 64).2.1 4096).1⟩, 0)
def rcDec (l : List UInt8) (p : Int) : Rc × Int × Int :=
  if (nextR l p).2.2 ≠ 0 then (rcZ, 0, (nextR l p).2.2)
  else if (rcRd (nextR l p).1).2 ≠ 0 then (rcZ, 0, (rcRd (nextR l p).1).2)
  else ((rcRd (nextR l p).1).1, (nextR l p).2.1, 0)

theorem rcCk_ok {r : Rc} (h : rcCk r = 0) : 0 ≤ r.off ∧ r.off ≤ 1099511627776 ∧ 1 ≤ r.kind ∧ r.kind ≤ 3 ∧ 0 < r.key.size ∧ r.key.size ≤ 64 ∧ r.val.size ≤ 4096 := by
  unfold rcCk at h
  split at h
  · omega
  split at h
  · omega
  split at h
  · omega
  split at h
  · omega
  omega
theorem rcPay_len {r : Rc} (h : rcCk r = 0) : (rcPay r).length ≤ 4200 := by
  obtain ⟨_, _, _, _, _, h6, h7⟩ := rcCk_ok h
  have h1 := (enc_len r.off).2
  have h2 := (enc_len r.kind).2
  have h3 := encT_len r.key
  have h4 := encT_len r.val
  unfold rcPay
  simp only [List.length_append]
  omega

theorem textR_pre (pre rest : List UInt8) (s : ByteArray) (lim : Int) (hs : (s.size : Int) ≤ lim) (hs2 : (s.size : Int) ≤ 9223372036854775807) : textR (pre ++ (encT s ++ rest)) (pre.length : Int) lim = (s, ((pre.length + (encT s).length : Nat) : Int), 0) := by
  have el : (encT s).length = (enc s.size).length + s.size := by unfold encT; rw [List.length_append, size_dl]
  have e1 : pre ++ (encT s ++ rest) = pre ++ (enc s.size ++ (dl s ++ rest)) := by unfold encT; simp only [List.append_assoc]
  have hc := countR_enc pre (dl s ++ rest) s.size lim hs hs2
  unfold textR
  rw [e1, hc]
  dsimp only
  have hl : (pre ++ (enc s.size ++ (dl s ++ rest))).length = pre.length + (enc s.size).length + s.size + rest.length := by
    simp only [List.length_append, ← size_dl]; omega
  rw [if_neg (by decide), if_neg (by rw [hl]; omega), Int.toNat_natCast, Int.toNat_natCast]
  have e2 : (pre ++ (enc s.size ++ (dl s ++ rest))).drop (pre.length + (enc s.size).length) = dl s ++ rest := by
    rw [← List.append_assoc, ← List.length_append, drop_pre]
  rw [e2, List.take_left' (size_dl s).symm, bs_dl, el]
  congr 2
  omega
theorem rcJoin {α : Type} (l : List α) (a b c : Nat) : (l.drop a).take b ++ (l.drop (a + b)).take c = (l.drop a).take (b + c) := by
  rw [← List.drop_drop, ← List.take_add]
theorem textR_parts {l : List UInt8} {p lim nx : Int} {s : ByteArray} (h : textR l p lim = (s, nx, 0)) : ∃ k j : Nat, p = k ∧ nx = ((k + j : Nat) : Int) ∧ k + j ≤ l.length ∧ encT s = (l.drop k).take j := by
  unfold textR at h
  generalize hc : countR l p lim = q at h
  obtain ⟨n, st, e⟩ := q
  dsimp only at h
  by_cases he : e = 0
  · subst he
    obtain ⟨k, j, m, rfl, rfl, rfl, h1, h2, h3, h4, h5, h6⟩ := countR_ok hc
    rw [if_neg (by decide)] at h
    split at h
    · simp at h
    · next hlt =>
      rw [Int.toNat_natCast, Int.toNat_natCast] at h
      simp only [Prod.mk.injEq, and_true] at h
      obtain ⟨rfl, rfl⟩ := h
      have hz : (bs ((l.drop (k + j)).take m)).size = m := by rw [size_bs, List.length_take, List.length_drop]; omega
      refine ⟨k, j + m, rfl, by omega, by omega, ?_⟩
      unfold encT
      rw [hz, dl_bs, h6, rcJoin]
  · rw [if_pos he] at h
    simp only [Prod.mk.injEq] at h
    exact absurd h.2.2 he

theorem rcRd_pay {r : Rc} (h : rcCk r = 0) : rcRd (rcPay r) = (r, 0) := by
  obtain ⟨h1, h2, h3, h4, h5, h6, h7⟩ := rcCk_ok h
  have e0 : rcPay r = [] ++ (enc r.off ++ (enc r.kind ++ (encT r.key ++ (encT r.val ++ [])))) := by unfold rcPay; simp
  have e1 : rcPay r = enc r.off ++ (enc r.kind ++ (encT r.key ++ (encT r.val ++ []))) := by unfold rcPay; simp
  have e2 : rcPay r = (enc r.off ++ enc r.kind) ++ (encT r.key ++ (encT r.val ++ [])) := by unfold rcPay; simp
  have e3 : rcPay r = (enc r.off ++ enc r.kind ++ encT r.key) ++ (encT r.val ++ []) := by unfold rcPay; simp
  have q0 : numR (rcPay r) 0 = (r.off, ((enc r.off).length : Int), 0) := by
    have := numR_enc [] (enc r.kind ++ (encT r.key ++ (encT r.val ++ []))) r.off (by omega) (by omega)
    rw [← e0] at this
    simpa using this
  have q1 : numR (rcPay r) ((enc r.off).length : Int) = (r.kind, ((enc r.off ++ enc r.kind).length : Int), 0) := by
    have := numR_enc (enc r.off) (encT r.key ++ (encT r.val ++ [])) r.kind (by omega) (by omega)
    rw [← e1] at this
    rw [this, List.length_append]
  have q2 : textR (rcPay r) ((enc r.off ++ enc r.kind).length : Int) 64 = (r.key, ((enc r.off ++ enc r.kind ++ encT r.key).length : Int), 0) := by
    have := textR_pre (enc r.off ++ enc r.kind) (encT r.val ++ []) r.key 64 (by omega) (by omega)
    rw [← e2] at this
    rw [this]
    simp only [List.length_append]
  have q3 : textR (rcPay r) ((enc r.off ++ enc r.kind ++ encT r.key).length : Int) 4096 = (r.val, ((rcPay r).length : Int), 0) := by
    have := textR_pre (enc r.off ++ enc r.kind ++ encT r.key) [] r.val 4096 (by omega) (by omega)
    rw [← e3] at this
    rw [this]
    unfold rcPay
    simp only [List.length_append]
  unfold rcRd
  simp only [q0, q1, q2, q3]
  simp [h]

theorem rcRd_ok {p : List UInt8} {r : Rc} {e : Int} (h : rcRd p = (r, e)) (he : e = 0) : rcCk r = 0 ∧ rcPay r = p := by
  subst he
  unfold rcRd at h
  generalize h0 : numR p 0 = a0 at h
  obtain ⟨n0, p1, e0⟩ := a0
  dsimp only at h
  by_cases c0 : e0 ≠ 0
  · rw [if_pos c0] at h; simp only [Prod.mk.injEq] at h; exact absurd h.2 c0
  rw [if_neg c0] at h
  obtain rfl : e0 = 0 := by omega
  generalize h1 : numR p p1 = a1 at h
  obtain ⟨n1, p2, e1⟩ := a1
  dsimp only at h
  by_cases c1 : e1 ≠ 0
  · rw [if_pos c1] at h; simp only [Prod.mk.injEq] at h; exact absurd h.2 c1
  rw [if_neg c1] at h
  obtain rfl : e1 = 0 := by omega
  generalize h2 : textR p p2 64 = a2 at h
  obtain ⟨s2, p3, e2⟩ := a2
  dsimp only at h
  by_cases c2 : e2 ≠ 0
  · rw [if_pos c2] at h; simp only [Prod.mk.injEq] at h; exact absurd h.2 c2
  rw [if_neg c2] at h
  obtain rfl : e2 = 0 := by omega
  generalize h3 : textR p p3 4096 = a3 at h
  obtain ⟨s3, p4, e3⟩ := a3
  dsimp only at h
  by_cases c3 : e3 ≠ 0
  · rw [if_pos c3] at h; simp only [Prod.mk.injEq] at h; exact absurd h.2 c3
  rw [if_neg c3] at h
  obtain rfl : e3 = 0 := by omega
  by_cases c4 : p4 < p.length
  · rw [if_pos c4] at h; simp at h
  rw [if_neg c4] at h
  by_cases c5 : rcCk ⟨n0, n1, s2, s3⟩ ≠ 0
  · rw [if_pos c5] at h; simp only [Prod.mk.injEq] at h; exact absurd h.2 c5
  rw [if_neg c5] at h
  simp only [Prod.mk.injEq, and_true] at h
  subst h
  obtain ⟨k0, j0, t0, rfl, _, _, l0, _, _, x0⟩ := numR_ok h0
  obtain rfl : k0 = 0 := by omega
  obtain ⟨k1, j1, t1, rfl, _, _, l1, _, _, x1⟩ := numR_ok h1
  obtain rfl : k1 = 0 + j0 := by omega
  obtain ⟨k2, j2, t2, rfl, l2, x2⟩ := textR_parts h2
  obtain rfl : k2 = 0 + j0 + j1 := by omega
  obtain ⟨k3, j3, t3, rfl, l3, x3⟩ := textR_parts h3
  obtain rfl : k3 = 0 + j0 + j1 + j2 := by omega
  refine ⟨by omega, ?_⟩
  unfold rcPay
  dsimp only
  rw [x0, x1, x2, x3, rcJoin, Nat.add_assoc 0 j0 j1, rcJoin, Nat.add_assoc 0 (j0 + j1) j2, rcJoin, List.drop_zero, List.take_of_length_le (by omega)]
theorem rcRd_err {p : List UInt8} {r : Rc} {e : Int} (h : rcRd p = (r, e)) (he : e ≠ 0) : r = rcZ := by
  unfold rcRd at h
  repeat' split at h
  all_goals simp only [Prod.mk.injEq] at h
  all_goals first | exact h.1.symm | exact absurd h.2.symm he

theorem rcDec_err {l : List UInt8} {p nx e : Int} {r : Rc} (h : rcDec l p = (r, nx, e)) (he : e ≠ 0) : r = rcZ ∧ nx = 0 := by
  unfold rcDec at h
  repeat' split at h
  all_goals simp only [Prod.mk.injEq] at h
  all_goals first | exact ⟨h.1.symm, h.2.1.symm⟩ | exact absurd h.2.2.symm he
theorem rcDec_frame {r : Rc} (h : rcCk r = 0) (pre post : List UInt8) : rcDec (pre ++ (rcEnc r ++ post)) (pre.length : Int) = (r, ((pre.length + (rcEnc r).length : Nat) : Int), 0) := by
  have hl := rcPay_len h
  have e : rcEnc r = wrapR (rcPay r) := by unfold rcEnc; rw [if_neg (by omega)]
  unfold rcDec
  rw [e, next_frame pre (rcPay r) post (by omega)]
  dsimp only
  rw [rcRd_pay h]
  simp
theorem rcDec_only {l : List UInt8} {nx : Int} {r : Rc} (h : rcDec l 0 = (r, nx, 0)) : rcCk r = 0 ∧ ∃ k : Nat, nx = k ∧ k ≤ l.length ∧ rcEnc r = l.take k ∧ (rcEnc r).length = k := by
  unfold rcDec at h
  generalize hx : nextR l 0 = q at h
  obtain ⟨T, n, e⟩ := q
  dsimp only at h
  by_cases he : e ≠ 0
  · rw [if_pos he] at h; simp only [Prod.mk.injEq] at h; exact absurd h.2.2 he
  rw [if_neg he] at h
  obtain rfl : e = 0 := by omega
  generalize hy : rcRd T = y at h
  obtain ⟨r', f⟩ := y
  dsimp only at h
  by_cases hf : f ≠ 0
  · rw [if_pos hf] at h; simp only [Prod.mk.injEq] at h; exact absurd h.2.2 hf
  rw [if_neg hf] at h
  obtain rfl : f = 0 := by omega
  simp only [Prod.mk.injEq, and_true] at h
  obtain ⟨rfl, rfl⟩ := h
  obtain ⟨hc, hp⟩ := rcRd_ok hy rfl
  obtain ⟨k, rfl, h1, h2, h3, h4, h5⟩ := next_only hx
  have e : rcEnc r' = wrapR T := by unfold rcEnc; rw [if_neg (by omega), hp]
  exact ⟨hc, k, rfl, h1, by rw [e, h3], by rw [e, h4]⟩
theorem rcEnc_len {r : Rc} (h : rcCk r = 0) : 5 ≤ (rcEnc r).length ∧ (rcEnc r).length ≤ 4214 := by
  have hl := rcPay_len h
  have e : rcEnc r = wrapR (rcPay r) := by unfold rcEnc; rw [if_neg (by omega)]
  have h1 := enc_len (rcPay r).length
  rw [e, wrap_len (by omega)]
  omega
theorem rcDec_torn {r : Rc} (h : rcCk r = 0) {cut : Nat} (hc : cut < (rcEnc r).length) : rcDec ((rcEnc r).take cut) 0 = (rcZ, 0, 3) := by
  have hl := rcPay_len h
  have e : rcEnc r = wrapR (rcPay r) := by unfold rcEnc; rw [if_neg (by omega)]
  rw [e] at hc ⊢
  have := next_torn [] (rcPay r) (by omega) cut hc
  simp only [List.nil_append, List.length_nil, Int.ofNat_zero] at this
  unfold rcDec
  rw [this]
  simp
theorem rcDec_damaged {r : Rc} (h : rcCk r = 0) {k : Nat} {x y : UInt8} (hk : (enc (rcPay r).length).length ≤ k) (hx : (rcEnc r)[k]? = some x) (hxy : y ≠ x) : rcDec ((rcEnc r).set k y) 0 = (rcZ, 0, 4) := by
  have hl := rcPay_len h
  have e : rcEnc r = wrapR (rcPay r) := by unfold rcEnc; rw [if_neg (by omega)]
  rw [e] at hx ⊢
  unfold rcDec
  rw [next_damaged (by omega) hk hx hxy]
  simp
end Go.Proofs.Ytbmeimpfehjnfaa
