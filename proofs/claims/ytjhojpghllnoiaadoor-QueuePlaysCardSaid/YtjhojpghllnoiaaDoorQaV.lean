/-
  What a push, a return, an expiry and a pop leave of a valid queue, as plain data, and the two parts into which an instant divides a list. No function of the program is walked here.
-/
import Derived.Test.YtjhojpghllnoiaaDoorQaS
namespace Go.Proofs.YtjhojpghllnoiaaDoor
open Go.RowKit

/-- a call of the law: its kind, its instant, its number, its message and its entry -/
structure OQ where
  kd : Int
  nw : Int
  nn : Int
  m : Msg
  ma : Option Addr
  mc : Nat
  x : En
  xa : Option Addr
  xc : Nat
def OQ.zero : OQ := ⟨0, 0, 0, Msg.zero, none, 0, En.zero, none, 0⟩
abbrev oqC (k t n : Int) (m : Msg) (ma : Option Addr) (mc : Nat) (x : En) (xa : Option Addr) (xc : Nat) : List Value := [.int .i64 k, .int .i64 t, .int .i64 n, .string m.topic, .string m.payload, .int .i64 m.level, .bool m.retain, .int .i64 m.prio, .int .i64 m.exps, .string m.frm, .int .i64 m.seq, .slice ma m.props.length mc, .int .i64 x.k, .int .i64 x.r, .int .i64 x.t, .string x.m.topic, .string x.m.payload, .int .i64 x.m.level, .bool x.m.retain, .int .i64 x.m.prio, .int .i64 x.m.exps, .string x.m.frm, .int .i64 x.m.seq, .slice xa x.m.props.length xc]
def gO (o : OQ) : List Value := oqC o.kd o.nw o.nn o.m o.ma o.mc o.x o.xa o.xc
theorem gO_len (o : OQ) : (gO o).length = 24 := rfl
abbrev omp (o : OQ) : List PR := o.m.props
abbrev OI (w : World) (B : Nat) (A : Option Addr) (xs : List OQ) : Prop := LI gO 24 OQ.ma omp w B A xs
theorem valid_push {s : Sp} {n : Int} {l : List En} {m : Msg} {now : Int} (h : validR s n l = 0) (hl : l.length ≤ 60) (hk : pushK s n l.length m now = 0) : validR s (n + 1) (insQ l (pushE n now m)) = 0 := by
  obtain ⟨h1, h2, h3, h4, h5, h6⟩ := validR_parts h
  unfold pushK at hk
  by_cases c1 : checkR m ≠ 0
  · rw [if_pos c1] at hk
    omega
  rw [if_neg c1] at hk
  cases c2 : inR now 0 1099511627776 with
  | false =>
    rw [c2, if_pos rfl] at hk
    omega
  | true =>
    rw [c2, if_neg (by decide)] at hk
    by_cases c3 : s.max ≤ (l.length : Int) ∨ 1099511627776 ≤ n
    · rw [if_pos c3] at hk
      omega
    refine valid_ins h (by omega) (by omega) (entR_zero (x := pushE n now m) ⟨h2.1, by show n ≤ n + 1 - 1; omega⟩ (inR_iff.1 c2) ⟨by show (0 : Int) ≤ 0; omega, by show (0 : Int) ≤ _; omega⟩ (by show checkR m = 0; omega)) (fun a ha e => ?_) (by omega)
    have h7 := (entR_parts (h4 a ha)).1
    have e2 : a.k = n := e
    omega
theorem valid_ret {s : Sp} {n : Int} {l : List En} {x : En} (h : validR s n l = 0) (hl : l.length ≤ 60) (hk : retK n l x = 0) : validR s n (insQ l x) = 0 := by
  obtain ⟨h1, h2, h3, h4, h5, h6⟩ := validR_parts h
  unfold retK at hk
  by_cases c1 : entR x n ≠ 0
  · rw [if_pos c1] at hk
    exact absurd hk c1
  rw [if_neg c1] at hk
  cases c2 : hasQ l x.k with
  | true =>
    rw [c2, if_pos rfl] at hk
    omega
  | false => exact valid_ins h (Int.le_refl _) h2.2 (Decidable.not_not.1 c1) (hasQ_false c2) (by omega)
theorem retK_pop {s : Sp} {n : Int} {x : En} {r : List En} (h : validR s n (x :: r) = 0) (hl : r.length ≤ 60) : retK n r x = 0 := by
  obtain ⟨h1, h2, h3, h4, h5, h6⟩ := validR_parts h
  unfold retK
  rw [h4 x List.mem_cons_self, if_neg (by decide), hasQ_none (fun a ha e => (List.pairwise_cons.1 h6).1 a ha e.symm), if_neg (by decide), if_neg (by omega)]
theorem expX_mono {ttl arr : Int} {m : Msg} {a b : Int} (h : a ≤ b) (he : expX ttl arr m a = true) : expX ttl arr m b = true := by
  unfold expX expiredR at *
  simp only [Bool.or_eq_true, Bool.and_eq_true, decide_eq_true_eq] at *
  omega
theorem gone_more {s : Sp} {a b : Int} {l : List En} (h : a ≤ b) : (goneQ s a l).length ≤ (goneQ s b l).length := by
  unfold goneQ
  rw [← List.countP_eq_length_filter, ← List.countP_eq_length_filter]
  exact List.countP_mono_left (fun x _ hx => expX_mono h hx)
theorem gone_left (s : Sp) (now : Int) (l : List En) : goneQ s now (leftQ s now l) = [] := by
  unfold goneQ leftQ
  rw [List.filter_filter, List.filter_eq_nil_iff]
  intro a _
  cases expX s.ttl a.r a.m now <;> simp
theorem left_left (s : Sp) (now : Int) (l : List En) : leftQ s now (leftQ s now l) = leftQ s now l := by
  unfold leftQ
  rw [List.filter_filter]
  simp
theorem fil_at (p : En → Bool) {l : List En} {j : Nat} {e : En} (h : l[j]? = some e) (hp : p e = true) : (l.filter p)[((l.take j).filter p).length]? = some e := by
  have e1 : l.filter p = (l.take j).filter p ++ e :: (l.drop (j + 1)).filter p := by
    conv => lhs; rw [← List.take_append_drop j l, dropE h]
    rw [List.filter_append, List.filter_cons_of_pos hp]
  rw [e1, List.getElem?_append_right (Nat.le_refl _), Nat.sub_self]
  rfl
theorem fil_succ (p : En → Bool) {l : List En} {j : Nat} {e : En} (h : l[j]? = some e) : ((l.take (j + 1)).filter p).length = ((l.take j).filter p).length + (if p e = true then 1 else 0) := by
  rw [List.take_add_one, h, List.filter_append, List.length_append]
  cases hp : p e <;> simp [hp]
end Go.Proofs.YtjhojpghllnoiaaDoor
