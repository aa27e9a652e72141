/-
 Lists of packets in memory, as they came in. No function of the program is walked here.
 What answers, Release and Accept of inbound answer: the inbox, whether the message is to be delivered, the packet to send, the error. Conditions: the inbox and the packet read as data; the inbox ascends and has few identifiers; Accept: the library's bound on short texts holds a number, the packet's lists and texts fit a machine.
 What Release of inbound answers: the inbox, the packet to send, the error. Conditions: the inbox and the packet read as data; the inbox ascends and has few identifiers.
 What Accept of inbound answers: the inbox, whether the message is to be delivered, the packet to send, the error. Conditions: the inbox and the packet read as data; the inbox ascends and has few identifiers; the library's bound on short texts holds a number; the packet's lists and texts fit a machine.
 What Check, Has, Same and Release of brokerref15 answer. Conditions: the inbox and the packet read as data; few identifiers.
 The example that each statement of brokerlaw15 looks at. Conditions: the library's bound on short texts holds a number.
-/
import Derived.Test.YtomlideijhejfaaGreatDoorMbx2
import Derived.Test.YtomlideijhejfaaGreatDoorSamQ
import Derived.Test.YtomlideijhejfaaGreatDoorIdI
import Derived.Test.YtomlideijhejfaaGreatDoorAns
import Derived.Test.YtomlideijhejfaaGreatDoorCheckP
namespace Go.Proofs.YtomlideijhejfaaGreatDoor
open Go.RowKit

def gK (x : Pkt × PA) : List Value := pkC x.1 x.2
theorem gK_len (x : Pkt × PA) : (gK x).length = 34 := rfl
theorem gK_one (x : Pkt × PA) : ∀ u ∈ gK x, u.oneCell' = true := fun u hu => List.all_eq_true.1 (show (gK x).all (fun v => v.oneCell') = true from rfl) u hu
def PInB (w : World) (B : Nat) (p : Pkt) (a : PA) : Prop := PL w B a.m p.msg.props ∧ PL w B a.v p.wmsg.props ∧ BL w B a.s p.subs ∧ SL w B a.f p.filters ∧ IL w B a.c p.codes
theorem PInB.below {w w' : World} {B : Nat} {p : Pkt} {a : PA} (h : PInB w B p a) (hb : Below B w w') : PInB w' B p a := ⟨h.1.below hb, h.2.1.below hb, h.2.2.1.below hb, h.2.2.2.1.below hb, h.2.2.2.2.below hb⟩
theorem PInB.more {w : World} {B B' : Nat} {p : Pkt} {a : PA} (h : PInB w B p a) (hB : B ≤ B') : PInB w B' p a := ⟨h.1.more hB, h.2.1.more hB, h.2.2.1.more hB, h.2.2.2.1.more hB, h.2.2.2.2.more hB⟩
theorem PInB.pin {w : World} {p : Pkt} {a : PA} (h : PInB w w.heap.size p a) : PIn w p a := ⟨h.1, h.2.1, h.2.2.1, h.2.2.2.1, h.2.2.2.2⟩
/-- the slice with this address reads as these packets, below block B -/
def KL (w : World) (B : Nat) (A : Option Addr) (xs : List (Pkt × PA)) : Prop := GL gK 34 w B A xs ∧ ∀ x ∈ xs, PInB w B x.1 x.2
theorem KL.nil (w : World) (B : Nat) (A : Option Addr) : KL w B A [] := ⟨GL.nil _ _ _, fun x hx => by cases hx⟩
theorem KL.below {w w' : World} {B : Nat} {A : Option Addr} {xs : List (Pkt × PA)} (h : KL w B A xs) (hb : Below B w w') : KL w' B A xs := ⟨h.1.below hb, fun x hx => (h.2 x hx).below hb⟩
theorem KL.more {w : World} {B B' : Nat} {A : Option Addr} {xs : List (Pkt × PA)} (h : KL w B A xs) (hB : B ≤ B') : KL w B' A xs := ⟨h.1.more hB, fun x hx => (h.2 x hx).more hB⟩
theorem KL.step {w w' : World} {A : Option Addr} {xs : List (Pkt × PA)} (h : KL w w.heap.size A xs) (hb : Below w.heap.size w w') : KL w' w'.heap.size A xs := (h.below hb).more hb.size
section
variable {P : Program}
/-- a struct is loaded from cells that hold it, wherever they lie -/
theorem run_load_cells (w : World) (b o : Nat) (cs : List Value) (ty : TypeId) (d : TypeDesc) (hc : ∀ i v, cs[i]? = some v → w.cell? ⟨b, o + i, none⟩ = some v)
 (hu : P.underlying ty = some d) (hd : (match d with | .struct _ | .array _ _ => true | _ => false) = true) (hi : (P.info? ty).map (·.size) = some cs.length) :
 (loadVar ty ⟨b, o, none⟩).run P w = .ok (.agg cs.toArray) w := by
 have hl : (loadCells ⟨b, o, none⟩ cs.length).run P w = .ok cs.toArray w :=
  run_loadCells_list (P := P) w ⟨b, o, none⟩ cs (fun j v hv => by
   have hadd : (⟨b, o, none⟩ : Addr).add j = ⟨b, o + j, none⟩ := by unfold Addr.add; split <;> simp_all
   rw [hadd]
   exact hc j v hv)
 cases hq : P.info? ty with
 | none => simp [hq] at hi
 | some i =>
  have hs : i.size = cs.length := by simpa [hq] using hi
  have hagg : (isAgg ty).run P w = .ok true w := by
   unfold isAgg
   rw [Sem.run_bind, run_underlying hu w]
   cases d <;> simp_all
  simp [loadVar, Sem.run_bind, hagg, sizeOf, typeInfo, hq, hs, hl]
theorem wpList_load_v {ops : Array Oper} {rest : List Oper} {o : Oper} {a : Act} {w : World} {Q : Exit → Act → World → Prop} (hgd : Region.wanted o (yielded ops a.tmps) = true) (ty : TypeId) (x : Operand) (ho : o.op = .load ty x)
 (p : Addr) (hx : a.eval x = .pointer (some p)) (v : Value) (hl : (loadVar ty p).run P w = .ok v w) (h : wpList P ops Q rest (a.put o.dst v) w) : wpList P ops Q (o :: rest) a w :=
 wpList_wanted hgd fun _ hK => by
  unfold Oper.wp execOp
  simp only [ho, hx, Instr.loadAt, Instr.sureAddr, Sem.run_bind, Sem.run_pure, Result.andThen_ok, hl]
  exact hK _ _ h
end
theorem KL.at_ {w : World} {B : Nat} {A : Option Addr} {xs : List (Pkt × PA)} (h : KL w B A xs) {j : Nat} {x : Pkt × PA} (hx : xs[j]? = some x) :
 ∃ b o, A = some ⟨b, o, none⟩ ∧ b < B ∧ (loadVar 33 ⟨b, o + j * 34, none⟩).run Tryz.prog w = .ok (.agg (pkC x.1 x.2).toArray) w ∧ PInB w B x.1 x.2 := by
 obtain ⟨b, o, e, hb, hc⟩ := h.1 (Nat.lt_of_le_of_lt (Nat.zero_le _) (List.getElem?_eq_some_iff.1 hx).1)
 exact ⟨b, o, e, hb, run_load_cells w b (o + j * 34) (pkC x.1 x.2) 33 _ (fun i v hv => hc j x i v hx hv) Tryz.underlying33 rfl info33, h.2 x (List.mem_of_getElem? hx)⟩

end Go.Proofs.YtomlideijhejfaaGreatDoor
namespace Go.Proofs.YtomlideijhejfaaGreatDoor
open Go.RowKit
open S2 (BK Put)

theorem onesB {vs : List Value} (h : vs.all (fun v => v.oneCell') = true) : ∀ u ∈ vs, u.oneCell' = true := fun u hu => List.all_eq_true.1 h u hu
/-- answers to a packet: none or one, without lists -/
def NK (w : World) (A : Option Addr) (l : List Pkt) : Prop := l.length ≤ 1 ∧ ∀ q ∈ l, ∃ g, A = some ⟨g, 0, none⟩ ∧ BK 33 w g (pkC q PA.zero)
theorem NK.nil (w : World) (A : Option Addr) : NK w A [] := ⟨Nat.zero_le _, fun q h => by cases h⟩
theorem NK.one {w : World} {g : Nat} {q : Pkt} (h : BK 33 w g (pkC q PA.zero)) : NK w (some ⟨g, 0, none⟩) [q] := ⟨Nat.le_refl _, fun y hy => by rw [List.mem_singleton] at hy; rw [hy]; exact ⟨g, rfl, h⟩⟩
theorem NK.step {w w' : World} {A : Option Addr} {l : List Pkt} (h : NK w A l) (hb : Below w.heap.size w w') : NK w' A l := ⟨h.1, fun q hq => by
 obtain ⟨g, e, hg⟩ := h.2 q hq
 exact ⟨g, e, BK.step hg hb⟩⟩
theorem NK.put {w w' : World} {g : Nat} {A : Option Addr} {l : List Pkt} (h : NK w A l) (hp : Put g w w') (hn : ∀ b o, A = some ⟨b, o, none⟩ → b ≠ g) : NK w' A l := ⟨h.1, fun q hq => by
 obtain ⟨k, e, hg⟩ := h.2 q hq
 exact ⟨k, e, Put.other hp hg (hn k 0 e)⟩⟩
/-- in memory of its own -/
def NewA (B : Nat) (A : Option Addr) : Prop := ∀ b o, A = some ⟨b, o, none⟩ → B ≤ b
theorem NewA.nil (B : Nat) : NewA B none := fun b o e => by cases e
theorem NewA.more {B B' : Nat} {A : Option Addr} (h : NewA B A) (hB : B' ≤ B) : NewA B' A := fun b o e => Nat.le_trans hB (h b o e)
theorem ILp {w w' : World} {g : Nat} {A : Option Addr} {X : List Int} (h : S2.IL w w.heap.size A X) (hp : Put g w w') (hn : ∀ b o, A = some ⟨b, o, none⟩ → b ≠ g) : S2.IL w' w'.heap.size A X := S2.IL.put h hp (fun b o e _ => hn b o e)
theorem NewA.ne {B g : Nat} {A : Option Addr} (h : NewA B A) (hg : g < B) : ∀ b o, A = some ⟨b, o, none⟩ → b ≠ g := fun b o e => by have := h b o e; omega
/-- a list of identifiers that a call answers, in memory of its own -/
def RetIN (X : List Int) (W : World) (e : Ending) (w' : World) : Prop := ∃ A c, e = .returned (.slice A X.length c) ∧ X.length ≤ c ∧ S2.IL w' w'.heap.size A X ∧ NewA W.heap.size A ∧ Below W.heap.size W w'
theorem retIN {X : List Int} {W : World} {e : Ending} {w' : World} (h : S2.RetIs X W e w') : RetIN X W e w' := by
 obtain ⟨v, rfl, hown, hb⟩ := h
 obtain ⟨A, c, rfl, hc, hsl, hfr⟩ := hown.retB
 exact ⟨A, c, rfl, hc, hsl w' (Nat.le_refl _) (fun _ _ => rfl), hfr, hb⟩

def ansL (p : Pkt) : List Pkt := if ansK p = 0 then [] else [ansP p]
def nrelR (X : List Int) (k n : Int) : List Int × Pkt × Int := if k ≠ 6 then ([], Pkt.zero, 10) else if n < 1 ∨ 65535 < n then ([], Pkt.zero, 15) else (S2.delI X n, plainP 7 n, 0)
def naccR (X : List Int) (p : Pkt) : List Int × Bool × List Pkt × Int :=
 if p.kind ≠ 3 then ([], false, [], 10) else if checkP p ≠ 0 then ([], false, [], checkP p) else if p.msg.level ≠ 2 then (X, true, ansL p, 0)
 else if p.id ∉ X ∧ 32 ≤ X.length then ([], false, [], 6) else (S2.withI X p.id, !decide (p.id ∈ X), ansL p, 0)
/-- an inbox, a packet and a code that a call answers -/
def RetNr (r : List Int × Pkt × Int) (W : World) (e : Ending) (w' : World) : Prop := ∃ A c, e = .returned (.tuple #[S2.xv A c r.1, pkV r.2.1 PA.zero, .int .i64 r.2.2]) ∧ r.1.length ≤ c ∧ S2.IL w' w'.heap.size A r.1 ∧ NewA W.heap.size A ∧ Below W.heap.size W w'
/-- an inbox, a truth value, packets and a code that a call answers -/
def RetNa (r : List Int × Bool × List Pkt × Int) (W : World) (e : Ending) (w' : World) : Prop := ∃ A c A3 c3, e = .returned (.tuple #[S2.xv A c r.1, .bool r.2.1, .slice A3 r.2.2.1.length c3, .int .i64 r.2.2.2]) ∧ r.1.length ≤ c ∧ S2.IL w' w'.heap.size A r.1 ∧ NewA W.heap.size A ∧ NK w' A3 r.2.2.1 ∧ NewA W.heap.size A3 ∧ Below W.heap.size W w'

/-- the results: two structs in blocks of their own, and a value -/
theorem nres221 {P : Program} {fn : Func} {p q r : Tmp} {ty uy : TypeId} (h : fn.results = #[.cell p ty, .cell q uy, .tmp r]) (tmps : Array Value) (w : World) (g k : Nat) (t s : TypeId) (vs us : List Value) (d f : TypeDesc) (u : Value)
 (hp : tmps.getD p undef = .pointer (some ⟨g, 0, none⟩)) (hq : tmps.getD q undef = .pointer (some ⟨k, 0, none⟩)) (hr : tmps.getD r undef = u) (hg : BK t w g vs) (hk : BK s w k us)
 (hu : P.underlying ty = some d) (hd : (match d with | .struct _ | .array _ _ => true | _ => false) = true) (hi : (P.info? ty).map (·.size) = some vs.length)
 (hu2 : P.underlying uy = some f) (hd2 : (match f with | .struct _ | .array _ _ => true | _ => false) = true) (hi2 : (P.info? uy).map (·.size) = some us.length) :
 (results fn tmps).run P w = .ok (.tuple #[.agg vs.toArray, .agg us.toArray, u]) w := by
 have hp' : tmps[p]?.getD undef = .pointer (some ⟨g, 0, none⟩) := by simpa using hp
 have hq' : tmps[q]?.getD undef = .pointer (some ⟨k, 0, none⟩) := by simpa using hq
 have hr' : tmps[r]?.getD undef = u := by simpa using hr
 simp [results, h, hp', hq', hr', asAddr, S2.run_load_all hg hu hd hi, S2.run_load_all hk hu2 hd2 hi2]
/-- the results: a struct in a block of its own, and three values -/
theorem nres4 {P : Program} {fn : Func} {p q r s : Tmp} {ty : TypeId} (h : fn.results = #[.cell p ty, .tmp q, .tmp r, .tmp s]) (tmps : Array Value) (w : World) (g : Nat) (t : TypeId) (vs : List Value) (d : TypeDesc) (v u z : Value)
 (hp : tmps.getD p undef = .pointer (some ⟨g, 0, none⟩)) (hq : tmps.getD q undef = v) (hr : tmps.getD r undef = u) (hs : tmps.getD s undef = z) (hg : BK t w g vs)
 (hu : P.underlying ty = some d) (hd : (match d with | .struct _ | .array _ _ => true | _ => false) = true) (hi : (P.info? ty).map (·.size) = some vs.length) :
 (results fn tmps).run P w = .ok (.tuple #[.agg vs.toArray, v, u, z]) w := by
 have hp' : tmps[p]?.getD undef = .pointer (some ⟨g, 0, none⟩) := by simpa using hp
 have hq' : tmps[q]?.getD undef = v := by simpa using hq
 have hr' : tmps[r]?.getD undef = u := by simpa using hr
 have hs' : tmps[s]?.getD undef = z := by simpa using hs
 simp [results, h, hp', hq', hr', hs', asAddr, S2.run_load_all hg hu hd hi]
theorem nfour {T1 T2 T3 T4 : TypeId} {w w1 : World} {v1 v2 v3 v4 : List Value} (h : w1 = ((((w.alloc (.cells v1.toArray T1)).alloc (.cells v2.toArray T2)).alloc (.cells v3.toArray T3)).alloc (.cells v4.toArray T4))) :
 Below w.heap.size w w1 ∧ BK T1 w1 w.heap.size v1 ∧ BK T2 w1 (w.heap.size + 1) v2 ∧ BK T3 w1 (w.heap.size + 1 + 1) v3 ∧ BK T4 w1 (w.heap.size + 1 + 1 + 1) v4 := by
 obtain ⟨w0, hw0⟩ : ∃ w0, w0 = (((w.alloc (.cells v1.toArray T1)).alloc (.cells v2.toArray T2)).alloc (.cells v3.toArray T3)) := ⟨_, rfl⟩
 rw [← hw0] at h
 obtain ⟨hb, h1, h2, h3⟩ := three hw0
 have hs : w0.heap.size = w.heap.size + 1 + 1 + 1 := by rw [hw0]; simp
 subst h
 refine ⟨stepB hb (S2.below_new w0 _), MT.alloc h1 _, MT.alloc h2 _, MT.alloc h3 _, ?_⟩
 have := BK.new w0 T4 v4
 rwa [hs] at this
theorem znew (w : World) : BK 33 (w.alloc (.cells #[.int .i64 0, .int .i64 0, .bool false, .string ⟨#[]⟩, .string ⟨#[]⟩, .int .i64 0, .bool false, .int .i64 0, .int .i64 0, .string ⟨#[]⟩, .int .i64 0, .slice none 0 0, .string ⟨#[]⟩, .string ⟨#[]⟩, .bool false, .int .i64 0, .int .i64 0, .int .i64 0, .bool false, .int .i64 0, .string ⟨#[]⟩, .string ⟨#[]⟩, .int .i64 0, .bool false, .int .i64 0, .int .i64 0, .string ⟨#[]⟩, .int .i64 0, .slice none 0 0, .bool false, .int .i64 0, .slice none 0 0, .slice none 0 0, .slice none 0 0] 33)) w.heap.size (pkC Pkt.zero PA.zero) := BK.new w _ (pkC Pkt.zero PA.zero)
theorem pkc0 (p : Pkt) (a : PA) : (pkC p a)[0]? = some (.int .i64 p.kind) := rfl
theorem pkc1 (p : Pkt) (a : PA) : (pkC p a)[1]? = some (.int .i64 p.id) := rfl
theorem pkc5 (p : Pkt) (a : PA) : (pkC p a)[5]? = some (.int .i64 p.msg.level) := rfl

set_option maxRecDepth 20000 in
set_option maxHeartbeats 4000000 in
theorem nAnswers_any (p : Pkt) (a : PA) (w : World) :
 Calls Tryz.prog 22 #[pkV p a] w fun e w' => ∃ A c, e = .returned (.slice A (ansL p).length c) ∧ NK w' A (ansL p) ∧ NewA w.heap.size A ∧ Below w.heap.size w w' := by
 have HA := Lib.hid (fun w => answer_any p a w)
 unfold ansL
 generalize ansP p = q at HA ⊢
 generalize ansK p = k at HA ⊢
 obtain ⟨x, hx⟩ : ∃ x, x = decide (k ≠ 0) := ⟨_, rfl⟩
 rw [← hx] at HA
 obtain ⟨L, hL⟩ : ∃ L : List Pkt, L = if k = 0 then [] else [q] := ⟨_, rfl⟩
 rw [← hL]
 have HL : Hid (L = if x = true then [q] else []) := Lib.hid (by rw [hL, hx]; by_cases h : k = 0 <;> simp [h])
 clear hL hx
 unfold pkV at HA ⊢
 go_enter Tryz.func22, Tryz.ntmps22
 go_upto_region 1 with fail
 refine name_world (C := fun w1 => Code.wp _ _ _ _ w1) (w.alloc (.cells (pkC p a).toArray 33)) ?_
 rintro w1 hw1
 have K_w1 : Hid (BK 33 w1 w.heap.size (pkC p a)) := Lib.hid (by rw [hw1]; exact BK.new _ _ _)
 have B_w1 : Hid (Below w.heap.size w w1) := Lib.hid (by rw [hw1]; exact S2.below_new _ _)
 clear hw1
 go_wp2_with first
  | (refine wpList_load_v (by rfl) 33 (.tmp 1) rfl ⟨w.heap.size, 0, none⟩ rfl (.agg (pkC p a).toArray) (S2.run_load_all K_w1.out Tryz.underlying33 rfl info33) ?_)
 refine (HA.out w1).mono ?_
 rintro e w2 ⟨rfl, hb⟩
 have B_w2 := Lib.hid (stepB B_w1.out hb)
 clear hb HA K_w1 B_w1
 cases x with
 | false =>
  obtain rfl : L = [] := HL.out
  go_wp2_with first
   | (refine S2.wpList_store_all (by rfl) 33 (.tmp 3) (.tmp 8) rfl rfl (w2.heap.size) rfl (pkC q PA.zero) rfl 33 (pkC Pkt.zero PA.zero) (znew w2) info33 rfl (onesB rfl) ?_; intro w3 hM hP; have B_w3 : Hid (Below w.heap.size w w3) := Lib.hid (hP.below (stepB B_w2.out (S2.below_new w2 _)) B_w2.out.size); clear hM hP)
  go_ret
  exact ⟨none, 0, rfl, NK.nil _ _, NewA.nil _, B_w3.out⟩
 | true =>
  obtain rfl : L = [q] := HL.out
  go_wp2_with first
   | (refine S2.wpList_store_all (by rfl) 33 (.tmp 3) (.tmp 8) rfl rfl (w2.heap.size) rfl (pkC q PA.zero) rfl 33 (pkC Pkt.zero PA.zero) (znew w2) info33 rfl (onesB rfl) ?_; intro w3 hM hP; have M_w3 : Hid (BK 33 w3 w2.heap.size (pkC q PA.zero)) := Lib.hid hM; have B_w3 : Hid (Below w.heap.size w w3) := Lib.hid (hP.below (stepB B_w2.out (S2.below_new w2 _)) B_w2.out.size); clear hM hP)
   | (refine wpList_load_v (by rfl) 33 (.tmp 3) rfl ⟨w2.heap.size, 0, none⟩ rfl (.agg #[.int .i64 q.kind, .int .i64 q.id, .bool q.dup, .string q.msg.topic, .string q.msg.payload, .int .i64 q.msg.level, .bool q.msg.retain, .int .i64 q.msg.prio, .int .i64 q.msg.exps, .string q.msg.frm, .int .i64 q.msg.seq, .slice PA.zero.m q.msg.props.length PA.zero.mc, .string q.client, .string q.user, .bool q.clean, .int .i64 q.keep, .int .i64 q.expiry, .int .i64 q.window, .bool q.wset, .int .i64 q.wdelay, .string q.wmsg.topic, .string q.wmsg.payload, .int .i64 q.wmsg.level, .bool q.wmsg.retain, .int .i64 q.wmsg.prio, .int .i64 q.wmsg.exps, .string q.wmsg.frm, .int .i64 q.wmsg.seq, .slice PA.zero.v q.wmsg.props.length PA.zero.vc, .bool q.present, .int .i64 q.code, .slice PA.zero.s q.subs.length PA.zero.sc, .slice PA.zero.f q.filters.length PA.zero.fc, .slice PA.zero.c q.codes.length PA.zero.cc]) (S2.run_load_all M_w3.out Tryz.underlying33 rfl info33) ?_)
  go_ret
  exact ⟨some ⟨w3.heap.size, 0, none⟩, 1, rfl, NK.one (BK.new _ _ _), fun b o e => by simp only [Option.some.injEq, Addr.mk.injEq, and_true] at e; have := B_w3.out.size; omega, stepB B_w3.out (S2.below_new w3 _)⟩
end Go.Proofs.YtomlideijhejfaaGreatDoor
namespace Go.Proofs.YtomlideijhejfaaGreatDoor
open Go.RowKit
open S2 (BK Put)

theorem nrel_cases {X : List Int} {k n : Int} {R : List Int × Pkt × Int} (h : nrelR X k n = R) : (k ≠ 6 → ([], Pkt.zero, 10) = R) ∧ (k = 6 → (n < 1 ∨ 65535 < n) → ([], Pkt.zero, 15) = R) ∧ (k = 6 → ¬ (n < 1 ∨ 65535 < n) → (S2.delI X n, plainP 7 n, 0) = R) := by
 unfold nrelR at h
 refine ⟨fun h1 => ?_, fun h1 h2 => ?_, fun h1 h2 => ?_⟩
 · rw [if_pos h1] at h; exact h
 · rw [if_neg (by simpa using h1), if_pos h2] at h; exact h
 · rw [if_neg (by simpa using h1), if_neg h2] at h; exact h
theorem ans_rel {p : Pkt} (h : p.kind = 6) : ansK p = 7 ∧ ansP p = plainP 7 p.id := by
 have hk : ansK p = 7 := by unfold ansK; simp [h]
 exact ⟨hk, by rw [ansP_eq (by rw [hk]; decide), hk]⟩

set_option maxRecDepth 20000 in
set_option maxHeartbeats 8000000 in
theorem nRelease_any (A : Option Addr) (c : Nat) (X : List Int) (p : Pkt) (a : PA) (w : World) (hsl : S2.IL w w.heap.size A X) (hm : X.length ≤ 1000000) (hup : S2.upI 0 X = true) :
 Calls Tryz.prog 16 #[S2.xv A c X, pkV p a] w (RetNr (nrelR X p.kind p.id) w) := by
 have HW : Hid (∀ w1, S2.IL w1 w1.heap.size A X → Calls Tryz.prog 31 #[.slice A X.length c, .int .i64 p.id] w1 (RetIN (S2.delI X p.id) w1)) := Lib.hid (fun w1 h1 => (S2.nWithout_any A c X p.id w1 h1 hm hup).mono fun _ _ h => retIN h)
 have HA := Lib.hid (fun w1 => answer_any p a w1)
 have HAR := Lib.hid (@ans_rel p)
 have HS := Lib.hid hsl
 obtain ⟨R, hR⟩ : ∃ R, nrelR X p.kind p.id = R := ⟨_, rfl⟩
 rw [hR]
 have HC := Lib.hid (nrel_cases hR)
 clear hR hsl hm hup
 unfold pkV at HA ⊢
 go_enter Tryz.func16, Tryz.ntmps16
 go_upto_region 1 with fail
 refine name_world (C := fun w1 => Code.wp _ _ _ _ w1) ((((w.alloc (.cells [.slice A X.length c].toArray 24)).alloc (.cells (pkC p a).toArray 33)).alloc (.cells [.slice none 0 0].toArray 24)).alloc (.cells (pkC Pkt.zero PA.zero).toArray 33)) ?_
 intro w1 hw1
 obtain ⟨hB0, t1, t2, t3, t4⟩ := nfour hw1
 have T_w1 : Hid (BK 24 w1 w.heap.size [.slice A X.length c]) := Lib.hid t1
 have K_w1 : Hid (BK 33 w1 (w.heap.size + 1) (pkC p a)) := Lib.hid t2
 have R_w1 : Hid (BK 24 w1 (w.heap.size + 1 + 1) [.slice none 0 0]) := Lib.hid t3
 have Q_w1 : Hid (BK 33 w1 (w.heap.size + 1 + 1 + 1) (pkC Pkt.zero PA.zero)) := Lib.hid t4
 have B_w1 := Lib.hid hB0
 have S_w1 : Hid (S2.IL w1 w1.heap.size A X) := Lib.hid (CL.step HS.out hB0)
 clear hw1 t1 t2 t3 t4 hB0 HS
 have d0 := K_w1.out.cell 0 (pkc0 p a)
 have d1 := K_w1.out.cell 1 (pkc1 p a)
 by_cases hk : p.kind = 6
 case neg =>
  have q1 : (p.kind != 6) = true := by simp [hk]
  have HR : Hid (([], Pkt.zero, 10) = R) := Lib.hid (HC.out.1 hk)
  clear hk HC HA HAR HW
  go_wp2_with first
   | (refine S2.wpList_store_all (by rfl) 24 (.tmp 4) (.tmp 13) rfl rfl (w.heap.size + 1 + 1) rfl [.slice none 0 0] rfl 24 [.slice none 0 0] R_w1.out S2.boxSize rfl (onesB rfl) ?_; intro wf hM hP; have R_wf := Lib.hid hM; have Q_wf := Lib.hid (hP.other Q_w1.out (by omega)); have B_wf := Lib.hid (hP.below B_w1.out (by omega)); clear hM hP)
   | (refine S2.wpList_store_all (by rfl) 33 (.tmp 5) (.tmp 14) rfl rfl (w.heap.size + 1 + 1 + 1) rfl (pkC Pkt.zero PA.zero) rfl 33 (pkC Pkt.zero PA.zero) Q_wf.out info33 rfl (onesB rfl) ?_; intro wg hM hP; have Q_wg := Lib.hid hM; have R_wg := Lib.hid (hP.other R_wf.out (by omega)); have B_wg := Lib.hid (hP.below B_wf.out (by omega)); clear hM hP)
  rw [← HR.out]
  exact bodyPost_ret (v := .tuple #[S2.xv none 0 [], pkV Pkt.zero PA.zero, .int .i64 10]) (nres221 rfl _ _ (w.heap.size + 1 + 1) (w.heap.size + 1 + 1 + 1) 24 33 [.slice none 0 0] (pkC Pkt.zero PA.zero) _ _ _ rfl rfl rfl R_wg.out Q_wg.out Tryz.underlying24 rfl S2.boxSize Tryz.underlying33 rfl info33) rfl ⟨none, 0, rfl, Nat.le_refl _, CL.nil _ _ _, NewA.nil _, B_wg.out⟩
 have q1 : (p.kind != 6) = false := by simp [hk]
 by_cases hn : p.id < 1 ∨ 65535 < p.id
 case pos =>
  have HR : Hid (([], Pkt.zero, 15) = R) := Lib.hid (HC.out.2.1 hk hn)
  by_cases h1 : p.id < 1
  · have q2 : decide (p.id < 1) = true := decide_eq_true h1
    clear hk hn h1 HC HA HAR HW
    go_wp2_with first
     | (refine S2.wpList_store_all (by rfl) 24 (.tmp 4) (.tmp 22) rfl rfl (w.heap.size + 1 + 1) rfl [.slice none 0 0] rfl 24 [.slice none 0 0] R_w1.out S2.boxSize rfl (onesB rfl) ?_; intro wf hM hP; have R_wf := Lib.hid hM; have Q_wf := Lib.hid (hP.other Q_w1.out (by omega)); have B_wf := Lib.hid (hP.below B_w1.out (by omega)); clear hM hP)
     | (refine S2.wpList_store_all (by rfl) 33 (.tmp 5) (.tmp 23) rfl rfl (w.heap.size + 1 + 1 + 1) rfl (pkC Pkt.zero PA.zero) rfl 33 (pkC Pkt.zero PA.zero) Q_wf.out info33 rfl (onesB rfl) ?_; intro wg hM hP; have Q_wg := Lib.hid hM; have R_wg := Lib.hid (hP.other R_wf.out (by omega)); have B_wg := Lib.hid (hP.below B_wf.out (by omega)); clear hM hP)
    rw [← HR.out]
    exact bodyPost_ret (v := .tuple #[S2.xv none 0 [], pkV Pkt.zero PA.zero, .int .i64 15]) (nres221 rfl _ _ (w.heap.size + 1 + 1) (w.heap.size + 1 + 1 + 1) 24 33 [.slice none 0 0] (pkC Pkt.zero PA.zero) _ _ _ rfl rfl rfl R_wg.out Q_wg.out Tryz.underlying24 rfl S2.boxSize Tryz.underlying33 rfl info33) rfl ⟨none, 0, rfl, Nat.le_refl _, CL.nil _ _ _, NewA.nil _, B_wg.out⟩
  · have q2 : decide (p.id < 1) = false := decide_eq_false h1
    have q3 : decide (65535 < p.id) = true := decide_eq_true (by omega)
    clear hk hn h1 HC HA HAR HW
    go_wp2_with first
     | (refine S2.wpList_store_all (by rfl) 24 (.tmp 4) (.tmp 22) rfl rfl (w.heap.size + 1 + 1) rfl [.slice none 0 0] rfl 24 [.slice none 0 0] R_w1.out S2.boxSize rfl (onesB rfl) ?_; intro wf hM hP; have R_wf := Lib.hid hM; have Q_wf := Lib.hid (hP.other Q_w1.out (by omega)); have B_wf := Lib.hid (hP.below B_w1.out (by omega)); clear hM hP)
     | (refine S2.wpList_store_all (by rfl) 33 (.tmp 5) (.tmp 23) rfl rfl (w.heap.size + 1 + 1 + 1) rfl (pkC Pkt.zero PA.zero) rfl 33 (pkC Pkt.zero PA.zero) Q_wf.out info33 rfl (onesB rfl) ?_; intro wg hM hP; have Q_wg := Lib.hid hM; have R_wg := Lib.hid (hP.other R_wf.out (by omega)); have B_wg := Lib.hid (hP.below B_wf.out (by omega)); clear hM hP)
    rw [← HR.out]
    exact bodyPost_ret (v := .tuple #[S2.xv none 0 [], pkV Pkt.zero PA.zero, .int .i64 15]) (nres221 rfl _ _ (w.heap.size + 1 + 1) (w.heap.size + 1 + 1 + 1) 24 33 [.slice none 0 0] (pkC Pkt.zero PA.zero) _ _ _ rfl rfl rfl R_wg.out Q_wg.out Tryz.underlying24 rfl S2.boxSize Tryz.underlying33 rfl info33) rfl ⟨none, 0, rfl, Nat.le_refl _, CL.nil _ _ _, NewA.nil _, B_wg.out⟩
 have q2 : decide (p.id < 1) = false := decide_eq_false (by omega)
 have q3 : decide (65535 < p.id) = false := decide_eq_false (by omega)
 have HR : Hid ((S2.delI X p.id, plainP 7 p.id, 0) = R) := Lib.hid (HC.out.2.2 hk hn)
 obtain ⟨e1, e2⟩ := HAR.out hk
 rw [e1, e2] at HA
 generalize plainP 7 p.id = q at HA HR
 generalize S2.delI X p.id = D at HW HR
 clear hk hn HC e1 e2 HAR
 go_wp2_with first
  | (refine wpList_load_v (by rfl) 33 (.tmp 3) rfl ⟨w.heap.size + 1, 0, none⟩ rfl (.agg (pkC p a).toArray) (S2.run_load_all K_w1.out Tryz.underlying33 rfl info33) ?_)
 refine (HA.out w1).mono ?_
 rintro e w2 ⟨rfl, hb⟩
 have T_w2 := Lib.hid (T_w1.out.step hb)
 have K_w2 := Lib.hid (K_w1.out.step hb)
 have R_w2 := Lib.hid (R_w1.out.step hb)
 have Q_w2 := Lib.hid (Q_w1.out.step hb)
 have B_w2 := Lib.hid (stepB B_w1.out hb)
 have S_w2 : Hid (S2.IL w2 w2.heap.size A X) := Lib.hid (CL.step S_w1.out hb)
 clear hb d0 d1 T_w1 K_w1 R_w1 Q_w1 B_w1 S_w1 HA q1 q2 q3
 go_upto_region 7 with first
  | (refine S2.wpList_store_all (by rfl) 33 (.tmp 7) (.tmp 27) rfl rfl (w2.heap.size) rfl (pkC q PA.zero) rfl 33 (pkC Pkt.zero PA.zero) (znew w2) info33 rfl (onesB rfl) ?_; intro w3 hM hP; have hb := hP.below (S2.below_new w2 _) (Nat.le_refl _); have V_w3 : Hid (BK 33 w3 w2.heap.size (pkC q PA.zero)) := Lib.hid hM; have T_w3 := Lib.hid (T_w2.out.step hb); have K_w3 := Lib.hid (K_w2.out.step hb); have R_w3 := Lib.hid (R_w2.out.step hb); have Q_w3 := Lib.hid (Q_w2.out.step hb); have B_w3 := Lib.hid (stepB B_w2.out hb); have S_w3 : Hid (S2.IL w3 w3.heap.size A X) := Lib.hid (CL.step S_w2.out hb); clear hM hP hb)
 have HGV : Hid (w.heap.size + 1 + 1 + 1 < w2.heap.size) := Lib.hid Q_w2.out.lt
 clear T_w2 K_w2 R_w2 Q_w2 S_w2 B_w2
 generalize w2.heap.size = gv at V_w3 HGV ⊢
 obtain ⟨x1, hx1⟩ : ∃ x1, x1 = World.drew w3 := ⟨_, rfl⟩
 have hbD : Below w3.heap.size w3 x1 := by rw [hx1]; exact (Below.refl _ _).drew
 have T_x1 : Hid (BK 24 x1 w.heap.size [.slice A X.length c]) := Lib.hid (T_w3.out.step hbD)
 have K_x1 : Hid (BK 33 x1 (w.heap.size + 1) (pkC p a)) := Lib.hid (K_w3.out.step hbD)
 have R_x1 : Hid (BK 24 x1 (w.heap.size + 1 + 1) [.slice none 0 0]) := Lib.hid (R_w3.out.step hbD)
 have Q_x1 : Hid (BK 33 x1 (w.heap.size + 1 + 1 + 1) (pkC Pkt.zero PA.zero)) := Lib.hid (Q_w3.out.step hbD)
 have V_x1 : Hid (BK 33 x1 gv (pkC q PA.zero)) := Lib.hid (V_w3.out.step hbD)
 have B_x1 : Hid (Below w.heap.size w x1) := Lib.hid (stepB B_w3.out hbD)
 have S_x1 : Hid (S2.IL x1 x1.heap.size A X) := Lib.hid (CL.step S_w3.out hbD)
 clear T_w3 K_w3 R_w3 Q_w3 V_w3 B_w3 S_w3
 have hbd : (fun w' => BK 24 w' w.heap.size [.slice A X.length c] ∧ BK 33 w' (w.heap.size + 1) (pkC p a) ∧ BK 33 w' gv (pkC q PA.zero)) (World.drew w3) := by rw [← hx1]; exact ⟨T_x1.out, K_x1.out, V_x1.out⟩
 have hSD : (fun w' => BK 24 w' w.heap.size [.slice A X.length c] ∧ BK 33 w' (w.heap.size + 1) (pkC p a) ∧ BK 33 w' gv (pkC q PA.zero)) x1 := ⟨T_x1.out, K_x1.out, V_x1.out⟩
 have HWD := Lib.hid hx1
 clear hx1 hbD
 refine wp_region_held_drew (S := fun w' => BK 24 w' w.heap.size [.slice A X.length c] ∧ BK 33 w' (w.heap.size + 1) (pkC p a) ∧ BK 33 w' gv (pkC q PA.zero)) (by kernel_rfl) hbd (fun hHeld => ?_)
 rw [← HWD.out]
 clear hHeld
 have hHeld := hSD
 clear hSD hbd HWD
 refine tkA (i := 0) (v := .pointer (some ⟨w.heap.size, 0, none⟩)) (y := Or.inl ⟨by rfl, fun wS hSw => by (try dsimp only at hSw); go_simp⟩) (s := hHeld) (h := ?_)
 refine tkA (i := 1) (v := .slice A X.length c) (y := Or.inl ⟨by rfl, fun wS hSw => by (try dsimp only at hSw); have cS : wS.cell? ⟨w.heap.size, 0, none⟩ = some (.slice A X.length c) := hSw.1.cell 0 rfl; clear hSw; go_simp⟩) (s := hHeld) (h := ?_)
 refine tkA (i := 2) (v := .pointer (some ⟨w.heap.size + 1, 1, none⟩)) (y := Or.inl ⟨by rfl, fun wS hSw => by (try dsimp only at hSw); go_simp⟩) (s := hHeld) (h := ?_)
 refine tkA (i := 3) (v := .int .i64 p.id) (y := Or.inl ⟨by rfl, fun wS hSw => by (try dsimp only at hSw); have cS : wS.cell? ⟨w.heap.size + 1, 1, none⟩ = some (.int .i64 p.id) := hSw.2.1.cell 1 (pkc1 p a); clear hSw; go_simp⟩) (s := hHeld) (h := ?_)
 refine tkA (i := 6) (v := .agg (pkC q PA.zero).toArray) (y := Or.inl ⟨by rfl, fun wS hSw => by (try dsimp only at hSw); exact exec_load 33 _ rfl ⟨gv, 0, none⟩ (by go_simp) _ (S2.run_load_all hSw.2.2 Tryz.underlying33 rfl info33)⟩) (s := hHeld) (h := ?_)
 refine wpAnyH_ready (rs := [4]) (by kernel_rfl) (by simp) ?_
 refine (AllReadyH.cons (get_ops _ _ _ rfl) (fun K hK => ?_) AllReadyH.nil)
 go_simp
 have hq9 := Q_x1.out.lt
 refine (HW.out x1 S_x1.out).mono ?_
 rintro e x2 ⟨A5, c5, rfl, hc5, hl5, hn5, hb⟩
 have HC5 := Lib.hid hc5
 have HN5 : Hid (NewA (w.heap.size + 1 + 1 + 1 + 1) A5) := Lib.hid (hn5.more (by omega))
 clear hc5 hn5 hq9
 have T_x2 : Hid (BK 24 x2 w.heap.size [.slice A X.length c]) := Lib.hid (T_x1.out.step hb)
 have K_x2 : Hid (BK 33 x2 (w.heap.size + 1) (pkC p a)) := Lib.hid (K_x1.out.step hb)
 have R_x2 : Hid (BK 24 x2 (w.heap.size + 1 + 1) [.slice none 0 0]) := Lib.hid (R_x1.out.step hb)
 have Q_x2 : Hid (BK 33 x2 (w.heap.size + 1 + 1 + 1) (pkC Pkt.zero PA.zero)) := Lib.hid (Q_x1.out.step hb)
 have V_x2 : Hid (BK 33 x2 gv (pkC q PA.zero)) := Lib.hid (V_x1.out.step hb)
 have B_x2 : Hid (Below w.heap.size w x2) := Lib.hid (stepB B_x1.out hb)
 have S_x2 : Hid (S2.IL x2 x2.heap.size A X) := Lib.hid (CL.step S_x1.out hb)
 clear T_x1 K_x1 R_x1 Q_x1 V_x1 B_x1 S_x1
 have L_x2 : Hid (S2.IL x2 x2.heap.size A5 D) := Lib.hid hl5
 clear hHeld hb hl5
 go_wp2_with fail
 refine hK.out _ _ ⟨T_x2.out, K_x2.out, V_x2.out⟩ (fun hHeld => ?_)
 clear hK K
 try simp only [Act.put, List.setIfInBounds_toArray, List.set_cons_zero, List.set_cons_succ]
 refine tkA (i := 5) (v := .agg #[.slice A5 D.length c5]) (y := Or.inl ⟨by rfl, fun wS hSw => by (try dsimp only at hSw); go_simp⟩) (s := hHeld) (h := ?_)
 refine wpAnyH_ready (rs := [7]) (by kernel_rfl) (by simp) ?_
 refine (AllReadyH.cons (get_ops _ _ _ rfl) (fun K hK => ?_) AllReadyH.nil)
 refine S2.wp_store_all 24 _ _ rfl rfl (w.heap.size + 1 + 1) (by go_simp) [.slice A5 D.length c5] (by first | rfl | go_simp) 24 [.slice none 0 0] R_x2.out S2.boxSize rfl (onesB rfl) ?_
 intro x3 hM hP
 have R_x3 : Hid (BK 24 x3 (w.heap.size + 1 + 1) [.slice A5 D.length c5]) := Lib.hid (hM)
 have T_x3 : Hid (BK 24 x3 w.heap.size [.slice A X.length c]) := Lib.hid (hP.other T_x2.out (by omega))
 have K_x3 : Hid (BK 33 x3 (w.heap.size + 1) (pkC p a)) := Lib.hid (hP.other K_x2.out (by omega))
 have Q_x3 : Hid (BK 33 x3 (w.heap.size + 1 + 1 + 1) (pkC Pkt.zero PA.zero)) := Lib.hid (hP.other Q_x2.out (by omega))
 have V_x3 : Hid (BK 33 x3 gv (pkC q PA.zero)) := Lib.hid (hP.other V_x2.out (by have := HGV.out; omega))
 have B_x3 : Hid (Below w.heap.size w x3) := Lib.hid (hP.below B_x2.out (by omega))
 have L_x3 : Hid (S2.IL x3 x3.heap.size A5 D) := Lib.hid (ILp L_x2.out hP (HN5.out.ne (by omega)))
 clear T_x2 K_x2 R_x2 Q_x2 V_x2 B_x2 S_x2 L_x2
 clear hM hP hHeld
 refine hK.out _ _ ⟨T_x3.out, K_x3.out, V_x3.out⟩ (fun hHeld => ?_)
 clear hK K
 try simp only [Act.put, List.setIfInBounds_toArray, List.set_cons_zero, List.set_cons_succ]
 refine wpAnyH_ready (rs := [8]) (by kernel_rfl) (by simp) ?_
 refine (AllReadyH.cons (get_ops _ _ _ rfl) (fun K hK => ?_) AllReadyH.nil)
 refine S2.wp_store_all 33 _ _ rfl rfl (w.heap.size + 1 + 1 + 1) (by go_simp) (pkC q PA.zero) (by first | rfl | go_simp) 33 (pkC Pkt.zero PA.zero) Q_x3.out info33 rfl (onesB rfl) ?_
 intro x4 hM hP
 have Q_x4 : Hid (BK 33 x4 (w.heap.size + 1 + 1 + 1) (pkC q PA.zero)) := Lib.hid (hM)
 have T_x4 : Hid (BK 24 x4 w.heap.size [.slice A X.length c]) := Lib.hid (hP.other T_x3.out (by omega))
 have K_x4 : Hid (BK 33 x4 (w.heap.size + 1) (pkC p a)) := Lib.hid (hP.other K_x3.out (by omega))
 have R_x4 : Hid (BK 24 x4 (w.heap.size + 1 + 1) [.slice A5 D.length c5]) := Lib.hid (hP.other R_x3.out (by omega))
 have V_x4 : Hid (BK 33 x4 gv (pkC q PA.zero)) := Lib.hid (hP.other V_x3.out (by have := HGV.out; omega))
 have B_x4 : Hid (Below w.heap.size w x4) := Lib.hid (hP.below B_x3.out (by omega))
 have L_x4 : Hid (S2.IL x4 x4.heap.size A5 D) := Lib.hid (ILp L_x3.out hP (HN5.out.ne (by omega)))
 clear T_x3 K_x3 R_x3 Q_x3 V_x3 B_x3 L_x3
 clear hM hP hHeld
 refine hK.out _ _ ⟨T_x4.out, K_x4.out, V_x4.out⟩ (fun hHeld => ?_)
 clear hK K
 try simp only [Act.put, List.setIfInBounds_toArray, List.set_cons_zero, List.set_cons_succ]
 refine tkA (i := 9) (v := .int .i64 0) (y := Or.inl ⟨by rfl, fun wS hSw => by (try dsimp only at hSw); go_simp⟩) (s := hHeld) (h := ?_)
 refine wpAnyH_done (by kernel_rfl) ?_ _
 go_wp2_with fail
 rw [← HR.out]
 exact bodyPost_ret (v := .tuple #[S2.xv A5 c5 D, pkV q PA.zero, .int .i64 0]) (nres221 rfl _ _ (w.heap.size + 1 + 1) (w.heap.size + 1 + 1 + 1) 24 33 [.slice A5 D.length c5] (pkC q PA.zero) _ _ _ rfl rfl rfl R_x4.out Q_x4.out Tryz.underlying24 rfl S2.boxSize Tryz.underlying33 rfl info33) rfl ⟨A5, c5, rfl, HC5.out, L_x4.out, HN5.out.more (by omega), B_x4.out⟩
end Go.Proofs.YtomlideijhejfaaGreatDoor
namespace Go.Proofs.YtomlideijhejfaaGreatDoor
open Go.RowKit
open S2 (BK Put)

theorem nacc_cases {X : List Int} {p : Pkt} {R : List Int × Bool × List Pkt × Int} (h : naccR X p = R) : (p.kind ≠ 3 → ([], false, [], 10) = R) ∧ (p.kind = 3 → checkP p ≠ 0 → ([], false, [], (checkP p : Int)) = R) ∧ (p.kind = 3 → checkP p = 0 → p.msg.level ≠ 2 → (X, true, ansL p, 0) = R)
 ∧ (p.kind = 3 → checkP p = 0 → p.msg.level = 2 → p.id ∉ X → 32 ≤ X.length → ([], false, [], 6) = R) ∧ (p.kind = 3 → checkP p = 0 → p.msg.level = 2 → ¬ (p.id ∉ X ∧ 32 ≤ X.length) → (S2.withI X p.id, !decide (p.id ∈ X), ansL p, 0) = R) := by
 unfold naccR at h
 refine ⟨fun h1 => ?_, fun h1 h2 => ?_, fun h1 h2 h3 => ?_, fun h1 h2 h3 h4 h5 => ?_, fun h1 h2 h3 h4 => ?_⟩
 · rw [if_pos h1] at h; exact h
 · rw [if_neg (by simpa using h1), if_pos h2] at h; exact h
 · rw [if_neg (by simpa using h1), if_neg (by simpa using h2), if_pos h3] at h; exact h
 · rw [if_neg (by simpa using h1), if_neg (by simpa using h2), if_neg (by simpa using h3), if_pos ⟨h4, h5⟩] at h; exact h
 · rw [if_neg (by simpa using h1), if_neg (by simpa using h2), if_neg (by simpa using h3), if_neg h4] at h; exact h

set_option maxRecDepth 20000 in
set_option maxHeartbeats 8000000 in
theorem nAccept_any (A : Option Addr) (c : Nat) (X : List Int) (p : Pkt) (a : PA) (w : World) (hw : S1.Okw w) (hsl : S2.IL w w.heap.size A X) (hv : S2.ckI X 0 = 0) (hp : PIn w p a) (hz : PSz p) (ht : PTx p) :
 Calls Tryz.prog 9 #[S2.xv A c X, pkV p a] w (RetNa (naccR X p) w) := by
 have hm : X.length ≤ 1000000 := by have := (S2.ck_ok.1 hv).1; omega
 have hup := (S2.ck_ok.1 hv).2.1
 have HW : Hid (∀ w1, S2.IL w1 w1.heap.size A X → Calls Tryz.prog 23 #[.slice A X.length c, .int .i64 p.id] w1 (RetIN (S2.withI X p.id) w1)) := Lib.hid (fun w1 h1 => (S2.nWith_any A c X p.id w1 h1 hm hup).mono fun _ _ h => retIN h)
 have HL : Hid (∀ w1, S2.IL w1 w1.heap.size A X → Calls Tryz.prog 21 #[.slice A X.length c] w1 (RetIN X w1)) := Lib.hid (fun w1 h1 => (S2.cloneI_any A c X w1 h1 hm).mono fun _ _ h => retIN h)
 have HH := Lib.hid (fun w1 h1 => S2.nHas_any A c X p.id w1 h1 hv)
 have HA := Lib.hid (fun w1 => nAnswers_any p a w1)
 have HK := Lib.hid (fun w1 h0 h1 => check6_any p a w1 h0 h1 hz ht)
 have HS := Lib.hid hsl
 have HO := Lib.hid hw
 have HP := Lib.hid hp
 obtain ⟨R, hR⟩ : ∃ R, naccR X p = R := ⟨_, rfl⟩
 rw [hR]
 have HC := Lib.hid (nacc_cases hR)
 obtain ⟨z, hzz⟩ : ∃ z : Int, (checkP p : Int) = z := ⟨_, rfl⟩
 rw [hzz] at HK HC
 have HZ : Hid (checkP p ≠ 0 ↔ z ≠ 0) := Lib.hid (by omega)
 clear hR hsl hm hup hv hw hp hz ht hzz
 unfold pkV at HK HA ⊢
 go_enter Tryz.func9, Tryz.ntmps9
 go_upto_region 1 with fail
 refine name_world (C := fun w1 => Code.wp _ _ _ _ w1) (((w.alloc (.cells [.slice A X.length c].toArray 24)).alloc (.cells (pkC p a).toArray 33)).alloc (.cells [.slice none 0 0].toArray 24)) ?_
 intro w1 hw1
 obtain ⟨hB0, t1, t2, t3⟩ := three hw1
 have T_w1 : Hid (BK 24 w1 w.heap.size [.slice A X.length c]) := Lib.hid t1
 have K_w1 : Hid (BK 33 w1 (w.heap.size + 1) (pkC p a)) := Lib.hid t2
 have R_w1 : Hid (BK 24 w1 (w.heap.size + 1 + 1) [.slice none 0 0]) := Lib.hid t3
 have B_w1 := Lib.hid hB0
 have S_w1 : Hid (S2.IL w1 w1.heap.size A X) := Lib.hid (CL.step HS.out hB0)
 have O_w1 := Lib.hid (HO.out.step hB0)
 have P_w1 := Lib.hid (HP.out.step hB0)
 clear hw1 t1 t2 t3 hB0 HS HO HP
 have d0 := K_w1.out.cell 0 (pkc0 p a)
 by_cases hk : p.kind = 3
 case neg =>
  have q1 : (p.kind != 3) = true := by simp [hk]
  have HR : Hid (([], false, [], 10) = R) := Lib.hid (HC.out.1 hk)
  clear hk HC HA HW HL HH HK HZ
  go_wp2_with first
   | (refine S2.wpList_store_all (by rfl) 24 (.tmp 4) (.tmp 13) rfl rfl (w.heap.size + 1 + 1) rfl [.slice none 0 0] rfl 24 [.slice none 0 0] R_w1.out S2.boxSize rfl (onesB rfl) ?_; intro wf hM hP; have R_wf := Lib.hid hM; have B_wf := Lib.hid (hP.below B_w1.out (by omega)); clear hM hP)
  rw [← HR.out]
  exact bodyPost_ret (v := .tuple #[S2.xv none 0 [], .bool false, .slice none 0 0, .int .i64 10]) (nres4 rfl _ _ (w.heap.size + 1 + 1) 24 [.slice none 0 0] _ _ _ _ rfl rfl rfl rfl R_wf.out Tryz.underlying24 rfl S2.boxSize) rfl ⟨none, 0, none, 0, rfl, Nat.le_refl _, CL.nil _ _ _, NewA.nil _, NK.nil _ _, NewA.nil _, B_wf.out⟩
 have q1 : (p.kind != 3) = false := by simp [hk]
 go_wp2_with first
  | (refine wpList_load_v (by rfl) 33 (.tmp 3) rfl ⟨w.heap.size + 1, 0, none⟩ rfl (.agg (pkC p a).toArray) (S2.run_load_all K_w1.out Tryz.underlying33 rfl info33) ?_)
 refine (HK.out w1 O_w1.out P_w1.out).mono ?_
 rintro e w2 ⟨rfl, hb⟩
 have T_w2 := Lib.hid (T_w1.out.step hb)
 have K_w2 := Lib.hid (K_w1.out.step hb)
 have R_w2 := Lib.hid (R_w1.out.step hb)
 have B_w2 := Lib.hid (stepB B_w1.out hb)
 have S_w2 : Hid (S2.IL w2 w2.heap.size A X) := Lib.hid (CL.step S_w1.out hb)
 clear hb d0 T_w1 K_w1 R_w1 B_w1 S_w1 HK q1 O_w1 P_w1
 by_cases hc : z = 0
 case neg =>
  have q2 : (z != 0) = true := by simp [hc]
  have HR : Hid (([], false, [], z) = R) := Lib.hid (HC.out.2.1 hk (HZ.out.2 hc))
  clear hk hc HC HA HW HL HH HZ
  go_wp2_with first
   | (refine S2.wpList_store_all (by rfl) 24 (.tmp 4) (.tmp 18) rfl rfl (w.heap.size + 1 + 1) rfl [.slice none 0 0] rfl 24 [.slice none 0 0] R_w2.out S2.boxSize rfl (onesB rfl) ?_; intro wf hM hP; have R_wf := Lib.hid hM; have B_wf := Lib.hid (hP.below B_w2.out (by omega)); clear hM hP)
  rw [← HR.out]
  exact bodyPost_ret (v := .tuple #[S2.xv none 0 [], .bool false, .slice none 0 0, .int .i64 z]) (nres4 rfl _ _ (w.heap.size + 1 + 1) 24 [.slice none 0 0] _ _ _ _ rfl rfl rfl rfl R_wf.out Tryz.underlying24 rfl S2.boxSize) rfl ⟨none, 0, none, 0, rfl, Nat.le_refl _, CL.nil _ _ _, NewA.nil _, NK.nil _ _, NewA.nil _, B_wf.out⟩
 have hc0 : checkP p = 0 := by
  have := HZ.out
  by_cases h : checkP p = 0
  · exact h
  · exact absurd hc (this.1 h)
 subst hc
 have d5 := K_w2.out.cell 5 (pkc5 p a)
 by_cases hl : p.msg.level = 2
 case neg =>
  have q3 : (p.msg.level != 2) = true := by simp [hl]
  have HR : Hid ((X, true, ansL p, 0) = R) := Lib.hid (HC.out.2.2.1 hk hc0 hl)
  generalize ansL p = ks at HA HR
  clear hk hc0 hl HC HW HH HZ
  go_upto_region 7 with fail
  clear d5 q3
  obtain ⟨x1, hx1⟩ : ∃ x1, x1 = World.drew w2 := ⟨_, rfl⟩
  have hbD : Below w2.heap.size w2 x1 := by rw [hx1]; exact (Below.refl _ _).drew
  have T_x1 : Hid (BK 24 x1 w.heap.size [.slice A X.length c]) := Lib.hid (T_w2.out.step hbD)
  have K_x1 : Hid (BK 33 x1 (w.heap.size + 1) (pkC p a)) := Lib.hid (K_w2.out.step hbD)
  have R_x1 : Hid (BK 24 x1 (w.heap.size + 1 + 1) [.slice none 0 0]) := Lib.hid (R_w2.out.step hbD)
  have B_x1 : Hid (Below w.heap.size w x1) := Lib.hid (stepB B_w2.out hbD)
  have S_x1 : Hid (S2.IL x1 x1.heap.size A X) := Lib.hid (CL.step S_w2.out hbD)
  clear T_w2 K_w2 R_w2 B_w2 S_w2
  have hbd : (fun w' => BK 24 w' w.heap.size [.slice A X.length c] ∧ BK 33 w' (w.heap.size + 1) (pkC p a)) (World.drew w2) := by rw [← hx1]; exact ⟨T_x1.out, K_x1.out⟩
  have hSD : (fun w' => BK 24 w' w.heap.size [.slice A X.length c] ∧ BK 33 w' (w.heap.size + 1) (pkC p a)) x1 := ⟨T_x1.out, K_x1.out⟩
  have HWD := Lib.hid hx1
  clear hx1 hbD
  refine wp_region_held_drew (S := fun w' => BK 24 w' w.heap.size [.slice A X.length c] ∧ BK 33 w' (w.heap.size + 1) (pkC p a)) (by kernel_rfl) hbd (fun hHeld => ?_)
  rw [← HWD.out]
  clear hHeld
  have hHeld := hSD
  clear hSD hbd HWD
  refine tkA (i := 0) (v := .pointer (some ⟨w.heap.size, 0, none⟩)) (y := Or.inl ⟨by rfl, fun wS hSw => by (try dsimp only at hSw); go_simp⟩) (s := hHeld) (h := ?_)
  refine tkA (i := 1) (v := .slice A X.length c) (y := Or.inl ⟨by rfl, fun wS hSw => by (try dsimp only at hSw); have cS : wS.cell? ⟨w.heap.size, 0, none⟩ = some (.slice A X.length c) := hSw.1.cell 0 rfl; clear hSw; go_simp⟩) (s := hHeld) (h := ?_)
  refine tkA (i := 4) (v := .agg (pkC p a).toArray) (y := Or.inl ⟨by rfl, fun wS hSw => by (try dsimp only at hSw); exact exec_load 33 _ rfl ⟨w.heap.size + 1, 0, none⟩ (by go_simp) _ (S2.run_load_all hSw.2 Tryz.underlying33 rfl info33)⟩) (s := hHeld) (h := ?_)
  refine wpAnyH_ready (rs := [2]) (by kernel_rfl) (by simp) ?_
  refine (AllReadyH.cons (get_ops _ _ _ rfl) (fun K hK => ?_) AllReadyH.nil)
  go_simp
  have hq9 := R_x1.out.lt
  refine (HL.out x1 S_x1.out).mono ?_
  rintro e x2 ⟨A5, c5, rfl, hc5, hl5, hn5, hb⟩
  have HC5 := Lib.hid hc5
  have HN5 : Hid (NewA (w.heap.size + 1 + 1 + 1) A5) := Lib.hid (hn5.more (by omega))
  clear hc5 hn5 hq9
  have T_x2 : Hid (BK 24 x2 w.heap.size [.slice A X.length c]) := Lib.hid (T_x1.out.step hb)
  have K_x2 : Hid (BK 33 x2 (w.heap.size + 1) (pkC p a)) := Lib.hid (K_x1.out.step hb)
  have R_x2 : Hid (BK 24 x2 (w.heap.size + 1 + 1) [.slice none 0 0]) := Lib.hid (R_x1.out.step hb)
  have B_x2 : Hid (Below w.heap.size w x2) := Lib.hid (stepB B_x1.out hb)
  have S_x2 : Hid (S2.IL x2 x2.heap.size A X) := Lib.hid (CL.step S_x1.out hb)
  clear T_x1 K_x1 R_x1 B_x1 S_x1
  have L_x2 : Hid (S2.IL x2 x2.heap.size A5 X) := Lib.hid hl5
  clear hHeld hb hl5
  go_wp2_with fail
  refine hK.out _ _ ⟨T_x2.out, K_x2.out⟩ (fun hHeld => ?_)
  clear hK K
  try simp only [Act.put, List.setIfInBounds_toArray, List.set_cons_zero, List.set_cons_succ]
  refine tkA (i := 3) (v := .agg #[.slice A5 X.length c5]) (y := Or.inl ⟨by rfl, fun wS hSw => by (try dsimp only at hSw); go_simp⟩) (s := hHeld) (h := ?_)
  refine wpAnyH_ready (rs := [5]) (by kernel_rfl) (by simp) ?_
  refine (AllReadyH.cons (get_ops _ _ _ rfl) (fun K hK => ?_) AllReadyH.nil)
  go_simp
  have hq9 := R_x2.out.lt
  refine (HA.out x2).mono ?_
  rintro e x3 ⟨A6, c6, rfl, hk6, hn6, hb⟩
  have HN6 : Hid (NewA (w.heap.size + 1 + 1 + 1) A6) := Lib.hid (hn6.more (by omega))
  clear hn6 hq9
  have T_x3 : Hid (BK 24 x3 w.heap.size [.slice A X.length c]) := Lib.hid (T_x2.out.step hb)
  have K_x3 : Hid (BK 33 x3 (w.heap.size + 1) (pkC p a)) := Lib.hid (K_x2.out.step hb)
  have R_x3 : Hid (BK 24 x3 (w.heap.size + 1 + 1) [.slice none 0 0]) := Lib.hid (R_x2.out.step hb)
  have B_x3 : Hid (Below w.heap.size w x3) := Lib.hid (stepB B_x2.out hb)
  have S_x3 : Hid (S2.IL x3 x3.heap.size A X) := Lib.hid (CL.step S_x2.out hb)
  have L_x3 : Hid (S2.IL x3 x3.heap.size A5 X) := Lib.hid (CL.step L_x2.out hb)
  clear T_x2 K_x2 R_x2 B_x2 S_x2 L_x2
  have N_x3 : Hid (NK x3 A6 ks) := Lib.hid hk6
  clear hHeld hb hk6
  go_wp2_with fail
  refine hK.out _ _ ⟨T_x3.out, K_x3.out⟩ (fun hHeld => ?_)
  clear hK K
  try simp only [Act.put, List.setIfInBounds_toArray, List.set_cons_zero, List.set_cons_succ]
  refine wpAnyH_ready (rs := [6]) (by kernel_rfl) (by simp) ?_
  refine (AllReadyH.cons (get_ops _ _ _ rfl) (fun K hK => ?_) AllReadyH.nil)
  refine S2.wp_store_all 24 _ _ rfl rfl (w.heap.size + 1 + 1) (by go_simp) [.slice A5 X.length c5] (by first | rfl | go_simp) 24 [.slice none 0 0] R_x3.out S2.boxSize rfl (onesB rfl) ?_
  intro x4 hM hP
  have R_x4 : Hid (BK 24 x4 (w.heap.size + 1 + 1) [.slice A5 X.length c5]) := Lib.hid (hM)
  have T_x4 : Hid (BK 24 x4 w.heap.size [.slice A X.length c]) := Lib.hid (hP.other T_x3.out (by omega))
  have K_x4 : Hid (BK 33 x4 (w.heap.size + 1) (pkC p a)) := Lib.hid (hP.other K_x3.out (by omega))
  have B_x4 : Hid (Below w.heap.size w x4) := Lib.hid (hP.below B_x3.out (by omega))
  have L_x4 : Hid (S2.IL x4 x4.heap.size A5 X) := Lib.hid (ILp L_x3.out hP (HN5.out.ne (by omega)))
  have N_x4 : Hid (NK x4 A6 ks) := Lib.hid (N_x3.out.put hP (HN6.out.ne (by omega)))
  clear T_x3 K_x3 R_x3 B_x3 S_x3 L_x3 N_x3
  clear hM hP hHeld
  refine hK.out _ _ ⟨T_x4.out, K_x4.out⟩ (fun hHeld => ?_)
  clear hK K
  try simp only [Act.put, List.setIfInBounds_toArray, List.set_cons_zero, List.set_cons_succ]
  refine tkA (i := 7) (v := .bool true) (y := Or.inl ⟨by rfl, fun wS hSw => by (try dsimp only at hSw); go_simp⟩) (s := hHeld) (h := ?_)
  refine tkA (i := 8) (v := .slice A6 ks.length c6) (y := Or.inl ⟨by rfl, fun wS hSw => by (try dsimp only at hSw); go_simp⟩) (s := hHeld) (h := ?_)
  refine tkA (i := 9) (v := .int .i64 0) (y := Or.inl ⟨by rfl, fun wS hSw => by (try dsimp only at hSw); go_simp⟩) (s := hHeld) (h := ?_)
  refine wpAnyH_done (by kernel_rfl) ?_ _
  go_wp2_with fail
  rw [← HR.out]
  exact bodyPost_ret (v := .tuple #[S2.xv A5 c5 X, .bool true, .slice A6 ks.length c6, .int .i64 0]) (nres4 rfl _ _ (w.heap.size + 1 + 1) 24 [.slice A5 X.length c5] _ _ _ _ rfl rfl rfl rfl R_x4.out Tryz.underlying24 rfl S2.boxSize) rfl ⟨A5, c5, A6, c6, rfl, HC5.out, L_x4.out, HN5.out.more (by omega), N_x4.out, HN6.out.more (by omega), B_x4.out⟩
 have q3 : (p.msg.level != 2) = false := by simp [hl]
 have d1 := K_w2.out.cell 1 (pkc1 p a)
 go_wp2_with first
  | (refine wpList_load_v (by rfl) 24 (.tmp 2) rfl ⟨w.heap.size, 0, none⟩ rfl (S2.xv A c X) (S2.run_load_all T_w2.out Tryz.underlying24 rfl S2.boxSize) ?_)
 refine (HH.out w2 S_w2.out).mono ?_
 rintro e w3 ⟨rfl, hb⟩
 have T_w3 := Lib.hid (T_w2.out.step hb)
 have K_w3 := Lib.hid (K_w2.out.step hb)
 have R_w3 := Lib.hid (R_w2.out.step hb)
 have B_w3 := Lib.hid (stepB B_w2.out hb)
 have S_w3 : Hid (S2.IL w3 w3.heap.size A X) := Lib.hid (CL.step S_w2.out hb)
 clear hb d5 d1 T_w2 K_w2 R_w2 B_w2 S_w2 HH q3
 have d0 := T_w3.out.cell 0 rfl
 by_cases hf : p.id ∉ X ∧ 32 ≤ X.length
 case pos =>
  have q4 : decide (p.id ∈ X) = false := decide_eq_false hf.1
  have q5 : decide ((32 : Int) ≤ (X.length : Int)) = true := decide_eq_true (by omega)
  have HR : Hid (([], false, [], 6) = R) := Lib.hid (HC.out.2.2.2.1 hk hc0 hl hf.1 hf.2)
  clear hk hc0 hl hf HC HA HW HL HZ
  rw [q4]
  go_wp2_with first
   | (refine S2.wpList_store_all (by rfl) 24 (.tmp 4) (.tmp 42) rfl rfl (w.heap.size + 1 + 1) rfl [.slice none 0 0] rfl 24 [.slice none 0 0] R_w3.out S2.boxSize rfl (onesB rfl) ?_; intro wf hM hP; have R_wf := Lib.hid hM; have B_wf := Lib.hid (hP.below B_w3.out (by omega)); clear hM hP)
  rw [← HR.out]
  exact bodyPost_ret (v := .tuple #[S2.xv none 0 [], .bool false, .slice none 0 0, .int .i64 6]) (nres4 rfl _ _ (w.heap.size + 1 + 1) 24 [.slice none 0 0] _ _ _ _ rfl rfl rfl rfl R_wf.out Tryz.underlying24 rfl S2.boxSize) rfl ⟨none, 0, none, 0, rfl, Nat.le_refl _, CL.nil _ _ _, NewA.nil _, NK.nil _ _, NewA.nil _, B_wf.out⟩
 have HR : Hid ((S2.withI X p.id, !decide (p.id ∈ X), ansL p, 0) = R) := Lib.hid (HC.out.2.2.2.2 hk hc0 hl hf)
 generalize ansL p = ks at HA HR
 generalize S2.withI X p.id = D at HW HR
 have HQ : Hid (decide (p.id ∈ X) = false → decide ((32 : Int) ≤ (X.length : Int)) = false) := Lib.hid (fun h => decide_eq_false (fun h2 => hf ⟨of_decide_eq_false h, by omega⟩))
 generalize decide (p.id ∈ X) = r at HR HQ
 clear hk hc0 hl hf HC HL HZ
 cases r with
 | true =>
  clear HQ
  go_upto_region 11 with fail
  clear d0
  obtain ⟨x1, hx1⟩ : ∃ x1, x1 = World.drew w3 := ⟨_, rfl⟩
  have hbD : Below w3.heap.size w3 x1 := by rw [hx1]; exact (Below.refl _ _).drew
  have T_x1 : Hid (BK 24 x1 w.heap.size [.slice A X.length c]) := Lib.hid (T_w3.out.step hbD)
  have K_x1 : Hid (BK 33 x1 (w.heap.size + 1) (pkC p a)) := Lib.hid (K_w3.out.step hbD)
  have R_x1 : Hid (BK 24 x1 (w.heap.size + 1 + 1) [.slice none 0 0]) := Lib.hid (R_w3.out.step hbD)
  have B_x1 : Hid (Below w.heap.size w x1) := Lib.hid (stepB B_w3.out hbD)
  have S_x1 : Hid (S2.IL x1 x1.heap.size A X) := Lib.hid (CL.step S_w3.out hbD)
  clear T_w3 K_w3 R_w3 B_w3 S_w3
  have hbd : (fun w' => BK 24 w' w.heap.size [.slice A X.length c] ∧ BK 33 w' (w.heap.size + 1) (pkC p a)) (World.drew w3) := by rw [← hx1]; exact ⟨T_x1.out, K_x1.out⟩
  have hSD : (fun w' => BK 24 w' w.heap.size [.slice A X.length c] ∧ BK 33 w' (w.heap.size + 1) (pkC p a)) x1 := ⟨T_x1.out, K_x1.out⟩
  have HWD := Lib.hid hx1
  clear hx1 hbD
  refine wp_region_held_drew (S := fun w' => BK 24 w' w.heap.size [.slice A X.length c] ∧ BK 33 w' (w.heap.size + 1) (pkC p a)) (by kernel_rfl) hbd (fun hHeld => ?_)
  rw [← HWD.out]
  clear hHeld
  have hHeld := hSD
  clear hSD hbd HWD
  refine tkA (i := 0) (v := .pointer (some ⟨w.heap.size, 0, none⟩)) (y := Or.inl ⟨by rfl, fun wS hSw => by (try dsimp only at hSw); go_simp⟩) (s := hHeld) (h := ?_)
  refine tkA (i := 1) (v := .slice A X.length c) (y := Or.inl ⟨by rfl, fun wS hSw => by (try dsimp only at hSw); have cS : wS.cell? ⟨w.heap.size, 0, none⟩ = some (.slice A X.length c) := hSw.1.cell 0 rfl; clear hSw; go_simp⟩) (s := hHeld) (h := ?_)
  refine tkA (i := 2) (v := .pointer (some ⟨w.heap.size + 1, 1, none⟩)) (y := Or.inl ⟨by rfl, fun wS hSw => by (try dsimp only at hSw); go_simp⟩) (s := hHeld) (h := ?_)
  refine tkA (i := 3) (v := .int .i64 p.id) (y := Or.inl ⟨by rfl, fun wS hSw => by (try dsimp only at hSw); have cS : wS.cell? ⟨w.heap.size + 1, 1, none⟩ = some (.int .i64 p.id) := hSw.2.cell 1 (pkc1 p a); clear hSw; go_simp⟩) (s := hHeld) (h := ?_)
  refine tkA (i := 6) (v := .bool true) (y := Or.inl ⟨by rfl, fun wS hSw => by (try dsimp only at hSw); go_simp⟩) (s := hHeld) (h := ?_)
  refine tkA (i := 7) (v := .bool false) (y := Or.inl ⟨by rfl, fun wS hSw => by (try dsimp only at hSw); go_simp⟩) (s := hHeld) (h := ?_)
  refine tkA (i := 8) (v := .agg (pkC p a).toArray) (y := Or.inl ⟨by rfl, fun wS hSw => by (try dsimp only at hSw); exact exec_load 33 _ rfl ⟨w.heap.size + 1, 0, none⟩ (by go_simp) _ (S2.run_load_all hSw.2 Tryz.underlying33 rfl info33)⟩) (s := hHeld) (h := ?_)
  refine wpAnyH_ready (rs := [4]) (by kernel_rfl) (by simp) ?_
  refine (AllReadyH.cons (get_ops _ _ _ rfl) (fun K hK => ?_) AllReadyH.nil)
  go_simp
  have hq9 := R_x1.out.lt
  refine (HW.out x1 S_x1.out).mono ?_
  rintro e x2 ⟨A5, c5, rfl, hc5, hl5, hn5, hb⟩
  have HC5 := Lib.hid hc5
  have HN5 : Hid (NewA (w.heap.size + 1 + 1 + 1) A5) := Lib.hid (hn5.more (by omega))
  clear hc5 hn5 hq9
  have T_x2 : Hid (BK 24 x2 w.heap.size [.slice A X.length c]) := Lib.hid (T_x1.out.step hb)
  have K_x2 : Hid (BK 33 x2 (w.heap.size + 1) (pkC p a)) := Lib.hid (K_x1.out.step hb)
  have R_x2 : Hid (BK 24 x2 (w.heap.size + 1 + 1) [.slice none 0 0]) := Lib.hid (R_x1.out.step hb)
  have B_x2 : Hid (Below w.heap.size w x2) := Lib.hid (stepB B_x1.out hb)
  have S_x2 : Hid (S2.IL x2 x2.heap.size A X) := Lib.hid (CL.step S_x1.out hb)
  clear T_x1 K_x1 R_x1 B_x1 S_x1
  have L_x2 : Hid (S2.IL x2 x2.heap.size A5 D) := Lib.hid hl5
  clear hHeld hb hl5
  go_wp2_with fail
  refine hK.out _ _ ⟨T_x2.out, K_x2.out⟩ (fun hHeld => ?_)
  clear hK K
  try simp only [Act.put, List.setIfInBounds_toArray, List.set_cons_zero, List.set_cons_succ]
  refine tkA (i := 5) (v := .agg #[.slice A5 D.length c5]) (y := Or.inl ⟨by rfl, fun wS hSw => by (try dsimp only at hSw); go_simp⟩) (s := hHeld) (h := ?_)
  refine wpAnyH_ready (rs := [9]) (by kernel_rfl) (by simp) ?_
  refine (AllReadyH.cons (get_ops _ _ _ rfl) (fun K hK => ?_) AllReadyH.nil)
  go_simp
  have hq9 := R_x2.out.lt
  refine (HA.out x2).mono ?_
  rintro e x3 ⟨A6, c6, rfl, hk6, hn6, hb⟩
  have HN6 : Hid (NewA (w.heap.size + 1 + 1 + 1) A6) := Lib.hid (hn6.more (by omega))
  clear hn6 hq9
  have T_x3 : Hid (BK 24 x3 w.heap.size [.slice A X.length c]) := Lib.hid (T_x2.out.step hb)
  have K_x3 : Hid (BK 33 x3 (w.heap.size + 1) (pkC p a)) := Lib.hid (K_x2.out.step hb)
  have R_x3 : Hid (BK 24 x3 (w.heap.size + 1 + 1) [.slice none 0 0]) := Lib.hid (R_x2.out.step hb)
  have B_x3 : Hid (Below w.heap.size w x3) := Lib.hid (stepB B_x2.out hb)
  have S_x3 : Hid (S2.IL x3 x3.heap.size A X) := Lib.hid (CL.step S_x2.out hb)
  have L_x3 : Hid (S2.IL x3 x3.heap.size A5 D) := Lib.hid (CL.step L_x2.out hb)
  clear T_x2 K_x2 R_x2 B_x2 S_x2 L_x2
  have N_x3 : Hid (NK x3 A6 ks) := Lib.hid hk6
  clear hHeld hb hk6
  go_wp2_with fail
  refine hK.out _ _ ⟨T_x3.out, K_x3.out⟩ (fun hHeld => ?_)
  clear hK K
  try simp only [Act.put, List.setIfInBounds_toArray, List.set_cons_zero, List.set_cons_succ]
  refine wpAnyH_ready (rs := [10]) (by kernel_rfl) (by simp) ?_
  refine (AllReadyH.cons (get_ops _ _ _ rfl) (fun K hK => ?_) AllReadyH.nil)
  refine S2.wp_store_all 24 _ _ rfl rfl (w.heap.size + 1 + 1) (by go_simp) [.slice A5 D.length c5] (by first | rfl | go_simp) 24 [.slice none 0 0] R_x3.out S2.boxSize rfl (onesB rfl) ?_
  intro x4 hM hP
  have R_x4 : Hid (BK 24 x4 (w.heap.size + 1 + 1) [.slice A5 D.length c5]) := Lib.hid (hM)
  have T_x4 : Hid (BK 24 x4 w.heap.size [.slice A X.length c]) := Lib.hid (hP.other T_x3.out (by omega))
  have K_x4 : Hid (BK 33 x4 (w.heap.size + 1) (pkC p a)) := Lib.hid (hP.other K_x3.out (by omega))
  have B_x4 : Hid (Below w.heap.size w x4) := Lib.hid (hP.below B_x3.out (by omega))
  have L_x4 : Hid (S2.IL x4 x4.heap.size A5 D) := Lib.hid (ILp L_x3.out hP (HN5.out.ne (by omega)))
  have N_x4 : Hid (NK x4 A6 ks) := Lib.hid (N_x3.out.put hP (HN6.out.ne (by omega)))
  clear T_x3 K_x3 R_x3 B_x3 S_x3 L_x3 N_x3
  clear hM hP hHeld
  refine hK.out _ _ ⟨T_x4.out, K_x4.out⟩ (fun hHeld => ?_)
  clear hK K
  try simp only [Act.put, List.setIfInBounds_toArray, List.set_cons_zero, List.set_cons_succ]
  refine tkA (i := 11) (v := .bool false) (y := Or.inl ⟨by rfl, fun wS hSw => by (try dsimp only at hSw); go_simp⟩) (s := hHeld) (h := ?_)
  refine tkA (i := 12) (v := .slice A6 ks.length c6) (y := Or.inl ⟨by rfl, fun wS hSw => by (try dsimp only at hSw); go_simp⟩) (s := hHeld) (h := ?_)
  refine tkA (i := 13) (v := .int .i64 0) (y := Or.inl ⟨by rfl, fun wS hSw => by (try dsimp only at hSw); go_simp⟩) (s := hHeld) (h := ?_)
  refine wpAnyH_done (by kernel_rfl) ?_ _
  go_wp2_with fail
  rw [← HR.out]
  exact bodyPost_ret (v := .tuple #[S2.xv A5 c5 D, .bool false, .slice A6 ks.length c6, .int .i64 0]) (nres4 rfl _ _ (w.heap.size + 1 + 1) 24 [.slice A5 D.length c5] _ _ _ _ rfl rfl rfl rfl R_x4.out Tryz.underlying24 rfl S2.boxSize) rfl ⟨A5, c5, A6, c6, rfl, HC5.out, L_x4.out, HN5.out.more (by omega), N_x4.out, HN6.out.more (by omega), B_x4.out⟩
 | false =>
  have q5 := HQ.out rfl
  clear HQ
  go_upto_region 11 with fail
  clear d0 q5
  obtain ⟨x1, hx1⟩ : ∃ x1, x1 = World.drew w3 := ⟨_, rfl⟩
  have hbD : Below w3.heap.size w3 x1 := by rw [hx1]; exact (Below.refl _ _).drew
  have T_x1 : Hid (BK 24 x1 w.heap.size [.slice A X.length c]) := Lib.hid (T_w3.out.step hbD)
  have K_x1 : Hid (BK 33 x1 (w.heap.size + 1) (pkC p a)) := Lib.hid (K_w3.out.step hbD)
  have R_x1 : Hid (BK 24 x1 (w.heap.size + 1 + 1) [.slice none 0 0]) := Lib.hid (R_w3.out.step hbD)
  have B_x1 : Hid (Below w.heap.size w x1) := Lib.hid (stepB B_w3.out hbD)
  have S_x1 : Hid (S2.IL x1 x1.heap.size A X) := Lib.hid (CL.step S_w3.out hbD)
  clear T_w3 K_w3 R_w3 B_w3 S_w3
  have hbd : (fun w' => BK 24 w' w.heap.size [.slice A X.length c] ∧ BK 33 w' (w.heap.size + 1) (pkC p a)) (World.drew w3) := by rw [← hx1]; exact ⟨T_x1.out, K_x1.out⟩
  have hSD : (fun w' => BK 24 w' w.heap.size [.slice A X.length c] ∧ BK 33 w' (w.heap.size + 1) (pkC p a)) x1 := ⟨T_x1.out, K_x1.out⟩
  have HWD := Lib.hid hx1
  clear hx1 hbD
  refine wp_region_held_drew (S := fun w' => BK 24 w' w.heap.size [.slice A X.length c] ∧ BK 33 w' (w.heap.size + 1) (pkC p a)) (by kernel_rfl) hbd (fun hHeld => ?_)
  rw [← HWD.out]
  clear hHeld
  have hHeld := hSD
  clear hSD hbd HWD
  refine tkA (i := 0) (v := .pointer (some ⟨w.heap.size, 0, none⟩)) (y := Or.inl ⟨by rfl, fun wS hSw => by (try dsimp only at hSw); go_simp⟩) (s := hHeld) (h := ?_)
  refine tkA (i := 1) (v := .slice A X.length c) (y := Or.inl ⟨by rfl, fun wS hSw => by (try dsimp only at hSw); have cS : wS.cell? ⟨w.heap.size, 0, none⟩ = some (.slice A X.length c) := hSw.1.cell 0 rfl; clear hSw; go_simp⟩) (s := hHeld) (h := ?_)
  refine tkA (i := 2) (v := .pointer (some ⟨w.heap.size + 1, 1, none⟩)) (y := Or.inl ⟨by rfl, fun wS hSw => by (try dsimp only at hSw); go_simp⟩) (s := hHeld) (h := ?_)
  refine tkA (i := 3) (v := .int .i64 p.id) (y := Or.inl ⟨by rfl, fun wS hSw => by (try dsimp only at hSw); have cS : wS.cell? ⟨w.heap.size + 1, 1, none⟩ = some (.int .i64 p.id) := hSw.2.cell 1 (pkc1 p a); clear hSw; go_simp⟩) (s := hHeld) (h := ?_)
  refine tkA (i := 6) (v := .bool false) (y := Or.inl ⟨by rfl, fun wS hSw => by (try dsimp only at hSw); go_simp⟩) (s := hHeld) (h := ?_)
  refine tkA (i := 7) (v := .bool true) (y := Or.inl ⟨by rfl, fun wS hSw => by (try dsimp only at hSw); go_simp⟩) (s := hHeld) (h := ?_)
  refine tkA (i := 8) (v := .agg (pkC p a).toArray) (y := Or.inl ⟨by rfl, fun wS hSw => by (try dsimp only at hSw); exact exec_load 33 _ rfl ⟨w.heap.size + 1, 0, none⟩ (by go_simp) _ (S2.run_load_all hSw.2 Tryz.underlying33 rfl info33)⟩) (s := hHeld) (h := ?_)
  refine wpAnyH_ready (rs := [4]) (by kernel_rfl) (by simp) ?_
  refine (AllReadyH.cons (get_ops _ _ _ rfl) (fun K hK => ?_) AllReadyH.nil)
  go_simp
  have hq9 := R_x1.out.lt
  refine (HW.out x1 S_x1.out).mono ?_
  rintro e x2 ⟨A5, c5, rfl, hc5, hl5, hn5, hb⟩
  have HC5 := Lib.hid hc5
  have HN5 : Hid (NewA (w.heap.size + 1 + 1 + 1) A5) := Lib.hid (hn5.more (by omega))
  clear hc5 hn5 hq9
  have T_x2 : Hid (BK 24 x2 w.heap.size [.slice A X.length c]) := Lib.hid (T_x1.out.step hb)
  have K_x2 : Hid (BK 33 x2 (w.heap.size + 1) (pkC p a)) := Lib.hid (K_x1.out.step hb)
  have R_x2 : Hid (BK 24 x2 (w.heap.size + 1 + 1) [.slice none 0 0]) := Lib.hid (R_x1.out.step hb)
  have B_x2 : Hid (Below w.heap.size w x2) := Lib.hid (stepB B_x1.out hb)
  have S_x2 : Hid (S2.IL x2 x2.heap.size A X) := Lib.hid (CL.step S_x1.out hb)
  clear T_x1 K_x1 R_x1 B_x1 S_x1
  have L_x2 : Hid (S2.IL x2 x2.heap.size A5 D) := Lib.hid hl5
  clear hHeld hb hl5
  go_wp2_with fail
  refine hK.out _ _ ⟨T_x2.out, K_x2.out⟩ (fun hHeld => ?_)
  clear hK K
  try simp only [Act.put, List.setIfInBounds_toArray, List.set_cons_zero, List.set_cons_succ]
  refine tkA (i := 5) (v := .agg #[.slice A5 D.length c5]) (y := Or.inl ⟨by rfl, fun wS hSw => by (try dsimp only at hSw); go_simp⟩) (s := hHeld) (h := ?_)
  refine wpAnyH_ready (rs := [9]) (by kernel_rfl) (by simp) ?_
  refine (AllReadyH.cons (get_ops _ _ _ rfl) (fun K hK => ?_) AllReadyH.nil)
  go_simp
  have hq9 := R_x2.out.lt
  refine (HA.out x2).mono ?_
  rintro e x3 ⟨A6, c6, rfl, hk6, hn6, hb⟩
  have HN6 : Hid (NewA (w.heap.size + 1 + 1 + 1) A6) := Lib.hid (hn6.more (by omega))
  clear hn6 hq9
  have T_x3 : Hid (BK 24 x3 w.heap.size [.slice A X.length c]) := Lib.hid (T_x2.out.step hb)
  have K_x3 : Hid (BK 33 x3 (w.heap.size + 1) (pkC p a)) := Lib.hid (K_x2.out.step hb)
  have R_x3 : Hid (BK 24 x3 (w.heap.size + 1 + 1) [.slice none 0 0]) := Lib.hid (R_x2.out.step hb)
  have B_x3 : Hid (Below w.heap.size w x3) := Lib.hid (stepB B_x2.out hb)
  have S_x3 : Hid (S2.IL x3 x3.heap.size A X) := Lib.hid (CL.step S_x2.out hb)
  have L_x3 : Hid (S2.IL x3 x3.heap.size A5 D) := Lib.hid (CL.step L_x2.out hb)
  clear T_x2 K_x2 R_x2 B_x2 S_x2 L_x2
  have N_x3 : Hid (NK x3 A6 ks) := Lib.hid hk6
  clear hHeld hb hk6
  go_wp2_with fail
  refine hK.out _ _ ⟨T_x3.out, K_x3.out⟩ (fun hHeld => ?_)
  clear hK K
  try simp only [Act.put, List.setIfInBounds_toArray, List.set_cons_zero, List.set_cons_succ]
  refine wpAnyH_ready (rs := [10]) (by kernel_rfl) (by simp) ?_
  refine (AllReadyH.cons (get_ops _ _ _ rfl) (fun K hK => ?_) AllReadyH.nil)
  refine S2.wp_store_all 24 _ _ rfl rfl (w.heap.size + 1 + 1) (by go_simp) [.slice A5 D.length c5] (by first | rfl | go_simp) 24 [.slice none 0 0] R_x3.out S2.boxSize rfl (onesB rfl) ?_
  intro x4 hM hP
  have R_x4 : Hid (BK 24 x4 (w.heap.size + 1 + 1) [.slice A5 D.length c5]) := Lib.hid (hM)
  have T_x4 : Hid (BK 24 x4 w.heap.size [.slice A X.length c]) := Lib.hid (hP.other T_x3.out (by omega))
  have K_x4 : Hid (BK 33 x4 (w.heap.size + 1) (pkC p a)) := Lib.hid (hP.other K_x3.out (by omega))
  have B_x4 : Hid (Below w.heap.size w x4) := Lib.hid (hP.below B_x3.out (by omega))
  have L_x4 : Hid (S2.IL x4 x4.heap.size A5 D) := Lib.hid (ILp L_x3.out hP (HN5.out.ne (by omega)))
  have N_x4 : Hid (NK x4 A6 ks) := Lib.hid (N_x3.out.put hP (HN6.out.ne (by omega)))
  clear T_x3 K_x3 R_x3 B_x3 S_x3 L_x3 N_x3
  clear hM hP hHeld
  refine hK.out _ _ ⟨T_x4.out, K_x4.out⟩ (fun hHeld => ?_)
  clear hK K
  try simp only [Act.put, List.setIfInBounds_toArray, List.set_cons_zero, List.set_cons_succ]
  refine tkA (i := 11) (v := .bool true) (y := Or.inl ⟨by rfl, fun wS hSw => by (try dsimp only at hSw); go_simp⟩) (s := hHeld) (h := ?_)
  refine tkA (i := 12) (v := .slice A6 ks.length c6) (y := Or.inl ⟨by rfl, fun wS hSw => by (try dsimp only at hSw); go_simp⟩) (s := hHeld) (h := ?_)
  refine tkA (i := 13) (v := .int .i64 0) (y := Or.inl ⟨by rfl, fun wS hSw => by (try dsimp only at hSw); go_simp⟩) (s := hHeld) (h := ?_)
  refine wpAnyH_done (by kernel_rfl) ?_ _
  go_wp2_with fail
  rw [← HR.out]
  exact bodyPost_ret (v := .tuple #[S2.xv A5 c5 D, .bool true, .slice A6 ks.length c6, .int .i64 0]) (nres4 rfl _ _ (w.heap.size + 1 + 1) 24 [.slice A5 D.length c5] _ _ _ _ rfl rfl rfl rfl R_x4.out Tryz.underlying24 rfl S2.boxSize) rfl ⟨A5, c5, A6, c6, rfl, HC5.out, L_x4.out, HN5.out.more (by omega), N_x4.out, HN6.out.more (by omega), B_x4.out⟩
end Go.Proofs.YtomlideijhejfaaGreatDoor
namespace Go.Proofs.YtomlideijhejfaaGreatDoor
open Go.RowKit
open S2 (BK Put)

set_option maxHeartbeats 2000000 in
theorem nrCheck_any (A : Option Addr) (c : Nat) (X : List Int) (w : World) (hsl : S2.IL w w.heap.size A X) (hX : X.length ≤ 9223372036854775807) :
 Calls Tryz.prog 7 #[S2.xv A c X] w fun e w' => e = .returned (.int .i64 (S2.ckI X 0)) ∧ Below w.heap.size w w' := by
 have HB := Lib.hid (S2.below_new w (.cells #[.slice A X.length c] 24))
 have HC := Lib.hid (S2.rCheck_any A c X 0 _ (CL.step hsl HB.out) hX)
 generalize S2.ckI X 0 = k at HC ⊢
 clear hsl hX
 go_enter Tryz.func7, Tryz.ntmps7
 go_wp2_with fail
 refine HC.out.mono ?_
 rintro e w' ⟨rfl, hb⟩
 have HB2 := Lib.hid (stepB HB.out hb)
 clear hb
 go_wp2
 go_ret
 exact ⟨rfl, HB2.out⟩
set_option maxHeartbeats 2000000 in
theorem nrHas_any (A : Option Addr) (c : Nat) (X : List Int) (n : Int) (w : World) (hsl : S2.IL w w.heap.size A X) (hX : X.length ≤ 9223372036854775807) :
 Calls Tryz.prog 15 #[S2.xv A c X, .int .i64 n] w fun e w' => e = .returned (.bool (decide (n ∈ X))) ∧ Below w.heap.size w w' := by
 have HB := Lib.hid (S2.below_new w (.cells #[.slice A X.length c] 24))
 have HC := Lib.hid (S2.rHas_any A c X 0 n _ (CL.step hsl HB.out) hX)
 generalize decide (n ∈ X) = k at HC ⊢
 clear hsl hX
 go_enter Tryz.func15, Tryz.ntmps15
 go_wp2_with fail
 refine HC.out.mono ?_
 rintro e w' ⟨rfl, hb⟩
 have HB2 := Lib.hid (stepB HB.out hb)
 clear hb
 go_wp2
 go_ret
 exact ⟨rfl, HB2.out⟩
set_option maxHeartbeats 2000000 in
theorem nrSame_any (A A' : Option Addr) (c c' : Nat) (X Y : List Int) (w : World) (hs : S2.IL w w.heap.size A X) (ht : S2.IL w w.heap.size A' Y) (hX : X.length ≤ 9223372036854775807) (hY : Y.length ≤ 9223372036854775807) :
 Calls Tryz.prog 11 #[S2.xv A c X, S2.xv A' c' Y] w fun e w' => e = .returned (.bool (decide (X = Y))) ∧ Below w.heap.size w w' := by
 have HB := Lib.hid (stepB (S2.below_new w (.cells #[.slice A X.length c] 24)) (S2.below_new _ (.cells #[.slice A' Y.length c'] 24)))
 have HC := Lib.hid (S2.rInts_any A A' c c' X Y _ (CL.step hs HB.out) (CL.step ht HB.out) hX hY)
 generalize decide (X = Y) = k at HC ⊢
 clear hs ht hX hY
 go_enter Tryz.func11, Tryz.ntmps11
 go_wp2_with fail
 refine HC.out.mono ?_
 rintro e w' ⟨rfl, hb⟩
 have HB2 := Lib.hid (stepB HB.out hb)
 clear hb
 go_wp2
 go_ret
 exact ⟨rfl, HB2.out⟩

/-- an inbox, a packet and a code that a call answers, the list new or that of the one that came in -/
def RetNs (A0 : Option Addr) (X0 : List Int) (r : List Int × Pkt × Int) (W : World) (e : Ending) (w' : World) : Prop := ∃ A c, e = .returned (.tuple #[S2.xv A c r.1, pkV r.2.1 PA.zero, .int .i64 r.2.2]) ∧ r.1.length ≤ c ∧ S2.IL w' w'.heap.size A r.1 ∧ S2.Fr W A0 X0 A r.1 ∧ Below W.heap.size W w'
theorem fr_more {W W1 : World} {A A' : Option Addr} {X X' : List Int} (h : S2.Fr W1 A X A' X') (hs : W.heap.size ≤ W1.heap.size) : S2.Fr W A X A' X' := by
 rcases h with h | h | h
 · exact .inl h
 · exact .inr (.inl h)
 · exact .inr (.inr (fun b o e => Nat.le_trans hs (h b o e)))

set_option maxRecDepth 20000 in
set_option maxHeartbeats 8000000 in
theorem nrRelease_any (A : Option Addr) (c : Nat) (X : List Int) (p : Pkt) (a : PA) (w : World) (hsl : S2.IL w w.heap.size A X) (hm : X.length ≤ 1000000) :
 Calls Tryz.prog 28 #[S2.xv A c X, pkV p a] w (RetNs A X (nrelR X p.kind p.id) w) := by
 have HW := Lib.hid (fun w1 h1 => S2.rFree_any A c X 0 p.id w1 h1 hm)
 have HS := Lib.hid hsl
 obtain ⟨R, hR⟩ : ∃ R, nrelR X p.kind p.id = R := ⟨_, rfl⟩
 rw [hR]
 have HC := Lib.hid (nrel_cases hR)
 have HO := Lib.hid (fun g hg => S2.Off.lt (g := g) hsl hg)
 clear hR hsl hm
 unfold pkV
 go_enter Tryz.func28, Tryz.ntmps28
 go_upto_region 1 with fail
 refine name_world (C := fun w1 => Code.wp _ _ _ _ w1) ((((w.alloc (.cells [.slice A X.length c].toArray 24)).alloc (.cells (pkC p a).toArray 33)).alloc (.cells [.slice none 0 0].toArray 24)).alloc (.cells (pkC Pkt.zero PA.zero).toArray 33)) ?_
 intro w1 hw1
 obtain ⟨hB0, t1, t2, t3, t4⟩ := nfour hw1
 have T_w1 : Hid (BK 24 w1 w.heap.size [.slice A X.length c]) := Lib.hid t1
 have K_w1 : Hid (BK 33 w1 (w.heap.size + 1) (pkC p a)) := Lib.hid t2
 have R_w1 : Hid (BK 24 w1 (w.heap.size + 1 + 1) [.slice none 0 0]) := Lib.hid t3
 have Q_w1 : Hid (BK 33 w1 (w.heap.size + 1 + 1 + 1) (pkC Pkt.zero PA.zero)) := Lib.hid t4
 have B_w1 := Lib.hid hB0
 have S_w1 : Hid (S2.IL w1 w1.heap.size A X) := Lib.hid (CL.step HS.out hB0)
 clear hw1 t1 t2 t3 t4 hB0 HS
 have d0 := K_w1.out.cell 0 (pkc0 p a)
 have d1 := K_w1.out.cell 1 (pkc1 p a)
 by_cases hk : p.kind = 6
 case neg =>
  have q1 : (p.kind != 6) = true := by simp [hk]
  have HR : Hid (([], Pkt.zero, 10) = R) := Lib.hid (HC.out.1 hk)
  clear hk HC HW HO
  go_wp2_with first
   | (refine S2.wpList_store_all (by rfl) 24 (.tmp 4) (.tmp 12) rfl rfl (w.heap.size + 1 + 1) rfl [.slice none 0 0] rfl 24 [.slice none 0 0] R_w1.out S2.boxSize rfl (onesB rfl) ?_; intro wf hM hP; have R_wf := Lib.hid hM; have Q_wf := Lib.hid (hP.other Q_w1.out (by omega)); have B_wf := Lib.hid (hP.below B_w1.out (by omega)); clear hM hP)
   | (refine S2.wpList_store_all (by rfl) 33 (.tmp 5) (.tmp 13) rfl rfl (w.heap.size + 1 + 1 + 1) rfl (pkC Pkt.zero PA.zero) rfl 33 (pkC Pkt.zero PA.zero) Q_wf.out info33 rfl (onesB rfl) ?_; intro wg hM hP; have Q_wg := Lib.hid hM; have R_wg := Lib.hid (hP.other R_wf.out (by omega)); have B_wg := Lib.hid (hP.below B_wf.out (by omega)); clear hM hP)
  rw [← HR.out]
  exact bodyPost_ret (v := .tuple #[S2.xv none 0 [], pkV Pkt.zero PA.zero, .int .i64 10]) (nres221 rfl _ _ (w.heap.size + 1 + 1) (w.heap.size + 1 + 1 + 1) 24 33 [.slice none 0 0] (pkC Pkt.zero PA.zero) _ _ _ rfl rfl rfl R_wg.out Q_wg.out Tryz.underlying24 rfl S2.boxSize Tryz.underlying33 rfl info33) rfl ⟨none, 0, rfl, Nat.le_refl _, CL.nil _ _ _, .inl rfl, B_wg.out⟩
 have q1 : (p.kind != 6) = false := by simp [hk]
 by_cases hn : p.id < 1 ∨ 65535 < p.id
 case pos =>
  have HR : Hid (([], Pkt.zero, 15) = R) := Lib.hid (HC.out.2.1 hk hn)
  by_cases h1 : p.id < 1
  · have q2 : decide (p.id < 1) = true := decide_eq_true h1
    clear hk hn h1 HC HW HO
    go_wp2_with first
     | (refine S2.wpList_store_all (by rfl) 24 (.tmp 4) (.tmp 22) rfl rfl (w.heap.size + 1 + 1) rfl [.slice none 0 0] rfl 24 [.slice none 0 0] R_w1.out S2.boxSize rfl (onesB rfl) ?_; intro wf hM hP; have R_wf := Lib.hid hM; have Q_wf := Lib.hid (hP.other Q_w1.out (by omega)); have B_wf := Lib.hid (hP.below B_w1.out (by omega)); clear hM hP)
     | (refine S2.wpList_store_all (by rfl) 33 (.tmp 5) (.tmp 23) rfl rfl (w.heap.size + 1 + 1 + 1) rfl (pkC Pkt.zero PA.zero) rfl 33 (pkC Pkt.zero PA.zero) Q_wf.out info33 rfl (onesB rfl) ?_; intro wg hM hP; have Q_wg := Lib.hid hM; have R_wg := Lib.hid (hP.other R_wf.out (by omega)); have B_wg := Lib.hid (hP.below B_wf.out (by omega)); clear hM hP)
    rw [← HR.out]
    exact bodyPost_ret (v := .tuple #[S2.xv none 0 [], pkV Pkt.zero PA.zero, .int .i64 15]) (nres221 rfl _ _ (w.heap.size + 1 + 1) (w.heap.size + 1 + 1 + 1) 24 33 [.slice none 0 0] (pkC Pkt.zero PA.zero) _ _ _ rfl rfl rfl R_wg.out Q_wg.out Tryz.underlying24 rfl S2.boxSize Tryz.underlying33 rfl info33) rfl ⟨none, 0, rfl, Nat.le_refl _, CL.nil _ _ _, .inl rfl, B_wg.out⟩
  · have q2 : decide (p.id < 1) = false := decide_eq_false h1
    have q3 : decide (65535 < p.id) = true := decide_eq_true (by omega)
    clear hk hn h1 HC HW HO
    go_wp2_with first
     | (refine S2.wpList_store_all (by rfl) 24 (.tmp 4) (.tmp 22) rfl rfl (w.heap.size + 1 + 1) rfl [.slice none 0 0] rfl 24 [.slice none 0 0] R_w1.out S2.boxSize rfl (onesB rfl) ?_; intro wf hM hP; have R_wf := Lib.hid hM; have Q_wf := Lib.hid (hP.other Q_w1.out (by omega)); have B_wf := Lib.hid (hP.below B_w1.out (by omega)); clear hM hP)
     | (refine S2.wpList_store_all (by rfl) 33 (.tmp 5) (.tmp 23) rfl rfl (w.heap.size + 1 + 1 + 1) rfl (pkC Pkt.zero PA.zero) rfl 33 (pkC Pkt.zero PA.zero) Q_wf.out info33 rfl (onesB rfl) ?_; intro wg hM hP; have Q_wg := Lib.hid hM; have R_wg := Lib.hid (hP.other R_wf.out (by omega)); have B_wg := Lib.hid (hP.below B_wf.out (by omega)); clear hM hP)
    rw [← HR.out]
    exact bodyPost_ret (v := .tuple #[S2.xv none 0 [], pkV Pkt.zero PA.zero, .int .i64 15]) (nres221 rfl _ _ (w.heap.size + 1 + 1) (w.heap.size + 1 + 1 + 1) 24 33 [.slice none 0 0] (pkC Pkt.zero PA.zero) _ _ _ rfl rfl rfl R_wg.out Q_wg.out Tryz.underlying24 rfl S2.boxSize Tryz.underlying33 rfl info33) rfl ⟨none, 0, rfl, Nat.le_refl _, CL.nil _ _ _, .inl rfl, B_wg.out⟩
 have q2 : decide (p.id < 1) = false := decide_eq_false (by omega)
 have q3 : decide (65535 < p.id) = false := decide_eq_false (by omega)
 have HR : Hid ((S2.delI X p.id, plainP 7 p.id, 0) = R) := Lib.hid (HC.out.2.2 hk hn)
 generalize S2.delI X p.id = D at HW HR
 generalize decide (p.id ∈ X) = r at HW
 have dt := T_w1.out.cell 0 rfl
 clear hk hn HC
 go_wp2_with fail
 refine (HW.out w1 S_w1.out).mono ?_
 rintro e w2 ⟨A5, c5, rfl, hc5, hl5, hf5, hb⟩
 have HC5 := Lib.hid hc5
 have HQ1 := Lib.hid Q_w1.out.lt
 have HF5 := Lib.hid hf5
 have HO2 : Hid (S2.Off (w.heap.size + 1 + 1) A5 D) := Lib.hid ((HO.out _ (by omega)).fr hf5 (by have := HQ1.out; omega))
 have HO3 : Hid (S2.Off (w.heap.size + 1 + 1 + 1) A5 D) := Lib.hid ((HO.out _ (by omega)).fr hf5 (by have := HQ1.out; omega))
 have HBS := Lib.hid B_w1.out.size
 have K_w2 := Lib.hid (K_w1.out.step hb)
 have R_w2 := Lib.hid (R_w1.out.step hb)
 have Q_w2 := Lib.hid (Q_w1.out.step hb)
 have B_w2 := Lib.hid (stepB B_w1.out hb)
 have L_w2 : Hid (S2.IL w2 w2.heap.size A5 D) := Lib.hid hl5
 clear hb d0 d1 dt hc5 hl5 hf5 T_w1 K_w1 R_w1 Q_w1 B_w1 S_w1 q1 q2 q3 HW HO
 go_upto_region 6 with first
  | (refine S2.wpList_store_all (by rfl) 55 (.tmp 7) (.tmp 31) rfl rfl (w2.heap.size) rfl [.slice A5 D.length c5, .int .i64 0] rfl 55 [.slice none 0 0, .int .i64 0] (BK.new w2 _ _) S2.infoP2 rfl (onesB rfl) ?_; intro w3 hM hP; have hb := hP.below (S2.below_new w2 _) (Nat.le_refl _); have V_w3 : Hid (BK 55 w3 w2.heap.size [.slice A5 D.length c5, .int .i64 0]) := Lib.hid hM; have K_w3 := Lib.hid (K_w2.out.step hb); have R_w3 := Lib.hid (R_w2.out.step hb); have Q_w3 := Lib.hid (Q_w2.out.step hb); have B_w3 := Lib.hid (stepB B_w2.out hb); have L_w3 : Hid (S2.IL w3 w3.heap.size A5 D) := Lib.hid (CL.step L_w2.out hb); clear hM hP hb)
 have HGV : Hid (w.heap.size + 1 + 1 + 1 < w2.heap.size) := Lib.hid Q_w2.out.lt
 clear K_w2 R_w2 Q_w2 L_w2 B_w2
 generalize w2.heap.size = gv at V_w3 HGV ⊢
 obtain ⟨x1, hx1⟩ : ∃ x1, x1 = World.drew w3 := ⟨_, rfl⟩
 have hbD : Below w3.heap.size w3 x1 := by rw [hx1]; exact (Below.refl _ _).drew
 have K_x1 : Hid (BK 33 x1 (w.heap.size + 1) (pkC p a)) := Lib.hid (K_w3.out.step hbD)
 have R_x1 : Hid (BK 24 x1 (w.heap.size + 1 + 1) [.slice none 0 0]) := Lib.hid (R_w3.out.step hbD)
 have Q_x1 : Hid (BK 33 x1 (w.heap.size + 1 + 1 + 1) (pkC Pkt.zero PA.zero)) := Lib.hid (Q_w3.out.step hbD)
 have V_x1 : Hid (BK 55 x1 gv [.slice A5 D.length c5, .int .i64 0]) := Lib.hid (V_w3.out.step hbD)
 have B_x1 : Hid (Below w.heap.size w x1) := Lib.hid (stepB B_w3.out hbD)
 have L_x1 : Hid (S2.IL x1 x1.heap.size A5 D) := Lib.hid (CL.step L_w3.out hbD)
 clear K_w3 R_w3 Q_w3 V_w3 B_w3 L_w3
 have hbd : (fun w' => BK 33 w' (w.heap.size + 1) (pkC p a) ∧ BK 55 w' gv [.slice A5 D.length c5, .int .i64 0]) (World.drew w3) := by rw [← hx1]; exact ⟨K_x1.out, V_x1.out⟩
 have hSD : (fun w' => BK 33 w' (w.heap.size + 1) (pkC p a) ∧ BK 55 w' gv [.slice A5 D.length c5, .int .i64 0]) x1 := ⟨K_x1.out, V_x1.out⟩
 have HWD := Lib.hid hx1
 clear hx1 hbD
 refine wp_region_held_drew (S := fun w' => BK 33 w' (w.heap.size + 1) (pkC p a) ∧ BK 55 w' gv [.slice A5 D.length c5, .int .i64 0]) (by kernel_rfl) hbd (fun hHeld => ?_)
 rw [← HWD.out]
 clear hHeld
 have hHeld := hSD
 clear hSD hbd HWD
 refine tkA (i := 0) (v := .pointer (some ⟨gv, 0, none⟩)) (y := Or.inl ⟨by rfl, fun wS hSw => by (try dsimp only at hSw); go_simp⟩) (s := hHeld) (h := ?_)
 refine tkA (i := 1) (v := .slice A5 D.length c5) (y := Or.inl ⟨by rfl, fun wS hSw => by (try dsimp only at hSw); have cS : wS.cell? ⟨gv, 0, none⟩ = some (.slice A5 D.length c5) := hSw.2.cell 0 rfl; clear hSw; go_simp⟩) (s := hHeld) (h := ?_)
 refine tkA (i := 2) (v := .agg #[.slice A5 D.length c5]) (y := Or.inl ⟨by rfl, fun wS hSw => by (try dsimp only at hSw); go_simp⟩) (s := hHeld) (h := ?_)
 refine tkA (i := 3) (v := .pointer (some ⟨w.heap.size + 1, 1, none⟩)) (y := Or.inl ⟨by rfl, fun wS hSw => by (try dsimp only at hSw); go_simp⟩) (s := hHeld) (h := ?_)
 refine tkA (i := 4) (v := .int .i64 p.id) (y := Or.inl ⟨by rfl, fun wS hSw => by (try dsimp only at hSw); have cS : wS.cell? ⟨w.heap.size + 1, 1, none⟩ = some (.int .i64 p.id) := hSw.1.cell 1 (pkc1 p a); clear hSw; go_simp⟩) (s := hHeld) (h := ?_)
 refine tkA (i := 5) (v := .agg (pkC (plainP 7 p.id) PA.zero).toArray) (y := Or.inl ⟨by rfl, fun wS hSw => by (try dsimp only at hSw); simp only [pkC, plainP, Pkt.zero, PA.zero, Msg.zero, List.length_nil]; go_simp⟩) (s := hHeld) (h := ?_)
 refine wpAnyH_ready (rs := [6]) (by kernel_rfl) (by simp) ?_
 refine (AllReadyH.cons (get_ops _ _ _ rfl) (fun K hK => ?_) AllReadyH.nil)
 refine S2.wp_store_all 24 _ _ rfl rfl (w.heap.size + 1 + 1) (by go_simp) [.slice A5 D.length c5] (by first | rfl | go_simp) 24 [.slice none 0 0] R_x1.out S2.boxSize rfl (onesB rfl) ?_
 intro x2 hM hP
 have R_x2 : Hid (BK 24 x2 (w.heap.size + 1 + 1) [.slice A5 D.length c5]) := Lib.hid (hM)
 have K_x2 : Hid (BK 33 x2 (w.heap.size + 1) (pkC p a)) := Lib.hid (hP.other K_x1.out (by omega))
 have Q_x2 : Hid (BK 33 x2 (w.heap.size + 1 + 1 + 1) (pkC Pkt.zero PA.zero)) := Lib.hid (hP.other Q_x1.out (by omega))
 have V_x2 : Hid (BK 55 x2 gv [.slice A5 D.length c5, .int .i64 0]) := Lib.hid (hP.other V_x1.out (by have := HGV.out; omega))
 have B_x2 : Hid (Below w.heap.size w x2) := Lib.hid (hP.below B_x1.out (by omega))
 have L_x2 : Hid (S2.IL x2 x2.heap.size A5 D) := Lib.hid (S2.IL.put L_x1.out hP HO2.out)
 clear K_x1 R_x1 Q_x1 V_x1 B_x1 L_x1
 clear hM hP hHeld
 refine hK.out _ _ ⟨K_x2.out, V_x2.out⟩ (fun hHeld => ?_)
 clear hK K
 try simp only [Act.put, List.setIfInBounds_toArray, List.set_cons_zero, List.set_cons_succ]
 refine wpAnyH_ready (rs := [7]) (by kernel_rfl) (by simp) ?_
 refine (AllReadyH.cons (get_ops _ _ _ rfl) (fun K hK => ?_) AllReadyH.nil)
 refine S2.wp_store_all 33 _ _ rfl rfl (w.heap.size + 1 + 1 + 1) (by go_simp) (pkC (plainP 7 p.id) PA.zero) (by first | rfl | go_simp) 33 (pkC Pkt.zero PA.zero) Q_x2.out info33 rfl (onesB rfl) ?_
 intro x3 hM hP
 have Q_x3 : Hid (BK 33 x3 (w.heap.size + 1 + 1 + 1) (pkC (plainP 7 p.id) PA.zero)) := Lib.hid (hM)
 have K_x3 : Hid (BK 33 x3 (w.heap.size + 1) (pkC p a)) := Lib.hid (hP.other K_x2.out (by omega))
 have R_x3 : Hid (BK 24 x3 (w.heap.size + 1 + 1) [.slice A5 D.length c5]) := Lib.hid (hP.other R_x2.out (by omega))
 have V_x3 : Hid (BK 55 x3 gv [.slice A5 D.length c5, .int .i64 0]) := Lib.hid (hP.other V_x2.out (by have := HGV.out; omega))
 have B_x3 : Hid (Below w.heap.size w x3) := Lib.hid (hP.below B_x2.out (by omega))
 have L_x3 : Hid (S2.IL x3 x3.heap.size A5 D) := Lib.hid (S2.IL.put L_x2.out hP HO3.out)
 clear K_x2 R_x2 Q_x2 V_x2 B_x2 L_x2
 clear hM hP hHeld
 refine hK.out _ _ ⟨K_x3.out, V_x3.out⟩ (fun hHeld => ?_)
 clear hK K
 try simp only [Act.put, List.setIfInBounds_toArray, List.set_cons_zero, List.set_cons_succ]
 refine tkA (i := 8) (v := .int .i64 0) (y := Or.inl ⟨by rfl, fun wS hSw => by (try dsimp only at hSw); go_simp⟩) (s := hHeld) (h := ?_)
 refine wpAnyH_done (by kernel_rfl) ?_ _
 go_wp2_with fail
 rw [← HR.out]
 exact bodyPost_ret (v := .tuple #[S2.xv A5 c5 D, pkV (plainP 7 p.id) PA.zero, .int .i64 0]) (nres221 rfl _ _ (w.heap.size + 1 + 1) (w.heap.size + 1 + 1 + 1) 24 33 [.slice A5 D.length c5] (pkC (plainP 7 p.id) PA.zero) _ _ _ rfl rfl rfl R_x3.out Q_x3.out Tryz.underlying24 rfl S2.boxSize Tryz.underlying33 rfl info33) rfl ⟨A5, c5, rfl, HC5.out, L_x3.out, fr_more HF5.out (by have := HBS.out; omega), B_x3.out⟩
end Go.Proofs.YtomlideijhejfaaGreatDoor
namespace Go.Proofs.YtomlideijhejfaaGreatDoor
open Go.RowKit
open S2 (BK Put)

def exQ : Pkt := { Pkt.zero with kind := 3, id := 7, msg := { Msg.zero with topic := ⟨#[116]⟩, level := 2 } }
theorem exq0 : checkP exQ = 0 := by
 unfold checkP
 rw [if_neg (by show ¬ ((3 : Int) < 1 ∨ (14 : Int) < 3); omega), if_neg (by rw [Decidable.not_not]; rfl)]
 unfold bodyR
 rw [if_neg (by show ¬ ((3 : Int) = 1); omega), if_neg (by show ¬ ((3 : Int) = 2); omega), if_pos (by rfl)]
 unfold pubR
 have h : checkR exQ.msg = 0 := by
  show checkR { Msg.zero with topic := ⟨#[116]⟩, level := 2 } = 0
  decide +kernel
 rw [if_neg (by simp [h]), if_pos (by show (0 : Int) < 2; omega)]
 rfl
theorem exq1 : naccR [] exQ = ([7], true, [plainP 5 7], 0) := by
 unfold naccR
 rw [if_neg (by show ¬ ((3 : Int) ≠ 3); omega), exq0]
 rfl
theorem exq2 : naccR [7] exQ = ([7], false, [plainP 5 7], 0) := by
 unfold naccR
 rw [if_neg (by show ¬ ((3 : Int) ≠ 3); omega), exq0]
 rfl
theorem exq3 : nrelR [7] 6 7 = ([], plainP 7 7, 0) := by kernel_rfl
theorem pin0 (w : World) {p : Pkt} (h1 : p.msg.props = []) (h2 : p.wmsg.props = []) (h3 : p.subs = []) (h4 : p.filters = []) (h5 : p.codes = []) : PIn w p PA.zero :=
 ⟨by rw [h1]; exact GL.nil _ _ _, by rw [h2]; exact GL.nil _ _ _, by rw [h3]; exact GL.nil _ _ _, by rw [h4]; exact CL.nil _ _ _, by rw [h5]; exact CL.nil _ _ _⟩
theorem psz0 {p : Pkt} (h1 : p.msg.props = []) (h2 : p.wmsg.props = []) (h3 : p.subs = []) (h4 : p.filters = []) (h5 : p.codes = []) : PSz p :=
 ⟨by rw [h1]; decide, by rw [h2]; decide, by rw [h3]; decide, by rw [h4]; decide, by rw [h5]; decide⟩
theorem ptx0 {p : Pkt} (h3 : p.subs = []) (h4 : p.filters = []) : PTx p := ⟨by rw [h3]; simp, by rw [h4]; simp⟩
theorem zpnew (w : World) : BK 33 ((w.alloc (.cells #[.slice none 0 0] 24)).alloc (.cells (pkC Pkt.zero PA.zero).toArray 33)) (w.heap.size + 1) (pkC Pkt.zero PA.zero) := by
 have h := BK.new (w.alloc (.cells #[.slice none 0 0] 24)) 33 (pkC Pkt.zero PA.zero)
 rw [show (w.alloc (.cells #[.slice none 0 0] 24)).heap.size = w.heap.size + 1 by simp] at h
 exact h

set_option maxRecDepth 20000 in
set_option maxHeartbeats 8000000 in
theorem awake15_any (w : World) (hok : S1.Okw w) : Calls Tryz.prog 8 #[] w fun e w' => e = .returned (.bool true) ∧ Below w.heap.size w w' := by
 have H1 : Hid (∀ w1, S1.Okw w1 → Calls Tryz.prog 9 #[S2.xv none 0 [], pkV exQ PA.zero] w1 (RetNa ([7], true, [plainP 5 7], 0) w1)) := Lib.hid (fun w1 h => by
  have := nAccept_any none 0 [] exQ PA.zero w1 h (CL.nil _ _ _) (by decide) (pin0 w1 rfl rfl rfl rfl rfl) (psz0 rfl rfl rfl rfl rfl) (ptx0 rfl rfl)
  rw [exq1] at this; exact this)
 have H2 : Hid (∀ A c w1, S1.Okw w1 → S2.IL w1 w1.heap.size A [7] → Calls Tryz.prog 9 #[S2.xv A c [7], pkV exQ PA.zero] w1 (RetNa ([7], false, [plainP 5 7], 0) w1)) := Lib.hid (fun A c w1 h hl => by
  have := nAccept_any A c [7] exQ PA.zero w1 h hl (by decide) (pin0 w1 rfl rfl rfl rfl rfl) (psz0 rfl rfl rfl rfl rfl) (ptx0 rfl rfl)
  rw [exq2] at this; exact this)
 have H3 : Hid (∀ A c w1, S2.IL w1 w1.heap.size A [7] → Calls Tryz.prog 16 #[S2.xv A c [7], pkV (plainP 6 7) PA.zero] w1 (RetNr ([], plainP 7 7, 0) w1)) := Lib.hid (fun A c w1 hl => by
  have := nRelease_any A c [7] (plainP 6 7) PA.zero w1 hl (by decide) (by decide)
  rw [show nrelR [7] (plainP 6 7).kind (plainP 6 7).id = ([], plainP 7 7, 0) from exq3] at this; exact this)
 have H4 : Hid (∀ A c w1, S2.IL w1 w1.heap.size A [7] → Calls Tryz.prog 19 #[S2.xv A c [7], .int .i64 7] w1 fun e w' => e = .returned (.bool true) ∧ Below w1.heap.size w1 w') := Lib.hid (fun A c w1 hl => S2.nHas_any A c [7] 7 w1 hl (by decide))
 have H5 : Hid (∀ A c w1, S2.IL w1 w1.heap.size A [] → Calls Tryz.prog 19 #[S2.xv A c [], .int .i64 7] w1 fun e w' => e = .returned (.bool false) ∧ Below w1.heap.size w1 w') := Lib.hid (fun A c w1 hl => S2.nHas_any A c [] 7 w1 hl (by decide))
 have H6 : Hid (∀ w1 : World, Calls Tryz.prog 14 #[.agg #[.slice (some ⟨w1.heap.size, 0, none⟩) 2 2]] (w1.alloc (.cells #[.int .i64 2, .int .i64 1] 3)) fun e w' => e = .returned (.int .i64 15) ∧ Below w1.heap.size w1 w') := Lib.hid (fun w1 => (S2.nCheck_any (some ⟨w1.heap.size, 0, none⟩) 2 [2, 1] (w1.alloc (.cells #[.int .i64 2, .int .i64 1] 3)) (CL.new (f := S2.iv) (xs := [2, 1])) (by decide)).mono fun e w' h => ⟨h.1, stepB (S2.below_new w1 _) h.2⟩)
 have HOK := Lib.hid hok
 clear hok
 unfold pkV at H1 H2 H3
 go_enter Tryz.func8, Tryz.ntmps8
 have B_w : Hid (Below w.heap.size w w) := Lib.hid (Below.refl _ _)
 go_wp2_with first
  | (refine S2.wpList_store_all (by rfl) 33 (.tmp 1) (.tmp 14) rfl rfl (w.heap.size) rfl (pkC exQ PA.zero) rfl 33 (pkC Pkt.zero PA.zero) (znew w) info33 rfl (onesB rfl) ?_; intro y1 hM hP; have hb : Below w.heap.size w y1 := hP.below (S2.below_new w _) (Nat.le_refl _); have B_y1 : Hid (Below w.heap.size w y1) := Lib.hid (stepB B_w.out hb); have P_y1 : Hid (BK 33 y1 (w.heap.size) (pkC exQ PA.zero)) := Lib.hid hM; clear hM hP hb B_w)
  | (refine wpList_load_v (by rfl) 33 (.tmp 1) rfl ⟨w.heap.size, 0, none⟩ rfl (.agg (pkC exQ PA.zero).toArray) (S2.run_load_all P_y1.out Tryz.underlying33 rfl info33) ?_)
 refine (H1.out y1 (HOK.out.step B_y1.out)).mono ?_
 rintro e y2 ⟨A1, c1, D1, e1, rfl, _, hl, _, hk, _, hb⟩
 have B_y2 : Hid (Below w.heap.size w y2) := Lib.hid (stepB B_y1.out hb)
 have P_y2 : Hid (BK 33 y2 (w.heap.size) (pkC exQ PA.zero)) := Lib.hid (P_y1.out.step hb)
 clear B_y1 P_y1
 have L1_y2 : Hid (S2.IL y2 y2.heap.size A1 [7]) := Lib.hid (hl)
 have N1_y2 : Hid (NK y2 D1 [plainP 5 7]) := Lib.hid (hk)
 clear hb
 clear hl hk H1
 go_wp2_with first
  | (refine S2.wpList_store_all (by rfl) 24 (.tmp 2) (.tmp 19) rfl rfl (y2.heap.size) rfl [.slice A1 1 c1] rfl 24 [.slice none 0 0] (BK.new y2 _ _) S2.boxSize rfl (onesB rfl) ?_; intro y3 hM hP; have hb : Below y2.heap.size y2 y3 := hP.below (S2.below_new y2 _) (Nat.le_refl _); have B_y3 : Hid (Below w.heap.size w y3) := Lib.hid (stepB B_y2.out hb); have P_y3 : Hid (BK 33 y3 (w.heap.size) (pkC exQ PA.zero)) := Lib.hid (P_y2.out.step hb); have L1_y3 : Hid (S2.IL y3 y3.heap.size A1 [7]) := Lib.hid (CL.step L1_y2.out hb); have N1_y3 : Hid (NK y3 D1 [plainP 5 7]) := Lib.hid (N1_y2.out.step hb); have I_y3 : Hid (BK 24 y3 (y2.heap.size) [.slice A1 1 c1]) := Lib.hid hM; clear hM hP hb B_y2 P_y2 L1_y2 N1_y2)
  | (refine wpList_load_v (by rfl) 24 (.tmp 2) rfl ⟨y2.heap.size, 0, none⟩ rfl (S2.xv A1 c1 [7]) (S2.run_load_all I_y3.out Tryz.underlying24 rfl S2.boxSize) ?_)
  | (refine wpList_load_v (by rfl) 33 (.tmp 1) rfl ⟨w.heap.size, 0, none⟩ rfl (.agg (pkC exQ PA.zero).toArray) (S2.run_load_all P_y3.out Tryz.underlying33 rfl info33) ?_)
 refine (H2.out A1 c1 y3 (HOK.out.step B_y3.out) L1_y3.out).mono ?_
 rintro e y4 ⟨A2, c2, D2, e2, rfl, _, hl, _, hk, _, hb⟩
 have B_y4 : Hid (Below w.heap.size w y4) := Lib.hid (stepB B_y3.out hb)
 have P_y4 : Hid (BK 33 y4 (w.heap.size) (pkC exQ PA.zero)) := Lib.hid (P_y3.out.step hb)
 have L1_y4 : Hid (S2.IL y4 y4.heap.size A1 [7]) := Lib.hid (CL.step L1_y3.out hb)
 have N1_y4 : Hid (NK y4 D1 [plainP 5 7]) := Lib.hid (N1_y3.out.step hb)
 have I_y4 : Hid (BK 24 y4 (y2.heap.size) [.slice A1 1 c1]) := Lib.hid (I_y3.out.step hb)
 clear B_y3 P_y3 L1_y3 N1_y3 I_y3
 have L2_y4 : Hid (S2.IL y4 y4.heap.size A2 [7]) := Lib.hid (hl)
 have N2_y4 : Hid (NK y4 D2 [plainP 5 7]) := Lib.hid (hk)
 clear hb
 clear hl hk H2
 go_wp2_with first
  | (refine S2.wpList_store_all (by rfl) 24 (.tmp 6) (.tmp 27) rfl rfl (y4.heap.size) rfl [.slice A2 1 c2] rfl 24 [.slice none 0 0] (BK.new y4 _ _) S2.boxSize rfl (onesB rfl) ?_; intro y5 hM hP; have hb : Below y4.heap.size y4 y5 := hP.below (S2.below_new y4 _) (Nat.le_refl _); have B_y5 : Hid (Below w.heap.size w y5) := Lib.hid (stepB B_y4.out hb); have P_y5 : Hid (BK 33 y5 (w.heap.size) (pkC exQ PA.zero)) := Lib.hid (P_y4.out.step hb); have L1_y5 : Hid (S2.IL y5 y5.heap.size A1 [7]) := Lib.hid (CL.step L1_y4.out hb); have N1_y5 : Hid (NK y5 D1 [plainP 5 7]) := Lib.hid (N1_y4.out.step hb); have I_y5 : Hid (BK 24 y5 (y2.heap.size) [.slice A1 1 c1]) := Lib.hid (I_y4.out.step hb); have L2_y5 : Hid (S2.IL y5 y5.heap.size A2 [7]) := Lib.hid (CL.step L2_y4.out hb); have N2_y5 : Hid (NK y5 D2 [plainP 5 7]) := Lib.hid (N2_y4.out.step hb); have J_y5 : Hid (BK 24 y5 (y4.heap.size) [.slice A2 1 c2]) := Lib.hid hM; clear hM hP hb B_y4 P_y4 L1_y4 N1_y4 I_y4 L2_y4 N2_y4)
  | (refine wpList_load_v (by rfl) 24 (.tmp 2) rfl ⟨y2.heap.size, 0, none⟩ rfl (S2.xv A1 c1 [7]) (S2.run_load_all I_y5.out Tryz.underlying24 rfl S2.boxSize) ?_)
 refine (H3.out A1 c1 y5 L1_y5.out).mono ?_
 rintro e y6 ⟨A3, c3, rfl, _, hl, _, hb⟩
 have B_y6 : Hid (Below w.heap.size w y6) := Lib.hid (stepB B_y5.out hb)
 have P_y6 : Hid (BK 33 y6 (w.heap.size) (pkC exQ PA.zero)) := Lib.hid (P_y5.out.step hb)
 have L1_y6 : Hid (S2.IL y6 y6.heap.size A1 [7]) := Lib.hid (CL.step L1_y5.out hb)
 have N1_y6 : Hid (NK y6 D1 [plainP 5 7]) := Lib.hid (N1_y5.out.step hb)
 have I_y6 : Hid (BK 24 y6 (y2.heap.size) [.slice A1 1 c1]) := Lib.hid (I_y5.out.step hb)
 have L2_y6 : Hid (S2.IL y6 y6.heap.size A2 [7]) := Lib.hid (CL.step L2_y5.out hb)
 have N2_y6 : Hid (NK y6 D2 [plainP 5 7]) := Lib.hid (N2_y5.out.step hb)
 have J_y6 : Hid (BK 24 y6 (y4.heap.size) [.slice A2 1 c2]) := Lib.hid (J_y5.out.step hb)
 clear B_y5 P_y5 L1_y5 N1_y5 I_y5 L2_y5 N2_y5 J_y5
 have L3_y6 : Hid (S2.IL y6 y6.heap.size A3 []) := Lib.hid (hl)
 clear hb
 clear hl H3
 obtain ⟨gl, hgl, hkl⟩ := N1_y6.out.2 _ (List.mem_singleton.2 rfl)
 subst hgl
 clear hkl
 have ZQP : Hid (w.heap.size < y6.heap.size) := Lib.hid P_y6.out.lt
 have ZQI : Hid (y2.heap.size < y6.heap.size) := Lib.hid I_y6.out.lt
 have ZQJ : Hid (y4.heap.size < y6.heap.size) := Lib.hid J_y6.out.lt
 have ZQB : Hid (w.heap.size ≤ y6.heap.size) := Lib.hid B_y6.out.size
 have ZQL1 : Hid (∀ b o, A1 = some ⟨b, o, none⟩ → 0 < ([7] : List Int).length → b < y6.heap.size) := Lib.hid (fun b o e hn => S2.IL.lt L1_y6.out b o e hn)
 have ZQL2 : Hid (∀ b o, A2 = some ⟨b, o, none⟩ → 0 < ([7] : List Int).length → b < y6.heap.size) := Lib.hid (fun b o e hn => S2.IL.lt L2_y6.out b o e hn)
 have ZQL3 : Hid (∀ b o, A3 = some ⟨b, o, none⟩ → 0 < ([] : List Int).length → b < y6.heap.size) := Lib.hid (fun b o e hn => S2.IL.lt L3_y6.out b o e hn)
 have ZQN1 : Hid (∀ b o, (some ⟨gl, 0, none⟩ : Option Addr) = some ⟨b, o, none⟩ → b < y6.heap.size) := Lib.hid (fun b o e => by obtain ⟨g, e2, hg⟩ := N1_y6.out.2 _ (List.mem_singleton.2 rfl); have e3 := e.symm.trans e2; simp only [Option.some.injEq, Addr.mk.injEq, and_true] at e3; have := hg.lt; omega)
 have ZQN2 : Hid (∀ b o, D2 = some ⟨b, o, none⟩ → b < y6.heap.size) := Lib.hid (fun b o e => by obtain ⟨g, e2, hg⟩ := N2_y6.out.2 _ (List.mem_singleton.2 rfl); have e3 := e.symm.trans e2; simp only [Option.some.injEq, Addr.mk.injEq, and_true] at e3; have := hg.lt; omega)
 go_wp2_with first
  | (refine S2.wpList_store_all (by rfl) 24 (.tmp 10) (.tmp 35) rfl rfl (y6.heap.size) rfl [.slice A3 0 c3] rfl 24 [.slice none 0 0] (BK.alloc (BK.new y6 _ _) _) S2.boxSize rfl (onesB rfl) ?_; intro y7 hM hP; have hb : Below y6.heap.size y6 y7 := hP.below (stepB (S2.below_new y6 _) (S2.below_new _ _)) (Nat.le_refl _); have B_y7 : Hid (Below w.heap.size w y7) := Lib.hid (stepB B_y6.out hb); have P_y7 : Hid (BK 33 y7 (w.heap.size) (pkC exQ PA.zero)) := Lib.hid (P_y6.out.step hb); have L1_y7 : Hid (S2.IL y7 y7.heap.size A1 [7]) := Lib.hid (CL.step L1_y6.out hb); have N1_y7 : Hid (NK y7 (some ⟨gl, 0, none⟩) [plainP 5 7]) := Lib.hid (N1_y6.out.step hb); have I_y7 : Hid (BK 24 y7 (y2.heap.size) [.slice A1 1 c1]) := Lib.hid (I_y6.out.step hb); have L2_y7 : Hid (S2.IL y7 y7.heap.size A2 [7]) := Lib.hid (CL.step L2_y6.out hb); have N2_y7 : Hid (NK y7 D2 [plainP 5 7]) := Lib.hid (N2_y6.out.step hb); have J_y7 : Hid (BK 24 y7 (y4.heap.size) [.slice A2 1 c2]) := Lib.hid (J_y6.out.step hb); have L3_y7 : Hid (S2.IL y7 y7.heap.size A3 []) := Lib.hid (CL.step L3_y6.out hb); have U_y7 : Hid (BK 24 y7 (y6.heap.size) [.slice A3 0 c3]) := Lib.hid hM; have Q_y7 : Hid (BK 33 y7 (y6.heap.size + 1) (pkC Pkt.zero PA.zero)) := Lib.hid (hP.other (zpnew y6) (by omega)); clear hM hP hb B_y6 P_y6 L1_y6 N1_y6 I_y6 L2_y6 N2_y6 J_y6 L3_y6)
  | (refine S2.wpList_store_all (by rfl) 33 (.tmp 11) (.tmp 36) rfl rfl ((y6.heap.size + 1)) rfl (pkC (plainP 7 7) PA.zero) rfl 33 (pkC Pkt.zero PA.zero) Q_y7.out info33 rfl (onesB rfl) ?_; intro y8 hM hP; have Q_y8 : Hid (BK 33 y8 ((y6.heap.size + 1)) (pkC (plainP 7 7) PA.zero)) := Lib.hid hM; have B_y8 : Hid (Below w.heap.size w y8) := Lib.hid (hP.below B_y7.out (by have := ZQB.out; omega)); have P_y8 : Hid (BK 33 y8 (w.heap.size) (pkC exQ PA.zero)) := Lib.hid (hP.other P_y7.out (by have := ZQP.out; omega)); have L1_y8 : Hid (S2.IL y8 y8.heap.size A1 [7]) := Lib.hid (S2.IL.put L1_y7.out hP (fun b o e hn => by have := ZQL1.out b o e hn; omega)); have N1_y8 : Hid (NK y8 (some ⟨gl, 0, none⟩) [plainP 5 7]) := Lib.hid (NK.put N1_y7.out hP (fun b o e => by have := ZQN1.out b o e; omega)); have I_y8 : Hid (BK 24 y8 (y2.heap.size) [.slice A1 1 c1]) := Lib.hid (hP.other I_y7.out (by have := ZQI.out; omega)); have L2_y8 : Hid (S2.IL y8 y8.heap.size A2 [7]) := Lib.hid (S2.IL.put L2_y7.out hP (fun b o e hn => by have := ZQL2.out b o e hn; omega)); have N2_y8 : Hid (NK y8 D2 [plainP 5 7]) := Lib.hid (NK.put N2_y7.out hP (fun b o e => by have := ZQN2.out b o e; omega)); have J_y8 : Hid (BK 24 y8 (y4.heap.size) [.slice A2 1 c2]) := Lib.hid (hP.other J_y7.out (by have := ZQJ.out; omega)); have L3_y8 : Hid (S2.IL y8 y8.heap.size A3 []) := Lib.hid (S2.IL.put L3_y7.out hP (fun b o e hn => by have := ZQL3.out b o e hn; omega)); have U_y8 : Hid (BK 24 y8 (y6.heap.size) [.slice A3 0 c3]) := Lib.hid (hP.other U_y7.out (by omega)); clear hM hP B_y7 P_y7 L1_y7 N1_y7 I_y7 L2_y7 N2_y7 J_y7 L3_y7 U_y7 Q_y7; have l0 : y8.cell? ⟨gl, 0, none⟩ = some (.int .i64 5) := (by obtain ⟨g, e2, hg⟩ := N1_y8.out.2 _ (List.mem_singleton.2 rfl); simp only [Option.some.injEq, Addr.mk.injEq, and_true] at e2; subst e2; exact hg.cell 0 (pkc0 _ _)); have l1 : y8.cell? ⟨gl, 1, none⟩ = some (.int .i64 7) := (by obtain ⟨g, e2, hg⟩ := N1_y8.out.2 _ (List.mem_singleton.2 rfl); simp only [Option.some.injEq, Addr.mk.injEq, and_true] at e2; subst e2; exact hg.cell 1 (pkc1 _ _)))
  | (refine wpList_load_v (by rfl) 24 (.tmp 2) rfl ⟨y2.heap.size, 0, none⟩ rfl (S2.xv A1 c1 [7]) (S2.run_load_all I_y8.out Tryz.underlying24 rfl S2.boxSize) ?_)
 refine (H4.out A1 c1 y8 L1_y8.out).mono ?_
 rintro e y9 ⟨rfl, hb⟩
 clear l0 l1
 have B_y9 : Hid (Below w.heap.size w y9) := Lib.hid (stepB B_y8.out hb)
 have P_y9 : Hid (BK 33 y9 (w.heap.size) (pkC exQ PA.zero)) := Lib.hid (P_y8.out.step hb)
 have L1_y9 : Hid (S2.IL y9 y9.heap.size A1 [7]) := Lib.hid (CL.step L1_y8.out hb)
 have N1_y9 : Hid (NK y9 (some ⟨gl, 0, none⟩) [plainP 5 7]) := Lib.hid (N1_y8.out.step hb)
 have I_y9 : Hid (BK 24 y9 (y2.heap.size) [.slice A1 1 c1]) := Lib.hid (I_y8.out.step hb)
 have L2_y9 : Hid (S2.IL y9 y9.heap.size A2 [7]) := Lib.hid (CL.step L2_y8.out hb)
 have N2_y9 : Hid (NK y9 D2 [plainP 5 7]) := Lib.hid (N2_y8.out.step hb)
 have J_y9 : Hid (BK 24 y9 (y4.heap.size) [.slice A2 1 c2]) := Lib.hid (J_y8.out.step hb)
 have L3_y9 : Hid (S2.IL y9 y9.heap.size A3 []) := Lib.hid (CL.step L3_y8.out hb)
 have U_y9 : Hid (BK 24 y9 (y6.heap.size) [.slice A3 0 c3]) := Lib.hid (U_y8.out.step hb)
 have Q_y9 : Hid (BK 33 y9 ((y6.heap.size + 1)) (pkC (plainP 7 7) PA.zero)) := Lib.hid (Q_y8.out.step hb)
 clear B_y8 P_y8 L1_y8 N1_y8 I_y8 L2_y8 N2_y8 J_y8 L3_y8 U_y8 Q_y8
 clear hb
 clear H4
 go_wp2_with first
  | (refine wpList_load_v (by rfl) 24 (.tmp 10) rfl ⟨y6.heap.size, 0, none⟩ rfl (S2.xv A3 c3 []) (S2.run_load_all U_y9.out Tryz.underlying24 rfl S2.boxSize) ?_)
 refine (H5.out A3 c3 y9 L3_y9.out).mono ?_
 rintro e y10 ⟨rfl, hb⟩
 have B_y10 : Hid (Below w.heap.size w y10) := Lib.hid (stepB B_y9.out hb)
 have P_y10 : Hid (BK 33 y10 (w.heap.size) (pkC exQ PA.zero)) := Lib.hid (P_y9.out.step hb)
 have L1_y10 : Hid (S2.IL y10 y10.heap.size A1 [7]) := Lib.hid (CL.step L1_y9.out hb)
 have N1_y10 : Hid (NK y10 (some ⟨gl, 0, none⟩) [plainP 5 7]) := Lib.hid (N1_y9.out.step hb)
 have I_y10 : Hid (BK 24 y10 (y2.heap.size) [.slice A1 1 c1]) := Lib.hid (I_y9.out.step hb)
 have L2_y10 : Hid (S2.IL y10 y10.heap.size A2 [7]) := Lib.hid (CL.step L2_y9.out hb)
 have N2_y10 : Hid (NK y10 D2 [plainP 5 7]) := Lib.hid (N2_y9.out.step hb)
 have J_y10 : Hid (BK 24 y10 (y4.heap.size) [.slice A2 1 c2]) := Lib.hid (J_y9.out.step hb)
 have L3_y10 : Hid (S2.IL y10 y10.heap.size A3 []) := Lib.hid (CL.step L3_y9.out hb)
 have U_y10 : Hid (BK 24 y10 (y6.heap.size) [.slice A3 0 c3]) := Lib.hid (U_y9.out.step hb)
 have Q_y10 : Hid (BK 33 y10 ((y6.heap.size + 1)) (pkC (plainP 7 7) PA.zero)) := Lib.hid (Q_y9.out.step hb)
 clear B_y9 P_y9 L1_y9 N1_y9 I_y9 L2_y9 N2_y9 J_y9 L3_y9 U_y9 Q_y9
 clear hb
 clear H5
 have u0 : y10.cell? ⟨y6.heap.size + 1, 0, none⟩ = some (.int .i64 7) := Q_y10.out.cell 0 (pkc0 _ _)
 have u1 : y10.cell? ⟨y6.heap.size + 1, 1, none⟩ = some (.int .i64 7) := Q_y10.out.cell 1 (pkc1 _ _)
 go_wp2_with fail
 refine (H6.out y10).mono ?_
 rintro e y11 ⟨rfl, hb⟩
 clear u0 u1
 have B_y11 : Hid (Below w.heap.size w y11) := Lib.hid (stepB B_y10.out hb)
 have P_y11 : Hid (BK 33 y11 (w.heap.size) (pkC exQ PA.zero)) := Lib.hid (P_y10.out.step hb)
 have L1_y11 : Hid (S2.IL y11 y11.heap.size A1 [7]) := Lib.hid (CL.step L1_y10.out hb)
 have N1_y11 : Hid (NK y11 (some ⟨gl, 0, none⟩) [plainP 5 7]) := Lib.hid (N1_y10.out.step hb)
 have I_y11 : Hid (BK 24 y11 (y2.heap.size) [.slice A1 1 c1]) := Lib.hid (I_y10.out.step hb)
 have L2_y11 : Hid (S2.IL y11 y11.heap.size A2 [7]) := Lib.hid (CL.step L2_y10.out hb)
 have N2_y11 : Hid (NK y11 D2 [plainP 5 7]) := Lib.hid (N2_y10.out.step hb)
 have J_y11 : Hid (BK 24 y11 (y4.heap.size) [.slice A2 1 c2]) := Lib.hid (J_y10.out.step hb)
 have L3_y11 : Hid (S2.IL y11 y11.heap.size A3 []) := Lib.hid (CL.step L3_y10.out hb)
 have U_y11 : Hid (BK 24 y11 (y6.heap.size) [.slice A3 0 c3]) := Lib.hid (U_y10.out.step hb)
 have Q_y11 : Hid (BK 33 y11 ((y6.heap.size + 1)) (pkC (plainP 7 7) PA.zero)) := Lib.hid (Q_y10.out.step hb)
 clear B_y10 P_y10 L1_y10 N1_y10 I_y10 L2_y10 N2_y10 J_y10 L3_y10 U_y10 Q_y10
 clear hb
 go_wp2_with fail
 go_ret
 exact ⟨rfl, B_y11.out⟩
end Go.Proofs.YtomlideijhejfaaGreatDoor
