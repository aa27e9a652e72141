/-
  What with of slow answers, and queues as plain data. Conditions: the lists read as data; few messages, with few properties.
-/
import Derived.Test.YtgnbiicfabldbabSa
namespace Go.Proofs.Ytgnbiicfabldbab
open Go.RowKit
open S2 (BK Put)

/-! ### Queues as plain data -/
def pushR (q : List Msg) (m : Msg) (mx pol : Int) : List Msg × List Msg × Bool :=
  if (q.length : Int) < mx then (q ++ [m], [], false) else if pol = 1 ∧ 1 ≤ mx then (q.drop 1 ++ [m], q.take 1, false) else (q, [m], pol == 3)
def freshR (now : Int) (l : List Msg) : List Msg := l.filter (fun m => !expiredR m now)
def goneR (now : Int) (l : List Msg) : List Msg := l.filter (fun m => expiredR m now)
def atR (q : List Msg) (now : Int) : Nat := q.findIdx (fun m => !expiredR m now)
def bytesR (l : List Msg) : Nat := (l.map (fun m => m.payload.size)).sum
/-- two queues and a truth value that a call answers -/
def RetPu (r : List Msg × List Msg × Bool) (W : World) (E : Ending) (w' : World) : Prop := ∃ A1 c1 ys A2 c2 zs, E = .returned (.tuple #[.slice A1 (List.length (α := ME) ys) c1, .slice A2 (List.length (α := ME) zs) c2, .bool r.2.2]) ∧ ys.map ME.m = r.1 ∧ zs.map ME.m = r.2.1 ∧ ys.length ≤ c1 ∧ zs.length ≤ c2 ∧ MI w' w'.heap.size A1 ys ∧ MI w' w'.heap.size A2 zs ∧ Below W.heap.size W w'
def RetEx (r1 r2 : List Msg) (W : World) (E : Ending) (w' : World) : Prop := ∃ A1 c1 ys A2 c2 zs, E = .returned (.tuple #[.slice A1 (List.length (α := ME) ys) c1, .slice A2 (List.length (α := ME) zs) c2]) ∧ ys.map ME.m = r1 ∧ zs.map ME.m = r2 ∧ ys.length ≤ c1 ∧ zs.length ≤ c2 ∧ MI w' w'.heap.size A1 ys ∧ MI w' w'.heap.size A2 zs ∧ Below W.heap.size W w'
/-- a message, whether it is one, and two queues that a call answers -/
def RetPo (q : List Msg) (now : Int) (W : World) (E : Ending) (w' : World) : Prop := ∃ m am cm A1 c1 ys A2 c2 zs b, E = .returned (.tuple #[msgV m am cm, .bool b, .slice A1 (List.length (α := ME) ys) c1, .slice A2 (List.length (α := ME) zs) c2]) ∧
  ((atR q now < q.length ∧ b = true ∧ q[atR q now]? = some m ∧ ys.map ME.m = q.drop (atR q now + 1) ∧ zs.map ME.m = q.take (atR q now)) ∨ (q.length ≤ atR q now ∧ b = false ∧ m = Msg.zero ∧ ys = [] ∧ zs.map ME.m = q)) ∧
  ys.length ≤ c1 ∧ zs.length ≤ c2 ∧ PL w' w'.heap.size am m.props ∧ MI w' w'.heap.size A1 ys ∧ MI w' w'.heap.size A2 zs ∧ Below W.heap.size W w'
theorem lstMI {B : Nat} {w : World} {v : Value} {xs : List ME} (h : LstM B w v xs) : ∃ A c, v = .slice A xs.length c ∧ xs.length ≤ c ∧ MI w w.heap.size A xs := LI.app gM_len h
theorem lst_mem {L : List Msg} {xs : List ME} (h : xs.map ME.m = L) {x : ME} (hx : x ∈ xs) : x.m ∈ L := by rw [← h]; exact List.mem_map_of_mem hx

set_option maxRecDepth 20000 in
set_option maxHeartbeats 4000000 in
theorem sWith_any (A : Option Addr) (c : Nat) (xs : List ME) (m : Msg) (am : Option Addr) (cm : Nat) (w : World) (hsl : MI w w.heap.size A xs) (hm : PL w w.heap.size am m.props) (hc : xs.length ≤ c) (hn : xs.length ≤ 90000) (hp : ∀ x ∈ xs, x.m.props.length ≤ 4398046511104) (hpm : m.props.length ≤ 4398046511104) :
    Calls Try.prog 22 #[.slice A xs.length c, msgV m am cm] w (RetLM (xs.map ME.m ++ [m]) w) := by
  have HC := Lib.hid (fun A c ys w1 h h1 h2 => sClone_any A c ys w1 h h1 h2)
  have HS := Lib.hid hsl
  have HM := Lib.hid hm
  have HP := Lib.hid hp
  have HPM := Lib.hid hpm
  have HN := Lib.hid hn
  have s1 : decide ((xs.length : Int) ≤ (c : Int)) = true := decide_eq_true (by omega)
  clear hsl hm hp hpm
  unfold msgV
  go_enter Try.func22, Try.ntmps22
  go_upto_region 1 with fail
  refine name_world (C := fun w1 => Code.wp _ _ _ _ w1) (w.alloc (.cells (msgC m am cm).toArray 25)) ?_
  intro w1 hw1
  have hb1 : Below w.heap.size w w1 := by rw [hw1]; exact S2.below_new w _
  have V_w1 : Hid (BK 25 w1 w.heap.size (msgC m am cm)) := Lib.hid (by rw [hw1]; exact BK.new w _ _)
  have S_w1 : Hid (MI w1 w1.heap.size A xs) := Lib.hid (HS.out.step hb1)
  have P_w1 : Hid (PL w1 w1.heap.size am m.props) := Lib.hid (HM.out.step hb1)
  have B_w1 := Lib.hid hb1
  clear hw1 hb1 HS HM
  go_wp2_with first
    | (refine wpList_load_v (by rfl) 25 (.tmp 3) rfl ⟨w.heap.size, 0, none⟩ rfl (.agg #[.string m.topic, .string m.payload, .int .i64 m.level, .bool m.retain, .int .i64 m.prio, .int .i64 m.exps, .string m.frm, .int .i64 m.seq, .slice am m.props.length cm]) (S2.run_load_all V_w1.out Try.underlying25 rfl msgSize) ?_)
    | (at_builtin; refine wpList_cut1 gM_len gM_one (by decide) w1 rfl _ _ 22 rfl (.agg (msgC Msg.zero none 0).toArray) 112 Try.underlying22 msgInfo rfl (by decide) A xs (⟨m, am, cm⟩ : ME) (by rfl) S_w1.out.1 (by rfl) (by have := HN.out; omega) ?_; intro v2 w2 hown2 hb2 hs2)
  obtain ⟨A2, c2, hv2, hc2, hgl2⟩ := OwnG.ret gM_len hown2
  subst hv2
  have hb12 := hb2
  have S_w2 : MI w2 w2.heap.size A2 (xs ++ [⟨m, am, cm⟩]) := ⟨hgl2, fun x hx => by
    rcases List.mem_append.1 hx with hx | hx
    · exact (S_w1.out.2 x hx).step hb12
    · simp at hx; subst hx; exact P_w1.out.step hb12⟩
  have CA := Lib.hid (HC.out A2 c2 _ w2 S_w2 (by have := HN.out; simp; omega) (fun x hx => by
    rcases List.mem_append.1 hx with hx | hx
    · exact HP.out x hx
    · simp at hx; subst hx; exact HPM.out))
  have B_w2 := Lib.hid (stepB B_w1.out hb12)
  have eL : (xs ++ [(⟨m, am, cm⟩ : ME)]).map ME.m = xs.map ME.m ++ [m] := by simp
  rw [eL] at CA
  clear hown2 hb2 hgl2 hc2 hb12 S_w2 HC S_w1 P_w1 V_w1 s1 eL
  generalize xs ++ [(⟨m, am, cm⟩ : ME)] = xs2 at CA ⊢
  go_wp2_with fail
  refine CA.out.mono ?_
  rintro e w3 ⟨v3, ys, rfl, hys, hl3, hb3⟩
  have L_w3 := Lib.hid hl3
  have Y_w3 := Lib.hid hys
  have B_w3 := Lib.hid (stepB B_w2.out hb3)
  have Z_w3 : Hid (w.heap.size ≤ w2.heap.size) := Lib.hid B_w2.out.size
  clear hl3 hys hb3 CA B_w1 B_w2
  go_wp2
  go_ret
  exact ⟨v3, ys, rfl, Y_w3.out, ⟨OwnG.weak L_w3.out.1 Z_w3.out, fun x hx => ⟨(L_w3.out.2 x hx).1, (L_w3.out.2 x hx).2.1, fun b o e => by have := (L_w3.out.2 x hx).2.2 b o e; have := Z_w3.out; omega⟩⟩, B_w3.out⟩

end Go.Proofs.Ytgnbiicfabldbab
