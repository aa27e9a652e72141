/-
  Windows of messages in flight as plain data and in memory: items of eleven cells, lists of them, what loads and stores of them do. No function of the program is walked here.
-/
import Derived.Test.YtjpikgphfhjilaaGreatDoorMbx2
import Derived.Test.YtjpikgphfhjilaaGreatDoorIdI
namespace Go.Proofs.YtjpikgphfhjilaaGreatDoor
open Go.RowKit
open S2 (BK Put)

theorem BK.mt {T : TypeId} {w : World} {M : Nat} {vs : List Value} (h : BK T w M vs) : MT T w M vs := h
theorem ones {vs : List Value} (h : vs.all (fun v => v.oneCell') = true) : ∀ u ∈ vs, u.oneCell' = true := fun u hu => List.all_eq_true.1 h u hu

structure Fl where
  id : Int
  st : Int
  m : Msg
instance : DecidableEq Fl := fun a b => by
  cases a; cases b
  simp only [Fl.mk.injEq]
  exact inferInstance
/-- an item and where its properties lie -/
structure FE where
  f : Fl
  a : Option Addr
  c : Nat
def gF (x : FE) : List Value := [.int .i64 x.f.id, .int .i64 x.f.st, .string x.f.m.topic, .string x.f.m.payload, .int .i64 x.f.m.level, .bool x.f.m.retain, .int .i64 x.f.m.prio, .int .i64 x.f.m.exps, .string x.f.m.frm, .int .i64 x.f.m.seq, .slice x.a x.f.m.props.length x.c]
def fV (x : FE) : Value := .agg (gF x).toArray
theorem gF_len (x : FE) : (gF x).length = 11 := rfl
theorem gF_one (x : FE) : ∀ u ∈ gF x, u.oneCell' = true := ones rfl
theorem gF_msg (x : FE) : ((gF x).drop 2).take 9 = msgC x.f.m x.a x.c := rfl
theorem msgV_cells (m : Msg) (A : Option Addr) (c : Nat) : msgV m A c = .agg (msgC m A c).toArray := rfl
theorem msgC_len (m : Msg) (A : Option Addr) (c : Nat) : (msgC m A c).length = 9 := rfl
theorem msgC_one (m : Msg) (A : Option Addr) (c : Nat) : ∀ u ∈ msgC m A c, u.oneCell' = true := ones rfl
def Fl.zero : Fl := ⟨0, 0, Msg.zero⟩
def FE.zero : FE := ⟨Fl.zero, none, 0⟩

theorem flInfo : (Tryz.prog.info? 60).map (fun i => (i.zero, i.size, i.bytes)) = some (some (.agg #[.int .i64 0, .int .i64 0, .string ByteArray.empty, .string ByteArray.empty, .int .i64 0, .bool false, .int .i64 0, .int .i64 0, .string ByteArray.empty, .int .i64 0, .slice none 0 0]), 11, 128) := by kernel_rfl
theorem flSize : (Tryz.prog.info? 60).map (·.size) = some 11 := by kernel_rfl
theorem msgSize : (Tryz.prog.info? 30).map (·.size) = some 9 := by kernel_rfl
theorem winSize : (Tryz.prog.info? 27).map (·.size) = some 4 := by kernel_rfl
theorem pktSize : (Tryz.prog.info? 39).map (·.size) = some 34 := by kernel_rfl
theorem flElem : Tryz.prog.elem 22 = 60 := by kernel_rfl

/-- the slice with this address reads as these items, below block B -/
def FI (w : World) (B : Nat) (A : Option Addr) (xs : List FE) : Prop := GL gF 11 w B A xs ∧ ∀ x ∈ xs, PL w B x.a x.f.m.props
theorem FI.nil (w : World) (B : Nat) (A : Option Addr) : FI w B A [] := ⟨GL.nil _ _ _, fun x hx => by cases hx⟩
theorem FI.below {w w' : World} {B : Nat} {A : Option Addr} {xs : List FE} (h : FI w B A xs) (hb : Below B w w') : FI w' B A xs := ⟨h.1.below hb, fun x hx => (h.2 x hx).below hb⟩
theorem FI.more {w : World} {B B' : Nat} {A : Option Addr} {xs : List FE} (h : FI w B A xs) (hB : B ≤ B') : FI w B' A xs := ⟨h.1.more hB, fun x hx => (h.2 x hx).more hB⟩
theorem FI.step {w w' : World} {A : Option Addr} {xs : List FE} (h : FI w w.heap.size A xs) (hb : Below w.heap.size w w') : FI w' w'.heap.size A xs := (h.below hb).more hb.size
theorem FI.at_ {w : World} {B : Nat} {A : Option Addr} {xs : List FE} (h : FI w B A xs) {j : Nat} {x : FE} (hx : xs[j]? = some x) :
    ∃ b o, A = some ⟨b, o, none⟩ ∧ b < B ∧ (∀ i v, (gF x)[i]? = some v → w.cell? ⟨b, o + j * 11 + i, none⟩ = some v) ∧ PL w B x.a x.f.m.props := by
  obtain ⟨b, o, e, hb, hc⟩ := h.1 (Nat.lt_of_le_of_lt (Nat.zero_le _) (List.getElem?_eq_some_iff.1 hx).1)
  exact ⟨b, o, e, hb, fun i v hv => hc j x i v hx hv, h.2 x (List.mem_of_getElem? hx)⟩

section
variable {P : Program}
/-- a struct is loaded from cells that hold it, wherever they lie -/
theorem run_load_cells (w : World) (b o : Nat) (cs : List Value) (ty : TypeId) (d : TypeDesc) (hc : ∀ i v, cs[i]? = some v → w.cell? ⟨b, o + i, none⟩ = some v)
    (hu : P.underlying ty = some d) (hd : (match d with | .struct _ | .array _ _ => true | _ => false) = true) (hi : (P.info? ty).map (·.size) = some cs.length) :
    (loadVar ty ⟨b, o, none⟩).run P w = .ok (.agg cs.toArray) w := by
  have hl : (loadCells ⟨b, o, none⟩ cs.length).run P w = .ok cs.toArray w :=
    run_loadCells_list (P := P) w ⟨b, o, none⟩ cs (fun j v hv => by
      have hadd : (⟨b, o, none⟩ : Addr).add j = ⟨b, o + j, none⟩ := by unfold Addr.add; split <;> simp_all
      rw [hadd]
      exact hc j v hv)
  cases hq : P.info? ty with
  | none => simp [hq] at hi
  | some i =>
    have hs : i.size = cs.length := by simpa [hq] using hi
    have hagg : (isAgg ty).run P w = .ok true w := by
      unfold isAgg
      rw [Sem.run_bind, run_underlying hu w]
      cases d <;> simp_all
    simp [loadVar, Sem.run_bind, hagg, sizeOf, typeInfo, hq, hs, hl]
theorem wpList_load_v {ops : Array Oper} {rest : List Oper} {o : Oper} {a : Act} {w : World} {Q : Exit → Act → World → Prop} (hgd : Region.wanted o (yielded ops a.tmps) = true) (ty : TypeId) (x : Operand) (ho : o.op = .load ty x)
    (p : Addr) (hx : a.eval x = .pointer (some p)) (v : Value) (hl : (loadVar ty p).run P w = .ok v w) (h : wpList P ops Q rest (a.put o.dst v) w) : wpList P ops Q (o :: rest) a w :=
  wpList_wanted hgd fun _ hK => by
    unfold Oper.wp execOp
    simp only [ho, hx, Instr.loadAt, Instr.sureAddr, Sem.run_bind, Sem.run_pure, Result.andThen_ok, hl]
    exact hK _ _ h
end
/-- an item, and its message, where the list has it -/
theorem load_item {w : World} {b o : Nat} {x : FE} (hc : ∀ i v, (gF x)[i]? = some v → w.cell? ⟨b, o + i, none⟩ = some v) : (loadVar 60 ⟨b, o, none⟩).run Tryz.prog w = .ok (fV x) w :=
  run_load_cells w b o (gF x) 60 _ hc Tryz.underlying60 rfl flSize
theorem load_item_msg {w : World} {b o : Nat} {x : FE} (hc : ∀ i v, (gF x)[i]? = some v → w.cell? ⟨b, o + i, none⟩ = some v) : (loadVar 30 ⟨b, o + 2, none⟩).run Tryz.prog w = .ok (msgV x.f.m x.a x.c) w :=
  run_load_cells w b (o + 2) (msgC x.f.m x.a x.c) 30 _ (fun i v hv => by
    rw [Nat.add_assoc]
    refine hc (2 + i) v ?_
    rw [← gF_msg, List.getElem?_take] at hv
    split at hv
    · rwa [List.getElem?_drop] at hv
    · cases hv) Tryz.underlying30 rfl msgSize

/-- a window by value -/
abbrev wv (L : Int) (A : Option Addr) (c : Nat) (xs : List FE) (A2 : Option Addr) (c2 : Nat) (X : List Int) (l : Int) : Value := .agg #[.int .i64 L, .slice A xs.length c, .slice A2 X.length c2, .int .i64 l]
abbrev wcs (L : Int) (A : Option Addr) (c : Nat) (xs : List FE) (A2 : Option Addr) (c2 : Nat) (X : List Int) (l : Int) : List Value := [.int .i64 L, .slice A xs.length c, .slice A2 X.length c2, .int .i64 l]
/-- its lists are there -/
def WOk (w : World) (A : Option Addr) (c : Nat) (xs : List FE) (A2 : Option Addr) (c2 : Nat) (X : List Int) : Prop := FI w w.heap.size A xs ∧ xs.length ≤ c ∧ S2.IL w w.heap.size A2 X ∧ X.length ≤ c2
theorem WOk.step {w w' : World} {A : Option Addr} {c : Nat} {xs : List FE} {A2 : Option Addr} {c2 : Nat} {X : List Int} (h : WOk w A c xs A2 c2 X) (hb : Below w.heap.size w w') : WOk w' A c xs A2 c2 X := ⟨h.1.step hb, h.2.1, CL.step h.2.2.1 hb, h.2.2.2⟩
/-- a window as plain data: its limit, items, identifiers, the last one -/
abbrev PW := Int × List Fl × List Int × Int
/-- a window that a call answers, all its lists new -/
def NewL (B : Nat) (A : Option Addr) : Prop := ∀ b o, A = some ⟨b, o, none⟩ → B ≤ b

/-! ### plain functions -/
def limR (n : Int) : Int := if n < 0 then 0 else if 32 < n then 32 else n
def leftR (L : Int) (n : Nat) : Int := if L ≤ n then 0 else L - n
def posF (F : List Fl) (n : Int) : Nat := F.findIdx (fun x => decide (x.id = n))
def itemR (F : List Fl) (X : List Int) (i : Nat) (x : Fl) : Int :=
  if x.id ∉ X ∨ posF F x.id < i then 15 else if checkR x.m ≠ 0 then checkR x.m else if x.m.level = 0 then 14 else if x.st = 1 ∨ (x.st = 2 ∧ x.m.level = 2) then 0 else 9
def itemsR (F : List Fl) (X : List Int) : Nat → List Fl → Int
  | _, [] => 0
  | i, x :: r => if itemR F X i x ≠ 0 then itemR F X i x else itemsR F X (i + 1) r
/-- the first error of a window -/
def winR (W : PW) : Int :=
  if W.1 < 0 ∨ 32 < W.1 then 1 else if S2.ckI W.2.2.1 W.2.2.2 ≠ 0 then S2.ckI W.2.2.1 W.2.2.2 else if 32 < W.2.1.length then 5 else if itemsR W.2.1 W.2.2.1 0 W.2.1 ≠ 0 then itemsR W.2.1 W.2.2.1 0 W.2.1 else if W.2.1.length < W.2.2.1.length then 15 else 0
def pubP (x : Fl) (dup : Bool) : Pkt := { Pkt.zero with kind := 3, id := x.id, dup := dup, msg := x.m }
def relP (n : Int) : Pkt := { Pkt.zero with kind := 6, id := n }
def againP (x : Fl) : Pkt := if x.st = 2 then relP x.id else pubP x true
def pubA (a : Option Addr) (c : Nat) : PA := { PA.zero with m := a, mc := c }
def awaitsR (x : Fl) (k : Int) : Bool := if k = 4 then decide (x.m.level = 1) else if k = 5 then decide (x.m.level = 2) else decide (x.m.level = 2) && decide (x.st = 2)
def startR (W : PW) (m : Msg) : PW × Pkt × Int :=
  if m.level = 0 then ((0, [], [], 0), Pkt.zero, 14) else if leftR W.1 W.2.1.length = 0 then ((0, [], [], 0), Pkt.zero, 6) else if checkR m ≠ 0 then ((0, [], [], 0), Pkt.zero, checkR m)
  else ((W.1, W.2.1 ++ [⟨S2.tkI W.2.2.1 W.2.2.2, 1, m⟩], S2.insI W.2.2.1 (S2.tkI W.2.2.1 W.2.2.2), S2.tkI W.2.2.1 W.2.2.2), pubP ⟨S2.tkI W.2.2.1 W.2.2.2, 1, m⟩ false, 0)
def setRel (F : List Fl) (i : Nat) : List Fl := match F[i]? with
  | some x => F.set i { x with st := 2 }
  | none => F
def relR (W : PW) (i : Nat) : PW := (W.1, setRel W.2.1 i, W.2.2.1, W.2.2.2)
def remR (W : PW) (i : Nat) : PW := match W.2.1[i]? with
  | some x => (W.1, W.2.1.eraseIdx i, S2.delI W.2.2.1 x.id, W.2.2.2)
  | none => W
/-- may an acknowledgement of this kind come for the item at a place -/
def mayR (F : List Fl) (i : Nat) (k : Int) : Bool := match F[i]? with
  | some x => awaitsR x k
  | none => true
theorem mayR_at {F : List Fl} {i : Nat} {k : Int} {x : Fl} (h : F[i]? = some x) : mayR F i k = awaitsR x k := by unfold mayR; rw [h]
theorem mayR_none {F : List Fl} {i : Nat} {k : Int} (h : F[i]? = none) : mayR F i k = true := by unfold mayR; rw [h]
def handleR (W : PW) (k n : Int) : PW × List Pkt × Int :=
  if k ≠ 4 ∧ k ≠ 5 ∧ k ≠ 7 then ((0, [], [], 0), [], 10)
  else if mayR W.2.1 (posF W.2.1 n) k = false then ((0, [], [], 0), [], 23)
  else if k = 5 then (relR W (posF W.2.1 n), [relP n], 0) else (remR W (posF W.2.1 n), [], 0)
def resendR (W : PW) : List Pkt := W.2.1.map againP
end Go.Proofs.YtjpikgphfhjilaaGreatDoor
