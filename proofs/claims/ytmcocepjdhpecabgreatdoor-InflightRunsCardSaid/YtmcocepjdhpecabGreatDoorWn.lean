/-
  Windows of messages in flight as plain data and in memory: items of eleven cells, lists of them, what loads and stores of them do. No function of the program is walked here.
  What the copies of inflight answer: Clone of properties and of items, cloneMessage, clonePool. Conditions: the lists read as data; few elements.
  What cloneItems of inflight answers: the items, in memory of their own. Conditions: the items read as data; few of them, with few properties.
  What the small functions of inflight answer: pubrel, publish, again, New, Left. Conditions: the item reads as data; few properties.
  What New, Left, again, awaits and position of inflight answer. Conditions: the window or item reads as data; few items, with few properties.
  What Delete of slices answers at items, in a row of the call's own: one less. Conditions: the row holds the items.
  What release and remove of inflight answer: the window with an item released, or without it. Conditions: the window reads as data; few items, with few properties; its pool is valid.
  What remove of inflight answers: the window without an item. Conditions: the window reads as data; few items, with few properties; its pool is valid.
  What Handle of inflight answers: the window, the packets to send, the error. Conditions: the window and the packet read as data; the window is valid, its items few, with few properties.
-/
import Derived.Test.YtmcocepjdhpecabGreatDoorLx
import Derived.Test.YtmcocepjdhpecabGreatDoorMbx2
import Derived.Test.YtmcocepjdhpecabGreatDoorIdI
import Derived.Test.YtmcocepjdhpecabGreatDoorKeyP
import Derived.Deep.RegionLaw
import Derived.Lib.SliceRun
import Derived.Deep.Upon
import Derived.Deep.Cut
namespace Go.Proofs.YtmcocepjdhpecabGreatDoor
open Go.RowKit
open S2 (BK Put)

structure Fl where
  id : Int
  st : Int
  m : Msg
instance : DecidableEq Fl := fun a b => by
  cases a; cases b
  simp only [Fl.mk.injEq]
  exact inferInstance
/-- an item and where its properties lie -/
structure FE where
  f : Fl
  a : Option Addr
  c : Nat
def gF (x : FE) : List Value := [.int .i64 x.f.id, .int .i64 x.f.st, .string x.f.m.topic, .string x.f.m.payload, .int .i64 x.f.m.level, .bool x.f.m.retain, .int .i64 x.f.m.prio, .int .i64 x.f.m.exps, .string x.f.m.frm, .int .i64 x.f.m.seq, .slice x.a x.f.m.props.length x.c]
def fV (x : FE) : Value := .agg (gF x).toArray
theorem gF_len (x : FE) : (gF x).length = 11 := rfl
theorem gF_one (x : FE) : ∀ u ∈ gF x, u.oneCell' = true := ones rfl
theorem gF_msg (x : FE) : ((gF x).drop 2).take 9 = msgC x.f.m x.a x.c := rfl
def Fl.zero : Fl := ⟨0, 0, Msg.zero⟩
def FE.zero : FE := ⟨Fl.zero, none, 0⟩

theorem flInfo : (Tryz.prog.info? 56).map (fun i => (i.zero, i.size, i.bytes)) = some (some (.agg #[.int .i64 0, .int .i64 0, .string ByteArray.empty, .string ByteArray.empty, .int .i64 0, .bool false, .int .i64 0, .int .i64 0, .string ByteArray.empty, .int .i64 0, .slice none 0 0]), 11, 128) := by kernel_rfl
theorem flSize : (Tryz.prog.info? 56).map (·.size) = some 11 := by kernel_rfl
theorem winSize : (Tryz.prog.info? 28).map (·.size) = some 4 := by kernel_rfl
theorem pktSize : (Tryz.prog.info? 42).map (·.size) = some 34 := by kernel_rfl
theorem flElem : Tryz.prog.elem 23 = 56 := by kernel_rfl

/-- the slice with this address reads as these items, below block B -/
def FI (w : World) (B : Nat) (A : Option Addr) (xs : List FE) : Prop := GL gF 11 w B A xs ∧ ∀ x ∈ xs, PL w B x.a x.f.m.props
theorem FI.nil (w : World) (B : Nat) (A : Option Addr) : FI w B A [] := ⟨GL.nil _ _ _, fun x hx => by cases hx⟩
theorem FI.below {w w' : World} {B : Nat} {A : Option Addr} {xs : List FE} (h : FI w B A xs) (hb : Below B w w') : FI w' B A xs := ⟨h.1.below hb, fun x hx => (h.2 x hx).below hb⟩
theorem FI.more {w : World} {B B' : Nat} {A : Option Addr} {xs : List FE} (h : FI w B A xs) (hB : B ≤ B') : FI w B' A xs := ⟨h.1.more hB, fun x hx => (h.2 x hx).more hB⟩
theorem FI.step {w w' : World} {A : Option Addr} {xs : List FE} (h : FI w w.heap.size A xs) (hb : Below w.heap.size w w') : FI w' w'.heap.size A xs := (h.below hb).more hb.size
theorem FI.at_ {w : World} {B : Nat} {A : Option Addr} {xs : List FE} (h : FI w B A xs) {j : Nat} {x : FE} (hx : xs[j]? = some x) :
    ∃ b o, A = some ⟨b, o, none⟩ ∧ b < B ∧ (∀ i v, (gF x)[i]? = some v → w.cell? ⟨b, o + j * 11 + i, none⟩ = some v) ∧ PL w B x.a x.f.m.props := by
  obtain ⟨b, o, e, hb, hc⟩ := h.1 (Nat.lt_of_le_of_lt (Nat.zero_le _) (List.getElem?_eq_some_iff.1 hx).1)
  exact ⟨b, o, e, hb, fun i v hv => hc j x i v hx hv, h.2 x (List.mem_of_getElem? hx)⟩

/-- an item, and its message, where the list has it -/
theorem load_item {w : World} {b o : Nat} {x : FE} (hc : ∀ i v, (gF x)[i]? = some v → w.cell? ⟨b, o + i, none⟩ = some v) : (loadVar 56 ⟨b, o, none⟩).run Tryz.prog w = .ok (fV x) w :=
  run_load_cells w b o (gF x) 56 _ hc Tryz.underlying56 rfl flSize
theorem load_item_msg {w : World} {b o : Nat} {x : FE} (hc : ∀ i v, (gF x)[i]? = some v → w.cell? ⟨b, o + i, none⟩ = some v) : (loadVar 34 ⟨b, o + 2, none⟩).run Tryz.prog w = .ok (msgV x.f.m x.a x.c) w :=
  run_load_cells w b (o + 2) (msgC x.f.m x.a x.c) 34 _ (fun i v hv => by
    rw [Nat.add_assoc]
    refine hc (2 + i) v ?_
    rw [← gF_msg, List.getElem?_take] at hv
    split at hv
    · rwa [List.getElem?_drop] at hv
    · cases hv) Tryz.underlying34 rfl msgSize

/-- a window by value -/
abbrev wv (L : Int) (A : Option Addr) (c : Nat) (xs : List FE) (A2 : Option Addr) (c2 : Nat) (X : List Int) (l : Int) : Value := .agg #[.int .i64 L, .slice A xs.length c, .slice A2 X.length c2, .int .i64 l]
abbrev wcs (L : Int) (A : Option Addr) (c : Nat) (xs : List FE) (A2 : Option Addr) (c2 : Nat) (X : List Int) (l : Int) : List Value := [.int .i64 L, .slice A xs.length c, .slice A2 X.length c2, .int .i64 l]
/-- its lists are there -/
def WOk (w : World) (A : Option Addr) (c : Nat) (xs : List FE) (A2 : Option Addr) (c2 : Nat) (X : List Int) : Prop := FI w w.heap.size A xs ∧ xs.length ≤ c ∧ S2.IL w w.heap.size A2 X ∧ X.length ≤ c2
theorem WOk.step {w w' : World} {A : Option Addr} {c : Nat} {xs : List FE} {A2 : Option Addr} {c2 : Nat} {X : List Int} (h : WOk w A c xs A2 c2 X) (hb : Below w.heap.size w w') : WOk w' A c xs A2 c2 X := ⟨h.1.step hb, h.2.1, CL.step h.2.2.1 hb, h.2.2.2⟩
/-- a window as plain data: its limit, items, identifiers, the last one -/
abbrev PW := Int × List Fl × List Int × Int
/-! ### plain functions -/
def limR (n : Int) : Int := if n < 0 then 0 else if 32 < n then 32 else n
def leftR (L : Int) (n : Nat) : Int := if L ≤ n then 0 else L - n
def posF (F : List Fl) (n : Int) : Nat := F.findIdx (fun x => decide (x.id = n))
def itemR (F : List Fl) (X : List Int) (i : Nat) (x : Fl) : Int :=
  if x.id ∉ X ∨ posF F x.id < i then 15 else if checkR x.m ≠ 0 then checkR x.m else if x.m.level = 0 then 14 else if x.st = 1 ∨ (x.st = 2 ∧ x.m.level = 2) then 0 else 9
def itemsR (F : List Fl) (X : List Int) : Nat → List Fl → Int
  | _, [] => 0
  | i, x :: r => if itemR F X i x ≠ 0 then itemR F X i x else itemsR F X (i + 1) r
/-- the first error of a window -/
def winR (W : PW) : Int :=
  if W.1 < 0 ∨ 32 < W.1 then 1 else if S2.ckI W.2.2.1 W.2.2.2 ≠ 0 then S2.ckI W.2.2.1 W.2.2.2 else if 32 < W.2.1.length then 5 else if itemsR W.2.1 W.2.2.1 0 W.2.1 ≠ 0 then itemsR W.2.1 W.2.2.1 0 W.2.1 else if W.2.1.length < W.2.2.1.length then 15 else 0
def pubP (x : Fl) (dup : Bool) : Pkt := { Pkt.zero with kind := 3, id := x.id, dup := dup, msg := x.m }
def relP (n : Int) : Pkt := { Pkt.zero with kind := 6, id := n }
def againP (x : Fl) : Pkt := if x.st = 2 then relP x.id else pubP x true
def pubA (a : Option Addr) (c : Nat) : PA := { PA.zero with m := a, mc := c }
def awaitsR (x : Fl) (k : Int) : Bool := if k = 4 then decide (x.m.level = 1) else if k = 5 then decide (x.m.level = 2) else decide (x.m.level = 2) && decide (x.st = 2)
def startR (W : PW) (m : Msg) : PW × Pkt × Int :=
  if m.level = 0 then ((0, [], [], 0), Pkt.zero, 14) else if leftR W.1 W.2.1.length = 0 then ((0, [], [], 0), Pkt.zero, 6) else if checkR m ≠ 0 then ((0, [], [], 0), Pkt.zero, checkR m)
  else ((W.1, W.2.1 ++ [⟨S2.tkI W.2.2.1 W.2.2.2, 1, m⟩], S2.insI W.2.2.1 (S2.tkI W.2.2.1 W.2.2.2), S2.tkI W.2.2.1 W.2.2.2), pubP ⟨S2.tkI W.2.2.1 W.2.2.2, 1, m⟩ false, 0)
def setRel (F : List Fl) (i : Nat) : List Fl := match F[i]? with
  | some x => F.set i { x with st := 2 }
  | none => F
def relR (W : PW) (i : Nat) : PW := (W.1, setRel W.2.1 i, W.2.2.1, W.2.2.2)
def remR (W : PW) (i : Nat) : PW := match W.2.1[i]? with
  | some x => (W.1, W.2.1.eraseIdx i, S2.delI W.2.2.1 x.id, W.2.2.2)
  | none => W
/-- may an acknowledgement of this kind come for the item at a place -/
def mayR (F : List Fl) (i : Nat) (k : Int) : Bool := match F[i]? with
  | some x => awaitsR x k
  | none => true
theorem mayR_at {F : List Fl} {i : Nat} {k : Int} {x : Fl} (h : F[i]? = some x) : mayR F i k = awaitsR x k := by unfold mayR; rw [h]
theorem mayR_none {F : List Fl} {i : Nat} {k : Int} (h : F[i]? = none) : mayR F i k = true := by unfold mayR; rw [h]
def handleR (W : PW) (k n : Int) : PW × List Pkt × Int :=
  if k ≠ 4 ∧ k ≠ 5 ∧ k ≠ 7 then ((0, [], [], 0), [], 10)
  else if mayR W.2.1 (posF W.2.1 n) k = false then ((0, [], [], 0), [], 23)
  else if k = 5 then (relR W (posF W.2.1 n), [relP n], 0) else (remR W (posF W.2.1 n), [], 0)
def resendR (W : PW) : List Pkt := W.2.1.map againP
end Go.Proofs.YtmcocepjdhpecabGreatDoor
namespace Go.Proofs.YtmcocepjdhpecabGreatDoor
open Go.RowKit
open S2 (BK Put)

abbrev OwnF (w : World) (B : Nat) (v : Value) (xs : List FE) : Prop := OwnG 56 gF 11 w B v xs

set_option maxHeartbeats 1000000 in
theorem cloneF_any (A : Option Addr) (c : Nat) (xs : List FE) (w : World) (hsl : GL gF 11 w w.heap.size A xs) (hn : xs.length ≤ 100000) :
    Calls Tryz.prog 56 #[.slice A xs.length c] w fun e w' => ∃ v, e = .returned v ∧ OwnF w' w.heap.size v xs ∧ Below w.heap.size w w' := by
  have q22 : ∀ (w : World) (a : Option Addr) (n c n' c' : Nat), (binOp .eql 23 (.slice a n c) (.slice none n' c')).run Tryz.prog w = .ok (.bool a.isNone) w := fun w a n c n' c' => Lib.run_eql_slice_nil w _ _ a n c n' c' Tryz.underlying23
  cases A with
  | none =>
    have h0 : xs = [] := by
      rcases Nat.eq_zero_or_pos xs.length with h | h
      · exact List.eq_nil_of_length_eq_zero h
      · obtain ⟨b, o, e, _⟩ := hsl h; cases e
    subst h0
    clear hsl hn
    go_enter Tryz.func56, Tryz.ntmps56
    go_wp2
    go_ret
    exact ⟨_, rfl, OwnG.nil _ _, Below.refl _ _⟩
  | some a =>
    have hsl2 := hsl.step ((Below.refl _ _).alloc (Nat.le_refl _) (.cells #[] 56))
    have hb0 := (Below.refl w.heap.size w).alloc (Nat.le_refl _) (.cells #[] 56)
    have HS := Lib.hid hsl2
    clear hsl hsl2
    go_enter Tryz.func56, Tryz.ntmps56
    go_wp2_with (at_builtin; go_must (refine wpList_appG (g := gF) (k := 11) (e := 56) (by decide) _ rfl _ _ 23 23 rfl (.agg #[.int .i64 0, .int .i64 0, .string ByteArray.empty, .string ByteArray.empty, .int .i64 0, .bool false, .int .i64 0, .int .i64 0, .string ByteArray.empty, .int .i64 0, .slice none 0 0]) 128 Tryz.underlying23 flInfo rfl (by decide) w.heap.size _ [] xs rfl (OwnG.made w 0 #[] w.heap.size (Nat.le_refl _) (by decide) rfl) _ rfl (GL.src gF_len gF_one HS.out Tryz.underlying23 c) w hb0 (by simp) (by simp; omega) ?_); intro v' w' hown' hb' hsz')
    go_ret
    exact ⟨_, rfl, hown', hb'⟩

set_option maxRecDepth 20000 in
set_option maxHeartbeats 4000000 in
theorem cloneMessage_any (m : Msg) (a : Option Addr) (c : Nat) (w : World) (hsl : PL w w.heap.size a m.props) (hn : m.props.length ≤ 100000) :
    Calls Tryz.prog 21 #[msgV m a c] w (RetM m w) := by
  unfold msgV
  have HC := Lib.hid (fun w1 h => cloneP_any a c m.props w1 h (by omega))
  have HS := Lib.hid hsl
  clear hsl hn
  go_enter Tryz.func21, Tryz.ntmps21
  go_upto_region 1 with fail
  refine name_world (C := fun w1 => Code.wp _ _ _ _ w1) ((w.alloc (.cells (msgC m a c).toArray 34)).alloc (.cells (msgC Msg.zero none 0).toArray 34)) ?_
  intro w1 hw1
  have H0 := S2.two_laid (v1 := msgC m a c) (v2 := msgC Msg.zero none 0) hw1
  clear hw1
  obtain ⟨t1, t2, hs0, hB0⟩ := H0
  have T1 := Lib.hid t1
  have T2 := Lib.hid t2
  have HB := Lib.hid hB0
  have HZ := Lib.hid hs0
  have d8 := t1.cell 8 rfl
  clear t1 t2 hB0 hs0
  go_wp2_with fail
  refine (HC.out _ (HS.out.step HB.out)).mono ?_
  rintro e w2 ⟨v2, rfl, hown2, hb2⟩
  obtain ⟨a2, c2, hv2, _, hnew, hgl⟩ := hown2.retB gP_len
  subst hv2
  have U1 := Lib.hid (T1.out.step hb2)
  have U2 := Lib.hid (T2.out.step hb2)
  have HB2 := Lib.hid (stepB HB.out hb2)
  have HZ2 := Lib.hid hb2.size
  have HG := Lib.hid hgl
  have HN := Lib.hid hnew
  have f8 := U1.out.free 8
  have g8 := U1.out.cell 8 rfl
  have hlt := U1.out.lt
  clear hb2 hown2 hgl hnew T1 T2 HB HC d8
  go_upto_region 2 with fail
  refine name_world (C := fun w3 => Code.wp _ _ _ _ w3) (w2.setCell ⟨w.heap.size, 8, none⟩ (.slice a2 m.props.length c2)) ?_
  intro w3 hw3
  have U1' : Hid (BK 34 w3 w.heap.size (msgC m a2 c2)) := Lib.hid (by rw [hw3]; exact U1.out.set 8 _)
  have U2' : Hid (BK 34 w3 (w.heap.size + 1) (msgC Msg.zero none 0)) := Lib.hid (by rw [hw3]; exact U2.out.other (by show w.heap.size + 1 ≠ w.heap.size; omega) _)
  have HB3 : Hid (Below w.heap.size w w3) := Lib.hid (by rw [hw3]; exact HB2.out.setCell (p := ⟨w.heap.size, 8, none⟩) (Nat.le_refl _) _)
  have HZ3 : Hid (w3.heap.size = w2.heap.size) := Lib.hid (by rw [hw3]; simp)
  have HE3 : Hid (∀ p : Addr, w1.heap.size ≤ p.block → w3.cell? p = w2.cell? p) := Lib.hid (fun p hp => by rw [hw3]; exact S2.set_other _ _ _ _ _ (by have := HZ.out; omega))
  clear hw3 U1 U2 HB2 f8 g8 hlt
  go_wp2_with first
    | (refine wpList_load_v (by rfl) 34 (.tmp 1) rfl ⟨w.heap.size, 0, none⟩ rfl (msgV m a2 c2) (S2.run_load_all U1'.out Tryz.underlying34 rfl msgSize) ?_)
    | (refine S2.wpList_store_all (by rfl) 34 (.tmp 2) (.tmp 7) rfl rfl (w.heap.size + 1) rfl (msgC m a2 c2) rfl 34 (msgC Msg.zero none 0) U2'.out msgSize rfl (msgC_one _ _ _) ?_; intro w4 hM hP; have M4 := Lib.hid hM; have P4 := Lib.hid hP; clear hM hP)
  refine bodyPost_ret (v := msgV m a2 c2) (S2.res_cell rfl _ _ (w.heap.size + 1) 34 (msgC m a2 c2) _ rfl M4.out Tryz.underlying34 rfl msgSize) rfl ⟨a2, c2, rfl, HG.out w4 (by rw [P4.out.size, HZ3.out]; exact Nat.le_refl _) (fun p hp => ?_), fun b o e => by have := HN.out b o e; have := HZ.out; omega, P4.out.below HB3.out (by omega)⟩
  rw [P4.out.cell (by have := HZ.out; omega), HE3.out p hp]

/-- a pool that a call answers, its list in memory of its own -/
def RetPn (X : List Int) (L : Int) (W : World) (e : Ending) (w' : World) : Prop := ∃ A c, e = .returned (S2.pv A c X L) ∧ X.length ≤ c ∧ S2.IL w' w'.heap.size A X ∧ NewL W.heap.size A ∧ Below W.heap.size W w'
set_option maxRecDepth 20000 in
set_option maxHeartbeats 4000000 in
theorem clonePool_any (A : Option Addr) (c : Nat) (X : List Int) (L : Int) (w : World) (hsl : S2.IL w w.heap.size A X) (hn : X.length ≤ 100000) :
    Calls Tryz.prog 63 #[S2.pv A c X L] w (RetPn X L w) := by
  have HC := Lib.hid (fun w1 h => S2.cloneI_any A c X w1 h (by omega))
  have HS := Lib.hid hsl
  clear hsl hn
  go_enter Tryz.func63, Tryz.ntmps63
  go_upto_region 1 with fail
  refine name_world (C := fun w1 => Code.wp _ _ _ _ w1) ((w.alloc (.cells #[.slice A X.length c, .int .i64 L] 26)).alloc (.cells #[.slice none 0 0, .int .i64 0] 26)) ?_
  intro w1 hw1
  have H0 := S2.two_laid (v1 := [.slice A X.length c, .int .i64 L]) (v2 := [.slice none 0 0, .int .i64 0]) hw1
  clear hw1
  obtain ⟨t1, t2, hs0, hB0⟩ := H0
  have T1 := Lib.hid t1
  have T2 := Lib.hid t2
  have HB := Lib.hid hB0
  have HZ := Lib.hid hs0
  have d0 := t1.cell 0 rfl
  clear t1 t2 hB0 hs0
  go_wp2_with fail
  refine (HC.out _ (CL.step HS.out HB.out)).mono ?_
  rintro e w2 ⟨v2, rfl, hown2, hb2⟩
  obtain ⟨a2, c2, hv2, hc2, hgl, hnew⟩ := hown2.retB
  subst hv2
  have HC2 := Lib.hid hc2
  have U1 := Lib.hid (T1.out.step hb2)
  have U2 := Lib.hid (T2.out.step hb2)
  have HB2 := Lib.hid (stepB HB.out hb2)
  have HZ2 := Lib.hid hb2.size
  have HG := Lib.hid hgl
  have HN := Lib.hid hnew
  have f8 := U1.out.free 0
  have g8 := U1.out.cell 0 rfl
  have hlt := U1.out.lt
  clear hb2 hown2 hgl hnew T1 T2 HB HC d0 hc2
  go_upto_region 2 with fail
  refine name_world (C := fun w3 => Code.wp _ _ _ _ w3) (w2.setCell ⟨w.heap.size, 0, none⟩ (.slice a2 X.length c2)) ?_
  intro w3 hw3
  have U1' : Hid (BK 26 w3 w.heap.size [.slice a2 X.length c2, .int .i64 L]) := Lib.hid (by rw [hw3]; exact U1.out.set 0 _)
  have U2' : Hid (BK 26 w3 (w.heap.size + 1) [.slice none 0 0, .int .i64 0]) := Lib.hid (by rw [hw3]; exact U2.out.other (by show w.heap.size + 1 ≠ w.heap.size; omega) _)
  have HB3 : Hid (Below w.heap.size w w3) := Lib.hid (by rw [hw3]; exact HB2.out.setCell (p := ⟨w.heap.size, 0, none⟩) (Nat.le_refl _) _)
  have HZ3 : Hid (w3.heap.size = w2.heap.size) := Lib.hid (by rw [hw3]; simp)
  have HE3 : Hid (∀ p : Addr, w1.heap.size ≤ p.block → w3.cell? p = w2.cell? p) := Lib.hid (fun p hp => by rw [hw3]; exact S2.set_other _ _ _ _ _ (by have := HZ.out; omega))
  clear hw3 U1 U2 HB2 f8 g8 hlt
  go_wp2_with first
    | (refine wpList_load_v (by rfl) 26 (.tmp 1) rfl ⟨w.heap.size, 0, none⟩ rfl (S2.pv a2 c2 X L) (S2.run_load_all U1'.out Tryz.underlying26 rfl S2.infoP2) ?_)
    | (refine S2.wpList_store_all (by rfl) 26 (.tmp 2) (.tmp 7) rfl rfl (w.heap.size + 1) rfl [.slice a2 X.length c2, .int .i64 L] rfl 26 [.slice none 0 0, .int .i64 0] U2'.out S2.infoP2 rfl (ones rfl) ?_; intro w4 hM hP; have M4 := Lib.hid hM; have P4 := Lib.hid hP; clear hM hP)
  refine bodyPost_ret (v := S2.pv a2 c2 X L) (S2.res_cell rfl _ _ (w.heap.size + 1) 26 [.slice a2 X.length c2, .int .i64 L] _ rfl M4.out Tryz.underlying26 rfl S2.infoP2) rfl ⟨a2, c2, rfl, HC2.out, HG.out w4 (by rw [P4.out.size, HZ3.out]; exact Nat.le_refl _) (fun p hp => ?_), fun b o e => by have := HN.out b o e; have := HZ.out; omega, P4.out.below HB3.out (by omega)⟩
  rw [P4.out.cell (by have := HZ.out; omega), HE3.out p hp]
end Go.Proofs.YtmcocepjdhpecabGreatDoor
namespace Go.Proofs.YtmcocepjdhpecabGreatDoor
open Go.RowKit
open S2 (BK Put)

/-- an item's message is written over -/
theorem put_item {xs : List FE} {k : Nat} {x : FE} (h : xs[k]? = some x) (m : Msg) (a : Option Addr) (c : Nat) (sp : List Value) : putC (xs.flatMap gF ++ sp) (k * 11 + 2) (msgC m a c) = (xs.set k ⟨⟨x.f.id, x.f.st, m⟩, a, c⟩).flatMap gF ++ sp := by
  obtain ⟨e, hl⟩ := split_at h
  have e2 := set_split h (⟨⟨x.f.id, x.f.st, m⟩, a, c⟩ : FE)
  rw [e2]
  conv => lhs; rw [e]
  rw [List.flatMap_append, List.flatMap_cons, List.flatMap_append, List.flatMap_cons]
  have h1 : ((xs.take k).flatMap gF).length = k * 11 := by rw [flat_len gF_len, hl]
  generalize (xs.take k).flatMap gF = L at h1 ⊢
  have h2 : (L ++ [Value.int .i64 x.f.id, Value.int .i64 x.f.st]).length = k * 11 + 2 := by simp [h1]
  have h3 := putC_mid (L ++ [Value.int .i64 x.f.id, Value.int .i64 x.f.st]) (msgC x.f.m x.a x.c) ((xs.drop (k + 1)).flatMap gF ++ sp) (msgC m a c) rfl
  rw [h2] at h3
  have e3 : L ++ (gF x ++ (xs.drop (k + 1)).flatMap gF) ++ sp = L ++ [Value.int .i64 x.f.id, Value.int .i64 x.f.st] ++ msgC x.f.m x.a x.c ++ ((xs.drop (k + 1)).flatMap gF ++ sp) := by simp [gF, msgC]
  rw [e3, h3]
  simp [gF, msgC]
/-- its state is written over -/
theorem set_item {xs : List FE} {k : Nat} {x : FE} (h : xs[k]? = some x) (s : Int) (sp : List Value) : (xs.flatMap gF ++ sp).set (k * 11 + 1) (.int .i64 s) = (xs.set k ⟨{ x.f with st := s }, x.a, x.c⟩).flatMap gF ++ sp := by
  obtain ⟨e, hl⟩ := split_at h
  have e2 := set_split h (⟨{ x.f with st := s }, x.a, x.c⟩ : FE)
  rw [e2]
  conv => lhs; rw [e]
  rw [List.flatMap_append, List.flatMap_cons, List.flatMap_append, List.flatMap_cons]
  have h1 : ((xs.take k).flatMap gF).length = k * 11 := by rw [flat_len gF_len, hl]
  generalize (xs.take k).flatMap gF = L at h1 ⊢
  have h2 : (L ++ [Value.int .i64 x.f.id]).length = k * 11 + 1 := by simp [h1]
  have h3 := set_mid (L ++ [Value.int .i64 x.f.id]) (msgC x.f.m x.a x.c ++ ((xs.drop (k + 1)).flatMap gF ++ sp)) (.int .i64 x.f.st) (.int .i64 s)
  rw [h2] at h3
  have e3 : L ++ (gF x ++ (xs.drop (k + 1)).flatMap gF) ++ sp = L ++ [Value.int .i64 x.f.id] ++ Value.int .i64 x.f.st :: (msgC x.f.m x.a x.c ++ ((xs.drop (k + 1)).flatMap gF ++ sp)) := by simp [gF, msgC]
  rw [e3, h3]
  simp [gF, msgC]
theorem row_item {w : World} {T : TypeId} {g : Nat} {xs : List FE} {sp : List Value} (h : BK T w g (xs.flatMap gF ++ sp)) {k : Nat} {x : FE} (hx : xs[k]? = some x) : ∀ i v, (gF x)[i]? = some v → w.cell? ⟨g, k * 11 + i, none⟩ = some v := fun i v hv => by
  have hi : i < 11 := by rw [← gF_len x]; exact (List.getElem?_eq_some_iff.1 hv).1
  refine h.cell _ ?_
  have hk : k < xs.length := (List.getElem?_eq_some_iff.1 hx).1
  rw [List.getElem?_append_left (by rw [flat_len gF_len]; omega), flat_at gF_len xs k x i hx hi]
  exact hv
theorem own_rowF {w : World} {B : Nat} {v : Value} {xs : List FE} (h : OwnF w B v xs) : (v = .slice none 0 0 ∧ xs = []) ∨ ∃ g cap sp, v = .slice (some ⟨g, 0, none⟩) xs.length cap ∧ B ≤ g ∧ BK 56 w g (xs.flatMap gF ++ sp) ∧ xs.length ≤ cap ∧ cap ≤ maxLen ∧ (xs.flatMap gF ++ sp).length = cap * 11 := by
  unfold OwnF OwnG at h
  rcases h.2 with ⟨rfl, hn⟩ | ⟨g, cap, cur, rfl, hb, hg, hnc, hcm, hcs, htake⟩
  · exact .inl ⟨rfl, List.eq_nil_of_length_eq_zero hn⟩
  · refine .inr ⟨g, cap, cur.toList.drop (xs.length * 11), rfl, hb, ?_, hnc, hcm, ?_⟩
    · unfold BK; rw [← htake, List.take_append_drop]; simpa using hg
    · rw [← htake, List.take_append_drop]; simpa using hcs
theorem row_ownF {w : World} {B g cap : Nat} {xs : List FE} {sp : List Value} (hb : B ≤ g) (hg : BK 56 w g (xs.flatMap gF ++ sp)) (hnc : xs.length ≤ cap) (hcm : cap ≤ maxLen) (hl : (xs.flatMap gF ++ sp).length = cap * 11) : OwnF w B (.slice (some ⟨g, 0, none⟩) xs.length cap) xs := by
  unfold OwnF OwnG
  exact ⟨flat_len gF_len xs, .inr ⟨g, cap, (xs.flatMap gF ++ sp).toArray, rfl, hb, hg, hnc, hcm, by simpa using hl, by
    show (xs.flatMap gF ++ sp).take (xs.length * 11) = _
    rw [← flat_len gF_len xs, List.take_left' rfl]⟩⟩

/-- items that a call answers, in memory of their own, with that of their properties -/
def RetF (F : List Fl) (W : World) (e : Ending) (w' : World) : Prop := ∃ v ys, e = .returned v ∧ ys.map FE.f = F ∧ OwnF w' W.heap.size v ys ∧ (∃ M, W.heap.size ≤ M ∧ (∀ g n c, v = .slice (some ⟨g, 0, none⟩) n c → g < M) ∧ ∀ y ∈ ys, PL w' w'.heap.size y.a y.f.m.props ∧ NewL M y.a) ∧ Below W.heap.size W w'

/-- behind round k: the items up to k have properties of their own -/
structure CI (xs : List FE) (w w1 : World) (g cap : Nat) (sp : List Value) (k : Nat) (wr : World) (ys : List FE) : Prop where
  same : ys.map FE.f = xs.map FE.f
  row : BK 56 wr g (ys.flatMap gF ++ sp)
  new : ∀ j y, j < k → ys[j]? = some y → PL wr wr.heap.size y.a y.f.m.props ∧ NewL w1.heap.size y.a
  old : ∀ j, k ≤ j → ys[j]? = xs[j]?
  b0 : Below w.heap.size w wr
  b1 : w1.heap.size ≤ wr.heap.size
theorem getSame {xs ys : List FE} (h : ys.map FE.f = xs.map FE.f) {k : Nat} {y : FE} (hy : ys[k]? = some y) : ∃ x, xs[k]? = some x ∧ x.f = y.f := by
  have h1 : (ys.map FE.f)[k]? = some y.f := by rw [List.getElem?_map, hy]; rfl
  rw [h, List.getElem?_map] at h1
  cases hx : xs[k]? with
  | none => rw [hx] at h1; cases h1
  | some x => rw [hx] at h1; exact ⟨x, rfl, Option.some.inj h1⟩
theorem sameLen {xs ys : List FE} (h : ys.map FE.f = xs.map FE.f) : ys.length = xs.length := by have := congrArg List.length h; simpa using this

set_option maxRecDepth 20000 in
set_option maxHeartbeats 4000000 in
theorem cloneItems_any (A : Option Addr) (c : Nat) (xs : List FE) (w : World) (hsl : FI w w.heap.size A xs) (hn : xs.length ≤ 100000) (hp : ∀ x ∈ xs, x.f.m.props.length ≤ 100000) :
    Calls Tryz.prog 22 #[.slice A xs.length c] w (RetF (xs.map FE.f) w) := by
  have HC := Lib.hid (cloneF_any A c xs w hsl.1 hn)
  have HM := Lib.hid (fun m a c w1 h hl => cloneMessage_any m a c w1 h hl)
  have HS := Lib.hid hsl
  have HP := Lib.hid hp
  clear hsl hp
  go_enter Tryz.func22, Tryz.ntmps22
  go_wp2_with fail
  refine HC.out.mono ?_
  rintro e w1 ⟨v1, rfl, hown1, hb1⟩
  have HB1 := Lib.hid hb1
  clear hb1 HC
  rcases own_rowF hown1 with ⟨rfl, rfl⟩ | ⟨g, cap, sp, rfl, hbg, hg, hnc, hcm, hcs⟩
  · clear hown1
    go_wp2_with fail
    go_loopg [9] 0 (fun g v wr => g = 0 ∧ v = .int .i64 0 ∧ wr = w1)
    case atStart => exact ⟨rfl, rfl, rfl⟩
    case round =>
      obtain ⟨rfl, rfl, rfl⟩ := hrel
      go_wp2
      go_ret
      exact ⟨_, [], rfl, rfl, OwnG.nil _ _, ⟨_, Nat.le_refl _, (fun g n c e => by cases e), (fun y hy => by cases hy)⟩, HB1.out⟩
  · have HG := Lib.hid (And.intro hbg (And.intro hnc (And.intro hcm hcs)))
    have hgl := hg.lt
    have H0 : Hid (CI xs w w1 g cap sp 0 w1 xs) := Lib.hid ⟨rfl, hg, fun j y h => absurd h (by omega), fun j _ => rfl, HB1.out, Nat.le_refl _⟩
    have HGL := Lib.hid hgl
    clear hown1 hbg hg hnc hcm hcs hgl
    go_wp2_with fail
    go_loopg [9] xs.length (fun gk v wr => ∃ (k : Nat) (ys : List FE), k + gk = xs.length ∧ v = .int .i64 k ∧ CI xs w w1 g cap sp k wr ys)
    case atStart => exact ⟨0, xs, by omega, rfl, H0.out⟩
    case round =>
      obtain ⟨k, ys, hkg, rfl, hci⟩ := hrel
      have HCI := Lib.hid hci
      have HK := Lib.hid hkg
      clear hci H0
      cases gk with
      | zero =>
        obtain rfl : k = xs.length := by omega
        clear hkg
        go_wp2
        go_ret
        have hl := sameLen HCI.out.same
        obtain ⟨hbg, hnc, hcm, hcs⟩ := HG.out
        refine ⟨_, ys, rfl, HCI.out.same, ?_, ⟨w1.heap.size, HB1.out.size, fun g' n c e => by
          have e' : Value.slice (some ⟨g, 0, none⟩) xs.length cap = Value.slice (some ⟨g', 0, none⟩) n c := e
          simp only [Value.slice.injEq, Option.some.injEq, Addr.mk.injEq, and_true] at e'
          have := HGL.out
          omega, fun y hy => ?_⟩, HCI.out.b0⟩
        · rw [← hl]
          exact row_ownF hbg HCI.out.row (by rw [hl]; exact hnc) hcm (by rw [← hcs, List.length_append, List.length_append, flat_len gF_len, flat_len gF_len, hl])
        · obtain ⟨j, hj⟩ := List.mem_iff_getElem?.1 hy
          have hjl := (List.getElem?_eq_some_iff.1 hj).1
          obtain ⟨h1, h2⟩ := HCI.out.new j y (by omega) hj
          exact ⟨h1, h2⟩
      | succ gk =>
        have hlt : k < xs.length := by omega
        have hl := sameLen HCI.out.same
        have e3 : decide ((k : Int) < (xs.length : Int)) = true := decide_eq_true (by omega)
        obtain ⟨y, hy⟩ : ∃ y, ys[k]? = some y := ⟨_, List.getElem?_eq_getElem (by omega)⟩
        have hxy : xs[k]? = some y := by rw [← HCI.out.old k (Nat.le_refl _)]; exact hy
        have hload := load_item_msg (x := y) (row_item HCI.out.row hy)
        have hpl : PL wr wr.heap.size y.a y.f.m.props := ((HS.out.2 y (List.mem_of_getElem? hxy)).below HCI.out.b0).more HCI.out.b0.size
        have hcall := HM.out y.f.m y.a y.c wr hpl (HP.out y (List.mem_of_getElem? hxy))
        have HLD := Lib.hid hload
        have HCA := Lib.hid hcall
        have HY := Lib.hid hy
        have j1 : (0 : Int) ≤ (k : Int) := by omega
        have j2 : (k : Int) < (xs.length : Int) := by omega
        clear hload hcall hy hxy hpl hl hkg
        go_wp2_with first
          | (refine wpList_load_v (by rfl) 34 _ rfl ⟨g, k * 11 + 2, none⟩ (by simp [Act.eval, Act.put]) _ HLD.out ?_)
        refine HCA.out.mono ?_
        rintro e w2 ⟨a2, c2, rfl, hpl2, hnew2, hb2⟩
        have hrow2 : BK 56 w2 g (ys.flatMap gF ++ sp) := HCI.out.row.step hb2
        have HROW := Lib.hid hrow2
        have HPL2 := Lib.hid hpl2
        have HNEW := Lib.hid hnew2
        have HB2 := Lib.hid hb2
        have hfit : k * 11 + 2 + 9 ≤ (ys.flatMap gF ++ sp).length := by
          rw [List.length_append, flat_len gF_len, sameLen HCI.out.same]
          omega
        clear hrow2 hpl2 hnew2 hb2 HLD HCA
        go_wp2_with first
          | (refine wpList_store_in (by rfl) 34 (.tmp 21) (.tmp 19) rfl rfl g (k * 11 + 2) 9 (by simp [Act.eval]) (msgV y.f.m a2 c2) rfl 56 (ys.flatMap gF ++ sp) (msgC y.f.m a2 c2) HROW.out rfl rfl msgSize hfit (msgC_one _ _ _) ?_; intro w3 hM hP; have M3 := Lib.hid hM; have P3 := Lib.hid hP; clear hM hP)
        go_roundg gk
        case measure => omega
        case rel =>
          refine ⟨k + 1, ys.set k ⟨y.f, a2, c2⟩, by have := HK.out; omega, by go_num, ?_⟩
          have hput := put_item HY.out y.f.m a2 c2 sp
          obtain ⟨hbg, hnc, hcm, hcs⟩ := HG.out
          have hz2 := HB2.out.size
          have hz1 := HCI.out.b1
          have hz3 := P3.out.size
          have hgl := HGL.out
          refine ⟨?_, by rw [← hput]; exact M3.out, fun j z hj hz => ?_, fun j hj => ?_, P3.out.below (stepB HCI.out.b0 HB2.out) hbg, by omega⟩
          · rw [List.map_set, HCI.out.same]
            have : (xs.map FE.f)[k]? = some y.f := by rw [← HCI.out.same, List.getElem?_map, HY.out]; rfl
            have hlk := (List.getElem?_eq_some_iff.1 this)
            obtain ⟨hk, e⟩ := hlk
            conv => lhs; rw [← e]
            exact List.set_getElem_self hk
          · rw [List.getElem?_set] at hz
            split at hz
            · next e =>
              split at hz
              · obtain rfl := Option.some.inj hz
                refine ⟨?_, fun b o e => Nat.le_trans hz1 (HNEW.out b o e)⟩
                rw [hz3]
                exact PL.put HPL2.out P3.out (fun b o e => by have := HNEW.out b o e; omega)
              · cases hz
            · next hne =>
              obtain ⟨h1, h2⟩ := HCI.out.new j z (by omega) hz
              refine ⟨?_, h2⟩
              rw [hz3]
              exact PL.put (h1.step HB2.out) P3.out (fun b o e => by have := h2 b o e; omega)
          · rw [List.getElem?_set_ne (by omega)]
            exact HCI.out.old j (by omega)
end Go.Proofs.YtmcocepjdhpecabGreatDoor
namespace Go.Proofs.YtmcocepjdhpecabGreatDoor
open Go.RowKit
open S2 (BK Put)

theorem bk_msg {w : World} {g : Nat} {x : FE} (h : BK 56 w g (gF x)) : (loadVar 34 ⟨g, 2, none⟩).run Tryz.prog w = .ok (msgV x.f.m x.a x.c) w :=
  load_item_msg (o := 0) (fun i v hv => by rw [Nat.zero_add]; exact h.cell i hv)
theorem bk_item {w : World} {g : Nat} {x : FE} (h : BK 56 w g (gF x)) : (loadVar 56 ⟨g, 0, none⟩).run Tryz.prog w = .ok (fV x) w :=
  load_item (o := 0) (fun i v hv => by rw [Nat.zero_add]; exact h.cell i hv)
abbrev zeroPk : List Value := pkC Pkt.zero PA.zero
theorem pkOnes (p : Pkt) (a : PA) : ∀ u ∈ pkC p a, u.oneCell' = true := ones rfl
/-- a packet that a call answers, its message's properties in memory of their own -/
def RetK (p : Pkt) (W : World) (e : Ending) (w' : World) : Prop := ∃ a c, e = .returned (pkV p (pubA a c)) ∧ PL w' w'.heap.size a p.msg.props ∧ NewL W.heap.size a ∧ Below W.heap.size W w'

set_option maxRecDepth 20000 in
set_option maxHeartbeats 4000000 in
theorem pubrel_any (n : Int) (w : World) : Calls Tryz.prog 35 #[.int .i64 n] w fun e w' => e = .returned (pkV (relP n) PA.zero) ∧ Below w.heap.size w w' := by
  go_enter Tryz.func35, Tryz.ntmps35
  go_wp2_with first
    | (refine S2.wpList_store_all (by rfl) 42 (.tmp 2) (.tmp 4) rfl rfl w.heap.size rfl (pkC (relP n) PA.zero) rfl 42 zeroPk (BK.new w _ _) pktSize rfl (pkOnes _ _) ?_; intro w1 hM hP; have M1 := Lib.hid hM; have B1 := Lib.hid (hP.below (S2.below_new w _) (Nat.le_refl _)); clear hM hP)
  exact bodyPost_ret (v := pkV (relP n) PA.zero) (S2.res_cell rfl _ _ w.heap.size 42 (pkC (relP n) PA.zero) _ rfl M1.out Tryz.underlying42 rfl pktSize) rfl ⟨rfl, B1.out⟩

set_option maxRecDepth 20000 in
set_option maxHeartbeats 4000000 in
theorem publish_any (x : FE) (w : World) (hsl : PL w w.heap.size x.a x.f.m.props) (hn : x.f.m.props.length ≤ 100000) : Calls Tryz.prog 23 #[fV x] w (RetK (pubP x.f false) w) := by
  have HC := Lib.hid (fun w1 h => cloneMessage_any x.f.m x.a x.c w1 h hn)
  have HS := Lib.hid hsl
  clear hsl hn
  unfold fV
  go_enter Tryz.func23, Tryz.ntmps23
  go_upto_region 1 with fail
  refine name_world (C := fun w1 => Code.wp _ _ _ _ w1) ((w.alloc (.cells (gF x).toArray 56)).alloc (.cells zeroPk.toArray 42)) ?_
  intro w1 hw1
  obtain ⟨t1, t2, hs0, hB0⟩ := S2.two_laid (v1 := gF x) (v2 := zeroPk) hw1
  have HZ := Lib.hid hs0
  clear hw1 hs0
  have B_w1 : Hid (Below w.heap.size w w1) := Lib.hid (hB0)
  have M_w1 : Hid (BK 56 w1 w.heap.size (gF x)) := Lib.hid (t1)
  have K_w1 : Hid (BK 42 w1 (w.heap.size + 1) zeroPk) := Lib.hid (t2)
  have P_w1 : Hid (PL w1 w1.heap.size x.a x.f.m.props) := Lib.hid (HS.out.step hB0)
  clear t1 t2 hB0
  have HZ1 : Hid (w.heap.size + 2 ≤ w1.heap.size) := Lib.hid (by have := HZ.out; omega)
  have HZW : Hid ((World.drew w1).heap.size = w1.heap.size) := Lib.hid rfl
  obtain ⟨x1, hx1⟩ : ∃ x1, x1 = World.drew w1 := ⟨_, rfl⟩
  have hbD : Below w1.heap.size w1 x1 := by rw [hx1]; exact (Below.refl _ _).drew
  have B_x1 : Hid (Below w.heap.size w x1) := Lib.hid (stepB B_w1.out hbD)
  have M_x1 : Hid (BK 56 x1 w.heap.size (gF x)) := Lib.hid (M_w1.out.step hbD)
  have K_x1 : Hid (BK 42 x1 (w.heap.size + 1) zeroPk) := Lib.hid (K_w1.out.step hbD)
  have P_x1 : Hid (PL x1 x1.heap.size x.a x.f.m.props) := Lib.hid (P_w1.out.step hbD)
  clear B_w1 M_w1 K_w1 P_w1
  have hbd : (fun w' => BK 56 w' w.heap.size (gF x)) (World.drew w1) := by rw [← hx1]; exact M_x1.out
  have hSD : (fun w' => BK 56 w' w.heap.size (gF x)) x1 := M_x1.out
  have HWD := Lib.hid hx1
  clear hx1 hbD
  refine wp_region_held_drew (S := fun w' => BK 56 w' w.heap.size (gF x)) (by kernel_rfl) hbd (fun hHeld => ?_)
  rw [← HWD.out]
  clear hHeld
  have hHeld := hSD
  clear hSD hbd HWD
  refine wpAnyH_take (i := 0) (v := .pointer (some ⟨w.heap.size, 0, none⟩)) (get_ops _ _ _ rfl) (by kernel_rfl) (by kernel_rfl) (by kernel_rfl) (fun _ _ _ h => h) (Or.inl ⟨by rfl, fun wS hSw => by (try dsimp only at hSw); go_simp⟩) hHeld ?_
  try simp only [Act.put, List.setIfInBounds_toArray, List.set_cons_zero, List.set_cons_succ]
  refine wpAnyH_take (i := 1) (v := .int .i64 x.f.id) (get_ops _ _ _ rfl) (by kernel_rfl) (by kernel_rfl) (by kernel_rfl) (fun _ _ _ h => h) (Or.inl ⟨by rfl, fun wS hSw => by (try dsimp only at hSw); have cS : wS.cell? ⟨w.heap.size, 0, none⟩ = some (.int .i64 x.f.id) := hSw.cell 0 rfl; clear hSw; go_simp⟩) hHeld ?_
  try simp only [Act.put, List.setIfInBounds_toArray, List.set_cons_zero, List.set_cons_succ]
  refine wpAnyH_take (i := 2) (v := .pointer (some ⟨w.heap.size, 2, none⟩)) (get_ops _ _ _ rfl) (by kernel_rfl) (by kernel_rfl) (by kernel_rfl) (fun _ _ _ h => h) (Or.inl ⟨by rfl, fun wS hSw => by (try dsimp only at hSw); go_simp⟩) hHeld ?_
  try simp only [Act.put, List.setIfInBounds_toArray, List.set_cons_zero, List.set_cons_succ]
  refine wpAnyH_take (i := 3) (v := msgV x.f.m x.a x.c) (get_ops _ _ _ rfl) (by kernel_rfl) (by kernel_rfl) (by kernel_rfl) (fun _ _ _ h => h) (Or.inl ⟨by rfl, fun wS hSw => by (try dsimp only at hSw); exact exec_load 34 _ rfl ⟨w.heap.size, 2, none⟩ (by go_simp) _ (bk_msg hSw)⟩) hHeld ?_
  try simp only [Act.put, List.setIfInBounds_toArray, List.set_cons_zero, List.set_cons_succ]
  refine wpAnyH_ready (rs := [4]) (by kernel_rfl) (by simp) ?_
  refine (AllReadyH.cons (get_ops _ _ _ rfl) (fun K hK => ?_) AllReadyH.nil)
  have HZO : Hid (w1.heap.size ≤ x1.heap.size) := Lib.hid (by have := M_x1.out.lt; have := K_x1.out.lt; have := HZ.out; omega)
  go_simp
  refine (HC.out x1 P_x1.out).mono ?_
  rintro e x2 ⟨a2, c2, rfl, hpl2, hnew2, hb⟩
  have B_x2 : Hid (Below w.heap.size w x2) := Lib.hid (stepB B_x1.out hb)
  have M_x2 : Hid (BK 56 x2 w.heap.size (gF x)) := Lib.hid (M_x1.out.step hb)
  have K_x2 : Hid (BK 42 x2 (w.heap.size + 1) zeroPk) := Lib.hid (K_x1.out.step hb)
  have P_x2 : Hid (PL x2 x2.heap.size x.a x.f.m.props) := Lib.hid (P_x1.out.step hb)
  clear B_x1 M_x1 K_x1 P_x1
  have HZD : Hid (w.heap.size + 2 ≤ x1.heap.size) := Lib.hid (by have := HZ1.out; have := HZO.out; omega)
  clear P_x2
  have HNW := Lib.hid hnew2
  have HP2 := Lib.hid hpl2
  clear hpl2 hnew2
  have HZ2 := Lib.hid hb.size
  clear hHeld hb
  go_wp2_with fail
  refine hK.out _ _ M_x2.out (fun hHeld => ?_)
  clear hK K
  try simp only [Act.put, List.setIfInBounds_toArray, List.set_cons_zero, List.set_cons_succ]
  refine wpAnyH_take (i := 5) (v := pkV (pubP x.f false) (pubA a2 c2)) (get_ops _ _ _ rfl) (by kernel_rfl) (by kernel_rfl) (by kernel_rfl) (fun _ _ _ h => h) (Or.inl ⟨by rfl, fun wS hSw => by (try dsimp only at hSw); simp only [msgV]; go_simp; rfl⟩) hHeld ?_
  try simp only [Act.put, List.setIfInBounds_toArray, List.set_cons_zero, List.set_cons_succ]
  refine wpAnyH_ready (rs := [6]) (by kernel_rfl) (by simp) ?_
  refine (AllReadyH.cons (get_ops _ _ _ rfl) (fun K hK => ?_) AllReadyH.nil)
  refine S2.wp_store_all 42 _ _ rfl rfl (w.heap.size + 1) (by go_simp) (pkC (pubP x.f false) (pubA a2 c2)) (by first | rfl | go_simp) 42 zeroPk K_x2.out pktSize rfl (pkOnes _ _) ?_
  intro x3 hM hP
  have HPUT := Lib.hid hP
  have HZS := Lib.hid hP.size
  have K_x3 : Hid (BK 42 x3 (w.heap.size + 1) (pkC (pubP x.f false) (pubA a2 c2))) := Lib.hid (hM)
  have B_x3 : Hid (Below w.heap.size w x3) := Lib.hid (hP.below B_x2.out (by omega))
  have M_x3 : Hid (BK 56 x3 w.heap.size (gF x)) := Lib.hid (hP.other M_x2.out (by omega))
  clear B_x2 M_x2 K_x2
  clear hM hP hHeld
  refine hK.out _ _ M_x3.out (fun hHeld => ?_)
  clear hK K
  try simp only [Act.put, List.setIfInBounds_toArray, List.set_cons_zero, List.set_cons_succ]
  refine wpAnyH_done (by kernel_rfl) ?_ _
  go_wp2_with fail
  refine bodyPost_ret (v := pkV (pubP x.f false) (pubA a2 c2)) (S2.res_cell rfl _ _ (w.heap.size + 1) 42 (pkC (pubP x.f false) (pubA a2 c2)) _ rfl K_x3.out Tryz.underlying42 rfl pktSize) rfl ⟨a2, c2, rfl, ?_, ?_, B_x3.out⟩
  · have hz := HZS.out
    rw [hz]
    exact PL.put HP2.out HPUT.out (fun b o e => by have := HNW.out b o e; have := HZD.out; omega)
  · intro b o e
    have := HNW.out b o e
    have := HZD.out
    omega
end Go.Proofs.YtmcocepjdhpecabGreatDoor
namespace Go.Proofs.YtmcocepjdhpecabGreatDoor
open Go.RowKit
open S2 (BK Put)

set_option maxRecDepth 20000 in
set_option maxHeartbeats 1000000 in
theorem new_any (n : Int) (w : World) : Calls Tryz.prog 4 #[.int .i64 n] w fun e w' => e = .returned (wv (limR n) none 0 [] none 0 [] 0) ∧ Below w.heap.size w w' := by
  obtain ⟨r, hr⟩ : ∃ r, limR n = r := ⟨_, rfl⟩
  rw [hr]
  unfold limR at hr
  have h1 : (if (32 : Int) < n then 32 else n) = min n 32 := by rw [Int.min_def]; split <;> split <;> omega
  have HR : Hid (max 0 (min n 32) = r) := Lib.hid (by rw [← hr, Int.max_def, Int.min_def]; split <;> split <;> split <;> omega)
  clear hr h1
  go_enter Tryz.func4, Tryz.ntmps4
  go_wp2_with fail
  rw [HR.out]
  exact bodyPost_ret (v := wv r none 0 [] none 0 [] 0) (S2.res_cell rfl _ _ w.heap.size 28 (wcs r none 0 [] none 0 [] 0) _ rfl (BK.new w _ _) Tryz.underlying28 rfl winSize) rfl ⟨rfl, S2.below_new w _⟩

set_option maxRecDepth 20000 in
set_option maxHeartbeats 1000000 in
theorem left_any (L : Int) (A : Option Addr) (c : Nat) (xs : List FE) (A2 : Option Addr) (c2 : Nat) (X : List Int) (l : Int) (w : World) (h0 : 0 ≤ L) (h1 : L ≤ 32) (h2 : xs.length ≤ 32) :
    Calls Tryz.prog 18 #[wv L A c xs A2 c2 X l] w fun e w' => e = .returned (.int .i64 (leftR L xs.length)) ∧ Below w.heap.size w w' := by
  go_enter Tryz.func18, Tryz.ntmps18
  go_wp2_with fail
  go_ret
  exact ⟨S2.ret_i (by unfold leftR; rw [Int.max_def]; split <;> split <;> omega), S2.below_new w _⟩

set_option maxRecDepth 20000 in
set_option maxHeartbeats 1000000 in
theorem awaits_any (x : FE) (k : Int) (w : World) : Calls Tryz.prog 33 #[fV x, .int .i64 k] w fun e w' => e = .returned (.bool (awaitsR x.f k)) ∧ Below w.heap.size w w' := by
  unfold fV
  have k1 : (gF x)[1]? = some (.int .i64 x.f.st) := rfl
  have k4 : (gF x)[4]? = some (.int .i64 x.f.m.level) := rfl
  have HB := Lib.hid (S2.below_new w (.cells (gF x).toArray 56))
  by_cases h4 : k = 4
  · subst h4
    have HA : Hid (awaitsR x.f 4 = (x.f.m.level == 1)) := Lib.hid rfl
    go_enter Tryz.func33, Tryz.ntmps33
    go_wp2
    go_ret
    exact ⟨retb HA.out.symm, HB.out⟩
  have q4 : (k == 4) = false := by simp [h4]
  by_cases h5 : k = 5
  · subst h5
    have HA : Hid (awaitsR x.f 5 = (x.f.m.level == 2)) := Lib.hid rfl
    clear h4
    go_enter Tryz.func33, Tryz.ntmps33
    go_wp2
    go_ret
    exact ⟨retb HA.out.symm, HB.out⟩
  have q5 : (k == 5) = false := by simp [h5]
  have HA : Hid (awaitsR x.f k = ((x.f.m.level == 2) && (x.f.st == 2))) := Lib.hid (by unfold awaitsR; rw [if_neg h4, if_neg h5]; rfl)
  clear h4 h5
  cases q : (x.f.m.level == 2)
  · rw [q] at HA
    go_enter Tryz.func33, Tryz.ntmps33
    go_wp2
    go_ret
    exact ⟨retb HA.out.symm, HB.out⟩
  · rw [q] at HA
    go_enter Tryz.func33, Tryz.ntmps33
    go_wp2
    go_ret
    exact ⟨retb HA.out.symm, HB.out⟩

theorem posF_at {F : List Fl} {n : Int} {k : Nat} {x : Fl} (hx : F[k]? = some x) (hid : x.id = n) (hb : ∀ j y, j < k → F[j]? = some y → y.id ≠ n) : posF F n = k := by
  unfold posF
  obtain ⟨hk, e⟩ := List.getElem?_eq_some_iff.1 hx
  rw [List.findIdx_eq hk]
  refine ⟨by rw [e]; simp [hid], fun j hj => ?_⟩
  have := hb j _ hj (List.getElem?_eq_getElem (by omega))
  simpa using this
theorem posF_none {F : List Fl} {n : Int} (hb : ∀ j y, j < F.length → F[j]? = some y → y.id ≠ n) : posF F n = F.length := by
  unfold posF
  rw [List.findIdx_eq_length]
  intro x hx
  obtain ⟨j, hj⟩ := List.mem_iff_getElem?.1 hx
  have := hb j x (List.getElem?_eq_some_iff.1 hj).1 hj
  simpa using this

set_option maxRecDepth 20000 in
set_option maxHeartbeats 1000000 in
theorem position_any (L : Int) (A : Option Addr) (c : Nat) (xs : List FE) (A2 : Option Addr) (c2 : Nat) (X : List Int) (l n : Int) (w : World) (hsl : FI w w.heap.size A xs) (h2 : xs.length ≤ 100000) :
    Calls Tryz.prog 32 #[wv L A c xs A2 c2 X l, .int .i64 n] w fun e w' => e = .returned (.int .i64 (posF (xs.map FE.f) n : Nat)) ∧ Below w.heap.size w w' := by
  have HS := Lib.hid (hsl.step (S2.below_new w (.cells (wcs L A c xs A2 c2 X l).toArray 28)))
  have HB := Lib.hid (S2.below_new w (.cells (wcs L A c xs A2 c2 X l).toArray 28))
  have HM : Hid (BK 28 (w.alloc (.cells (wcs L A c xs A2 c2 X l).toArray 28)) w.heap.size (wcs L A c xs A2 c2 X l)) := Lib.hid (BK.new w _ _)
  clear hsl
  go_enter Tryz.func32, Tryz.ntmps32
  go_upto_region 1 with fail
  refine name_world (C := fun w1 => Code.wp _ _ _ _ w1) (w.alloc (.cells (wcs L A c xs A2 c2 X l).toArray 28)) ?_
  generalize w.alloc (.cells (wcs L A c xs A2 c2 X l).toArray 28) = w0 at HS HB HM
  intro w1 hw1
  subst hw1
  have d1 := HM.out.cell 1 rfl
  go_wp2_with fail
  go_loopg [9] xs.length (fun g v wr => ∃ k : Nat, k + g = xs.length ∧ v = .int .i64 k ∧ (∀ j y, j < k → (xs.map FE.f)[j]? = some y → y.id ≠ n) ∧ wr = w1)
  case atStart => exact ⟨0, by omega, rfl, fun j y h => absurd h (by omega), rfl⟩
  case round =>
    obtain ⟨k, hkg, rfl, hrel, rfl⟩ := hrel
    have HREL := Lib.hid hrel
    have HK := Lib.hid hkg
    clear hrel
    cases gk with
    | zero =>
      obtain rfl : k = xs.length := by omega
      have HF : Hid (posF (xs.map FE.f) n = xs.length) := Lib.hid (by rw [posF_none (by rw [List.length_map]; exact HREL.out), List.length_map])
      clear hkg
      go_wp2
      go_ret
      exact ⟨S2.ret_i (by rw [HF.out]), HB.out⟩
    | succ g =>
      have hlt : k < xs.length := by omega
      have e3 : decide ((k : Int) < (xs.length : Int)) = true := decide_eq_true (by omega)
      obtain ⟨x, hx⟩ : ∃ x, xs[k]? = some x := ⟨_, List.getElem?_eq_getElem hlt⟩
      obtain ⟨b, o, hA, hbB, hc, _⟩ := HS.out.at_ hx
      subst hA
      have kv := hc 0 _ rfl
      rw [Nat.add_zero] at kv
      have j1 : (0 : Int) ≤ (k : Int) := by omega
      have j2 : (k : Int) < (xs.length : Int) := by omega
      have hfx : (xs.map FE.f)[k]? = some x.f := by rw [List.getElem?_map, hx]; rfl
      by_cases hid : x.f.id = n
      · have q : (x.f.id == n) = true := by simp [hid]
        have HF : Hid (posF (xs.map FE.f) n = k) := Lib.hid (posF_at hfx hid HREL.out)
        clear hx hfx hid hc hbB hkg hlt
        go_wp2
        go_ret
        exact ⟨S2.ret_i (by rw [HF.out]), HB.out⟩
      · have q : (x.f.id == n) = false := by simp [hid]
        have HR2 : Hid (∀ j y, j < k + 1 → (xs.map FE.f)[j]? = some y → y.id ≠ n) := Lib.hid (fun j y hj hy => by
          by_cases e : j = k
          · subst e; rw [hfx] at hy; rw [← Option.some.inj hy]; exact hid
          · exact HREL.out j y (by omega) hy)
        clear hx hfx hid hc hbB hkg hlt
        go_wp2
        go_roundg g
        case measure => omega
        case rel => exact ⟨k + 1, by have := HK.out; omega, by go_num, HR2.out, rfl⟩

set_option maxRecDepth 20000 in
set_option maxHeartbeats 1000000 in
theorem again_any (x : FE) (w : World) (hsl : PL w w.heap.size x.a x.f.m.props) (hn : x.f.m.props.length ≤ 100000) : Calls Tryz.prog 69 #[fV x] w (RetK (againP x.f) w) := by
  have HP := Lib.hid (fun w1 h => publish_any x w1 h hn)
  have HR := Lib.hid (fun w1 => pubrel_any x.f.id w1)
  have HS := Lib.hid hsl
  clear hsl hn
  by_cases hst : x.f.st = 2
  · have q : (x.f.st == 2) = true := by simp [hst]
    have HA : Hid (againP x.f = relP x.f.id) := Lib.hid (by unfold againP; rw [if_pos hst])
    clear hst
    unfold fV
    go_enter Tryz.func69, Tryz.ntmps69
    go_upto_region 1 with fail
    refine name_world (C := fun w1 => Code.wp _ _ _ _ w1) ((w.alloc (.cells (gF x).toArray 56)).alloc (.cells zeroPk.toArray 42)) ?_
    intro w1 hw1
    obtain ⟨t1, t2, hs0, hB0⟩ := S2.two_laid (v1 := gF x) (v2 := zeroPk) hw1
    have T2 := Lib.hid t2
    have HB := Lib.hid hB0
    have d0 := t1.cell 0 rfl
    have d1 := t1.cell 1 rfl
    clear hw1 t1 t2 hs0 hB0
    go_wp2_with fail
    refine (HR.out w1).mono ?_
    rintro e w2 ⟨rfl, hb⟩
    have U2 := Lib.hid (T2.out.step hb)
    have HB2 := Lib.hid (stepB HB.out hb)
    clear hb d0 d1 T2 HB
    go_wp2_with first
      | (refine S2.wpList_store_all (by rfl) 42 (.tmp 2) (.tmp 9) rfl rfl (w.heap.size + 1) rfl (pkC (relP x.f.id) PA.zero) rfl 42 zeroPk U2.out pktSize rfl (pkOnes _ _) ?_; intro w3 hM hP; have M3 := Lib.hid hM; have B3 := Lib.hid (hP.below HB2.out (by omega)); clear hM hP)
    rw [HA.out]
    exact bodyPost_ret (v := pkV (relP x.f.id) (pubA none 0)) (S2.res_cell rfl _ _ (w.heap.size + 1) 42 (pkC (relP x.f.id) PA.zero) _ rfl M3.out Tryz.underlying42 rfl pktSize) rfl ⟨none, 0, rfl, GL.nil _ _ _, (fun b o e => by cases e), B3.out⟩
  · have q : (x.f.st == 2) = false := by simp [hst]
    have HA : Hid (againP x.f = pubP x.f true) := Lib.hid (by unfold againP; rw [if_neg hst])
    clear hst
    unfold fV at HP ⊢
    go_enter Tryz.func69, Tryz.ntmps69
    go_upto_region 1 with fail
    refine name_world (C := fun w1 => Code.wp _ _ _ _ w1) ((w.alloc (.cells (gF x).toArray 56)).alloc (.cells zeroPk.toArray 42)) ?_
    intro w1 hw1
    obtain ⟨t1, t2, hs0, hB0⟩ := S2.two_laid (v1 := gF x) (v2 := zeroPk) hw1
    have T1 := Lib.hid t1
    have T2 := Lib.hid t2
    have HB := Lib.hid hB0
    have HZ := Lib.hid hs0
    have d1 := t1.cell 1 rfl
    clear hw1 t1 t2 hs0 hB0
    go_wp2_with first
      | (refine wpList_load_v (by rfl) 56 (.tmp 1) rfl ⟨w.heap.size, 0, none⟩ rfl (.agg (gF x).toArray) (bk_item T1.out) ?_)
    refine (HP.out w1 (HS.out.step HB.out)).mono ?_
    rintro e w2 ⟨a2, c2, rfl, hpl2, hnew2, hb⟩
    have U2 := Lib.hid (T2.out.step hb)
    have HB2 := Lib.hid (stepB HB.out hb)
    have HPL := Lib.hid hpl2
    have HNW := Lib.hid hnew2
    have HZ2 := Lib.hid hb.size
    clear hb d1 T2 T1 HB hpl2 hnew2
    go_upto_region 4 with first
      | (refine S2.wpList_store_all (by rfl) 42 (.tmp 3) (.tmp 11) rfl rfl w2.heap.size rfl (pkC (pubP x.f false) (pubA a2 c2)) rfl 42 zeroPk (BK.new w2 _ _) pktSize rfl (pkOnes _ _) ?_; intro w3 hM hP; have M3 := Lib.hid hM; have N3 := Lib.hid (hP.other (U2.out.alloc _) (by have := U2.out.lt; omega)); have B3 := Lib.hid (hP.below (stepB HB2.out (S2.below_new w2 _)) HB2.out.size); have L3 : Hid (PL w3 w3.heap.size a2 x.f.m.props) := Lib.hid (HPL.out.step (hP.below (S2.below_new w2 _) (Nat.le_refl _))); have Z3 : Hid (w3.heap.size = w2.heap.size + 1) := Lib.hid (by rw [hP.size]; simp); clear hM hP)
    have g2 := M3.out.cell 2 rfl
    have f2 := M3.out.free 2
    go_upto_region 5 with fail
    refine name_world (C := fun w4 => Code.wp _ _ _ _ w4) (w3.setCell ⟨w2.heap.size, 2, none⟩ (.bool true)) ?_
    intro w4 hw4
    have M4 : Hid (BK 42 w4 w2.heap.size (pkC (pubP x.f true) (pubA a2 c2))) := Lib.hid (by rw [hw4]; exact M3.out.set 2 _)
    have N4 : Hid (BK 42 w4 (w.heap.size + 1) zeroPk) := Lib.hid (by rw [hw4]; exact N3.out.other (by show w.heap.size + 1 ≠ w2.heap.size; have := U2.out.lt; omega) _)
    have B4 : Hid (Below w.heap.size w w4) := Lib.hid (by rw [hw4]; exact B3.out.setCell (p := ⟨w2.heap.size, 2, none⟩) HB2.out.size _)
    have Z4 : Hid (w4.heap.size = w3.heap.size) := Lib.hid (by rw [hw4]; simp)
    have L4 : Hid (PL w4 w4.heap.size a2 x.f.m.props) := Lib.hid (by
      intro hn
      obtain ⟨b, o, e, hb, hc⟩ := HPL.out hn
      obtain ⟨b', o', e', _, hc'⟩ := L3.out hn
      refine ⟨b', o', e', by rw [Z4.out, Z3.out]; rw [e] at e'; simp only [Option.some.injEq, Addr.mk.injEq, and_true] at e'; omega, fun j y i v hy hv => ?_⟩
      rw [hw4, S2.set_other _ _ _ _ _ (by rw [e] at e'; simp only [Option.some.injEq, Addr.mk.injEq, and_true] at e'; show b' ≠ w2.heap.size; omega)]
      exact hc' j y i v hy hv)
    clear hw4 g2 f2 M3 N3 B3 L3
    go_wp2_with first
      | (refine wpList_load_v (by rfl) 42 (.tmp 3) rfl ⟨w2.heap.size, 0, none⟩ rfl (pkV (pubP x.f true) (pubA a2 c2)) (S2.run_load_all M4.out Tryz.underlying42 rfl pktSize) ?_)
      | (refine S2.wpList_store_all (by rfl) 42 (.tmp 2) (.tmp 13) rfl rfl (w.heap.size + 1) rfl (pkC (pubP x.f true) (pubA a2 c2)) rfl 42 zeroPk N4.out pktSize rfl (pkOnes _ _) ?_; intro w5 hM hP; have M5 := Lib.hid hM; have P5 := Lib.hid hP; clear hM hP)
    rw [HA.out]
    refine bodyPost_ret (v := pkV (pubP x.f true) (pubA a2 c2)) (S2.res_cell rfl _ _ (w.heap.size + 1) 42 (pkC (pubP x.f true) (pubA a2 c2)) _ rfl M5.out Tryz.underlying42 rfl pktSize) rfl ⟨a2, c2, rfl, ?_, fun b o e => by have := HNW.out b o e; have := HZ.out; omega, P5.out.below B4.out (by omega)⟩
    rw [P5.out.size]
    exact PL.put L4.out P5.out (fun b o e => by have := HNW.out b o e; have := HZ.out; omega)
end Go.Proofs.YtmcocepjdhpecabGreatDoor
namespace Go.Proofs.YtmcocepjdhpecabGreatDoor
open Go.RowKit
open S2 (BK Put)

theorem S2.Put.refl (g : Nat) (w : World) : Put g w w := ⟨fun h _ => h, fun h _ => h, rfl, fun _ => rfl⟩
theorem S2.Put.trans {g : Nat} {a b c : World} (h : Put g a b) (k : Put g b c) : Put g a c := ⟨fun hM hne => k.other (h.other hM hne) hne, fun hb hg => k.below (h.below hb hg) hg, k.size.trans h.size, fun hp => (k.cell hp).trans (h.cell hp)⟩
theorem S2.Put.drew {g : Nat} {a b : World} (h : Put g a b) : Put g a b.drew := ⟨fun hM hne => (h.other hM hne).drew, fun hb hg => (h.below hb hg).drew, h.size, fun hp => h.cell hp⟩
theorem size_sets (g : Nat) : ∀ (vs : List Value) (o : Nat) (w : World), (w.setCells g o vs).heap.size = w.heap.size
  | [], _, _ => rfl
  | v :: r, o, w => by rw [World.setCells, size_sets g r]; simp
theorem S2.Put.sets {g : Nat} {a b : World} (h : Put g a b) (o : Nat) (vs : List Value) : Put g a (b.setCells g o vs) :=
  ⟨fun hM hne => S2.bk_sets_other hne vs o b _ (h.other hM hne), fun hb hg => S2.below_sets hg vs o b (h.below hb hg), (size_sets g vs o b).trans h.size, fun {p} hp => (World.cell?_setCells_out g vs o b p (fun e => absurd e hp)).trans (h.cell hp)⟩

theorem run_clearF (w : World) (ty : TypeId) (b o c : Nat) (hc : ∀ j, j < 11 → (w.cell? ⟨b, o + j, none⟩).isSome = true) (hf : ∀ j, j < 11 → w.frozen? ⟨b, o + j, none⟩ = false) :
    (Builtin.clear_ #[23] ty #[.slice (some ⟨b, o, none⟩) 1 c]).run Tryz.prog w = .ok (.tuple #[]) (w.setCells b o (gF FE.zero)) := by
  have hzc : (Builtin.zeroCells (Value.cells (.agg (gF FE.zero).toArray)) 1).toList = gF FE.zero := by kernel_rfl
  have hv := Tryz.zeroValue56
  have hst := run_storeCells_cells (P := Tryz.prog) b o (gF FE.zero) 0 w (by simpa [gF_len] using hc) (by simpa [gF_len] using hf) (gF_one FE.zero)
  simp only [Nat.add_zero] at hst
  have hv' : ∀ w, (zeroValue 56).run Tryz.prog w = .ok (.agg (gF FE.zero).toArray) w := hv
  simp [Builtin.clear_, run_underlying Tryz.underlying23, hv', hzc, hst]

theorem erase_eq {α : Type} (xs : List α) (i : Nat) : xs.eraseIdx i = xs.take i ++ xs.drop (i + 1) := List.eraseIdx_eq_take_drop_succ ..

set_option maxRecDepth 20000 in
set_option maxHeartbeats 1000000 in
theorem deleteF_any (g cap i : Nat) (xs : List FE) (sp : List Value) (W : World) (hg : BK 56 W g (xs.flatMap gF ++ sp)) (hi : i < xs.length) (hn : xs.length ≤ cap) (hcs : (xs.flatMap gF ++ sp).length = cap * 11) :
    Calls Tryz.prog 65 #[.slice (some ⟨g, 0, none⟩) xs.length cap, .int .i64 i, .int .i64 ((i : Int) + 1)] W fun e w' => ∃ sp', e = .returned (.slice (some ⟨g, 0, none⟩) (xs.eraseIdx i).length cap) ∧ BK 56 w' g ((xs.eraseIdx i).flatMap gF ++ sp') ∧ ((xs.eraseIdx i).flatMap gF ++ sp').length = cap * 11 ∧ Put g W w' := by
  obtain ⟨i0, hi0, hz0, hzs, hzb⟩ := info_parts flInfo
  obtain ⟨A, hA, hAe⟩ : ∃ A : Addr, (if cap = i + 1 then some (⟨g, 0, none⟩ : Addr) else some ⟨g, (i + 1) * 11, none⟩) = some A ∧ (i + 1 < cap → A = ⟨g, (i + 1) * 11, none⟩) := by
    by_cases h : cap = i + 1
    · exact ⟨⟨g, 0, none⟩, by rw [if_pos h], fun h' => by omega⟩
    · exact ⟨⟨g, (i + 1) * 11, none⟩, by rw [if_neg h], fun _ => rfl⟩
  have hel : (xs.eraseIdx i).length = xs.length - 1 := by rw [List.length_eraseIdx, if_pos hi]
  obtain ⟨news, hnews⟩ : ∃ news, news = (xs.drop (i + 1)).flatMap gF := ⟨_, rfl⟩
  have hnl : news.length = (xs.length - (i + 1)) * 11 := by rw [hnews, flat_len gF_len, List.length_drop]
  have htl : ((xs.take i).flatMap gF).length = i * 11 := by rw [flat_len gF_len, List.length_take]; congr 1; omega
  have hspl : xs.flatMap gF = (xs.take i).flatMap gF ++ ((xs.drop i).take 1).flatMap gF ++ news := by
    rw [hnews, ← List.flatMap_append, ← List.flatMap_append, List.append_assoc, ← List.drop_drop, List.take_append_drop, List.take_append_drop]
  have hmid : (((xs.drop i).take 1).flatMap gF).length = 11 := by rw [flat_len gF_len, List.length_take, List.length_drop]; have : min 1 (xs.length - i) = 1 := by omega
                                                                  rw [this]
  obtain ⟨W1, hW1⟩ : ∃ W1, W1 = W.drew.setCells g (0 + i * 11) news := ⟨_, rfl⟩
  obtain ⟨row1, hrow1⟩ : ∃ r : List Value, r = (xs.flatMap gF ++ sp).take (i * 11) ++ news ++ (xs.flatMap gF ++ sp).drop (i * 11 + news.length) := ⟨_, rfl⟩
  have hB1 : BK 56 W1 g row1 := by
    rw [hW1, hrow1, Nat.zero_add]
    exact S2.bk_setCells news (i * 11) W.drew _ hg.drew (by rw [hcs, hnl]; omega)
  have hP1 : Put g W W1 := by rw [hW1]; exact (S2.Put.refl g W).drew.sets _ _
  have hrl1 : row1.length = cap * 11 := by rw [hrow1]; simp only [List.length_append, List.length_take, List.length_drop] at hcs ⊢; omega
  have htake1 : row1.take ((xs.length - 1) * 11) = (xs.eraseIdx i).flatMap gF := by
    have e1 : (xs.flatMap gF ++ sp).take (i * 11) = (xs.take i).flatMap gF := by
      rw [hspl, List.append_assoc, List.append_assoc, ← htl, List.take_left' rfl]
    rw [hrow1, e1, erase_eq, List.flatMap_append, ← hnews]
    have e2 : (xs.length - 1) * 11 = ((xs.take i).flatMap gF ++ news).length := by rw [List.length_append, htl, hnl]; omega
    rw [e2, List.take_left' rfl]
  obtain ⟨W2, hW2⟩ : ∃ W2, W2 = W1.setCells g ((xs.length - 1) * 11) (gF FE.zero) := ⟨_, rfl⟩
  have hB2 : BK 56 W2 g (row1.take ((xs.length - 1) * 11) ++ gF FE.zero ++ row1.drop ((xs.length - 1) * 11 + (gF FE.zero).length)) := by
    rw [hW2]
    exact S2.bk_setCells (gF FE.zero) ((xs.length - 1) * 11) W1 row1 hB1 (by rw [hrl1, gF_len]; omega)
  have hP2 : Put g W W2 := by rw [hW2]; exact hP1.sets _ _
  have hcl : ∀ ty, (Builtin.clear_ #[23] ty #[.slice (some ⟨g, (i + (xs.length - (i + 1))) * 11, none⟩) (xs.length - (i + (xs.length - (i + 1)))) (cap - (i + (xs.length - (i + 1))))]).run Tryz.prog W1 = .ok (.tuple #[]) W2 := fun ty => by
    rw [hW2, show i + (xs.length - (i + 1)) = xs.length - 1 by omega, show xs.length - (xs.length - 1) = 1 by omega]
    exact run_clearF W1 ty g ((xs.length - 1) * 11) _ (fun j hj => by
      obtain ⟨u, hu⟩ : ∃ u, row1[(xs.length - 1) * 11 + j]? = some u := ⟨_, List.getElem?_eq_getElem (by omega)⟩
      rw [hB1.cell _ hu]; rfl) (fun j _ => hB1.free _)
  have s1 : Hid (news.length = (xs.length - (i + 1)) * 11) := Lib.hid hnl
  have s2 : Hid (∀ u ∈ news, u.oneCell' = true) := Lib.hid (fun u hu => by
    rw [hnews] at hu
    obtain ⟨x, _, hx⟩ := List.mem_flatMap.1 hu
    exact gF_one x u hx)
  have s3 : Hid (∀ t, t < news.length → (W.drew.cell? ⟨g, 0 + i * 11 + t, none⟩).isSome = true ∧ W.drew.frozen? ⟨g, 0 + i * 11 + t, none⟩ = false) := Lib.hid (fun t ht => by
    rw [Nat.zero_add]
    obtain ⟨u, hu⟩ : ∃ u, (xs.flatMap gF ++ sp)[i * 11 + t]? = some u := ⟨_, List.getElem?_eq_getElem (by omega)⟩
    exact ⟨by rw [hg.drew.cell _ hu]; rfl, hg.drew.free _⟩)
  have s4 : Hid (∀ j u, news[j]? = some u → W.drew.cell? (A.add j) = some u) := Lib.hid (fun j u hj => by
    have hjl := (List.getElem?_eq_some_iff.1 hj).1
    rw [hAe (by omega), Addr.add_lit]
    refine hg.drew.cell _ ?_
    rw [hspl, List.append_assoc, List.append_assoc, List.getElem?_append_right (by omega), List.getElem?_append_right (by omega), List.getElem?_append_left (by omega), ← hj]
    congr 1
    omega)
  have HW := Lib.hid hW1
  have HB2 := Lib.hid hB2
  have HT := Lib.hid htake1
  have HP2 := Lib.hid hP2
  have HL1 := Lib.hid hrl1
  have HEL := Lib.hid hel
  have q1 : ((i : Int) == (i : Int) + 1) = false := beq_eq_false_iff_ne.2 (by omega)
  have q2 : (0 : Int) ≤ (i : Int) + 1 := by omega
  have q3 : (i : Int) + 1 ≤ (xs.length : Int) := by omega
  have hic : i ≤ cap := by omega
  have hjc : i + 1 ≤ cap := by omega
  have hlast : i + (xs.length - (i + 1)) = xs.length - 1 := by omega
  have HLA := Lib.hid hlast
  clear hB1 hP1 hB2 hP2 hW1 hW2 hrow1 hg hcs hspl hmid htl hnl hAe htake1 hrl1 hel hnews hlast
  go_enter Tryz.func65, Tryz.ntmps65
  go_wp2_with fail
  go_region_law (refine step_append_room rfl (.tmp 22) (.tmp 25) 23 rfl 56 i0 11 Tryz.underlying23 hi0 hzs g 0 i cap (by simp [Act.eval, Act.put]) A (xs.length - (i + 1)) (cap - (i + 1)) news (by simp [Act.eval, Act.put]) s1.out s4.out s2.out (by omega) s3.out ?_; rw [← HW.out])
  go_wp2
  go_ret
  refine ⟨gF FE.zero ++ row1.drop ((xs.length - 1) * 11 + (gF FE.zero).length), by rw [HEL.out, HLA.out]; rfl, ?_, ?_, HP2.out⟩
  · have := HB2.out
    rw [HT.out, List.append_assoc] at this
    exact this
  · have h1 := HL1.out
    have h2 := HEL.out
    rw [← HT.out]
    simp only [List.length_append, List.length_take, List.length_drop, gF_len] at h1 ⊢
    omega
end Go.Proofs.YtmcocepjdhpecabGreatDoor
namespace Go.Proofs.YtmcocepjdhpecabGreatDoor
open Go.RowKit
open S2 (BK Put)

def NewN (B : Nat) (A : Option Addr) (n : Nat) : Prop := 0 < n → NewL B A
/-- a window that a call answers, all its lists new -/
def RetW (r : PW) (W : World) (e : Ending) (w' : World) : Prop := ∃ A c ys A2 c2, e = .returned (wv r.1 A c ys A2 c2 r.2.2.1 r.2.2.2) ∧ ys.map FE.f = r.2.1 ∧ WOk w' A c ys A2 c2 r.2.2.1 ∧ (NewL W.heap.size A ∧ (∀ y ∈ ys, NewL W.heap.size y.a) ∧ NewN W.heap.size A2 r.2.2.1.length) ∧ Below W.heap.size W w'
theorem FI.put {w w' : World} {B g : Nat} {A : Option Addr} {xs : List FE} (h : FI w B A xs) (hp : Put g w w') (hA : ∀ b o, A = some ⟨b, o, none⟩ → b ≠ g) (hx : ∀ x ∈ xs, ∀ b o, x.a = some ⟨b, o, none⟩ → b ≠ g) : FI w' B A xs :=
  ⟨fun hn => by
    obtain ⟨b, o, e, hb, hc⟩ := h.1 hn
    exact ⟨b, o, e, hb, fun j x i v hx hv => (hp.cell (p := ⟨b, o + j * 11 + i, none⟩) (hA b o e)).trans (hc j x i v hx hv)⟩, fun x hxs => PL.put (h.2 x hxs) hp (hx x hxs)⟩
theorem ILput {w w' : World} {g : Nat} {A : Option Addr} {X : List Int} (h : S2.IL w w.heap.size A X) (hp : Put g w w') (hA : 0 < X.length → ∀ b o, A = some ⟨b, o, none⟩ → b ≠ g) : S2.IL w' w'.heap.size A X := S2.IL.put h hp (fun b o e hn => hA hn b o e)
/-- an own row as a list -/
theorem row_fi {w : World} {g : Nat} {xs : List FE} {sp : List Value} (hg : BK 56 w g (xs.flatMap gF ++ sp)) (hp : ∀ x ∈ xs, PL w w.heap.size x.a x.f.m.props) : FI w w.heap.size (some ⟨g, 0, none⟩) xs :=
  ⟨fun _ => ⟨g, 0, rfl, hg.lt, fun j x i v hx hv => by rw [Nat.zero_add]; exact row_item hg hx i v hv⟩, hp⟩
theorem setRel_at {F : List Fl} {i : Nat} {x : Fl} (h : F[i]? = some x) : setRel F i = F.set i { x with st := 2 } := by unfold setRel; rw [h]
theorem setRel_none {F : List Fl} {i : Nat} (h : F[i]? = none) : setRel F i = F := by unfold setRel; rw [h]

theorem bk_pool {w : World} {g : Nat} {L : Int} {A : Option Addr} {c : Nat} {xs : List FE} {A2 : Option Addr} {c2 : Nat} {X : List Int} {l : Int} (h : BK 28 w g (wcs L A c xs A2 c2 X l)) : (loadVar 26 ⟨g, 2, none⟩).run Tryz.prog w = .ok (S2.pv A2 c2 X l) w :=
  run_load_cells w g 2 [.slice A2 X.length c2, .int .i64 l] 26 _ (fun i v hv => h.cell (2 + i) (by
    rw [show (wcs L A c xs A2 c2 X l)[2 + i]? = ([.slice A2 X.length c2, .int .i64 l] : List Value)[i]? by
      match i with
      | 0 => rfl
      | 1 => rfl
      | n + 2 => rw [Nat.add_comm 2 (n + 2)]; rfl]
    exact hv)) Tryz.underlying26 rfl S2.infoP2

set_option maxRecDepth 20000 in
set_option maxHeartbeats 4000000 in
theorem release_any (L : Int) (A : Option Addr) (c : Nat) (xs : List FE) (A2 : Option Addr) (c2 : Nat) (X : List Int) (l : Int) (i : Nat) (w : World) (hw : WOk w A c xs A2 c2 X) (hn : xs.length ≤ 100000) (hp : ∀ x ∈ xs, x.f.m.props.length ≤ 100000) (hX : X.length ≤ 100000) (hi : i ≤ xs.length) :
    Calls Tryz.prog 34 #[wv L A c xs A2 c2 X l, .int .i64 i] w (RetW (relR (L, xs.map FE.f, X, l) i) w) := by
  have HCI := Lib.hid (fun w1 h => cloneItems_any A c xs w1 h hn hp)
  have HCP := Lib.hid (fun w1 h => clonePool_any A2 c2 X l w1 h hX)
  have HW := Lib.hid hw
  clear hw
  go_enter Tryz.func34, Tryz.ntmps34
  go_upto_region 1 with fail
  refine name_world (C := fun w1 => Code.wp _ _ _ _ w1) ((w.alloc (.cells (wcs L A c xs A2 c2 X l).toArray 28)).alloc (.cells (wcs 0 none 0 [] none 0 [] 0).toArray 28)) ?_
  intro w1 hw1
  obtain ⟨t1, t2, hs0, hB0⟩ := S2.two_laid (v1 := wcs L A c xs A2 c2 X l) (v2 := wcs 0 none 0 [] none 0 [] 0) hw1
  have HZ := Lib.hid hs0
  have T1 := Lib.hid t1
  have T2 := Lib.hid t2
  have HB := Lib.hid hB0
  have d1 := t1.cell 1 rfl
  clear hw1 t1 t2 hs0 hB0
  go_wp2_with fail
  refine (HCI.out w1 (HW.out.1.step HB.out)).mono ?_
  rintro e w2 ⟨v2, ys, rfl, hys, hown, ⟨M0, hM0, hMg, hpl⟩, hb⟩
  have HM0 := Lib.hid hM0
  have HMG := Lib.hid hMg
  have U1 := Lib.hid (T1.out.step hb)
  have U2 := Lib.hid (T2.out.step hb)
  have HB2 := Lib.hid (stepB HB.out hb)
  have HYS := Lib.hid hys
  have HPL := Lib.hid hpl
  have HS2 : Hid (S2.IL w2 w2.heap.size A2 X) := Lib.hid (CL.step HW.out.2.2.1 HB2.out)
  have HBL : Hid (w.heap.size + 2 ≤ w1.heap.size) := Lib.hid (by have := HZ.out; omega)
  have hyl : ys.length = xs.length := sameLen hys
  clear hb hys hpl T1 T2 HB d1 HCI hM0 hMg
  rcases own_rowF hown with ⟨rfl, rfl⟩ | ⟨g, cap, sp, rfl, hbg, hg, hnc, hcm, hcs⟩
  · have hx0 : xs = [] := List.eq_nil_of_length_eq_zero (by simpa using hyl.symm)
    subst hx0
    obtain rfl : i = 0 := by simpa using hi
    clear hown hyl
    go_upto_region 4 with fail
    have B_w2 := HB2
    have M_w2 := U1
    have R_w2 := U2
    have S_w2 := HS2
    clear HB2 U1 U2 HS2
    obtain ⟨x1, hx1⟩ : ∃ x1, x1 = World.drew w2 := ⟨_, rfl⟩
    have hbD : Below w2.heap.size w2 x1 := by rw [hx1]; exact (Below.refl _ _).drew
    have B_x1 : Hid (Below w.heap.size w x1) := Lib.hid (stepB B_w2.out hbD)
    have M_x1 : Hid (BK 28 x1 w.heap.size (wcs L A c [] A2 c2 X l)) := Lib.hid (M_w2.out.step hbD)
    have R_x1 : Hid (BK 28 x1 (w.heap.size + 1) (wcs 0 none 0 [] none 0 [] 0)) := Lib.hid (R_w2.out.step hbD)
    have S_x1 : Hid (S2.IL x1 x1.heap.size A2 X) := Lib.hid (CL.step S_w2.out hbD)
    clear B_w2 M_w2 R_w2 S_w2
    have hbd : (fun w' => BK 28 w' w.heap.size (wcs L A c [] A2 c2 X l)) (World.drew w2) := by rw [← hx1]; exact M_x1.out
    have hSD : (fun w' => BK 28 w' w.heap.size (wcs L A c [] A2 c2 X l)) x1 := M_x1.out
    have HWD := Lib.hid hx1
    clear hx1 hbD
    refine wp_region_held_drew (S := fun w' => BK 28 w' w.heap.size (wcs L A c [] A2 c2 X l)) (by kernel_rfl) hbd (fun hHeld => ?_)
    rw [← HWD.out]
    clear hHeld
    have hHeld := hSD
    clear hSD hbd HWD
    refine wpAnyH_take (i := 0) (v := .pointer (some ⟨w.heap.size, 0, none⟩)) (get_ops _ _ _ rfl) (by kernel_rfl) (by kernel_rfl) (by kernel_rfl) (fun _ _ _ h => h) (Or.inl ⟨by rfl, fun wS hSw => by (try dsimp only at hSw); go_simp⟩) hHeld ?_
    try simp only [Act.put, List.setIfInBounds_toArray, List.set_cons_zero, List.set_cons_succ]
    refine wpAnyH_take (i := 1) (v := .int .i64 L) (get_ops _ _ _ rfl) (by kernel_rfl) (by kernel_rfl) (by kernel_rfl) (fun _ _ _ h => h) (Or.inl ⟨by rfl, fun wS hSw => by (try dsimp only at hSw); have cS : wS.cell? ⟨w.heap.size, 0, none⟩ = some (.int .i64 L) := hSw.cell 0 rfl; clear hSw; go_simp⟩) hHeld ?_
    try simp only [Act.put, List.setIfInBounds_toArray, List.set_cons_zero, List.set_cons_succ]
    refine wpAnyH_take (i := 2) (v := .slice none ([] : List FE).length 0) (get_ops _ _ _ rfl) (by kernel_rfl) (by kernel_rfl) (by kernel_rfl) (fun _ _ _ h => h) (Or.inl ⟨by rfl, fun wS hSw => by (try dsimp only at hSw); go_simp⟩) hHeld ?_
    try simp only [Act.put, List.setIfInBounds_toArray, List.set_cons_zero, List.set_cons_succ]
    refine wpAnyH_take (i := 3) (v := .pointer (some ⟨w.heap.size, 2, none⟩)) (get_ops _ _ _ rfl) (by kernel_rfl) (by kernel_rfl) (by kernel_rfl) (fun _ _ _ h => h) (Or.inl ⟨by rfl, fun wS hSw => by (try dsimp only at hSw); go_simp⟩) hHeld ?_
    try simp only [Act.put, List.setIfInBounds_toArray, List.set_cons_zero, List.set_cons_succ]
    refine wpAnyH_take (i := 4) (v := S2.pv A2 c2 X l) (get_ops _ _ _ rfl) (by kernel_rfl) (by kernel_rfl) (by kernel_rfl) (fun _ _ _ h => h) (Or.inl ⟨by rfl, fun wS hSw => by (try dsimp only at hSw); exact exec_load 26 _ rfl ⟨w.heap.size, 2, none⟩ (by go_simp) _ (bk_pool hSw)⟩) hHeld ?_
    try simp only [Act.put, List.setIfInBounds_toArray, List.set_cons_zero, List.set_cons_succ]
    refine wpAnyH_ready (rs := [5]) (by kernel_rfl) (by simp) ?_
    refine (AllReadyH.cons (get_ops _ _ _ rfl) (fun K hK => ?_) AllReadyH.nil)
    have hR3 : w.heap.size + 2 ≤ x1.heap.size := by have := R_x1.out.lt; omega
    go_simp
    refine (HCP.out x1 S_x1.out).mono ?_
    rintro e x2 ⟨a3, c3, rfl, hc3, hil3, hnew3, hb⟩
    have B_x2 : Hid (Below w.heap.size w x2) := Lib.hid (stepB B_x1.out hb)
    have M_x2 : Hid (BK 28 x2 w.heap.size (wcs L A c [] A2 c2 X l)) := Lib.hid (M_x1.out.step hb)
    have R_x2 : Hid (BK 28 x2 (w.heap.size + 1) (wcs 0 none 0 [] none 0 [] 0)) := Lib.hid (R_x1.out.step hb)
    have S_x2 : Hid (S2.IL x2 x2.heap.size A2 X) := Lib.hid (CL.step S_x1.out hb)
    clear B_x1 M_x1 R_x1 S_x1
    have Q_x2 : Hid (S2.IL x2 x2.heap.size a3 X) := Lib.hid (hil3)
    have HN3 := Lib.hid hnew3
    have HC3 := Lib.hid hc3
    have HZ3 : Hid (w.heap.size + 2 ≤ x1.heap.size) := Lib.hid hR3
    clear hil3 hnew3 hc3 hR3
    clear hHeld hb
    go_wp2_with fail
    refine hK.out _ _ M_x2.out (fun hHeld => ?_)
    clear hK K
    try simp only [Act.put, List.setIfInBounds_toArray, List.set_cons_zero, List.set_cons_succ]
    refine wpAnyH_take (i := 6) (v := wv L none 0 ([] : List FE) a3 c3 X l) (get_ops _ _ _ rfl) (by kernel_rfl) (by kernel_rfl) (by kernel_rfl) (fun _ _ _ h => h) (Or.inl ⟨by rfl, fun wS hSw => by (try dsimp only at hSw); go_simp⟩) hHeld ?_
    try simp only [Act.put, List.setIfInBounds_toArray, List.set_cons_zero, List.set_cons_succ]
    refine wpAnyH_ready (rs := [7]) (by kernel_rfl) (by simp) ?_
    refine (AllReadyH.cons (get_ops _ _ _ rfl) (fun K hK => ?_) AllReadyH.nil)
    refine S2.wp_store_all 28 _ _ rfl rfl (w.heap.size + 1) (by go_simp) (wcs L none 0 ([] : List FE) a3 c3 X l) (by first | rfl | go_simp) 28 (wcs 0 none 0 [] none 0 [] 0) R_x2.out winSize rfl (ones rfl) ?_
    intro x3 hM hP
    have R_x3 : Hid (BK 28 x3 (w.heap.size + 1) (wcs L none 0 ([] : List FE) a3 c3 X l)) := Lib.hid (hM)
    have B_x3 : Hid (Below w.heap.size w x3) := Lib.hid (hP.below B_x2.out (by omega))
    have M_x3 : Hid (BK 28 x3 w.heap.size (wcs L A c [] A2 c2 X l)) := Lib.hid (hP.other M_x2.out (by omega))
    have Q_x3 : Hid (S2.IL x3 x3.heap.size a3 X) := Lib.hid (ILput Q_x2.out hP (fun hn b o e => by have := HN3.out b o e; have := HZ3.out; omega))
    clear B_x2 M_x2 R_x2 S_x2 Q_x2
    clear hM hP hHeld
    refine hK.out _ _ M_x3.out (fun hHeld => ?_)
    clear hK K
    try simp only [Act.put, List.setIfInBounds_toArray, List.set_cons_zero, List.set_cons_succ]
    refine wpAnyH_done (by kernel_rfl) ?_ _
    go_wp2_with fail
    refine bodyPost_ret (v := wv L none 0 ([] : List FE) a3 c3 X l) (S2.res_cell rfl _ _ (w.heap.size + 1) 28 (wcs L none 0 ([] : List FE) a3 c3 X l) _ rfl R_x3.out Tryz.underlying28 rfl winSize) rfl ?_
    exact ⟨none, 0, [], a3, c3, rfl, rfl, ⟨FI.nil _ _ _, Nat.le_refl _, Q_x3.out, HC3.out⟩, ⟨(fun b o e => by cases e), (fun y hy => by cases hy), fun _ b o e => by have := HN3.out b o e; have := HZ3.out; omega⟩, B_x3.out⟩
  · have HG := Lib.hid (And.intro hbg (And.intro hnc (And.intro hcm hcs)))
    have hlt := hg.lt
    have HGL : Hid (w1.heap.size ≤ g) := Lib.hid hbg
    by_cases hil : i < ys.length
    · obtain ⟨y, hy⟩ : ∃ y, ys[i]? = some y := ⟨_, List.getElem?_eq_getElem hil⟩
      have e3 : decide ((i : Int) < (ys.length : Int)) = true := decide_eq_true (by omega)
      have e4 : decide (i < ys.length) = true := decide_eq_true hil
      have kv := row_item hg hy 1 _ rfl
      have fz := hg.free (i * 11 + 1)
      have j1 : (0 : Int) ≤ (i : Int) := by omega
      have j2 : (i : Int) < (ys.length : Int) := by omega
      have HG0 := Lib.hid hg
      have HY := Lib.hid hy
      clear hown hbg hg hnc hcm hcs hy hil hi hyl
      go_upto_region 4 with fail
      refine name_world (C := fun w3 => Code.wp _ _ _ _ w3) (w2.setCell ⟨g, i * 11 + 1, none⟩ (.int .i64 2)) ?_
      intro w3 hw3
      obtain ⟨zs, hzs⟩ : ∃ zs, zs = ys.set i ⟨{ y.f with st := 2 }, y.a, y.c⟩ := ⟨_, rfl⟩
      have hzl : ys.length = zs.length := by rw [hzs, List.length_set]
      have hrow : BK 56 w3 g (zs.flatMap gF ++ sp) := by rw [hw3, hzs, ← set_item HY.out 2 sp]; exact HG0.out.set _ _
      have hsz : w3.heap.size = w2.heap.size := by rw [hw3]; simp
      have hgM : g < M0 := HMG.out g _ _ rfl
      have hpz : ∀ z ∈ zs, PL w3 w3.heap.size z.a z.f.m.props ∧ NewL M0 z.a := fun z hz => by
        rw [hsz]
        have hz' : ∃ y' ∈ ys, z.a = y'.a ∧ z.f.m = y'.f.m := by
          rw [hzs] at hz
          obtain ⟨j, hj⟩ := List.mem_iff_getElem?.1 hz
          rw [List.getElem?_set] at hj
          split at hj
          · split at hj
            · obtain rfl := Option.some.inj hj
              exact ⟨y, List.mem_of_getElem? HY.out, rfl, rfl⟩
            · cases hj
          · exact ⟨z, List.mem_of_getElem? hj, rfl, rfl⟩
        obtain ⟨y', hy', ea, em⟩ := hz'
        obtain ⟨h1, h2⟩ := HPL.out y' hy'
        rw [ea, em]
        refine ⟨fun hn => ?_, h2⟩
        obtain ⟨b, o, e, hb, hc⟩ := h1 hn
        have := h2 b o e
        refine ⟨b, o, e, hb, fun j x k v hx hv => ?_⟩
        rw [hw3, S2.set_other _ _ _ _ _ (by show b ≠ g; omega)]
        exact hc j x k v hx hv
      have HF1 : Hid (FI w3 w3.heap.size (some ⟨g, 0, none⟩) zs) := Lib.hid (row_fi hrow (fun z hz => (hpz z hz).1))
      have HNW : Hid (∀ z ∈ zs, NewL M0 z.a) := Lib.hid (fun z hz => (hpz z hz).2)
      have HZF : Hid (zs.map FE.f = setRel (xs.map FE.f) i) := Lib.hid (by
        rw [setRel_at (x := y.f) (by rw [← HYS.out, List.getElem?_map, HY.out]; rfl), ← HYS.out, hzs, List.map_set])
      have B_w3 : Hid (Below w.heap.size w w3) := Lib.hid (by rw [hw3]; exact HB2.out.setCell (p := ⟨g, i * 11 + 1, none⟩) (by show w.heap.size ≤ g; have := HGL.out; have := HBL.out; omega) _)
      have M_w3 : Hid (BK 28 w3 w.heap.size (wcs L A c xs A2 c2 X l)) := Lib.hid (by rw [hw3]; exact U1.out.other (by show w.heap.size ≠ g; have := HGL.out; have := HBL.out; omega) _)
      have R_w3 : Hid (BK 28 w3 (w.heap.size + 1) (wcs 0 none 0 [] none 0 [] 0)) := Lib.hid (by rw [hw3]; exact U2.out.other (by show w.heap.size + 1 ≠ g; have := HGL.out; have := HBL.out; omega) _)
      have S_w3 : Hid (S2.IL w3 w3.heap.size A2 X) := Lib.hid (by
        rw [hsz]
        have h := HW.out.2.2.1.below B_w3.out
        exact h.more HB2.out.size)
      have Y_w3 := HF1
      have HNC : Hid (zs.length ≤ cap) := Lib.hid (by rw [← hzl]; exact HG.out.2.1)
      clear HF1 hw3 HG0 kv fz hpz hrow hsz HB2 U1 U2 HS2 hzs HY e3 e4 j1 j2
      rw [hzl]
      clear hzl
      obtain ⟨y1, hy1⟩ : ∃ y1, y1 = World.drew w3 := ⟨_, rfl⟩
      have hbD : Below w3.heap.size w3 y1 := by rw [hy1]; exact (Below.refl _ _).drew
      have B_y1 : Hid (Below w.heap.size w y1) := Lib.hid (stepB B_w3.out hbD)
      have M_y1 : Hid (BK 28 y1 w.heap.size (wcs L A c xs A2 c2 X l)) := Lib.hid (M_w3.out.step hbD)
      have R_y1 : Hid (BK 28 y1 (w.heap.size + 1) (wcs 0 none 0 [] none 0 [] 0)) := Lib.hid (R_w3.out.step hbD)
      have S_y1 : Hid (S2.IL y1 y1.heap.size A2 X) := Lib.hid (CL.step S_w3.out hbD)
      have Y_y1 : Hid (FI y1 y1.heap.size (some ⟨g, 0, none⟩) zs) := Lib.hid (Y_w3.out.step hbD)
      clear B_w3 M_w3 R_w3 S_w3 Y_w3
      have hbd : (fun w' => BK 28 w' w.heap.size (wcs L A c xs A2 c2 X l)) (World.drew w3) := by rw [← hy1]; exact M_y1.out
      have hSD : (fun w' => BK 28 w' w.heap.size (wcs L A c xs A2 c2 X l)) y1 := M_y1.out
      have HWD := Lib.hid hy1
      clear hy1 hbD
      refine wp_region_held_drew (S := fun w' => BK 28 w' w.heap.size (wcs L A c xs A2 c2 X l)) (by kernel_rfl) hbd (fun hHeld => ?_)
      rw [← HWD.out]
      clear hHeld
      have hHeld := hSD
      clear hSD hbd HWD
      refine wpAnyH_take (i := 0) (v := .pointer (some ⟨w.heap.size, 0, none⟩)) (get_ops _ _ _ rfl) (by kernel_rfl) (by kernel_rfl) (by kernel_rfl) (fun _ _ _ h => h) (Or.inl ⟨by rfl, fun wS hSw => by (try dsimp only at hSw); go_simp⟩) hHeld ?_
      try simp only [Act.put, List.setIfInBounds_toArray, List.set_cons_zero, List.set_cons_succ]
      refine wpAnyH_take (i := 1) (v := .int .i64 L) (get_ops _ _ _ rfl) (by kernel_rfl) (by kernel_rfl) (by kernel_rfl) (fun _ _ _ h => h) (Or.inl ⟨by rfl, fun wS hSw => by (try dsimp only at hSw); have cS : wS.cell? ⟨w.heap.size, 0, none⟩ = some (.int .i64 L) := hSw.cell 0 rfl; clear hSw; go_simp⟩) hHeld ?_
      try simp only [Act.put, List.setIfInBounds_toArray, List.set_cons_zero, List.set_cons_succ]
      refine wpAnyH_take (i := 2) (v := .slice (some ⟨g, 0, none⟩) zs.length cap) (get_ops _ _ _ rfl) (by kernel_rfl) (by kernel_rfl) (by kernel_rfl) (fun _ _ _ h => h) (Or.inl ⟨by rfl, fun wS hSw => by (try dsimp only at hSw); go_simp⟩) hHeld ?_
      try simp only [Act.put, List.setIfInBounds_toArray, List.set_cons_zero, List.set_cons_succ]
      refine wpAnyH_take (i := 3) (v := .pointer (some ⟨w.heap.size, 2, none⟩)) (get_ops _ _ _ rfl) (by kernel_rfl) (by kernel_rfl) (by kernel_rfl) (fun _ _ _ h => h) (Or.inl ⟨by rfl, fun wS hSw => by (try dsimp only at hSw); go_simp⟩) hHeld ?_
      try simp only [Act.put, List.setIfInBounds_toArray, List.set_cons_zero, List.set_cons_succ]
      refine wpAnyH_take (i := 4) (v := S2.pv A2 c2 X l) (get_ops _ _ _ rfl) (by kernel_rfl) (by kernel_rfl) (by kernel_rfl) (fun _ _ _ h => h) (Or.inl ⟨by rfl, fun wS hSw => by (try dsimp only at hSw); exact exec_load 26 _ rfl ⟨w.heap.size, 2, none⟩ (by go_simp) _ (bk_pool hSw)⟩) hHeld ?_
      try simp only [Act.put, List.setIfInBounds_toArray, List.set_cons_zero, List.set_cons_succ]
      refine wpAnyH_ready (rs := [5]) (by kernel_rfl) (by simp) ?_
      refine (AllReadyH.cons (get_ops _ _ _ rfl) (fun K hK => ?_) AllReadyH.nil)
      have hR3 : w.heap.size + 2 ≤ y1.heap.size := by have := R_y1.out.lt; omega
      go_simp
      refine (HCP.out y1 S_y1.out).mono ?_
      rintro e y2 ⟨a3, c3, rfl, hc3, hil3, hnew3, hb⟩
      have B_y2 : Hid (Below w.heap.size w y2) := Lib.hid (stepB B_y1.out hb)
      have M_y2 : Hid (BK 28 y2 w.heap.size (wcs L A c xs A2 c2 X l)) := Lib.hid (M_y1.out.step hb)
      have R_y2 : Hid (BK 28 y2 (w.heap.size + 1) (wcs 0 none 0 [] none 0 [] 0)) := Lib.hid (R_y1.out.step hb)
      have S_y2 : Hid (S2.IL y2 y2.heap.size A2 X) := Lib.hid (CL.step S_y1.out hb)
      have Y_y2 : Hid (FI y2 y2.heap.size (some ⟨g, 0, none⟩) zs) := Lib.hid (Y_y1.out.step hb)
      clear B_y1 M_y1 R_y1 S_y1 Y_y1
      have Q_y2 : Hid (S2.IL y2 y2.heap.size a3 X) := Lib.hid (hil3)
      have HN3 := Lib.hid hnew3
      have HC3 := Lib.hid hc3
      have HZ3 : Hid (w.heap.size + 2 ≤ y1.heap.size) := Lib.hid hR3
      clear hil3 hnew3 hc3 hR3
      clear hHeld hb
      go_wp2_with fail
      refine hK.out _ _ M_y2.out (fun hHeld => ?_)
      clear hK K
      try simp only [Act.put, List.setIfInBounds_toArray, List.set_cons_zero, List.set_cons_succ]
      refine wpAnyH_take (i := 6) (v := wv L (some ⟨g, 0, none⟩) cap zs a3 c3 X l) (get_ops _ _ _ rfl) (by kernel_rfl) (by kernel_rfl) (by kernel_rfl) (fun _ _ _ h => h) (Or.inl ⟨by rfl, fun wS hSw => by (try dsimp only at hSw); go_simp⟩) hHeld ?_
      try simp only [Act.put, List.setIfInBounds_toArray, List.set_cons_zero, List.set_cons_succ]
      refine wpAnyH_ready (rs := [7]) (by kernel_rfl) (by simp) ?_
      refine (AllReadyH.cons (get_ops _ _ _ rfl) (fun K hK => ?_) AllReadyH.nil)
      refine S2.wp_store_all 28 _ _ rfl rfl (w.heap.size + 1) (by go_simp) (wcs L (some ⟨g, 0, none⟩) cap zs a3 c3 X l) (by first | rfl | go_simp) 28 (wcs 0 none 0 [] none 0 [] 0) R_y2.out winSize rfl (ones rfl) ?_
      intro y3 hM hP
      have R_y3 : Hid (BK 28 y3 (w.heap.size + 1) (wcs L (some ⟨g, 0, none⟩) cap zs a3 c3 X l)) := Lib.hid (hM)
      have B_y3 : Hid (Below w.heap.size w y3) := Lib.hid (hP.below B_y2.out (by omega))
      have M_y3 : Hid (BK 28 y3 w.heap.size (wcs L A c xs A2 c2 X l)) := Lib.hid (hP.other M_y2.out (by omega))
      have Y_y3 : Hid (FI y3 y3.heap.size (some ⟨g, 0, none⟩) zs) := Lib.hid ((by have h := FI.put Y_y2.out hP (fun b o e => by simp only [Option.some.injEq, Addr.mk.injEq, and_true] at e; have := HGL.out; have := HBL.out; omega) (fun x hx b o e => by have := HNW.out x hx b o e; have := HM0.out; have := HBL.out; omega); rwa [hP.size]))
      have Q_y3 : Hid (S2.IL y3 y3.heap.size a3 X) := Lib.hid (ILput Q_y2.out hP (fun hn b o e => by have := HN3.out b o e; have := HZ3.out; omega))
      clear B_y2 M_y2 R_y2 S_y2 Y_y2 Q_y2
      clear hM hP hHeld
      refine hK.out _ _ M_y3.out (fun hHeld => ?_)
      clear hK K
      try simp only [Act.put, List.setIfInBounds_toArray, List.set_cons_zero, List.set_cons_succ]
      refine wpAnyH_done (by kernel_rfl) ?_ _
      go_wp2_with fail
      refine bodyPost_ret (v := wv L (some ⟨g, 0, none⟩) cap zs a3 c3 X l) (S2.res_cell rfl _ _ (w.heap.size + 1) 28 (wcs L (some ⟨g, 0, none⟩) cap zs a3 c3 X l) _ rfl R_y3.out Tryz.underlying28 rfl winSize) rfl ?_
      exact ⟨some ⟨g, 0, none⟩, cap, zs, a3, c3, rfl, HZF.out, ⟨Y_y3.out, HNC.out, Q_y3.out, HC3.out⟩, ⟨(fun b o e => by simp only [Option.some.injEq, Addr.mk.injEq, and_true] at e; have := HGL.out; have := HBL.out; omega), (fun y hy b o e => by have := HNW.out y hy b o e; have := HM0.out; have := HBL.out; omega), fun _ b o e => by have := HN3.out b o e; have := HZ3.out; omega⟩, B_y3.out⟩
    · have e3 : decide ((i : Int) < (ys.length : Int)) = false := decide_eq_false (by omega)
      have e4 : decide (i < ys.length) = false := decide_eq_false hil
      have HF1 : Hid (FI w2 w2.heap.size (some ⟨g, 0, none⟩) ys) := Lib.hid (row_fi hg (fun z hz => (HPL.out z hz).1))
      have HNW : Hid (∀ z ∈ ys, NewL M0 z.a) := Lib.hid (fun z hz => (HPL.out z hz).2)
      have HZF : Hid (ys.map FE.f = setRel (xs.map FE.f) i) := Lib.hid (by
        rw [setRel_none (by rw [List.getElem?_eq_none]; rw [List.length_map]; omega)]
        exact HYS.out)
      have HNC : Hid (ys.length ≤ cap) := Lib.hid hnc
      have B_w2 := HB2
      have M_w2 := U1
      have R_w2 := U2
      have S_w2 := HS2
      have Y_w2 := HF1
      clear HF1 hown hbg hg hnc hcm hcs hil hi hyl HB2 U1 U2 HS2
      go_upto_region 4 with fail
      clear e3 e4
      obtain ⟨z1, hz1⟩ : ∃ z1, z1 = World.drew w2 := ⟨_, rfl⟩
      have hbD : Below w2.heap.size w2 z1 := by rw [hz1]; exact (Below.refl _ _).drew
      have B_z1 : Hid (Below w.heap.size w z1) := Lib.hid (stepB B_w2.out hbD)
      have M_z1 : Hid (BK 28 z1 w.heap.size (wcs L A c xs A2 c2 X l)) := Lib.hid (M_w2.out.step hbD)
      have R_z1 : Hid (BK 28 z1 (w.heap.size + 1) (wcs 0 none 0 [] none 0 [] 0)) := Lib.hid (R_w2.out.step hbD)
      have S_z1 : Hid (S2.IL z1 z1.heap.size A2 X) := Lib.hid (CL.step S_w2.out hbD)
      have Y_z1 : Hid (FI z1 z1.heap.size (some ⟨g, 0, none⟩) ys) := Lib.hid (Y_w2.out.step hbD)
      clear B_w2 M_w2 R_w2 S_w2 Y_w2
      have hbd : (fun w' => BK 28 w' w.heap.size (wcs L A c xs A2 c2 X l)) (World.drew w2) := by rw [← hz1]; exact M_z1.out
      have hSD : (fun w' => BK 28 w' w.heap.size (wcs L A c xs A2 c2 X l)) z1 := M_z1.out
      have HWD := Lib.hid hz1
      clear hz1 hbD
      refine wp_region_held_drew (S := fun w' => BK 28 w' w.heap.size (wcs L A c xs A2 c2 X l)) (by kernel_rfl) hbd (fun hHeld => ?_)
      rw [← HWD.out]
      clear hHeld
      have hHeld := hSD
      clear hSD hbd HWD
      refine wpAnyH_take (i := 0) (v := .pointer (some ⟨w.heap.size, 0, none⟩)) (get_ops _ _ _ rfl) (by kernel_rfl) (by kernel_rfl) (by kernel_rfl) (fun _ _ _ h => h) (Or.inl ⟨by rfl, fun wS hSw => by (try dsimp only at hSw); go_simp⟩) hHeld ?_
      try simp only [Act.put, List.setIfInBounds_toArray, List.set_cons_zero, List.set_cons_succ]
      refine wpAnyH_take (i := 1) (v := .int .i64 L) (get_ops _ _ _ rfl) (by kernel_rfl) (by kernel_rfl) (by kernel_rfl) (fun _ _ _ h => h) (Or.inl ⟨by rfl, fun wS hSw => by (try dsimp only at hSw); have cS : wS.cell? ⟨w.heap.size, 0, none⟩ = some (.int .i64 L) := hSw.cell 0 rfl; clear hSw; go_simp⟩) hHeld ?_
      try simp only [Act.put, List.setIfInBounds_toArray, List.set_cons_zero, List.set_cons_succ]
      refine wpAnyH_take (i := 2) (v := .slice (some ⟨g, 0, none⟩) ys.length cap) (get_ops _ _ _ rfl) (by kernel_rfl) (by kernel_rfl) (by kernel_rfl) (fun _ _ _ h => h) (Or.inl ⟨by rfl, fun wS hSw => by (try dsimp only at hSw); go_simp⟩) hHeld ?_
      try simp only [Act.put, List.setIfInBounds_toArray, List.set_cons_zero, List.set_cons_succ]
      refine wpAnyH_take (i := 3) (v := .pointer (some ⟨w.heap.size, 2, none⟩)) (get_ops _ _ _ rfl) (by kernel_rfl) (by kernel_rfl) (by kernel_rfl) (fun _ _ _ h => h) (Or.inl ⟨by rfl, fun wS hSw => by (try dsimp only at hSw); go_simp⟩) hHeld ?_
      try simp only [Act.put, List.setIfInBounds_toArray, List.set_cons_zero, List.set_cons_succ]
      refine wpAnyH_take (i := 4) (v := S2.pv A2 c2 X l) (get_ops _ _ _ rfl) (by kernel_rfl) (by kernel_rfl) (by kernel_rfl) (fun _ _ _ h => h) (Or.inl ⟨by rfl, fun wS hSw => by (try dsimp only at hSw); exact exec_load 26 _ rfl ⟨w.heap.size, 2, none⟩ (by go_simp) _ (bk_pool hSw)⟩) hHeld ?_
      try simp only [Act.put, List.setIfInBounds_toArray, List.set_cons_zero, List.set_cons_succ]
      refine wpAnyH_ready (rs := [5]) (by kernel_rfl) (by simp) ?_
      refine (AllReadyH.cons (get_ops _ _ _ rfl) (fun K hK => ?_) AllReadyH.nil)
      have hR3 : w.heap.size + 2 ≤ z1.heap.size := by have := R_z1.out.lt; omega
      go_simp
      refine (HCP.out z1 S_z1.out).mono ?_
      rintro e z2 ⟨a3, c3, rfl, hc3, hil3, hnew3, hb⟩
      have B_z2 : Hid (Below w.heap.size w z2) := Lib.hid (stepB B_z1.out hb)
      have M_z2 : Hid (BK 28 z2 w.heap.size (wcs L A c xs A2 c2 X l)) := Lib.hid (M_z1.out.step hb)
      have R_z2 : Hid (BK 28 z2 (w.heap.size + 1) (wcs 0 none 0 [] none 0 [] 0)) := Lib.hid (R_z1.out.step hb)
      have S_z2 : Hid (S2.IL z2 z2.heap.size A2 X) := Lib.hid (CL.step S_z1.out hb)
      have Y_z2 : Hid (FI z2 z2.heap.size (some ⟨g, 0, none⟩) ys) := Lib.hid (Y_z1.out.step hb)
      clear B_z1 M_z1 R_z1 S_z1 Y_z1
      have Q_z2 : Hid (S2.IL z2 z2.heap.size a3 X) := Lib.hid (hil3)
      have HN3 := Lib.hid hnew3
      have HC3 := Lib.hid hc3
      have HZ3 : Hid (w.heap.size + 2 ≤ z1.heap.size) := Lib.hid hR3
      clear hil3 hnew3 hc3 hR3
      clear hHeld hb
      go_wp2_with fail
      refine hK.out _ _ M_z2.out (fun hHeld => ?_)
      clear hK K
      try simp only [Act.put, List.setIfInBounds_toArray, List.set_cons_zero, List.set_cons_succ]
      refine wpAnyH_take (i := 6) (v := wv L (some ⟨g, 0, none⟩) cap ys a3 c3 X l) (get_ops _ _ _ rfl) (by kernel_rfl) (by kernel_rfl) (by kernel_rfl) (fun _ _ _ h => h) (Or.inl ⟨by rfl, fun wS hSw => by (try dsimp only at hSw); go_simp⟩) hHeld ?_
      try simp only [Act.put, List.setIfInBounds_toArray, List.set_cons_zero, List.set_cons_succ]
      refine wpAnyH_ready (rs := [7]) (by kernel_rfl) (by simp) ?_
      refine (AllReadyH.cons (get_ops _ _ _ rfl) (fun K hK => ?_) AllReadyH.nil)
      refine S2.wp_store_all 28 _ _ rfl rfl (w.heap.size + 1) (by go_simp) (wcs L (some ⟨g, 0, none⟩) cap ys a3 c3 X l) (by first | rfl | go_simp) 28 (wcs 0 none 0 [] none 0 [] 0) R_z2.out winSize rfl (ones rfl) ?_
      intro z3 hM hP
      have R_z3 : Hid (BK 28 z3 (w.heap.size + 1) (wcs L (some ⟨g, 0, none⟩) cap ys a3 c3 X l)) := Lib.hid (hM)
      have B_z3 : Hid (Below w.heap.size w z3) := Lib.hid (hP.below B_z2.out (by omega))
      have M_z3 : Hid (BK 28 z3 w.heap.size (wcs L A c xs A2 c2 X l)) := Lib.hid (hP.other M_z2.out (by omega))
      have Y_z3 : Hid (FI z3 z3.heap.size (some ⟨g, 0, none⟩) ys) := Lib.hid ((by have h := FI.put Y_z2.out hP (fun b o e => by simp only [Option.some.injEq, Addr.mk.injEq, and_true] at e; have := HGL.out; have := HBL.out; omega) (fun x hx b o e => by have := HNW.out x hx b o e; have := HM0.out; have := HBL.out; omega); rwa [hP.size]))
      have Q_z3 : Hid (S2.IL z3 z3.heap.size a3 X) := Lib.hid (ILput Q_z2.out hP (fun hn b o e => by have := HN3.out b o e; have := HZ3.out; omega))
      clear B_z2 M_z2 R_z2 S_z2 Y_z2 Q_z2
      clear hM hP hHeld
      refine hK.out _ _ M_z3.out (fun hHeld => ?_)
      clear hK K
      try simp only [Act.put, List.setIfInBounds_toArray, List.set_cons_zero, List.set_cons_succ]
      refine wpAnyH_done (by kernel_rfl) ?_ _
      go_wp2_with fail
      refine bodyPost_ret (v := wv L (some ⟨g, 0, none⟩) cap ys a3 c3 X l) (S2.res_cell rfl _ _ (w.heap.size + 1) 28 (wcs L (some ⟨g, 0, none⟩) cap ys a3 c3 X l) _ rfl R_z3.out Tryz.underlying28 rfl winSize) rfl ?_
      exact ⟨some ⟨g, 0, none⟩, cap, ys, a3, c3, rfl, HZF.out, ⟨Y_z3.out, HNC.out, Q_z3.out, HC3.out⟩, ⟨(fun b o e => by simp only [Option.some.injEq, Addr.mk.injEq, and_true] at e; have := HGL.out; have := HBL.out; omega), (fun y hy b o e => by have := HNW.out y hy b o e; have := HM0.out; have := HBL.out; omega), fun _ b o e => by have := HN3.out b o e; have := HZ3.out; omega⟩, B_z3.out⟩
end Go.Proofs.YtmcocepjdhpecabGreatDoor
namespace Go.Proofs.YtmcocepjdhpecabGreatDoor
open Go.RowKit
open S2 (BK Put)

theorem OwnF.putA {w w' : World} {B g : Nat} {v : Value} {xs : List FE} (h : OwnF w B v xs) (hp : Put g w w') (hne : ∀ q n c, v = .slice (some ⟨q, 0, none⟩) n c → q ≠ g) : OwnF w' B v xs := by
  rcases own_rowF h with ⟨rfl, rfl⟩ | ⟨q, cap, sp, rfl, hb, hg, hnc, hcm, hl⟩
  · exact OwnG.nil _ _
  · exact row_ownF hb (hp.other hg (hne q _ _ rfl)) hnc hcm hl
theorem OwnF.lt {w : World} {B : Nat} {v : Value} {xs : List FE} (h : OwnF w B v xs) (q n c : Nat) (e : v = .slice (some ⟨q, 0, none⟩) n c) : B ≤ q ∧ q < w.heap.size := by
  rcases own_rowF h with ⟨rfl, _⟩ | ⟨q', cap, sp, rfl, hb, hg, _, _, _⟩
  · cases e
  · simp only [Value.slice.injEq, Option.some.injEq, Addr.mk.injEq, and_true] at e
    have := hg.lt
    omega
theorem IL.lt' {w : World} {A : Option Addr} {X : List Int} (h : S2.IL w w.heap.size A X) (hn : 0 < X.length) (b o : Nat) (e : A = some ⟨b, o, none⟩) : b < w.heap.size := S2.IL.lt h b o e hn
/-- items of a call's own in the world -/
def Its (B : Nat) (wx : World) (v : Value) (ys : List FE) : Prop := OwnF wx B v ys ∧ ∀ y ∈ ys, PL wx wx.heap.size y.a y.f.m.props
theorem Its.step {B : Nat} {w w' : World} {v : Value} {ys : List FE} (h : Its B w v ys) (hb : Below w.heap.size w w') : Its B w' v ys := ⟨h.1.step hb, fun y hy => (h.2 y hy).step hb⟩
/-- they lie beside block g -/
def ItA (g : Nat) (v : Value) (ys : List FE) : Prop := (∀ q n c, v = .slice (some ⟨q, 0, none⟩) n c → q ≠ g) ∧ ∀ y ∈ ys, Away g y.a y.f.m.props.length
theorem Its.put {B g : Nat} {w w' : World} {v : Value} {ys : List FE} (h : Its B w v ys) (hp : Put g w w') (ha : ItA g v ys) : Its B w' v ys := ⟨h.1.putA hp ha.1, fun y hy => by rw [hp.size]; exact (h.2 y hy).putA hp (ha.2 y hy)⟩
theorem Its.newer {B : Nat} {w : World} {v : Value} {ys : List FE} (h : Its B w v ys) : ItA w.heap.size v ys := ⟨fun q n c e => by have := h.1.lt q n c e; omega, fun y hy hn b o e => by have := (h.2 y hy).lt hn b o e; omega⟩
theorem away_fr {W : World} {g : Nat} {A A' : Option Addr} {X X' : List Int} (h : S2.Fr W A X A' X') (ha : Away g A X.length) (hg : g < W.heap.size) : Away g A' X'.length := fun hn b o e => by
  rcases h with rfl | ⟨rfl, hX⟩ | h
  · simp at hn
  · refine ha ?_ b o e
    rcases Nat.eq_zero_or_pos X.length with h0 | h0
    · have := hX (List.eq_nil_of_length_eq_zero h0)
      subst this
      simp at hn
    · exact h0
  · have := h b o e
    omega
theorem new_fr {W : World} {B : Nat} {A A' : Option Addr} {X X' : List Int} (h : S2.Fr W A X A' X') (ha : NewL B A) (hg : B ≤ W.heap.size) : NewN B A' X'.length := fun hn b o e => by
  rcases h with rfl | ⟨rfl, _⟩ | h
  · simp at hn
  · exact ha b o e
  · have := h b o e
    omega
theorem map_erase {α β : Type} (f : α → β) (xs : List α) (i : Nat) : (xs.eraseIdx i).map f = (xs.map f).eraseIdx i := by
  rw [erase_eq, erase_eq, List.map_append, List.map_take, List.map_drop]
theorem rem_at {L : Int} {F : List Fl} {X : List Int} {l : Int} {i : Nat} {x : Fl} (h : F[i]? = some x) : remR (L, F, X, l) i = (L, F.eraseIdx i, S2.delI X x.id, l) := by unfold remR; rw [h]
theorem rem_none {L : Int} {F : List Fl} {X : List Int} {l : Int} {i : Nat} (h : F[i]? = none) : remR (L, F, X, l) i = (L, F, X, l) := by unfold remR; rw [h]
/-- what the first region of remove leaves -/
structure CutR (w : World) (L : Int) (A : Option Addr) (c : Nat) (xs : List FE) (A2 : Option Addr) (c2 : Nat) (X : List Int) (l : Int) (wx : World) (v : Value) (ys : List FE) (gp : Nat) (a3 : Option Addr) (c3 : Nat) : Prop where
  same : ys.map FE.f = xs.map FE.f
  its : Its (w.heap.size + 2) wx v ys
  self : ∀ q n c, v = .slice (some ⟨q, 0, none⟩) n c → ∀ y ∈ ys, Away q y.a y.f.m.props.length
  new : ∀ y ∈ ys, NewL (w.heap.size + 2) y.a
  away : ItA gp v ys
  gpLe : w.heap.size + 2 ≤ gp
  pool : BK 26 wx gp [.slice a3 X.length c3, .int .i64 l]
  il : S2.IL wx wx.heap.size a3 X
  cap : X.length ≤ c3
  new3 : NewL (w.heap.size + 2) a3
  away3 : Away gp a3 X.length
  away3g : ∀ q n c, v = .slice (some ⟨q, 0, none⟩) n c → Away q a3 X.length
  box : BK 28 wx w.heap.size (wcs L A c xs A2 c2 X l)
  res : BK 28 wx (w.heap.size + 1) (wcs 0 none 0 [] none 0 [] 0)
  below : Below w.heap.size w wx
def CutV (w : World) (L : Int) (A : Option Addr) (c : Nat) (xs : List FE) (A2 : Option Addr) (c2 : Nat) (X : List Int) (l : Int) (s5 s6 : Value) (wx : World) : Prop := ∃ ys gp a3 c3, s6 = .pointer (some ⟨gp, 0, none⟩) ∧ CutR w L A c xs A2 c2 X l wx s5 ys gp a3 c3

set_option maxRecDepth 20000 in
set_option maxHeartbeats 4000000 in
theorem remove_any (L : Int) (A : Option Addr) (c : Nat) (xs : List FE) (A2 : Option Addr) (c2 : Nat) (X : List Int) (l : Int) (i : Nat) (w : World) (hw : WOk w A c xs A2 c2 X) (hn : xs.length ≤ 100000) (hp : ∀ x ∈ xs, x.f.m.props.length ≤ 100000) (hX : S2.ckI X l = 0) (hid : ∀ x ∈ xs, -9223372036854775808 ≤ x.f.id ∧ x.f.id ≤ 9223372036854775807) (hi : i ≤ xs.length) :
    Calls Tryz.prog 36 #[wv L A c xs A2 c2 X l, .int .i64 i] w (RetW (remR (L, xs.map FE.f, X, l) i) w) := by
  have HCI := Lib.hid (fun w1 h => cloneItems_any A c xs w1 h hn hp)
  have HCP := Lib.hid (fun w1 h => clonePool_any A2 c2 X l w1 h (by have := (S2.ck_ok.1 hX).1; omega))
  have HFR := Lib.hid (fun a c n w1 h hc h1 h2 => S2.iFree_any a c X l n w1 h hc hX h1 h2)
  have HW := Lib.hid hw
  have HID := Lib.hid hid
  clear hw hid
  go_enter Tryz.func36, Tryz.ntmps36
  go_upto_region 1 with fail
  refine name_world (C := fun w1 => Code.wp _ _ _ _ w1) ((w.alloc (.cells (wcs L A c xs A2 c2 X l).toArray 28)).alloc (.cells (wcs 0 none 0 [] none 0 [] 0).toArray 28)) ?_
  intro w1 hw1
  obtain ⟨t1, t2, hs0, hB0⟩ := S2.two_laid (v1 := wcs L A c xs A2 c2 X l) (v2 := wcs 0 none 0 [] none 0 [] 0) hw1
  have HZ : Hid (w.heap.size + 2 ≤ w1.heap.size) := Lib.hid (by omega)
  have T_w1 := Lib.hid t1
  have R_w1 := Lib.hid t2
  have B_w1 := Lib.hid hB0
  have I_w1 : Hid (FI w1 w1.heap.size A xs) := Lib.hid (HW.out.1.step hB0)
  have S_w1 : Hid (S2.IL w1 w1.heap.size A2 X) := Lib.hid (CL.step HW.out.2.2.1 hB0)
  have Z_w1 := HZ
  clear hw1 t1 t2 hs0 hB0
  go_cut [5, 6] from 7 (fun s5 s6 wx => CutV w L A c xs A2 c2 X l s5 s6 wx)
  case first =>
    obtain ⟨x1, hx1⟩ : ∃ x1, x1 = World.drew w1 := ⟨_, rfl⟩
    have hbD : Below w1.heap.size w1 x1 := by rw [hx1]; exact (Below.refl _ _).drew
    have T_x1 : Hid (BK 28 x1 w.heap.size (wcs L A c xs A2 c2 X l)) := Lib.hid (T_w1.out.step hbD)
    have R_x1 : Hid (BK 28 x1 (w.heap.size + 1) (wcs 0 none 0 [] none 0 [] 0)) := Lib.hid (R_w1.out.step hbD)
    have B_x1 : Hid (Below w.heap.size w x1) := Lib.hid (stepB B_w1.out hbD)
    have I_x1 : Hid (FI x1 x1.heap.size A xs) := Lib.hid (I_w1.out.step hbD)
    have S_x1 : Hid (S2.IL x1 x1.heap.size A2 X) := Lib.hid (CL.step S_w1.out hbD)
    have Z_x1 : Hid (w.heap.size + 2 ≤ x1.heap.size) := Lib.hid (Nat.le_trans Z_w1.out hbD.size)
    clear T_w1 R_w1 B_w1 I_w1 S_w1 Z_w1
    have hbd : (fun w' => BK 28 w' w.heap.size (wcs L A c xs A2 c2 X l)) (World.drew w1) := by rw [← hx1]; exact T_x1.out
    have hSD : (fun w' => BK 28 w' w.heap.size (wcs L A c xs A2 c2 X l)) x1 := T_x1.out
    have HWD := Lib.hid hx1
    clear hx1 hbD
    refine wp_region_held_drew (S := fun w' => BK 28 w' w.heap.size (wcs L A c xs A2 c2 X l)) (by kernel_rfl) hbd (fun hHeld => ?_)
    rw [← HWD.out]
    clear hHeld
    have hHeld := hSD
    clear hSD hbd HWD
    refine wpAnyH_take (i := 0) (v := .pointer (some ⟨w.heap.size, 1, none⟩)) (get_ops _ _ _ rfl) (by kernel_rfl) (by kernel_rfl) (by kernel_rfl) (fun _ _ _ h => h) (Or.inl ⟨by rfl, fun wS hSw => by (try dsimp only at hSw); go_simp⟩) hHeld ?_
    try simp only [Act.put, List.setIfInBounds_toArray, List.set_cons_zero, List.set_cons_succ]
    refine wpAnyH_take (i := 1) (v := .slice A xs.length c) (get_ops _ _ _ rfl) (by kernel_rfl) (by kernel_rfl) (by kernel_rfl) (fun _ _ _ h => h) (Or.inl ⟨by rfl, fun wS hSw => by (try dsimp only at hSw); have cS : wS.cell? ⟨w.heap.size, 1, none⟩ = some (.slice A xs.length c) := hSw.cell 1 rfl; clear hSw; go_simp⟩) hHeld ?_
    try simp only [Act.put, List.setIfInBounds_toArray, List.set_cons_zero, List.set_cons_succ]
    refine wpAnyH_take (i := 3) (v := .pointer (some ⟨w.heap.size, 2, none⟩)) (get_ops _ _ _ rfl) (by kernel_rfl) (by kernel_rfl) (by kernel_rfl) (fun _ _ _ h => h) (Or.inl ⟨by rfl, fun wS hSw => by (try dsimp only at hSw); go_simp⟩) hHeld ?_
    try simp only [Act.put, List.setIfInBounds_toArray, List.set_cons_zero, List.set_cons_succ]
    refine wpAnyH_take (i := 4) (v := S2.pv A2 c2 X l) (get_ops _ _ _ rfl) (by kernel_rfl) (by kernel_rfl) (by kernel_rfl) (fun _ _ _ h => h) (Or.inl ⟨by rfl, fun wS hSw => by (try dsimp only at hSw); exact exec_load 26 _ rfl ⟨w.heap.size, 2, none⟩ (by go_simp) _ (bk_pool hSw)⟩) hHeld ?_
    try simp only [Act.put, List.setIfInBounds_toArray, List.set_cons_zero, List.set_cons_succ]
    refine wpAnyH_ready (rs := [2, 6]) (by kernel_rfl) (by simp) ?_
    refine (AllReadyH.cons (get_ops _ _ _ rfl) (fun K hK => ?_) (AllReadyH.cons (get_ops _ _ _ rfl) (fun K hK => ?_) AllReadyH.nil))
    · have ZO := Z_x1
      go_simp
      refine (HCI.out x1 I_x1.out).mono ?_
      rintro e x2 ⟨v2, ys, rfl, hys, hown, ⟨M0, hM0, hMg, hpl⟩, hb⟩
      have T_x2 : Hid (BK 28 x2 w.heap.size (wcs L A c xs A2 c2 X l)) := Lib.hid (T_x1.out.step hb)
      have R_x2 : Hid (BK 28 x2 (w.heap.size + 1) (wcs 0 none 0 [] none 0 [] 0)) := Lib.hid (R_x1.out.step hb)
      have B_x2 : Hid (Below w.heap.size w x2) := Lib.hid (stepB B_x1.out hb)
      have I_x2 : Hid (FI x2 x2.heap.size A xs) := Lib.hid (I_x1.out.step hb)
      have S_x2 : Hid (S2.IL x2 x2.heap.size A2 X) := Lib.hid (CL.step S_x1.out hb)
      have Z_x2 : Hid (w.heap.size + 2 ≤ x2.heap.size) := Lib.hid (Nat.le_trans Z_x1.out hb.size)
      clear T_x1 R_x1 B_x1 I_x1 S_x1 Z_x1
      have hits : Its (w.heap.size + 2) x2 v2 ys := ⟨hown.weak ZO.out, fun y hy => (hpl y hy).1⟩
      have Y_x2 : Hid (Its (w.heap.size + 2) x2 v2 ys) := Lib.hid (hits)
      have HYS := Lib.hid hys
      have HSELF : Hid (∀ q n c, v2 = .slice (some ⟨q, 0, none⟩) n c → ∀ y ∈ ys, Away q y.a y.f.m.props.length) := Lib.hid (fun q n c e y hy _ b o e2 => by have := hMg q n c e; have := (hpl y hy).2 b o e2; omega)
      have HNEW : Hid (∀ y ∈ ys, NewL (w.heap.size + 2) y.a) := Lib.hid (fun y hy b o e2 => by have := (hpl y hy).2 b o e2; have := ZO.out; omega)
      clear hits hys hown hM0 hMg hpl ZO
      clear hHeld hb
      go_wp2_with fail
      refine hK.out _ _ T_x2.out (fun hHeld => ?_)
      clear hK K
      try simp only [Act.put, List.setIfInBounds_toArray, List.set_cons_zero, List.set_cons_succ]
      refine wpAnyH_ready (rs := [5, 6]) (by kernel_rfl) (by simp) ?_
      refine (AllReadyH.cons (get_ops _ _ _ rfl) (fun K hK => ?_) (AllReadyH.cons (get_ops _ _ _ rfl) (fun K hK => ?_) AllReadyH.nil))
      · have ZO := Z_x2
        have YO := Y_x2
        go_simp
        refine (HCP.out x2 S_x2.out).mono ?_
        rintro e x3 ⟨a3, c3, rfl, hc3, hil3, hnew3, hb⟩
        have T_x3 : Hid (BK 28 x3 w.heap.size (wcs L A c xs A2 c2 X l)) := Lib.hid (T_x2.out.step hb)
        have R_x3 : Hid (BK 28 x3 (w.heap.size + 1) (wcs 0 none 0 [] none 0 [] 0)) := Lib.hid (R_x2.out.step hb)
        have B_x3 : Hid (Below w.heap.size w x3) := Lib.hid (stepB B_x2.out hb)
        have I_x3 : Hid (FI x3 x3.heap.size A xs) := Lib.hid (I_x2.out.step hb)
        have S_x3 : Hid (S2.IL x3 x3.heap.size A2 X) := Lib.hid (CL.step S_x2.out hb)
        have Z_x3 : Hid (w.heap.size + 2 ≤ x3.heap.size) := Lib.hid (Nat.le_trans Z_x2.out hb.size)
        have Y_x3 : Hid (Its (w.heap.size + 2) x3 v2 ys) := Lib.hid (Y_x2.out.step hb)
        clear T_x2 R_x2 B_x2 I_x2 S_x2 Z_x2 Y_x2
        have Q_x3 : Hid (S2.IL x3 x3.heap.size a3 X) := Lib.hid (hil3)
        have HA3G : Hid (∀ q n c, v2 = .slice (some ⟨q, 0, none⟩) n c → Away q a3 X.length) := Lib.hid (fun q n c e _ b o e2 => by have := hnew3 b o e2; have := YO.out.1.lt q n c e; omega)
        have HC3 := Lib.hid hc3
        have HN3 : Hid (NewL (w.heap.size + 2) a3) := Lib.hid (fun b o e => by have := hnew3 b o e; have := ZO.out; omega)
        clear hil3 hc3 hnew3 ZO YO
        clear hHeld hb
        go_wp2_with fail
        refine hK.out _ _ T_x3.out (fun hHeld => ?_)
        clear hK K
        try simp only [Act.put, List.setIfInBounds_toArray, List.set_cons_zero, List.set_cons_succ]
        refine wpAnyH_ready (rs := [6]) (by kernel_rfl) (by simp) ?_
        refine (AllReadyH.cons (get_ops _ _ _ rfl) (fun K hK => ?_) AllReadyH.nil)
        go_simp
        obtain ⟨gp, hgp⟩ : ∃ gp, gp = x3.heap.size := ⟨_, rfl⟩
        obtain ⟨x4, hx4⟩ : ∃ x4, x4 = x3.alloc (.cells ([.slice none 0 0, .int .i64 0] : List Value).toArray 26) := ⟨_, rfl⟩
        have hb : Below x3.heap.size x3 x4 := by rw [hx4]; exact S2.below_new _ _
        have hN : BK 26 x4 gp [.slice none 0 0, .int .i64 0] := by rw [hx4, hgp]; exact BK.new _ _ _
        have HGP : Hid (w.heap.size + 2 ≤ gp) := Lib.hid (by rw [hgp]; exact Z_x3.out)
        have HAY : Hid (ItA gp v2 ys) := Lib.hid (by rw [hgp]; exact Y_x3.out.newer)
        have HA3 : Hid (Away gp a3 X.length) := Lib.hid (by rw [hgp]; exact fun hn b o e => Nat.ne_of_lt (IL.lt' Q_x3.out hn b o e))
        have T_x4 : Hid (BK 28 x4 w.heap.size (wcs L A c xs A2 c2 X l)) := Lib.hid (T_x3.out.step hb)
        have R_x4 : Hid (BK 28 x4 (w.heap.size + 1) (wcs 0 none 0 [] none 0 [] 0)) := Lib.hid (R_x3.out.step hb)
        have B_x4 : Hid (Below w.heap.size w x4) := Lib.hid (stepB B_x3.out hb)
        have I_x4 : Hid (FI x4 x4.heap.size A xs) := Lib.hid (I_x3.out.step hb)
        have S_x4 : Hid (S2.IL x4 x4.heap.size A2 X) := Lib.hid (CL.step S_x3.out hb)
        have Z_x4 : Hid (w.heap.size + 2 ≤ x4.heap.size) := Lib.hid (Nat.le_trans Z_x3.out hb.size)
        have Y_x4 : Hid (Its (w.heap.size + 2) x4 v2 ys) := Lib.hid (Y_x3.out.step hb)
        have Q_x4 : Hid (S2.IL x4 x4.heap.size a3 X) := Lib.hid (CL.step Q_x3.out hb)
        clear T_x3 R_x3 B_x3 I_x3 S_x3 Z_x3 Y_x3 Q_x3
        have G_x4 := Lib.hid hN
        try rw [← hx4]
        try rw [← hgp]
        clear hHeld hb hN hx4 hgp
        refine hK.out _ _ T_x4.out (fun hHeld => ?_)
        clear hK K
        try simp only [Act.put, List.setIfInBounds_toArray, List.set_cons_zero, List.set_cons_succ]
        refine wpAnyH_take (i := 7) (v := v2) (get_ops _ _ _ rfl) (by kernel_rfl) (by kernel_rfl) (by kernel_rfl) (fun _ _ _ h => h) (Or.inl ⟨by rfl, fun wS hSw => by (try dsimp only at hSw); go_simp⟩) hHeld ?_
        try simp only [Act.put, List.setIfInBounds_toArray, List.set_cons_zero, List.set_cons_succ]
        refine wpAnyH_ready (rs := [8]) (by kernel_rfl) (by simp) ?_
        refine (AllReadyH.cons (get_ops _ _ _ rfl) (fun K hK => ?_) AllReadyH.nil)
        refine S2.wp_store_all 26 _ _ rfl rfl gp (by go_simp) [.slice a3 X.length c3, .int .i64 l] (by first | rfl | go_simp) 26 [.slice none 0 0, .int .i64 0] G_x4.out S2.infoP2 rfl (ones rfl) ?_
        intro x5 hM hP
        have G_x5 : Hid (BK 26 x5 gp [.slice a3 X.length c3, .int .i64 l]) := Lib.hid (hM)
        have T_x5 : Hid (BK 28 x5 w.heap.size (wcs L A c xs A2 c2 X l)) := Lib.hid (hP.other T_x4.out (by have := HGP.out; omega))
        have R_x5 : Hid (BK 28 x5 (w.heap.size + 1) (wcs 0 none 0 [] none 0 [] 0)) := Lib.hid (hP.other R_x4.out (by have := HGP.out; omega))
        have B_x5 : Hid (Below w.heap.size w x5) := Lib.hid (hP.below B_x4.out (by have := HGP.out; omega))
        have Z_x5 : Hid (w.heap.size + 2 ≤ x5.heap.size) := Lib.hid ((by rw [hP.size]; exact Z_x4.out))
        have Y_x5 : Hid (Its (w.heap.size + 2) x5 v2 ys) := Lib.hid (Y_x4.out.put hP HAY.out)
        have Q_x5 : Hid (S2.IL x5 x5.heap.size a3 X) := Lib.hid (ILput Q_x4.out hP HA3.out)
        clear T_x4 R_x4 B_x4 I_x4 S_x4 Z_x4 Y_x4 Q_x4 G_x4
        clear hM hP hHeld
        refine hK.out _ _ T_x5.out (fun hHeld => ?_)
        clear hK K
        try simp only [Act.put, List.setIfInBounds_toArray, List.set_cons_zero, List.set_cons_succ]
        refine wpAnyH_done (by kernel_rfl) ?_ _
        go_wp2_with fail
        go_meet
        exact ⟨ys, gp, a3, c3, rfl, ⟨HYS.out, Y_x5.out, HSELF.out, HNEW.out, HAY.out, HGP.out, G_x5.out, Q_x5.out, HC3.out, HN3.out, HA3.out, HA3G.out, T_x5.out, R_x5.out, B_x5.out⟩⟩
      · go_simp
        obtain ⟨gp, hgp⟩ : ∃ gp, gp = x2.heap.size := ⟨_, rfl⟩
        obtain ⟨x3, hx3⟩ : ∃ x3, x3 = x2.alloc (.cells ([.slice none 0 0, .int .i64 0] : List Value).toArray 26) := ⟨_, rfl⟩
        have hb : Below x2.heap.size x2 x3 := by rw [hx3]; exact S2.below_new _ _
        have hN : BK 26 x3 gp [.slice none 0 0, .int .i64 0] := by rw [hx3, hgp]; exact BK.new _ _ _
        have HGP : Hid (w.heap.size + 2 ≤ gp) := Lib.hid (by rw [hgp]; exact Z_x2.out)
        have HAY : Hid (ItA gp v2 ys) := Lib.hid (by rw [hgp]; exact Y_x2.out.newer)
        have T_x3 : Hid (BK 28 x3 w.heap.size (wcs L A c xs A2 c2 X l)) := Lib.hid (T_x2.out.step hb)
        have R_x3 : Hid (BK 28 x3 (w.heap.size + 1) (wcs 0 none 0 [] none 0 [] 0)) := Lib.hid (R_x2.out.step hb)
        have B_x3 : Hid (Below w.heap.size w x3) := Lib.hid (stepB B_x2.out hb)
        have I_x3 : Hid (FI x3 x3.heap.size A xs) := Lib.hid (I_x2.out.step hb)
        have S_x3 : Hid (S2.IL x3 x3.heap.size A2 X) := Lib.hid (CL.step S_x2.out hb)
        have Z_x3 : Hid (w.heap.size + 2 ≤ x3.heap.size) := Lib.hid (Nat.le_trans Z_x2.out hb.size)
        have Y_x3 : Hid (Its (w.heap.size + 2) x3 v2 ys) := Lib.hid (Y_x2.out.step hb)
        clear T_x2 R_x2 B_x2 I_x2 S_x2 Z_x2 Y_x2
        have G_x3 := Lib.hid hN
        try rw [← hx3]
        try rw [← hgp]
        clear hHeld hb hN hx3 hgp
        refine hK.out _ _ T_x3.out (fun hHeld => ?_)
        clear hK K
        try simp only [Act.put, List.setIfInBounds_toArray, List.set_cons_zero, List.set_cons_succ]
        refine wpAnyH_ready (rs := [5]) (by kernel_rfl) (by simp) ?_
        refine (AllReadyH.cons (get_ops _ _ _ rfl) (fun K hK => ?_) AllReadyH.nil)
        have ZO := Z_x3
        have YO := Y_x3
        have GO : Hid (gp < x3.heap.size) := Lib.hid G_x3.out.lt
        go_simp
        refine (HCP.out x3 S_x3.out).mono ?_
        rintro e x4 ⟨a3, c3, rfl, hc3, hil3, hnew3, hb⟩
        have T_x4 : Hid (BK 28 x4 w.heap.size (wcs L A c xs A2 c2 X l)) := Lib.hid (T_x3.out.step hb)
        have R_x4 : Hid (BK 28 x4 (w.heap.size + 1) (wcs 0 none 0 [] none 0 [] 0)) := Lib.hid (R_x3.out.step hb)
        have B_x4 : Hid (Below w.heap.size w x4) := Lib.hid (stepB B_x3.out hb)
        have I_x4 : Hid (FI x4 x4.heap.size A xs) := Lib.hid (I_x3.out.step hb)
        have S_x4 : Hid (S2.IL x4 x4.heap.size A2 X) := Lib.hid (CL.step S_x3.out hb)
        have Z_x4 : Hid (w.heap.size + 2 ≤ x4.heap.size) := Lib.hid (Nat.le_trans Z_x3.out hb.size)
        have Y_x4 : Hid (Its (w.heap.size + 2) x4 v2 ys) := Lib.hid (Y_x3.out.step hb)
        have G_x4 : Hid (BK 26 x4 gp [.slice none 0 0, .int .i64 0]) := Lib.hid (G_x3.out.step hb)
        clear T_x3 R_x3 B_x3 I_x3 S_x3 Z_x3 Y_x3 G_x3
        have Q_x4 : Hid (S2.IL x4 x4.heap.size a3 X) := Lib.hid (hil3)
        have HA3G : Hid (∀ q n c, v2 = .slice (some ⟨q, 0, none⟩) n c → Away q a3 X.length) := Lib.hid (fun q n c e _ b o e2 => by have := hnew3 b o e2; have := YO.out.1.lt q n c e; omega)
        have HC3 := Lib.hid hc3
        have HN3 : Hid (NewL (w.heap.size + 2) a3) := Lib.hid (fun b o e => by have := hnew3 b o e; have := ZO.out; omega)
        have HA3 : Hid (Away gp a3 X.length) := Lib.hid (fun _ b o e => by have := hnew3 b o e; have := GO.out; omega)
        clear hil3 hc3 hnew3 ZO YO GO
        clear hHeld hb
        go_wp2_with fail
        refine hK.out _ _ T_x4.out (fun hHeld => ?_)
        clear hK K
        try simp only [Act.put, List.setIfInBounds_toArray, List.set_cons_zero, List.set_cons_succ]
        refine wpAnyH_take (i := 7) (v := v2) (get_ops _ _ _ rfl) (by kernel_rfl) (by kernel_rfl) (by kernel_rfl) (fun _ _ _ h => h) (Or.inl ⟨by rfl, fun wS hSw => by (try dsimp only at hSw); go_simp⟩) hHeld ?_
        try simp only [Act.put, List.setIfInBounds_toArray, List.set_cons_zero, List.set_cons_succ]
        refine wpAnyH_ready (rs := [8]) (by kernel_rfl) (by simp) ?_
        refine (AllReadyH.cons (get_ops _ _ _ rfl) (fun K hK => ?_) AllReadyH.nil)
        refine S2.wp_store_all 26 _ _ rfl rfl gp (by go_simp) [.slice a3 X.length c3, .int .i64 l] (by first | rfl | go_simp) 26 [.slice none 0 0, .int .i64 0] G_x4.out S2.infoP2 rfl (ones rfl) ?_
        intro x5 hM hP
        have G_x5 : Hid (BK 26 x5 gp [.slice a3 X.length c3, .int .i64 l]) := Lib.hid (hM)
        have T_x5 : Hid (BK 28 x5 w.heap.size (wcs L A c xs A2 c2 X l)) := Lib.hid (hP.other T_x4.out (by have := HGP.out; omega))
        have R_x5 : Hid (BK 28 x5 (w.heap.size + 1) (wcs 0 none 0 [] none 0 [] 0)) := Lib.hid (hP.other R_x4.out (by have := HGP.out; omega))
        have B_x5 : Hid (Below w.heap.size w x5) := Lib.hid (hP.below B_x4.out (by have := HGP.out; omega))
        have Z_x5 : Hid (w.heap.size + 2 ≤ x5.heap.size) := Lib.hid ((by rw [hP.size]; exact Z_x4.out))
        have Y_x5 : Hid (Its (w.heap.size + 2) x5 v2 ys) := Lib.hid (Y_x4.out.put hP HAY.out)
        have Q_x5 : Hid (S2.IL x5 x5.heap.size a3 X) := Lib.hid (ILput Q_x4.out hP HA3.out)
        clear T_x4 R_x4 B_x4 I_x4 S_x4 Z_x4 Y_x4 G_x4 Q_x4
        clear hM hP hHeld
        refine hK.out _ _ T_x5.out (fun hHeld => ?_)
        clear hK K
        try simp only [Act.put, List.setIfInBounds_toArray, List.set_cons_zero, List.set_cons_succ]
        refine wpAnyH_done (by kernel_rfl) ?_ _
        go_wp2_with fail
        go_meet
        exact ⟨ys, gp, a3, c3, rfl, ⟨HYS.out, Y_x5.out, HSELF.out, HNEW.out, HAY.out, HGP.out, G_x5.out, Q_x5.out, HC3.out, HN3.out, HA3.out, HA3G.out, T_x5.out, R_x5.out, B_x5.out⟩⟩
    · go_simp
      obtain ⟨gp, hgp⟩ : ∃ gp, gp = x1.heap.size := ⟨_, rfl⟩
      obtain ⟨x2, hx2⟩ : ∃ x2, x2 = x1.alloc (.cells ([.slice none 0 0, .int .i64 0] : List Value).toArray 26) := ⟨_, rfl⟩
      have hb : Below x1.heap.size x1 x2 := by rw [hx2]; exact S2.below_new _ _
      have hN : BK 26 x2 gp [.slice none 0 0, .int .i64 0] := by rw [hx2, hgp]; exact BK.new _ _ _
      have HGP : Hid (w.heap.size + 2 ≤ gp) := Lib.hid (by rw [hgp]; exact Z_x1.out)
      have T_x2 : Hid (BK 28 x2 w.heap.size (wcs L A c xs A2 c2 X l)) := Lib.hid (T_x1.out.step hb)
      have R_x2 : Hid (BK 28 x2 (w.heap.size + 1) (wcs 0 none 0 [] none 0 [] 0)) := Lib.hid (R_x1.out.step hb)
      have B_x2 : Hid (Below w.heap.size w x2) := Lib.hid (stepB B_x1.out hb)
      have I_x2 : Hid (FI x2 x2.heap.size A xs) := Lib.hid (I_x1.out.step hb)
      have S_x2 : Hid (S2.IL x2 x2.heap.size A2 X) := Lib.hid (CL.step S_x1.out hb)
      have Z_x2 : Hid (w.heap.size + 2 ≤ x2.heap.size) := Lib.hid (Nat.le_trans Z_x1.out hb.size)
      clear T_x1 R_x1 B_x1 I_x1 S_x1 Z_x1
      have G_x2 := Lib.hid hN
      try rw [← hx2]
      try rw [← hgp]
      clear hHeld hb hN hx2 hgp
      refine hK.out _ _ T_x2.out (fun hHeld => ?_)
      clear hK K
      try simp only [Act.put, List.setIfInBounds_toArray, List.set_cons_zero, List.set_cons_succ]
      refine wpAnyH_ready (rs := [2]) (by kernel_rfl) (by simp) ?_
      refine (AllReadyH.cons (get_ops _ _ _ rfl) (fun K hK => ?_) AllReadyH.nil)
      have ZO := Z_x2
      have GO : Hid (gp < x2.heap.size) := Lib.hid G_x2.out.lt
      go_simp
      refine (HCI.out x2 I_x2.out).mono ?_
      rintro e x3 ⟨v2, ys, rfl, hys, hown, ⟨M0, hM0, hMg, hpl⟩, hb⟩
      have T_x3 : Hid (BK 28 x3 w.heap.size (wcs L A c xs A2 c2 X l)) := Lib.hid (T_x2.out.step hb)
      have R_x3 : Hid (BK 28 x3 (w.heap.size + 1) (wcs 0 none 0 [] none 0 [] 0)) := Lib.hid (R_x2.out.step hb)
      have B_x3 : Hid (Below w.heap.size w x3) := Lib.hid (stepB B_x2.out hb)
      have I_x3 : Hid (FI x3 x3.heap.size A xs) := Lib.hid (I_x2.out.step hb)
      have S_x3 : Hid (S2.IL x3 x3.heap.size A2 X) := Lib.hid (CL.step S_x2.out hb)
      have Z_x3 : Hid (w.heap.size + 2 ≤ x3.heap.size) := Lib.hid (Nat.le_trans Z_x2.out hb.size)
      have G_x3 : Hid (BK 26 x3 gp [.slice none 0 0, .int .i64 0]) := Lib.hid (G_x2.out.step hb)
      clear T_x2 R_x2 B_x2 I_x2 S_x2 Z_x2 G_x2
      have hits : Its (w.heap.size + 2) x3 v2 ys := ⟨hown.weak ZO.out, fun y hy => (hpl y hy).1⟩
      have Y_x3 : Hid (Its (w.heap.size + 2) x3 v2 ys) := Lib.hid (hits)
      have HYS := Lib.hid hys
      have HSELF : Hid (∀ q n c, v2 = .slice (some ⟨q, 0, none⟩) n c → ∀ y ∈ ys, Away q y.a y.f.m.props.length) := Lib.hid (fun q n c e y hy _ b o e2 => by have := hMg q n c e; have := (hpl y hy).2 b o e2; omega)
      have HNEW : Hid (∀ y ∈ ys, NewL (w.heap.size + 2) y.a) := Lib.hid (fun y hy b o e2 => by have := (hpl y hy).2 b o e2; have := ZO.out; omega)
      have HAY : Hid (ItA gp v2 ys) := Lib.hid ⟨fun q n c e => by have := hown.lt q n c e; have := GO.out; omega, fun y hy _ b o e2 => by have := (hpl y hy).2 b o e2; have := GO.out; omega⟩
      clear hits hys hown hM0 hMg hpl ZO GO
      clear hHeld hb
      go_wp2_with fail
      refine hK.out _ _ T_x3.out (fun hHeld => ?_)
      clear hK K
      try simp only [Act.put, List.setIfInBounds_toArray, List.set_cons_zero, List.set_cons_succ]
      refine wpAnyH_ready (rs := [5]) (by kernel_rfl) (by simp) ?_
      refine (AllReadyH.cons (get_ops _ _ _ rfl) (fun K hK => ?_) AllReadyH.nil)
      have ZO := Z_x3
      have YO := Y_x3
      have GO : Hid (gp < x3.heap.size) := Lib.hid G_x3.out.lt
      go_simp
      refine (HCP.out x3 S_x3.out).mono ?_
      rintro e x4 ⟨a3, c3, rfl, hc3, hil3, hnew3, hb⟩
      have T_x4 : Hid (BK 28 x4 w.heap.size (wcs L A c xs A2 c2 X l)) := Lib.hid (T_x3.out.step hb)
      have R_x4 : Hid (BK 28 x4 (w.heap.size + 1) (wcs 0 none 0 [] none 0 [] 0)) := Lib.hid (R_x3.out.step hb)
      have B_x4 : Hid (Below w.heap.size w x4) := Lib.hid (stepB B_x3.out hb)
      have I_x4 : Hid (FI x4 x4.heap.size A xs) := Lib.hid (I_x3.out.step hb)
      have S_x4 : Hid (S2.IL x4 x4.heap.size A2 X) := Lib.hid (CL.step S_x3.out hb)
      have Z_x4 : Hid (w.heap.size + 2 ≤ x4.heap.size) := Lib.hid (Nat.le_trans Z_x3.out hb.size)
      have G_x4 : Hid (BK 26 x4 gp [.slice none 0 0, .int .i64 0]) := Lib.hid (G_x3.out.step hb)
      have Y_x4 : Hid (Its (w.heap.size + 2) x4 v2 ys) := Lib.hid (Y_x3.out.step hb)
      clear T_x3 R_x3 B_x3 I_x3 S_x3 Z_x3 G_x3 Y_x3
      have Q_x4 : Hid (S2.IL x4 x4.heap.size a3 X) := Lib.hid (hil3)
      have HA3G : Hid (∀ q n c, v2 = .slice (some ⟨q, 0, none⟩) n c → Away q a3 X.length) := Lib.hid (fun q n c e _ b o e2 => by have := hnew3 b o e2; have := YO.out.1.lt q n c e; omega)
      have HC3 := Lib.hid hc3
      have HN3 : Hid (NewL (w.heap.size + 2) a3) := Lib.hid (fun b o e => by have := hnew3 b o e; have := ZO.out; omega)
      have HA3 : Hid (Away gp a3 X.length) := Lib.hid (fun _ b o e => by have := hnew3 b o e; have := GO.out; omega)
      clear hil3 hc3 hnew3 ZO YO GO
      clear hHeld hb
      go_wp2_with fail
      refine hK.out _ _ T_x4.out (fun hHeld => ?_)
      clear hK K
      try simp only [Act.put, List.setIfInBounds_toArray, List.set_cons_zero, List.set_cons_succ]
      refine wpAnyH_take (i := 7) (v := v2) (get_ops _ _ _ rfl) (by kernel_rfl) (by kernel_rfl) (by kernel_rfl) (fun _ _ _ h => h) (Or.inl ⟨by rfl, fun wS hSw => by (try dsimp only at hSw); go_simp⟩) hHeld ?_
      try simp only [Act.put, List.setIfInBounds_toArray, List.set_cons_zero, List.set_cons_succ]
      refine wpAnyH_ready (rs := [8]) (by kernel_rfl) (by simp) ?_
      refine (AllReadyH.cons (get_ops _ _ _ rfl) (fun K hK => ?_) AllReadyH.nil)
      refine S2.wp_store_all 26 _ _ rfl rfl gp (by go_simp) [.slice a3 X.length c3, .int .i64 l] (by first | rfl | go_simp) 26 [.slice none 0 0, .int .i64 0] G_x4.out S2.infoP2 rfl (ones rfl) ?_
      intro x5 hM hP
      have G_x5 : Hid (BK 26 x5 gp [.slice a3 X.length c3, .int .i64 l]) := Lib.hid (hM)
      have T_x5 : Hid (BK 28 x5 w.heap.size (wcs L A c xs A2 c2 X l)) := Lib.hid (hP.other T_x4.out (by have := HGP.out; omega))
      have R_x5 : Hid (BK 28 x5 (w.heap.size + 1) (wcs 0 none 0 [] none 0 [] 0)) := Lib.hid (hP.other R_x4.out (by have := HGP.out; omega))
      have B_x5 : Hid (Below w.heap.size w x5) := Lib.hid (hP.below B_x4.out (by have := HGP.out; omega))
      have Z_x5 : Hid (w.heap.size + 2 ≤ x5.heap.size) := Lib.hid ((by rw [hP.size]; exact Z_x4.out))
      have Y_x5 : Hid (Its (w.heap.size + 2) x5 v2 ys) := Lib.hid (Y_x4.out.put hP HAY.out)
      have Q_x5 : Hid (S2.IL x5 x5.heap.size a3 X) := Lib.hid (ILput Q_x4.out hP HA3.out)
      clear T_x4 R_x4 B_x4 I_x4 S_x4 Z_x4 G_x4 Y_x4 Q_x4
      clear hM hP hHeld
      refine hK.out _ _ T_x5.out (fun hHeld => ?_)
      clear hK K
      try simp only [Act.put, List.setIfInBounds_toArray, List.set_cons_zero, List.set_cons_succ]
      refine wpAnyH_done (by kernel_rfl) ?_ _
      go_wp2_with fail
      go_meet
      exact ⟨ys, gp, a3, c3, rfl, ⟨HYS.out, Y_x5.out, HSELF.out, HNEW.out, HAY.out, HGP.out, G_x5.out, Q_x5.out, HC3.out, HN3.out, HA3.out, HA3G.out, T_x5.out, R_x5.out, B_x5.out⟩⟩
  case rest =>
    obtain ⟨ys, gp, a3, c3, rfl, hc⟩ := hcut
    have HC := Lib.hid hc
    have T_wc := Lib.hid hc.box
    have R_wc := Lib.hid hc.res
    have G_wc := Lib.hid hc.pool
    have hyl : ys.length = xs.length := sameLen hc.same
    rcases own_rowF hc.its.1 with ⟨rfl, rfl⟩ | ⟨g, cap, sp, rfl, hbg, hg, hnc, hcm, hcs⟩
    · have hx0 : xs = [] := List.eq_nil_of_length_eq_zero (by simpa using hyl.symm)
      subst hx0
      obtain rfl : i = 0 := by simpa using hi
      clear hc hyl
      go_upto_region 5 with fail
      have d0 := T_wc.out.cell 0 rfl
      have wld : (loadVar 26 ⟨gp, 0, none⟩).run Tryz.prog wc = .ok (S2.pv a3 c3 X l) wc := S2.run_load_all G_wc.out Tryz.underlying26 rfl S2.infoP2
      have WLD := Lib.hid wld
      clear wld
      go_wp2_with first
        | (refine wpList_load_v (by rfl) 26 (.tmp 6) rfl ⟨gp, 0, none⟩ rfl (S2.pv a3 c3 X l) WLD.out ?_)
        | (refine S2.wpList_store_all (by rfl) 28 (.tmp 4) (.tmp 36) rfl rfl (w.heap.size + 1) rfl (wcs L none 0 ([] : List FE) a3 c3 X l) rfl 28 (wcs 0 none 0 [] none 0 [] 0) R_wc.out winSize rfl (ones rfl) ?_; intro wf hM hP; have MF := Lib.hid hM; have PF := Lib.hid hP; clear hM hP)
      refine bodyPost_ret (v := wv L none 0 ([] : List FE) a3 c3 X l) (S2.res_cell rfl _ _ (w.heap.size + 1) 28 (wcs L none 0 ([] : List FE) a3 c3 X l) _ rfl MF.out Tryz.underlying28 rfl winSize) rfl ⟨none, 0, [], a3, c3, rfl, rfl, ⟨FI.nil _ _ _, Nat.le_refl _, ILput HC.out.il PF.out (fun hn b o e => by have := HC.out.new3 b o e; omega), HC.out.cap⟩, ⟨(fun b o e => by cases e), (fun y hy => by cases hy), fun _ b o e => by have := HC.out.new3 b o e; omega⟩, PF.out.below HC.out.below (by omega)⟩
    · have HG := Lib.hid (And.intro hbg (And.intro hnc (And.intro hcm hcs)))
      have W_wc := Lib.hid hg
      have hgg : g ≠ gp := hc.away.1 g _ _ rfl
      have HGG := Lib.hid hgg
      have HLT := Lib.hid (And.intro hg.lt hc.pool.lt)
      by_cases hil : i < ys.length
      · obtain ⟨y, hy⟩ : ∃ y, ys[i]? = some y := ⟨_, List.getElem?_eq_getElem hil⟩
        obtain ⟨x, hx, hxy⟩ := getSame hc.same hy
        have hidb := HID.out x (List.mem_of_getElem? hx)
        rw [hxy] at hidb
        have HIDB := Lib.hid hidb
        have HY := Lib.hid hy
        have HIL := Lib.hid hil
        have e3 : decide ((i : Int) < (ys.length : Int)) = true := decide_eq_true (by omega)
        have e4 : decide (i < ys.length) = true := decide_eq_true hil
        have j1 : (0 : Int) ≤ (i : Int) := by omega
        have j2 : (i : Int) < (ys.length : Int) := by omega
        have hw1 : IntKind.i64.wrap ((i : Int) + 1) = (i : Int) + 1 := by rw [IntKind.wrap_i64]; omega
        have jj : (i : Int) ≤ 100000 := by omega
        have B_wc := Lib.hid hc.below
        have P_wc : Hid (∀ y ∈ ys, PL wc wc.heap.size y.a y.f.m.props) := Lib.hid hc.its.2
        have Q_wc := Lib.hid hc.il
        clear hbg hg hnc hcm hcs hy hx hxy hidb hil hi hyl hc hgg
        go_upto_region 3 with fail
        clear e3 e4
        obtain ⟨q1, hq1⟩ : ∃ q1, q1 = World.drew wc := ⟨_, rfl⟩
        have hbD : Below wc.heap.size wc q1 := by rw [hq1]; exact (Below.refl _ _).drew
        have T_q1 : Hid (BK 28 q1 w.heap.size (wcs L A c xs A2 c2 X l)) := Lib.hid (T_wc.out.step hbD)
        have R_q1 : Hid (BK 28 q1 (w.heap.size + 1) (wcs 0 none 0 [] none 0 [] 0)) := Lib.hid (R_wc.out.step hbD)
        have B_q1 : Hid (Below w.heap.size w q1) := Lib.hid (stepB B_wc.out hbD)
        have G_q1 : Hid (BK 26 q1 gp [.slice a3 X.length c3, .int .i64 l]) := Lib.hid (G_wc.out.step hbD)
        have W_q1 : Hid (BK 56 q1 g (ys.flatMap gF ++ sp)) := Lib.hid (W_wc.out.step hbD)
        have P_q1 : Hid (∀ y ∈ ys, PL q1 q1.heap.size y.a y.f.m.props) := Lib.hid (fun y hy => (P_wc.out y hy).step hbD)
        have Q_q1 : Hid (S2.IL q1 q1.heap.size a3 X) := Lib.hid (CL.step Q_wc.out hbD)
        clear T_wc R_wc B_wc G_wc W_wc P_wc Q_wc
        have hbd : (fun w' => BK 56 w' g (ys.flatMap gF ++ sp)) (World.drew wc) := by rw [← hq1]; exact W_q1.out
        have hSD : (fun w' => BK 56 w' g (ys.flatMap gF ++ sp)) q1 := W_q1.out
        have HWD := Lib.hid hq1
        clear hq1 hbD
        refine wp_region_held_drew (S := fun w' => BK 56 w' g (ys.flatMap gF ++ sp)) (by kernel_rfl) hbd (fun hHeld => ?_)
        rw [← HWD.out]
        clear hHeld
        have hHeld := hSD
        clear hSD hbd HWD
        refine wpAnyH_take (i := 1) (v := .slice (some ⟨g, 0, none⟩) ys.length cap) (get_ops _ _ _ rfl) (by kernel_rfl) (by kernel_rfl) (by kernel_rfl) (fun _ _ _ h => h) (Or.inl ⟨by rfl, fun wS hSw => by (try dsimp only at hSw); go_simp⟩) hHeld ?_
        try simp only [Act.put, List.setIfInBounds_toArray, List.set_cons_zero, List.set_cons_succ]
        refine wpAnyH_take (i := 2) (v := .int .i64 i) (get_ops _ _ _ rfl) (by kernel_rfl) (by kernel_rfl) (by kernel_rfl) (fun _ _ _ h => h) (Or.inl ⟨by rfl, fun wS hSw => by (try dsimp only at hSw); go_simp⟩) hHeld ?_
        try simp only [Act.put, List.setIfInBounds_toArray, List.set_cons_zero, List.set_cons_succ]
        refine wpAnyH_take (i := 3) (v := .pointer (some ⟨g, i * 11, none⟩)) (get_ops _ _ _ rfl) (by kernel_rfl) (by kernel_rfl) (by kernel_rfl) (fun _ _ _ h => h) (Or.inl ⟨by rfl, fun wS hSw => by (try dsimp only at hSw); go_simp⟩) hHeld ?_
        try simp only [Act.put, List.setIfInBounds_toArray, List.set_cons_zero, List.set_cons_succ]
        refine wpAnyH_take (i := 4) (v := .pointer (some ⟨g, i * 11, none⟩)) (get_ops _ _ _ rfl) (by kernel_rfl) (by kernel_rfl) (by kernel_rfl) (fun _ _ _ h => h) (Or.inl ⟨by rfl, fun wS hSw => by (try dsimp only at hSw); go_simp⟩) hHeld ?_
        try simp only [Act.put, List.setIfInBounds_toArray, List.set_cons_zero, List.set_cons_succ]
        refine wpAnyH_take (i := 5) (v := .int .i64 y.f.id) (get_ops _ _ _ rfl) (by kernel_rfl) (by kernel_rfl) (by kernel_rfl) (fun _ _ _ h => h) (Or.inl ⟨by rfl, fun wS hSw => by (try dsimp only at hSw); have cS : wS.cell? ⟨g, i * 11, none⟩ = some (.int .i64 y.f.id) := row_item hSw HY.out 0 _ rfl; clear hSw; go_simp⟩) hHeld ?_
        try simp only [Act.put, List.setIfInBounds_toArray, List.set_cons_zero, List.set_cons_succ]
        refine wpAnyH_ready (rs := [0]) (by kernel_rfl) (by simp) ?_
        refine (AllReadyH.cons (get_ops _ _ _ rfl) (fun K hK => ?_) AllReadyH.nil)
        refine wp_load_row 26 _ rfl gp (by go_simp) 26 ([.slice a3 X.length c3, .int .i64 l] : List Value).toArray (0, 0) _ G_q1.out Tryz.underlying26 rfl S2.infoP2 ?_
        clear hHeld
        refine hK.out _ _ W_q1.out (fun hHeld => ?_)
        clear hK K
        try simp only [Act.put, List.setIfInBounds_toArray, List.set_cons_zero, List.set_cons_succ]
        refine wpAnyH_ready (rs := [6]) (by kernel_rfl) (by simp) ?_
        refine (AllReadyH.cons (get_ops _ _ _ rfl) (fun K hK => ?_) AllReadyH.nil)
        have GLT : Hid (gp < q1.heap.size) := Lib.hid G_q1.out.lt
        have WLT : Hid (g < q1.heap.size) := Lib.hid W_q1.out.lt
        go_simp
        refine (HFR.out a3 c3 y.f.id q1 Q_q1.out HC.out.cap HIDB.out.1 HIDB.out.2).mono ?_
        rintro e q2 ⟨a4, c4, rfl, hc4, hil4, hfr4, hb⟩
        have T_q2 : Hid (BK 28 q2 w.heap.size (wcs L A c xs A2 c2 X l)) := Lib.hid (T_q1.out.step hb)
        have R_q2 : Hid (BK 28 q2 (w.heap.size + 1) (wcs 0 none 0 [] none 0 [] 0)) := Lib.hid (R_q1.out.step hb)
        have B_q2 : Hid (Below w.heap.size w q2) := Lib.hid (stepB B_q1.out hb)
        have G_q2 : Hid (BK 26 q2 gp [.slice a3 X.length c3, .int .i64 l]) := Lib.hid (G_q1.out.step hb)
        have W_q2 : Hid (BK 56 q2 g (ys.flatMap gF ++ sp)) := Lib.hid (W_q1.out.step hb)
        have P_q2 : Hid (∀ y ∈ ys, PL q2 q2.heap.size y.a y.f.m.props) := Lib.hid (fun y hy => (P_q1.out y hy).step hb)
        have Q_q2 : Hid (S2.IL q2 q2.heap.size a3 X) := Lib.hid (CL.step Q_q1.out hb)
        clear T_q1 R_q1 B_q1 G_q1 W_q1 P_q1 Q_q1
        have N_q2 : Hid (S2.IL q2 q2.heap.size a4 (S2.delI X y.f.id)) := Lib.hid (hil4)
        have HC4 := Lib.hid hc4
        have HA4 : Hid (Away gp a4 (S2.delI X y.f.id).length) := Lib.hid (away_fr hfr4 HC.out.away3 GLT.out)
        have HA4G : Hid (Away g a4 (S2.delI X y.f.id).length) := Lib.hid (away_fr hfr4 (HC.out.away3g g _ _ rfl) WLT.out)
        have HN4 : Hid (NewN (w.heap.size + 2) a4 (S2.delI X y.f.id).length) := Lib.hid (new_fr hfr4 HC.out.new3 (by have := GLT.out; have := HC.out.gpLe; omega))
        clear hil4 hc4 hfr4 GLT WLT
        clear hHeld hb
        go_wp2_with fail
        refine hK.out _ _ W_q2.out (fun hHeld => ?_)
        clear hK K
        try simp only [Act.put, List.setIfInBounds_toArray, List.set_cons_zero, List.set_cons_succ]
        refine wpAnyH_take (i := 7) (v := .tuple #[S2.pv a4 c4 (S2.delI X y.f.id) l, .bool (decide (y.f.id ∈ X))]) (get_ops _ _ _ rfl) (by kernel_rfl) (by kernel_rfl) (by kernel_rfl) (fun _ _ _ h => h) (Or.inl ⟨by rfl, fun wS hSw => by (try dsimp only at hSw); go_simp⟩) hHeld ?_
        try simp only [Act.put, List.setIfInBounds_toArray, List.set_cons_zero, List.set_cons_succ]
        refine wpAnyH_take (i := 8) (v := S2.pv a4 c4 (S2.delI X y.f.id) l) (get_ops _ _ _ rfl) (by kernel_rfl) (by kernel_rfl) (by kernel_rfl) (fun _ _ _ h => h) (Or.inl ⟨by rfl, fun wS hSw => by (try dsimp only at hSw); go_simp⟩) hHeld ?_
        try simp only [Act.put, List.setIfInBounds_toArray, List.set_cons_zero, List.set_cons_succ]
        refine wpAnyH_take (i := 9) (v := .bool (decide (y.f.id ∈ X))) (get_ops _ _ _ rfl) (by kernel_rfl) (by kernel_rfl) (by kernel_rfl) (fun _ _ _ h => h) (Or.inl ⟨by rfl, fun wS hSw => by (try dsimp only at hSw); go_simp⟩) hHeld ?_
        try simp only [Act.put, List.setIfInBounds_toArray, List.set_cons_zero, List.set_cons_succ]
        refine wpAnyH_ready (rs := [10]) (by kernel_rfl) (by simp) ?_
        refine (AllReadyH.cons (get_ops _ _ _ rfl) (fun K hK => ?_) AllReadyH.nil)
        refine S2.wp_store_all 26 _ _ rfl rfl gp (by go_simp) [.slice a4 (S2.delI X y.f.id).length c4, .int .i64 l] (by first | rfl | go_simp) 26 [.slice a3 X.length c3, .int .i64 l] G_q2.out S2.infoP2 rfl (ones rfl) ?_
        intro q3 hM hP
        have G_q3 : Hid (BK 26 q3 gp [.slice a4 (S2.delI X y.f.id).length c4, .int .i64 l]) := Lib.hid (hM)
        have T_q3 : Hid (BK 28 q3 w.heap.size (wcs L A c xs A2 c2 X l)) := Lib.hid (hP.other T_q2.out (by have := HC.out.gpLe; omega))
        have R_q3 : Hid (BK 28 q3 (w.heap.size + 1) (wcs 0 none 0 [] none 0 [] 0)) := Lib.hid (hP.other R_q2.out (by have := HC.out.gpLe; omega))
        have B_q3 : Hid (Below w.heap.size w q3) := Lib.hid (hP.below B_q2.out (by have := HC.out.gpLe; omega))
        have W_q3 : Hid (BK 56 q3 g (ys.flatMap gF ++ sp)) := Lib.hid (hP.other W_q2.out HGG.out)
        have P_q3 : Hid (∀ y ∈ ys, PL q3 q3.heap.size y.a y.f.m.props) := Lib.hid (fun y hy => by rw [hP.size]; exact (P_q2.out y hy).putA hP (HC.out.away.2 y hy))
        have N_q3 : Hid (S2.IL q3 q3.heap.size a4 (S2.delI X y.f.id)) := Lib.hid (ILput N_q2.out hP HA4.out)
        clear T_q2 R_q2 B_q2 G_q2 W_q2 P_q2 Q_q2 N_q2
        clear hM hP hHeld
        refine hK.out _ _ W_q3.out (fun hHeld => ?_)
        clear hK K
        try simp only [Act.put, List.setIfInBounds_toArray, List.set_cons_zero, List.set_cons_succ]
        refine wpAnyH_done (by kernel_rfl) ?_ _
        go_wp2_with fail
        have hdel := deleteF_any g cap i ys sp q3 W_q3.out HIL.out HG.out.2.1 HG.out.2.2.2
        refine hdel.mono ?_
        rintro e wd ⟨sp2, rfl, hrow, hrl, hput⟩
        have T_wd : Hid (BK 28 wd w.heap.size (wcs L A c xs A2 c2 X l)) := Lib.hid (hput.other T_q3.out (by have := HG.out.1; omega))
        have R_wd : Hid (BK 28 wd (w.heap.size + 1) (wcs 0 none 0 [] none 0 [] 0)) := Lib.hid (hput.other R_q3.out (by have := HG.out.1; omega))
        have G_wd : Hid (BK 26 wd gp [.slice a4 (S2.delI X y.f.id).length c4, .int .i64 l]) := Lib.hid (hput.other G_q3.out (fun e => HGG.out e.symm))
        have B_wd : Hid (Below w.heap.size w wd) := Lib.hid (hput.below B_q3.out (by have := HG.out.1; omega))
        have Q_wd : Hid (S2.IL wd wd.heap.size a4 (S2.delI X y.f.id)) := Lib.hid (ILput N_q3.out hput HA4G.out)
        have P_wd : Hid (∀ z ∈ ys.eraseIdx i, PL wd wd.heap.size z.a z.f.m.props) := Lib.hid (fun z hz => by rw [hput.size]; exact (P_q3.out z (List.mem_of_mem_eraseIdx hz)).putA hput (HC.out.self g _ _ rfl z (List.mem_of_mem_eraseIdx hz)))
        have F_wd : Hid (FI wd wd.heap.size (some ⟨g, 0, none⟩) (ys.eraseIdx i)) := Lib.hid (row_fi hrow P_wd.out)
        have HNW : Hid (∀ z ∈ ys.eraseIdx i, NewL (w.heap.size + 2) z.a) := Lib.hid (fun z hz => HC.out.new z (List.mem_of_mem_eraseIdx hz))
        have HEF : Hid ((ys.eraseIdx i).map FE.f = (xs.map FE.f).eraseIdx i) := Lib.hid (by rw [← HC.out.same]; exact (map_erase FE.f ys i))
        have HEL : Hid ((ys.eraseIdx i).length ≤ cap) := Lib.hid (by rw [List.length_eraseIdx_of_lt HIL.out]; have := HG.out.2.1; omega)
        have HRM : Hid (remR (L, xs.map FE.f, X, l) i = (L, (xs.map FE.f).eraseIdx i, S2.delI X y.f.id, l)) := Lib.hid (rem_at (by rw [← HC.out.same, List.getElem?_map, HY.out]; rfl))
        clear hrow hrl hput T_q3 R_q3 B_q3 G_q3 W_q3 P_q3 N_q3 P_wd
        generalize ys.eraseIdx i = zs at *
        go_upto_region 5 with fail
        have d0 := T_wd.out.cell 0 rfl
        have wld : (loadVar 26 ⟨gp, 0, none⟩).run Tryz.prog wd = .ok (S2.pv a4 c4 (S2.delI X y.f.id) l) wd := S2.run_load_all G_wd.out Tryz.underlying26 rfl S2.infoP2
        have WLD := Lib.hid wld
        clear wld
        go_wp2_with first
          | (refine wpList_load_v (by rfl) 26 (.tmp 6) rfl ⟨gp, 0, none⟩ rfl (S2.pv a4 c4 (S2.delI X y.f.id) l) WLD.out ?_)
          | (refine S2.wpList_store_all (by rfl) 28 (.tmp 4) (.tmp 36) rfl rfl (w.heap.size + 1) rfl (wcs L (some ⟨g, 0, none⟩) cap zs a4 c4 (S2.delI X y.f.id) l) rfl 28 (wcs 0 none 0 [] none 0 [] 0) R_wd.out winSize rfl (ones rfl) ?_; intro wf hM hP; have MF := Lib.hid hM; have PF := Lib.hid hP; clear hM hP)
        rw [HRM.out]
        refine bodyPost_ret (v := wv L (some ⟨g, 0, none⟩) cap zs a4 c4 (S2.delI X y.f.id) l) (S2.res_cell rfl _ _ (w.heap.size + 1) 28 (wcs L (some ⟨g, 0, none⟩) cap zs a4 c4 (S2.delI X y.f.id) l) _ rfl MF.out Tryz.underlying28 rfl winSize) rfl ⟨some ⟨g, 0, none⟩, cap, zs, a4, c4, rfl, HEF.out, ⟨?_, HEL.out, ILput Q_wd.out PF.out (fun hn b o e => by have := HN4.out hn b o e; omega), HC4.out⟩, ⟨(fun b o e => by simp only [Option.some.injEq, Addr.mk.injEq, and_true] at e; have := HG.out.1; omega), (fun z hz b o e => by have := HNW.out z hz b o e; omega), fun hn b o e => by have := HN4.out hn b o e; omega⟩, PF.out.below B_wd.out (by omega)⟩
        rw [PF.out.size]
        exact FI.put F_wd.out PF.out (fun b o e => by simp only [Option.some.injEq, Addr.mk.injEq, and_true] at e; have := HG.out.1; omega) (fun z hz b o e => by have := HNW.out z hz b o e; omega)
      · have e3 : decide ((i : Int) < (ys.length : Int)) = false := decide_eq_false (by omega)
        have e4 : decide (i < ys.length) = false := decide_eq_false hil
        have F_wc : Hid (FI wc wc.heap.size (some ⟨g, 0, none⟩) ys) := Lib.hid (row_fi hg hc.its.2)
        have HRM : Hid (remR (L, xs.map FE.f, X, l) i = (L, xs.map FE.f, X, l)) := Lib.hid (rem_none (by rw [List.getElem?_eq_none]; rw [List.length_map]; omega))
        clear hc hbg hg hnc hcm hcs hil hi hyl hgg
        go_upto_region 5 with fail
        clear e3 e4
        have d0 := T_wc.out.cell 0 rfl
        have wld : (loadVar 26 ⟨gp, 0, none⟩).run Tryz.prog wc = .ok (S2.pv a3 c3 X l) wc := S2.run_load_all G_wc.out Tryz.underlying26 rfl S2.infoP2
        have WLD := Lib.hid wld
        clear wld
        go_wp2_with first
          | (refine wpList_load_v (by rfl) 26 (.tmp 6) rfl ⟨gp, 0, none⟩ rfl (S2.pv a3 c3 X l) WLD.out ?_)
          | (refine S2.wpList_store_all (by rfl) 28 (.tmp 4) (.tmp 36) rfl rfl (w.heap.size + 1) rfl (wcs L (some ⟨g, 0, none⟩) cap ys a3 c3 X l) rfl 28 (wcs 0 none 0 [] none 0 [] 0) R_wc.out winSize rfl (ones rfl) ?_; intro wf hM hP; have MF := Lib.hid hM; have PF := Lib.hid hP; clear hM hP)
        rw [HRM.out]
        refine bodyPost_ret (v := wv L (some ⟨g, 0, none⟩) cap ys a3 c3 X l) (S2.res_cell rfl _ _ (w.heap.size + 1) 28 (wcs L (some ⟨g, 0, none⟩) cap ys a3 c3 X l) _ rfl MF.out Tryz.underlying28 rfl winSize) rfl ⟨some ⟨g, 0, none⟩, cap, ys, a3, c3, rfl, HC.out.same, ⟨?_, HG.out.2.1, ILput HC.out.il PF.out (fun hn b o e => by have := HC.out.new3 b o e; omega), HC.out.cap⟩, ⟨(fun b o e => by simp only [Option.some.injEq, Addr.mk.injEq, and_true] at e; have := HG.out.1; omega), (fun z hz b o e => by have := HC.out.new z hz b o e; omega), fun hn b o e => by have := HC.out.new3 b o e; omega⟩, PF.out.below HC.out.below (by omega)⟩
        rw [PF.out.size]
        exact FI.put F_wc.out PF.out (fun b o e => by simp only [Option.some.injEq, Addr.mk.injEq, and_true] at e; have := HG.out.1; omega) (fun z hz b o e => by have := HC.out.new z hz b o e; omega)
end Go.Proofs.YtmcocepjdhpecabGreatDoor
namespace Go.Proofs.YtmcocepjdhpecabGreatDoor
open Go.RowKit
open S2 (BK Put)

def gK (x : Pkt × PA) : List Value := pkC x.1 x.2
theorem gK_len (x : Pkt × PA) : (gK x).length = 34 := rfl
theorem gK_one (x : Pkt × PA) : ∀ u ∈ gK x, u.oneCell' = true := ones rfl
/-- a packet without lists but its message's properties -/
def KP (w : World) (B : Nat) (x : Pkt × PA) : Prop := PL w B x.2.m x.1.msg.props ∧ x.1.wmsg.props = [] ∧ x.1.subs = [] ∧ x.1.filters = [] ∧ x.1.codes = []
/-- the slice with this address reads as these packets, below block B -/
def KS (w : World) (B : Nat) (A : Option Addr) (xs : List (Pkt × PA)) : Prop := GL gK 34 w B A xs ∧ ∀ x ∈ xs, KP w B x
theorem KP.below {w w' : World} {B : Nat} {x : Pkt × PA} (h : KP w B x) (hb : Below B w w') : KP w' B x := ⟨h.1.below hb, h.2⟩
theorem KP.more {w : World} {B B' : Nat} {x : Pkt × PA} (h : KP w B x) (hB : B ≤ B') : KP w B' x := ⟨h.1.more hB, h.2⟩
theorem KS.nil (w : World) (B : Nat) (A : Option Addr) : KS w B A [] := ⟨GL.nil _ _ _, fun x hx => by cases hx⟩
theorem KS.below {w w' : World} {B : Nat} {A : Option Addr} {xs : List (Pkt × PA)} (h : KS w B A xs) (hb : Below B w w') : KS w' B A xs := ⟨h.1.below hb, fun x hx => (h.2 x hx).below hb⟩
theorem KS.more {w : World} {B B' : Nat} {A : Option Addr} {xs : List (Pkt × PA)} (h : KS w B A xs) (hB : B ≤ B') : KS w B' A xs := ⟨h.1.more hB, fun x hx => (h.2 x hx).more hB⟩
theorem KS.step {w w' : World} {A : Option Addr} {xs : List (Pkt × PA)} (h : KS w w.heap.size A xs) (hb : Below w.heap.size w w') : KS w' w'.heap.size A xs := (h.below hb).more hb.size
theorem KP.pin {w : World} {x : Pkt × PA} (h : KP w w.heap.size x) : PIn w x.1 x.2 := ⟨h.1, by rw [h.2.1]; exact GL.nil _ _ _, by rw [h.2.2.1]; exact GL.nil _ _ _, by rw [h.2.2.2.1]; exact CL.nil _ _ _, by rw [h.2.2.2.2]; exact CL.nil _ _ _⟩
theorem KP.rel (w : World) (B : Nat) (n : Int) (a : PA) : KP w B (relP n, a) := ⟨GL.nil _ _ _, rfl, rfl, rfl, rfl⟩
theorem KP.pub {w : World} {B : Nat} {x : Fl} {d : Bool} {a : PA} (h : PL w B a.m x.m.props) : KP w B (pubP x d, a) := ⟨h, rfl, rfl, rfl, rfl⟩
theorem KS.one {w : World} {g : Nat} {x : Pkt × PA} {T : TypeId} (h : BK T w g (gK x)) (hp : KP w w.heap.size x) : KS w w.heap.size (some ⟨g, 0, none⟩) [x] :=
  ⟨fun _ => ⟨g, 0, rfl, h.lt, fun j y i v hy hv => by
    cases j with
    | zero => simp at hy; subst hy; simpa using h.cell i hv
    | succ j => simp at hy⟩, fun y hy => by simp at hy; subst hy; exact hp⟩
/-- a window, packets and a code that a call answers, all in memory of their own -/
def RetH (r : PW × List Pkt × Int) (W : World) (e : Ending) (w' : World) : Prop := ∃ A c ys A2 c2 A3 c3 ks, e = .returned (.tuple #[wv r.1.1 A c ys A2 c2 r.1.2.2.1 r.1.2.2.2, .slice A3 ks.length c3, .int .i64 r.2.2]) ∧ ys.map FE.f = r.1.2.1 ∧ WOk w' A c ys A2 c2 r.1.2.2.1 ∧ (NewL W.heap.size A ∧ (∀ y ∈ ys, NewL W.heap.size y.a) ∧ NewN W.heap.size A2 r.1.2.2.1.length) ∧ ks.map Prod.fst = r.2.1 ∧ KS w' w'.heap.size A3 ks ∧ Below W.heap.size W w'

/-- the results: a struct in a block of its own, and two values -/
theorem res3 {P : Program} {fn : Func} {p q r : Tmp} {ty : TypeId} (h : fn.results = #[.cell p ty, .tmp q, .tmp r]) (tmps : Array Value) (w : World) (g : Nat) (t : TypeId) (vs : List Value) (d : TypeDesc) (v u : Value)
    (hp : tmps.getD p undef = .pointer (some ⟨g, 0, none⟩)) (hq : tmps.getD q undef = v) (hr : tmps.getD r undef = u) (hg : BK t w g vs)
    (hu : P.underlying ty = some d) (hd : (match d with | .struct _ | .array _ _ => true | _ => false) = true) (hi : (P.info? ty).map (·.size) = some vs.length) :
    (results fn tmps).run P w = .ok (.tuple #[.agg vs.toArray, v, u]) w := by
  have hp' : tmps[p]?.getD undef = .pointer (some ⟨g, 0, none⟩) := by simpa using hp
  have hq' : tmps[q]?.getD undef = v := by simpa using hq
  have hr' : tmps[r]?.getD undef = u := by simpa using hr
  simp [results, h, hp', hq', hr', asAddr, S2.run_load_all hg hu hd hi]
theorem cells_step {w w' : World} {x : FE} {b k : Nat} (h : ∀ j v, (gF x)[j]? = some v → w.cell? ⟨b, k + j, none⟩ = some v) (hb : Below w.heap.size w w') : ∀ j v, (gF x)[j]? = some v → w'.cell? ⟨b, k + j, none⟩ = some v := fun j v hv => by
  have h1 := h j v hv
  have hl : b < w.heap.size := World.block_lt_of_cell? w ⟨b, k + j, none⟩ h1
  rw [hb.cell hl]; exact h1
theorem wok_put {w w' : World} {g : Nat} {A : Option Addr} {c : Nat} {xs : List FE} {A2 : Option Addr} {c2 : Nat} {X : List Int} (h : WOk w A c xs A2 c2 X) (hp : Put g w w') (hA : ∀ b o, A = some ⟨b, o, none⟩ → b ≠ g) (hx : ∀ x ∈ xs, ∀ b o, x.a = some ⟨b, o, none⟩ → b ≠ g) (h2 : 0 < X.length → ∀ b o, A2 = some ⟨b, o, none⟩ → b ≠ g) : WOk w' A c xs A2 c2 X :=
  ⟨by rw [hp.size]; exact FI.put h.1 hp hA hx, h.2.1, ILput h.2.2.1 hp h2, h.2.2.2⟩
theorem posF_le (F : List Fl) (n : Int) : posF F n ≤ F.length := List.findIdx_le_length
theorem pk0 (p : Pkt) (a : PA) : (pkC p a)[0]? = some (.int .i64 p.kind) := rfl
theorem pk1 (p : Pkt) (a : PA) : (pkC p a)[1]? = some (.int .i64 p.id) := rfl

set_option maxRecDepth 20000 in
set_option maxHeartbeats 8000000 in
theorem handle_any (L : Int) (A : Option Addr) (c : Nat) (xs : List FE) (A2 : Option Addr) (c2 : Nat) (X : List Int) (l : Int) (p : Pkt) (a : PA) (w : World) (hw : WOk w A c xs A2 c2 X) (hn : xs.length ≤ 100000) (hp : ∀ x ∈ xs, x.f.m.props.length ≤ 100000) (hX : S2.ckI X l = 0) (hid : ∀ x ∈ xs, -9223372036854775808 ≤ x.f.id ∧ x.f.id ≤ 9223372036854775807) :
    Calls Tryz.prog 10 #[wv L A c xs A2 c2 X l, pkV p a] w (RetH (handleR (L, xs.map FE.f, X, l) p.kind p.id) w) := by
  have hpos : posF (xs.map FE.f) p.id ≤ xs.length := by have := posF_le (xs.map FE.f) p.id; rwa [List.length_map] at this
  have HPO := Lib.hid (fun w1 h => position_any L A c xs A2 c2 X l p.id w1 h hn)
  have HRL := Lib.hid (fun w1 h => release_any L A c xs A2 c2 X l (posF (xs.map FE.f) p.id) w1 h hn hp (by have := (S2.ck_ok.1 hX).1; omega) hpos)
  have HRM := Lib.hid (fun w1 h => remove_any L A c xs A2 c2 X l (posF (xs.map FE.f) p.id) w1 h hn hp hX hid hpos)
  have HPR := Lib.hid (fun w1 => pubrel_any p.id w1)
  have HW := Lib.hid hw
  have HH : Hid (handleR (L, xs.map FE.f, X, l) p.kind p.id = handleR (L, xs.map FE.f, X, l) p.kind p.id) := Lib.hid rfl
  obtain ⟨R, hR⟩ : ∃ R, handleR (L, xs.map FE.f, X, l) p.kind p.id = R := ⟨_, rfl⟩
  rw [hR]
  unfold handleR at hR
  dsimp only at hR
  clear HH hw
  obtain ⟨i, hi⟩ : ∃ i, posF (xs.map FE.f) p.id = i := ⟨_, rfl⟩
  rw [hi] at hR hpos HPO HRL HRM
  obtain ⟨z1, hz1⟩ : ∃ b, b = (p.kind != 4) := ⟨_, rfl⟩
  obtain ⟨z2, hz2⟩ : ∃ b, b = (p.kind != 5) := ⟨_, rfl⟩
  obtain ⟨z3, hz3⟩ : ∃ b, b = (p.kind != 7) := ⟨_, rfl⟩
  have HRE := Lib.hid hR
  clear hX hi hR
  unfold pkV
  go_enter Tryz.func10, Tryz.ntmps10
  go_upto_region 1 with fail
  refine name_world (C := fun w1 => Code.wp _ _ _ _ w1) (((w.alloc (.cells (wcs L A c xs A2 c2 X l).toArray 28)).alloc (.cells (pkC p a).toArray 42)).alloc (.cells (wcs 0 none 0 [] none 0 [] 0).toArray 28)) ?_
  intro w1 hw1
  obtain ⟨hB0, t1, t2, t3⟩ := three hw1
  have T_w1 : Hid (BK 28 w1 w.heap.size (wcs L A c xs A2 c2 X l)) := Lib.hid t1
  have K_w1 : Hid (BK 42 w1 (w.heap.size + 1) (pkC p a)) := Lib.hid t2
  have R_w1 : Hid (BK 28 w1 (w.heap.size + 1 + 1) (wcs 0 none 0 [] none 0 [] 0)) := Lib.hid t3
  have B_w1 := Lib.hid hB0
  have O_w1 : Hid (WOk w1 A c xs A2 c2 X) := Lib.hid (HW.out.step hB0)
  clear hw1 t1 t2 t3 hB0
  have d1 := K_w1.out.cell 1 (pk1 p a)
  go_wp2_with first
    | (refine wpList_load_v (by rfl) 28 (.tmp 2) rfl ⟨w.heap.size, 0, none⟩ rfl (wv L A c xs A2 c2 X l) (S2.run_load_all T_w1.out Tryz.underlying28 rfl winSize) ?_)
  refine (HPO.out w1 O_w1.out.1).mono ?_
  rintro e w2 ⟨rfl, hb⟩
  clear d1
  have T_w2 := Lib.hid (T_w1.out.step hb)
  have K_w2 := Lib.hid (K_w1.out.step hb)
  have R_w2 := Lib.hid (R_w1.out.step hb)
  have B_w2 := Lib.hid (stepB B_w1.out hb)
  have O_w2 := Lib.hid (O_w1.out.step hb)
  have d0 := K_w2.out.cell 0 (pk0 p a)
  clear hb T_w1 K_w1 R_w1 B_w1 O_w1 HPO
  by_cases hk : p.kind ≠ 4 ∧ p.kind ≠ 5 ∧ p.kind ≠ 7
  · have q1 : (p.kind != 4) = true := by simp [hk.1]
    have q2 : (p.kind != 5) = true := by simp [hk.2.1]
    have q3 : (p.kind != 7) = true := by simp [hk.2.2]
    have HRR : Hid (((0, [], [], 0), [], 10) = R) := Lib.hid (by rw [← HRE.out, if_pos hk])
    clear hk hz1 hz2 hz3
    go_wp2_with first
      | (refine S2.wpList_store_all (by rfl) 28 (.tmp 4) (.tmp 26) rfl rfl (w.heap.size + 1 + 1) rfl (wcs 0 none 0 [] none 0 [] 0) rfl 28 (wcs 0 none 0 [] none 0 [] 0) R_w2.out winSize rfl (ones rfl) ?_; intro wf hM hP; have MF := Lib.hid hM; have PF := Lib.hid hP; clear hM hP)
    rw [← HRR.out]
    exact bodyPost_ret (v := .tuple #[wv 0 none 0 [] none 0 [] 0, .slice none 0 0, .int .i64 10]) (res3 rfl _ _ (w.heap.size + 1 + 1) 28 (wcs 0 none 0 [] none 0 [] 0) _ _ _ rfl rfl rfl MF.out Tryz.underlying28 rfl winSize) rfl ⟨none, 0, [], none, 0, none, 0, [], rfl, rfl, ⟨FI.nil _ _ _, Nat.le_refl _, CL.nil _ _ _, Nat.le_refl _⟩, ⟨(fun b o e => by cases e), (fun y hy => by cases hy), fun _ b o e => by cases e⟩, rfl, KS.nil _ _ _, PF.out.below B_w2.out (by omega)⟩
  · obtain ⟨bad, hbad⟩ : ∃ bad, bad = !mayR (xs.map FE.f) i p.kind := ⟨_, rfl⟩
    have HRR : Hid ((if bad = true then ((0, [], [], 0), [], 23) else if p.kind = 5 then (relR (L, xs.map FE.f, X, l) i, [relP p.id], 0) else (remR (L, xs.map FE.f, X, l) i, [], 0)) = R) := Lib.hid (by
      rw [← HRE.out, if_neg hk, hbad]
      cases mayR (xs.map FE.f) i p.kind <;> rfl)
    have HBAD := Lib.hid hbad
    have hk3 : p.kind = 4 ∨ p.kind = 5 ∨ p.kind = 7 := by omega
    clear hk hz1 hz2 hz3 hbad HRE
    go_upto_region 2 with fail
    go_cut [12] from 13 (fun s wx => s = .bool false ∧ w2 = wx)
    case first =>
      rcases hk3 with h | h | h
      · have q1 : (p.kind != 4) = false := by simp [h]
        clear h
        go_wp2
        go_meet
        exact ⟨rfl, rfl⟩
      · have q1 : (p.kind != 4) = true := by simp [h]
        have q2 : (p.kind != 5) = false := by simp [h]
        clear h
        go_wp2
        go_meet
        exact ⟨rfl, rfl⟩
      · have q1 : (p.kind != 4) = true := by simp [h]
        have q2 : (p.kind != 5) = true := by simp [h]
        have q3 : (p.kind != 7) = false := by simp [h]
        clear h
        go_wp2
        go_meet
        exact ⟨rfl, rfl⟩
    case rest =>
      obtain ⟨rfl, rfl⟩ := hcut
      clear d0 hk3 z1 z2 z3
      go_upto_region 4 with fail
      go_cut [27] from 28 (fun s wx => s = .bool bad ∧ Below w2.heap.size w2 wx)
      case first =>
        by_cases hil : i < xs.length
        · obtain ⟨x, hx⟩ : ∃ x, xs[i]? = some x := ⟨_, List.getElem?_eq_getElem hil⟩
          have hxf : (xs.map FE.f)[i]? = some x.f := by rw [List.getElem?_map, hx]; rfl
          have HBA : Hid (bad = !awaitsR x.f p.kind) := Lib.hid (by rw [HBAD.out, mayR_at hxf])
          obtain ⟨b, o, hA, hbB, hc, _⟩ := O_w2.out.1.at_ hx
          subst hA
          have HAW := Lib.hid (fun w1 => awaits_any x p.kind w1)
          have I_w2 : Hid (∀ j v, (gF x)[j]? = some v → w2.cell? ⟨b, o + i * 11 + j, none⟩ = some v) := Lib.hid hc
          have HBL := Lib.hid hbB
          have e4 : decide (i < xs.length) = true := decide_eq_true hil
          have j1 : (0 : Int) ≤ (i : Int) := by omega
          have j2 : (i : Int) < (xs.length : Int) := by omega
          have C_w2 : Hid (Below w2.heap.size w2 w2) := Lib.hid (Below.refl _ _)
          clear hx hxf hc hbB
          obtain ⟨h1, hh1⟩ : ∃ h1, h1 = World.drew w2 := ⟨_, rfl⟩
          have hbD : Below w2.heap.size w2 h1 := by rw [hh1]; exact (Below.refl _ _).drew
          have T_h1 : Hid (BK 28 h1 w.heap.size (wcs L (some ⟨b, o, none⟩) c xs A2 c2 X l)) := Lib.hid (T_w2.out.step hbD)
          have K_h1 : Hid (BK 42 h1 (w.heap.size + 1) (pkC p a)) := Lib.hid (K_w2.out.step hbD)
          have I_h1 : Hid (∀ j v, (gF x)[j]? = some v → h1.cell? ⟨b, o + i * 11 + j, none⟩ = some v) := Lib.hid (cells_step I_w2.out hbD)
          have C_h1 : Hid (Below w2.heap.size w2 h1) := Lib.hid (stepB C_w2.out hbD)
          clear T_w2 K_w2 I_w2 C_w2
          have hbd : (fun w' => BK 28 w' w.heap.size (wcs L (some ⟨b, o, none⟩) c xs A2 c2 X l) ∧ BK 42 w' (w.heap.size + 1) (pkC p a) ∧ ∀ j v, (gF x)[j]? = some v → w'.cell? ⟨b, o + i * 11 + j, none⟩ = some v) (World.drew w2) := by rw [← hh1]; exact ⟨T_h1.out, K_h1.out, I_h1.out⟩
          have hSD : (fun w' => BK 28 w' w.heap.size (wcs L (some ⟨b, o, none⟩) c xs A2 c2 X l) ∧ BK 42 w' (w.heap.size + 1) (pkC p a) ∧ ∀ j v, (gF x)[j]? = some v → w'.cell? ⟨b, o + i * 11 + j, none⟩ = some v) h1 := ⟨T_h1.out, K_h1.out, I_h1.out⟩
          have HWD := Lib.hid hh1
          clear hh1 hbD
          refine wp_region_held_drew (S := fun w' => BK 28 w' w.heap.size (wcs L (some ⟨b, o, none⟩) c xs A2 c2 X l) ∧ BK 42 w' (w.heap.size + 1) (pkC p a) ∧ ∀ j v, (gF x)[j]? = some v → w'.cell? ⟨b, o + i * 11 + j, none⟩ = some v) (by kernel_rfl) hbd (fun hHeld => ?_)
          rw [← HWD.out]
          clear hHeld
          have hHeld := hSD
          clear hSD hbd HWD
          refine wpAnyH_take (i := 0) (v := .int .i64 i) (get_ops _ _ _ rfl) (by kernel_rfl) (by kernel_rfl) (by kernel_rfl) (fun _ _ _ h => h) (Or.inl ⟨by rfl, fun wS hSw => by (try dsimp only at hSw); go_simp⟩) hHeld ?_
          try simp only [Act.put, List.setIfInBounds_toArray, List.set_cons_zero, List.set_cons_succ]
          refine wpAnyH_take (i := 1) (v := .pointer (some ⟨w.heap.size, 1, none⟩)) (get_ops _ _ _ rfl) (by kernel_rfl) (by kernel_rfl) (by kernel_rfl) (fun _ _ _ h => h) (Or.inl ⟨by rfl, fun wS hSw => by (try dsimp only at hSw); go_simp⟩) hHeld ?_
          try simp only [Act.put, List.setIfInBounds_toArray, List.set_cons_zero, List.set_cons_succ]
          refine wpAnyH_take (i := 2) (v := .slice (some ⟨b, o, none⟩) xs.length c) (get_ops _ _ _ rfl) (by kernel_rfl) (by kernel_rfl) (by kernel_rfl) (fun _ _ _ h => h) (Or.inl ⟨by rfl, fun wS hSw => by (try dsimp only at hSw); have cS : wS.cell? ⟨w.heap.size, 1, none⟩ = some (.slice (some ⟨b, o, none⟩) xs.length c) := hSw.1.cell 1 rfl; clear hSw; go_simp⟩) hHeld ?_
          try simp only [Act.put, List.setIfInBounds_toArray, List.set_cons_zero, List.set_cons_succ]
          refine wpAnyH_take (i := 3) (v := .int .i64 xs.length) (get_ops _ _ _ rfl) (by kernel_rfl) (by kernel_rfl) (by kernel_rfl) (fun _ _ _ h => h) (Or.inl ⟨by rfl, fun wS hSw => by (try dsimp only at hSw); go_simp⟩) hHeld ?_
          try simp only [Act.put, List.setIfInBounds_toArray, List.set_cons_zero, List.set_cons_succ]
          refine wpAnyH_take (i := 4) (v := .bool true) (get_ops _ _ _ rfl) (by kernel_rfl) (by kernel_rfl) (by kernel_rfl) (fun _ _ _ h => h) (Or.inl ⟨by rfl, fun wS hSw => by (try dsimp only at hSw); clear hSw; go_simp⟩) hHeld ?_
          try simp only [Act.put, List.setIfInBounds_toArray, List.set_cons_zero, List.set_cons_succ]
          refine wpAnyH_take (i := 5) (v := .bool true) (get_ops _ _ _ rfl) (by kernel_rfl) (by kernel_rfl) (by kernel_rfl) (fun _ _ _ h => h) (Or.inl ⟨by rfl, fun wS hSw => by (try dsimp only at hSw); go_simp⟩) hHeld ?_
          try simp only [Act.put, List.setIfInBounds_toArray, List.set_cons_zero, List.set_cons_succ]
          refine wpAnyH_take (i := 6) (v := .pointer (some ⟨w.heap.size, 1, none⟩)) (get_ops _ _ _ rfl) (by kernel_rfl) (by kernel_rfl) (by kernel_rfl) (fun _ _ _ h => h) (Or.inl ⟨by rfl, fun wS hSw => by (try dsimp only at hSw); go_simp⟩) hHeld ?_
          try simp only [Act.put, List.setIfInBounds_toArray, List.set_cons_zero, List.set_cons_succ]
          refine wpAnyH_take (i := 7) (v := .slice (some ⟨b, o, none⟩) xs.length c) (get_ops _ _ _ rfl) (by kernel_rfl) (by kernel_rfl) (by kernel_rfl) (fun _ _ _ h => h) (Or.inl ⟨by rfl, fun wS hSw => by (try dsimp only at hSw); have cS : wS.cell? ⟨w.heap.size, 1, none⟩ = some (.slice (some ⟨b, o, none⟩) xs.length c) := hSw.1.cell 1 rfl; clear hSw; go_simp⟩) hHeld ?_
          try simp only [Act.put, List.setIfInBounds_toArray, List.set_cons_zero, List.set_cons_succ]
          refine wpAnyH_take (i := 8) (v := .int .i64 i) (get_ops _ _ _ rfl) (by kernel_rfl) (by kernel_rfl) (by kernel_rfl) (fun _ _ _ h => h) (Or.inl ⟨by rfl, fun wS hSw => by (try dsimp only at hSw); go_simp⟩) hHeld ?_
          try simp only [Act.put, List.setIfInBounds_toArray, List.set_cons_zero, List.set_cons_succ]
          refine wpAnyH_take (i := 9) (v := .pointer (some ⟨b, o + i * 11, none⟩)) (get_ops _ _ _ rfl) (by kernel_rfl) (by kernel_rfl) (by kernel_rfl) (fun _ _ _ h => h) (Or.inl ⟨by rfl, fun wS hSw => by (try dsimp only at hSw); clear hSw; go_simp⟩) hHeld ?_
          try simp only [Act.put, List.setIfInBounds_toArray, List.set_cons_zero, List.set_cons_succ]
          refine wpAnyH_take (i := 10) (v := fV x) (get_ops _ _ _ rfl) (by kernel_rfl) (by kernel_rfl) (by kernel_rfl) (fun _ _ _ h => h) (Or.inl ⟨by rfl, fun wS hSw => by (try dsimp only at hSw); exact exec_load 56 _ rfl ⟨b, o + i * 11, none⟩ (by go_simp) _ (load_item hSw.2.2)⟩) hHeld ?_
          try simp only [Act.put, List.setIfInBounds_toArray, List.set_cons_zero, List.set_cons_succ]
          refine wpAnyH_take (i := 11) (v := .pointer (some ⟨w.heap.size + 1, 0, none⟩)) (get_ops _ _ _ rfl) (by kernel_rfl) (by kernel_rfl) (by kernel_rfl) (fun _ _ _ h => h) (Or.inl ⟨by rfl, fun wS hSw => by (try dsimp only at hSw); go_simp⟩) hHeld ?_
          try simp only [Act.put, List.setIfInBounds_toArray, List.set_cons_zero, List.set_cons_succ]
          refine wpAnyH_take (i := 12) (v := .int .i64 p.kind) (get_ops _ _ _ rfl) (by kernel_rfl) (by kernel_rfl) (by kernel_rfl) (fun _ _ _ h => h) (Or.inl ⟨by rfl, fun wS hSw => by (try dsimp only at hSw); have cS : wS.cell? ⟨w.heap.size + 1, 0, none⟩ = some (.int .i64 p.kind) := hSw.2.1.cell 0 (pk0 p a); clear hSw; go_simp⟩) hHeld ?_
          try simp only [Act.put, List.setIfInBounds_toArray, List.set_cons_zero, List.set_cons_succ]
          refine wpAnyH_ready (rs := [13]) (by kernel_rfl) (by simp) ?_
          refine (AllReadyH.cons (get_ops _ _ _ rfl) (fun K hK => ?_) AllReadyH.nil)
          go_simp
          refine (HAW.out h1).mono ?_
          rintro e h2 ⟨rfl, hb⟩
          have T_h2 : Hid (BK 28 h2 w.heap.size (wcs L (some ⟨b, o, none⟩) c xs A2 c2 X l)) := Lib.hid (T_h1.out.step hb)
          have K_h2 : Hid (BK 42 h2 (w.heap.size + 1) (pkC p a)) := Lib.hid (K_h1.out.step hb)
          have I_h2 : Hid (∀ j v, (gF x)[j]? = some v → h2.cell? ⟨b, o + i * 11 + j, none⟩ = some v) := Lib.hid (cells_step I_h1.out hb)
          have C_h2 : Hid (Below w2.heap.size w2 h2) := Lib.hid (stepB C_h1.out hb)
          clear T_h1 K_h1 I_h1 C_h1
          clear hHeld hb
          go_wp2_with fail
          refine hK.out _ _ ⟨T_h2.out, K_h2.out, I_h2.out⟩ (fun hHeld => ?_)
          clear hK K
          try simp only [Act.put, List.setIfInBounds_toArray, List.set_cons_zero, List.set_cons_succ]
          refine wpAnyH_take (i := 14) (v := .bool (!awaitsR x.f p.kind)) (get_ops _ _ _ rfl) (by kernel_rfl) (by kernel_rfl) (by kernel_rfl) (fun _ _ _ h => h) (Or.inl ⟨by rfl, fun wS hSw => by (try dsimp only at hSw); go_simp⟩) hHeld ?_
          try simp only [Act.put, List.setIfInBounds_toArray, List.set_cons_zero, List.set_cons_succ]
          refine wpAnyH_take (i := 15) (v := .bool (!awaitsR x.f p.kind)) (get_ops _ _ _ rfl) (by kernel_rfl) (by kernel_rfl) (by kernel_rfl) (fun _ _ _ h => h) (Or.inl ⟨by rfl, fun wS hSw => by (try dsimp only at hSw); go_simp⟩) hHeld ?_
          try simp only [Act.put, List.setIfInBounds_toArray, List.set_cons_zero, List.set_cons_succ]
          refine wpAnyH_take (i := 16) (v := .bool (!awaitsR x.f p.kind)) (get_ops _ _ _ rfl) (by kernel_rfl) (by kernel_rfl) (by kernel_rfl) (fun _ _ _ h => h) (Or.inl ⟨by rfl, fun wS hSw => by (try dsimp only at hSw); go_simp⟩) hHeld ?_
          try simp only [Act.put, List.setIfInBounds_toArray, List.set_cons_zero, List.set_cons_succ]
          refine wpAnyH_done (by kernel_rfl) ?_ _
          go_wp2_with fail
          go_meet
          exact ⟨by rw [HBA.out], C_h2.out⟩
        · have HBA : Hid (bad = false) := Lib.hid (by rw [HBAD.out, mayR_none (List.getElem?_eq_none (by rw [List.length_map]; omega))]; rfl)
          have e4 : decide (i < xs.length) = false := decide_eq_false hil
          have C_w2 : Hid (Below w2.heap.size w2 w2) := Lib.hid (Below.refl _ _)
          clear hil
          obtain ⟨h1, hh1⟩ : ∃ h1, h1 = World.drew w2 := ⟨_, rfl⟩
          have hbD : Below w2.heap.size w2 h1 := by rw [hh1]; exact (Below.refl _ _).drew
          have T_h1 : Hid (BK 28 h1 w.heap.size (wcs L A c xs A2 c2 X l)) := Lib.hid (T_w2.out.step hbD)
          have K_h1 : Hid (BK 42 h1 (w.heap.size + 1) (pkC p a)) := Lib.hid (K_w2.out.step hbD)
          have C_h1 : Hid (Below w2.heap.size w2 h1) := Lib.hid (stepB C_w2.out hbD)
          clear T_w2 K_w2 C_w2
          have hbd : (fun w' => BK 28 w' w.heap.size (wcs L A c xs A2 c2 X l) ∧ BK 42 w' (w.heap.size + 1) (pkC p a)) (World.drew w2) := by rw [← hh1]; exact ⟨T_h1.out, K_h1.out⟩
          have hSD : (fun w' => BK 28 w' w.heap.size (wcs L A c xs A2 c2 X l) ∧ BK 42 w' (w.heap.size + 1) (pkC p a)) h1 := ⟨T_h1.out, K_h1.out⟩
          have HWD := Lib.hid hh1
          clear hh1 hbD
          refine wp_region_held_drew (S := fun w' => BK 28 w' w.heap.size (wcs L A c xs A2 c2 X l) ∧ BK 42 w' (w.heap.size + 1) (pkC p a)) (by kernel_rfl) hbd (fun hHeld => ?_)
          rw [← HWD.out]
          clear hHeld
          have hHeld := hSD
          clear hSD hbd HWD
          refine wpAnyH_take (i := 0) (v := .int .i64 i) (get_ops _ _ _ rfl) (by kernel_rfl) (by kernel_rfl) (by kernel_rfl) (fun _ _ _ h => h) (Or.inl ⟨by rfl, fun wS hSw => by (try dsimp only at hSw); go_simp⟩) hHeld ?_
          try simp only [Act.put, List.setIfInBounds_toArray, List.set_cons_zero, List.set_cons_succ]
          refine wpAnyH_take (i := 1) (v := .pointer (some ⟨w.heap.size, 1, none⟩)) (get_ops _ _ _ rfl) (by kernel_rfl) (by kernel_rfl) (by kernel_rfl) (fun _ _ _ h => h) (Or.inl ⟨by rfl, fun wS hSw => by (try dsimp only at hSw); go_simp⟩) hHeld ?_
          try simp only [Act.put, List.setIfInBounds_toArray, List.set_cons_zero, List.set_cons_succ]
          refine wpAnyH_take (i := 2) (v := .slice A xs.length c) (get_ops _ _ _ rfl) (by kernel_rfl) (by kernel_rfl) (by kernel_rfl) (fun _ _ _ h => h) (Or.inl ⟨by rfl, fun wS hSw => by (try dsimp only at hSw); have cS : wS.cell? ⟨w.heap.size, 1, none⟩ = some (.slice A xs.length c) := hSw.1.cell 1 rfl; clear hSw; go_simp⟩) hHeld ?_
          try simp only [Act.put, List.setIfInBounds_toArray, List.set_cons_zero, List.set_cons_succ]
          refine wpAnyH_take (i := 3) (v := .int .i64 xs.length) (get_ops _ _ _ rfl) (by kernel_rfl) (by kernel_rfl) (by kernel_rfl) (fun _ _ _ h => h) (Or.inl ⟨by rfl, fun wS hSw => by (try dsimp only at hSw); go_simp⟩) hHeld ?_
          try simp only [Act.put, List.setIfInBounds_toArray, List.set_cons_zero, List.set_cons_succ]
          refine wpAnyH_take (i := 4) (v := .bool false) (get_ops _ _ _ rfl) (by kernel_rfl) (by kernel_rfl) (by kernel_rfl) (fun _ _ _ h => h) (Or.inl ⟨by rfl, fun wS hSw => by (try dsimp only at hSw); clear hSw; go_simp⟩) hHeld ?_
          try simp only [Act.put, List.setIfInBounds_toArray, List.set_cons_zero, List.set_cons_succ]
          refine wpAnyH_take (i := 5) (v := .bool false) (get_ops _ _ _ rfl) (by kernel_rfl) (by kernel_rfl) (by kernel_rfl) (fun _ _ _ h => h) (Or.inl ⟨by rfl, fun wS hSw => by (try dsimp only at hSw); go_simp⟩) hHeld ?_
          try simp only [Act.put, List.setIfInBounds_toArray, List.set_cons_zero, List.set_cons_succ]
          refine wpAnyH_take (i := 6) (v := undef) (get_ops _ _ _ rfl) (by kernel_rfl) (by kernel_rfl) (by kernel_rfl) (fun _ _ _ h => h) (Or.inr ⟨by rfl, rfl⟩) hHeld ?_
          try simp only [Act.put, List.setIfInBounds_toArray, List.set_cons_zero, List.set_cons_succ]
          refine wpAnyH_take (i := 7) (v := undef) (get_ops _ _ _ rfl) (by kernel_rfl) (by kernel_rfl) (by kernel_rfl) (fun _ _ _ h => h) (Or.inr ⟨by rfl, rfl⟩) hHeld ?_
          try simp only [Act.put, List.setIfInBounds_toArray, List.set_cons_zero, List.set_cons_succ]
          refine wpAnyH_take (i := 8) (v := undef) (get_ops _ _ _ rfl) (by kernel_rfl) (by kernel_rfl) (by kernel_rfl) (fun _ _ _ h => h) (Or.inr ⟨by rfl, rfl⟩) hHeld ?_
          try simp only [Act.put, List.setIfInBounds_toArray, List.set_cons_zero, List.set_cons_succ]
          refine wpAnyH_take (i := 9) (v := undef) (get_ops _ _ _ rfl) (by kernel_rfl) (by kernel_rfl) (by kernel_rfl) (fun _ _ _ h => h) (Or.inr ⟨by rfl, rfl⟩) hHeld ?_
          try simp only [Act.put, List.setIfInBounds_toArray, List.set_cons_zero, List.set_cons_succ]
          refine wpAnyH_take (i := 10) (v := undef) (get_ops _ _ _ rfl) (by kernel_rfl) (by kernel_rfl) (by kernel_rfl) (fun _ _ _ h => h) (Or.inr ⟨by rfl, rfl⟩) hHeld ?_
          try simp only [Act.put, List.setIfInBounds_toArray, List.set_cons_zero, List.set_cons_succ]
          refine wpAnyH_take (i := 11) (v := undef) (get_ops _ _ _ rfl) (by kernel_rfl) (by kernel_rfl) (by kernel_rfl) (fun _ _ _ h => h) (Or.inr ⟨by rfl, rfl⟩) hHeld ?_
          try simp only [Act.put, List.setIfInBounds_toArray, List.set_cons_zero, List.set_cons_succ]
          refine wpAnyH_take (i := 12) (v := undef) (get_ops _ _ _ rfl) (by kernel_rfl) (by kernel_rfl) (by kernel_rfl) (fun _ _ _ h => h) (Or.inr ⟨by rfl, rfl⟩) hHeld ?_
          try simp only [Act.put, List.setIfInBounds_toArray, List.set_cons_zero, List.set_cons_succ]
          refine wpAnyH_take (i := 13) (v := undef) (get_ops _ _ _ rfl) (by kernel_rfl) (by kernel_rfl) (by kernel_rfl) (fun _ _ _ h => h) (Or.inr ⟨by rfl, rfl⟩) hHeld ?_
          try simp only [Act.put, List.setIfInBounds_toArray, List.set_cons_zero, List.set_cons_succ]
          refine wpAnyH_take (i := 14) (v := undef) (get_ops _ _ _ rfl) (by kernel_rfl) (by kernel_rfl) (by kernel_rfl) (fun _ _ _ h => h) (Or.inr ⟨by rfl, rfl⟩) hHeld ?_
          try simp only [Act.put, List.setIfInBounds_toArray, List.set_cons_zero, List.set_cons_succ]
          refine wpAnyH_take (i := 15) (v := .bool false) (get_ops _ _ _ rfl) (by kernel_rfl) (by kernel_rfl) (by kernel_rfl) (fun _ _ _ h => h) (Or.inl ⟨by rfl, fun wS hSw => by (try dsimp only at hSw); go_simp⟩) hHeld ?_
          try simp only [Act.put, List.setIfInBounds_toArray, List.set_cons_zero, List.set_cons_succ]
          refine wpAnyH_take (i := 16) (v := .bool false) (get_ops _ _ _ rfl) (by kernel_rfl) (by kernel_rfl) (by kernel_rfl) (fun _ _ _ h => h) (Or.inl ⟨by rfl, fun wS hSw => by (try dsimp only at hSw); go_simp⟩) hHeld ?_
          try simp only [Act.put, List.setIfInBounds_toArray, List.set_cons_zero, List.set_cons_succ]
          refine wpAnyH_done (by kernel_rfl) ?_ _
          go_wp2_with fail
          go_meet
          exact ⟨by rw [HBA.out], C_h1.out⟩
      case rest =>
        obtain ⟨rfl, hbc⟩ := hcut
        have T_wc := Lib.hid (T_w2.out.step hbc)
        have K_wc := Lib.hid (K_w2.out.step hbc)
        have R_wc := Lib.hid (R_w2.out.step hbc)
        have B_wc := Lib.hid (stepB B_w2.out hbc)
        have O_wc := Lib.hid (O_w2.out.step hbc)
        clear hbc T_w2 K_w2 R_w2 B_w2 O_w2 HBAD
        cases bad with
        | true =>
          go_wp2_with first
            | (refine S2.wpList_store_all (by rfl) 28 (.tmp 4) (.tmp 44) rfl rfl (w.heap.size + 1 + 1) rfl (wcs 0 none 0 [] none 0 [] 0) rfl 28 (wcs 0 none 0 [] none 0 [] 0) R_wc.out winSize rfl (ones rfl) ?_; intro wf hM hP; have MF := Lib.hid hM; have PF := Lib.hid hP; clear hM hP)
          rw [← HRR.out]
          exact bodyPost_ret (v := .tuple #[wv 0 none 0 [] none 0 [] 0, .slice none 0 0, .int .i64 23]) (res3 rfl _ _ (w.heap.size + 1 + 1) 28 (wcs 0 none 0 [] none 0 [] 0) _ _ _ rfl rfl rfl MF.out Tryz.underlying28 rfl winSize) rfl ⟨none, 0, [], none, 0, none, 0, [], rfl, rfl, ⟨FI.nil _ _ _, Nat.le_refl _, CL.nil _ _ _, Nat.le_refl _⟩, ⟨(fun b o e => by cases e), (fun y hy => by cases hy), fun _ b o e => by cases e⟩, rfl, KS.nil _ _ _, PF.out.below B_wc.out (by omega)⟩
        | false =>
          have d0 := K_wc.out.cell 0 (pk0 p a)
          by_cases h5 : p.kind = 5
          · have HR5 : Hid ((relR (L, xs.map FE.f, X, l) i, [relP p.id], 0) = R) := Lib.hid (by have := HRR.out; rw [if_neg (by decide), if_pos h5] at this; exact this)
            have q5 : (p.kind == 5) = true := by simp [h5]
            clear h5
            go_upto_region 7 with fail
            clear d0 q5
            obtain ⟨RW, hRW⟩ : ∃ RW, relR (L, xs.map FE.f, X, l) i = RW := ⟨_, rfl⟩
            rw [hRW] at HRL HR5
            clear hRW
            obtain ⟨r1, rF, r3, r4⟩ := RW
            obtain ⟨h1, hh1⟩ : ∃ h1, h1 = World.drew wc := ⟨_, rfl⟩
            have hbD : Below wc.heap.size wc h1 := by rw [hh1]; exact (Below.refl _ _).drew
            have T_h1 : Hid (BK 28 h1 w.heap.size (wcs L A c xs A2 c2 X l)) := Lib.hid (T_wc.out.step hbD)
            have K_h1 : Hid (BK 42 h1 (w.heap.size + 1) (pkC p a)) := Lib.hid (K_wc.out.step hbD)
            have R_h1 : Hid (BK 28 h1 (w.heap.size + 1 + 1) (wcs 0 none 0 [] none 0 [] 0)) := Lib.hid (R_wc.out.step hbD)
            have B_h1 : Hid (Below w.heap.size w h1) := Lib.hid (stepB B_wc.out hbD)
            have O_h1 : Hid (WOk h1 A c xs A2 c2 X) := Lib.hid (O_wc.out.step hbD)
            clear T_wc K_wc R_wc B_wc O_wc
            have hbd : (fun w' => BK 28 w' w.heap.size (wcs L A c xs A2 c2 X l) ∧ BK 42 w' (w.heap.size + 1) (pkC p a)) (World.drew wc) := by rw [← hh1]; exact ⟨T_h1.out, K_h1.out⟩
            have hSD : (fun w' => BK 28 w' w.heap.size (wcs L A c xs A2 c2 X l) ∧ BK 42 w' (w.heap.size + 1) (pkC p a)) h1 := ⟨T_h1.out, K_h1.out⟩
            have HWD := Lib.hid hh1
            clear hh1 hbD
            refine wp_region_held_drew (S := fun w' => BK 28 w' w.heap.size (wcs L A c xs A2 c2 X l) ∧ BK 42 w' (w.heap.size + 1) (pkC p a)) (by kernel_rfl) hbd (fun hHeld => ?_)
            rw [← HWD.out]
            clear hHeld
            have hHeld := hSD
            clear hSD hbd HWD
            refine wpAnyH_take (i := 0) (v := wv L A c xs A2 c2 X l) (get_ops _ _ _ rfl) (by kernel_rfl) (by kernel_rfl) (by kernel_rfl) (fun _ _ _ h => h) (Or.inl ⟨by rfl, fun wS hSw => by (try dsimp only at hSw); exact exec_load 28 _ rfl ⟨w.heap.size, 0, none⟩ (by go_simp) _ (S2.run_load_all hSw.1 Tryz.underlying28 rfl winSize)⟩) hHeld ?_
            try simp only [Act.put, List.setIfInBounds_toArray, List.set_cons_zero, List.set_cons_succ]
            refine wpAnyH_take (i := 1) (v := .int .i64 i) (get_ops _ _ _ rfl) (by kernel_rfl) (by kernel_rfl) (by kernel_rfl) (fun _ _ _ h => h) (Or.inl ⟨by rfl, fun wS hSw => by (try dsimp only at hSw); go_simp⟩) hHeld ?_
            try simp only [Act.put, List.setIfInBounds_toArray, List.set_cons_zero, List.set_cons_succ]
            refine wpAnyH_take (i := 3) (v := .pointer (some ⟨w.heap.size + 1, 1, none⟩)) (get_ops _ _ _ rfl) (by kernel_rfl) (by kernel_rfl) (by kernel_rfl) (fun _ _ _ h => h) (Or.inl ⟨by rfl, fun wS hSw => by (try dsimp only at hSw); go_simp⟩) hHeld ?_
            try simp only [Act.put, List.setIfInBounds_toArray, List.set_cons_zero, List.set_cons_succ]
            refine wpAnyH_take (i := 4) (v := .int .i64 p.id) (get_ops _ _ _ rfl) (by kernel_rfl) (by kernel_rfl) (by kernel_rfl) (fun _ _ _ h => h) (Or.inl ⟨by rfl, fun wS hSw => by (try dsimp only at hSw); have cS : wS.cell? ⟨w.heap.size + 1, 1, none⟩ = some (.int .i64 p.id) := hSw.2.cell 1 (pk1 p a); clear hSw; go_simp⟩) hHeld ?_
            try simp only [Act.put, List.setIfInBounds_toArray, List.set_cons_zero, List.set_cons_succ]
            refine wpAnyH_ready (rs := [2]) (by kernel_rfl) (by simp) ?_
            refine (AllReadyH.cons (get_ops _ _ _ rfl) (fun K hK => ?_) AllReadyH.nil)
            have ZO : Hid (w.heap.size + 1 + 1 < h1.heap.size) := Lib.hid R_h1.out.lt
            go_simp
            refine (HRL.out h1 O_h1.out).mono ?_
            rintro e h2 ⟨A5, c5, ys, A6, c6, rfl, hys5, hok5, hfr5, hb⟩
            have T_h2 : Hid (BK 28 h2 w.heap.size (wcs L A c xs A2 c2 X l)) := Lib.hid (T_h1.out.step hb)
            have K_h2 : Hid (BK 42 h2 (w.heap.size + 1) (pkC p a)) := Lib.hid (K_h1.out.step hb)
            have R_h2 : Hid (BK 28 h2 (w.heap.size + 1 + 1) (wcs 0 none 0 [] none 0 [] 0)) := Lib.hid (R_h1.out.step hb)
            have B_h2 : Hid (Below w.heap.size w h2) := Lib.hid (stepB B_h1.out hb)
            have O_h2 : Hid (WOk h2 A c xs A2 c2 X) := Lib.hid (O_h1.out.step hb)
            clear T_h1 K_h1 R_h1 B_h1 O_h1
            have W_h2 : Hid (WOk h2 A5 c5 ys A6 c6 r3) := Lib.hid (hok5)
            have HF5 := Lib.hid hfr5
            have HY5 := Lib.hid hys5
            clear hok5 hfr5 hys5
            clear hHeld hb
            go_wp2_with fail
            refine hK.out _ _ ⟨T_h2.out, K_h2.out⟩ (fun hHeld => ?_)
            clear hK K
            try simp only [Act.put, List.setIfInBounds_toArray, List.set_cons_zero, List.set_cons_succ]
            refine wpAnyH_ready (rs := [5]) (by kernel_rfl) (by simp) ?_
            refine (AllReadyH.cons (get_ops _ _ _ rfl) (fun K hK => ?_) AllReadyH.nil)
            go_simp
            refine (HPR.out h2).mono ?_
            rintro e h3 ⟨rfl, hb⟩
            have T_h3 : Hid (BK 28 h3 w.heap.size (wcs L A c xs A2 c2 X l)) := Lib.hid (T_h2.out.step hb)
            have K_h3 : Hid (BK 42 h3 (w.heap.size + 1) (pkC p a)) := Lib.hid (K_h2.out.step hb)
            have R_h3 : Hid (BK 28 h3 (w.heap.size + 1 + 1) (wcs 0 none 0 [] none 0 [] 0)) := Lib.hid (R_h2.out.step hb)
            have B_h3 : Hid (Below w.heap.size w h3) := Lib.hid (stepB B_h2.out hb)
            have O_h3 : Hid (WOk h3 A c xs A2 c2 X) := Lib.hid (O_h2.out.step hb)
            have W_h3 : Hid (WOk h3 A5 c5 ys A6 c6 r3) := Lib.hid (W_h2.out.step hb)
            clear T_h2 K_h2 R_h2 B_h2 O_h2 W_h2
            clear hHeld hb
            go_wp2_with fail
            refine hK.out _ _ ⟨T_h3.out, K_h3.out⟩ (fun hHeld => ?_)
            clear hK K
            try simp only [Act.put, List.setIfInBounds_toArray, List.set_cons_zero, List.set_cons_succ]
            refine wpAnyH_ready (rs := [6, 7]) (by kernel_rfl) (by simp) ?_
            refine (AllReadyH.cons (get_ops _ _ _ rfl) (fun K hK => ?_) (AllReadyH.cons (get_ops _ _ _ rfl) (fun K hK => ?_) AllReadyH.nil))
            · simp only [pkV, pkC]
              go_simp
              obtain ⟨gs, hgs⟩ : ∃ gs, gs = h3.heap.size := ⟨_, rfl⟩
              refine name_world (C := fun w9 => K _ w9) (h3.alloc (.cells (gK (relP p.id, PA.zero)).toArray 42)) ?_
              intro h4 hh4
              have hb : Below h3.heap.size h3 h4 := by rw [hh4]; exact S2.below_new _ _
              have hN : BK 42 h4 gs (gK (relP p.id, PA.zero)) := by rw [hh4, hgs]; exact BK.new _ _ _
              have HGS : Hid (w.heap.size + 1 + 1 < gs) := Lib.hid (by rw [hgs]; exact R_h3.out.lt)
              have T_h4 : Hid (BK 28 h4 w.heap.size (wcs L A c xs A2 c2 X l)) := Lib.hid (T_h3.out.step hb)
              have K_h4 : Hid (BK 42 h4 (w.heap.size + 1) (pkC p a)) := Lib.hid (K_h3.out.step hb)
              have R_h4 : Hid (BK 28 h4 (w.heap.size + 1 + 1) (wcs 0 none 0 [] none 0 [] 0)) := Lib.hid (R_h3.out.step hb)
              have B_h4 : Hid (Below w.heap.size w h4) := Lib.hid (stepB B_h3.out hb)
              have O_h4 : Hid (WOk h4 A c xs A2 c2 X) := Lib.hid (O_h3.out.step hb)
              have W_h4 : Hid (WOk h4 A5 c5 ys A6 c6 r3) := Lib.hid (W_h3.out.step hb)
              clear T_h3 K_h3 R_h3 B_h3 O_h3 W_h3
              have V_h4 := Lib.hid hN
              try rw [← hh4]
              try rw [← hgs]
              clear hHeld hb hN hh4 hgs
              refine hK.out _ _ ⟨T_h4.out, K_h4.out⟩ (fun hHeld => ?_)
              clear hK K
              try simp only [Act.put, List.setIfInBounds_toArray, List.set_cons_zero, List.set_cons_succ]
              refine wpAnyH_ready (rs := [7]) (by kernel_rfl) (by simp) ?_
              refine (AllReadyH.cons (get_ops _ _ _ rfl) (fun K hK => ?_) AllReadyH.nil)
              refine S2.wp_store_all 28 _ _ rfl rfl (w.heap.size + 1 + 1) (by go_simp) (wcs r1 A5 c5 ys A6 c6 r3 r4) (by first | rfl | go_simp) 28 (wcs 0 none 0 [] none 0 [] 0) R_h4.out winSize rfl (ones rfl) ?_
              intro h5 hM hP
              have R_h5 : Hid (BK 28 h5 (w.heap.size + 1 + 1) (wcs r1 A5 c5 ys A6 c6 r3 r4)) := Lib.hid (hM)
              have T_h5 : Hid (BK 28 h5 w.heap.size (wcs L A c xs A2 c2 X l)) := Lib.hid (hP.other T_h4.out (by omega))
              have K_h5 : Hid (BK 42 h5 (w.heap.size + 1) (pkC p a)) := Lib.hid (hP.other K_h4.out (by omega))
              have B_h5 : Hid (Below w.heap.size w h5) := Lib.hid (hP.below B_h4.out (by omega))
              have W_h5 : Hid (WOk h5 A5 c5 ys A6 c6 r3) := Lib.hid (wok_put W_h4.out hP (fun b o e => by have := HF5.out.1 b o e; have := ZO.out; omega) (fun y hy b o e => by have := HF5.out.2.1 y hy b o e; have := ZO.out; omega) (fun hn b o e => by have := HF5.out.2.2 hn b o e; have := ZO.out; omega))
              have V_h5 : Hid (BK 42 h5 gs (gK (relP p.id, PA.zero))) := Lib.hid (hP.other V_h4.out (by have := HGS.out; omega))
              clear T_h4 K_h4 R_h4 B_h4 O_h4 W_h4 V_h4
              clear hM hP hHeld
              refine hK.out _ _ ⟨T_h5.out, K_h5.out⟩ (fun hHeld => ?_)
              clear hK K
              try simp only [Act.put, List.setIfInBounds_toArray, List.set_cons_zero, List.set_cons_succ]
              refine wpAnyH_take (i := 8) (v := .slice (some ⟨gs, 0, none⟩) 1 1) (get_ops _ _ _ rfl) (by kernel_rfl) (by kernel_rfl) (by kernel_rfl) (fun _ _ _ h => h) (Or.inl ⟨by rfl, fun wS hSw => by (try dsimp only at hSw); go_simp⟩) hHeld ?_
              try simp only [Act.put, List.setIfInBounds_toArray, List.set_cons_zero, List.set_cons_succ]
              refine wpAnyH_take (i := 9) (v := .int .i64 0) (get_ops _ _ _ rfl) (by kernel_rfl) (by kernel_rfl) (by kernel_rfl) (fun _ _ _ h => h) (Or.inl ⟨by rfl, fun wS hSw => by (try dsimp only at hSw); go_simp⟩) hHeld ?_
              try simp only [Act.put, List.setIfInBounds_toArray, List.set_cons_zero, List.set_cons_succ]
              refine wpAnyH_done (by kernel_rfl) ?_ _
              go_wp2_with fail
              rw [← HR5.out]
              exact bodyPost_ret (v := .tuple #[wv r1 A5 c5 ys A6 c6 r3 r4, .slice (some ⟨gs, 0, none⟩) 1 1, .int .i64 0]) (res3 rfl _ _ (w.heap.size + 1 + 1) 28 (wcs r1 A5 c5 ys A6 c6 r3 r4) _ _ _ rfl rfl rfl R_h5.out Tryz.underlying28 rfl winSize) rfl ⟨A5, c5, ys, A6, c6, some ⟨gs, 0, none⟩, 1, [(relP p.id, PA.zero)], rfl, HY5.out, W_h5.out, ⟨(fun b o e => by have := HF5.out.1 b o e; have := ZO.out; omega), (fun y hy b o e => by have := HF5.out.2.1 y hy b o e; have := ZO.out; omega), fun hn b o e => by have := HF5.out.2.2 hn b o e; have := ZO.out; omega⟩, rfl, KS.one V_h5.out (KP.rel _ _ _ _), B_h5.out⟩
            · refine S2.wp_store_all 28 _ _ rfl rfl (w.heap.size + 1 + 1) (by go_simp) (wcs r1 A5 c5 ys A6 c6 r3 r4) (by first | rfl | go_simp) 28 (wcs 0 none 0 [] none 0 [] 0) R_h3.out winSize rfl (ones rfl) ?_
              intro h4 hM hP
              have R_h4 : Hid (BK 28 h4 (w.heap.size + 1 + 1) (wcs r1 A5 c5 ys A6 c6 r3 r4)) := Lib.hid (hM)
              have T_h4 : Hid (BK 28 h4 w.heap.size (wcs L A c xs A2 c2 X l)) := Lib.hid (hP.other T_h3.out (by omega))
              have K_h4 : Hid (BK 42 h4 (w.heap.size + 1) (pkC p a)) := Lib.hid (hP.other K_h3.out (by omega))
              have B_h4 : Hid (Below w.heap.size w h4) := Lib.hid (hP.below B_h3.out (by omega))
              have W_h4 : Hid (WOk h4 A5 c5 ys A6 c6 r3) := Lib.hid (wok_put W_h3.out hP (fun b o e => by have := HF5.out.1 b o e; have := ZO.out; omega) (fun y hy b o e => by have := HF5.out.2.1 y hy b o e; have := ZO.out; omega) (fun hn b o e => by have := HF5.out.2.2 hn b o e; have := ZO.out; omega))
              clear T_h3 K_h3 R_h3 B_h3 O_h3 W_h3
              clear hM hP hHeld
              refine hK.out _ _ ⟨T_h4.out, K_h4.out⟩ (fun hHeld => ?_)
              clear hK K
              try simp only [Act.put, List.setIfInBounds_toArray, List.set_cons_zero, List.set_cons_succ]
              refine wpAnyH_ready (rs := [6]) (by kernel_rfl) (by simp) ?_
              refine (AllReadyH.cons (get_ops _ _ _ rfl) (fun K hK => ?_) AllReadyH.nil)
              simp only [pkV, pkC]
              go_simp
              obtain ⟨gs, hgs⟩ : ∃ gs, gs = h4.heap.size := ⟨_, rfl⟩
              refine name_world (C := fun w9 => K _ w9) (h4.alloc (.cells (gK (relP p.id, PA.zero)).toArray 42)) ?_
              intro h5 hh5
              have hb : Below h4.heap.size h4 h5 := by rw [hh5]; exact S2.below_new _ _
              have hN : BK 42 h5 gs (gK (relP p.id, PA.zero)) := by rw [hh5, hgs]; exact BK.new _ _ _
              have HGS : Hid (w.heap.size + 1 + 1 < gs) := Lib.hid (by rw [hgs]; exact R_h4.out.lt)
              have T_h5 : Hid (BK 28 h5 w.heap.size (wcs L A c xs A2 c2 X l)) := Lib.hid (T_h4.out.step hb)
              have K_h5 : Hid (BK 42 h5 (w.heap.size + 1) (pkC p a)) := Lib.hid (K_h4.out.step hb)
              have R_h5 : Hid (BK 28 h5 (w.heap.size + 1 + 1) (wcs r1 A5 c5 ys A6 c6 r3 r4)) := Lib.hid (R_h4.out.step hb)
              have B_h5 : Hid (Below w.heap.size w h5) := Lib.hid (stepB B_h4.out hb)
              have W_h5 : Hid (WOk h5 A5 c5 ys A6 c6 r3) := Lib.hid (W_h4.out.step hb)
              clear T_h4 K_h4 R_h4 B_h4 W_h4
              have V_h5 := Lib.hid hN
              try rw [← hh5]
              try rw [← hgs]
              clear hHeld hb hN hh5 hgs
              refine hK.out _ _ ⟨T_h5.out, K_h5.out⟩ (fun hHeld => ?_)
              clear hK K
              try simp only [Act.put, List.setIfInBounds_toArray, List.set_cons_zero, List.set_cons_succ]
              refine wpAnyH_take (i := 8) (v := .slice (some ⟨gs, 0, none⟩) 1 1) (get_ops _ _ _ rfl) (by kernel_rfl) (by kernel_rfl) (by kernel_rfl) (fun _ _ _ h => h) (Or.inl ⟨by rfl, fun wS hSw => by (try dsimp only at hSw); go_simp⟩) hHeld ?_
              try simp only [Act.put, List.setIfInBounds_toArray, List.set_cons_zero, List.set_cons_succ]
              refine wpAnyH_take (i := 9) (v := .int .i64 0) (get_ops _ _ _ rfl) (by kernel_rfl) (by kernel_rfl) (by kernel_rfl) (fun _ _ _ h => h) (Or.inl ⟨by rfl, fun wS hSw => by (try dsimp only at hSw); go_simp⟩) hHeld ?_
              try simp only [Act.put, List.setIfInBounds_toArray, List.set_cons_zero, List.set_cons_succ]
              refine wpAnyH_done (by kernel_rfl) ?_ _
              go_wp2_with fail
              rw [← HR5.out]
              exact bodyPost_ret (v := .tuple #[wv r1 A5 c5 ys A6 c6 r3 r4, .slice (some ⟨gs, 0, none⟩) 1 1, .int .i64 0]) (res3 rfl _ _ (w.heap.size + 1 + 1) 28 (wcs r1 A5 c5 ys A6 c6 r3 r4) _ _ _ rfl rfl rfl R_h5.out Tryz.underlying28 rfl winSize) rfl ⟨A5, c5, ys, A6, c6, some ⟨gs, 0, none⟩, 1, [(relP p.id, PA.zero)], rfl, HY5.out, W_h5.out, ⟨(fun b o e => by have := HF5.out.1 b o e; have := ZO.out; omega), (fun y hy b o e => by have := HF5.out.2.1 y hy b o e; have := ZO.out; omega), fun hn b o e => by have := HF5.out.2.2 hn b o e; have := ZO.out; omega⟩, rfl, KS.one V_h5.out (KP.rel _ _ _ _), B_h5.out⟩
          · have HR5 : Hid ((remR (L, xs.map FE.f, X, l) i, [], 0) = R) := Lib.hid (by have := HRR.out; rw [if_neg (by decide), if_neg h5] at this; exact this)
            have q5 : (p.kind == 5) = false := by simp [h5]
            obtain ⟨RW, hRW⟩ : ∃ RW, remR (L, xs.map FE.f, X, l) i = RW := ⟨_, rfl⟩
            rw [hRW] at HRM HR5
            clear h5 hRW
            obtain ⟨r1, rF, r3, r4⟩ := RW
            go_wp2_with first
              | (refine wpList_load_v (by rfl) 28 (.tmp 2) rfl ⟨w.heap.size, 0, none⟩ rfl (wv L A c xs A2 c2 X l) (S2.run_load_all T_wc.out Tryz.underlying28 rfl winSize) ?_)
            refine (HRM.out wc O_wc.out).mono ?_
            rintro e wd ⟨A5, c5, ys, A6, c6, rfl, hys5, hok5, hfr5, hb⟩
            have R_wd := Lib.hid (R_wc.out.step hb)
            have B_wd := Lib.hid (stepB B_wc.out hb)
            have ZO : Hid (w.heap.size + 1 + 1 < wc.heap.size) := Lib.hid R_wc.out.lt
            have HF5 := Lib.hid hfr5
            have HY5 := Lib.hid hys5
            have HO5 := Lib.hid hok5
            clear hb hys5 hok5 hfr5 d0 q5
            go_wp2_with first
              | (refine S2.wpList_store_all (by rfl) 28 (.tmp 4) (.tmp 58) rfl rfl (w.heap.size + 1 + 1) rfl (wcs r1 A5 c5 ys A6 c6 r3 r4) rfl 28 (wcs 0 none 0 [] none 0 [] 0) R_wd.out winSize rfl (ones rfl) ?_; intro wf hM hP; have MF := Lib.hid hM; have PF := Lib.hid hP; clear hM hP)
            rw [← HR5.out]
            exact bodyPost_ret (v := .tuple #[wv r1 A5 c5 ys A6 c6 r3 r4, .slice none 0 0, .int .i64 0]) (res3 rfl _ _ (w.heap.size + 1 + 1) 28 (wcs r1 A5 c5 ys A6 c6 r3 r4) _ _ _ rfl rfl rfl MF.out Tryz.underlying28 rfl winSize) rfl ⟨A5, c5, ys, A6, c6, none, 0, [], rfl, HY5.out, wok_put HO5.out PF.out (fun b o e => by have := HF5.out.1 b o e; have := ZO.out; omega) (fun y hy b o e => by have := HF5.out.2.1 y hy b o e; have := ZO.out; omega) (fun hn b o e => by have := HF5.out.2.2 hn b o e; have := ZO.out; omega), ⟨(fun b o e => by have := HF5.out.1 b o e; have := ZO.out; omega), (fun y hy b o e => by have := HF5.out.2.1 y hy b o e; have := ZO.out; omega), fun hn b o e => by have := HF5.out.2.2 hn b o e; have := ZO.out; omega⟩, rfl, KS.nil _ _ _, PF.out.below B_wd.out (by omega)⟩
end Go.Proofs.YtmcocepjdhpecabGreatDoor
