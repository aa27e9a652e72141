/-
  What slices.Equal at properties and SameProps of the specification answer, and few of brokerlaw05. Conditions: the lists read as data; lengths fit an int.
  What Same and Expired of message and of the specification answer. Conditions: the messages read as data; lengths fit an int.
  What slices.Equal and the specification answer at lists of subscriptions, texts and numbers: whether they are one. Conditions: the lists read as data; lengths fit an int.
  What SameNumbers of the specification and slices.Equal answer at lists of numbers and of texts. Conditions: the lists read as data; lengths fit an int.
  What plainOf of packet hands back. Conditions: none.
  What Same of packet and of the specification answer: whether two packets are one. Conditions: the packets read as data; lengths fit an int.
  What Same of packet answers: whether two packets are one. Conditions: the packets read as data; lengths fit an int.
  What the small checks of packet answer. Conditions: texts fit a slice; the tables of package unicode/utf8 are there.
  What SameWill and Same of the specification answer: whether two packets are one. Conditions: the packets read as data; lengths fit an int.
-/
import Derived.Test.YtjadinblfbhgaaaDoorKeyP
import Derived.Laws.StructEq
import Derived.Test.YtjadinblfbhgaaaDoorMbx
import Derived.Test.YtjadinblfbhgaaaDoorLevels
import Derived.Test.YtjadinblfbhgaaaDoorShelf
import Derived.Deep.RegionHeld3
import Derived.Test.YtjadinblfbhgaaaDoorCheck
import Derived.Test.YtjadinblfbhgaaaDoorMbx2
namespace Go.Proofs.YtjadinblfbhgaaaDoor
open Go.RowKit

/-- are two properties one -/
def eqPR (a b c d : ByteArray) : Bool := decide ((a, b) = (c, d))
theorem eqP (a b c d : ByteArray) (w : World) : Sem.run Tryd.prog (binOp .eql 86 (.agg #[.string a, .string b]) (.agg #[.string c, .string d])) w = .ok (.bool (eqPR a b c d)) w := by
  have u3 := Tryd.underlying9
  have a3 := Tryd.isAgg9
  have z3 := Tryd.sizeOf9
  have hS : Tryd.prog.underlying 86 = some (.struct (Tryd.prog.fieldsOf 86)) := by kernel_rfl
  have hp : Tryd.prog.stoodInHeld 86 = false := by kernel_rfl
  have h1 := str_dec a c
  have h2 := str_dec b d
  unfold eqPR
  rw [run_eql_struct, show (10000 : Nat) = 9999 + 1 from rfl, run_equalIn_agg w 9999 86 _ _ hS hp]
  simp only [Program.fieldsOf, Tryd.underlying86]
  by_cases ha : a = c
  · by_cases hb : b = d
    · subst ha hb
      go_simp
    · go_simp
  · go_simp
theorem neqP (a b c d : ByteArray) (w : World) : Sem.run Tryd.prog (binOp .neq 86 (.agg #[.string a, .string b]) (.agg #[.string c, .string d])) w = .ok (.bool (!eqPR a b c d)) w := by
  have h := eqP a b c d w
  rw [run_eql_struct] at h
  rw [run_neq_struct]
  generalize Sem.run Tryd.prog (Op.equalIn 10000 86 (.agg #[.string a, .string b]) (.agg #[.string c, .string d])) w = r at h ⊢
  cases r with
  | ok v w' =>
    simp only [Result.andThen, Result.ok.injEq, Value.bool.injEq] at h ⊢
    obtain ⟨rfl, rfl⟩ := h
    exact ⟨rfl, rfl⟩
  | halt x w' => simp [Result.andThen] at h
theorem guardP (op : BinOp) (x y : Operand) (xs ys : Array Value) (w : World) : Sem.run Tryd.prog (eqGuard op 86 x y (.agg xs) (.agg ys)) w = .ok () w := run_eqGuard_agg w op _ x y xs ys (by kernel_rfl)
theorem eqPR_yes {x y : PR} (h : x = y) : eqPR x.1 x.2 y.1 y.2 = true := by rw [h]; exact decide_eq_true rfl
theorem eqPR_no {x y : PR} (h : x ≠ y) : eqPR x.1 x.2 y.1 y.2 = false := decide_eq_false fun e => h (Prod.ext (congrArg Prod.fst e) (congrArg Prod.snd e))

def SamUpto (xs ys : List PR) (k : Nat) : Prop := xs.take k = ys.take k
theorem SamUpto.zero (xs ys : List PR) : SamUpto xs ys 0 := rfl
theorem SamUpto.succ {xs ys : List PR} {k : Nat} {x : PR} (h : SamUpto xs ys k) (hx : xs[k]? = some x) (hy : ys[k]? = some x) : SamUpto xs ys (k + 1) := by
  unfold SamUpto at h ⊢
  rw [List.take_add_one, List.take_add_one, h, hx, hy]
theorem SamUpto.done {xs ys : List PR} (h : SamUpto xs ys xs.length) (hl : xs.length = ys.length) : decide (xs = ys) = true := by
  unfold SamUpto at h
  rw [List.take_length, hl, List.take_length] at h
  exact decide_eq_true h
theorem sam_bad {xs ys : List PR} {k : Nat} {x y : PR} (hx : xs[k]? = some x) (hy : ys[k]? = some y) (h : x ≠ y) : decide (xs = ys) = false :=
  decide_eq_false fun e => by rw [e, hy] at hx; exact h (Option.some.inj hx).symm
theorem sam_len {xs ys : List PR} (h : xs.length ≠ ys.length) : decide (xs = ys) = false := decide_eq_false fun e => h (by rw [e])

set_option maxHeartbeats 2000000 in
theorem sameProps_any (A A' : Option Addr) (c c' : Nat) (xs ys : List PR) (w : World) (hx : PL w w.heap.size A xs) (hy : PL w w.heap.size A' ys) (hn : xs.length ≤ 9223372036854775806) :
    Calls Tryd.prog 32 #[.slice A xs.length c, .slice A' ys.length c'] w fun e w' => e = .returned (.bool (decide (xs = ys))) ∧ Below w.heap.size w w' := by
  by_cases hl : xs.length = ys.length
  · have HX := Lib.hid hx
    have HY := Lib.hid hy
    have HM := Lib.hid hn
    have HL := Lib.hid hl
    have e1 : ((xs.length : Int) != (ys.length : Int)) = false := by simp; omega
    have e1' : (xs.length != ys.length) = false := by simp; omega
    clear hx hy hl
    have hneq := neqP
    have hgd := guardP
    go_enter Tryd.func32, Tryd.ntmps32
    go_wp2
    go_loopg [5] xs.length (fun g v wr => ∃ k : Nat, k + g = xs.length ∧ v = .int .i64 k ∧ SamUpto xs ys k ∧ Below w.heap.size w wr)
    case atStart => exact ⟨0, by omega, rfl, SamUpto.zero _ _, Below.refl _ _⟩
    case round =>
      obtain ⟨k, hkg, rfl, hrel, hb⟩ := hrel
      have HR := Lib.hid hrel
      have HB := Lib.hid hb
      have HG := Lib.hid hkg
      clear hrel
      cases gk with
      | zero =>
        obtain rfl : k = xs.length := by omega
        have HV := Lib.hid (HR.out.done HL.out)
        clear hkg hb
        go_wp2
        go_ret
        exact ⟨retb HV.out.symm, HB.out⟩
      | succ g =>
        have hlt : k < xs.length := by omega
        have hlt2 : k < ys.length := by have := HL.out; omega
        have e3 : decide ((k : Int) < (xs.length : Int)) = true := decide_eq_true (by omega)
        obtain ⟨x, hx⟩ : ∃ x, xs[k]? = some x := ⟨_, List.getElem?_eq_getElem hlt⟩
        obtain ⟨y, hy⟩ : ∃ y, ys[k]? = some y := ⟨_, List.getElem?_eq_getElem hlt2⟩
        obtain ⟨b, o, hA, hbB, kk, kv⟩ := PL.at_ (HX.out.step hb) hx
        subst hA
        obtain ⟨b2, o2, hA2, hbB2, kk2, kv2⟩ := PL.at_ (HY.out.step hb) hy
        subst hA2
        have j1 : (0 : Int) ≤ (k : Int) := by omega
        have j2 : (k : Int) < (xs.length : Int) := by omega
        have j3 : (k : Int) < (ys.length : Int) := by omega
        by_cases he : x = y
        · have HN := Lib.hid (HR.out.succ hx (by rw [hy, he]))
          have d1 := eqPR_yes he
          clear hx hy he hkg hb
          go_wp2_with fail
          go_quiet (fail)
          go_wp2
          go_roundg g
          case measure => omega
          case rel => exact ⟨k + 1, by have := HG.out; omega, by go_num, HN.out, stepB HB.out (below_drewN _ _)⟩
        · have HV := Lib.hid (sam_bad hx hy he)
          have d1 := eqPR_no he
          clear hx hy he hkg hb
          go_wp2_with fail
          go_quiet (fail)
          go_wp2
          go_ret
          exact ⟨retb HV.out.symm, stepB HB.out (below_drewN _ _)⟩
  · have e1 : ((xs.length : Int) != (ys.length : Int)) = true := by simp; omega
    have e1' : (xs.length != ys.length) = true := by simp; omega
    have HV := Lib.hid (sam_len hl)
    clear hx hy hl hn
    go_enter Tryd.func32, Tryd.ntmps32
    go_wp2
    go_ret
    exact ⟨retb HV.out.symm, Below.refl _ _⟩

end Go.Proofs.YtjadinblfbhgaaaDoor
namespace Go.Proofs.YtjadinblfbhgaaaDoor
open Go.RowKit

theorem same_no {a b : Msg} (h : a ≠ b) : sameM a b = false := decide_eq_false h
theorem same_last {a b : Msg} (h0 : a.topic = b.topic) (h1 : a.payload = b.payload) (h2 : a.level = b.level) (h3 : a.retain = b.retain) (h4 : a.prio = b.prio) (h5 : a.exps = b.exps) (h6 : a.frm = b.frm) (h7 : a.seq = b.seq) : sameM a b = decide (a.props = b.props) := by
  unfold sameM
  rw [Bool.eq_iff_iff, decide_eq_true_eq, decide_eq_true_eq]
  constructor
  · intro h; rw [h]
  · intro h; cases a; cases b; simp_all
theorem int_yes {a b : Int} (h : a = b) : (a == b) = true := by rw [h]; exact beq_self_eq_true _
theorem int_no {a b : Int} (h : a ≠ b) : (a == b) = false := beq_eq_false_iff_ne.2 h
theorem boo_yes {a b : Bool} (h : a = b) : (a == b) = true := by rw [h]; exact beq_self_eq_true _
theorem boo_no {a b : Bool} (h : a ≠ b) : (a == b) = false := beq_eq_false_iff_ne.2 h

set_option maxRecDepth 20000 in
set_option maxHeartbeats 4000000 in
theorem rSame_any (a b : Msg) (A A' : Option Addr) (c c' : Nat) (w : World) (ha : PL w w.heap.size A a.props) (hb : PL w w.heap.size A' b.props) (hn : a.props.length ≤ 9223372036854775806) :
    Calls Tryd.prog 14 #[msgV a A c, msgV b A' c'] w fun e w' => e = .returned (.bool (sameM a b)) ∧ Below w.heap.size w w' := by
  unfold msgV
  have hw : Below w.heap.size w ((w.alloc (.cells #[.string a.topic, .string a.payload, .int .i64 a.level, .bool a.retain, .int .i64 a.prio, .int .i64 a.exps, .string a.frm, .int .i64 a.seq, .slice A a.props.length c] 39)).alloc (.cells #[.string b.topic, .string b.payload, .int .i64 b.level, .bool b.retain, .int .i64 b.prio, .int .i64 b.exps, .string b.frm, .int .i64 b.seq, .slice A' b.props.length c'] 39)) := ((Below.refl _ _).alloc (Nat.le_refl _) _).alloc (by simp) _
  have HB := Lib.hid hw
  have HC := Lib.hid (sameProps_any A A' c c' a.props b.props _ (ha.step hw) (hb.step hw) hn)
  have HS := Lib.hid (@same_last a b)
  have HN := fun h => Lib.hid (@same_no a b h)
  generalize sameM a b = r at HS HN ⊢
  obtain ⟨a0, a1, a2, a3, a4, a5, a6, a7, a8⟩ := a
  obtain ⟨b0, b1, b2, b3, b4, b5, b6, b7, b8⟩ := b
  dsimp only at HC HS HN HB ⊢
  generalize a8.length = na at HC HB ⊢
  generalize b8.length = nb at HC HB ⊢
  clear hw ha hb hn
  by_cases h0 : a0 = b0
  case neg =>
    have HR := HN (fun e => h0 (congrArg Msg.topic e))
    have q0 := streq_no h0
    clear HS HN HC h0
    go_enter Tryd.func14, Tryd.ntmps14
    go_wp2
    go_ret
    exact ⟨retb HR.out.symm, HB.out⟩
  by_cases h1 : a1 = b1
  case neg =>
    have HR := HN (fun e => h1 (congrArg Msg.payload e))
    have q0 := streq_yes h0
    have q1 := streq_no h1
    clear HS HN HC h0 h1
    go_enter Tryd.func14, Tryd.ntmps14
    go_wp2
    go_ret
    exact ⟨retb HR.out.symm, HB.out⟩
  by_cases h2 : a2 = b2
  case neg =>
    have HR := HN (fun e => h2 (congrArg Msg.level e))
    have q0 := streq_yes h0
    have q1 := streq_yes h1
    have q2 := int_no h2
    clear HS HN HC h0 h1 h2
    go_enter Tryd.func14, Tryd.ntmps14
    go_wp2
    go_ret
    exact ⟨retb HR.out.symm, HB.out⟩
  by_cases h3 : a3 = b3
  case neg =>
    have HR := HN (fun e => h3 (congrArg Msg.retain e))
    have q0 := streq_yes h0
    have q1 := streq_yes h1
    have q2 := int_yes h2
    have q3 := boo_no h3
    clear HS HN HC h0 h1 h2 h3
    go_enter Tryd.func14, Tryd.ntmps14
    go_wp2
    go_ret
    exact ⟨retb HR.out.symm, HB.out⟩
  by_cases h4 : a4 = b4
  case neg =>
    have HR := HN (fun e => h4 (congrArg Msg.prio e))
    have q0 := streq_yes h0
    have q1 := streq_yes h1
    have q2 := int_yes h2
    have q3 := boo_yes h3
    have q4 := int_no h4
    clear HS HN HC h0 h1 h2 h3 h4
    go_enter Tryd.func14, Tryd.ntmps14
    go_wp2
    go_ret
    exact ⟨retb HR.out.symm, HB.out⟩
  by_cases h5 : a5 = b5
  case neg =>
    have HR := HN (fun e => h5 (congrArg Msg.exps e))
    have q0 := streq_yes h0
    have q1 := streq_yes h1
    have q2 := int_yes h2
    have q3 := boo_yes h3
    have q4 := int_yes h4
    have q5 := int_no h5
    clear HS HN HC h0 h1 h2 h3 h4 h5
    go_enter Tryd.func14, Tryd.ntmps14
    go_wp2
    go_ret
    exact ⟨retb HR.out.symm, HB.out⟩
  by_cases h6 : a6 = b6
  case neg =>
    have HR := HN (fun e => h6 (congrArg Msg.frm e))
    have q0 := streq_yes h0
    have q1 := streq_yes h1
    have q2 := int_yes h2
    have q3 := boo_yes h3
    have q4 := int_yes h4
    have q5 := int_yes h5
    have q6 := streq_no h6
    clear HS HN HC h0 h1 h2 h3 h4 h5 h6
    go_enter Tryd.func14, Tryd.ntmps14
    go_wp2
    go_ret
    exact ⟨retb HR.out.symm, HB.out⟩
  by_cases h7 : a7 = b7
  case neg =>
    have HR := HN (fun e => h7 (congrArg Msg.seq e))
    have q0 := streq_yes h0
    have q1 := streq_yes h1
    have q2 := int_yes h2
    have q3 := boo_yes h3
    have q4 := int_yes h4
    have q5 := int_yes h5
    have q6 := streq_yes h6
    have q7 := int_no h7
    clear HS HN HC h0 h1 h2 h3 h4 h5 h6 h7
    go_enter Tryd.func14, Tryd.ntmps14
    go_wp2
    go_ret
    exact ⟨retb HR.out.symm, HB.out⟩
  have HR := Lib.hid (HS.out h0 h1 h2 h3 h4 h5 h6 h7)
  have q0 := streq_yes h0
  have q1 := streq_yes h1
  have q2 := int_yes h2
  have q3 := boo_yes h3
  have q4 := int_yes h4
  have q5 := int_yes h5
  have q6 := streq_yes h6
  have q7 := int_yes h7
  clear HS HN h0 h1 h2 h3 h4 h5 h6 h7
  generalize decide (a8 = b8) = d at HC HR
  go_enter Tryd.func14, Tryd.ntmps14
  go_wp2_with fail
  refine HC.out.mono ?_
  rintro e w' ⟨rfl, hb⟩
  have HB2 := Lib.hid (stepB HB.out hb)
  clear hb
  go_wp2
  go_ret
  exact ⟨retb HR.out.symm, HB2.out⟩

end Go.Proofs.YtjadinblfbhgaaaDoor
namespace Go.Proofs.YtjadinblfbhgaaaDoor
open Go.RowKit

/-- are two subscriptions one -/
def eqSB (a : ByteArray) (b : Int) (c : Bool) (a' : ByteArray) (b' : Int) (c' : Bool) : Bool := decide ((a, b, c) = (a', b', c'))
theorem eqS (a : ByteArray) (b : Int) (c : Bool) (a' : ByteArray) (b' : Int) (c' : Bool) (w : World) : Sem.run Tryd.prog (binOp .eql 105 (.agg #[.string a, .int .i64 b, .bool c]) (.agg #[.string a', .int .i64 b', .bool c'])) w = .ok (.bool (eqSB a b c a' b' c')) w := by
  have u3 := Tryd.underlying9
  have a3 := Tryd.isAgg9
  have z3 := Tryd.sizeOf9
  have u4 := Tryd.underlying3
  have a4 := Tryd.isAgg3
  have z4 := Tryd.sizeOf3
  have u5 := Tryd.underlying4
  have a5 := Tryd.isAgg4
  have z5 := Tryd.sizeOf4
  have hS : Tryd.prog.underlying 105 = some (.struct (Tryd.prog.fieldsOf 105)) := by kernel_rfl
  have hp : Tryd.prog.stoodInHeld 105 = false := by kernel_rfl
  have h1 := str_dec a a'
  unfold eqSB
  rw [run_eql_struct, show (10000 : Nat) = 9999 + 1 from rfl, run_equalIn_agg w 9999 105 _ _ hS hp]
  simp only [Program.fieldsOf, Tryd.underlying105]
  by_cases ha : a = a'
  · by_cases hb : b = b'
    · by_cases hc : c = c'
      · subst ha hb hc
        go_simp
      · go_simp
    · go_simp
  · go_simp
theorem neqS (a : ByteArray) (b : Int) (c : Bool) (a' : ByteArray) (b' : Int) (c' : Bool) (w : World) : Sem.run Tryd.prog (binOp .neq 105 (.agg #[.string a, .int .i64 b, .bool c]) (.agg #[.string a', .int .i64 b', .bool c'])) w = .ok (.bool (!eqSB a b c a' b' c')) w := by
  have h := eqS a b c a' b' c' w
  rw [run_eql_struct] at h
  rw [run_neq_struct]
  generalize Sem.run Tryd.prog (Op.equalIn 10000 105 (.agg #[.string a, .int .i64 b, .bool c]) (.agg #[.string a', .int .i64 b', .bool c'])) w = r at h ⊢
  cases r with
  | ok v w' =>
    simp only [Result.andThen, Result.ok.injEq, Value.bool.injEq] at h ⊢
    obtain ⟨rfl, rfl⟩ := h
    exact ⟨rfl, rfl⟩
  | halt x w' => simp [Result.andThen] at h
theorem guardS (op : BinOp) (x y : Operand) (xs ys : Array Value) (w : World) : Sem.run Tryd.prog (eqGuard op 105 x y (.agg xs) (.agg ys)) w = .ok () w := run_eqGuard_agg w op _ x y xs ys (by kernel_rfl)
theorem eqSB_yes {x y : SB} (h : x = y) : eqSB x.1 x.2.1 x.2.2 y.1 y.2.1 y.2.2 = true := by rw [h]; exact decide_eq_true rfl
theorem eqSB_no {x y : SB} (h : x ≠ y) : eqSB x.1 x.2.1 x.2.2 y.1 y.2.1 y.2.2 = false := decide_eq_false fun e => h e

def SamS {α : Type} (xs ys : List α) (k : Nat) : Prop := xs.take k = ys.take k
theorem SamS.zero {α : Type} (xs ys : List α) : SamS xs ys 0 := rfl
theorem SamS.succ {α : Type} {xs ys : List α} {k : Nat} {x : α} (h : SamS xs ys k) (hx : xs[k]? = some x) (hy : ys[k]? = some x) : SamS xs ys (k + 1) := by
  unfold SamS at h ⊢
  rw [List.take_add_one, List.take_add_one, h, hx, hy]
section
variable {α : Type} [DecidableEq α]
theorem SamS.done {xs ys : List α} (h : SamS xs ys xs.length) (hl : xs.length = ys.length) : decide (xs = ys) = true := by
  unfold SamS at h
  rw [List.take_length, hl, List.take_length] at h
  exact decide_eq_true h
theorem samS_bad {xs ys : List α} {k : Nat} {x y : α} (hx : xs[k]? = some x) (hy : ys[k]? = some y) (h : x ≠ y) : decide (xs = ys) = false :=
  decide_eq_false fun e => by rw [e, hy] at hx; exact h (Option.some.inj hx).symm
theorem samS_len {xs ys : List α} (h : xs.length ≠ ys.length) : decide (xs = ys) = false := decide_eq_false fun e => h (by rw [e])
end

set_option maxHeartbeats 2000000 in
theorem sameSubs_any (A A' : Option Addr) (c c' : Nat) (xs ys : List SB) (w : World) (hx : BL w w.heap.size A xs) (hy : BL w w.heap.size A' ys) (hn : xs.length ≤ 9223372036854775806) :
    Calls Tryd.prog 55 #[.slice A xs.length c, .slice A' ys.length c'] w fun e w' => e = .returned (.bool (decide (xs = ys))) ∧ Below w.heap.size w w' := by
  by_cases hl : xs.length = ys.length
  · have HX := Lib.hid hx
    have HY := Lib.hid hy
    have HM := Lib.hid hn
    have HL := Lib.hid hl
    have e1 : ((xs.length : Int) != (ys.length : Int)) = false := by simp; omega
    have e1' : (xs.length != ys.length) = false := by simp; omega
    clear hx hy hl
    have hneq := neqS
    have hgd := guardS
    go_enter Tryd.func55, Tryd.ntmps55
    go_wp2
    go_loopg [5] xs.length (fun g v wr => ∃ k : Nat, k + g = xs.length ∧ v = .int .i64 k ∧ SamS xs ys k ∧ Below w.heap.size w wr)
    case atStart => exact ⟨0, by omega, rfl, SamS.zero _ _, Below.refl _ _⟩
    case round =>
      obtain ⟨k, hkg, rfl, hrel, hb⟩ := hrel
      have HR := Lib.hid hrel
      have HB := Lib.hid hb
      have HG := Lib.hid hkg
      clear hrel
      cases gk with
      | zero =>
        obtain rfl : k = xs.length := by omega
        have HV := Lib.hid (HR.out.done HL.out)
        clear hkg hb
        go_wp2
        go_ret
        exact ⟨retb HV.out.symm, HB.out⟩
      | succ g =>
        have hlt : k < xs.length := by omega
        have hlt2 : k < ys.length := by have := HL.out; omega
        have e3 : decide ((k : Int) < (xs.length : Int)) = true := decide_eq_true (by omega)
        obtain ⟨x, hx⟩ : ∃ x, xs[k]? = some x := ⟨_, List.getElem?_eq_getElem hlt⟩
        obtain ⟨y, hy⟩ : ∃ y, ys[k]? = some y := ⟨_, List.getElem?_eq_getElem hlt2⟩
        obtain ⟨b, o, hA, hbB, kk, kv, kz⟩ := BL.at_ (HX.out.step hb) hx
        subst hA
        obtain ⟨b2, o2, hA2, hbB2, kk2, kv2, kz2⟩ := BL.at_ (HY.out.step hb) hy
        subst hA2
        have j1 : (0 : Int) ≤ (k : Int) := by omega
        have j2 : (k : Int) < (xs.length : Int) := by omega
        have j3 : (k : Int) < (ys.length : Int) := by omega
        by_cases he : x = y
        · have HN := Lib.hid (HR.out.succ hx (by rw [hy, he]))
          have d1 := eqSB_yes he
          clear hx hy he hkg hb
          go_wp2_with fail
          go_quiet (fail)
          go_wp2
          go_roundg g
          case measure => omega
          case rel => exact ⟨k + 1, by have := HG.out; omega, by go_num, HN.out, stepB HB.out (below_drewN _ _)⟩
        · have HV := Lib.hid (samS_bad hx hy he)
          have d1 := eqSB_no he
          clear hx hy he hkg hb
          go_wp2_with fail
          go_quiet (fail)
          go_wp2
          go_ret
          exact ⟨retb HV.out.symm, stepB HB.out (below_drewN _ _)⟩
  · have e1 : ((xs.length : Int) != (ys.length : Int)) = true := by simp; omega
    have e1' : (xs.length != ys.length) = true := by simp; omega
    have HV := Lib.hid (samS_len hl)
    clear hx hy hl hn
    go_enter Tryd.func55, Tryd.ntmps55
    go_wp2
    go_ret
    exact ⟨retb HV.out.symm, Below.refl _ _⟩

end Go.Proofs.YtjadinblfbhgaaaDoor
namespace Go.Proofs.YtjadinblfbhgaaaDoor
open Go.RowKit

theorem IL.at_ {w : World} {B : Nat} {A : Option Addr} {xs : List Int} (h : IL w B A xs) {j : Nat} {x : Int} (hx : xs[j]? = some x) :
    ∃ b o, A = some ⟨b, o, none⟩ ∧ b < B ∧ w.cell? ⟨b, o + j, none⟩ = some (.int .i64 x) := by
  obtain ⟨b, o, e, hb, hc⟩ := h (Nat.lt_of_le_of_lt (Nat.zero_le _) (List.getElem?_eq_some_iff.1 hx).1)
  exact ⟨b, o, e, hb, hc j x hx⟩

set_option maxHeartbeats 2000000 in
theorem sameNums_any (A A' : Option Addr) (c c' : Nat) (xs ys : List Int) (w : World) (hx : IL w w.heap.size A xs) (hy : IL w w.heap.size A' ys) (hn : xs.length ≤ 9223372036854775806) :
    Calls Tryd.prog 57 #[.slice A xs.length c, .slice A' ys.length c'] w fun e w' => e = .returned (.bool (decide (xs = ys))) ∧ Below w.heap.size w w' := by
  by_cases hl : xs.length = ys.length
  · have HX := Lib.hid hx
    have HY := Lib.hid hy
    have HM := Lib.hid hn
    have HL := Lib.hid hl
    have e1 : ((xs.length : Int) != (ys.length : Int)) = false := by simp; omega
    have e1' : (xs.length != ys.length) = false := by simp; omega
    clear hx hy hl
    go_enter Tryd.func57, Tryd.ntmps57
    go_wp2
    go_loopg [5] xs.length (fun g v wr => ∃ k : Nat, k + g = xs.length ∧ v = .int .i64 k ∧ SamS xs ys k ∧ Below w.heap.size w wr)
    case atStart => exact ⟨0, by omega, rfl, SamS.zero _ _, Below.refl _ _⟩
    case round =>
      obtain ⟨k, hkg, rfl, hrel, hb⟩ := hrel
      have HR := Lib.hid hrel
      have HB := Lib.hid hb
      have HG := Lib.hid hkg
      clear hrel
      cases gk with
      | zero =>
        obtain rfl : k = xs.length := by omega
        have HV := Lib.hid (HR.out.done HL.out)
        clear hkg hb
        go_wp2
        go_ret
        exact ⟨retb HV.out.symm, HB.out⟩
      | succ g =>
        have hlt : k < xs.length := by omega
        have hlt2 : k < ys.length := by have := HL.out; omega
        have e3 : decide ((k : Int) < (xs.length : Int)) = true := decide_eq_true (by omega)
        obtain ⟨x, hx⟩ : ∃ x, xs[k]? = some x := ⟨_, List.getElem?_eq_getElem hlt⟩
        obtain ⟨y, hy⟩ : ∃ y, ys[k]? = some y := ⟨_, List.getElem?_eq_getElem hlt2⟩
        obtain ⟨b, o, hA, hbB, kk⟩ := IL.at_ (HX.out.step hb) hx
        subst hA
        obtain ⟨b2, o2, hA2, hbB2, kk2⟩ := IL.at_ (HY.out.step hb) hy
        subst hA2
        have j1 : (0 : Int) ≤ (k : Int) := by omega
        have j2 : (k : Int) < (xs.length : Int) := by omega
        have j3 : (k : Int) < (ys.length : Int) := by omega
        by_cases he : x = y
        · have HN := Lib.hid (HR.out.succ hx (by rw [hy, he]))
          have d1 : (x != y) = false := by simp [he]
          clear hx hy he hkg hb
          go_wp2_with fail
          go_quiet (fail)
          go_wp2
          go_roundg g
          case measure => omega
          case rel => exact ⟨k + 1, by have := HG.out; omega, by go_num, HN.out, stepB HB.out (below_drewN _ _)⟩
        · have HV := Lib.hid (samS_bad hx hy he)
          have d1 : (x != y) = true := by simp [he]
          clear hx hy he hkg hb
          go_wp2_with fail
          go_quiet (fail)
          go_wp2
          go_ret
          exact ⟨retb HV.out.symm, stepB HB.out (below_drewN _ _)⟩
  · have e1 : ((xs.length : Int) != (ys.length : Int)) = true := by simp; omega
    have e1' : (xs.length != ys.length) = true := by simp; omega
    have HV := Lib.hid (samS_len hl)
    clear hx hy hl hn
    go_enter Tryd.func57, Tryd.ntmps57
    go_wp2
    go_ret
    exact ⟨retb HV.out.symm, Below.refl _ _⟩


theorem below_eqN {w w' : World} (h : ∃ q, w' = w.drewN q) : Below w.heap.size w w' := by
  obtain ⟨q, rfl⟩ := h
  exact below_drewN _ _
theorem rSameT_any (A A' : Option Addr) (c c' : Nat) (xs ys : List ByteArray) (w : World) (hx : SL w w.heap.size A xs) (hy : SL w w.heap.size A' ys) (hn : xs.length ≤ 9223372036854775806) (hm : ys.length ≤ 9223372036854775806) :
    Calls Tryd.prog 56 #[.slice A xs.length c, .slice A' ys.length c'] w fun e w' => e = .returned (.bool (decide (xs = ys))) ∧ Below w.heap.size w w' := by
  refine (S1.same_any A A' c c' xs ys w w.heap.size hx hy (by omega) (by omega)).mono fun e w' h => ⟨h.1, ?_⟩
  obtain ⟨n, rfl⟩ := h.2
  exact below_drewN _ _

end Go.Proofs.YtjadinblfbhgaaaDoor
namespace Go.Proofs.YtjadinblfbhgaaaDoor
open Go.RowKit

def plC (p : Pkt) : List Value := [.int .i64 p.kind, .int .i64 p.id, .bool p.dup, .string p.client, .string p.user, .bool p.clean, .int .i64 p.keep, .int .i64 p.expiry, .int .i64 p.window, .bool p.wset, .int .i64 p.wdelay, .bool p.present, .int .i64 p.code]
end Go.Proofs.YtjadinblfbhgaaaDoor
namespace Go.Proofs.YtjadinblfbhgaaaDoor
open Go.RowKit

end Go.Proofs.YtjadinblfbhgaaaDoor
namespace Go.Proofs.YtjadinblfbhgaaaDoor
open Go.RowKit

theorem info33 : (Tryd.prog.info? 51).map (·.size) = some 34 := by kernel_rfl
theorem info26 : (Tryd.prog.info? 39).map (·.size) = some 9 := by kernel_rfl
theorem info28 : (Tryd.prog.info? 47).map (·.size) = some 11 := by kernel_rfl
/-- a will's cells -/
def wlC (p : Pkt) (a : PA) : List Value := [.bool p.wset, .int .i64 p.wdelay, .string p.wmsg.topic, .string p.wmsg.payload, .int .i64 p.wmsg.level, .bool p.wmsg.retain, .int .i64 p.wmsg.prio, .int .i64 p.wmsg.exps, .string p.wmsg.frm, .int .i64 p.wmsg.seq, .slice a.v p.wmsg.props.length a.vc]
def wlV (p : Pkt) (a : PA) : Value := .agg (wlC p a).toArray
/-- lengths that fit an int -/
structure PSz (p : Pkt) : Prop where
  m : p.msg.props.length ≤ 9223372036854775806
  v : p.wmsg.props.length ≤ 9223372036854775806
  s : p.subs.length ≤ 9223372036854775806
  f : p.filters.length ≤ 9223372036854775806
  c : p.codes.length ≤ 9223372036854775806
def plainEq (p q : Pkt) : Bool := decide (p.kind = q.kind ∧ p.id = q.id ∧ p.dup = q.dup ∧ p.client = q.client ∧ p.user = q.user ∧ p.clean = q.clean ∧ p.keep = q.keep ∧ p.expiry = q.expiry ∧ p.window = q.window ∧ p.wset = q.wset ∧ p.wdelay = q.wdelay ∧ p.present = q.present ∧ p.code = q.code)
theorem sameP_parts (p q : Pkt) : sameP p q = (plainEq p q && sameM p.msg q.msg && sameM p.wmsg q.wmsg && decide (p.subs = q.subs) && decide (p.filters = q.filters) && decide (p.codes = q.codes)) := by
  unfold sameP plainEq sameM
  rw [Bool.eq_iff_iff]
  simp only [Bool.and_eq_true, decide_eq_true_eq]
  constructor
  · rintro rfl; simp
  · intro h
    cases p; cases q
    simp only [Pkt.mk.injEq] at h ⊢
    simp_all
end Go.Proofs.YtjadinblfbhgaaaDoor
namespace Go.Proofs.YtjadinblfbhgaaaDoor
open Go.RowKit

theorem reti {a b : Int} (h : a = b) : Ending.returned (.int .i64 a) = .returned (.int .i64 b) := by rw [h]
theorem bcell {W w1 : World} (hb : Below W.heap.size W w1) : (∀ b o, b < W.heap.size → w1.cell? ⟨b, o, none⟩ = W.cell? ⟨b, o, none⟩) ∧ (∀ b o, b < W.heap.size → w1.frozen? ⟨b, o, none⟩ = W.frozen? ⟨b, o, none⟩) :=
  ⟨fun b o h => hb.cell (p := ⟨b, o, none⟩) h, fun b o h => hb.frozen (p := ⟨b, o, none⟩) h⟩
def within3 (n first last : Int) : Bool := decide (first ≤ n) && decide (n ≤ last)
theorem w3_yes {n first last : Int} (h : ¬ (n < first ∨ last < n)) : within3 n first last = true := by unfold within3; simp; omega
theorem w3_no {n first last : Int} (h : n < first ∨ last < n) : within3 n first last = false := by unfold within3; rw [Bool.eq_false_iff]; simp; omega
end Go.Proofs.YtjadinblfbhgaaaDoor
namespace Go.Proofs.YtjadinblfbhgaaaDoor
open Go.RowKit

theorem bne_yes {α : Type} [BEq α] {a b : α} (h : (a == b) = true) : (a != b) = false := by simp [bne, h]
theorem bne_no {α : Type} [BEq α] {a b : α} (h : (a == b) = false) : (a != b) = true := by simp [bne, h]

set_option maxRecDepth 20000 in
set_option maxHeartbeats 8000000 in
theorem rSameWill_any (p q : Pkt) (a b : PA) (w : World) (ha : PL w w.heap.size a.v p.wmsg.props) (hb : PL w w.heap.size b.v q.wmsg.props) (hn : p.wmsg.props.length ≤ 9223372036854775806) :
    Calls Tryd.prog 54 #[wlV p a, wlV q b] w fun e w' => e = .returned (.bool ((p.wset == q.wset) && (p.wdelay == q.wdelay) && sameM p.wmsg q.wmsg)) ∧ Below w.heap.size w w' := by
  unfold wlV
  obtain ⟨w1, hw1⟩ : ∃ w1, w1 = (w.alloc (.cells (wlC p a).toArray 47)).alloc (.cells (wlC q b).toArray 47) := ⟨_, rfl⟩
  obtain ⟨b1, b2, b3⟩ := two hw1
  have C := rSame_any p.wmsg q.wmsg a.v b.v a.vc b.vc w1 (ha.step b1) (hb.step b1) hn
  generalize sameM p.wmsg q.wmsg = x at C ⊢
  have c0 : w1.cell? ⟨w.heap.size, 0, none⟩ = some (.bool p.wset) := b2.cell 0
  have c1 : w1.cell? ⟨w.heap.size, 1, none⟩ = some (.int .i64 p.wdelay) := b2.cell 1
  have d0 : w1.cell? ⟨w.heap.size + 1, 0, none⟩ = some (.bool q.wset) := b3.cell 0
  have d1 : w1.cell? ⟨w.heap.size + 1, 1, none⟩ = some (.int .i64 q.wdelay) := b3.cell 1
  have HB := Lib.hid b1
  have HM := Lib.hid b2
  have HN := Lib.hid b3
  have HC := Lib.hid C
  have HW := Lib.hid hw1
  clear b1 b2 b3 C ha hb hn hw1
  cases q0 : (p.wset == q.wset)
  case false =>
    go_enter Tryd.func54, Tryd.ntmps54
    go_upto_region 1 with fail
    rw [← HW.out]
    go_wp2_with fail
    go_ret
    exact ⟨retb (by simp), HB.out⟩
  cases q1 : (p.wdelay == q.wdelay)
  case false =>
    go_enter Tryd.func54, Tryd.ntmps54
    go_upto_region 1 with fail
    rw [← HW.out]
    go_wp2_with fail
    go_ret
    exact ⟨retb (by simp), HB.out⟩
  go_enter Tryd.func54, Tryd.ntmps54
  go_upto_region 1 with fail
  rw [← HW.out]
  go_wp2_with (first | (refine wpList_load_part (by rfl) 39 _ rfl (w.heap.size) 2 9 rfl 47 (wlC p a) (0, 0) _ HM.out Tryd.underlying39 rfl info26 (by show 2 + 9 ≤ 11; decide) ?_) | (refine wpList_load_part (by rfl) 39 _ rfl (w.heap.size + 1) 2 9 rfl 47 (wlC q b) (0, 0) _ HN.out Tryd.underlying39 rfl info26 (by show 2 + 9 ≤ 11; decide) ?_))
  refine HC.out.mono ?_
  rintro e w2 ⟨rfl, hb⟩
  have HB2 := Lib.hid (stepB HB.out hb)
  clear hb
  go_wp2_with fail
  go_ret
  exact ⟨retb (by simp), HB2.out⟩

theorem sameR_parts (p q : Pkt) : sameP p q = ((p.kind == q.kind) && (p.id == q.id) && (p.dup == q.dup) && sameM p.msg q.msg && (p.client.toList == q.client.toList) && (p.user.toList == q.user.toList) && (p.clean == q.clean) && (p.keep == q.keep) && (p.expiry == q.expiry) && (p.window == q.window) && ((p.wset == q.wset) && (p.wdelay == q.wdelay) && sameM p.wmsg q.wmsg) && (p.present == q.present) && (p.code == q.code) && decide (p.subs = q.subs) && decide (p.filters = q.filters) && decide (p.codes = q.codes)) := by
  rw [sameP_parts]
  unfold plainEq
  simp only [str_dec]
  rw [Bool.eq_iff_iff]
  simp only [Bool.and_eq_true, decide_eq_true_eq, beq_iff_eq]
  constructor <;> intro h <;> simp_all
set_option maxRecDepth 50000 in
set_option maxHeartbeats 16000000 in
theorem rSameP_any (p q : Pkt) (a b : PA) (w : World) (ha : PIn w p a) (hb : PIn w q b) (hz : PSz p) (hy : PSz q) :
    Calls Tryd.prog 33 #[pkV p a, pkV q b] w fun e w' => e = .returned (.bool (sameP p q)) ∧ Below w.heap.size w w' := by
  have C1 : Hid (∀ w, PIn w p a → PIn w q b → Calls Tryd.prog 14 #[msgV p.msg a.m a.mc, msgV q.msg b.m b.mc] w fun e w' => e = .returned (.bool (sameM p.msg q.msg)) ∧ Below w.heap.size w w') := Lib.hid (fun w h h' => rSame_any p.msg q.msg a.m b.m a.mc b.mc w h.m h'.m hz.m)
  have C2 : Hid (∀ w, PIn w p a → PIn w q b → Calls Tryd.prog 54 #[wlV p a, wlV q b] w fun e w' => e = .returned (.bool ((p.wset == q.wset) && (p.wdelay == q.wdelay) && sameM p.wmsg q.wmsg)) ∧ Below w.heap.size w w') := Lib.hid (fun w h h' => rSameWill_any p q a b w h.v h'.v hz.v)
  have C3 : Hid (∀ w, PIn w p a → PIn w q b → Calls Tryd.prog 55 #[.slice a.s p.subs.length a.sc, .slice b.s q.subs.length b.sc] w fun e w' => e = .returned (.bool (decide (p.subs = q.subs))) ∧ Below w.heap.size w w') := Lib.hid (fun w h h' => sameSubs_any a.s b.s a.sc b.sc p.subs q.subs w h.s h'.s hz.s)
  have C4 : Hid (∀ w, PIn w p a → PIn w q b → Calls Tryd.prog 56 #[.slice a.f p.filters.length a.fc, .slice b.f q.filters.length b.fc] w fun e w' => e = .returned (.bool (decide (p.filters = q.filters))) ∧ Below w.heap.size w w') := Lib.hid (fun w h h' => rSameT_any a.f b.f a.fc b.fc p.filters q.filters w h.f h'.f hz.f hy.f)
  have C5 : Hid (∀ w, PIn w p a → PIn w q b → Calls Tryd.prog 57 #[.slice a.c p.codes.length a.cc, .slice b.c q.codes.length b.cc] w fun e w' => e = .returned (.bool (decide (p.codes = q.codes))) ∧ Below w.heap.size w w') := Lib.hid (fun w h h' => sameNums_any a.c b.c a.cc b.cc p.codes q.codes w h.c h'.c hz.c)
  have HR := Lib.hid (sameR_parts p q)
  generalize sameP p q = r at HR ⊢
  generalize sameM p.msg q.msg = x1 at C1 HR
  generalize ((p.wset == q.wset) && (p.wdelay == q.wdelay) && sameM p.wmsg q.wmsg) = x2 at C2 HR
  generalize decide (p.subs = q.subs) = x3 at C3 HR
  generalize decide (p.filters = q.filters) = x4 at C4 HR
  generalize decide (p.codes = q.codes) = x5 at C5 HR
  unfold pkV wlV at *
  obtain ⟨w1, hw1⟩ : ∃ w1, w1 = (w.alloc (.cells (pkC p a).toArray 51)).alloc (.cells (pkC q b).toArray 51) := ⟨_, rfl⟩
  obtain ⟨b1, b2, b3⟩ := two hw1
  have HB1 := Lib.hid b1
  have HM1 := Lib.hid b2
  have HN1 := Lib.hid b3
  have HP := Lib.hid ha
  have HO := Lib.hid hb
  have hz1 : w.heap.size + 1 < w1.heap.size := b3.lt
  have hy1 : w.heap.size < w1.heap.size := b2.lt
  have c0 : w1.cell? ⟨w.heap.size, 0, none⟩ = some (.int .i64 p.kind) := b2.cell 0
  have d0 : w1.cell? ⟨w.heap.size + 1, 0, none⟩ = some (.int .i64 q.kind) := b3.cell 0
  have c1 : w1.cell? ⟨w.heap.size, 1, none⟩ = some (.int .i64 p.id) := b2.cell 1
  have d1 : w1.cell? ⟨w.heap.size + 1, 1, none⟩ = some (.int .i64 q.id) := b3.cell 1
  have c2 : w1.cell? ⟨w.heap.size, 2, none⟩ = some (.bool p.dup) := b2.cell 2
  have d2 : w1.cell? ⟨w.heap.size + 1, 2, none⟩ = some (.bool q.dup) := b3.cell 2
  have c12 : w1.cell? ⟨w.heap.size, 12, none⟩ = some (.string p.client) := b2.cell 12
  have d12 : w1.cell? ⟨w.heap.size + 1, 12, none⟩ = some (.string q.client) := b3.cell 12
  have c13 : w1.cell? ⟨w.heap.size, 13, none⟩ = some (.string p.user) := b2.cell 13
  have d13 : w1.cell? ⟨w.heap.size + 1, 13, none⟩ = some (.string q.user) := b3.cell 13
  have c14 : w1.cell? ⟨w.heap.size, 14, none⟩ = some (.bool p.clean) := b2.cell 14
  have d14 : w1.cell? ⟨w.heap.size + 1, 14, none⟩ = some (.bool q.clean) := b3.cell 14
  have c15 : w1.cell? ⟨w.heap.size, 15, none⟩ = some (.int .i64 p.keep) := b2.cell 15
  have d15 : w1.cell? ⟨w.heap.size + 1, 15, none⟩ = some (.int .i64 q.keep) := b3.cell 15
  have c16 : w1.cell? ⟨w.heap.size, 16, none⟩ = some (.int .i64 p.expiry) := b2.cell 16
  have d16 : w1.cell? ⟨w.heap.size + 1, 16, none⟩ = some (.int .i64 q.expiry) := b3.cell 16
  have c17 : w1.cell? ⟨w.heap.size, 17, none⟩ = some (.int .i64 p.window) := b2.cell 17
  have d17 : w1.cell? ⟨w.heap.size + 1, 17, none⟩ = some (.int .i64 q.window) := b3.cell 17
  have c29 : w1.cell? ⟨w.heap.size, 29, none⟩ = some (.bool p.present) := b2.cell 29
  have d29 : w1.cell? ⟨w.heap.size + 1, 29, none⟩ = some (.bool q.present) := b3.cell 29
  have c30 : w1.cell? ⟨w.heap.size, 30, none⟩ = some (.int .i64 p.code) := b2.cell 30
  have d30 : w1.cell? ⟨w.heap.size + 1, 30, none⟩ = some (.int .i64 q.code) := b3.cell 30
  have c31 : w1.cell? ⟨w.heap.size, 31, none⟩ = some (.slice a.s p.subs.length a.sc) := b2.cell 31
  have d31 : w1.cell? ⟨w.heap.size + 1, 31, none⟩ = some (.slice b.s q.subs.length b.sc) := b3.cell 31
  have c32 : w1.cell? ⟨w.heap.size, 32, none⟩ = some (.slice a.f p.filters.length a.fc) := b2.cell 32
  have d32 : w1.cell? ⟨w.heap.size + 1, 32, none⟩ = some (.slice b.f q.filters.length b.fc) := b3.cell 32
  have c33 : w1.cell? ⟨w.heap.size, 33, none⟩ = some (.slice a.c p.codes.length a.cc) := b2.cell 33
  have d33 : w1.cell? ⟨w.heap.size + 1, 33, none⟩ = some (.slice b.c q.codes.length b.cc) := b3.cell 33
  have HW := Lib.hid hw1
  clear b1 b2 b3 hw1 ha hb hz hy
  go_enter Tryd.func33, Tryd.ntmps33
  go_upto_region 1 with fail
  rw [← HW.out]
  cases q0 : (p.kind == q.kind)
  case false =>
    have q0n := bne_no q0
    replace HR : Hid (r = false) := Lib.hid (by rw [HR.out, q0]; simp)
    go_wp2_with fail
    go_ret
    exact ⟨retb HR.out.symm, HB1.out⟩
  have q0n := bne_yes q0
  cases q1 : (p.id == q.id)
  case false =>
    have q1n := bne_no q1
    replace HR : Hid (r = false) := Lib.hid (by rw [HR.out, q1]; simp)
    go_wp2_with fail
    go_ret
    exact ⟨retb HR.out.symm, HB1.out⟩
  have q1n := bne_yes q1
  cases q2 : (p.dup == q.dup)
  case false =>
    have q2n := bne_no q2
    replace HR : Hid (r = false) := Lib.hid (by rw [HR.out, q2]; simp)
    go_wp2_with fail
    go_ret
    exact ⟨retb HR.out.symm, HB1.out⟩
  have q2n := bne_yes q2
  cases x1
  case false =>
    replace HR : Hid (r = false) := Lib.hid (by rw [HR.out]; simp)
    go_wp2_with (first | (refine wpList_load_part (by rfl) 39 _ rfl (w.heap.size) 3 9 rfl 51 (pkC p a) (0, 0) _ HM1.out Tryd.underlying39 rfl info26 (by show 3 + 9 ≤ 34; decide) ?_) | (refine wpList_load_part (by rfl) 39 _ rfl (w.heap.size + 1) 3 9 rfl 51 (pkC q b) (0, 0) _ HN1.out Tryd.underlying39 rfl info26 (by show 3 + 9 ≤ 34; decide) ?_))
    refine (C1.out w1 (HP.out.step HB1.out) (HO.out.step HB1.out)).mono ?_
    rintro e w2 ⟨rfl, hb⟩
    obtain ⟨hc2, hf2⟩ := bcell hb
    have hz2 : w.heap.size + 1 < w2.heap.size := Nat.lt_of_lt_of_le hz1 hb.size
    have hy2 : w.heap.size < w2.heap.size := Nat.lt_of_lt_of_le hy1 hb.size
    have HM2 := Lib.hid (MT.step HM1.out hb)
    have HN2 := Lib.hid (MT.step HN1.out hb)
    have HB2 := Lib.hid (stepB HB1.out hb)
    clear hb
    go_wp2_with fail
    go_ret
    exact ⟨retb HR.out.symm, HB2.out⟩
  go_wp2_with (first | (refine wpList_load_part (by rfl) 39 _ rfl (w.heap.size) 3 9 rfl 51 (pkC p a) (0, 0) _ HM1.out Tryd.underlying39 rfl info26 (by show 3 + 9 ≤ 34; decide) ?_) | (refine wpList_load_part (by rfl) 39 _ rfl (w.heap.size + 1) 3 9 rfl 51 (pkC q b) (0, 0) _ HN1.out Tryd.underlying39 rfl info26 (by show 3 + 9 ≤ 34; decide) ?_))
  refine (C1.out w1 (HP.out.step HB1.out) (HO.out.step HB1.out)).mono ?_
  rintro e w2 ⟨rfl, hb⟩
  obtain ⟨hc2, hf2⟩ := bcell hb
  have hz2 : w.heap.size + 1 < w2.heap.size := Nat.lt_of_lt_of_le hz1 hb.size
  have hy2 : w.heap.size < w2.heap.size := Nat.lt_of_lt_of_le hy1 hb.size
  have HM2 := Lib.hid (MT.step HM1.out hb)
  have HN2 := Lib.hid (MT.step HN1.out hb)
  have HB2 := Lib.hid (stepB HB1.out hb)
  clear hb
  cases q4 : (p.client.toList == q.client.toList)
  case false =>
    have q4n := bne_no q4
    replace HR : Hid (r = false) := Lib.hid (by rw [HR.out, q4]; simp)
    go_wp2_with fail
    go_ret
    exact ⟨retb HR.out.symm, HB2.out⟩
  have q4n := bne_yes q4
  cases q5 : (p.user.toList == q.user.toList)
  case false =>
    have q5n := bne_no q5
    replace HR : Hid (r = false) := Lib.hid (by rw [HR.out, q5]; simp)
    go_wp2_with fail
    go_ret
    exact ⟨retb HR.out.symm, HB2.out⟩
  have q5n := bne_yes q5
  go_upto_region 3 with fail
  cases q6 : (p.clean == q.clean)
  case false =>
    have q6n := bne_no q6
    replace HR : Hid (r = false) := Lib.hid (by rw [HR.out, q6]; simp)
    go_wp2_with fail
    go_ret
    exact ⟨retb HR.out.symm, HB2.out⟩
  have q6n := bne_yes q6
  cases q7 : (p.keep == q.keep)
  case false =>
    have q7n := bne_no q7
    replace HR : Hid (r = false) := Lib.hid (by rw [HR.out, q7]; simp)
    go_wp2_with fail
    go_ret
    exact ⟨retb HR.out.symm, HB2.out⟩
  have q7n := bne_yes q7
  cases q8 : (p.expiry == q.expiry)
  case false =>
    have q8n := bne_no q8
    replace HR : Hid (r = false) := Lib.hid (by rw [HR.out, q8]; simp)
    go_wp2_with fail
    go_ret
    exact ⟨retb HR.out.symm, HB2.out⟩
  have q8n := bne_yes q8
  cases q9 : (p.window == q.window)
  case false =>
    have q9n := bne_no q9
    replace HR : Hid (r = false) := Lib.hid (by rw [HR.out, q9]; simp)
    go_wp2_with fail
    go_ret
    exact ⟨retb HR.out.symm, HB2.out⟩
  have q9n := bne_yes q9
  cases x2
  case false =>
    replace HR : Hid (r = false) := Lib.hid (by rw [HR.out]; simp)
    go_wp2_with (first | (refine wpList_load_part (by rfl) 47 _ rfl (w.heap.size) 18 11 rfl 51 (pkC p a) (0, 0) _ HM2.out Tryd.underlying47 rfl info28 (by show 18 + 11 ≤ 34; decide) ?_) | (refine wpList_load_part (by rfl) 47 _ rfl (w.heap.size + 1) 18 11 rfl 51 (pkC q b) (0, 0) _ HN2.out Tryd.underlying47 rfl info28 (by show 18 + 11 ≤ 34; decide) ?_))
    refine (C2.out w2 (HP.out.step HB2.out) (HO.out.step HB2.out)).mono ?_
    rintro e w3 ⟨rfl, hb⟩
    obtain ⟨hc3, hf3⟩ := bcell hb
    have hz3 : w.heap.size + 1 < w3.heap.size := Nat.lt_of_lt_of_le hz2 hb.size
    have hy3 : w.heap.size < w3.heap.size := Nat.lt_of_lt_of_le hy2 hb.size
    have HM3 := Lib.hid (MT.step HM2.out hb)
    have HN3 := Lib.hid (MT.step HN2.out hb)
    have HB3 := Lib.hid (stepB HB2.out hb)
    clear hb
    go_wp2_with fail
    go_ret
    exact ⟨retb HR.out.symm, HB3.out⟩
  go_wp2_with (first | (refine wpList_load_part (by rfl) 47 _ rfl (w.heap.size) 18 11 rfl 51 (pkC p a) (0, 0) _ HM2.out Tryd.underlying47 rfl info28 (by show 18 + 11 ≤ 34; decide) ?_) | (refine wpList_load_part (by rfl) 47 _ rfl (w.heap.size + 1) 18 11 rfl 51 (pkC q b) (0, 0) _ HN2.out Tryd.underlying47 rfl info28 (by show 18 + 11 ≤ 34; decide) ?_))
  refine (C2.out w2 (HP.out.step HB2.out) (HO.out.step HB2.out)).mono ?_
  rintro e w3 ⟨rfl, hb⟩
  obtain ⟨hc3, hf3⟩ := bcell hb
  have hz3 : w.heap.size + 1 < w3.heap.size := Nat.lt_of_lt_of_le hz2 hb.size
  have hy3 : w.heap.size < w3.heap.size := Nat.lt_of_lt_of_le hy2 hb.size
  have HM3 := Lib.hid (MT.step HM2.out hb)
  have HN3 := Lib.hid (MT.step HN2.out hb)
  have HB3 := Lib.hid (stepB HB2.out hb)
  clear hb
  go_upto_region 5 with fail
  cases q11 : (p.present == q.present)
  case false =>
    have q11n := bne_no q11
    replace HR : Hid (r = false) := Lib.hid (by rw [HR.out, q11]; simp)
    go_wp2_with fail
    go_ret
    exact ⟨retb HR.out.symm, HB3.out⟩
  have q11n := bne_yes q11
  cases q12 : (p.code == q.code)
  case false =>
    have q12n := bne_no q12
    replace HR : Hid (r = false) := Lib.hid (by rw [HR.out, q12]; simp)
    go_wp2_with fail
    go_ret
    exact ⟨retb HR.out.symm, HB3.out⟩
  have q12n := bne_yes q12
  cases x3
  case false =>
    replace HR : Hid (r = false) := Lib.hid (by rw [HR.out]; simp)
    go_wp2_with fail
    refine (C3.out w3 (HP.out.step HB3.out) (HO.out.step HB3.out)).mono ?_
    rintro e w4 ⟨rfl, hb⟩
    obtain ⟨hc4, hf4⟩ := bcell hb
    have hz4 : w.heap.size + 1 < w4.heap.size := Nat.lt_of_lt_of_le hz3 hb.size
    have hy4 : w.heap.size < w4.heap.size := Nat.lt_of_lt_of_le hy3 hb.size
    have HM4 := Lib.hid (MT.step HM3.out hb)
    have HN4 := Lib.hid (MT.step HN3.out hb)
    have HB4 := Lib.hid (stepB HB3.out hb)
    clear hb
    go_wp2_with fail
    go_ret
    exact ⟨retb HR.out.symm, HB4.out⟩
  go_wp2_with fail
  refine (C3.out w3 (HP.out.step HB3.out) (HO.out.step HB3.out)).mono ?_
  rintro e w4 ⟨rfl, hb⟩
  obtain ⟨hc4, hf4⟩ := bcell hb
  have hz4 : w.heap.size + 1 < w4.heap.size := Nat.lt_of_lt_of_le hz3 hb.size
  have hy4 : w.heap.size < w4.heap.size := Nat.lt_of_lt_of_le hy3 hb.size
  have HM4 := Lib.hid (MT.step HM3.out hb)
  have HN4 := Lib.hid (MT.step HN3.out hb)
  have HB4 := Lib.hid (stepB HB3.out hb)
  clear hb
  cases x4
  case false =>
    replace HR : Hid (r = false) := Lib.hid (by rw [HR.out]; simp)
    go_wp2_with fail
    refine (C4.out w4 (HP.out.step HB4.out) (HO.out.step HB4.out)).mono ?_
    rintro e w5 ⟨rfl, hb⟩
    obtain ⟨hc5, hf5⟩ := bcell hb
    have hz5 : w.heap.size + 1 < w5.heap.size := Nat.lt_of_lt_of_le hz4 hb.size
    have hy5 : w.heap.size < w5.heap.size := Nat.lt_of_lt_of_le hy4 hb.size
    have HM5 := Lib.hid (MT.step HM4.out hb)
    have HN5 := Lib.hid (MT.step HN4.out hb)
    have HB5 := Lib.hid (stepB HB4.out hb)
    clear hb
    go_wp2_with fail
    go_ret
    exact ⟨retb HR.out.symm, HB5.out⟩
  go_wp2_with fail
  refine (C4.out w4 (HP.out.step HB4.out) (HO.out.step HB4.out)).mono ?_
  rintro e w5 ⟨rfl, hb⟩
  obtain ⟨hc5, hf5⟩ := bcell hb
  have hz5 : w.heap.size + 1 < w5.heap.size := Nat.lt_of_lt_of_le hz4 hb.size
  have hy5 : w.heap.size < w5.heap.size := Nat.lt_of_lt_of_le hy4 hb.size
  have HM5 := Lib.hid (MT.step HM4.out hb)
  have HN5 := Lib.hid (MT.step HN4.out hb)
  have HB5 := Lib.hid (stepB HB4.out hb)
  clear hb
  go_wp2_with fail
  refine (C5.out w5 (HP.out.step HB5.out) (HO.out.step HB5.out)).mono ?_
  rintro e w6 ⟨rfl, hb⟩
  obtain ⟨hc6, hf6⟩ := bcell hb
  have hz6 : w.heap.size + 1 < w6.heap.size := Nat.lt_of_lt_of_le hz5 hb.size
  have hy6 : w.heap.size < w6.heap.size := Nat.lt_of_lt_of_le hy5 hb.size
  have HM6 := Lib.hid (MT.step HM5.out hb)
  have HN6 := Lib.hid (MT.step HN5.out hb)
  have HB6 := Lib.hid (stepB HB5.out hb)
  clear hb
  go_wp2_with fail
  go_ret
  exact ⟨retb (by rw [HR.out, q0, q1, q2, q4, q5, q6, q7, q8, q9, q11, q12]; simp), HB6.out⟩

end Go.Proofs.YtjadinblfbhgaaaDoor
