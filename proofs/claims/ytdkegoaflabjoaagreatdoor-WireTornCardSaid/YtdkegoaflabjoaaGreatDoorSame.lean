/-
What slices.Equal at properties and SameProps of the specification answer, and few of brokerlaw05. Conditions: the lists read as data; lengths fit an int.
What Same and Expired of message and of the specification answer. Conditions: the messages read as data; lengths fit an int.
-/
import Derived.Test.YtdkegoaflabjoaaGreatDoorPropP
import Derived.Laws.StructEq
set_option maxHeartbeats 4000000
set_option maxRecDepth 20000
namespace Go.Proofs.YtdkegoaflabjoaaGreatDoor
open Go.RowKit

/-- are two properties one -/
def eqPR (a b c d : ByteArray) : Bool := decide ((a, b) = (c, d))
theorem eqP (a b c d : ByteArray) (w : World) : Sem.run Tryz.prog (binOp .eql 114 (.agg #[.string a, .string b]) (.agg #[.string c, .string d])) w = .ok (.bool (eqPR a b c d)) w := by
 have u3 := Tryz.underlying9
 have a3 := Tryz.isAgg9
 have z3 := Tryz.sizeOf9
 have hS : Tryz.prog.underlying 114 = some (.struct (Tryz.prog.fieldsOf 114)) := by kernel_rfl
 have hp : Tryz.prog.stoodInHeld 114 = false := by kernel_rfl
 have h1 := str_dec a c
 have h2 := str_dec b d
 unfold eqPR
 rw [run_eql_struct, show (10000 : Nat) = 9999 + 1 from rfl, run_equalIn_agg w 9999 114 _ _ hS hp]
 simp only [Program.fieldsOf, Tryz.underlying114]
 by_cases ha : a = c
 · by_cases hb : b = d
   · subst ha hb
     go_simp
   · go_simp
 · go_simp
theorem neqP (a b c d : ByteArray) (w : World) : Sem.run Tryz.prog (binOp .neq 114 (.agg #[.string a, .string b]) (.agg #[.string c, .string d])) w = .ok (.bool (!eqPR a b c d)) w := by
 have h := eqP a b c d w
 rw [run_eql_struct] at h
 rw [run_neq_struct]
 generalize Sem.run Tryz.prog (Op.equalIn 10000 114 (.agg #[.string a, .string b]) (.agg #[.string c, .string d])) w = r at h ⊢
 cases r with
 | ok v w' =>
   simp only [Result.andThen, Result.ok.injEq, Value.bool.injEq] at h ⊢
   obtain ⟨rfl, rfl⟩ := h
   exact ⟨rfl, rfl⟩
 | halt x w' => simp [Result.andThen] at h
theorem guardP (op : BinOp) (x y : Operand) (xs ys : Array Value) (w : World) : Sem.run Tryz.prog (eqGuard op 114 x y (.agg xs) (.agg ys)) w = .ok () w := run_eqGuard_agg w op _ x y xs ys (by kernel_rfl)
theorem eqPR_yes {x y : PR} (h : x = y) : eqPR x.1 x.2 y.1 y.2 = true := by rw [h]; exact decide_eq_true rfl
theorem eqPR_no {x y : PR} (h : x ≠ y) : eqPR x.1 x.2 y.1 y.2 = false := decide_eq_false fun e => h (Prod.ext (congrArg Prod.fst e) (congrArg Prod.snd e))

def SamUpto (xs ys : List PR) (k : Nat) : Prop := xs.take k = ys.take k
theorem SamUpto.zero (xs ys : List PR) : SamUpto xs ys 0 := rfl
theorem SamUpto.succ {xs ys : List PR} {k : Nat} {x : PR} (h : SamUpto xs ys k) (hx : xs[k]? = some x) (hy : ys[k]? = some x) : SamUpto xs ys (k + 1) := by
 unfold SamUpto at h ⊢
 rw [List.take_add_one, List.take_add_one, h, hx, hy]
theorem SamUpto.done {xs ys : List PR} (h : SamUpto xs ys xs.length) (hl : xs.length = ys.length) : decide (xs = ys) = true := by
 unfold SamUpto at h
 rw [List.take_length, hl, List.take_length] at h
 exact decide_eq_true h
theorem sam_bad {xs ys : List PR} {k : Nat} {x y : PR} (hx : xs[k]? = some x) (hy : ys[k]? = some y) (h : x ≠ y) : decide (xs = ys) = false :=
 decide_eq_false fun e => by rw [e, hy] at hx; exact h (Option.some.inj hx).symm
theorem sam_len {xs ys : List PR} (h : xs.length ≠ ys.length) : decide (xs = ys) = false := decide_eq_false fun e => h (by rw [e])

theorem sameProps_any (A A' : Option Addr) (c c' : Nat) (xs ys : List PR) (w : World) (hx : PL w w.heap.size A xs) (hy : PL w w.heap.size A' ys) (hn : xs.length ≤ 9223372036854775806) :
 Calls Tryz.prog 62 #[.slice A xs.length c, .slice A' ys.length c'] w fun e w' => e = .returned (.bool (decide (xs = ys))) ∧ Below w.heap.size w w' := by
 by_cases hl : xs.length = ys.length
 · have HX := Lib.hid hx
   have HY := Lib.hid hy
   have HM := Lib.hid hn
   have HL := Lib.hid hl
   have e1 : ((xs.length : Int) != (ys.length : Int)) = false := by simp; omega
   have e1' : (xs.length != ys.length) = false := by simp; omega
   clear hx hy hl
   have hneq := neqP
   have hgd := guardP
   go_enter Tryz.func62, Tryz.ntmps62
   go_wp2
   go_loopg [5] xs.length (fun g v wr => ∃ k : Nat, k + g = xs.length ∧ v = .int .i64 k ∧ SamUpto xs ys k ∧ Below w.heap.size w wr)
   case atStart => exact ⟨0, by omega, rfl, SamUpto.zero _ _, Below.refl _ _⟩
   case round =>
    obtain ⟨k, hkg, rfl, hrel, hb⟩ := hrel
    have HR := Lib.hid hrel
    have HB := Lib.hid hb
    have HG := Lib.hid hkg
    clear hrel
    cases gk with
    | zero =>
      obtain rfl : k = xs.length := by omega
      have HV := Lib.hid (HR.out.done HL.out)
      clear hkg hb
      go_wp2
      go_ret
      exact ⟨retb HV.out.symm, HB.out⟩
    | succ g =>
      have hlt : k < xs.length := by omega
      have hlt2 : k < ys.length := by have := HL.out; omega
      have e3 : decide ((k : Int) < (xs.length : Int)) = true := decide_eq_true (by omega)
      obtain ⟨x, hx⟩ : ∃ x, xs[k]? = some x := ⟨_, List.getElem?_eq_getElem hlt⟩
      obtain ⟨y, hy⟩ : ∃ y, ys[k]? = some y := ⟨_, List.getElem?_eq_getElem hlt2⟩
      obtain ⟨b, o, hA, hbB, kk, kv⟩ := PL.at_ (HX.out.step hb) hx
      subst hA
      obtain ⟨b2, o2, hA2, hbB2, kk2, kv2⟩ := PL.at_ (HY.out.step hb) hy
      subst hA2
      have j1 : (0 : Int) ≤ (k : Int) := by omega
      have j2 : (k : Int) < (xs.length : Int) := by omega
      have j3 : (k : Int) < (ys.length : Int) := by omega
      by_cases he : x = y
      · have HN := Lib.hid (HR.out.succ hx (by rw [hy, he]))
        have d1 := eqPR_yes he
        clear hx hy he hkg hb
        go_wp2_with fail
        go_quiet (fail)
        go_wp2
        go_roundg g
        case measure => omega
        case rel => exact ⟨k + 1, by have := HG.out; omega, by go_num, HN.out, stepB HB.out (below_drewN _ _)⟩
      · have HV := Lib.hid (sam_bad hx hy he)
        have d1 := eqPR_no he
        clear hx hy he hkg hb
        go_wp2_with fail
        go_quiet (fail)
        go_wp2
        go_ret
        exact ⟨retb HV.out.symm, stepB HB.out (below_drewN _ _)⟩
 · have e1 : ((xs.length : Int) != (ys.length : Int)) = true := by simp; omega
   have e1' : (xs.length != ys.length) = true := by simp; omega
   have HV := Lib.hid (sam_len hl)
   clear hx hy hl hn
   go_enter Tryz.func62, Tryz.ntmps62
   go_wp2
   go_ret
   exact ⟨retb HV.out.symm, Below.refl _ _⟩

theorem equalP_any (A A' : Option Addr) (c c' : Nat) (xs ys : List PR) (w : World) (hx : PL w w.heap.size A xs) (hy : PL w w.heap.size A' ys) (hn : xs.length ≤ 9223372036854775806) :
 Calls Tryz.prog 100 #[.slice A xs.length c, .slice A' ys.length c'] w fun e w' => e = .returned (.bool (decide (xs = ys))) ∧ Below w.heap.size w w' := by
 by_cases hl : xs.length = ys.length
 · have HX := Lib.hid hx
   have HY := Lib.hid hy
   have HM := Lib.hid hn
   have HL := Lib.hid hl
   have e1 : ((xs.length : Int) != (ys.length : Int)) = false := by simp; omega
   have e1' : (xs.length != ys.length) = false := by simp; omega
   clear hx hy hl
   have hneq := neqP
   have hgd := guardP
   go_enter Tryz.func100, Tryz.ntmps100
   go_wp2
   go_loopg [13] xs.length (fun g v wr => ∃ k : Nat, k + g = xs.length ∧ v = .int .i64 k ∧ SamUpto xs ys k ∧ Below w.heap.size w wr)
   case atStart => exact ⟨0, by omega, rfl, SamUpto.zero _ _, Below.refl _ _⟩
   case round =>
    obtain ⟨k, hkg, rfl, hrel, hb⟩ := hrel
    have HR := Lib.hid hrel
    have HB := Lib.hid hb
    have HG := Lib.hid hkg
    clear hrel
    cases gk with
    | zero =>
      obtain rfl : k = xs.length := by omega
      have HV := Lib.hid (HR.out.done HL.out)
      clear hkg hb
      go_wp2
      go_ret
      exact ⟨retb HV.out.symm, HB.out⟩
    | succ g =>
      have hlt : k < xs.length := by omega
      have hlt2 : k < ys.length := by have := HL.out; omega
      have e3 : decide ((k : Int) < (xs.length : Int)) = true := decide_eq_true (by omega)
      obtain ⟨x, hx⟩ : ∃ x, xs[k]? = some x := ⟨_, List.getElem?_eq_getElem hlt⟩
      obtain ⟨y, hy⟩ : ∃ y, ys[k]? = some y := ⟨_, List.getElem?_eq_getElem hlt2⟩
      obtain ⟨b, o, hA, hbB, kk, kv⟩ := PL.at_ (HX.out.step hb) hx
      subst hA
      obtain ⟨b2, o2, hA2, hbB2, kk2, kv2⟩ := PL.at_ (HY.out.step hb) hy
      subst hA2
      have j1 : (0 : Int) ≤ (k : Int) := by omega
      have j2 : (k : Int) < (xs.length : Int) := by omega
      have j3 : (k : Int) < (ys.length : Int) := by omega
      by_cases he : x = y
      · have HN := Lib.hid (HR.out.succ hx (by rw [hy, he]))
        have d1 := eqPR_yes he
        clear hx hy he hkg hb
        go_wp2_with fail
        go_quiet (fail)
        go_wp2
        go_roundg g
        case measure => omega
        case rel => exact ⟨k + 1, by have := HG.out; omega, by go_num, HN.out, stepB HB.out (below_drewN _ _)⟩
      · have HV := Lib.hid (sam_bad hx hy he)
        have d1 := eqPR_no he
        clear hx hy he hkg hb
        go_wp2_with fail
        go_quiet (fail)
        go_wp2
        go_ret
        exact ⟨retb HV.out.symm, stepB HB.out (below_drewN _ _)⟩
 · have e1 : ((xs.length : Int) != (ys.length : Int)) = true := by simp; omega
   have e1' : (xs.length != ys.length) = true := by simp; omega
   have HV := Lib.hid (sam_len hl)
   clear hx hy hl hn
   go_enter Tryz.func100, Tryz.ntmps100
   go_wp2
   go_ret
   exact ⟨retb HV.out.symm, Below.refl _ _⟩

end Go.Proofs.YtdkegoaflabjoaaGreatDoor
namespace Go.Proofs.YtdkegoaflabjoaaGreatDoor
open Go.RowKit

theorem same_no {a b : Msg} (h : a ≠ b) : sameM a b = false := decide_eq_false h
theorem same_last {a b : Msg} (h0 : a.topic = b.topic) (h1 : a.payload = b.payload) (h2 : a.level = b.level) (h3 : a.retain = b.retain) (h4 : a.prio = b.prio) (h5 : a.exps = b.exps) (h6 : a.frm = b.frm) (h7 : a.seq = b.seq) : sameM a b = decide (a.props = b.props) := by
 unfold sameM
 rw [Bool.eq_iff_iff, decide_eq_true_eq, decide_eq_true_eq]
 constructor
 · intro h; rw [h]
 · intro h; cases a; cases b; simp_all
theorem int_yes {a b : Int} (h : a = b) : (a == b) = true := by rw [h]; exact beq_self_eq_true _
theorem int_no {a b : Int} (h : a ≠ b) : (a == b) = false := beq_eq_false_iff_ne.2 h
theorem boo_yes {a b : Bool} (h : a = b) : (a == b) = true := by rw [h]; exact beq_self_eq_true _
theorem boo_no {a b : Bool} (h : a ≠ b) : (a == b) = false := beq_eq_false_iff_ne.2 h

theorem rSame_any (a b : Msg) (A A' : Option Addr) (c c' : Nat) (w : World) (ha : PL w w.heap.size A a.props) (hb : PL w w.heap.size A' b.props) (hn : a.props.length ≤ 9223372036854775806) :
 Calls Tryz.prog 18 #[msgV a A c, msgV b A' c'] w fun e w' => e = .returned (.bool (sameM a b)) ∧ Below w.heap.size w w' := by
 unfold msgV
 have hw : Below w.heap.size w ((w.alloc (.cells #[.string a.topic, .string a.payload, .int .i64 a.level, .bool a.retain, .int .i64 a.prio, .int .i64 a.exps, .string a.frm, .int .i64 a.seq, .slice A a.props.length c] 31)).alloc (.cells #[.string b.topic, .string b.payload, .int .i64 b.level, .bool b.retain, .int .i64 b.prio, .int .i64 b.exps, .string b.frm, .int .i64 b.seq, .slice A' b.props.length c'] 31)) := ((Below.refl _ _).alloc (Nat.le_refl _) _).alloc (by simp) _
 have HB := Lib.hid hw
 have HC := Lib.hid (sameProps_any A A' c c' a.props b.props _ (ha.step hw) (hb.step hw) hn)
 have HS := Lib.hid (@same_last a b)
 have HN := fun h => Lib.hid (@same_no a b h)
 generalize sameM a b = r at HS HN ⊢
 obtain ⟨a0, a1, a2, a3, a4, a5, a6, a7, a8⟩ := a
 obtain ⟨b0, b1, b2, b3, b4, b5, b6, b7, b8⟩ := b
 dsimp only at HC HS HN HB ⊢
 generalize a8.length = na at HC HB ⊢
 generalize b8.length = nb at HC HB ⊢
 clear hw ha hb hn
 by_cases h0 : a0 = b0
 case neg =>
  have HR := HN (fun e => h0 (congrArg Msg.topic e))
  have q0 := streq_no h0
  clear HS HN HC h0
  go_enter Tryz.func18, Tryz.ntmps18
  go_wp2
  go_ret
  exact ⟨retb HR.out.symm, HB.out⟩
 by_cases h1 : a1 = b1
 case neg =>
  have HR := HN (fun e => h1 (congrArg Msg.payload e))
  have q0 := streq_yes h0
  have q1 := streq_no h1
  clear HS HN HC h0 h1
  go_enter Tryz.func18, Tryz.ntmps18
  go_wp2
  go_ret
  exact ⟨retb HR.out.symm, HB.out⟩
 by_cases h2 : a2 = b2
 case neg =>
  have HR := HN (fun e => h2 (congrArg Msg.level e))
  have q0 := streq_yes h0
  have q1 := streq_yes h1
  have q2 := int_no h2
  clear HS HN HC h0 h1 h2
  go_enter Tryz.func18, Tryz.ntmps18
  go_wp2
  go_ret
  exact ⟨retb HR.out.symm, HB.out⟩
 by_cases h3 : a3 = b3
 case neg =>
  have HR := HN (fun e => h3 (congrArg Msg.retain e))
  have q0 := streq_yes h0
  have q1 := streq_yes h1
  have q2 := int_yes h2
  have q3 := boo_no h3
  clear HS HN HC h0 h1 h2 h3
  go_enter Tryz.func18, Tryz.ntmps18
  go_wp2
  go_ret
  exact ⟨retb HR.out.symm, HB.out⟩
 by_cases h4 : a4 = b4
 case neg =>
  have HR := HN (fun e => h4 (congrArg Msg.prio e))
  have q0 := streq_yes h0
  have q1 := streq_yes h1
  have q2 := int_yes h2
  have q3 := boo_yes h3
  have q4 := int_no h4
  clear HS HN HC h0 h1 h2 h3 h4
  go_enter Tryz.func18, Tryz.ntmps18
  go_wp2
  go_ret
  exact ⟨retb HR.out.symm, HB.out⟩
 by_cases h5 : a5 = b5
 case neg =>
  have HR := HN (fun e => h5 (congrArg Msg.exps e))
  have q0 := streq_yes h0
  have q1 := streq_yes h1
  have q2 := int_yes h2
  have q3 := boo_yes h3
  have q4 := int_yes h4
  have q5 := int_no h5
  clear HS HN HC h0 h1 h2 h3 h4 h5
  go_enter Tryz.func18, Tryz.ntmps18
  go_wp2
  go_ret
  exact ⟨retb HR.out.symm, HB.out⟩
 by_cases h6 : a6 = b6
 case neg =>
  have HR := HN (fun e => h6 (congrArg Msg.frm e))
  have q0 := streq_yes h0
  have q1 := streq_yes h1
  have q2 := int_yes h2
  have q3 := boo_yes h3
  have q4 := int_yes h4
  have q5 := int_yes h5
  have q6 := streq_no h6
  clear HS HN HC h0 h1 h2 h3 h4 h5 h6
  go_enter Tryz.func18, Tryz.ntmps18
  go_wp2
  go_ret
  exact ⟨retb HR.out.symm, HB.out⟩
 by_cases h7 : a7 = b7
 case neg =>
  have HR := HN (fun e => h7 (congrArg Msg.seq e))
  have q0 := streq_yes h0
  have q1 := streq_yes h1
  have q2 := int_yes h2
  have q3 := boo_yes h3
  have q4 := int_yes h4
  have q5 := int_yes h5
  have q6 := streq_yes h6
  have q7 := int_no h7
  clear HS HN HC h0 h1 h2 h3 h4 h5 h6 h7
  go_enter Tryz.func18, Tryz.ntmps18
  go_wp2
  go_ret
  exact ⟨retb HR.out.symm, HB.out⟩
 have HR := Lib.hid (HS.out h0 h1 h2 h3 h4 h5 h6 h7)
 have q0 := streq_yes h0
 have q1 := streq_yes h1
 have q2 := int_yes h2
 have q3 := boo_yes h3
 have q4 := int_yes h4
 have q5 := int_yes h5
 have q6 := streq_yes h6
 have q7 := int_yes h7
 clear HS HN h0 h1 h2 h3 h4 h5 h6 h7
 generalize decide (a8 = b8) = d at HC HR
 go_enter Tryz.func18, Tryz.ntmps18
 go_wp2_with fail
 refine HC.out.mono ?_
 rintro e w' ⟨rfl, hb⟩
 have HB2 := Lib.hid (stepB HB.out hb)
 clear hb
 go_wp2
 go_ret
 exact ⟨retb HR.out.symm, HB2.out⟩

theorem same_any (a b : Msg) (A A' : Option Addr) (c c' : Nat) (w : World) (ha : PL w w.heap.size A a.props) (hb : PL w w.heap.size A' b.props) (hn : a.props.length ≤ 9223372036854775806) :
 Calls Tryz.prog 71 #[msgV a A c, msgV b A' c'] w fun e w' => e = .returned (.bool (sameM a b)) ∧ Below w.heap.size w w' := by
 unfold msgV
 have hw : Below w.heap.size w ((w.alloc (.cells #[.string a.topic, .string a.payload, .int .i64 a.level, .bool a.retain, .int .i64 a.prio, .int .i64 a.exps, .string a.frm, .int .i64 a.seq, .slice A a.props.length c] 31)).alloc (.cells #[.string b.topic, .string b.payload, .int .i64 b.level, .bool b.retain, .int .i64 b.prio, .int .i64 b.exps, .string b.frm, .int .i64 b.seq, .slice A' b.props.length c'] 31)) := ((Below.refl _ _).alloc (Nat.le_refl _) _).alloc (by simp) _
 have HB := Lib.hid hw
 have HC := Lib.hid (equalP_any A A' c c' a.props b.props _ (ha.step hw) (hb.step hw) hn)
 have HS := Lib.hid (@same_last a b)
 have HN := fun h => Lib.hid (@same_no a b h)
 generalize sameM a b = r at HS HN ⊢
 obtain ⟨a0, a1, a2, a3, a4, a5, a6, a7, a8⟩ := a
 obtain ⟨b0, b1, b2, b3, b4, b5, b6, b7, b8⟩ := b
 dsimp only at HC HS HN HB ⊢
 generalize a8.length = na at HC HB ⊢
 generalize b8.length = nb at HC HB ⊢
 clear hw ha hb hn
 by_cases h0 : a0 = b0
 case neg =>
  have HR := HN (fun e => h0 (congrArg Msg.topic e))
  have q0 := streq_no h0
  clear HS HN HC h0
  go_enter Tryz.func71, Tryz.ntmps71
  go_wp2
  go_ret
  exact ⟨retb HR.out.symm, HB.out⟩
 by_cases h1 : a1 = b1
 case neg =>
  have HR := HN (fun e => h1 (congrArg Msg.payload e))
  have q0 := streq_yes h0
  have q1 := streq_no h1
  clear HS HN HC h0 h1
  go_enter Tryz.func71, Tryz.ntmps71
  go_wp2
  go_ret
  exact ⟨retb HR.out.symm, HB.out⟩
 by_cases h2 : a2 = b2
 case neg =>
  have HR := HN (fun e => h2 (congrArg Msg.level e))
  have q0 := streq_yes h0
  have q1 := streq_yes h1
  have q2 := int_no h2
  clear HS HN HC h0 h1 h2
  go_enter Tryz.func71, Tryz.ntmps71
  go_wp2
  go_ret
  exact ⟨retb HR.out.symm, HB.out⟩
 by_cases h3 : a3 = b3
 case neg =>
  have HR := HN (fun e => h3 (congrArg Msg.retain e))
  have q0 := streq_yes h0
  have q1 := streq_yes h1
  have q2 := int_yes h2
  have q3 := boo_no h3
  clear HS HN HC h0 h1 h2 h3
  go_enter Tryz.func71, Tryz.ntmps71
  go_wp2
  go_ret
  exact ⟨retb HR.out.symm, HB.out⟩
 by_cases h4 : a4 = b4
 case neg =>
  have HR := HN (fun e => h4 (congrArg Msg.prio e))
  have q0 := streq_yes h0
  have q1 := streq_yes h1
  have q2 := int_yes h2
  have q3 := boo_yes h3
  have q4 := int_no h4
  clear HS HN HC h0 h1 h2 h3 h4
  go_enter Tryz.func71, Tryz.ntmps71
  go_wp2
  go_ret
  exact ⟨retb HR.out.symm, HB.out⟩
 by_cases h5 : a5 = b5
 case neg =>
  have HR := HN (fun e => h5 (congrArg Msg.exps e))
  have q0 := streq_yes h0
  have q1 := streq_yes h1
  have q2 := int_yes h2
  have q3 := boo_yes h3
  have q4 := int_yes h4
  have q5 := int_no h5
  clear HS HN HC h0 h1 h2 h3 h4 h5
  go_enter Tryz.func71, Tryz.ntmps71
  go_wp2
  go_ret
  exact ⟨retb HR.out.symm, HB.out⟩
 by_cases h6 : a6 = b6
 case neg =>
  have HR := HN (fun e => h6 (congrArg Msg.frm e))
  have q0 := streq_yes h0
  have q1 := streq_yes h1
  have q2 := int_yes h2
  have q3 := boo_yes h3
  have q4 := int_yes h4
  have q5 := int_yes h5
  have q6 := streq_no h6
  clear HS HN HC h0 h1 h2 h3 h4 h5 h6
  go_enter Tryz.func71, Tryz.ntmps71
  go_wp2
  go_ret
  exact ⟨retb HR.out.symm, HB.out⟩
 by_cases h7 : a7 = b7
 case neg =>
  have HR := HN (fun e => h7 (congrArg Msg.seq e))
  have q0 := streq_yes h0
  have q1 := streq_yes h1
  have q2 := int_yes h2
  have q3 := boo_yes h3
  have q4 := int_yes h4
  have q5 := int_yes h5
  have q6 := streq_yes h6
  have q7 := int_no h7
  clear HS HN HC h0 h1 h2 h3 h4 h5 h6 h7
  go_enter Tryz.func71, Tryz.ntmps71
  go_wp2
  go_ret
  exact ⟨retb HR.out.symm, HB.out⟩
 have HR := Lib.hid (HS.out h0 h1 h2 h3 h4 h5 h6 h7)
 have q0 := streq_yes h0
 have q1 := streq_yes h1
 have q2 := int_yes h2
 have q3 := boo_yes h3
 have q4 := int_yes h4
 have q5 := int_yes h5
 have q6 := streq_yes h6
 have q7 := int_yes h7
 clear HS HN h0 h1 h2 h3 h4 h5 h6 h7
 generalize decide (a8 = b8) = d at HC HR
 go_enter Tryz.func71, Tryz.ntmps71
 go_wp2_with fail
 refine HC.out.mono ?_
 rintro e w' ⟨rfl, hb⟩
 have HB2 := Lib.hid (stepB HB.out hb)
 clear hb
 go_wp2
 go_ret
 exact ⟨retb HR.out.symm, HB2.out⟩

end Go.Proofs.YtdkegoaflabjoaaGreatDoor
