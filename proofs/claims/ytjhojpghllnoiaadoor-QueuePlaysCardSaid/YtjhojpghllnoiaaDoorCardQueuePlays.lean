/-
  A queue that came in by value, opened with the sizes of its entries. Conditions: it reads as data; the weights of what was read are bounded.
  Calls of brokerlaw25 that came in, one by value and a list of them, opened with the sizes of their texts. Conditions: they read as data; the weights of what was read are bounded.
  QueuePlays answers true, walked. Conditions: the queue and the calls read as data; the texts fit; the library's bound on short texts holds a number.
  PROVED: QueuePlays answers true for every text (each of its 2 arguments).
  Conditions: those that the row prints (the tables of package unicode/utf8 read as the program's text lays them; each argument has at most 2^47 bytes). The tie of the tables is given, over a pruned copy of the project.
-/
import Derived.Test.YtjhojpghllnoiaaDoorOpenQu
import Derived.Test.YtjhojpghllnoiaaDoorQaH
import Derived.Test.YtjhojpghllnoiaaDoorQaV
import Derived.Test.YtjhojpghllnoiaaDoorQbG
import Derived.Test.YtjhojpghllnoiaaDoorCards
import Derived.Test.YtjhojpghllnoiaaDoorTie
import Derived.ProofKit
import Derived.OpenShut
import Derived.Deep.DeepHandedRow
import Derived.Lib.LaidTab
import Derived.Lay
import Derived.LaidOnce
import Derived.SizedLaws
import Derived.Carry
import Derived.SevenTiedAt
namespace Go.Proofs.YtjhojpghllnoiaaDoor
open Go.Joins Go.ChangeShapes Go.WideShapes Go.ChangeAt Go.WideMaps Go.WideElems Go.RowKit Go.Deep

theorem cellsQu : Tryd.prog.cellsOf 26 = 7 := by kernel_rfl
theorem cellsEs : Tryd.prog.cellsOf 24 = 1 := by kernel_rfl
theorem bytesEn1 : 1 ≤ Tryd.prog.bytesOf 34 := by decide +kernel
/-- an entry's texts fit, and it has few properties -/
def EnZ (x : EE) : Prop := (x.x.m.topic.size ≤ 9223372036854775807 ∧ x.x.m.frm.size ≤ 9223372036854775807 ∧ ∀ y ∈ x.x.m.props, y.1.size ≤ 9223372036854775807) ∧ x.x.m.props.length ≤ 4398046511104
section
variable {H : Type} {enc : TypeId × Value → H} {W : World}
theorem slice_shape {t e : TypeId} (hu : Tryd.prog.underlying t = some (.slice e)) {v : Value} {fuel : Nat} {x : DataW H × List MemPlace} (hf : DataW.trod enc Tryd.prog W 0 (fun _ => true) true fuel t [v] = some x) : ∃ a n c, v = .slice a n c := by
  rcases open_slice hu hf with ⟨hcs, _⟩ | ⟨a, len, cap, m, n, D, Pl, hcs, _⟩
  · simp at hcs; exact ⟨_, _, _, hcs⟩
  · simp at hcs; exact ⟨_, _, _, hcs⟩
set_option maxRecDepth 100000 in
theorem open_spcx {fuel : Nat} {cs : List Value} {x : DataW H × List MemPlace} (hl : cs.length = 5) (hf : DataW.trod enc Tryd.prog W 0 (fun _ => true) true fuel 23 cs = some x) :
    ∃ s : Sp, cs = spC s ∧ (s.name.size ≤ 9223372036854775807 ∧ s.dead.size ≤ 9223372036854775807) := by
  match cs, hl with
  | [c0, c1, c2, c3, c4], _ =>
    obtain ⟨ys, n, _, hx, _, hyl, hfld⟩ := DataW.trod_struct Tryd.underlying23 hf
    match ys, hyl with
    | [y0, y1, y2, y3, y4], _ =>
      have g0 := hfld 0 _ rfl
      have g1 := hfld 1 _ rfl
      have g2 := hfld 2 _ rfl
      have g3 := hfld 3 _ rfl
      have g4 := hfld 4 _ rfl
      simp [cellsI64, cellsStr] at g0 g1 g2 g3 g4
      obtain ⟨v0, e0, _, z0⟩ := DataW.trod_string Tryd.underlying9 (show DataW.trod enc Tryd.prog W 0 (fun _ => true) true n 9 [c0] = some y0 from g0)
      obtain ⟨v1, e1, _, _⟩ := DataW.trod_int Tryd.underlying3 (show DataW.trod enc Tryd.prog W 0 (fun _ => true) true n 3 [c1] = some y1 from g1)
      obtain ⟨v2, e2, _, _⟩ := DataW.trod_int Tryd.underlying3 (show DataW.trod enc Tryd.prog W 0 (fun _ => true) true n 3 [c2] = some y2 from g2)
      obtain ⟨v3, e3, _, _⟩ := DataW.trod_int Tryd.underlying3 (show DataW.trod enc Tryd.prog W 0 (fun _ => true) true n 3 [c3] = some y3 from g3)
      obtain ⟨v4, e4, _, z4⟩ := DataW.trod_string Tryd.underlying9 (show DataW.trod enc Tryd.prog W 0 (fun _ => true) true n 9 [c4] = some y4 from g4)
      simp only [List.cons.injEq, and_true] at e0 e1 e2 e3 e4
      subst e0 e1 e2 e3 e4
      exact ⟨⟨v0, v1, v2, v3, v4⟩, rfl, len_max z0, len_max z4⟩
set_option maxRecDepth 100000 in
theorem open_encx {fuel : Nat} {cs : List Value} {x : DataW H × List MemPlace} (hl : cs.length = 12) (hf : DataW.trod enc Tryd.prog W 0 (fun _ => true) true fuel 34 cs = some x) :
    ∃ X : EE, cs = gE X ∧ PL W W.heap.size X.a (eps X) ∧ (WB 34 x.1 → EnZ X) := by
  match cs, hl with
  | [c0, c1, c2, c3, c4, c5, c6, c7, c8, c9, c10, c11], _ =>
    obtain ⟨ys, n, _, hx, _, hyl, hfld⟩ := DataW.trod_struct Tryd.underlying34 hf
    match ys, hyl with
    | [y0, y1, y2, y3], _ =>
      have g0 := hfld 0 _ rfl
      have g1 := hfld 1 _ rfl
      have g2 := hfld 2 _ rfl
      have g3 := hfld 3 _ rfl
      simp [cellsI64, cellsMsg] at g0 g1 g2 g3
      obtain ⟨v0, e0, _, _⟩ := DataW.trod_int Tryd.underlying3 (show DataW.trod enc Tryd.prog W 0 (fun _ => true) true n 3 [c0] = some y0 from g0)
      obtain ⟨v1, e1, _, _⟩ := DataW.trod_int Tryd.underlying3 (show DataW.trod enc Tryd.prog W 0 (fun _ => true) true n 3 [c1] = some y1 from g1)
      obtain ⟨v2, e2, _, _⟩ := DataW.trod_int Tryd.underlying3 (show DataW.trod enc Tryd.prog W 0 (fun _ => true) true n 3 [c2] = some y2 from g2)
      obtain ⟨m, A, c, e3, h3, t3, u3⟩ := open_msgcx (show DataW.trod enc Tryd.prog W 0 (fun _ => true) true n 32 [c3, c4, c5, c6, c7, c8, c9, c10, c11] = some y3 from g3)
      simp only [List.cons.injEq, and_true] at e0 e1 e2
      subst e0 e1 e2 hx
      refine ⟨⟨⟨v0, v1, v2, m⟩, A, c⟩, ?_, h3, fun hw => ⟨t3, (u3 (WB.field Tryd.underlying34 hw (j := 3) rfl rfl)).1⟩⟩
      show [Value.int .i64 v0, Value.int .i64 v1, Value.int .i64 v2] ++ [c3, c4, c5, c6, c7, c8, c9, c10, c11] = _
      rw [e3]; rfl
theorem open_ensx {fuel : Nat} {a0 : Option Addr} {len cap : Nat} {x : DataW H × List MemPlace} (hf : DataW.trod enc Tryd.prog W 0 (fun _ => true) true fuel 24 [.slice a0 len cap] = some x) :
    ∃ Xs : List EE, Xs.length = len ∧ EI W W.heap.size a0 Xs ∧ len ≤ cap ∧ (WB 24 x.1 → len ≤ 140737488355328 ∧ ∀ X ∈ Xs, EnZ X) :=
  open_listx (by decide) gE_len ⟨En.zero, none, 0⟩ Tryd.underlying24 cellsEn bytesEn1 (fun hl ht => open_encx hl ht) hf
set_option maxRecDepth 100000 in
theorem open_qux {r : Reach} {b0 : Nat} {v : Value} {d : DataW H} {p : List MemPlace} (hv : Value.okWide Tryd.prog W r b0 26 v)
    (h : DataW.Trod enc Tryd.prog W 0 (fun _ => true) true 26 v d p) : ∃ (s : Sp) (n : Int) (A : Option Addr) (c : Nat) (xs : List EE), v = quV s n (.slice A xs.length c) ∧ (s.name.size ≤ 9223372036854775807 ∧ s.dead.size ≤ 9223372036854775807) ∧ EI W W.heap.size A xs ∧ xs.length ≤ c ∧ (WB 26 d → xs.length ≤ 140737488355328 ∧ ∀ x ∈ xs, EnZ x) := by
  obtain ⟨cs, rfl, hsz⟩ := okWide_struct Tryd.underlying26 hv
  obtain ⟨fuel, hf⟩ := h
  obtain ⟨l⟩ := cs
  have hl : l.length = 7 := by have := hsz.trans cellsQu; simpa using this
  match l, hl with
  | [c0, c1, c2, c3, c4, c5, c6], _ =>
    obtain ⟨ys, n, _, hx, _, hyl, hfld⟩ := DataW.trod_struct Tryd.underlying26 hf
    match ys, hyl with
    | [y0, y1, y2], _ =>
      have g0 := hfld 0 _ rfl
      have g1 := hfld 1 _ rfl
      have g2 := hfld 2 _ rfl
      simp [Value.cells, cellsI64, cellsSp, cellsEs] at g0 g1 g2
      obtain ⟨s, e0, z0⟩ := open_spcx (by rfl) (show DataW.trod enc Tryd.prog W 0 (fun _ => true) true n 23 [c0, c1, c2, c3, c4] = some y0 from g0)
      obtain ⟨v1, e1, _, _⟩ := DataW.trod_int Tryd.underlying3 (show DataW.trod enc Tryd.prog W 0 (fun _ => true) true n 3 [c5] = some y1 from g1)
      obtain ⟨A, len, cap, e2⟩ := slice_shape Tryd.underlying24 (show DataW.trod enc Tryd.prog W 0 (fun _ => true) true n 24 [c6] = some y2 from g2)
      subst e2
      obtain ⟨Xs, hXl, hX, hc, hw⟩ := open_ensx (show DataW.trod enc Tryd.prog W 0 (fun _ => true) true n 24 [.slice A len cap] = some y2 from g2)
      simp only [List.cons.injEq, and_true] at e1 e0
      obtain ⟨rfl, rfl, rfl, rfl, rfl⟩ := e0
      subst e1 hXl
      refine ⟨s, v1, A, cap, Xs, rfl, z0, hX, hc, fun h => hw ?_⟩
      have hx1 : d = .agg (([y0, y1, y2].map Prod.fst)) := congrArg Prod.fst hx
      subst hx1
      exact WB.field Tryd.underlying26 h (j := 2) rfl rfl
end
end Go.Proofs.YtjhojpghllnoiaaDoor
namespace Go.Proofs.YtjhojpghllnoiaaDoor
open Go.Joins Go.ChangeShapes Go.WideShapes Go.ChangeAt Go.WideMaps Go.WideElems Go.RowKit Go.Deep

theorem cellsOq : Tryd.prog.cellsOf 36 = 24 := by kernel_rfl
theorem bytesOq : 1 ≤ Tryd.prog.bytesOf 36 := by decide +kernel
/-- a message's texts fit, and it has few properties -/
def MgZ (m : Msg) : Prop := (m.topic.size ≤ 9223372036854775807 ∧ m.frm.size ≤ 9223372036854775807 ∧ ∀ y ∈ m.props, y.1.size ≤ 9223372036854775807) ∧ m.props.length ≤ 4398046511104
section
variable {H : Type} {enc : TypeId × Value → H} {W : World}
set_option maxRecDepth 100000 in
theorem open_oqc {fuel : Nat} {cs : List Value} {x : DataW H × List MemPlace} (hl : cs.length = 24) (hf : DataW.trod enc Tryd.prog W 0 (fun _ => true) true fuel 36 cs = some x) :
    ∃ X : OQ, cs = gO X ∧ PL W W.heap.size X.ma (omp X) ∧ (WB 36 x.1 → PL W W.heap.size X.xa X.x.m.props ∧ MgZ X.m ∧ MgZ X.x.m) := by
  match cs, hl with
  | [c0, c1, c2, c3, c4, c5, c6, c7, c8, c9, c10, c11, c12, c13, c14, c15, c16, c17, c18, c19, c20, c21, c22, c23], _ =>
    obtain ⟨ys, n, _, hx, _, hyl, hfld⟩ := DataW.trod_struct Tryd.underlying36 hf
    match ys, hyl with
    | [y0, y1, y2, y3, y4], _ =>
      have g0 := hfld 0 _ rfl
      have g1 := hfld 1 _ rfl
      have g2 := hfld 2 _ rfl
      have g3 := hfld 3 _ rfl
      have g4 := hfld 4 _ rfl
      simp [cellsI64, cellsMsg, cellsEn] at g0 g1 g2 g3 g4
      obtain ⟨v0, e0, _, _⟩ := DataW.trod_int Tryd.underlying3 (show DataW.trod enc Tryd.prog W 0 (fun _ => true) true n 3 [c0] = some y0 from g0)
      obtain ⟨v1, e1, _, _⟩ := DataW.trod_int Tryd.underlying3 (show DataW.trod enc Tryd.prog W 0 (fun _ => true) true n 3 [c1] = some y1 from g1)
      obtain ⟨v2, e2, _, _⟩ := DataW.trod_int Tryd.underlying3 (show DataW.trod enc Tryd.prog W 0 (fun _ => true) true n 3 [c2] = some y2 from g2)
      obtain ⟨m, A, c, e3, h3, t3, u3⟩ := open_msgcx (show DataW.trod enc Tryd.prog W 0 (fun _ => true) true n 32 [c3, c4, c5, c6, c7, c8, c9, c10, c11] = some y3 from g3)
      obtain ⟨X4, e4, h4, u4⟩ := open_encx (by rfl) (show DataW.trod enc Tryd.prog W 0 (fun _ => true) true n 34 [c12, c13, c14, c15, c16, c17, c18, c19, c20, c21, c22, c23] = some y4 from g4)
      simp only [List.cons.injEq, and_true] at e0 e1 e2
      subst e0 e1 e2 hx
      refine ⟨⟨v0, v1, v2, m, A, c, X4.x, X4.a, X4.c⟩, ?_, h3, fun hw => ⟨h4, ⟨t3, (u3 (WB.field Tryd.underlying36 hw (j := 3) rfl rfl)).1⟩, u4 (WB.field Tryd.underlying36 hw (j := 4) rfl rfl)⟩⟩
      show [Value.int .i64 v0, Value.int .i64 v1, Value.int .i64 v2] ++ ([c3, c4, c5, c6, c7, c8, c9, c10, c11] ++ [c12, c13, c14, c15, c16, c17, c18, c19, c20, c21, c22, c23]) = _
      rw [e3, e4]; rfl
set_option maxRecDepth 100000 in
theorem open_oqs {fuel : Nat} {a0 : Option Addr} {len cap : Nat} {x : DataW H × List MemPlace} (hf : DataW.trod enc Tryd.prog W 0 (fun _ => true) true fuel 27 [.slice a0 len cap] = some x) :
    ∃ Xs : List OQ, Xs.length = len ∧ OI W W.heap.size a0 Xs ∧ len ≤ cap ∧ (WB 27 x.1 → len ≤ 140737488355328 ∧ ∀ X ∈ Xs, PL W W.heap.size X.xa X.x.m.props ∧ MgZ X.m ∧ MgZ X.x.m) :=
  open_listx (g := gO) (k := 24) (ad := OQ.ma) (ps := omp) (PW := fun X => PL W W.heap.size X.xa X.x.m.props ∧ MgZ X.m ∧ MgZ X.x.m) (by decide) gO_len OQ.zero Tryd.underlying27 cellsOq bytesOq (fun hl ht => open_oqc hl ht) hf
set_option maxRecDepth 100000 in
theorem open_oqx {r : Reach} {b0 : Nat} {v : Value} {d : DataW H} {p : List MemPlace} (hv : Value.okWide Tryd.prog W r b0 36 v)
    (h : DataW.Trod enc Tryd.prog W 0 (fun _ => true) true 36 v d p) : ∃ X : OQ, v = .agg (gO X).toArray ∧ PL W W.heap.size X.ma (omp X) ∧ (WB 36 d → PL W W.heap.size X.xa X.x.m.props ∧ MgZ X.m ∧ MgZ X.x.m) := by
  obtain ⟨cs, rfl, hsz⟩ := okWide_struct Tryd.underlying36 hv
  obtain ⟨fuel, hf⟩ := h
  obtain ⟨l⟩ := cs
  have hl : l.length = 24 := by have := hsz.trans cellsOq; simpa using this
  obtain ⟨X, rfl, h1, h2⟩ := open_oqc hl hf
  exact ⟨X, rfl, h1, h2⟩
end
end Go.Proofs.YtjhojpghllnoiaaDoor
namespace Go.Proofs.YtjhojpghllnoiaaDoor
open Go.RowKit
open S2 (BK Put get_ops)

theorem oqSize2 : (Tryd.prog.info? 36).map (·.size) = some 24 := by kernel_rfl
/-- the queue's list: of the law's own, from block B on, or the one that came in -/
def LQ (B : Nat) (A : Option Addr) (l : List EE) (w : World) (A1 : Option Addr) (ys : List EE) : Prop := EN w B A1 ys ∨ (A1 = A ∧ ys = l)
theorem LQ.step {B : Nat} {A A1 : Option Addr} {l ys : List EE} {w w' : World} (h : LQ B A l w A1 ys) (hb : Below w.heap.size w w') : LQ B A l w' A1 ys := h.imp (fun h => h.step hb) id
theorem LQ.put {B g : Nat} {A A1 : Option Addr} {l ys : List EE} {w w' : World} (h : LQ B A l w A1 ys) (hp : Put g w w') (hg : g < B) : LQ B A l w' A1 ys := h.imp (fun h => h.put hp hg) id
theorem LQ.ei {B : Nat} {A A1 : Option Addr} {l ys : List EE} {w : World} (h : LQ B A l w A1 ys) (h2 : EI w w.heap.size A l) : EI w w.heap.size A1 ys := by
  rcases h with h | ⟨rfl, rfl⟩
  · exact h.1
  · exact h2
section
variable {ops : Array Oper} {rest : List Oper} {o : Oper} {a : Act} {Q : Exit → Act → World → Prop}
/-- nothing is appended -/
theorem wpList_none {B N : Nat} (wr : World) (hgd : o.guard = none) (s x : Operand) (ho : o.op = .call { callee := .builtin .append, args := #[s, x], argTypes := #[24, 24] }) (v : Value) (xs : List EE) (hs : a.eval s = v) (hout : OwL B N wr v xs) (hx : a.eval x = .slice none 0 0)
    (h : wpList Tryd.prog ops Q rest (a.put o.dst v) wr) : wpList Tryd.prog ops Q (o :: rest) a wr :=
  wpList_plain hgd fun _ hK => by
    obtain ⟨i, hi2, hz, hz1, hz2⟩ := info_parts enInfo
    have ht := Tryd.underlying24
    have hsrc : Src Tryd.prog i.size 24 (.slice none 0 0) 0 [] wr := Src.ofNil wr ht 0
    have hr : (Builtin.append_ #[24, 24] o.type #[v, .slice none 0 0]).run Tryd.prog wr = .ok v wr := by
      rcases own_rowG hout.1.1 with ⟨rfl, rfl⟩ | ⟨q, cap, sp, rfl, _, _, hnc, _, _⟩
      · simp [Builtin.append_, run_underlying ht, sizeOf, typeInfo, hi2, hsrc.len, hsrc.cells]
      · exact run_append_room_src (P := Tryd.prog) (w := wr) 24 24 o.type 34 i ht hi2 q 0 xs.length cap (.slice none 0 0) 0 [] hsrc (by omega) (fun j hj => absurd hj (by simp)) (fun j hj => absurd hj (by simp))
    unfold Oper.wp execOp
    simp only [ho, resolve, invoke, builtin, Sem.run_bind, Sem.run_pure, Result.andThen_ok, List.map_toArray, List.map_cons, List.map_nil, hs, hx, hr]
    exact hK _ _ h
theorem wpList_oneX {B N Bp vb : Nat} (wr : World) (hgd : o.guard = none) (s x : Operand) (ho : o.op = .call { callee := .builtin .append, args := #[s, x], argTypes := #[24, 24] }) (v : Value) (xs : List EE) (y : EE) (hs : a.eval s = v) (hout : OwL B N wr v xs)
    (hx : a.eval x = .slice (some ⟨vb, 0, none⟩) 1 1) (hX : BK 34 wr vb (gE y)) (hp : PL wr wr.heap.size y.a (eps y)) (hnw : NewL Bp y.a) (hBN : B ≤ N) (hNp : N ≤ Bp) (hpw : Bp ≤ wr.heap.size) (hn : xs.length ≤ 100000)
    (h : ∀ v' w', OwL B w'.heap.size w' v' (xs ++ [y]) → Kpo B N Bp wr w' → wr.heap.size ≤ w'.heap.size → wpList Tryd.prog ops Q rest (a.put o.dst v') w') : wpList Tryd.prog ops Q (o :: rest) a wr :=
  wpList_plain hgd fun _ hK => oper_owl s x ho v xs y hs hout hx hX hp hnw hBN hNp hpw hn (fun v' w' h1 h2 h3 => hK _ _ (h v' w' h1 h2 h3))
end

set_option maxRecDepth 20000 in
set_option maxHeartbeats 64000000 in
theorem queuePlays_walk (s : Sp) (n0 : Int) (A : Option Addr) (c : Nat) (l : List EE) (AO : Option Addr) (cO : Nat) (l2 : List OQ) (w : World) (hw : S1.Okw w) (hz : s.name.size ≤ 9223372036854775807 ∧ s.dead.size ≤ 9223372036854775807) (hsl : EI w w.heap.size A l) (hc : l.length ≤ c)
    (hzp : ∀ y ∈ l, (y.x.m.topic.size ≤ 9223372036854775807 ∧ y.x.m.frm.size ≤ 9223372036854775807 ∧ ∀ z ∈ y.x.m.props, z.1.size ≤ 9223372036854775807) ∧ y.x.m.props.length ≤ 4398046511104) (hops : OI w w.heap.size AO l2)
    (hoz : ∀ o ∈ l2, PL w w.heap.size o.xa o.x.m.props ∧ ((o.m.topic.size ≤ 9223372036854775807 ∧ o.m.frm.size ≤ 9223372036854775807 ∧ ∀ y ∈ o.m.props, y.1.size ≤ 9223372036854775807) ∧ o.m.props.length ≤ 4398046511104) ∧ ((o.x.m.topic.size ≤ 9223372036854775807 ∧ o.x.m.frm.size ≤ 9223372036854775807 ∧ ∀ y ∈ o.x.m.props, y.1.size ≤ 9223372036854775807) ∧ o.x.m.props.length ≤ 4398046511104)) :
    Calls Tryd.prog 3 #[quV s n0 (.slice A l.length c), .slice AO l2.length cO] w fun e w' => e = .returned (.bool true) ∧ Below w.heap.size w w' := by
  have HO := Lib.hid hw
  have HS := Lib.hid hsl
  have HOP := Lib.hid hops
  have HOZ := Lib.hid hoz
  have HCL := Lib.hid hc
  have HEX := Lib.hid (fun w1 h1 => exHoldsQ_any w1 h1)
  have HSM := Lib.hid (fun w1 h1 => small_any s n0 A c l w1 hz h1 hc (fun y hy => (hzp y hy).1))
  generalize hsm : decide (l.length ≤ 60 ∧ validR s n0 (l.map EE.x) = 0) = sm at HSM
  unfold quV at HSM ⊢
  have HSMD := Lib.hid hsm
  have HEZ0 : Hid (∀ y ∈ l.map EE.x, EzY y) := Lib.hid (fun y hy => by obtain ⟨z, hz, rfl⟩ := List.mem_map.1 hy; exact (hzp z hz).1)
  clear hw hz hsl hc hzp hsm hops hoz
  go_enter Tryd.func3, Tryd.ntmps3
  go_upto_region 1 with fail
  refine name_world (C := fun w1 => Code.wp _ _ _ _ w1) (w.alloc (.cells (quC s n0 (.slice A l.length c)).toArray 26)) ?_
  intro w1 hw1
  have hb1 : Below w.heap.size w w1 := by rw [hw1]; exact S2.below_new w _
  have Q_w1 : Hid (BK 26 w1 w.heap.size (quC s n0 (.slice A l.length c))) := Lib.hid (by rw [hw1]; exact BK.new w _ _)
  have B_w1 := Lib.hid hb1
  clear hw1 hb1
  obtain ⟨gQ, hgQ⟩ : ∃ g, g = w.heap.size := ⟨_, rfl⟩
  have HWQ : Hid (w.heap.size ≤ gQ) := Lib.hid (by rw [hgQ]; exact Nat.le_refl _)
  rw [← hgQ] at Q_w1
  try rw [← hgQ]
  clear hgQ
  go_wp2_with first
    | (refine wpList_load_v (by rfl) 26 (.tmp 2) rfl ⟨gQ, 0, none⟩ rfl (.agg (quC s n0 (.slice A l.length c)).toArray) (load_qu Q_w1.out) ?_)
  refine (HSM.out w1 (HS.out.step B_w1.out)).mono ?_
  rintro e y1 ⟨rfl, hb⟩
  have B_y1 : Hid (Below w.heap.size w y1) := Lib.hid (stepB B_w1.out hb)
  have Q_y1 : Hid (BK 26 y1 gQ (quC s n0 (.slice A l.length c))) := Lib.hid (Q_w1.out.step hb)
  clear B_w1 Q_w1
  clear hb
  cases sm with
  | false =>
    clear HSMD
    go_wp2_with fail
    refine (HEX.out y1 (HO.out.step B_y1.out)).mono ?_
    rintro e y2 ⟨rfl, hb⟩
    have B_y2 : Hid (Below w.heap.size w y2) := Lib.hid (stepB B_y1.out hb)
    have Q_y2 : Hid (BK 26 y2 gQ (quC s n0 (.slice A l.length c))) := Lib.hid (Q_y1.out.step hb)
    clear B_y1 Q_y1
    clear hb
    go_wp2
    go_ret
    exact ⟨rfl, B_y2.out⟩
  | true =>
    by_cases h60 : 60 < (l2.length : Int)
    · have q1 : decide (60 < (l2.length : Int)) = true := decide_eq_true h60
      have q2 : decide ((l2.length : Int) > 60) = true := decide_eq_true h60
      clear h60 HSMD
      go_wp2_with fail
      refine (HEX.out y1 (HO.out.step B_y1.out)).mono ?_
      rintro e y3 ⟨rfl, hb⟩
      have B_y3 : Hid (Below w.heap.size w y3) := Lib.hid (stepB B_y1.out hb)
      have Q_y3 : Hid (BK 26 y3 gQ (quC s n0 (.slice A l.length c))) := Lib.hid (Q_y1.out.step hb)
      clear B_y1 Q_y1
      clear hb
      go_wp2
      go_ret
      exact ⟨rfl, B_y3.out⟩
    have q1 : decide (60 < (l2.length : Int)) = false := decide_eq_false h60
    have q2 : decide ((l2.length : Int) > 60) = false := decide_eq_false h60
    have HL60 : Hid (l2.length ≤ 60) := Lib.hid (by omega)
    obtain ⟨hl6, hval⟩ := of_decide_eq_true HSMD.out
    have HL6 := Lib.hid hl6
    have HVAL0 := Lib.hid hval
    clear h60 HSMD HSM hl6 hval
    go_upto_region 4 with fail
    clear q1 q2
    go_wp2_with fail
    obtain ⟨B0, hB0⟩ : ∃ b, b = y1.heap.size := ⟨_, rfl⟩
    have HGB : Hid (gQ < B0) := Lib.hid (by rw [hB0]; exact Q_y1.out.lt)
    have HWB : Hid (w.heap.size ≤ B0) := Lib.hid (by rw [hB0]; exact B_y1.out.size)
    have HB0 : Hid (B0 ≤ y1.heap.size) := Lib.hid (by rw [hB0]; exact Nat.le_refl _)
    clear hB0
    go_loopg [23, 5] l2.length (fun g v u wr => ∃ (j : Nat) (n : Int) (A1 : Option Addr) (c1 : Nat) (ys xs : List EE) (vo : Value), vo = u ∧ j + g = l2.length ∧ v = .int .i64 j ∧ validR s n (ys.map EE.x) = 0 ∧ ys.length ≤ 60 + j ∧ (∀ y ∈ ys.map EE.x, EzY y) ∧ BK 26 wr gQ (quC s n (.slice A1 ys.length c1)) ∧ LQ B0 A l wr A1 ys ∧ ys.length ≤ c1 ∧ OwL B0 wr.heap.size wr vo xs ∧ xs.length ≤ j ∧ (∀ y ∈ xs, EzY y.x) ∧ Below w.heap.size w wr ∧ B0 ≤ wr.heap.size)
    case atStart => exact ⟨0, n0, A, c, l, [], _, rfl, by omega, rfl, HVAL0.out, by have := HL6.out; omega, HEZ0.out, Q_y1.out, Or.inr ⟨rfl, rfl⟩, HCL.out, OwL.nil _ _ _, Nat.le_refl _, (fun y hy => by cases hy), B_y1.out, HB0.out⟩
    case round =>
      clear B_y1 Q_y1
      obtain ⟨j, n, A1, c1, ys1, xs1, vo, rfl, hjg, rfl, hval, hyl, hez, hq, hlq, hc1, hu, hxl, hxz, hbb, hzz⟩ := hrel
      have HJ := Lib.hid hjg
      have HVAL := Lib.hid hval
      have HYL := Lib.hid hyl
      have HEZ := Lib.hid hez
      have HQ := Lib.hid hq
      have HLQ := Lib.hid hlq
      have HC1 := Lib.hid hc1
      have HU := Lib.hid hu
      have HXL := Lib.hid hxl
      have HXZ := Lib.hid hxz
      have HBB := Lib.hid hbb
      have HZZ := Lib.hid hzz
      have HJ60 : Hid (j ≤ 60) := Lib.hid (by have := HL60.out; omega)
      clear hval hyl hez hq hlq hc1 hu hxl hxz hbb hzz
      cases gk with
      | zero =>
        obtain rfl : j = l2.length := by omega
        clear hjg
        have B_wr : Hid (Below w.heap.size w wr) := Lib.hid (HBB.out)
        go_wp2_with fail
        refine (HEX.out wr (HO.out.step B_wr.out)).mono ?_
        rintro e y4 ⟨rfl, hb⟩
        have B_y4 : Hid (Below w.heap.size w y4) := Lib.hid (stepB B_wr.out hb)
        clear B_wr
        clear hb
        go_wp2
        go_ret
        exact ⟨rfl, B_y4.out⟩
      | succ g =>
        have hlt : j < l2.length := by omega
        have e3 : decide ((j : Int) < (l2.length : Int)) = true := decide_eq_true (by omega)
        obtain ⟨q, hq0⟩ : ∃ q, l2[j]? = some q := ⟨_, List.getElem?_eq_getElem hlt⟩
        have hoz := HOZ.out q (List.mem_of_getElem? hq0)
        obtain ⟨b, o, hA3, hbB, hcl, hpl⟩ := (HOP.out.step HBB.out).at_ hq0
        obtain ⟨kd, now, nn, m, ma, mc, x, xa, xc⟩ := q
        have HLD : Hid ((loadVar 36 ⟨b, o + j * 24, none⟩).run Tryd.prog wr = .ok (.agg (oqC kd now nn m ma mc x xa xc).toArray) wr) := Lib.hid (run_load_cells wr b (o + j * 24) (oqC kd now nn m ma mc x xa xc) 36 _ hcl Tryd.underlying36 rfl oqSize2)
        have HP : Hid (PL wr wr.heap.size ma m.props) := Lib.hid hpl
        have HPX : Hid (∀ w', Below w.heap.size w w' → PL w' w'.heap.size xa x.m.props) := Lib.hid (fun w' h' => GL.step hoz.1 h')
        have HMZ : Hid ((m.topic.size ≤ 9223372036854775807 ∧ m.frm.size ≤ 9223372036854775807 ∧ ∀ y ∈ m.props, y.1.size ≤ 9223372036854775807) ∧ m.props.length ≤ 4398046511104) := Lib.hid hoz.2.1
        have HXE : Hid (EzY x) := Lib.hid hoz.2.2.1
        subst hA3
        have j1 : (0 : Int) ≤ (j : Int) := by omega
        have j2 : (j : Int) < (l2.length : Int) := by omega
        have hlk : j ≤ 1000000 := by have := HL60.out; omega
        clear hcl hpl hbB hq0 hjg hoz
        have C_wr : Hid (Below wr.heap.size wr wr) := Lib.hid (Below.refl _ _)
        go_upto_region 7 with first
          | (refine wpList_load_v (by rfl) 36 _ rfl ⟨b, o + j * 24, none⟩ (by simp [Act.eval, Act.put]) _ HLD.out ?_)
          | (refine S2.wpList_store_all (by rfl) 36 (.tmp 7) (.tmp 26) rfl rfl (wr.heap.size) rfl (oqC kd now nn m ma mc x xa xc) rfl 36 _ (BK.new wr _ _) oqSize2 rfl (ones rfl) ?_; intro y5 hM hP; have hb : Below wr.heap.size wr y5 := hP.below (S2.below_new wr _) (Nat.le_refl _); have C_y5 : Hid (Below wr.heap.size wr y5) := Lib.hid (stepB C_wr.out hb); have O_y5 : Hid (BK 36 y5 (wr.heap.size) (oqC kd now nn m ma mc x xa xc)) := Lib.hid hM; clear hM hP hb C_wr)
        obtain ⟨gO, hgO⟩ : ∃ b, b = wr.heap.size := ⟨_, rfl⟩
        have HGO : Hid (wr.heap.size ≤ gO) := Lib.hid (by rw [hgO]; exact Nat.le_refl _)
        rw [← hgO] at O_y5
        try rw [← hgO]
        have HGQ : Hid (gQ < wr.heap.size) := Lib.hid HQ.out.lt
        clear hgO HLD e3 j1 j2 hlk hlt
        have d0 := O_y5.out.cell 0 rfl
        by_cases k4 : kd = 4
        · have e1 : (kd == 4) = true := by simp [k4]
          clear k4
          obtain ⟨Ao, co, hvo, hco, heo⟩ := LN.of gE_len HU.out.1
          subst hvo
          have HCO := Lib.hid hco
          have HEO := Lib.hid heo
          have d2 := O_y5.out.cell 2 rfl
          have w1a : j ≤ 1000 := by have := HJ60.out; omega
          clear hco heo
          by_cases n0 : nn < 0
          · have q1 : decide (nn < 0) = true := decide_eq_true n0
            clear n0
            go_wp2
            go_roundg g
            case measure => omega
            case rel => exact ⟨j + 1, n, A1, c1, ys1, xs1, _, rfl, by have := HJ.out; omega, by go_num, HVAL.out, by have := HYL.out; omega, HEZ.out, HQ.out.step C_y5.out, HLQ.out.step C_y5.out, HC1.out, (HU.out.step C_y5.out).more C_y5.out.size, by have := HXL.out; omega, HXZ.out, stepB HBB.out C_y5.out, Nat.le_trans HZZ.out C_y5.out.size⟩
          by_cases n1 : (xs1.length : Int) ≤ nn
          · have q1 : decide (nn < 0) = false := decide_eq_false n0
            have q2 : decide (nn ≥ (xs1.length : Int)) = true := decide_eq_true n1
            have q3 : decide ((xs1.length : Int) ≤ nn) = true := decide_eq_true n1
            clear n0 n1
            go_wp2
            go_roundg g
            case measure => omega
            case rel => exact ⟨j + 1, n, A1, c1, ys1, xs1, _, rfl, by have := HJ.out; omega, by go_num, HVAL.out, by have := HYL.out; omega, HEZ.out, HQ.out.step C_y5.out, HLQ.out.step C_y5.out, HC1.out, (HU.out.step C_y5.out).more C_y5.out.size, by have := HXL.out; omega, HXZ.out, stepB HBB.out C_y5.out, Nat.le_trans HZZ.out C_y5.out.size⟩
          obtain ⟨k, hk⟩ : ∃ k : Nat, nn = (k : Int) := ⟨nn.toNat, by omega⟩
          subst hk
          have hkx : k < xs1.length := by omega
          obtain ⟨i, hi⟩ : ∃ i : Nat, i = xs1.length - 1 - k := ⟨_, rfl⟩
          have hix : i < xs1.length := by omega
          have hsb : (xs1.length : Int) - 1 - (k : Int) = (i : Int) := by omega
          have q1 : decide ((k : Int) < 0) = false := decide_eq_false (by omega)
          have q2 : decide ((k : Int) ≥ (xs1.length : Int)) = false := decide_eq_false (by omega)
          have q3 : decide ((xs1.length : Int) ≤ (k : Int)) = false := decide_eq_false (by omega)
          have q4 : ¬ xs1.length ≤ k := by omega
          have q5 : decide (xs1.length ≤ k) = false := decide_eq_false q4
          have hw1 : IntKind.i64.wrap ((xs1.length : Int) - 1) = (xs1.length : Int) - 1 := by rw [IntKind.wrap_i64]; have h1 := HXL.out; have h2 := HJ60.out; omega
          have hw2 : wrap64 ((xs1.length : Int) - 1) = (xs1.length : Int) - 1 := wrap64_id _ (by omega) (by have h1 := HXL.out; have h2 := HJ60.out; omega)
          have hw3 : IntKind.i64.wrap ((xs1.length : Int) - 1 - (k : Int)) = (i : Int) := by rw [hsb, IntKind.wrap_i64]; have h1 := HXL.out; have h2 := HJ60.out; omega
          have hw4 : wrap64 ((xs1.length : Int) - 1 - (k : Int)) = (i : Int) := by rw [hsb]; exact wrap64_id _ (by omega) (by have h1 := HXL.out; have h2 := HJ60.out; omega)
          have HIX := Lib.hid hix
          clear n0 n1 hkx hi hix hsb w1a
          go_upto_region 10 with fail
          clear q1 q2 q3 q4 q5 hw1 hw2 hw3 hw4 d0 d2 e1
          obtain ⟨z, hz⟩ : ∃ z, xs1[i]? = some z := ⟨_, List.getElem?_eq_getElem HIX.out⟩
          obtain ⟨bo, oo, hAo, _, hzc, hzpl⟩ := HEO.out.1.at_ hz
          have HZL : Hid (∀ w', Below wr.heap.size wr w' → (loadVar 34 ⟨bo, oo + i * 12, none⟩).run Tryd.prog w' = .ok (.agg (gE z).toArray) w') := Lib.hid (fun w' h' => by
            obtain ⟨p', o2, hA', _, hcl', _⟩ := LI.at_ (HEO.out.1.step h') hz
            rw [hAo] at hA'
            simp only [Option.some.injEq, Addr.mk.injEq, and_true] at hA'
            obtain ⟨rfl, rfl⟩ := hA'
            exact load_ent hcl')
          have HZP : Hid (PL wr wr.heap.size z.a z.x.m.props) := Lib.hid hzpl
          have HZE : Hid (EzY z.x) := Lib.hid (HXZ.out z (List.mem_of_getElem? hz))
          subst hAo
          have zn2 : (i : Int) < (xs1.length : Int) := by have := HIX.out; omega
          have zn3 : (0 : Int) ≤ (i : Int) := by omega
          have zn4 : i ≤ 1000000 := by have h0 := HIX.out; have h1 := HXL.out; have h2 := HJ60.out; omega
          clear hzc hzpl hz
          obtain ⟨y6, hy6⟩ : ∃ y6, y6 = World.drew y5 := ⟨_, rfl⟩
          have hbD : Below y5.heap.size y5 y6 := by rw [hy6]; exact (Below.refl _ _).drew
          have C_y6 : Hid (Below wr.heap.size wr y6) := Lib.hid (stepB C_y5.out hbD)
          have O_y6 : Hid (BK 36 y6 gO (oqC kd now (k : Int) m ma mc x xa xc)) := Lib.hid (O_y5.out.step hbD)
          clear C_y5 O_y5
          have hbd : (fun w' => Below wr.heap.size wr w') (World.drew y5) := by rw [← hy6]; exact C_y6.out
          have hSD : (fun w' => Below wr.heap.size wr w') y6 := C_y6.out
          have HWD := Lib.hid hy6
          clear hy6 hbD
          refine wp_region_held_drew (S := fun w' => Below wr.heap.size wr w') (by kernel_rfl) hbd (fun hHeld => ?_)
          rw [← HWD.out]
          clear hHeld
          have hHeld := hSD
          clear hSD hbd HWD
          refine wpAnyH_take (i := 0) (v := (.slice (some ⟨bo, oo, none⟩) xs1.length co)) (get_ops _ _ _ rfl) (by kernel_rfl) (by kernel_rfl) (by kernel_rfl) (fun _ _ _ h => h) (Or.inl ⟨by rfl, fun wS hSw => by (try dsimp only at hSw); go_simp⟩) hHeld ?_
          try simp only [Act.put, List.setIfInBounds_toArray, List.set_cons_zero, List.set_cons_succ]
          refine wpAnyH_take (i := 1) (v := (.int .i64 (i : Int))) (get_ops _ _ _ rfl) (by kernel_rfl) (by kernel_rfl) (by kernel_rfl) (fun _ _ _ h => h) (Or.inl ⟨by rfl, fun wS hSw => by (try dsimp only at hSw); go_simp⟩) hHeld ?_
          try simp only [Act.put, List.setIfInBounds_toArray, List.set_cons_zero, List.set_cons_succ]
          refine wpAnyH_take (i := 2) (v := (.pointer (some ⟨bo, oo + i * 12, none⟩))) (get_ops _ _ _ rfl) (by kernel_rfl) (by kernel_rfl) (by kernel_rfl) (fun _ _ _ h => h) (Or.inl ⟨by rfl, fun wS hSw => by (try dsimp only at hSw); go_simp⟩) hHeld ?_
          try simp only [Act.put, List.setIfInBounds_toArray, List.set_cons_zero, List.set_cons_succ]
          refine wpAnyH_take (i := 3) (v := (.agg (gE z).toArray)) (get_ops _ _ _ rfl) (by kernel_rfl) (by kernel_rfl) (by kernel_rfl) (fun _ _ _ h => h) (Or.inl ⟨by rfl, fun wS hSw => by (try dsimp only at hSw); exact exec_load 34 _ rfl ⟨bo, oo + i * 12, none⟩ (by go_simp) _ (HZL.out wS hSw)⟩) hHeld ?_
          try simp only [Act.put, List.setIfInBounds_toArray, List.set_cons_zero, List.set_cons_succ]
          refine wpAnyH_take (i := 4) (v := (.pointer (some ⟨gO, 0, none⟩))) (get_ops _ _ _ rfl) (by kernel_rfl) (by kernel_rfl) (by kernel_rfl) (fun _ _ _ h => h) (Or.inl ⟨by rfl, fun wS hSw => by (try dsimp only at hSw); go_simp⟩) hHeld ?_
          try simp only [Act.put, List.setIfInBounds_toArray, List.set_cons_zero, List.set_cons_succ]
          refine wpAnyH_ready (rs := [5]) (by kernel_rfl) (by simp) ?_
          refine (AllReadyH.cons (get_ops _ _ _ rfl) (fun K hK => ?_) AllReadyH.nil)
          refine wp_store 3 _ _ rfl rfl ⟨gO, 0, none⟩ (by go_simp) (.int .i64 2) (by first | rfl | go_simp) _ (run_store_part y6 gO 0 1 36 3 (oqC kd now (k : Int) m ma mc x xa xc) [.int .i64 2] _ rfl rfl (by kernel_rfl) O_y6.out (by show 0 + 1 ≤ 24; decide) (ones rfl)) ?_
          have hM : BK 36 (y6.setRow gO (putC (oqC kd now (k : Int) m ma mc x xa xc) 0 [.int .i64 2]).toArray) gO (oqC 2 now (k : Int) m ma mc x xa xc) := MT.put O_y6.out 0 [.int .i64 2]
          have hP := S2.put_row y6 gO (putC (oqC kd now (k : Int) m ma mc x xa xc) 0 [.int .i64 2]).toArray
          refine name_world (C := fun w9 => K _ w9) _ ?_
          intro y7 hy7
          rw [← hy7] at hM hP
          clear hy7
          have O_y7 : Hid (BK 36 y7 gO (oqC 2 now (k : Int) m ma mc x xa xc)) := Lib.hid (hM)
          have C_y7 : Hid (Below wr.heap.size wr y7) := Lib.hid (hP.below C_y6.out HGO.out)
          clear C_y6 O_y6
          clear hM hP hHeld
          refine hK.out _ _ C_y7.out (fun hHeld => ?_)
          clear hK K
          try simp only [Act.put, List.setIfInBounds_toArray, List.set_cons_zero, List.set_cons_succ]
          refine wpAnyH_take (i := 6) (v := (.pointer (some ⟨gO, 12, none⟩))) (get_ops _ _ _ rfl) (by kernel_rfl) (by kernel_rfl) (by kernel_rfl) (fun _ _ _ h => h) (Or.inl ⟨by rfl, fun wS hSw => by (try dsimp only at hSw); go_simp⟩) hHeld ?_
          try simp only [Act.put, List.setIfInBounds_toArray, List.set_cons_zero, List.set_cons_succ]
          refine wpAnyH_ready (rs := [7]) (by kernel_rfl) (by simp) ?_
          refine (AllReadyH.cons (get_ops _ _ _ rfl) (fun K hK => ?_) AllReadyH.nil)
          refine wp_store 34 _ _ rfl rfl ⟨gO, 12, none⟩ (by go_simp) (.agg (gE z).toArray) (by first | rfl | go_simp) _ (run_store_part y7 gO 12 12 36 34 (oqC 2 now (k : Int) m ma mc x xa xc) (gE z) _ rfl rfl (by kernel_rfl) O_y7.out (by show 12 + 12 ≤ 24; decide) (ones rfl)) ?_
          have hM : BK 36 (y7.setRow gO (putC (oqC 2 now (k : Int) m ma mc x xa xc) 12 (gE z)).toArray) gO (oqC 2 now (k : Int) m ma mc z.x z.a z.c) := MT.put O_y7.out 12 (gE z)
          have hP := S2.put_row y7 gO (putC (oqC 2 now (k : Int) m ma mc x xa xc) 12 (gE z)).toArray
          refine name_world (C := fun w9 => K _ w9) _ ?_
          intro y8 hy8
          rw [← hy8] at hM hP
          clear hy8
          have O_y8 : Hid (BK 36 y8 gO (oqC 2 now (k : Int) m ma mc z.x z.a z.c)) := Lib.hid (hM)
          have C_y8 : Hid (Below wr.heap.size wr y8) := Lib.hid (hP.below C_y7.out HGO.out)
          clear C_y7 O_y7
          clear hM hP hHeld
          refine hK.out _ _ C_y8.out (fun hHeld => ?_)
          clear hK K
          try simp only [Act.put, List.setIfInBounds_toArray, List.set_cons_zero, List.set_cons_succ]
          refine wpAnyH_done (by kernel_rfl) ?_ _
          clear zn2 zn3 zn4
          go_upto_region 11 with fail
          go_wp2_with first
            | (refine wpList_load_v (by rfl) 26 (.tmp 2) rfl ⟨gQ, 0, none⟩ rfl (.agg (quC s n (.slice A1 ys1.length c1)).toArray) (load_qu (HQ.out.step C_y8.out)) ?_)
            | (refine wpList_load_v (by rfl) 36 (.tmp 7) rfl ⟨gO, 0, none⟩ rfl (.agg (oqC 2 now (k : Int) m ma mc z.x z.a z.c).toArray) (S2.run_load_all O_y8.out Tryd.underlying36 rfl oqSize2) ?_)
          have hstp := step_any s n A1 c1 ys1 2 now (k : Int) m ma mc z.x z.a z.c y8 (HO.out.step (stepB HBB.out C_y8.out)) ((HLQ.out.step C_y8.out).ei (HS.out.step (stepB HBB.out C_y8.out))) HC1.out HVAL.out (by have h1 := HYL.out; have h2 := HJ60.out; omega) HEZ.out (GL.step HP.out C_y8.out) (GL.step HZP.out C_y8.out) HMZ.out.1 HMZ.out.2 HZE.out
          unfold RetSt quV at hstp
          have HSZ : Hid (wr.heap.size ≤ y8.heap.size) := Lib.hid C_y8.out.size
          have HSTP := Lib.hid hstp
          clear hstp
          clear O_y8
          go_wp2_with fail
          refine (HSTP.out).mono ?_
          rintro e y9 ⟨n9, A9, c9, ys9, vx, xs9, rfl, hval, hle, hez, hc9, hei, hos, hb⟩
          have C_y9 : Hid (Below wr.heap.size wr y9) := Lib.hid (stepB C_y8.out hb)
          clear C_y8
          have HV9 := Lib.hid hval
          have HLE9 := Lib.hid hle
          have HEZ9 := Lib.hid hez
          have HC9 := Lib.hid hc9
          have Y_y9 : Hid (y8.heap.size ≤ y9.heap.size) := Lib.hid hb.size
          clear hval hle hez hc9
          clear hb
          clear HSTP
          have HBP : Hid (gQ < y8.heap.size) := Lib.hid (Nat.lt_of_lt_of_le HGQ.out HSZ.out)
          rcases hos with ⟨rfl, rfl⟩ | ⟨b9, ye, rfl, rfl, hX, hb9, hpn, hzy⟩
          · rcases hei with hen | ⟨rfl, rfl, _⟩
            · have L_y9 : Hid (EN y9 y8.heap.size A9 ys9) := Lib.hid (hen)
              clear hen
              go_upto_region 14 with first
                | (refine S2.wpList_store_all (by rfl) 26 (.tmp 9) (.tmp 56) rfl rfl (y9.heap.size) rfl (quC s n9 (.slice A9 ys9.length c9)) rfl 26 _ (BK.new y9 _ _) quSize rfl (ones rfl) ?_; intro y10 hM hP; have hb : Below y9.heap.size y9 y10 := hP.below (S2.below_new y9 _) (Nat.le_refl _); have C_y10 : Hid (Below wr.heap.size wr y10) := Lib.hid (stepB C_y9.out hb); have Y_y10 : Hid (y8.heap.size ≤ y10.heap.size) := Lib.hid (Nat.le_trans Y_y9.out hb.size); have L_y10 : Hid (EN y10 y8.heap.size A9 ys9) := Lib.hid (LN.step L_y9.out hb); have T_y10 : Hid (BK 26 y10 (y9.heap.size) (quC s n9 (.slice A9 ys9.length c9))) := Lib.hid hM; clear hM hP hb C_y9 Y_y9 L_y9)
              obtain ⟨g9, hg9⟩ : ∃ b, b = y9.heap.size := ⟨_, rfl⟩
              rw [← hg9] at T_y10
              try rw [← hg9]
              clear hg9
              have Q_y10 : Hid (BK 26 y10 gQ (quC s n (.slice A1 ys1.length c1))) := Lib.hid (HQ.out.step C_y10.out)
              have U_y10 : Hid (OwL B0 wr.heap.size y10 (.slice (some ⟨bo, oo, none⟩) xs1.length co) xs1) := Lib.hid (HU.out.step C_y10.out)
              have B_y10 : Hid (Below w.heap.size w y10) := Lib.hid (stepB HBB.out C_y10.out)
              have Z_y10 : Hid (wr.heap.size ≤ y10.heap.size) := Lib.hid (C_y10.out.size)
              clear C_y10
              go_upto_region 15 with first
                | (refine wpList_load_v (by rfl) 26 (.tmp 9) rfl ⟨g9, 0, none⟩ rfl (.agg (quC s n9 (.slice A9 ys9.length c9)).toArray) (load_qu T_y10.out) ?_)
                | (refine S2.wpList_store_all (by rfl) 26 (.tmp 2) (.tmp 61) rfl rfl (gQ) rfl (quC s n9 (.slice A9 ys9.length c9)) rfl 26 _ Q_y10.out quSize rfl (ones rfl) ?_; intro y11 hM hP; have Q_y11 : Hid (BK 26 y11 (gQ) (quC s n9 (.slice A9 ys9.length c9))) := Lib.hid hM; have Y_y11 : Hid (y8.heap.size ≤ y11.heap.size) := Lib.hid (by have h9 := hP.size; have h8 := Y_y10.out; omega); have L_y11 : Hid (EN y11 y8.heap.size A9 ys9) := Lib.hid (LN.put L_y10.out hP HBP.out); have U_y11 : Hid (OwL B0 wr.heap.size y11 (.slice (some ⟨bo, oo, none⟩) xs1.length co) xs1) := Lib.hid (OwL.put U_y10.out hP HGB.out); have B_y11 : Hid (Below w.heap.size w y11) := Lib.hid (hP.below B_y10.out HWQ.out); have Z_y11 : Hid (wr.heap.size ≤ y11.heap.size) := Lib.hid (by have h9 := hP.size; have h8 := Z_y10.out; omega); clear hM hP Y_y10 L_y10 T_y10 Q_y10 U_y10 B_y10 Z_y10)
              have w1a : j ≤ 1000 := by have := HJ60.out; omega
              go_wp2_with first
                | (at_builtin; refine wpList_none y11 rfl _ _ rfl (.slice (some ⟨bo, oo, none⟩) xs1.length co) xs1 (by rfl) U_y11.out (by rfl) ?_)
              go_roundg g
              case measure => omega
              case rel => exact ⟨j + 1, n9, A9, c9, ys9, xs1, _, rfl, by have := HJ.out; omega, by go_num, HV9.out, by have h1 := HLE9.out; have h2 := HYL.out; omega, HEZ9.out, Q_y11.out, Or.inl (L_y11.out.weak (Nat.le_trans HZZ.out HSZ.out)), HC9.out, U_y11.out.more Z_y11.out, by have := HXL.out; omega, HXZ.out, B_y11.out, Nat.le_trans HZZ.out Z_y11.out⟩
            · have L_y9 : Hid (LQ B0 A l y9 A9 ys9) := Lib.hid (HLQ.out.step C_y9.out)
              go_upto_region 14 with first
                | (refine S2.wpList_store_all (by rfl) 26 (.tmp 9) (.tmp 56) rfl rfl (y9.heap.size) rfl (quC s n9 (.slice A9 ys9.length c9)) rfl 26 _ (BK.new y9 _ _) quSize rfl (ones rfl) ?_; intro y12 hM hP; have hb : Below y9.heap.size y9 y12 := hP.below (S2.below_new y9 _) (Nat.le_refl _); have C_y12 : Hid (Below wr.heap.size wr y12) := Lib.hid (stepB C_y9.out hb); have Y_y12 : Hid (y8.heap.size ≤ y12.heap.size) := Lib.hid (Nat.le_trans Y_y9.out hb.size); have L_y12 : Hid (LQ B0 A l y12 A9 ys9) := Lib.hid (LQ.step L_y9.out hb); have T_y12 : Hid (BK 26 y12 (y9.heap.size) (quC s n9 (.slice A9 ys9.length c9))) := Lib.hid hM; clear hM hP hb C_y9 Y_y9 L_y9)
              obtain ⟨g9, hg9⟩ : ∃ b, b = y9.heap.size := ⟨_, rfl⟩
              rw [← hg9] at T_y12
              try rw [← hg9]
              clear hg9
              have Q_y12 : Hid (BK 26 y12 gQ (quC s n (.slice A9 ys9.length c1))) := Lib.hid (HQ.out.step C_y12.out)
              have U_y12 : Hid (OwL B0 wr.heap.size y12 (.slice (some ⟨bo, oo, none⟩) xs1.length co) xs1) := Lib.hid (HU.out.step C_y12.out)
              have B_y12 : Hid (Below w.heap.size w y12) := Lib.hid (stepB HBB.out C_y12.out)
              have Z_y12 : Hid (wr.heap.size ≤ y12.heap.size) := Lib.hid (C_y12.out.size)
              clear C_y12
              go_upto_region 15 with first
                | (refine wpList_load_v (by rfl) 26 (.tmp 9) rfl ⟨g9, 0, none⟩ rfl (.agg (quC s n9 (.slice A9 ys9.length c9)).toArray) (load_qu T_y12.out) ?_)
                | (refine S2.wpList_store_all (by rfl) 26 (.tmp 2) (.tmp 61) rfl rfl (gQ) rfl (quC s n9 (.slice A9 ys9.length c9)) rfl 26 _ Q_y12.out quSize rfl (ones rfl) ?_; intro y13 hM hP; have Q_y13 : Hid (BK 26 y13 (gQ) (quC s n9 (.slice A9 ys9.length c9))) := Lib.hid hM; have Y_y13 : Hid (y8.heap.size ≤ y13.heap.size) := Lib.hid (by have h9 := hP.size; have h8 := Y_y12.out; omega); have L_y13 : Hid (LQ B0 A l y13 A9 ys9) := Lib.hid (LQ.put L_y12.out hP HGB.out); have U_y13 : Hid (OwL B0 wr.heap.size y13 (.slice (some ⟨bo, oo, none⟩) xs1.length co) xs1) := Lib.hid (OwL.put U_y12.out hP HGB.out); have B_y13 : Hid (Below w.heap.size w y13) := Lib.hid (hP.below B_y12.out HWQ.out); have Z_y13 : Hid (wr.heap.size ≤ y13.heap.size) := Lib.hid (by have h9 := hP.size; have h8 := Z_y12.out; omega); clear hM hP Y_y12 L_y12 T_y12 Q_y12 U_y12 B_y12 Z_y12)
              have w1a : j ≤ 1000 := by have := HJ60.out; omega
              go_wp2_with first
                | (at_builtin; refine wpList_none y13 rfl _ _ rfl (.slice (some ⟨bo, oo, none⟩) xs1.length co) xs1 (by rfl) U_y13.out (by rfl) ?_)
              go_roundg g
              case measure => omega
              case rel => exact ⟨j + 1, n9, A9, c9, ys9, xs1, _, rfl, by have := HJ.out; omega, by go_num, HV9.out, by have h1 := HLE9.out; have h2 := HYL.out; omega, HEZ9.out, Q_y13.out, L_y13.out, HC9.out, U_y13.out.more Z_y13.out, by have := HXL.out; omega, HXZ.out, B_y13.out, Nat.le_trans HZZ.out Z_y13.out⟩
          · rcases hei with hen | ⟨_, _, h9⟩
            · have L_y9 : Hid (EN y9 y8.heap.size A9 ys9) := Lib.hid (hen)
              have X_y9 : Hid (BK 34 y9 b9 (gE ye)) := Lib.hid (hX)
              have P_y9 : Hid (PN y9 y8.heap.size ye.a ye.x.m.props) := Lib.hid (hpn)
              have HB9 := Lib.hid hb9
              have HZ9 := Lib.hid hzy
              clear hen hX hpn hb9 hzy
              go_upto_region 14 with first
                | (refine S2.wpList_store_all (by rfl) 26 (.tmp 9) (.tmp 56) rfl rfl (y9.heap.size) rfl (quC s n9 (.slice A9 ys9.length c9)) rfl 26 _ (BK.new y9 _ _) quSize rfl (ones rfl) ?_; intro y14 hM hP; have hb : Below y9.heap.size y9 y14 := hP.below (S2.below_new y9 _) (Nat.le_refl _); have C_y14 : Hid (Below wr.heap.size wr y14) := Lib.hid (stepB C_y9.out hb); have Y_y14 : Hid (y8.heap.size ≤ y14.heap.size) := Lib.hid (Nat.le_trans Y_y9.out hb.size); have L_y14 : Hid (EN y14 y8.heap.size A9 ys9) := Lib.hid (LN.step L_y9.out hb); have X_y14 : Hid (BK 34 y14 b9 (gE ye)) := Lib.hid (X_y9.out.step hb); have P_y14 : Hid (PN y14 y8.heap.size ye.a ye.x.m.props) := Lib.hid (PN.step P_y9.out hb); have T_y14 : Hid (BK 26 y14 (y9.heap.size) (quC s n9 (.slice A9 ys9.length c9))) := Lib.hid hM; clear hM hP hb C_y9 Y_y9 L_y9 X_y9 P_y9)
              obtain ⟨g9, hg9⟩ : ∃ b, b = y9.heap.size := ⟨_, rfl⟩
              rw [← hg9] at T_y14
              try rw [← hg9]
              clear hg9
              have Q_y14 : Hid (BK 26 y14 gQ (quC s n (.slice A1 ys1.length c1))) := Lib.hid (HQ.out.step C_y14.out)
              have U_y14 : Hid (OwL B0 wr.heap.size y14 (.slice (some ⟨bo, oo, none⟩) xs1.length co) xs1) := Lib.hid (HU.out.step C_y14.out)
              have B_y14 : Hid (Below w.heap.size w y14) := Lib.hid (stepB HBB.out C_y14.out)
              have Z_y14 : Hid (wr.heap.size ≤ y14.heap.size) := Lib.hid (C_y14.out.size)
              clear C_y14
              go_upto_region 15 with first
                | (refine wpList_load_v (by rfl) 26 (.tmp 9) rfl ⟨g9, 0, none⟩ rfl (.agg (quC s n9 (.slice A9 ys9.length c9)).toArray) (load_qu T_y14.out) ?_)
                | (refine S2.wpList_store_all (by rfl) 26 (.tmp 2) (.tmp 61) rfl rfl (gQ) rfl (quC s n9 (.slice A9 ys9.length c9)) rfl 26 _ Q_y14.out quSize rfl (ones rfl) ?_; intro y15 hM hP; have Q_y15 : Hid (BK 26 y15 (gQ) (quC s n9 (.slice A9 ys9.length c9))) := Lib.hid hM; have Y_y15 : Hid (y8.heap.size ≤ y15.heap.size) := Lib.hid (by have h9 := hP.size; have h8 := Y_y14.out; omega); have L_y15 : Hid (EN y15 y8.heap.size A9 ys9) := Lib.hid (LN.put L_y14.out hP HBP.out); have X_y15 : Hid (BK 34 y15 b9 (gE ye)) := Lib.hid (hP.other X_y14.out (by have h1 := HB9.out; have h2 := HBP.out; omega)); have P_y15 : Hid (PN y15 y8.heap.size ye.a ye.x.m.props) := Lib.hid (PN.put P_y14.out hP HBP.out); have U_y15 : Hid (OwL B0 wr.heap.size y15 (.slice (some ⟨bo, oo, none⟩) xs1.length co) xs1) := Lib.hid (OwL.put U_y14.out hP HGB.out); have B_y15 : Hid (Below w.heap.size w y15) := Lib.hid (hP.below B_y14.out HWQ.out); have Z_y15 : Hid (wr.heap.size ≤ y15.heap.size) := Lib.hid (by have h9 := hP.size; have h8 := Z_y14.out; omega); clear hM hP Y_y14 L_y14 X_y14 P_y14 T_y14 Q_y14 U_y14 B_y14 Z_y14)
              have w1a : j ≤ 1000 := by have := HJ60.out; omega
              have HYP : Hid (y8.heap.size ≤ y15.heap.size) := Lib.hid Y_y15.out
              go_wp2_with first
                | (at_builtin; refine wpList_oneX (B := B0) (N := wr.heap.size) (Bp := y8.heap.size) y15 rfl _ _ rfl (.slice (some ⟨bo, oo, none⟩) xs1.length co) xs1 ye (by rfl) U_y15.out (by rfl) X_y15.out P_y15.out.1 P_y15.out.2 HZZ.out HSZ.out HYP.out (by have h1 := HXL.out; have h2 := HJ60.out; omega) ?_; intro v9 w9 hO hK hsz; have U_v9 := Lib.hid hO; have Q_v9 : Hid (BK 26 w9 (gQ) (quC s n9 (.slice A9 ys9.length c9))) := Lib.hid (hK.bk Q_y15.out (Or.inl HGB.out)); have L_v9 : Hid (EN w9 y8.heap.size A9 ys9) := Lib.hid (hK.en L_y15.out); have B_v9 : Hid (Below w.heap.size w w9) := Lib.hid (hK.below B_y15.out HWB.out); have Z_v9 : Hid (wr.heap.size ≤ w9.heap.size) := Lib.hid (Nat.le_trans Z_y15.out hsz); clear hO hK hsz)
              go_roundg g
              case measure => omega
              case rel => exact ⟨j + 1, n9, A9, c9, ys9, xs1 ++ [ye], _, rfl, by have := HJ.out; omega, by go_num, HV9.out, by have h1 := HLE9.out; have h2 := HYL.out; omega, HEZ9.out, Q_v9.out, Or.inl (L_v9.out.weak (Nat.le_trans HZZ.out HSZ.out)), HC9.out, U_v9.out, by rw [List.length_append]; have := HXL.out; simp; omega, (fun y hy => (List.mem_append.1 hy).elim (fun h => HXZ.out y h) (fun h => by rw [List.mem_singleton] at h; rw [h]; exact HZ9.out)), B_v9.out, Nat.le_trans HZZ.out Z_v9.out⟩
            cases h9
        have e1 : (kd == 4) = false := by simpa using k4
        clear k4
        go_upto_region 11 with fail
        clear d0 e1
        go_wp2_with first
          | (refine wpList_load_v (by rfl) 26 (.tmp 2) rfl ⟨gQ, 0, none⟩ rfl (.agg (quC s n (.slice A1 ys1.length c1)).toArray) (load_qu (HQ.out.step C_y5.out)) ?_)
          | (refine wpList_load_v (by rfl) 36 (.tmp 7) rfl ⟨gO, 0, none⟩ rfl (.agg (oqC kd now nn m ma mc x xa xc).toArray) (S2.run_load_all O_y5.out Tryd.underlying36 rfl oqSize2) ?_)
        have hstp := step_any s n A1 c1 ys1 kd now nn m ma mc x xa xc y5 (HO.out.step (stepB HBB.out C_y5.out)) ((HLQ.out.step C_y5.out).ei (HS.out.step (stepB HBB.out C_y5.out))) HC1.out HVAL.out (by have h1 := HYL.out; have h2 := HJ60.out; omega) HEZ.out (GL.step HP.out C_y5.out) (HPX.out _ (stepB HBB.out C_y5.out)) HMZ.out.1 HMZ.out.2 HXE.out
        unfold RetSt quV at hstp
        have HSZ : Hid (wr.heap.size ≤ y5.heap.size) := Lib.hid C_y5.out.size
        have HSTP := Lib.hid hstp
        clear hstp
        clear O_y5
        go_wp2_with fail
        refine (HSTP.out).mono ?_
        rintro e y7 ⟨n9, A9, c9, ys9, vx, xs9, rfl, hval, hle, hez, hc9, hei, hos, hb⟩
        have C_y7 : Hid (Below wr.heap.size wr y7) := Lib.hid (stepB C_y5.out hb)
        clear C_y5
        have HV9 := Lib.hid hval
        have HLE9 := Lib.hid hle
        have HEZ9 := Lib.hid hez
        have HC9 := Lib.hid hc9
        have Y_y7 : Hid (y5.heap.size ≤ y7.heap.size) := Lib.hid hb.size
        clear hval hle hez hc9
        clear hb
        clear HSTP
        have HBP : Hid (gQ < y5.heap.size) := Lib.hid (Nat.lt_of_lt_of_le HGQ.out HSZ.out)
        rcases hos with ⟨rfl, rfl⟩ | ⟨b9, ye, rfl, rfl, hX, hb9, hpn, hzy⟩
        · rcases hei with hen | ⟨rfl, rfl, _⟩
          · have L_y7 : Hid (EN y7 y5.heap.size A9 ys9) := Lib.hid (hen)
            clear hen
            go_upto_region 14 with first
              | (refine S2.wpList_store_all (by rfl) 26 (.tmp 9) (.tmp 56) rfl rfl (y7.heap.size) rfl (quC s n9 (.slice A9 ys9.length c9)) rfl 26 _ (BK.new y7 _ _) quSize rfl (ones rfl) ?_; intro y8 hM hP; have hb : Below y7.heap.size y7 y8 := hP.below (S2.below_new y7 _) (Nat.le_refl _); have C_y8 : Hid (Below wr.heap.size wr y8) := Lib.hid (stepB C_y7.out hb); have Y_y8 : Hid (y5.heap.size ≤ y8.heap.size) := Lib.hid (Nat.le_trans Y_y7.out hb.size); have L_y8 : Hid (EN y8 y5.heap.size A9 ys9) := Lib.hid (LN.step L_y7.out hb); have T_y8 : Hid (BK 26 y8 (y7.heap.size) (quC s n9 (.slice A9 ys9.length c9))) := Lib.hid hM; clear hM hP hb C_y7 Y_y7 L_y7)
            obtain ⟨g9, hg9⟩ : ∃ b, b = y7.heap.size := ⟨_, rfl⟩
            rw [← hg9] at T_y8
            try rw [← hg9]
            clear hg9
            have Q_y8 : Hid (BK 26 y8 gQ (quC s n (.slice A1 ys1.length c1))) := Lib.hid (HQ.out.step C_y8.out)
            have U_y8 : Hid (OwL B0 wr.heap.size y8 vo xs1) := Lib.hid (HU.out.step C_y8.out)
            have B_y8 : Hid (Below w.heap.size w y8) := Lib.hid (stepB HBB.out C_y8.out)
            have Z_y8 : Hid (wr.heap.size ≤ y8.heap.size) := Lib.hid (C_y8.out.size)
            clear C_y8
            go_upto_region 15 with first
              | (refine wpList_load_v (by rfl) 26 (.tmp 9) rfl ⟨g9, 0, none⟩ rfl (.agg (quC s n9 (.slice A9 ys9.length c9)).toArray) (load_qu T_y8.out) ?_)
              | (refine S2.wpList_store_all (by rfl) 26 (.tmp 2) (.tmp 61) rfl rfl (gQ) rfl (quC s n9 (.slice A9 ys9.length c9)) rfl 26 _ Q_y8.out quSize rfl (ones rfl) ?_; intro y9 hM hP; have Q_y9 : Hid (BK 26 y9 (gQ) (quC s n9 (.slice A9 ys9.length c9))) := Lib.hid hM; have Y_y9 : Hid (y5.heap.size ≤ y9.heap.size) := Lib.hid (by have h9 := hP.size; have h8 := Y_y8.out; omega); have L_y9 : Hid (EN y9 y5.heap.size A9 ys9) := Lib.hid (LN.put L_y8.out hP HBP.out); have U_y9 : Hid (OwL B0 wr.heap.size y9 vo xs1) := Lib.hid (OwL.put U_y8.out hP HGB.out); have B_y9 : Hid (Below w.heap.size w y9) := Lib.hid (hP.below B_y8.out HWQ.out); have Z_y9 : Hid (wr.heap.size ≤ y9.heap.size) := Lib.hid (by have h9 := hP.size; have h8 := Z_y8.out; omega); clear hM hP Y_y8 L_y8 T_y8 Q_y8 U_y8 B_y8 Z_y8)
            have w1a : j ≤ 1000 := by have := HJ60.out; omega
            go_wp2_with first
              | (at_builtin; refine wpList_none y9 rfl _ _ rfl vo xs1 (by rfl) U_y9.out (by rfl) ?_)
            go_roundg g
            case measure => omega
            case rel => exact ⟨j + 1, n9, A9, c9, ys9, xs1, _, rfl, by have := HJ.out; omega, by go_num, HV9.out, by have h1 := HLE9.out; have h2 := HYL.out; omega, HEZ9.out, Q_y9.out, Or.inl (L_y9.out.weak (Nat.le_trans HZZ.out HSZ.out)), HC9.out, U_y9.out.more Z_y9.out, by have := HXL.out; omega, HXZ.out, B_y9.out, Nat.le_trans HZZ.out Z_y9.out⟩
          · have L_y7 : Hid (LQ B0 A l y7 A9 ys9) := Lib.hid (HLQ.out.step C_y7.out)
            go_upto_region 14 with first
              | (refine S2.wpList_store_all (by rfl) 26 (.tmp 9) (.tmp 56) rfl rfl (y7.heap.size) rfl (quC s n9 (.slice A9 ys9.length c9)) rfl 26 _ (BK.new y7 _ _) quSize rfl (ones rfl) ?_; intro y10 hM hP; have hb : Below y7.heap.size y7 y10 := hP.below (S2.below_new y7 _) (Nat.le_refl _); have C_y10 : Hid (Below wr.heap.size wr y10) := Lib.hid (stepB C_y7.out hb); have Y_y10 : Hid (y5.heap.size ≤ y10.heap.size) := Lib.hid (Nat.le_trans Y_y7.out hb.size); have L_y10 : Hid (LQ B0 A l y10 A9 ys9) := Lib.hid (LQ.step L_y7.out hb); have T_y10 : Hid (BK 26 y10 (y7.heap.size) (quC s n9 (.slice A9 ys9.length c9))) := Lib.hid hM; clear hM hP hb C_y7 Y_y7 L_y7)
            obtain ⟨g9, hg9⟩ : ∃ b, b = y7.heap.size := ⟨_, rfl⟩
            rw [← hg9] at T_y10
            try rw [← hg9]
            clear hg9
            have Q_y10 : Hid (BK 26 y10 gQ (quC s n (.slice A9 ys9.length c1))) := Lib.hid (HQ.out.step C_y10.out)
            have U_y10 : Hid (OwL B0 wr.heap.size y10 vo xs1) := Lib.hid (HU.out.step C_y10.out)
            have B_y10 : Hid (Below w.heap.size w y10) := Lib.hid (stepB HBB.out C_y10.out)
            have Z_y10 : Hid (wr.heap.size ≤ y10.heap.size) := Lib.hid (C_y10.out.size)
            clear C_y10
            go_upto_region 15 with first
              | (refine wpList_load_v (by rfl) 26 (.tmp 9) rfl ⟨g9, 0, none⟩ rfl (.agg (quC s n9 (.slice A9 ys9.length c9)).toArray) (load_qu T_y10.out) ?_)
              | (refine S2.wpList_store_all (by rfl) 26 (.tmp 2) (.tmp 61) rfl rfl (gQ) rfl (quC s n9 (.slice A9 ys9.length c9)) rfl 26 _ Q_y10.out quSize rfl (ones rfl) ?_; intro y11 hM hP; have Q_y11 : Hid (BK 26 y11 (gQ) (quC s n9 (.slice A9 ys9.length c9))) := Lib.hid hM; have Y_y11 : Hid (y5.heap.size ≤ y11.heap.size) := Lib.hid (by have h9 := hP.size; have h8 := Y_y10.out; omega); have L_y11 : Hid (LQ B0 A l y11 A9 ys9) := Lib.hid (LQ.put L_y10.out hP HGB.out); have U_y11 : Hid (OwL B0 wr.heap.size y11 vo xs1) := Lib.hid (OwL.put U_y10.out hP HGB.out); have B_y11 : Hid (Below w.heap.size w y11) := Lib.hid (hP.below B_y10.out HWQ.out); have Z_y11 : Hid (wr.heap.size ≤ y11.heap.size) := Lib.hid (by have h9 := hP.size; have h8 := Z_y10.out; omega); clear hM hP Y_y10 L_y10 T_y10 Q_y10 U_y10 B_y10 Z_y10)
            have w1a : j ≤ 1000 := by have := HJ60.out; omega
            go_wp2_with first
              | (at_builtin; refine wpList_none y11 rfl _ _ rfl vo xs1 (by rfl) U_y11.out (by rfl) ?_)
            go_roundg g
            case measure => omega
            case rel => exact ⟨j + 1, n9, A9, c9, ys9, xs1, _, rfl, by have := HJ.out; omega, by go_num, HV9.out, by have h1 := HLE9.out; have h2 := HYL.out; omega, HEZ9.out, Q_y11.out, L_y11.out, HC9.out, U_y11.out.more Z_y11.out, by have := HXL.out; omega, HXZ.out, B_y11.out, Nat.le_trans HZZ.out Z_y11.out⟩
        · rcases hei with hen | ⟨_, _, h9⟩
          · have L_y7 : Hid (EN y7 y5.heap.size A9 ys9) := Lib.hid (hen)
            have X_y7 : Hid (BK 34 y7 b9 (gE ye)) := Lib.hid (hX)
            have P_y7 : Hid (PN y7 y5.heap.size ye.a ye.x.m.props) := Lib.hid (hpn)
            have HB9 := Lib.hid hb9
            have HZ9 := Lib.hid hzy
            clear hen hX hpn hb9 hzy
            go_upto_region 14 with first
              | (refine S2.wpList_store_all (by rfl) 26 (.tmp 9) (.tmp 56) rfl rfl (y7.heap.size) rfl (quC s n9 (.slice A9 ys9.length c9)) rfl 26 _ (BK.new y7 _ _) quSize rfl (ones rfl) ?_; intro y12 hM hP; have hb : Below y7.heap.size y7 y12 := hP.below (S2.below_new y7 _) (Nat.le_refl _); have C_y12 : Hid (Below wr.heap.size wr y12) := Lib.hid (stepB C_y7.out hb); have Y_y12 : Hid (y5.heap.size ≤ y12.heap.size) := Lib.hid (Nat.le_trans Y_y7.out hb.size); have L_y12 : Hid (EN y12 y5.heap.size A9 ys9) := Lib.hid (LN.step L_y7.out hb); have X_y12 : Hid (BK 34 y12 b9 (gE ye)) := Lib.hid (X_y7.out.step hb); have P_y12 : Hid (PN y12 y5.heap.size ye.a ye.x.m.props) := Lib.hid (PN.step P_y7.out hb); have T_y12 : Hid (BK 26 y12 (y7.heap.size) (quC s n9 (.slice A9 ys9.length c9))) := Lib.hid hM; clear hM hP hb C_y7 Y_y7 L_y7 X_y7 P_y7)
            obtain ⟨g9, hg9⟩ : ∃ b, b = y7.heap.size := ⟨_, rfl⟩
            rw [← hg9] at T_y12
            try rw [← hg9]
            clear hg9
            have Q_y12 : Hid (BK 26 y12 gQ (quC s n (.slice A1 ys1.length c1))) := Lib.hid (HQ.out.step C_y12.out)
            have U_y12 : Hid (OwL B0 wr.heap.size y12 vo xs1) := Lib.hid (HU.out.step C_y12.out)
            have B_y12 : Hid (Below w.heap.size w y12) := Lib.hid (stepB HBB.out C_y12.out)
            have Z_y12 : Hid (wr.heap.size ≤ y12.heap.size) := Lib.hid (C_y12.out.size)
            clear C_y12
            go_upto_region 15 with first
              | (refine wpList_load_v (by rfl) 26 (.tmp 9) rfl ⟨g9, 0, none⟩ rfl (.agg (quC s n9 (.slice A9 ys9.length c9)).toArray) (load_qu T_y12.out) ?_)
              | (refine S2.wpList_store_all (by rfl) 26 (.tmp 2) (.tmp 61) rfl rfl (gQ) rfl (quC s n9 (.slice A9 ys9.length c9)) rfl 26 _ Q_y12.out quSize rfl (ones rfl) ?_; intro y13 hM hP; have Q_y13 : Hid (BK 26 y13 (gQ) (quC s n9 (.slice A9 ys9.length c9))) := Lib.hid hM; have Y_y13 : Hid (y5.heap.size ≤ y13.heap.size) := Lib.hid (by have h9 := hP.size; have h8 := Y_y12.out; omega); have L_y13 : Hid (EN y13 y5.heap.size A9 ys9) := Lib.hid (LN.put L_y12.out hP HBP.out); have X_y13 : Hid (BK 34 y13 b9 (gE ye)) := Lib.hid (hP.other X_y12.out (by have h1 := HB9.out; have h2 := HBP.out; omega)); have P_y13 : Hid (PN y13 y5.heap.size ye.a ye.x.m.props) := Lib.hid (PN.put P_y12.out hP HBP.out); have U_y13 : Hid (OwL B0 wr.heap.size y13 vo xs1) := Lib.hid (OwL.put U_y12.out hP HGB.out); have B_y13 : Hid (Below w.heap.size w y13) := Lib.hid (hP.below B_y12.out HWQ.out); have Z_y13 : Hid (wr.heap.size ≤ y13.heap.size) := Lib.hid (by have h9 := hP.size; have h8 := Z_y12.out; omega); clear hM hP Y_y12 L_y12 X_y12 P_y12 T_y12 Q_y12 U_y12 B_y12 Z_y12)
            have w1a : j ≤ 1000 := by have := HJ60.out; omega
            have HYP : Hid (y5.heap.size ≤ y13.heap.size) := Lib.hid Y_y13.out
            go_wp2_with first
              | (at_builtin; refine wpList_oneX (B := B0) (N := wr.heap.size) (Bp := y5.heap.size) y13 rfl _ _ rfl vo xs1 ye (by rfl) U_y13.out (by rfl) X_y13.out P_y13.out.1 P_y13.out.2 HZZ.out HSZ.out HYP.out (by have h1 := HXL.out; have h2 := HJ60.out; omega) ?_; intro v9 w9 hO hK hsz; have U_v9 := Lib.hid hO; have Q_v9 : Hid (BK 26 w9 (gQ) (quC s n9 (.slice A9 ys9.length c9))) := Lib.hid (hK.bk Q_y13.out (Or.inl HGB.out)); have L_v9 : Hid (EN w9 y5.heap.size A9 ys9) := Lib.hid (hK.en L_y13.out); have B_v9 : Hid (Below w.heap.size w w9) := Lib.hid (hK.below B_y13.out HWB.out); have Z_v9 : Hid (wr.heap.size ≤ w9.heap.size) := Lib.hid (Nat.le_trans Z_y13.out hsz); clear hO hK hsz)
            go_roundg g
            case measure => omega
            case rel => exact ⟨j + 1, n9, A9, c9, ys9, xs1 ++ [ye], _, rfl, by have := HJ.out; omega, by go_num, HV9.out, by have h1 := HLE9.out; have h2 := HYL.out; omega, HEZ9.out, Q_v9.out, Or.inl (L_v9.out.weak (Nat.le_trans HZZ.out HSZ.out)), HC9.out, U_v9.out, by rw [List.length_append]; have := HXL.out; simp; omega, (fun y hy => (List.mem_append.1 hy).elim (fun h => HXZ.out y h) (fun h => by rw [List.mem_singleton] at h; rw [h]; exact HZ9.out)), B_v9.out, Nat.le_trans HZZ.out Z_v9.out⟩
          cases h9

end Go.Proofs.YtjhojpghllnoiaaDoor
namespace Go.Proofs.YtjhojpghllnoiaaDoor.queuePlays
open Go.ChangeShapes Go.WideShapes Go.ChangeAt Go.WideMaps Go.WideElems Go.RowKit
open Go.ChangeMaps (open_string shut_string)

theorem own : ownKnob Tryd.prog.godebug = none := by kernel_rfl
theorem okw {W : World} (h : W.ShapedOpen Tryd.prog) : S1.Okw W := Tryd.laysM219.s1_3 W h

set_option maxRecDepth 100000 in
theorem contract (H : Type) (enc : TypeId × Value → H) (W : World) (base : Nat) (args : Array Value) (ds gs : List (DataW H)) (before : List MemPlace)
    (hval : ∀ (j : Nat) t v, Tryd.f3.params[j]? = some t → args[j]? = some v → Value.okWide Tryd.prog W .any base t v)
    (hW : DataW.Whole enc Tryd.prog Tryd.f3.params.toList Rows.queuePlaysSpec.vars false W args.toList ds gs before)
    (hsz : (DataW.weightsEach Tryd.prog (Tryd.f3.params.toList ++ (OpenSpec.ofChange Rows.queuePlaysSpec).bare.plain.varTypes Tryd.prog) (ds ++ gs)).all (· ≤ reachBytes) = true)
    (hsh : W.ShapedOpen Tryd.prog) :
    Calls Tryd.prog 3 args W fun e W' => ∃ v, e = .returned v ∧ Rows.queuePlaysSpec.post enc Tryd.prog Tryd.f3 false true false false W args v W' := by
  have hW' := hW
  obtain ⟨p, q, hA0, hV, rfl, hfz, hnd⟩ := hW
  have hA : DataW.TrodAll enc Tryd.prog W 0 (fun _ => true) true Tryd.f3.params.toList args.toList ds p := hA0
  rw [Tryd.params3] at hA hval
  obtain ⟨v0, vs0, d0, ds0, p0, q0, hargs, rfl, rfl, h0, r0⟩ := trodAll_cons hA
  obtain ⟨v1, vs1, d1, ds1, p1, q1, rfl, rfl, rfl, h1, r1⟩ := trodAll_cons r0
  obtain ⟨rfl, rfl, rfl⟩ := trodAll_nil r1
  obtain rfl : args = #[v0, v1] := by cases args; simp_all
  obtain ⟨rfl, rfl⟩ := trodVars_none hV
  have h0k := h0
  obtain ⟨S0, nq0, A0, c0, xs0, rfl, sz0, el0, lc0, wz0⟩ := open_qux (hval 0 26 v0 rfl rfl) h0
  have wl0 := wz0 (WB.of hsz (j := 0) rfl rfl)
  obtain ⟨a1, n1, c1, rfl⟩ := okWide_slice Tryd.underlying27 (hval 1 27 v1 rfl rfl)
  have h1k := h1
  obtain ⟨fu1, hf1⟩ := h1
  clear hA0
  simp only [List.append_nil] at hW'
  have hrb := reachBytes_lt
  have hlt : ∀ x ∈ p0 ++ p1, x.block < W.heap.size := fun x hx => by simpa using hW'.lt x (by simpa using hx)
  obtain ⟨X1, rfl, sl1, hc1, wz1⟩ := open_oqs hf1
  have wl1 := wz1 (WB.of hsz (j := 1) rfl rfl)
  refine (queuePlays_walk S0 nq0 A0 c0 xs0 a1 c1 X1 W (okw hsh) sz0 el0 lc0 wl0.2 sl1 wl1.2).mono fun e W' ⟨he, hb⟩ => ?_
  subst he
  have e1 : Rows.queuePlaysSpec.fn H ([d0, d1] ++ []) = { results := [.lit (.bool true)], args := [d0, d1] } := rfl
  refine ⟨_, rfl, _, _, _, [], p0 ++ p1, [], by simpa using hW', ?_, ?_, ?_, hb.frame _, fun h => by cases h⟩
  · exact trodAll_cons_mk (shut_bool Tryd.underlying4 _) trodAll_mk0
  · rw [e1]
    simpa using trodAll_cons_mk (Below.trod laidOutAll (by kernel_rfl) (of_decide_eq_true (by kernel_rfl)) h0k hb (fun x hx => hlt x (by simp [hx]))) (trodAll_cons_mk (Below.trod laidOutAll (by kernel_rfl) (of_decide_eq_true (by kernel_rfl)) h1k hb (fun x hx => hlt x (by simp [hx]))) (trodAll_mk0))
  · rfl

theorem laid_met (os : Os) : laidMet Tryd.prog Rows.queuePlaysRow.laid ((World.laidAll Tryd.prog os Rows.queuePlaysRow.laid).forCall (fun _ _ => 0) ⟨#[], #[.agg #[.string ByteArray.empty, .int .i64 0, .int .i64 0, .int .i64 0, .string ByteArray.empty, .int .i64 0, .slice none 0 0], .slice none 0 0], []⟩).memory :=
  laidMet_laidAll _ (by kernel_rfl) (by kernel_rfl)
theorem reads (os : Os) {H : Type} (enc : TypeId × Value → H) : ∃ places, DataW.whole enc Tryd.prog ((World.laidAll Tryd.prog os Rows.queuePlaysRow.laid).forCall (fun _ _ => 0) ⟨#[], #[.agg #[.string ByteArray.empty, .int .i64 0, .int .i64 0, .int .i64 0, .string ByteArray.empty, .int .i64 0, .slice none 0 0], .slice none 0 0], []⟩).memory Tryd.f3.params.toList Rows.queuePlaysSpec.vars false #[Value.agg #[.string ByteArray.empty, .int .i64 0, .int .i64 0, .int .i64 0, .string ByteArray.empty, .int .i64 0, .slice none 0 0], Value.slice none 0 0].toList 8 = some ([.agg [.agg [.lit (.string []), .lit (.int .i64 0), .lit (.int .i64 0), .lit (.int .i64 0), .lit (.string [])], .lit (.int .i64 0), .nil], .nil], [], places) :=
  ⟨[], by kernel_rfl⟩

set_option maxRecDepth 100000 in
theorem lifted (os : Os) (started : os.Started) (H : Type) (enc : TypeId × Value → H) (F : Stop.Interp) :
    ReturnsInHanded {} Tryd.checked os 3 .any ((OpenSpec.ofChange Rows.queuePlaysSpec).preRow enc Tryd.prog Tryd.f3 Rows.queuePlaysRow.domain false Rows.queuePlaysRow.laid) (((OpenSpec.ofChange Rows.queuePlaysSpec).at F).post enc Tryd.prog Tryd.f3 false true false false) := by
  obtain ⟨places, hx⟩ := reads os enc
  refine returnsInHanded_of_row (C := Tryd.checked) (s := (OpenSpec.ofChange Rows.queuePlaysSpec)) own started (by kernel_rfl) Tryd.func3
    (witness_row_at (enc := enc) (C := Tryd.checked) false (World.laidAll Tryd.prog os Rows.queuePlaysRow.laid) #[.agg #[.string ByteArray.empty, .int .i64 0, .int .i64 0, .int .i64 0, .string ByteArray.empty, .int .i64 0, .slice none 0 0], .slice none 0 0] (World.laidAll_os _ _ _) (by kernel_rfl) (by kernel_rfl) (by kernel_rfl)
      (OpenSpec.preRow_of_cond 8 hx (by kernel_rfl) (fun k hk => by cases hk) (by kernel_rfl) (laid_met os))) ?_
  intro W base args ds gs before hval hW _ _ hsz _ hsh _
  exact contract H enc W base args ds gs before hval hW hsz hsh

theorem said : Rows.QueuePlaysSaid :=
  OpenClaim.holds_of_cond 3 Tryd.f3 rfl rfl rfl rfl rfl rfl rfl ⟨rfl, rfl, rfl, rfl, rfl⟩ rfl rfl rfl rfl rfl (by kernel_rfl) Tryd.func3 (by kernel_rfl)
    (of_decide_eq_true (by kernel_rfl)) (by unfold Func.isWrapper; first | (rw [if_pos (by decide +kernel)]; kernel_rfl) | (rw [if_neg (by decide +kernel)]; exact ⟨rfl, rfl⟩))
    (fun os started H enc _ F => by rw [OpenClaim.pre_eq_preRow]; exact lifted os started H enc F)

theorem plain (f : FuncId) (fn : Func) (hf : Tryd.pinned.checked.prog.funcNamed "broker/brokerlaw25.QueuePlays" = some f) (hfn : Tryd.pinned.checked.prog.funcs[f]? = some fn) :
    false = Tryd.pinned.checked.prog.looks [] ∧ ∀ (j : Nat) t, fn.params[j]? = some t → Tryd.pinned.checked.prog.wantsStandIn t = false := by
  obtain rfl : f = 3 := Option.some.inj ((show Tryd.prog.funcNamed "broker/brokerlaw25.QueuePlays" = some 3 by kernel_rfl).symm.trans hf) |>.symm
  obtain rfl : fn = Tryd.f3 := (Option.some.inj (Tryd.func3.symm.trans hfn)).symm
  refine ⟨by kernel_rfl, fun j t ht => ?_⟩
  rw [Tryd.params3] at ht
  have hm : t ∈ [26, 27] := by simpa using Array.mem_of_getElem? ht
  simp only [List.mem_cons, List.not_mem_nil, or_false] at hm
  rcases hm with rfl | rfl
  · exact (show Tryd.prog.wantsStandIn 26 = false by kernel_rfl)
  · exact (show Tryd.prog.wantsStandIn 27 = false by kernel_rfl)

theorem card : Rows.QueuePlaysCardSaid :=
  Claim7.holds_tied_plain_at .later [] _ _ _ _ said (fun _ h => by cases h) (by kernel_rfl) (fun _ h => by cases h) queuePlays_row_tie rfl ⟨rfl, rfl⟩ (by kernel_rfl) rfl plain (by kernel_rfl)
end Go.Proofs.YtjhojpghllnoiaaDoor.queuePlays
