/-
  What copyBinding and copyRoutes of exchange, and Clone and clone of brokerref24 answer: a binding, routes, in memory of their own. Conditions: the lists read as data; few elements.
-/
import Derived.Test.YtjkhfifnfgchgabGreatDoorEpF
namespace Go.Proofs.YtjkhfifnfgchgabGreatDoor
open Go.RowKit
open S2 (BK Put get_ops)

/-- a binding that a call answers, its properties in memory of their own -/
def RetBd (d : Bd) (W : World) (e : Ending) (w' : World) : Prop := ∃ a c, e = .returned (bdV ⟨d, a, c⟩) ∧ PL w' w'.heap.size a d.ml ∧ NewL W.heap.size a ∧ Below W.heap.size W w'
theorem kp_of {w w' : World} {v v' : Value} (hg : w.grownBy w' v.ownBlock) (ho : ∀ b, b < w.heap.size → v.ownBlock ≠ some b → v'.ownBlock ≠ some b) : Kpv v v' w w' :=
  ⟨fun k hk hne => hg.block k hk (fun e => hne e.symm), hg.size, fun k hk => by
    rcases Nat.lt_or_ge k w.heap.size with h | h
    · by_cases he : v.ownBlock = some k
      · exact Or.inl he
      · exact absurd hk (ho k h he)
    · exact Or.inr h⟩
theorem Lst.off {α : Type} {e : TypeId} {g : α → List Value} {k : Nat} {ad : α → Option Addr} {ps : α → List PR} {B : Nat} {w : World} {v : Value} {xs : List α} (h : Lst e g k ad ps B w v xs) {x : α} (hx : x ∈ xs) {b o : Nat} (ea : ad x = some ⟨b, o, none⟩) (hn : 0 < (ps x).length) : v.ownBlock ≠ some b := fun e2 => by
  have hw := h.1
  unfold OwnG at hw
  rcases hw.2 with ⟨rfl, _⟩ | ⟨q, cap, cur, rfl, _⟩
  · simp [Value.ownBlock] at e2
  · simp only [Value.ownBlock, Option.some.injEq] at e2
    exact (h.2 x hx).2.1 b o ea hn q _ _ rfl e2.symm
/-- append of one struct with its properties, as an operation -/
theorem oper_lst {P : Program} {α : Type} {g : α → List Value} {k : Nat} {e : TypeId} {ad : α → Option Addr} {ps : α → List PR} (hg : ∀ x, (g x).length = k) (h1 : ∀ x, ∀ u ∈ g x, u.oneCell' = true) {o : Oper} {a : Act} {wr : World} {K : Act → World → Prop} {Q : Exit → Act → World → Prop} (hk0 : 0 < k) (s x : Operand) (t : TypeId)
    (ho : o.op = .call { callee := .builtin .append, args := #[s, x], argTypes := #[t, t] }) (z : Value) (bytes : Nat) (ht : P.underlying t = some (.slice e))
    (hi : (P.info? e).map (fun i => (i.zero, i.size, i.bytes)) = some (some z, k, bytes)) (hzs : z.cells.size = k) (hby : 0 < bytes) (B : Nat) (v : Value) (xs : List α) (y : α) (hs : a.eval s = v) (hown : Lst e g k ad ps B wr v xs)
    (q : Nat) (hx : a.eval x = .slice (some ⟨q, 0, none⟩) 1 1) (hq : BK e wr q (g y)) (hp : PL wr wr.heap.size (ad y) (ps y)) (hnw : NewL B (ad y)) (hoff : ∀ b o, ad y = some ⟨b, o, none⟩ → 0 < (ps y).length → v.ownBlock ≠ some b) (hB : B ≤ wr.heap.size) (hn : (xs.length + 1) * bytes ≤ 140737488355328)
    (h : ∀ v' w', Lst e g k ad ps B w' v' (xs ++ [y]) → Kpv v v' wr w' → (∀ B0 w0, Below B0 w0 wr → B0 ≤ B → Below B0 w0 w') → K (a.put o.dst v') w') : o.wp P a wr K Q :=
  oper_appG (P := P) hk0 s x t t ho z bytes ht hi hzs hby B v xs [y] _ hs hown.1 hx (src_blk hg h1 ht hq) hB (by simpa using hn) (fun v' w' hown' hgr hof => by
    have keep : ∀ (A : Option Addr) (p : List PR), PL wr wr.heap.size A p → (∀ b o, A = some ⟨b, o, none⟩ → 0 < p.length → v.ownBlock ≠ some b) → PL w' w'.heap.size A p ∧ (∀ b o, A = some ⟨b, o, none⟩ → 0 < p.length → ∀ q n c, v' = .slice (some ⟨q, 0, none⟩) n c → b ≠ q) := fun A p hpl hf =>
      ⟨PL.grow hpl hgr (fun b o e2 hn => hf b o e2 hn), fun b o e2 hn q n c ev eb => by
        subst ev
        subst eb
        exact hof b (PL.lt hpl hn b o e2) (hf b o e2 hn) rfl⟩
    refine h v' w' ⟨hown', fun x' hx' => ?_⟩ (kp_of hgr hof) (fun B0 w0 hb hle => Below.grow hb hown.1 hgr (Nat.le_trans hle hB) hle)
    rcases List.mem_append.1 hx' with hx' | hx'
    · have := keep _ _ (hown.2 x' hx').1 (fun b o e2 hn => hown.off hx' e2 hn)
      exact ⟨this.1, this.2, (hown.2 x' hx').2.2⟩
    · simp at hx'
      subst hx'
      have := keep _ _ hp hoff
      exact ⟨this.1, this.2, hnw⟩)

/-! ### Routes that a call builds -/
structure RtN (B : Nat) (w : World) (v1 : Value) (l : List Ex) (v2 : Value) (ys : List BE) : Prop where
  e : OwnE w B v1 l
  b : LstB B w v2 ys
  d : ∀ k, v1.ownBlock = some k → v2.ownBlock ≠ some k ∧ ∀ y ∈ ys, ∀ b o, y.a = some ⟨b, o, none⟩ → 0 < y.d.ml.length → b ≠ k
theorem RtN.step {B : Nat} {w w' : World} {v1 v2 : Value} {l : List Ex} {ys : List BE} (h : RtN B w v1 l v2 ys) (hb : Below w.heap.size w w') : RtN B w' v1 l v2 ys := ⟨h.e.step hb, h.b.step hb, h.d⟩
theorem LstB.weak {B B' : Nat} {w : World} {v : Value} {ys : List BE} (h : LstB B w v ys) (hB : B' ≤ B) : LstB B' w v ys := ⟨h.1.weak hB, fun x hx => ⟨(h.2 x hx).1, (h.2 x hx).2.1, fun b o e => Nat.le_trans hB ((h.2 x hx).2.2 b o e)⟩⟩
theorem RtN.weak {B B' : Nat} {w : World} {v1 v2 : Value} {l : List Ex} {ys : List BE} (h : RtN B w v1 l v2 ys) (hB : B' ≤ B) : RtN B' w v1 l v2 ys := ⟨h.e.weak hB, LstB.weak h.b hB, h.d⟩
/-- to be read -/
theorem RtN.ret {B : Nat} {w : World} {v1 v2 : Value} {l : List Ex} {ys : List BE} (h : RtN B w v1 l v2 ys) : ∃ A1 c1 A2 c2, v1 = .slice A1 l.length c1 ∧ v2 = .slice A2 ys.length c2 ∧ l.length ≤ c1 ∧ ys.length ≤ c2 ∧ EL w w.heap.size A1 l ∧ BI w w.heap.size A2 ys ∧ NewL B A1 ∧ NewL B A2 ∧ ∀ y ∈ ys, NewL B y.a := by
  obtain ⟨A1, c1, e1, h1, n1, g1⟩ := OwnG.retB gE_len h.e
  obtain ⟨A2, c2, e2, h2, n2, g2, p2⟩ := h.b.ret gB_len
  exact ⟨A1, c1, A2, c2, e1, e2, h1, h2, g1 w (Nat.le_refl _) (fun _ _ => rfl), ⟨g2, fun x hx => (p2 x hx).1⟩, n1, n2, fun y hy => (p2 y hy).2⟩
/-- block g is none of theirs -/
structure RtOff (g : Nat) (v1 v2 : Value) (ys : List BE) : Prop where
  e : v1.ownBlock ≠ some g
  b : v2.ownBlock ≠ some g
  p : ∀ y ∈ ys, ∀ b o, y.a = some ⟨b, o, none⟩ → 0 < y.d.ml.length → b ≠ g
theorem RtN.high {B : Nat} {w : World} {v1 v2 : Value} {l : List Ex} {ys : List BE} (h : RtN B w v1 l v2 ys) {g : Nat} (hg : w.heap.size ≤ g) : RtOff g v1 v2 ys :=
  ⟨h.e.high hg, h.b.1.high hg, fun y hy b o e hn => by have := PL.lt (h.b.2 y hy).1 hn b o e; omega⟩
theorem RtN.low {B : Nat} {w : World} {v1 v2 : Value} {l : List Ex} {ys : List BE} (h : RtN B w v1 l v2 ys) {g : Nat} (hg : g < B) : RtOff g v1 v2 ys :=
  ⟨h.e.off hg, h.b.1.off hg, fun y hy b o e hn => by have := (h.b.2 y hy).2.2 b o e; omega⟩
theorem OwnG.keepb {α : Type} {e : TypeId} {g : α → List Value} {k : Nat} {w w' : World} {B : Nat} {v : Value} {xs : List α} (h : OwnG e g k w B v xs) (hk : ∀ b, v.ownBlock = some b → w'.heap[b]? = w.heap[b]?) : OwnG e g k w' B v xs := by
  unfold OwnG at h ⊢
  refine ⟨h.1, ?_⟩
  rcases h.2 with h' | ⟨q, cap, cur, rfl, hB, hq, hnc, hcm, hcs, htake⟩
  · exact .inl h'
  · exact .inr ⟨q, cap, cur, rfl, hB, by rw [hk q rfl]; exact hq, hnc, hcm, hcs, htake⟩
theorem PL.keepb {w w' : World} {A : Option Addr} {p : List PR} (h : PL w w.heap.size A p) (hs : w.heap.size ≤ w'.heap.size) (hk : ∀ b o, A = some ⟨b, o, none⟩ → 0 < p.length → b < w.heap.size → w'.heap[b]? = w.heap[b]?) : PL w' w'.heap.size A p := fun hn => by
  obtain ⟨b, o, e, hb, hc⟩ := h hn
  refine ⟨b, o, e, Nat.lt_of_lt_of_le hb hs, fun j x i u hx hu => ?_⟩
  rw [World.cell?_of_block (a := ⟨b, o + j * 2 + i, none⟩) (hk b o e hn hb)]
  exact hc j x i u hx hu
theorem Lst.keepb {α : Type} {e : TypeId} {g : α → List Value} {k : Nat} {ad : α → Option Addr} {ps : α → List PR} {B : Nat} {w w' : World} {v : Value} {xs : List α} (h : Lst e g k ad ps B w v xs) (hs : w.heap.size ≤ w'.heap.size) (hk : ∀ b, v.ownBlock = some b → w'.heap[b]? = w.heap[b]?)
    (hp : ∀ x ∈ xs, ∀ b o, ad x = some ⟨b, o, none⟩ → 0 < (ps x).length → b < w.heap.size → w'.heap[b]? = w.heap[b]?) : Lst e g k ad ps B w' v xs :=
  ⟨h.1.keepb hk, fun x hx => ⟨PL.keepb (h.2 x hx).1 hs (fun b o e hn hb => hp x hx b o e hn hb), (h.2 x hx).2⟩⟩
/-- a store into another block -/
theorem RtN.set {B : Nat} {w : World} {v1 v2 : Value} {l : List Ex} {ys : List BE} (h : RtN B w v1 l v2 ys) {g : Nat} (hg : RtOff g v1 v2 ys) (j : Nat) (u : Value) : RtN B (w.setCell ⟨g, j, none⟩ u) v1 l v2 ys := by
  have hk : ∀ b, b ≠ g → (w.setCell ⟨g, j, none⟩ u).heap[b]? = w.heap[b]? := fun b hb => heap_setCell_other w ⟨g, j, none⟩ b u hb
  exact ⟨h.e.keepb (fun b e => hk b (fun e2 => hg.e (by rw [e, e2]))), h.b.keepb (by simp) (fun b e => hk b (fun e2 => hg.b (by rw [e, e2]))) (fun x hx b o e hn _ => hk b (hg.p x hx b o e hn)), h.d⟩
theorem Lst.set {α : Type} {e : TypeId} {g : α → List Value} {k : Nat} {ad : α → Option Addr} {ps : α → List PR} {B : Nat} {w : World} {v : Value} {xs : List α} (h : Lst e g k ad ps B w v xs) {q : Nat} (hq : q < B) (j : Nat) (u : Value) : Lst e g k ad ps B (w.setCell ⟨q, j, none⟩ u) v xs := by
  have hk : ∀ b, b ≠ q → (w.setCell ⟨q, j, none⟩ u).heap[b]? = w.heap[b]? := fun b hb => heap_setCell_other w ⟨q, j, none⟩ b u hb
  exact h.keepb (by simp) (fun b e2 => hk b (fun e3 => h.1.off hq (by rw [e2, e3]))) (fun x hx b o e2 hn _ => hk b (fun e3 => by have := (h.2 x hx).2.2 b o e2; omega))
theorem OwnG.set {α : Type} {e : TypeId} {g : α → List Value} {k : Nat} {w : World} {B : Nat} {v : Value} {xs : List α} (h : OwnG e g k w B v xs) {q : Nat} (hq : v.ownBlock ≠ some q) (j : Nat) (u : Value) : OwnG e g k (w.setCell ⟨q, j, none⟩ u) B v xs :=
  h.keepb (fun b e2 => heap_setCell_other w ⟨q, j, none⟩ b u (fun e3 => hq (by rw [e2, e3])))
theorem OwnG.put {α : Type} {e : TypeId} {g : α → List Value} {k : Nat} {w w' : World} {B : Nat} {v : Value} {xs : List α} (h : OwnG e g k w B v xs) {q : Nat} (hq : v.ownBlock ≠ some q) (hp : Put q w w') : OwnG e g k w' B v xs := by
  unfold OwnG at h ⊢
  refine ⟨h.1, ?_⟩
  rcases h.2 with h' | ⟨b, cap, cur, rfl, hB, hb, hnc, hcm, hcs, htake⟩
  · exact .inl h'
  · have h1 : BK e w b cur.toList := by unfold BK; simpa using hb
    have h2 := hp.other h1 (fun e2 => hq (by rw [← e2]; rfl))
    exact .inr ⟨b, cap, cur, rfl, hB, by unfold BK at h2; simpa using h2, hnc, hcm, hcs, htake⟩
theorem RtN.put {B : Nat} {w w' : World} {v1 v2 : Value} {l : List Ex} {ys : List BE} {g : Nat} (h : RtN B w v1 l v2 ys) (hg : RtOff g v1 v2 ys) (hp : Put g w w') : RtN B w' v1 l v2 ys :=
  ⟨OwnG.put h.e hg.e hp, ⟨OwnG.put h.b.1 hg.b hp, fun y hy => ⟨by rw [hp.size]; exact PL.putA (h.b.2 y hy).1 hp (fun hn b o e => hg.p y hy b o e hn), (h.b.2 y hy).2⟩⟩, h.d⟩
/-- routes that a call answers by value -/
def RetRt (l : List Ex) (bs : List Bd) (W : World) (e : Ending) (w' : World) : Prop := ∃ v1 v2 ys, e = .returned (.agg #[v1, v2]) ∧ ys.map BE.d = bs ∧ RtN W.heap.size w' v1 l v2 ys ∧ Below W.heap.size W w'

set_option maxRecDepth 20000 in
set_option maxHeartbeats 4000000 in
theorem copyBinding_any (x : BE) (w : World) (hx : BIn w x) :
    Calls Tryz.prog 42 #[bdV x] w (RetBd x.d w) := by
  have HC := Lib.hid (fun w1 h => cloneP_any x.a x.c x.d.ml w1 h (by have := hx.2; omega))
  have HS := Lib.hid hx.1
  clear hx
  have HV : Hid (bdV x = .agg (gB x).toArray) := Lib.hid rfl
  rw [HV.out]
  have CY : gB x = [.string x.d.ex, .string x.d.qu, .string x.d.ky, .bool x.d.all, .slice x.a x.d.ml.length x.c] := rfl
  rw [CY]
  clear HV CY
  go_enter Tryz.func42, Tryz.ntmps42
  go_upto_region 1 with fail
  refine name_world (C := fun w1 => Code.wp _ _ _ _ w1) ((w.alloc (.cells [.string x.d.ex, .string x.d.qu, .string x.d.ky, .bool x.d.all, .slice x.a x.d.ml.length x.c].toArray 35)).alloc (.cells (gB BE.zero).toArray 35)) ?_
  intro w1 hw1
  have H0 := S2.two_laid (v1 := gB x) (v2 := gB BE.zero) hw1
  clear hw1
  obtain ⟨t1, t2, hs0, hB0⟩ := H0
  have T1 := Lib.hid t1
  have T2 := Lib.hid t2
  have HB := Lib.hid hB0
  have HZ := Lib.hid hs0
  have d4 := t1.cell 4 rfl
  clear t1 t2 hB0 hs0
  go_wp2_with fail
  refine (HC.out _ (HS.out.step HB.out)).mono ?_
  rintro e w2 ⟨v2, rfl, hown2, hb2⟩
  obtain ⟨a2, c2, hv2, _, hnew, hgl⟩ := hown2.retB gP_len
  subst hv2
  have U1 := Lib.hid (T1.out.step hb2)
  have U2 := Lib.hid (T2.out.step hb2)
  have HB2 := Lib.hid (stepB HB.out hb2)
  have HZ2 := Lib.hid hb2.size
  have HG := Lib.hid hgl
  have HN := Lib.hid hnew
  have f4 := U1.out.free 4
  have g4 := U1.out.cell 4 rfl
  have hlt := U1.out.lt
  clear hb2 hown2 hgl hnew T1 T2 HB HC d4
  go_upto_region 2 with fail
  refine name_world (C := fun w3 => Code.wp _ _ _ _ w3) (w2.setCell ⟨w.heap.size, 4, none⟩ (.slice a2 x.d.ml.length c2)) ?_
  intro w3 hw3
  have U1' : Hid (BK 35 w3 w.heap.size (gB ⟨x.d, a2, c2⟩)) := Lib.hid (by rw [hw3]; exact U1.out.set 4 _)
  have U2' : Hid (BK 35 w3 (w.heap.size + 1) (gB BE.zero)) := Lib.hid (by rw [hw3]; exact U2.out.other (by show w.heap.size + 1 ≠ w.heap.size; omega) _)
  have HB3 : Hid (Below w.heap.size w w3) := Lib.hid (by rw [hw3]; exact HB2.out.setCell (p := ⟨w.heap.size, 4, none⟩) (Nat.le_refl _) _)
  have HZ3 : Hid (w3.heap.size = w2.heap.size) := Lib.hid (by rw [hw3]; simp)
  have HE3 : Hid (∀ p : Addr, w1.heap.size ≤ p.block → w3.cell? p = w2.cell? p) := Lib.hid (fun p hp => by rw [hw3]; exact S2.set_other _ _ _ _ _ (by have := HZ.out; omega))
  clear hw3 U1 U2 HB2 f4 g4 hlt
  go_wp2_with first
    | (refine wpList_load_v (by rfl) 35 (.tmp 1) rfl ⟨w.heap.size, 0, none⟩ rfl (bdV ⟨x.d, a2, c2⟩) (load_bd0 U1'.out) ?_)
    | (refine S2.wpList_store_all (by rfl) 35 (.tmp 2) (.tmp 7) rfl rfl (w.heap.size + 1) rfl (gB ⟨x.d, a2, c2⟩) rfl 35 (gB BE.zero) U2'.out bdSize rfl (gB_one _) ?_; intro w4 hM hP; have M4 := Lib.hid hM; have P4 := Lib.hid hP; clear hM hP)
  refine bodyPost_ret (v := bdV ⟨x.d, a2, c2⟩) (S2.res_cell rfl _ _ (w.heap.size + 1) 35 (gB ⟨x.d, a2, c2⟩) _ rfl M4.out Tryz.underlying35 rfl bdSize) rfl ⟨a2, c2, rfl, HG.out w4 (by rw [P4.out.size, HZ3.out]; exact Nat.le_refl _) (fun p hp => ?_), fun b o e => by have := HN.out b o e; have := HZ.out; omega, P4.out.below HB3.out (by omega)⟩
  rw [P4.out.cell (by have := HZ.out; omega), HE3.out p hp]

set_option maxRecDepth 20000 in
set_option maxHeartbeats 4000000 in
theorem rClone_any (x : BE) (w : World) (hx : BIn w x) :
    Calls Tryz.prog 43 #[bdV x] w (RetBd x.d w) := by
  have HC := Lib.hid (fun w1 h => cloneP_any x.a x.c x.d.ml w1 h (by have := hx.2; omega))
  have HS := Lib.hid hx.1
  clear hx
  have HV : Hid (bdV x = .agg (gB x).toArray) := Lib.hid rfl
  rw [HV.out]
  have CY : gB x = [.string x.d.ex, .string x.d.qu, .string x.d.ky, .bool x.d.all, .slice x.a x.d.ml.length x.c] := rfl
  rw [CY]
  clear HV CY
  go_enter Tryz.func43, Tryz.ntmps43
  go_upto_region 1 with fail
  refine name_world (C := fun w1 => Code.wp _ _ _ _ w1) ((w.alloc (.cells [.string x.d.ex, .string x.d.qu, .string x.d.ky, .bool x.d.all, .slice x.a x.d.ml.length x.c].toArray 35)).alloc (.cells (gB BE.zero).toArray 35)) ?_
  intro w1 hw1
  have H0 := S2.two_laid (v1 := gB x) (v2 := gB BE.zero) hw1
  clear hw1
  obtain ⟨t1, t2, hs0, hB0⟩ := H0
  have T1 := Lib.hid t1
  have T2 := Lib.hid t2
  have HB := Lib.hid hB0
  have HZ := Lib.hid hs0
  have d4 := t1.cell 4 rfl
  clear t1 t2 hB0 hs0
  go_wp2_with fail
  refine (HC.out _ (HS.out.step HB.out)).mono ?_
  rintro e w2 ⟨v2, rfl, hown2, hb2⟩
  obtain ⟨a2, c2, hv2, _, hnew, hgl⟩ := hown2.retB gP_len
  subst hv2
  have U1 := Lib.hid (T1.out.step hb2)
  have U2 := Lib.hid (T2.out.step hb2)
  have HB2 := Lib.hid (stepB HB.out hb2)
  have HZ2 := Lib.hid hb2.size
  have HG := Lib.hid hgl
  have HN := Lib.hid hnew
  have f4 := U1.out.free 4
  have g4 := U1.out.cell 4 rfl
  have hlt := U1.out.lt
  clear hb2 hown2 hgl hnew T1 T2 HB HC d4
  go_upto_region 2 with fail
  refine name_world (C := fun w3 => Code.wp _ _ _ _ w3) (w2.setCell ⟨w.heap.size, 4, none⟩ (.slice a2 x.d.ml.length c2)) ?_
  intro w3 hw3
  have U1' : Hid (BK 35 w3 w.heap.size (gB ⟨x.d, a2, c2⟩)) := Lib.hid (by rw [hw3]; exact U1.out.set 4 _)
  have U2' : Hid (BK 35 w3 (w.heap.size + 1) (gB BE.zero)) := Lib.hid (by rw [hw3]; exact U2.out.other (by show w.heap.size + 1 ≠ w.heap.size; omega) _)
  have HB3 : Hid (Below w.heap.size w w3) := Lib.hid (by rw [hw3]; exact HB2.out.setCell (p := ⟨w.heap.size, 4, none⟩) (Nat.le_refl _) _)
  have HZ3 : Hid (w3.heap.size = w2.heap.size) := Lib.hid (by rw [hw3]; simp)
  have HE3 : Hid (∀ p : Addr, w1.heap.size ≤ p.block → w3.cell? p = w2.cell? p) := Lib.hid (fun p hp => by rw [hw3]; exact S2.set_other _ _ _ _ _ (by have := HZ.out; omega))
  clear hw3 U1 U2 HB2 f4 g4 hlt
  go_wp2_with first
    | (refine wpList_load_v (by rfl) 35 (.tmp 1) rfl ⟨w.heap.size, 0, none⟩ rfl (bdV ⟨x.d, a2, c2⟩) (load_bd0 U1'.out) ?_)
    | (refine S2.wpList_store_all (by rfl) 35 (.tmp 2) (.tmp 7) rfl rfl (w.heap.size + 1) rfl (gB ⟨x.d, a2, c2⟩) rfl 35 (gB BE.zero) U2'.out bdSize rfl (gB_one _) ?_; intro w4 hM hP; have M4 := Lib.hid hM; have P4 := Lib.hid hP; clear hM hP)
  refine bodyPost_ret (v := bdV ⟨x.d, a2, c2⟩) (S2.res_cell rfl _ _ (w.heap.size + 1) 35 (gB ⟨x.d, a2, c2⟩) _ rfl M4.out Tryz.underlying35 rfl bdSize) rfl ⟨a2, c2, rfl, HG.out w4 (by rw [P4.out.size, HZ3.out]; exact Nat.le_refl _) (fun p hp => ?_), fun b o e => by have := HN.out b o e; have := HZ.out; omega, P4.out.below HB3.out (by omega)⟩
  rw [P4.out.cell (by have := HZ.out; omega), HE3.out p hp]
end Go.Proofs.YtjkhfifnfgchgabGreatDoor
