/-
  Lists of structs with a message each, whatever else they hold: as they came in, and rows that a call writes over, element by element. No function of the program is walked here.
-/
import Derived.Test.YtjhojpghllnoiaaDoorLx
namespace Go.Proofs.YtjhojpghllnoiaaDoor
open Go.RowKit
open S2 (BK Put)

/-- the slice with this address reads as these structs, below block B, their properties too -/
def LI {α : Type} (g : α → List Value) (k : Nat) (ad : α → Option Addr) (ps : α → List PR) (w : World) (B : Nat) (A : Option Addr) (xs : List α) : Prop := GL g k w B A xs ∧ ∀ x ∈ xs, PL w B (ad x) (ps x)
section
variable {α : Type} {g : α → List Value} {k : Nat} {ad : α → Option Addr} {ps : α → List PR} {w w' : World} {B : Nat} {A : Option Addr} {xs : List α}
theorem LI.nil (w : World) (B : Nat) (A : Option Addr) : LI g k ad ps w B A [] := ⟨GL.nil _ _ _, fun x hx => by cases hx⟩
theorem LI.below (h : LI g k ad ps w B A xs) (hb : Below B w w') : LI g k ad ps w' B A xs := ⟨h.1.below hb, fun x hx => (h.2 x hx).below hb⟩
theorem LI.more (h : LI g k ad ps w B A xs) {B' : Nat} (hB : B ≤ B') : LI g k ad ps w B' A xs := ⟨h.1.more hB, fun x hx => (h.2 x hx).more hB⟩
theorem LI.step (h : LI g k ad ps w w.heap.size A xs) (hb : Below w.heap.size w w') : LI g k ad ps w' w'.heap.size A xs := (h.below hb).more hb.size
theorem LI.at_ (h : LI g k ad ps w B A xs) {j : Nat} {x : α} (hx : xs[j]? = some x) :
    ∃ b o, A = some ⟨b, o, none⟩ ∧ b < B ∧ (∀ i v, (g x)[i]? = some v → w.cell? ⟨b, o + j * k + i, none⟩ = some v) ∧ PL w B (ad x) (ps x) := by
  obtain ⟨b, o, e, hb, hc⟩ := h.1 (Nat.lt_of_le_of_lt (Nat.zero_le _) (List.getElem?_eq_some_iff.1 hx).1)
  exact ⟨b, o, e, hb, fun i v hv => hc j x i v hx hv, h.2 x (List.mem_of_getElem? hx)⟩
theorem LI.take (h : LI g k ad ps w B A xs) (n : Nat) : LI g k ad ps w B A (xs.take n) := ⟨h.1.take n, fun x hx => h.2 x (List.mem_of_mem_take hx)⟩
theorem GL.drop (h : GL g k w B A xs) {n cap : Nat} (hn : n ≤ xs.length) (hc : xs.length ≤ cap) : GL g k w B (if cap = n then A else A.map (·.add (n * k))) (xs.drop n) := fun h0 => by
  rw [List.length_drop] at h0
  obtain ⟨b, o, e, hb, hcell⟩ := h (by omega)
  rw [if_neg (by omega), e]
  refine ⟨b, o + n * k, ?_, hb, fun j x i v hx hv => ?_⟩
  · simp only [Option.map_some, Addr.add]
    split
    · next h0 => rw [h0]; rfl
    · rfl
  · rw [List.getElem?_drop] at hx
    have := hcell _ x i v hx hv
    rw [Nat.add_mul, ← Nat.add_assoc o (n * k) (j * k)] at this
    exact this
theorem LI.drop (h : LI g k ad ps w B A xs) {n cap : Nat} (hn : n ≤ xs.length) (hc : xs.length ≤ cap) : LI g k ad ps w B (if cap = n then A else A.map (·.add (n * k))) (xs.drop n) := ⟨h.1.drop hn hc, fun x hx => h.2 x (List.mem_of_mem_drop hx)⟩
/-- its elements with other properties' addresses -/
theorem LI.app {e : TypeId} {v : Value} {ys : List α} (hg : ∀ x, (g x).length = k) (h : Lst e g k ad ps B w v ys) : ∃ A c, v = .slice A ys.length c ∧ ys.length ≤ c ∧ LI g k ad ps w w.heap.size A ys := by
  obtain ⟨A, c, hv, hc, _, hgl, hp⟩ := h.ret hg
  exact ⟨A, c, hv, hc, hgl, fun x hx => (hp x hx).1⟩
end

/-! ### Rows -/
section
variable {α π : Type} {e : TypeId} {g : α → List Value} {k : Nat} {ad : α → Option Addr} {ps : α → List PR} {pr : α → π} {w w' : World} {B : Nat}
theorem own_rowG {v : Value} {xs : List α} (h : OwnG e g k w B v xs) : (v = .slice none 0 0 ∧ xs = []) ∨ ∃ q cap sp, v = .slice (some ⟨q, 0, none⟩) xs.length cap ∧ B ≤ q ∧ BK e w q (xs.flatMap g ++ sp) ∧ xs.length ≤ cap ∧ cap ≤ maxLen ∧ (xs.flatMap g ++ sp).length = cap * k := by
  unfold OwnG at h
  have hlen := h.1
  rcases h.2 with ⟨rfl, hn⟩ | ⟨q, cap, cur, rfl, hb, hq, hnc, hcm, hcs, htake⟩
  · exact .inl ⟨rfl, List.eq_nil_of_length_eq_zero hn⟩
  · refine .inr ⟨q, cap, cur.toList.drop (xs.length * k), rfl, hb, ?_, hnc, hcm, ?_⟩
    · unfold BK; rw [← htake, List.take_append_drop]; simpa using hq
    · rw [← htake, List.take_append_drop]; simpa using hcs
theorem row_ownG (hg : ∀ x, (g x).length = k) {q cap : Nat} {xs : List α} {sp : List Value} (hb : B ≤ q) (hq : BK e w q (xs.flatMap g ++ sp)) (hnc : xs.length ≤ cap) (hcm : cap ≤ maxLen) (hl : (xs.flatMap g ++ sp).length = cap * k) : OwnG e g k w B (.slice (some ⟨q, 0, none⟩) xs.length cap) xs := by
  unfold OwnG
  exact ⟨flat_len hg xs, .inr ⟨q, cap, (xs.flatMap g ++ sp).toArray, rfl, hb, hq, hnc, hcm, by simpa using hl, by
    show (xs.flatMap g ++ sp).take (xs.length * k) = _
    rw [← flat_len hg xs, List.take_left' rfl]⟩⟩
theorem row_atG (hg : ∀ x, (g x).length = k) {T : TypeId} {q : Nat} {xs : List α} {sp : List Value} (h : BK T w q (xs.flatMap g ++ sp)) {j : Nat} {x : α} (hx : xs[j]? = some x) : ∀ i v, (g x)[i]? = some v → w.cell? ⟨q, j * k + i, none⟩ = some v := fun i v hv => by
  have hi : i < k := by rw [← hg x]; exact (List.getElem?_eq_some_iff.1 hv).1
  refine h.cell _ ?_
  have hj : j < xs.length := (List.getElem?_eq_some_iff.1 hx).1
  have : j * k + k ≤ xs.length * k := by rw [← Nat.succ_mul]; exact Nat.mul_le_mul hj (Nat.le_refl _)
  rw [List.getElem?_append_left (by rw [flat_len hg]; omega), flat_at hg xs j x i hx hi]
  exact hv
theorem putC_in (L M R cs : List Value) (off : Nat) (h : off + cs.length ≤ M.length) : putC (L ++ M ++ R) (L.length + off) cs = L ++ putC M off cs ++ R := by
  have e1 : M = M.take off ++ (M.drop off).take cs.length ++ M.drop (off + cs.length) := by
    rw [List.append_assoc, ← List.drop_drop, List.take_append_drop, List.take_append_drop]
  have h1 : (M.take off).length = off := by rw [List.length_take]; omega
  have h2 : ((M.drop off).take cs.length).length = cs.length := by rw [List.length_take, List.length_drop]; omega
  have := putC_mid (L ++ M.take off) ((M.drop off).take cs.length) (M.drop (off + cs.length) ++ R) cs h2.symm
  rw [List.length_append, h1] at this
  have e2 : L ++ M.take off ++ (M.drop off).take cs.length ++ (M.drop (off + cs.length) ++ R) = L ++ M ++ R := by
    conv => rhs; rw [e1]
    simp only [List.append_assoc]
  rw [e2] at this
  rw [this]
  unfold putC
  simp only [List.append_assoc]
theorem set_in (L M R : List Value) (off : Nat) (v : Value) (h : off < M.length) : (L ++ M ++ R).set (L.length + off) v = L ++ M.set off v ++ R := by
  rw [List.append_assoc, List.set_append_right _ _ (by omega), Nat.add_sub_cancel_left, List.set_append_left _ _ h, ← List.append_assoc]
/-- an element is written over in part -/
theorem put_atG (hg : ∀ x, (g x).length = k) {xs : List α} {j : Nat} {x : α} (h : xs[j]? = some x) (y : α) (off : Nat) (cs sp : List Value) (hy : g y = putC (g x) off cs) (hf : off + cs.length ≤ k) : putC (xs.flatMap g ++ sp) (j * k + off) cs = (xs.set j y).flatMap g ++ sp := by
  obtain ⟨e, hl⟩ := split_at h
  rw [set_split h y]
  conv => lhs; rw [e]
  rw [List.flatMap_append, List.flatMap_cons, List.flatMap_append, List.flatMap_cons, hy]
  have h1 : ((xs.take j).flatMap g).length = j * k := by rw [flat_len hg, hl]
  have := putC_in ((xs.take j).flatMap g) (g x) ((xs.drop (j + 1)).flatMap g ++ sp) cs off (by rw [hg]; exact hf)
  rw [h1] at this
  simp only [List.append_assoc] at this ⊢
  exact this
theorem set_atG (hg : ∀ x, (g x).length = k) {xs : List α} {j : Nat} {x : α} (h : xs[j]? = some x) (y : α) (off : Nat) (v : Value) (sp : List Value) (hy : g y = (g x).set off v) (hf : off < k) : (xs.flatMap g ++ sp).set (j * k + off) v = (xs.set j y).flatMap g ++ sp := by
  obtain ⟨e, hl⟩ := split_at h
  rw [set_split h y]
  conv => lhs; rw [e]
  rw [List.flatMap_append, List.flatMap_cons, List.flatMap_append, List.flatMap_cons, hy]
  have h1 : ((xs.take j).flatMap g).length = j * k := by rw [flat_len hg, hl]
  have := set_in ((xs.take j).flatMap g) (g x) ((xs.drop (j + 1)).flatMap g ++ sp) off v (by rw [hg]; exact hf)
  rw [h1] at this
  simp only [List.append_assoc] at this ⊢
  exact this

/-! ### A loop that gives each element properties of its own -/
/-- behind round j: the elements up to j have properties of their own -/
structure CIL (e : TypeId) (g : α → List Value) (ad : α → Option Addr) (ps : α → List PR) (pr : α → π) (xs : List α) (w w1 : World) (q : Nat) (sp : List Value) (j : Nat) (wr : World) (ys : List α) : Prop where
  same : ys.map pr = xs.map pr
  row : BK e wr q (ys.flatMap g ++ sp)
  new : ∀ i y, i < j → ys[i]? = some y → PL wr wr.heap.size (ad y) (ps y) ∧ NewL w1.heap.size (ad y)
  old : ∀ i, j ≤ i → ys[i]? = xs[i]?
  b0 : Below w.heap.size w wr
  b1 : w1.heap.size ≤ wr.heap.size
theorem CIL.zero {xs : List α} {w w1 : World} {q : Nat} {sp : List Value} (hb : Below w.heap.size w w1) (hq : BK e w1 q (xs.flatMap g ++ sp)) : CIL e g ad ps pr xs w w1 q sp 0 w1 xs :=
  ⟨rfl, hq, fun i y h => absurd h (by omega), fun _ _ => rfl, hb, Nat.le_refl _⟩
theorem CIL.len {xs ys : List α} {w w1 wr : World} {q j : Nat} {sp : List Value} (h : CIL e g ad ps pr xs w w1 q sp j wr ys) : ys.length = xs.length := by have := congrArg List.length h.same; simpa using this
theorem CIL.succ {xs ys : List α} {w w1 wr w2 w3 : World} {q j : Nat} {sp : List Value} (h : CIL e g ad ps pr xs w w1 q sp j wr ys) {y y' : α} (hy : ys[j]? = some y) (hp : pr y' = pr y)
    (h2 : PL w2 w2.heap.size (ad y') (ps y')) (hn : NewL wr.heap.size (ad y')) (hb : Below wr.heap.size wr w2) (hP : Put q w2 w3) (hrow : BK e w3 q ((ys.set j y').flatMap g ++ sp)) (hbq : w.heap.size ≤ q) (hq1 : q < w1.heap.size) : CIL e g ad ps pr xs w w1 q sp (j + 1) w3 (ys.set j y') := by
  have hz3 := hP.size
  have hz2 := hb.size
  have hz1 := h.b1
  refine ⟨?_, hrow, fun i z hi hz => ?_, fun i hi => ?_, hP.below (stepB h.b0 hb) hbq, by omega⟩
  · rw [List.map_set, h.same, hp]
    have : (xs.map pr)[j]? = some (pr y) := by rw [← h.same, List.getElem?_map, hy]; rfl
    obtain ⟨hk, e⟩ := List.getElem?_eq_some_iff.1 this
    conv => lhs; rw [← e]
    exact List.set_getElem_self hk
  · rw [List.getElem?_set] at hz
    split at hz
    · next hij =>
      have hjl : j < ys.length := (List.getElem?_eq_some_iff.1 hy).1
      rw [if_pos (by omega)] at hz
      obtain rfl := Option.some.inj hz
      refine ⟨?_, fun b o e => by have := hn b o e; omega⟩
      have := PL.put h2 hP (fun b o e => by have := hn b o e; omega)
      rw [hz3]
      exact this
    · next hij =>
      obtain ⟨p1, p2⟩ := h.new i z (by omega) hz
      refine ⟨?_, p2⟩
      have h3 := PL.put (p1.step hb) hP (fun b o e => by have := p2 b o e; omega)
      rw [hz3]
      exact h3
  · rw [List.getElem?_set_ne (by omega)]
    exact h.old i (by omega)
theorem CIL.done (hg : ∀ x, (g x).length = k) {xs ys : List α} {w w1 wr : World} {q cap : Nat} {sp : List Value} (h : CIL e g ad ps pr xs w w1 q sp xs.length wr ys) (hbq : w.heap.size ≤ q) (hq1 : q < w1.heap.size) (hnc : xs.length ≤ cap) (hcm : cap ≤ maxLen) (hcs : (xs.flatMap g ++ sp).length = cap * k) :
    ys.map pr = xs.map pr ∧ Lst e g k ad ps w.heap.size wr (.slice (some ⟨q, 0, none⟩) xs.length cap) ys ∧ Below w.heap.size w wr := by
  have hl := h.len
  refine ⟨h.same, ⟨?_, fun y hy => ?_⟩, h.b0⟩
  · rw [← hl]
    exact row_ownG hg hbq h.row (by omega) hcm (by rw [← hcs, List.length_append, List.length_append, flat_len hg, flat_len hg, hl])
  · obtain ⟨j, hj⟩ := List.mem_iff_getElem?.1 hy
    have hjl := (List.getElem?_eq_some_iff.1 hj).1
    obtain ⟨h1, h2⟩ := h.new j y (by omega) hj
    refine ⟨h1, fun b o e _ q' n c ev => ?_, fun b o e => by have := h2 b o e; omega⟩
    simp only [Value.slice.injEq, Option.some.injEq, Addr.mk.injEq, and_true] at ev
    have := h2 b o e
    omega
/-- a list that a call answers, in memory of its own -/
def RetLs (e : TypeId) (g : α → List Value) (k : Nat) (ad : α → Option Addr) (ps : α → List PR) (pr : α → π) (L : List π) (W : World) (E : Ending) (w' : World) : Prop := ∃ v ys, E = .returned v ∧ ys.map pr = L ∧ Lst e g k ad ps W.heap.size w' v ys ∧ Below W.heap.size W w'
end
/-! ### Lists that lie from a block on -/
/-- a list all of whose memory lies from block B on -/
def LN {α : Type} (g : α → List Value) (k : Nat) (ad : α → Option Addr) (ps : α → List PR) (w : World) (B : Nat) (A : Option Addr) (xs : List α) : Prop := LI g k ad ps w w.heap.size A xs ∧ NewL B A ∧ ∀ x ∈ xs, NewL B (ad x)
/-- properties that lie there -/
def PN (w : World) (B : Nat) (A : Option Addr) (xs : List PR) : Prop := PL w w.heap.size A xs ∧ NewL B A
theorem PN.step {w w' : World} {B : Nat} {A : Option Addr} {xs : List PR} (h : PN w B A xs) (hb : Below w.heap.size w w') : PN w' B A xs := ⟨h.1.step hb, h.2⟩
theorem PN.put {w w' : World} {B q : Nat} {A : Option Addr} {xs : List PR} (h : PN w B A xs) (hp : Put q w w') (hq : q < B) : PN w' B A xs := ⟨by rw [hp.size]; exact PL.put h.1 hp (fun b o e => by have := h.2 b o e; omega), h.2⟩
theorem GL.put {α : Type} {g : α → List Value} {k : Nat} {w w' : World} {B q : Nat} {A : Option Addr} {xs : List α} (h : GL g k w B A xs) (hp : Put q w w') (hne : ∀ b o, A = some ⟨b, o, none⟩ → b ≠ q) : GL g k w' B A xs := fun hn => by
  obtain ⟨b, o, e, hb, hc⟩ := h hn
  exact ⟨b, o, e, hb, fun j x i v hx hv => (hp.cell (p := ⟨b, o + j * k + i, none⟩) (hne b o e)).trans (hc j x i v hx hv)⟩
section
variable {α : Type} {e : TypeId} {g : α → List Value} {k : Nat} {ad : α → Option Addr} {ps : α → List PR} {w w' : World} {B : Nat} {A : Option Addr} {xs : List α}
theorem LN.nil : LN g k ad ps w B none [] := ⟨LI.nil _ _ _, (fun b o e => by cases e), (fun x hx => by cases hx)⟩
theorem LN.step (h : LN g k ad ps w B A xs) (hb : Below w.heap.size w w') : LN g k ad ps w' B A xs := ⟨h.1.step hb, h.2⟩
theorem LN.put (h : LN g k ad ps w B A xs) {q : Nat} (hp : Put q w w') (hq : q < B) : LN g k ad ps w' B A xs :=
  ⟨⟨by rw [hp.size]; exact h.1.1.put hp (fun b o e => by have := h.2.1 b o e; omega), fun x hx => by rw [hp.size]; exact PL.put (h.1.2 x hx) hp (fun b o e => by have := h.2.2 x hx b o e; omega)⟩, h.2⟩
theorem LN.weak (h : LN g k ad ps w B A xs) {B' : Nat} (hB : B' ≤ B) : LN g k ad ps w B' A xs := ⟨h.1, fun b o e => by have := h.2.1 b o e; omega, fun x hx b o e => by have := h.2.2 x hx b o e; omega⟩
theorem LN.of (hg : ∀ x, (g x).length = k) {v : Value} (h : Lst e g k ad ps B w v xs) : ∃ A c, v = .slice A xs.length c ∧ xs.length ≤ c ∧ LN g k ad ps w B A xs := by
  obtain ⟨A, c, hv, hc, hn, hgl, hp⟩ := h.ret hg
  exact ⟨A, c, hv, hc, ⟨hgl, fun x hx => (hp x hx).1⟩, hn, fun x hx => (hp x hx).2⟩
end

/-! ### append, as an operation -/
section
variable {P : Program} {α : Type} {g : α → List Value} {k : Nat} {e : TypeId}
theorem oper_appG {o : Oper} {a : Act} {wr : World} {K : Act → World → Prop} {Q : Exit → Act → World → Prop} (hk0 : 0 < k) (s x : Operand) (t tx : TypeId)
    (ho : o.op = .call { callee := .builtin .append, args := #[s, x], argTypes := #[t, tx] }) (z : Value) (bytes : Nat) (ht : P.underlying t = some (.slice e))
    (hi : (P.info? e).map (fun i => (i.zero, i.size, i.bytes)) = some (some z, k, bytes)) (hzs : z.cells.size = k) (hby : 0 < bytes) (B : Nat) (v : Value) (xs ys : List α) (vx : Value) (hs : a.eval s = v) (hown : OwnG e g k wr B v xs)
    (hx : a.eval x = vx) (hsrc : Src P k tx vx ys.length (ys.flatMap g) wr) (hB : B ≤ wr.heap.size) (hn : (xs.length + ys.length) * bytes ≤ 140737488355328)
    (h : ∀ v' w', OwnG e g k w' B v' (xs ++ ys) → wr.grownBy w' v.ownBlock → (∀ b, b < wr.heap.size → v.ownBlock ≠ some b → v'.ownBlock ≠ some b) → K (a.put o.dst v') w') : o.wp P a wr K Q := by
  obtain ⟨i, hi, hz, hz1, hz2⟩ := info_parts hi
  have hn2 : xs.length + ys.length ≤ 140737488355328 := Nat.le_trans (Nat.le_mul_of_pos_right _ hby) hn
  obtain ⟨v', w', hr, h2, h3, h4⟩ := app_own (P := P) wr B t tx o.type e i _ k bytes ht hi hz hz1 hz2 hzs hk0 v xs.length (xs.flatMap g) hown _ ys.length (ys.flatMap g) hsrc (by unfold maxLen; omega) hn hB
  unfold Oper.wp execOp
  simp only [ho, resolve, invoke, builtin, Sem.run_bind, Sem.run_pure, Result.andThen_ok, List.map_toArray, List.map_cons, List.map_nil, hs, hx, hr]
  refine h v' w' ?_ h3 (fun b hb hne e2 => ?_)
  · unfold OwnG
    simpa [List.flatMap_append] using h2
  · rcases h2.2 with ⟨rfl, _⟩ | ⟨q, cap, cur, rfl, _⟩
    · simp [Value.ownBlock] at e2
    · simp only [Value.ownBlock, Option.some.injEq] at e2
      subst e2
      rcases h4 _ _ _ rfl with ⟨n'', c'', hv⟩ | hq
      · exact hne (by rw [hv]; rfl)
      · omega
theorem BK.grow {T : TypeId} {w w' : World} {M : Nat} {vs : List Value} (h : BK T w M vs) {row : Option Nat} (hg : w.grownBy w' row) (hne : row ≠ some M) : BK T w' M vs :=
  (hg.block _ h.lt (fun e => hne e.symm)).trans h
theorem OwnG.off {w : World} {B : Nat} {v : Value} {xs : List α} (h : OwnG e g k w B v xs) {b : Nat} (hb : b < B) : v.ownBlock ≠ some b := fun e2 => by
  have := (World.ownsRow.lt h b e2).1
  omega
theorem OwnG.high {w : World} {B : Nat} {v : Value} {xs : List α} (h : OwnG e g k w B v xs) {b : Nat} (hb : w.heap.size ≤ b) : v.ownBlock ≠ some b := fun e2 => by
  have := (World.ownsRow.lt h b e2).2
  omega
theorem Below.grow {w w' w0 : World} {B0 B : Nat} {v : Value} {xs : List α} (hb : Below B0 w0 w) (h : OwnG e g k w B v xs) (hg : w.grownBy w' v.ownBlock) (hB : B0 ≤ w.heap.size) (hle : B0 ≤ B) : Below B0 w0 w' := hb.grown hg hB (fun j hj => Nat.le_trans hle (World.ownsRow.lt h j hj).1)
/-- another list of the call's own stays where one grows -/
theorem OwnG.grow {α' : Type} {g' : α' → List Value} {k' : Nat} {e' : TypeId} {w w' : World} {B : Nat} {v : Value} {xs : List α'} (h : OwnG e' g' k' w B v xs) {row : Option Nat} (hg : w.grownBy w' row) (hne : ∀ b, v.ownBlock = some b → row ≠ some b) : OwnG e' g' k' w' B v xs := by
  unfold OwnG at h ⊢
  refine ⟨h.1, ?_⟩
  rcases h.2 with h' | ⟨q, cap, cur, rfl, hB, hq, hnc, hcm, hcs, htake⟩
  · exact .inl h'
  · exact .inr ⟨q, cap, cur, rfl, hB, by rw [hg.block q (Array.getElem?_eq_some_iff.1 hq).1 (fun e2 => hne q rfl e2.symm)]; exact hq, hnc, hcm, hcs, htake⟩
/-- the one element of a new block, to be appended -/
theorem src_blk (hg : ∀ x, (g x).length = k) (h1 : ∀ x, ∀ u ∈ g x, u.oneCell' = true) {t : TypeId} (ht : P.underlying t = some (.slice e)) {w : World} {b : Nat} {x : α} (h : BK e w b (g x)) : Src P k t (.slice (some ⟨b, 0, none⟩) 1 1) 1 ([x].flatMap g) w := by
  have := GL.src (A := some ⟨b, 0, none⟩) (xs := [x]) (B := w.heap.size) hg h1 (w := w) (fun _ => ⟨b, 0, rfl, h.lt, fun j y i v hy hv => ?_⟩) ht 1
  · simpa using this
  · cases j with
    | zero =>
      simp at hy
      subst hy
      have hi : i < (g x).length := (List.getElem?_eq_some_iff.1 hv).1
      have := h.cell i hv
      simpa using this
    | succ j => simp at hy
/-- append onto a list at its full length: what comes lies in new memory -/
theorem wpList_appCut {ops : Array Oper} {rest : List Oper} {o : Oper} {a : Act} {Q : Exit → Act → World → Prop} (hg : ∀ x, (g x).length = k) (h1 : ∀ x, ∀ u ∈ g x, u.oneCell' = true) (hk0 : 0 < k) (wr : World) (hgd : o.guard = none) (s x : Operand) (t tx : TypeId)
    (ho : o.op = .call { callee := .builtin .append, args := #[s, x], argTypes := #[t, tx] }) (z : Value) (bytes : Nat) (ht : P.underlying t = some (.slice e))
    (hi : (P.info? e).map (fun i => (i.zero, i.size, i.bytes)) = some (some z, k, bytes)) (hzs : z.cells.size = k) (hby : 0 < bytes) {B : Nat} (A : Option Addr) (xs ys : List α) (hs : a.eval s = .slice A xs.length xs.length) (hA : GL g k wr B A xs)
    (vx : Value) (hx : a.eval x = vx) (hsrc : Src P k tx vx ys.length (ys.flatMap g) wr) (hy : 0 < ys.length) (hn : (xs.length + ys.length) * bytes ≤ 140737488355328)
    (h : ∀ v' w', OwnG e g k w' wr.heap.size v' (xs ++ ys) → Below wr.heap.size wr w' → wr.heap.size ≤ w'.heap.size → wpList P ops Q rest (a.put o.dst v') w') : wpList P ops Q (o :: rest) a wr :=
  wpList_plain hgd fun _ hK => by
    obtain ⟨i, hi2, hz, hz1, hz2⟩ := info_parts hi
    subst hz1
    subst hz2
    have hn2 : xs.length + ys.length ≤ 140737488355328 := Nat.le_trans (Nat.le_mul_of_pos_right _ hby) hn
    have hr := run_append_grow_src (P := P) wr t tx o.type e i z ht hi2 hz A xs.length xs.length (xs.flatMap g) (GL.src hg h1 hA ht xs.length).cellsD vx ys.length (ys.flatMap g) hsrc (by omega) (by omega) (growslice_fits (by omega) hn)
    have hge := grownCap_ge wr (xs.length + ys.length) xs.length e
    have hcm : grownCap wr (xs.length + ys.length) xs.length e ≤ maxLen := grownCap_le_maxLen wr (xs.length + ys.length) xs.length e (by unfold maxLen; omega)
    have hlen : (xs.flatMap g ++ ys.flatMap g).length = (xs.length + ys.length) * i.size := by rw [List.length_append, flat_len hg, flat_len hg, Nat.add_mul]
    unfold Oper.wp execOp
    simp only [ho, resolve, invoke, builtin, Sem.run_bind, Sem.run_pure, Result.andThen_ok, List.map_toArray, List.map_cons, List.map_nil, hs, hx, hr]
    refine hK _ _ (h _ _ ?_ ?_ (by simp))
    · unfold OwnG
      rw [List.length_append, List.flatMap_append]
      refine ⟨hlen, .inr ⟨wr.heap.size, _, _, rfl, Nat.le_refl _, heap_alloc_new wr.drew _, hge, hcm, ?_, ?_⟩⟩
      · simp only [Array.size_append, List.size_toArray, size_zeroCells, hzs, hlen]
        rw [← Nat.add_mul]
        congr 1
        omega
      · simp only [Array.toList_append]
        rw [← hlen]
        exact List.take_left
    · exact ((Below.refl wr.heap.size wr).drew).alloc (Nat.le_refl _) _
/-- the same, of one element, in the world that holds it -/
theorem wpList_cut1 {ops : Array Oper} {rest : List Oper} {o : Oper} {a : Act} {Q : Exit → Act → World → Prop} (hg : ∀ x, (g x).length = k) (h1 : ∀ x, ∀ u ∈ g x, u.oneCell' = true) (hk0 : 0 < k) (wr : World) (hgd : o.guard = none) (s x : Operand) (t : TypeId)
    (ho : o.op = .call { callee := .builtin .append, args := #[s, x], argTypes := #[t, t] }) (z : Value) (bytes : Nat) (ht : P.underlying t = some (.slice e))
    (hi : (P.info? e).map (fun i => (i.zero, i.size, i.bytes)) = some (some z, k, bytes)) (hzs : z.cells.size = k) (hby : 0 < bytes) (A : Option Addr) (xs : List α) (y : α) (hs : a.eval s = .slice A xs.length xs.length) (hA : GL g k wr wr.heap.size A xs)
    (hx : a.eval x = .slice (some ⟨wr.heap.size, 0, none⟩) 1 1) (hn : (xs.length + 1) * bytes ≤ 140737488355328)
    (h : ∀ v' w', OwnG e g k w' wr.heap.size v' (xs ++ [y]) → Below wr.heap.size wr w' → wr.heap.size ≤ w'.heap.size → wpList P ops Q rest (a.put o.dst v') w') : wpList P ops Q (o :: rest) a (wr.alloc (.cells (g y).toArray e)) := by
  have hst := S2.below_new wr (.cells (g y).toArray e)
  refine wpList_appCut hg h1 hk0 _ hgd s x t t ho z bytes ht hi hzs hby (B := wr.heap.size) A xs [y] hs (hA.below hst) _ hx (srcG_one hg h1 ht wr y) (by simp) (by simpa using hn) ?_
  intro v' w' hown hb hs'
  exact h v' w' (hown.weak hst.size) (stepB hst hb) (Nat.le_trans hst.size hs')
/-- one element behind a list of the own, in the world that holds it -/
theorem wpList_app1 {ops : Array Oper} {rest : List Oper} {o : Oper} {a : Act} {Q : Exit → Act → World → Prop} (hg : ∀ x, (g x).length = k) (h1 : ∀ x, ∀ u ∈ g x, u.oneCell' = true) (hk0 : 0 < k) (wr : World) (hgd : o.guard = none) (s x : Operand) (t : TypeId)
    (ho : o.op = .call { callee := .builtin .append, args := #[s, x], argTypes := #[t, t] }) (z : Value) (bytes : Nat) (ht : P.underlying t = some (.slice e))
    (hi : (P.info? e).map (fun i => (i.zero, i.size, i.bytes)) = some (some z, k, bytes)) (hzs : z.cells.size = k) (hby : 0 < bytes) (B : Nat) (v : Value) (xs : List α) (y : α) (hs : a.eval s = v) (hown : OwnG e g k wr B v xs)
    (hx : a.eval x = .slice (some ⟨wr.heap.size, 0, none⟩) 1 1) (w0 : World) (hb : Below B w0 wr) (hB : B ≤ wr.heap.size) (hn : (xs.length + 1) * bytes ≤ 140737488355328)
    (h : ∀ v' w', OwnG e g k w' B v' (xs ++ [y]) → Below B w0 w' → B ≤ w'.heap.size → wpList P ops Q rest (a.put o.dst v') w') : wpList P ops Q (o :: rest) a (wr.alloc (.cells (g y).toArray e)) := by
  have hst := S2.below_new wr (.cells (g y).toArray e)
  exact wpList_appG hk0 _ hgd s x t t ho z bytes ht hi hzs hby B v xs [y] hs (hown.step hst) _ hx (srcG_one hg h1 ht wr y) w0 (hb.alloc hB _) (by simp; omega) (by simpa using hn) h
end
/-! ### Two lists that a call builds side by side -/
structure Two {α : Type} (e : TypeId) (g : α → List Value) (k : Nat) (ad : α → Option Addr) (ps : α → List PR) (B : Nat) (w : World) (v1 : Value) (xs1 : List α) (v2 : Value) (xs2 : List α) : Prop where
  a : OwnG e g k w B v1 xs1
  b : OwnG e g k w B v2 xs2
  d : ∀ n, v1.ownBlock = some n → v2.ownBlock ≠ some n
  p : ∀ x, x ∈ xs1 ∨ x ∈ xs2 → PL w w.heap.size (ad x) (ps x) ∧ ∀ b o, ad x = some ⟨b, o, none⟩ → 0 < (ps x).length → v1.ownBlock ≠ some b ∧ v2.ownBlock ≠ some b
section
variable {α : Type} {e : TypeId} {g : α → List Value} {k : Nat} {ad : α → Option Addr} {ps : α → List PR} {B : Nat} {w w' : World} {v1 v2 : Value} {xs1 xs2 : List α}
theorem Two.nil : Two e g k ad ps B w (.slice none 0 0) [] (.slice none 0 0) [] := ⟨OwnG.nil _ _, OwnG.nil _ _, fun n h => by simp [Value.ownBlock] at h, fun x hx => by rcases hx with hx | hx <;> cases hx⟩
theorem Two.symm (h : Two e g k ad ps B w v1 xs1 v2 xs2) : Two e g k ad ps B w v2 xs2 v1 xs1 := ⟨h.b, h.a, fun n h2 h1 => h.d n h1 h2, fun x hx => ⟨(h.p x hx.symm).1, fun b o e hn => ((h.p x hx.symm).2 b o e hn).symm⟩⟩
theorem Two.step (h : Two e g k ad ps B w v1 xs1 v2 xs2) (hb : Below w.heap.size w w') : Two e g k ad ps B w' v1 xs1 v2 xs2 := ⟨h.a.step hb, h.b.step hb, h.d, fun x hx => ⟨(h.p x hx).1.step hb, (h.p x hx).2⟩⟩
theorem PL.grow {row : Option Nat} {A : Option Addr} {p : List PR} (h : PL w w.heap.size A p) (hg : w.grownBy w' row) (hne : ∀ b o, A = some ⟨b, o, none⟩ → 0 < p.length → row ≠ some b) : PL w' w'.heap.size A p := fun hn => by
  obtain ⟨b, o, e, hb, hc⟩ := h hn
  refine ⟨b, o, e, Nat.lt_of_lt_of_le hb hg.size, fun j x i u hx hu => ?_⟩
  rw [World.cell?_of_block (a := ⟨b, o + j * 2 + i, none⟩) (hg.block b hb (fun e2 => hne b o e hn e2.symm))]
  exact hc j x i u hx hu
theorem own_lt (h : OwnG e g k w B v1 xs1) (b : Nat) (e2 : v1.ownBlock = some b) : B ≤ b ∧ b < w.heap.size := World.ownsRow.lt h b e2
/-- one element behind the second -/
theorem wpList_two {P : Program} {ops : Array Oper} {rest : List Oper} {o : Oper} {a : Act} {Q : Exit → Act → World → Prop} (hg : ∀ x, (g x).length = k) (h1 : ∀ x, ∀ u ∈ g x, u.oneCell' = true) (hk0 : 0 < k) (wr : World) (hgd : o.guard = none) (s x : Operand) (t : TypeId)
    (ho : o.op = .call { callee := .builtin .append, args := #[s, x], argTypes := #[t, t] }) (z : Value) (bytes : Nat) (ht : P.underlying t = some (.slice e))
    (hi : (P.info? e).map (fun i => (i.zero, i.size, i.bytes)) = some (some z, k, bytes)) (hzs : z.cells.size = k) (y : α) (hs : a.eval s = v2) (hown : Two e g k ad ps B wr v1 xs1 v2 xs2)
    (hx : a.eval x = .slice (some ⟨wr.heap.size, 0, none⟩) 1 1) (hp : PL wr wr.heap.size (ad y) (ps y)) (hoff : ∀ b o, ad y = some ⟨b, o, none⟩ → 0 < (ps y).length → v1.ownBlock ≠ some b ∧ v2.ownBlock ≠ some b) (w0 : World) (hb : Below B w0 wr) (hB : B ≤ wr.heap.size) (hn : (xs2.length + 1) * bytes ≤ 140737488355328) (hby : 0 < bytes)
    (h : ∀ v' w', Two e g k ad ps B w' v1 xs1 v' (xs2 ++ [y]) → Below B w0 w' → B ≤ w'.heap.size → wpList P ops Q rest (a.put o.dst v') w') : wpList P ops Q (o :: rest) a (wr.alloc (.cells (g y).toArray e)) :=
  wpList_plain hgd fun _ hK => by
    have hst := S2.below_new wr (.cells (g y).toArray e)
    have ht2 := hown.step hst
    refine oper_appG (P := P) hk0 s x t t ho z bytes ht hi hzs hby B v2 xs2 [y] _ hs ht2.b hx (srcG_one hg h1 ht wr y) (by simp; omega) (by simpa using hn) ?_
    intro v' w' hown' hgr hoffs
    have keep : ∀ (A : Option Addr) (p : List PR), PL wr wr.heap.size A p → (∀ b o, A = some ⟨b, o, none⟩ → 0 < p.length → v1.ownBlock ≠ some b ∧ v2.ownBlock ≠ some b) → PL w' w'.heap.size A p ∧ (∀ b o, A = some ⟨b, o, none⟩ → 0 < p.length → v1.ownBlock ≠ some b ∧ v'.ownBlock ≠ some b) := fun A p hpl hof => by
      have hpl1 := hpl.step hst
      refine ⟨PL.grow hpl1 hgr (fun b o e2 hn => (hof b o e2 hn).2), fun b o e2 hn => ⟨(hof b o e2 hn).1, hoffs b ?_ (hof b o e2 hn).2⟩⟩
      exact PL.lt hpl1 hn b o e2
    refine hK _ _ (h v' w' ⟨ht2.a.grow hgr (fun b e2 => ht2.d b e2), hown', fun n e1 => hoffs n (own_lt ht2.a n e1).2 (ht2.d n e1), fun z hz => ?_⟩ (Below.grow (hb.alloc hB _) ht2.b hgr (by simp; omega) (Nat.le_refl _)) (by have := hgr.size; simp at this; omega))
    rcases hz with hz | hz
    · exact keep _ _ (hown.p z (Or.inl hz)).1 (hown.p z (Or.inl hz)).2
    · rcases List.mem_append.1 hz with hz | hz
      · exact keep _ _ (hown.p z (Or.inr hz)).1 (hown.p z (Or.inr hz)).2
      · simp at hz
        subst hz
        exact keep _ _ hp hoff
/-- both lists, to be read -/
theorem Two.ret (hg : ∀ x, (g x).length = k) (h : Two e g k ad ps B w v1 xs1 v2 xs2) : ∃ A1 c1 A2 c2, v1 = .slice A1 xs1.length c1 ∧ v2 = .slice A2 xs2.length c2 ∧ xs1.length ≤ c1 ∧ xs2.length ≤ c2 ∧ LI g k ad ps w w.heap.size A1 xs1 ∧ LI g k ad ps w w.heap.size A2 xs2 := by
  obtain ⟨A1, c1, e1, h1, g1⟩ := OwnG.ret hg h.a
  obtain ⟨A2, c2, e2, h2, g2⟩ := OwnG.ret hg h.b
  exact ⟨A1, c1, A2, c2, e1, e2, h1, h2, ⟨g1, fun x hx => (h.p x (Or.inl hx)).1⟩, ⟨g2, fun x hx => (h.p x (Or.inr hx)).1⟩⟩
end
end Go.Proofs.YtjhojpghllnoiaaDoor
