/-
  Lists of structs, whatever they hold: lists that a call builds, as rows and as lists; append as an operation. No function of the program is walked here.
-/
import Derived.Test.YtbmeimpfehjnfaaRow
import Derived.Test.YtbmeimpfehjnfaaBlk
namespace Go.Proofs.Ytbmeimpfehjnfaa
open Go.RowKit
open S2 (BK Put)

/-- a window that a call answers, all its lists new -/
def NewL (B : Nat) (A : Option Addr) : Prop := ∀ b o, A = some ⟨b, o, none⟩ → B ≤ b
/-- an own list lies behind what was there -/
theorem OwnG.retB {α : Type} {g : α → List Value} {k : Nat} {e : TypeId} (hg : ∀ x, (g x).length = k) {w : World} {B : Nat} {v : Value} {xs : List α} (h : OwnG e g k w B v xs) : ∃ A c, v = .slice A xs.length c ∧ xs.length ≤ c ∧ NewL B A ∧
    ∀ w', w.heap.size ≤ w'.heap.size → (∀ p : Addr, B ≤ p.block → w'.cell? p = w.cell? p) → GL g k w' w'.heap.size A xs := by
  have h2 := h
  unfold OwnG at h
  rcases h.2 with ⟨rfl, hn⟩ | ⟨q, cap, cur, rfl, hb, hq, hnc, hcm, hcs, htake⟩
  · have : xs = [] := List.eq_nil_of_length_eq_zero hn
    subst this
    exact ⟨none, 0, rfl, Nat.le_refl _, fun b o e => by simp at e, fun w' _ _ => GL.nil _ _ _⟩
  · refine ⟨_, cap, rfl, hnc, fun b o e => by
      simp only [Option.some.injEq, Addr.mk.injEq, and_true] at e
      omega, fun w' hs hk hn => ?_⟩
    obtain ⟨A1, c1, e1, _, hgl⟩ := OwnG.ret hg h2
    simp only [Value.slice.injEq] at e1
    obtain ⟨rfl, _, _⟩ := e1
    obtain ⟨b, o, e, hb', hc⟩ := hgl hn
    have e' := e
    simp only [Option.some.injEq, Addr.mk.injEq, and_true] at e'
    refine ⟨b, o, e, by omega, fun j x i u hx hu => ?_⟩
    rw [hk _ (by show B ≤ b; omega)]
    exact hc j x i u hx hu
theorem split_at {α : Type} {xs : List α} {k : Nat} {x : α} (h : xs[k]? = some x) : xs = xs.take k ++ x :: xs.drop (k + 1) ∧ (xs.take k).length = k := by
  obtain ⟨hk, rfl⟩ := List.getElem?_eq_some_iff.1 h
  exact ⟨by rw [← List.drop_eq_getElem_cons hk, List.take_append_drop], by rw [List.length_take]; omega⟩
theorem set_split {α : Type} {xs : List α} {k : Nat} {x : α} (h : xs[k]? = some x) (y : α) : xs.set k y = xs.take k ++ y :: xs.drop (k + 1) := by
  obtain ⟨hk, _⟩ := List.getElem?_eq_some_iff.1 h
  rw [List.set_eq_take_append_cons_drop, if_pos hk]
theorem app_own {P : Program} (w : World) (base : Nat) (t tx ty e : TypeId) (i : TypeInfo) (z : Value) (size bytes : Nat) (ht : P.underlying t = some (.slice e)) (hi : P.info? e = some i) (hz : i.zero = some z)
    (hsize : i.size = size) (hby : i.bytes = bytes) (hzs : z.cells.size = size) (_hsz : 0 < size)
    (v : Value) (n : Nat) (xs : List Value) (hown : w.ownsRow base e size v n xs) (x : Value) (m : Nat) (news : List Value) (hs : Src P size tx x m news w)
    (h63 : n + m ≤ maxLen) (hbytes : (n + m) * bytes ≤ 140737488355328) (hbase : base ≤ w.heap.size) :
    ∃ v' w', (Builtin.append_ #[t, tx] ty #[v, x]).run P w = .ok v' w' ∧ w'.ownsRow base e size v' (n + m) (xs ++ news) ∧ w.grownBy w' v.ownBlock ∧ ∀ q n' c', v' = .slice (some ⟨q, 0, none⟩) n' c' → (∃ n'' c'', v = .slice (some ⟨q, 0, none⟩) n'' c'') ∨ w.heap.size ≤ q := by
  subst hsize
  subst hby
  have hl := hs.newsLen
  have hsmall : n + m ≤ 9223372036854775807 := by simp only [maxLen] at h63; omega
  have hlen : (xs ++ news).length = (n + m) * i.size := by rw [List.length_append, hown.1, hl, Nat.add_mul]
  have grown : ∀ (old : Nat), old < n + m → ∀ (row : Option Nat),
      (w.drew.alloc (.cells ((xs ++ news).toArray ++ Builtin.zeroCells z.cells (grownCap w (n + m) old e - (n + m))) e)).ownsRow base e i.size
        (.slice (some ⟨w.heap.size, 0, none⟩) (n + m) (grownCap w (n + m) old e)) (n + m) (xs ++ news) ∧
      w.grownBy (w.drew.alloc (.cells ((xs ++ news).toArray ++ Builtin.zeroCells z.cells (grownCap w (n + m) old e - (n + m))) e)) row := by
    intro old ho row
    have hge := grownCap_ge w (n + m) old e
    have hcm : grownCap w (n + m) old e ≤ maxLen := grownCap_le_maxLen w (n + m) old e h63
    refine ⟨⟨hlen, .inr ⟨w.heap.size, _, _, rfl, hbase, heap_alloc_new w.drew _, hge, hcm, ?_, ?_⟩⟩, ⟨rfl, rfl, rfl, by simp, fun k hk _ => heap_alloc_old w.drew _ hk⟩⟩
    · simp only [Array.size_append, List.size_toArray, size_zeroCells, hzs, hlen]
      rw [← Nat.add_mul]
      congr 1
      omega
    · simp only [Array.toList_append]
      rw [← hlen]
      exact List.take_left
  rcases hown.2 with ⟨rfl, rfl⟩ | ⟨g, cap, cur, rfl, hbg, hg, hnc, hcm, hcs, htake⟩
  · have hx : xs = [] := List.eq_nil_of_length_eq_zero (by simpa using hown.1)
    subst hx
    by_cases hm : m = 0
    · subst hm
      have hn : news = [] := List.eq_nil_of_length_eq_zero (by simpa using hl)
      subst hn
      refine ⟨.slice none 0 0, w, ?_, World.ownsRow_nil w base e i.size, ⟨rfl, rfl, rfl, Nat.le_refl _, fun _ _ _ => rfl⟩, fun q n' c' e' => by cases e'⟩
      have hl2 := hs.len
      have hc2 := hs.cells
      rcases hs.kind with ⟨e', hk⟩ | hk <;> simp [Builtin.append_, run_underlying ht, run_underlying hk, sizeOf, typeInfo, hi, hl2, hc2]
    · have hr := run_append_grow_src (P := P) w t tx ty e i z ht hi hz none 0 0 [] (run_firstCells_none w.drew i.size 0 0 0) x m news hs (by omega) (by omega) (growslice_fits (by omega) hbytes)
      have hgr := grown 0 (by omega) (Value.ownBlock (.slice none 0 0))
      exact ⟨_, _, hr, hgr.1, hgr.2, fun q n' c' e' => .inr (by simp only [Value.slice.injEq, Option.some.injEq, Addr.mk.injEq, and_true] at e'; omega)⟩
  · by_cases hroom : n + m ≤ cap
    · have hfit : n * i.size + news.length ≤ cur.size := by rw [hl, hcs, ← Nat.add_mul]; exact Nat.mul_le_mul_right _ hroom
      have hst := run_storeCells_at P g (n * i.size) e news 0 cur w hg (by simpa using hfit) hs.one
      simp only [Nat.add_zero] at hst
      have hl2 := hs.len
      have hc2 := hs.cells
      have hr : (Builtin.append_ #[t, tx] ty #[.slice (some ⟨g, 0, none⟩) n cap, x]).run P w =
          .ok (.slice (some ⟨g, 0, none⟩) (n + m) cap) (w.setRow g (cur.toList.take (n * i.size) ++ news ++ cur.toList.drop (n * i.size + news.length)).toArray) := by
        rcases hs.kind with ⟨e', hk⟩ | hk <;> simp [Builtin.append_, run_underlying ht, run_underlying hk, sizeOf, typeInfo, hi, hl2, hroom, hc2, Addr.add_lit, hst]
      refine ⟨_, _, hr, ⟨hlen, .inr ⟨g, cap, _, rfl, hbg, setRow_heap w g cur _ e _ hg, hroom, hcm, ?_, ?_⟩⟩, ⟨rfl, rfl, rfl, by simp, fun k _ hk => setRow_other w g k _ (fun e => hk (by simp [Value.ownBlock, e]))⟩, fun q n' c' e' => .inl ⟨n, cap, by simp only [Value.slice.injEq, Option.some.injEq, Addr.mk.injEq, and_true] at e'; rw [e'.1]⟩⟩
      · simp only [List.size_toArray, List.length_append, List.length_take, List.length_drop, Array.length_toList]
        omega
      · rw [htake, ← hlen]
        exact List.take_left
    · have holds : ∀ j u, xs[j]? = some u → w.drew.cell? ((⟨g, 0, none⟩ : Addr).add j) = some u := by
        intro j u hj
        have := hown.cells (g := g) rfl j u hj
        simpa using this
      have hr := run_append_grow_src (P := P) w t tx ty e i z ht hi hz (some ⟨g, 0, none⟩) n cap xs (run_firstCells_some w.drew i.size n ⟨g, 0, none⟩ n cap xs hown.1 holds) x m news hs (by omega) (by omega) (growslice_fits (by omega) hbytes)
      have hgr := grown cap (by omega) (Value.ownBlock (.slice (some ⟨g, 0, none⟩) n cap))
      exact ⟨_, _, hr, hgr.1, hgr.2, fun q n' c' e' => .inr (by simp only [Value.slice.injEq, Option.some.injEq, Addr.mk.injEq, and_true] at e'; omega)⟩
section
variable {α : Type} {e : TypeId} {g : α → List Value} {k : Nat} {w w' : World} {B : Nat} {v : Value} {xs : List α}
theorem own_rowG {v : Value} {xs : List α} (h : OwnG e g k w B v xs) : (v = .slice none 0 0 ∧ xs = []) ∨ ∃ q cap sp, v = .slice (some ⟨q, 0, none⟩) xs.length cap ∧ B ≤ q ∧ BK e w q (xs.flatMap g ++ sp) ∧ xs.length ≤ cap ∧ cap ≤ maxLen ∧ (xs.flatMap g ++ sp).length = cap * k := by
  unfold OwnG at h
  have hlen := h.1
  rcases h.2 with ⟨rfl, hn⟩ | ⟨q, cap, cur, rfl, hb, hq, hnc, hcm, hcs, htake⟩
  · exact .inl ⟨rfl, List.eq_nil_of_length_eq_zero hn⟩
  · refine .inr ⟨q, cap, cur.toList.drop (xs.length * k), rfl, hb, ?_, hnc, hcm, ?_⟩
    · unfold BK; rw [← htake, List.take_append_drop]; simpa using hq
    · rw [← htake, List.take_append_drop]; simpa using hcs
theorem row_ownG (hg : ∀ x, (g x).length = k) {q cap : Nat} {xs : List α} {sp : List Value} (hb : B ≤ q) (hq : BK e w q (xs.flatMap g ++ sp)) (hnc : xs.length ≤ cap) (hcm : cap ≤ maxLen) (hl : (xs.flatMap g ++ sp).length = cap * k) : OwnG e g k w B (.slice (some ⟨q, 0, none⟩) xs.length cap) xs := by
  unfold OwnG
  exact ⟨flat_len hg xs, .inr ⟨q, cap, (xs.flatMap g ++ sp).toArray, rfl, hb, hq, hnc, hcm, by simpa using hl, by
    show (xs.flatMap g ++ sp).take (xs.length * k) = _
    rw [← flat_len hg xs, List.take_left' rfl]⟩⟩
theorem row_atG (hg : ∀ x, (g x).length = k) {T : TypeId} {q : Nat} {xs : List α} {sp : List Value} (h : BK T w q (xs.flatMap g ++ sp)) {j : Nat} {x : α} (hx : xs[j]? = some x) : ∀ i v, (g x)[i]? = some v → w.cell? ⟨q, j * k + i, none⟩ = some v := fun i v hv => by
  have hi : i < k := by rw [← hg x]; exact (List.getElem?_eq_some_iff.1 hv).1
  refine h.cell _ ?_
  have hj : j < xs.length := (List.getElem?_eq_some_iff.1 hx).1
  have : j * k + k ≤ xs.length * k := by rw [← Nat.succ_mul]; exact Nat.mul_le_mul hj (Nat.le_refl _)
  rw [List.getElem?_append_left (by rw [flat_len hg]; omega), flat_at hg xs j x i hx hi]
  exact hv
theorem set_in (L M R : List Value) (off : Nat) (v : Value) (h : off < M.length) : (L ++ M ++ R).set (L.length + off) v = L ++ M.set off v ++ R := by
  rw [List.append_assoc, List.set_append_right _ _ (by omega), Nat.add_sub_cancel_left, List.set_append_left _ _ h, ← List.append_assoc]
theorem set_atG (hg : ∀ x, (g x).length = k) {xs : List α} {j : Nat} {x : α} (h : xs[j]? = some x) (y : α) (off : Nat) (v : Value) (sp : List Value) (hy : g y = (g x).set off v) (hf : off < k) : (xs.flatMap g ++ sp).set (j * k + off) v = (xs.set j y).flatMap g ++ sp := by
  obtain ⟨e, hl⟩ := split_at h
  rw [set_split h y]
  conv => lhs; rw [e]
  rw [List.flatMap_append, List.flatMap_cons, List.flatMap_append, List.flatMap_cons, hy]
  have h1 : ((xs.take j).flatMap g).length = j * k := by rw [flat_len hg, hl]
  have := set_in ((xs.take j).flatMap g) (g x) ((xs.drop (j + 1)).flatMap g ++ sp) off v (by rw [hg]; exact hf)
  rw [h1] at this
  simp only [List.append_assoc] at this ⊢
  exact this

theorem BK.grow {T : TypeId} {w w' : World} {M : Nat} {vs : List Value} (h : BK T w M vs) {row : Option Nat} (hg : w.grownBy w' row) (hne : row ≠ some M) : BK T w' M vs :=
  (hg.block _ h.lt (fun e => hne e.symm)).trans h
theorem OwnG.off {w : World} {B : Nat} {v : Value} {xs : List α} (h : OwnG e g k w B v xs) {b : Nat} (hb : b < B) : v.ownBlock ≠ some b := fun e2 => by
  have := (World.ownsRow.lt h b e2).1
  omega
theorem OwnG.high {w : World} {B : Nat} {v : Value} {xs : List α} (h : OwnG e g k w B v xs) {b : Nat} (hb : w.heap.size ≤ b) : v.ownBlock ≠ some b := fun e2 => by
  have := (World.ownsRow.lt h b e2).2
  omega
theorem Below.grow {w w' w0 : World} {B0 B : Nat} {v : Value} {xs : List α} (hb : Below B0 w0 w) (h : OwnG e g k w B v xs) (hg : w.grownBy w' v.ownBlock) (hB : B0 ≤ w.heap.size) (hle : B0 ≤ B) : Below B0 w0 w' := hb.grown hg hB (fun j hj => Nat.le_trans hle (World.ownsRow.lt h j hj).1)
/-- another list of the call's own stays where one grows -/
theorem OwnG.grow {α' : Type} {g' : α' → List Value} {k' : Nat} {e' : TypeId} {w w' : World} {B : Nat} {v : Value} {xs : List α'} (h : OwnG e' g' k' w B v xs) {row : Option Nat} (hg : w.grownBy w' row) (hne : ∀ b, v.ownBlock = some b → row ≠ some b) : OwnG e' g' k' w' B v xs := by
  unfold OwnG at h ⊢
  refine ⟨h.1, ?_⟩
  rcases h.2 with h' | ⟨q, cap, cur, rfl, hB, hq, hnc, hcm, hcs, htake⟩
  · exact .inl h'
  · exact .inr ⟨q, cap, cur, rfl, hB, by rw [hg.block q (Array.getElem?_eq_some_iff.1 hq).1 (fun e2 => hne q rfl e2.symm)]; exact hq, hnc, hcm, hcs, htake⟩
theorem own_lt (h : OwnG e g k w B v xs) (b : Nat) (e2 : v.ownBlock = some b) : B ≤ b ∧ b < w.heap.size := World.ownsRow.lt h b e2
end
section
variable {P : Program} {α : Type} {g : α → List Value} {k : Nat} {e : TypeId}
theorem oper_appG {o : Oper} {a : Act} {wr : World} {K : Act → World → Prop} {Q : Exit → Act → World → Prop} (hk0 : 0 < k) (s x : Operand) (t tx : TypeId)
    (ho : o.op = .call { callee := .builtin .append, args := #[s, x], argTypes := #[t, tx] }) (z : Value) (bytes : Nat) (ht : P.underlying t = some (.slice e))
    (hi : (P.info? e).map (fun i => (i.zero, i.size, i.bytes)) = some (some z, k, bytes)) (hzs : z.cells.size = k) (hby : 0 < bytes) (B : Nat) (v : Value) (xs ys : List α) (vx : Value) (hs : a.eval s = v) (hown : OwnG e g k wr B v xs)
    (hx : a.eval x = vx) (hsrc : Src P k tx vx ys.length (ys.flatMap g) wr) (hB : B ≤ wr.heap.size) (hn : (xs.length + ys.length) * bytes ≤ 140737488355328)
    (h : ∀ v' w', OwnG e g k w' B v' (xs ++ ys) → wr.grownBy w' v.ownBlock → (∀ b, b < wr.heap.size → v.ownBlock ≠ some b → v'.ownBlock ≠ some b) → K (a.put o.dst v') w') : o.wp P a wr K Q := by
  obtain ⟨i, hi, hz, hz1, hz2⟩ := info_parts hi
  have hn2 : xs.length + ys.length ≤ 140737488355328 := Nat.le_trans (Nat.le_mul_of_pos_right _ hby) hn
  obtain ⟨v', w', hr, h2, h3, h4⟩ := app_own (P := P) wr B t tx o.type e i _ k bytes ht hi hz hz1 hz2 hzs hk0 v xs.length (xs.flatMap g) hown _ ys.length (ys.flatMap g) hsrc (by unfold maxLen; omega) hn hB
  unfold Oper.wp execOp
  simp only [ho, resolve, invoke, builtin, Sem.run_bind, Sem.run_pure, Result.andThen_ok, List.map_toArray, List.map_cons, List.map_nil, hs, hx, hr]
  refine h v' w' ?_ h3 (fun b hb hne e2 => ?_)
  · unfold OwnG
    simpa [List.flatMap_append] using h2
  · rcases h2.2 with ⟨rfl, _⟩ | ⟨q, cap, cur, rfl, _⟩
    · simp [Value.ownBlock] at e2
    · simp only [Value.ownBlock, Option.some.injEq] at e2
      subst e2
      rcases h4 _ _ _ rfl with ⟨n'', c'', hv⟩ | hq
      · exact hne (by rw [hv]; rfl)
      · omega
/-- the one element of a new block, to be appended -/
theorem src_blk (hg : ∀ x, (g x).length = k) (h1 : ∀ x, ∀ u ∈ g x, u.oneCell' = true) {t : TypeId} (ht : P.underlying t = some (.slice e)) {w : World} {b : Nat} {x : α} (h : BK e w b (g x)) : Src P k t (.slice (some ⟨b, 0, none⟩) 1 1) 1 ([x].flatMap g) w := by
  have := GL.src (A := some ⟨b, 0, none⟩) (xs := [x]) (B := w.heap.size) hg h1 (w := w) (fun _ => ⟨b, 0, rfl, h.lt, fun j y i v hy hv => ?_⟩) ht 1
  · simpa using this
  · cases j with
    | zero =>
      simp at hy
      subst hy
      have hi : i < (g x).length := (List.getElem?_eq_some_iff.1 hv).1
      have := h.cell i hv
      simpa using this
    | succ j => simp at hy
end
theorem S2.Put.of_set {w : World} {g o : Nat} {u : Value} {T : TypeId} {vs : List Value} (_h : BK T w g vs) : Put g w (w.setCell ⟨g, o, none⟩ u) :=
  ⟨fun hM hne => hM.other hne _, fun hb hg => hb.setCell (p := ⟨g, o, none⟩) hg _, by simp, fun {p} hp => S2.set_other _ _ _ _ _ hp⟩
end Go.Proofs.Ytbmeimpfehjnfaa
