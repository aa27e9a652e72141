/-
  A list of entries that grows at its end and loses elements in its middle, in memory of its own or cut to its length; what the law about the order keeps, as plain data. Conditions: the lists read as data; few entries.
-/
import Derived.Test.YtjhojpghllnoiaaDoorQaV
import Derived.Test.YtjhojpghllnoiaaDoorQaL
namespace Go.Proofs.YtjhojpghllnoiaaDoor
open Go.RowKit
open S2 (BK Put get_ops)

/-- a list whose memory lies from block B on: of its own and below block N, or cut to its length -/
def Out (B N : Nat) (w : World) (v : Value) (xs : List EE) : Prop := (LstE B w v xs ∧ ∀ q, v.ownBlock = some q → q < N) ∨ ∃ A, v = .slice A xs.length xs.length ∧ EN w B A xs
theorem Out.nil (B N : Nat) (w : World) : Out B N w (.slice none 0 0) [] := Or.inr ⟨none, rfl, LN.nil⟩
theorem Out.step {B N : Nat} {w w' : World} {v : Value} {xs : List EE} (h : Out B N w v xs) (hb : Below w.heap.size w w') : Out B N w' v xs := by
  rcases h with ⟨h, hq⟩ | ⟨A, e, h⟩
  · exact Or.inl ⟨h.step hb, hq⟩
  · exact Or.inr ⟨A, e, h.step hb⟩
theorem Out.put {B N g : Nat} {w w' : World} {v : Value} {xs : List EE} (h : Out B N w v xs) (hp : Put g w w') (hg : g < B) : Out B N w' v xs := by
  rcases h with ⟨h, hq⟩ | ⟨A, e, h⟩
  · exact Or.inl ⟨lst_put h hp hg, hq⟩
  · exact Or.inr ⟨A, e, h.put hp hg⟩
theorem Out.more {B N N' : Nat} {w : World} {v : Value} {xs : List EE} (h : Out B N w v xs) (hN : N ≤ N') : Out B N' w v xs := by
  rcases h with ⟨h, hq⟩ | ⟨A, e, h⟩
  · exact Or.inl ⟨h, fun q e => Nat.lt_of_lt_of_le (hq q e) hN⟩
  · exact Or.inr ⟨A, e, h⟩
theorem Out.of {B N : Nat} {w : World} {v : Value} {xs : List EE} (h : Out B N w v xs) : ∃ A c, v = .slice A xs.length c ∧ xs.length ≤ c ∧ EN w B A xs := by
  rcases h with ⟨h, _⟩ | ⟨A, e, h⟩
  · exact LN.of gE_len h
  · exact ⟨A, _, e, Nat.le_refl _, h⟩
/-- what an append to such a list leaves as it was -/
structure Kpo (B N Bp : Nat) (w w' : World) : Prop where
  below : ∀ {C : Nat} {w0 : World}, Below C w0 w → C ≤ B → Below C w0 w'
  bk : ∀ {M : Nat} {T : TypeId} {vs : List Value}, BK T w M vs → (M < B ∨ N ≤ M) → BK T w' M vs
  en : ∀ {A : Option Addr} {ys : List EE}, EN w Bp A ys → EN w' Bp A ys
theorem Kpo.of {B N Bp : Nat} {w w' : World} (h : Below w.heap.size w w') (hB : B ≤ w.heap.size) : Kpo B N Bp w w' := ⟨fun hb hC => hb.trans (h.mono (Nat.le_trans hC hB)), fun hM _ => hM.step h, fun he => he.step h⟩
theorem LI.grow {w w' : World} {A : Option Addr} {ys : List EE} {row : Option Nat} (h : EI w w.heap.size A ys) (hg : w.grownBy w' row) (h1 : ∀ b o, A = some ⟨b, o, none⟩ → row ≠ some b) (h2 : ∀ y ∈ ys, ∀ b o, y.a = some ⟨b, o, none⟩ → row ≠ some b) : EI w' w'.heap.size A ys := by
  refine ⟨fun hn => ?_, fun y hy => PL.grow (h.2 y hy) hg (fun b o e _ => h2 y hy b o e)⟩
  obtain ⟨b, o, e, hb, hc⟩ := h.1 hn
  refine ⟨b, o, e, Nat.lt_of_lt_of_le hb hg.size, fun j x i u hx hu => ?_⟩
  rw [World.cell?_of_block (a := ⟨b, o + j * 12 + i, none⟩) (hg.block b hb (fun e2 => h1 b o e e2.symm))]
  exact hc j x i u hx hu
theorem Below.grow2 {B0 : Nat} {w0 w w' : World} {row : Option Nat} (hb : Below B0 w0 w) (hg : w.grownBy w' row) (hB : B0 ≤ w.heap.size) (hr : ∀ k, row = some k → B0 ≤ k) : Below B0 w0 w' := hb.grown hg hB hr
section
variable {ops : Array Oper} {rest : List Oper} {o : Oper} {a : Act} {Q : Exit → Act → World → Prop}
/-- one element behind such a list -/
theorem wpList_out1 {B N Bp : Nat} (wr : World) (hgd : o.guard = none) (s x : Operand) (ho : o.op = .call { callee := .builtin .append, args := #[s, x], argTypes := #[24, 24] }) (v : Value) (xs : List EE) (y : EE) (hs : a.eval s = v) (hout : Out B N wr v xs)
    (hx : a.eval x = .slice (some ⟨wr.heap.size, 0, none⟩) 1 1) (hp : PL wr wr.heap.size y.a (eps y)) (hnw : NewL Bp y.a) (hBN : B ≤ N) (hNp : N ≤ Bp) (hpw : Bp ≤ wr.heap.size) (hn : xs.length ≤ 100000)
    (h : ∀ v' w', Out B w'.heap.size w' v' (xs ++ [y]) → Kpo B N Bp wr w' → wpList Tryd.prog ops Q rest (a.put o.dst v') w') : wpList Tryd.prog ops Q (o :: rest) a (wr.alloc (.cells (gE y).toArray 34)) := by
  have hst := S2.below_new wr (.cells (gE y).toArray 34)
  have hBw : B ≤ wr.heap.size := by omega
  rcases hout with ⟨hl, hq⟩ | ⟨A, rfl, hen⟩
  · refine wpList_plain hgd fun _ hK => ?_
    have hl2 := hl.step hst
    refine oper_appG (P := Tryd.prog) (by decide) s x 24 24 ho (.agg (enX En.zero none 0).toArray) 136 Tryd.underlying24 enInfo rfl (by decide) B v xs [y] _ hs hl2.1 hx (srcG_one gE_len gE_one Tryd.underlying24 wr y) (by simp; omega) (by simp; omega) ?_
    intro v' w' hown' hgr hoffs
    have hsz : wr.heap.size ≤ w'.heap.size := Nat.le_trans hst.size hgr.size
    have hrow : ∀ k, v.ownBlock = some k → B ≤ k := fun k e => (own_lt hl.1 k e).1
    refine hK _ _ (h v' w' (Or.inl ⟨⟨hown', fun z hz => ?_⟩, fun q e => ?_⟩) ⟨fun hb hC => ?_, fun hM hMB => ?_, fun he => ?_⟩)
    · have hp2 : PL wr wr.heap.size z.a (eps z) ∧ (∀ b o, z.a = some ⟨b, o, none⟩ → 0 < (eps z).length → v.ownBlock ≠ some b) ∧ NewL B z.a := by
        rcases List.mem_append.1 hz with hz | hz
        · refine ⟨(hl.2 z hz).1, fun b o e hn e2 => ?_, (hl.2 z hz).2.2⟩
          obtain ⟨A3, c3, e3, _, _⟩ := OwnG.ret gE_len hl.1
          have h4 := (hl.2 z hz).2.1 b o e hn
          rcases hl.1.2 with ⟨e5, _⟩ | ⟨q, cap, cur, e5, _⟩
          · rw [e5] at e2
            simp [Value.ownBlock] at e2
          · rw [e5] at e2
            simp only [Value.ownBlock, Option.some.injEq] at e2
            exact h4 q _ _ e5 e2.symm
        · simp at hz
          subst hz
          exact ⟨hp, fun b o e hn e2 => by have := hnw b o e; have := hq b e2; omega, fun b o e => by have := hnw b o e; omega⟩
      obtain ⟨p1, p2, p3⟩ := hp2
      have p4 := p1.step hst
      refine ⟨PL.grow p4 hgr (fun b o e hn => p2 b o e hn), fun b o e hn q n c ev => ?_, p3⟩
      have h5 := hoffs b (PL.lt p4 hn b o e) (p2 b o e hn)
      rw [ev] at h5
      simp only [Value.ownBlock, ne_eq, Option.some.injEq] at h5
      exact fun e9 => h5 e9.symm
    · exact (own_lt hown' q e).2
    · exact Below.grow2 (hb.trans (hst.mono (by omega))) hgr (by simp; omega) (fun k e => Nat.le_trans hC (hrow k e))
    · refine BK.grow (hM.step hst) hgr (fun e => ?_)
      have h1 := hrow _ e
      have h2 := hq _ e
      omega
    · exact ⟨LI.grow (he.1.step hst) hgr (fun b o e e2 => by have h1 := he.2.1 b o e; have h2 := hq b e2; omega) (fun y hy b o e e2 => by have h1 := he.2.2 y hy b o e; have h2 := hq b e2; omega), he.2⟩
  · refine wpList_cut1 gE_len gE_one (by decide) wr hgd s x 24 ho (.agg (enX En.zero none 0).toArray) 136 Tryd.underlying24 enInfo rfl (by decide) A xs y hs hen.1.1 hx (by omega) ?_
    intro v' w' hown hb hs'
    refine h v' w' (Or.inl ⟨⟨hown.weak hBw, fun z hz => ?_⟩, fun q e => (own_lt hown q e).2⟩) (Kpo.of hb hBw)
    have hp2 : PL wr wr.heap.size z.a (eps z) ∧ NewL B z.a := by
      rcases List.mem_append.1 hz with hz | hz
      · exact ⟨hen.1.2 z hz, hen.2.2 z hz⟩
      · simp at hz
        subst hz
        exact ⟨hp, fun b o e => by have := hnw b o e; omega⟩
    refine ⟨hp2.1.step hb, fun b o e hn q n c ev e9 => ?_, hp2.2⟩
    have h1 := (ownG_lt hown q n c ev).1
    have h2 := PL.lt hp2.1 hn b o e
    omega
/-- a list behind another one that is cut to its length: what comes lies in new memory, or nothing comes -/
theorem oper_appCut {P : Program} {α : Type} {g : α → List Value} {k : Nat} {e : TypeId} {wr : World} {K : Act → World → Prop} (hg : ∀ x, (g x).length = k) (h1 : ∀ x, ∀ u ∈ g x, u.oneCell' = true) (s x : Operand) (t tx : TypeId)
    (ho : o.op = .call { callee := .builtin .append, args := #[s, x], argTypes := #[t, tx] }) (z : Value) (bytes : Nat) (ht : P.underlying t = some (.slice e))
    (hi : (P.info? e).map (fun i => (i.zero, i.size, i.bytes)) = some (some z, k, bytes)) (hzs : z.cells.size = k) (hby : 0 < bytes) {B : Nat} (b off : Nat) (xs ys : List α) (hs : a.eval s = .slice (some ⟨b, off, none⟩) xs.length xs.length) (hA : GL g k wr B (some ⟨b, off, none⟩) xs)
    (vx : Value) (hx : a.eval x = vx) (hsrc : Src P k tx vx ys.length (ys.flatMap g) wr) (hn : (xs.length + ys.length) * bytes ≤ 140737488355328)
    (h0 : ys = [] → K (a.put o.dst (.slice (some ⟨b, off, none⟩) xs.length xs.length)) wr)
    (h : ∀ v' w', OwnG e g k w' wr.heap.size v' (xs ++ ys) → Below wr.heap.size wr w' → K (a.put o.dst v') w') : o.wp P a wr K Q := by
  obtain ⟨i, hi2, hz, hz1, hz2⟩ := info_parts hi
  subst hz1
  subst hz2
  have hn2 : xs.length + ys.length ≤ 140737488355328 := Nat.le_trans (Nat.le_mul_of_pos_right _ hby) hn
  by_cases he : ys.length = 0
  · have e0 : ys = [] := List.eq_nil_of_length_eq_zero he
    subst e0
    have hr := run_append_room_src (P := P) (w := wr) t tx o.type e i ht hi2 b off xs.length xs.length vx 0 [] (by simpa using hsrc) (by omega) (fun j hj => absurd hj (by simp)) (fun j hj => absurd hj (by simp))
    unfold Oper.wp execOp
    simp only [ho, resolve, invoke, builtin, Sem.run_bind, Sem.run_pure, Result.andThen_ok, List.map_toArray, List.map_cons, List.map_nil, hs, hx, hr]
    exact h0 rfl
  · have hr := run_append_grow_src (P := P) wr t tx o.type e i z ht hi2 hz (some ⟨b, off, none⟩) xs.length xs.length (xs.flatMap g) (GL.src hg h1 hA ht xs.length).cellsD vx ys.length (ys.flatMap g) hsrc (by omega) (by omega) (growslice_fits (by omega) hn)
    have hge := grownCap_ge wr (xs.length + ys.length) xs.length e
    have hcm : grownCap wr (xs.length + ys.length) xs.length e ≤ maxLen := grownCap_le_maxLen wr (xs.length + ys.length) xs.length e (by unfold maxLen; omega)
    have hlen : (xs.flatMap g ++ ys.flatMap g).length = (xs.length + ys.length) * i.size := by rw [List.length_append, flat_len hg, flat_len hg, Nat.add_mul]
    unfold Oper.wp execOp
    simp only [ho, resolve, invoke, builtin, Sem.run_bind, Sem.run_pure, Result.andThen_ok, List.map_toArray, List.map_cons, List.map_nil, hs, hx, hr]
    refine h _ _ ?_ ?_
    · unfold OwnG
      rw [List.length_append, List.flatMap_append]
      refine ⟨hlen, .inr ⟨wr.heap.size, _, _, rfl, Nat.le_refl _, heap_alloc_new wr.drew _, hge, hcm, ?_, ?_⟩⟩
      · simp only [Array.size_append, List.size_toArray, size_zeroCells, hzs, hlen]
        rw [← Nat.add_mul]
        congr 1
        omega
      · simp only [Array.toList_append]
        rw [← hlen]
        exact List.take_left
    · exact ((Below.refl wr.heap.size wr).drew).alloc (Nat.le_refl _) _
/-- a part of a list behind another one that is cut to its length -/
theorem oper_outcut {B : Nat} {wr : World} {K : Act → World → Prop} (s x : Operand) (ho : o.op = .call { callee := .builtin .append, args := #[s, x], argTypes := #[24, 24] }) (b off : Nat) (xs ys : List EE) (hs : a.eval s = .slice (some ⟨b, off, none⟩) xs.length xs.length) (hxs : EN wr B (some ⟨b, off, none⟩) xs)
    (A : Option Addr) (c : Nat) (hx : a.eval x = .slice A ys.length c) (hys : EI wr wr.heap.size A ys) (hyn : ∀ y ∈ ys, NewL B y.a) (hB : B ≤ wr.heap.size) (hn : xs.length + ys.length ≤ 100000)
    (h : ∀ v' w', Out B w'.heap.size w' v' (xs ++ ys) → Below wr.heap.size wr w' → K (a.put o.dst v') w') : o.wp Tryd.prog a wr K Q := by
  refine oper_appCut (B := wr.heap.size) gE_len gE_one s x 24 24 ho (.agg (enX En.zero none 0).toArray) 136 Tryd.underlying24 enInfo rfl (by decide) b off xs ys hs hxs.1.1 _ hx (GL.src gE_len gE_one hys.1 Tryd.underlying24 c) (by omega) (fun e0 => ?_) (fun v' w' hown hb => ?_)
  · subst e0
    have h9 := h (.slice (some ⟨b, off, none⟩) xs.length xs.length) wr (Or.inr ⟨some ⟨b, off, none⟩, by simp, by simpa using hxs⟩) (Below.refl _ _)
    exact h9
  · refine h v' w' (Or.inl ⟨⟨hown.weak hB, fun z hz => ?_⟩, fun q e => (own_lt hown q e).2⟩) hb
    have hp2 : PL wr wr.heap.size z.a (eps z) ∧ NewL B z.a := by
      rcases List.mem_append.1 hz with hz | hz
      · exact ⟨hxs.1.2 z hz, hxs.2.2 z hz⟩
      · exact ⟨hys.2 z hz, hyn z hz⟩
    refine ⟨hp2.1.step hb, fun b o e hn q n c ev e9 => ?_, hp2.2⟩
    have h1 := (ownG_lt hown q n c ev).1
    have h2 := PL.lt hp2.1 hn b o e
    omega
end
/-! ### What the law keeps -/
structure QOI (n : Nat) (L X : List En) : Prop where
  srt : SortQ L
  nod : ((L ++ X).map En.k).Nodup
  ent : ∀ a ∈ L ++ X, entR a ((n : Int) + 1) = 0
  cnt : L.length + X.length = n
theorem QOI.nil : QOI 0 [] [] := ⟨List.Pairwise.nil, List.Pairwise.nil, (fun a h => by cases h), rfl⟩
theorem insQ_perm (l : List En) (x : En) : (insQ l x).Perm (x :: l) := by
  unfold insQ
  have h := List.perm_middle (a := x) (l₁ := l.take (posQ l x)) (l₂ := l.drop (posQ l x))
  rw [List.take_append_drop] at h
  exact h
theorem QOI.push {n : Nat} {L X : List En} {m : Msg} {s : Sp} (h : QOI n L X) (hk : pushK s ((n : Int) + 1) L.length m 7 = 0) : QOI (n + 1) (insQ L (pushE ((n : Int) + 1) 7 m)) X := by
  have hck : checkR m = 0 ∧ n < 1099511627776 := by
    unfold pushK at hk
    by_cases c1 : checkR m ≠ 0
    · rw [if_pos c1] at hk
      omega
    rw [if_neg c1, if_neg (by decide)] at hk
    by_cases c3 : s.max ≤ (L.length : Int) ∨ 1099511627776 ≤ (n : Int) + 1
    · rw [if_pos c3] at hk
      omega
    exact ⟨by omega, by omega⟩
  have hlt : ∀ a ∈ L ++ X, a.k ≤ n := fun a ha => by have := (entR_parts (h.ent a ha)).1; omega
  have hp : (insQ L (pushE ((n : Int) + 1) 7 m) ++ X).Perm (pushE ((n : Int) + 1) 7 m :: (L ++ X)) := (insQ_perm L _).append_right X
  refine ⟨insQ_sort h.srt (fun a ha e => ?_), ?_, fun a ha => ?_, ?_⟩
  · have h1 := hlt a (List.mem_append_left _ ha)
    have h2 : a.k = (n : Int) + 1 := e
    omega
  · refine (hp.map En.k).nodup_iff.2 ?_
    rw [List.map_cons, List.nodup_cons]
    refine ⟨fun hm => ?_, h.nod⟩
    obtain ⟨a, ha, e⟩ := List.mem_map.1 hm
    have h1 := hlt a ha
    have h2 : a.k = (n : Int) + 1 := e
    omega
  · rcases List.mem_cons.1 (hp.mem_iff.1 ha) with rfl | ha
    · exact entR_zero ⟨by show (1 : Int) ≤ (n : Int) + 1; omega, by show (n : Int) + 1 ≤ ((n + 1 : Nat) : Int) + 1 - 1; omega⟩ ⟨by show (0 : Int) ≤ 7; decide, by show (7 : Int) ≤ _; decide⟩ ⟨by show (0 : Int) ≤ 0; decide, by show (0 : Int) ≤ _; decide⟩ hck.1
    · exact entR_more (h.ent a ha) (by omega)
  · rw [insQ_len, ← h.cnt]
    omega
theorem QOI.pop {n : Nat} {x : En} {L X : List En} (h : QOI n (x :: L) X) : QOI n L (X ++ [x]) := by
  have hp : (L ++ (X ++ [x])).Perm (x :: L ++ X) := by
    rw [← List.append_assoc]
    exact List.perm_append_comm
  refine ⟨(List.pairwise_cons.1 h.srt).2, (hp.map En.k).nodup_iff.2 h.nod, fun a ha => h.ent a (hp.mem_iff.1 ha), ?_⟩
  have := h.cnt
  simp at this ⊢
  omega
theorem QOI.ret {n i : Nat} {x : En} {L X : List En} (h : QOI n L X) (hx : X[i]? = some x) : QOI n (insQ L x) (X.take i ++ X.drop (i + 1)) ∧ retK ((n : Int) + 1) L x = 0 ∨ 4352 ≤ L.length := by
  by_cases hl : 4352 ≤ L.length
  · exact Or.inr hl
  refine Or.inl ?_
  have hxp : X.Perm (x :: (X.take i ++ X.drop (i + 1))) := by
    have h1 := List.perm_middle (a := x) (l₁ := X.take i) (l₂ := X.drop (i + 1))
    rw [← dropE hx, List.take_append_drop] at h1
    exact h1
  have hp : (insQ L x ++ (X.take i ++ X.drop (i + 1))).Perm (L ++ X) := ((insQ_perm L x).append_right _).trans ((List.perm_middle (a := x) (l₁ := L) (l₂ := X.take i ++ X.drop (i + 1))).symm.trans (hxp.symm.append_left L))
  have hne : ∀ a ∈ L, a.k ≠ x.k := fun a ha e => by
    have h1 := h.nod
    rw [List.map_append, List.nodup_append] at h1
    exact h1.2.2 _ (List.mem_map_of_mem ha) _ (List.mem_map_of_mem (List.mem_of_getElem? hx)) e
  have hxm : x ∈ L ++ X := List.mem_append_right _ (List.mem_of_getElem? hx)
  refine ⟨⟨insQ_sort h.srt hne, (hp.map En.k).nodup_iff.2 h.nod, fun a ha => h.ent a (hp.mem_iff.1 ha), ?_⟩, ?_⟩
  · have h1 := hp.length_eq
    have h2 := h.cnt
    simp only [List.length_append] at h1 ⊢
    omega
  · unfold retK
    rw [h.ent x hxm, if_neg (by decide), hasQ_none hne, if_neg (by decide), if_neg (by omega)]
theorem QOI.props {n : Nat} {L X : List En} (h : QOI n L X) {a : En} (ha : a ∈ L ++ X) : a.m.props.length ≤ 4398046511104 := by
  have h1 := propsR_parts (checkR_parts (entR_parts (h.ent a ha)).2.2.2)
  have := h1.1
  omega
end Go.Proofs.YtjhojpghllnoiaaDoor
