/-
  Ground for lists of structs with a message each: loads and stores of them, lists that a call builds, clones of properties. Conditions: the lists read as data; few elements.
-/
import Derived.Test.YtjhojpghllnoiaaDoorMbx2
import Derived.Test.YtjhojpghllnoiaaDoorBlk
import Derived.Test.YtjhojpghllnoiaaDoorKeyP
namespace Go.Proofs.YtjhojpghllnoiaaDoor
open Go.RowKit
open S2 (BK Put)

theorem BK.mt {T : TypeId} {w : World} {M : Nat} {vs : List Value} (h : BK T w M vs) : MT T w M vs := h
theorem ones {vs : List Value} (h : vs.all (fun v => v.oneCell') = true) : ∀ u ∈ vs, u.oneCell' = true := fun u hu => List.all_eq_true.1 h u hu
theorem msgV_cells (m : Msg) (A : Option Addr) (c : Nat) : msgV m A c = .agg (msgC m A c).toArray := rfl
theorem msgC_len (m : Msg) (A : Option Addr) (c : Nat) : (msgC m A c).length = 9 := rfl
theorem msgC_one (m : Msg) (A : Option Addr) (c : Nat) : ∀ u ∈ msgC m A c, u.oneCell' = true := ones rfl
theorem msgSize : (Tryd.prog.info? 32).map (·.size) = some 9 := by kernel_rfl
/-- a window that a call answers, all its lists new -/
def NewL (B : Nat) (A : Option Addr) : Prop := ∀ b o, A = some ⟨b, o, none⟩ → B ≤ b
section
variable {P : Program}
/-- a struct is loaded from cells that hold it, wherever they lie -/
theorem run_load_cells (w : World) (b o : Nat) (cs : List Value) (ty : TypeId) (d : TypeDesc) (hc : ∀ i v, cs[i]? = some v → w.cell? ⟨b, o + i, none⟩ = some v)
    (hu : P.underlying ty = some d) (hd : (match d with | .struct _ | .array _ _ => true | _ => false) = true) (hi : (P.info? ty).map (·.size) = some cs.length) :
    (loadVar ty ⟨b, o, none⟩).run P w = .ok (.agg cs.toArray) w := by
  have hl : (loadCells ⟨b, o, none⟩ cs.length).run P w = .ok cs.toArray w :=
    run_loadCells_list (P := P) w ⟨b, o, none⟩ cs (fun j v hv => by
      have hadd : (⟨b, o, none⟩ : Addr).add j = ⟨b, o + j, none⟩ := by unfold Addr.add; split <;> simp_all
      rw [hadd]
      exact hc j v hv)
  cases hq : P.info? ty with
  | none => simp [hq] at hi
  | some i =>
    have hs : i.size = cs.length := by simpa [hq] using hi
    have hagg : (isAgg ty).run P w = .ok true w := by
      unfold isAgg
      rw [Sem.run_bind, run_underlying hu w]
      cases d <;> simp_all
    simp [loadVar, Sem.run_bind, hagg, sizeOf, typeInfo, hq, hs, hl]
theorem wpList_load_v {ops : Array Oper} {rest : List Oper} {o : Oper} {a : Act} {w : World} {Q : Exit → Act → World → Prop} (hgd : Region.wanted o (yielded ops a.tmps) = true) (ty : TypeId) (x : Operand) (ho : o.op = .load ty x)
    (p : Addr) (hx : a.eval x = .pointer (some p)) (v : Value) (hl : (loadVar ty p).run P w = .ok v w) (h : wpList P ops Q rest (a.put o.dst v) w) : wpList P ops Q (o :: rest) a w :=
  wpList_wanted hgd fun _ hK => by
    unfold Oper.wp execOp
    simp only [ho, hx, Instr.loadAt, Instr.sureAddr, Sem.run_bind, Sem.run_pure, Result.andThen_ok, hl]
    exact hK _ _ h
/-- a part of block g is written over -/
theorem wpList_store_in {ops : Array Oper} {rest : List Oper} {o : Oper} {a : Act} {w : World} {Q : Exit → Act → World → Prop} (hgd : Region.wanted o (yielded ops a.tmps) = true) (ty : TypeId) (x y : Operand) (ho : o.op = .store ty x y) (hd : o.dst = none) (g off n : Nat) (hx : a.eval x = .pointer (some ⟨g, off, none⟩))
    (v : Value) (hy : a.eval y = v) (T : TypeId) (vs cs : List Value) (hM : BK T w g vs) (hv : v.cells = cs.toArray) (hn : cs.length = n) (hi : (P.info? ty).map (·.size) = some n) (hf : off + n ≤ vs.length) (h1 : ∀ u ∈ cs, u.oneCell' = true)
    (h : ∀ w', BK T w' g (putC vs off cs) → Put g w w' → wpList P ops Q rest a w') : wpList P ops Q (o :: rest) a w :=
  wpList_wanted hgd fun _ hK => wp_store ty x y ho hd _ hx v hy _ (run_store_part w g off n T ty vs cs v hv hn hi hM hf h1) (hK _ _ (h _ (MT.put hM off cs) (S2.put_row w g _)))
end
/-- an own list lies behind what was there -/
theorem OwnG.retB {α : Type} {g : α → List Value} {k : Nat} {e : TypeId} (hg : ∀ x, (g x).length = k) {w : World} {B : Nat} {v : Value} {xs : List α} (h : OwnG e g k w B v xs) : ∃ A c, v = .slice A xs.length c ∧ xs.length ≤ c ∧ NewL B A ∧
    ∀ w', w.heap.size ≤ w'.heap.size → (∀ p : Addr, B ≤ p.block → w'.cell? p = w.cell? p) → GL g k w' w'.heap.size A xs := by
  have h2 := h
  unfold OwnG at h
  rcases h.2 with ⟨rfl, hn⟩ | ⟨q, cap, cur, rfl, hb, hq, hnc, hcm, hcs, htake⟩
  · have : xs = [] := List.eq_nil_of_length_eq_zero hn
    subst this
    exact ⟨none, 0, rfl, Nat.le_refl _, fun b o e => by simp at e, fun w' _ _ => GL.nil _ _ _⟩
  · refine ⟨_, cap, rfl, hnc, fun b o e => by
      simp only [Option.some.injEq, Addr.mk.injEq, and_true] at e
      omega, fun w' hs hk hn => ?_⟩
    obtain ⟨A1, c1, e1, _, hgl⟩ := OwnG.ret hg h2
    simp only [Value.slice.injEq] at e1
    obtain ⟨rfl, _, _⟩ := e1
    obtain ⟨b, o, e, hb', hc⟩ := hgl hn
    have e' := e
    simp only [Option.some.injEq, Addr.mk.injEq, and_true] at e'
    refine ⟨b, o, e, by omega, fun j x i u hx hu => ?_⟩
    rw [hk _ (by show B ≤ b; omega)]
    exact hc j x i u hx hu
theorem prInfo : (Tryd.prog.info? 82).map (fun i => (i.zero, i.size, i.bytes)) = some (some (.agg #[.string ByteArray.empty, .string ByteArray.empty]), 2, 32) := by kernel_rfl
abbrev OwnPr (w : World) (B : Nat) (v : Value) (xs : List PR) : Prop := OwnG 82 gP 2 w B v xs
set_option maxHeartbeats 1000000 in
theorem cloneP_any (A : Option Addr) (c : Nat) (xs : List PR) (w : World) (hsl : PL w w.heap.size A xs) (hn : xs.length ≤ 4398046511104) :
    Calls Tryd.prog 57 #[.slice A xs.length c] w fun e w' => ∃ v, e = .returned v ∧ OwnPr w' w.heap.size v xs ∧ Below w.heap.size w w' := by
  have q22 : ∀ (w : World) (a : Option Addr) (n c n' c' : Nat), (binOp .eql 30 (.slice a n c) (.slice none n' c')).run Tryd.prog w = .ok (.bool a.isNone) w := fun w a n c n' c' => Lib.run_eql_slice_nil w _ _ a n c n' c' Tryd.underlying30
  cases A with
  | none =>
    have h0 : xs = [] := by
      rcases Nat.eq_zero_or_pos xs.length with h | h
      · exact List.eq_nil_of_length_eq_zero h
      · obtain ⟨b, o, e, _⟩ := hsl h; cases e
    subst h0
    clear hsl hn
    go_enter Tryd.func57, Tryd.ntmps57
    go_wp2
    go_ret
    exact ⟨_, rfl, OwnG.nil _ _, Below.refl _ _⟩
  | some a =>
    have hsl2 := hsl.step ((Below.refl _ _).alloc (Nat.le_refl _) (.cells #[] 82))
    have hb0 := (Below.refl w.heap.size w).alloc (Nat.le_refl _) (.cells #[] 82)
    have HS := Lib.hid hsl2
    clear hsl hsl2
    go_enter Tryd.func57, Tryd.ntmps57
    go_wp2_with (at_builtin; go_must (refine wpList_appG (g := gP) (k := 2) (e := 82) (by decide) _ rfl _ _ 30 30 rfl (.agg #[.string ByteArray.empty, .string ByteArray.empty]) 32 Tryd.underlying30 prInfo rfl (by decide) w.heap.size _ [] xs rfl (OwnG.made w 0 #[] w.heap.size (Nat.le_refl _) (by decide) rfl) _ rfl (GL.src gP_len gP_one HS.out Tryd.underlying30 c) w hb0 (by simp) (by simp; omega) ?_); intro v' w' hown' hb' hsz')
    go_ret
    exact ⟨_, rfl, hown', hb'⟩
/-- a message that a call answers, its properties in memory of their own -/
def RetM (m : Msg) (W : World) (e : Ending) (w' : World) : Prop := ∃ a c, e = .returned (msgV m a c) ∧ PL w' w'.heap.size a m.props ∧ NewL W.heap.size a ∧ Below W.heap.size W w'
theorem putC_mid (L M R cs : List Value) (h : cs.length = M.length) : putC (L ++ M ++ R) L.length cs = L ++ cs ++ R := by
  unfold putC
  rw [List.append_assoc L M R, List.take_left' rfl, h]
  congr 1
  rw [← List.append_assoc, ← List.length_append, List.drop_left' rfl]
theorem set_mid (L R : List Value) (u v : Value) : (L ++ u :: R).set L.length v = L ++ v :: R := by
  rw [List.set_append_right _ _ (Nat.le_refl _), Nat.sub_self]; rfl
theorem split_at {α : Type} {xs : List α} {k : Nat} {x : α} (h : xs[k]? = some x) : xs = xs.take k ++ x :: xs.drop (k + 1) ∧ (xs.take k).length = k := by
  obtain ⟨hk, rfl⟩ := List.getElem?_eq_some_iff.1 h
  exact ⟨by rw [← List.drop_eq_getElem_cons hk, List.take_append_drop], by rw [List.length_take]; omega⟩
theorem set_split {α : Type} {xs : List α} {k : Nat} {x : α} (h : xs[k]? = some x) (y : α) : xs.set k y = xs.take k ++ y :: xs.drop (k + 1) := by
  obtain ⟨hk, _⟩ := List.getElem?_eq_some_iff.1 h
  rw [List.set_eq_take_append_cons_drop, if_pos hk]
theorem PL.put {w w' : World} {B g : Nat} {A : Option Addr} {xs : List PR} (h : PL w B A xs) (hp : Put g w w') (hne : ∀ b o, A = some ⟨b, o, none⟩ → b ≠ g) : PL w' B A xs := fun hn => by
  obtain ⟨b, o, e, hb, hc⟩ := h hn
  exact ⟨b, o, e, hb, fun j x i v hx hv => (hp.cell (p := ⟨b, o + j * 2 + i, none⟩) (hne b o e)).trans (hc j x i v hx hv)⟩
/-- a list lies beside block g -/
def Away (g : Nat) (A : Option Addr) (n : Nat) : Prop := 0 < n → ∀ b o, A = some ⟨b, o, none⟩ → b ≠ g
theorem PL.putA {w w' : World} {B g : Nat} {A : Option Addr} {xs : List PR} (h : PL w B A xs) (hp : Put g w w') (hne : Away g A xs.length) : PL w' B A xs := fun hn => by
  obtain ⟨b, o, e, hb, hc⟩ := h hn
  exact ⟨b, o, e, hb, fun j x i v hx hv => (hp.cell (p := ⟨b, o + j * 2 + i, none⟩) (hne hn b o e)).trans (hc j x i v hx hv)⟩
theorem PL.lt {w : World} {B : Nat} {A : Option Addr} {xs : List PR} (h : PL w B A xs) (hn : 0 < xs.length) (b o : Nat) (e : A = some ⟨b, o, none⟩) : b < B := by
  obtain ⟨b', o', e', hb, _⟩ := h hn
  rw [e] at e'
  simp only [Option.some.injEq, Addr.mk.injEq, and_true] at e'
  omega
theorem app_own {P : Program} (w : World) (base : Nat) (t tx ty e : TypeId) (i : TypeInfo) (z : Value) (size bytes : Nat) (ht : P.underlying t = some (.slice e)) (hi : P.info? e = some i) (hz : i.zero = some z)
    (hsize : i.size = size) (hby : i.bytes = bytes) (hzs : z.cells.size = size) (_hsz : 0 < size)
    (v : Value) (n : Nat) (xs : List Value) (hown : w.ownsRow base e size v n xs) (x : Value) (m : Nat) (news : List Value) (hs : Src P size tx x m news w)
    (h63 : n + m ≤ maxLen) (hbytes : (n + m) * bytes ≤ 140737488355328) (hbase : base ≤ w.heap.size) :
    ∃ v' w', (Builtin.append_ #[t, tx] ty #[v, x]).run P w = .ok v' w' ∧ w'.ownsRow base e size v' (n + m) (xs ++ news) ∧ w.grownBy w' v.ownBlock ∧ ∀ q n' c', v' = .slice (some ⟨q, 0, none⟩) n' c' → (∃ n'' c'', v = .slice (some ⟨q, 0, none⟩) n'' c'') ∨ w.heap.size ≤ q := by
  subst hsize
  subst hby
  have hl := hs.newsLen
  have hsmall : n + m ≤ 9223372036854775807 := by simp only [maxLen] at h63; omega
  have hlen : (xs ++ news).length = (n + m) * i.size := by rw [List.length_append, hown.1, hl, Nat.add_mul]
  have grown : ∀ (old : Nat), old < n + m → ∀ (row : Option Nat),
      (w.drew.alloc (.cells ((xs ++ news).toArray ++ Builtin.zeroCells z.cells (grownCap w (n + m) old e - (n + m))) e)).ownsRow base e i.size
        (.slice (some ⟨w.heap.size, 0, none⟩) (n + m) (grownCap w (n + m) old e)) (n + m) (xs ++ news) ∧
      w.grownBy (w.drew.alloc (.cells ((xs ++ news).toArray ++ Builtin.zeroCells z.cells (grownCap w (n + m) old e - (n + m))) e)) row := by
    intro old ho row
    have hge := grownCap_ge w (n + m) old e
    have hcm : grownCap w (n + m) old e ≤ maxLen := grownCap_le_maxLen w (n + m) old e h63
    refine ⟨⟨hlen, .inr ⟨w.heap.size, _, _, rfl, hbase, heap_alloc_new w.drew _, hge, hcm, ?_, ?_⟩⟩, ⟨rfl, rfl, rfl, by simp, fun k hk _ => heap_alloc_old w.drew _ hk⟩⟩
    · simp only [Array.size_append, List.size_toArray, size_zeroCells, hzs, hlen]
      rw [← Nat.add_mul]
      congr 1
      omega
    · simp only [Array.toList_append]
      rw [← hlen]
      exact List.take_left
  rcases hown.2 with ⟨rfl, rfl⟩ | ⟨g, cap, cur, rfl, hbg, hg, hnc, hcm, hcs, htake⟩
  · have hx : xs = [] := List.eq_nil_of_length_eq_zero (by simpa using hown.1)
    subst hx
    by_cases hm : m = 0
    · subst hm
      have hn : news = [] := List.eq_nil_of_length_eq_zero (by simpa using hl)
      subst hn
      refine ⟨.slice none 0 0, w, ?_, World.ownsRow_nil w base e i.size, ⟨rfl, rfl, rfl, Nat.le_refl _, fun _ _ _ => rfl⟩, fun q n' c' e' => by cases e'⟩
      have hl2 := hs.len
      have hc2 := hs.cells
      rcases hs.kind with ⟨e', hk⟩ | hk <;> simp [Builtin.append_, run_underlying ht, run_underlying hk, sizeOf, typeInfo, hi, hl2, hc2]
    · have hr := run_append_grow_src (P := P) w t tx ty e i z ht hi hz none 0 0 [] (run_firstCells_none w.drew i.size 0 0 0) x m news hs (by omega) (by omega) (growslice_fits (by omega) hbytes)
      have hgr := grown 0 (by omega) (Value.ownBlock (.slice none 0 0))
      exact ⟨_, _, hr, hgr.1, hgr.2, fun q n' c' e' => .inr (by simp only [Value.slice.injEq, Option.some.injEq, Addr.mk.injEq, and_true] at e'; omega)⟩
  · by_cases hroom : n + m ≤ cap
    · have hfit : n * i.size + news.length ≤ cur.size := by rw [hl, hcs, ← Nat.add_mul]; exact Nat.mul_le_mul_right _ hroom
      have hst := run_storeCells_at P g (n * i.size) e news 0 cur w hg (by simpa using hfit) hs.one
      simp only [Nat.add_zero] at hst
      have hl2 := hs.len
      have hc2 := hs.cells
      have hr : (Builtin.append_ #[t, tx] ty #[.slice (some ⟨g, 0, none⟩) n cap, x]).run P w =
          .ok (.slice (some ⟨g, 0, none⟩) (n + m) cap) (w.setRow g (cur.toList.take (n * i.size) ++ news ++ cur.toList.drop (n * i.size + news.length)).toArray) := by
        rcases hs.kind with ⟨e', hk⟩ | hk <;> simp [Builtin.append_, run_underlying ht, run_underlying hk, sizeOf, typeInfo, hi, hl2, hroom, hc2, Addr.add_lit, hst]
      refine ⟨_, _, hr, ⟨hlen, .inr ⟨g, cap, _, rfl, hbg, setRow_heap w g cur _ e _ hg, hroom, hcm, ?_, ?_⟩⟩, ⟨rfl, rfl, rfl, by simp, fun k _ hk => setRow_other w g k _ (fun e => hk (by simp [Value.ownBlock, e]))⟩, fun q n' c' e' => .inl ⟨n, cap, by simp only [Value.slice.injEq, Option.some.injEq, Addr.mk.injEq, and_true] at e'; rw [e'.1]⟩⟩
      · simp only [List.size_toArray, List.length_append, List.length_take, List.length_drop, Array.length_toList]
        omega
      · rw [htake, ← hlen]
        exact List.take_left
    · have holds : ∀ j u, xs[j]? = some u → w.drew.cell? ((⟨g, 0, none⟩ : Addr).add j) = some u := by
        intro j u hj
        have := hown.cells (g := g) rfl j u hj
        simpa using this
      have hr := run_append_grow_src (P := P) w t tx ty e i z ht hi hz (some ⟨g, 0, none⟩) n cap xs (run_firstCells_some w.drew i.size n ⟨g, 0, none⟩ n cap xs hown.1 holds) x m news hs (by omega) (by omega) (growslice_fits (by omega) hbytes)
      have hgr := grown cap (by omega) (Value.ownBlock (.slice (some ⟨g, 0, none⟩) n cap))
      exact ⟨_, _, hr, hgr.1, hgr.2, fun q n' c' e' => .inr (by simp only [Value.slice.injEq, Option.some.injEq, Addr.mk.injEq, and_true] at e'; omega)⟩
/-- a list of structs that a call builds for itself, each with properties in memory of their own -/
def Lst {α : Type} (e : TypeId) (g : α → List Value) (k : Nat) (ad : α → Option Addr) (ps : α → List PR) (B : Nat) (w : World) (v : Value) (xs : List α) : Prop := OwnG e g k w B v xs ∧ ∀ x ∈ xs, PL w w.heap.size (ad x) (ps x) ∧ (∀ b o, ad x = some ⟨b, o, none⟩ → 0 < (ps x).length → ∀ q n c, v = .slice (some ⟨q, 0, none⟩) n c → b ≠ q) ∧ NewL B (ad x)
section
variable {α : Type} {e : TypeId} {g : α → List Value} {k : Nat} {ad : α → Option Addr} {ps : α → List PR} {B : Nat} {w w' : World} {v : Value} {xs : List α}
theorem Lst.nil : Lst e g k ad ps B w (.slice none 0 0) [] := ⟨OwnG.nil _ _, fun x hx => by cases hx⟩
theorem Lst.step (h : Lst e g k ad ps B w v xs) (hb : Below w.heap.size w w') : Lst e g k ad ps B w' v xs := ⟨h.1.step hb, fun x hx => ⟨(h.2 x hx).1.step hb, (h.2 x hx).2⟩⟩
theorem ownG_lt (h : OwnG e g k w B v xs) (q n c : Nat) (hv : v = .slice (some ⟨q, 0, none⟩) n c) : B ≤ q ∧ q < w.heap.size := by
  unfold OwnG at h
  rcases h.2 with ⟨rfl, _⟩ | ⟨q', cap, cur, rfl, hb, hq, _⟩
  · cases hv
  · simp only [Value.slice.injEq, Option.some.injEq, Addr.mk.injEq, and_true] at hv
    have := (Array.getElem?_eq_some_iff.1 hq).1
    omega
theorem Lst.ret (hg : ∀ x, (g x).length = k) (h : Lst e g k ad ps B w v xs) : ∃ A c, v = .slice A xs.length c ∧ xs.length ≤ c ∧ NewL B A ∧ GL g k w w.heap.size A xs ∧ ∀ x ∈ xs, PL w w.heap.size (ad x) (ps x) ∧ NewL B (ad x) := by
  obtain ⟨A, c, hv, hc, hn, hgl⟩ := OwnG.retB hg h.1
  exact ⟨A, c, hv, hc, hn, hgl w (Nat.le_refl _) (fun _ _ => rfl), fun x hx => ⟨(h.2 x hx).1, (h.2 x hx).2.2⟩⟩
theorem wpList_lst {P : Program} {ops : Array Oper} {rest : List Oper} {o : Oper} {a : Act} {Q : Exit → Act → World → Prop} (hg : ∀ x, (g x).length = k) (h1 : ∀ x, ∀ u ∈ g x, u.oneCell' = true) (hk0 : 0 < k) (wr : World) (hgd : o.guard = none) (s x : Operand) (t : TypeId)
    (ho : o.op = .call { callee := .builtin .append, args := #[s, x], argTypes := #[t, t] }) (z : Value) (bytes : Nat) (ht : P.underlying t = some (.slice e))
    (hi : (P.info? e).map (fun i => (i.zero, i.size, i.bytes)) = some (some z, k, bytes)) (hzs : z.cells.size = k) (y : α) (hs : a.eval s = v) (hown : Lst e g k ad ps B wr v xs)
    (hx : a.eval x = .slice (some ⟨wr.heap.size, 0, none⟩) 1 1) (hp : PL wr wr.heap.size (ad y) (ps y)) (hnw : NewL B (ad y)) (hoff : ∀ b o, ad y = some ⟨b, o, none⟩ → 0 < (ps y).length → ∀ q n c, v = .slice (some ⟨q, 0, none⟩) n c → b ≠ q) (w0 : World) (hb : Below B w0 wr) (hB : B ≤ wr.heap.size) (hn : (xs.length + 1) * bytes ≤ 140737488355328) (hby : 0 < bytes)
    (h : ∀ v' w', Lst e g k ad ps B w' v' (xs ++ [y]) → Below B w0 w' → B ≤ w'.heap.size → wpList P ops Q rest (a.put o.dst v') w') : wpList P ops Q (o :: rest) a (wr.alloc (.cells (g y).toArray e)) :=
  wpList_plain hgd fun _ hK => by
    obtain ⟨i, hi, hz, hz1, hz2⟩ := info_parts hi
    have hn2 : xs.length + 1 ≤ 140737488355328 := Nat.le_trans (Nat.le_mul_of_pos_right _ hby) hn
    have hst := S2.below_new wr (.cells (g y).toArray e)
    have hown1 := hown.step hst
    obtain ⟨v', w', hr, h2, h3, h4⟩ := app_own (P := P) (wr.alloc (.cells (g y).toArray e)) B t t o.type e i z k bytes ht hi hz hz1 hz2 hzs hk0 v xs.length (xs.flatMap g) hown1.1 _ 1 ([y].flatMap g) (srcG_one hg h1 ht wr y) (by unfold maxLen; omega) hn (by simp; omega)
    unfold Oper.wp execOp
    simp only [ho, resolve, invoke, builtin, Sem.run_bind, Sem.run_pure, Result.andThen_ok, List.map_toArray, List.map_cons, List.map_nil, hs, hx, hr]
    have keep : ∀ (A : Option Addr) (p : List PR), PL wr wr.heap.size A p → (∀ b o, A = some ⟨b, o, none⟩ → 0 < p.length → ∀ q n c, v = .slice (some ⟨q, 0, none⟩) n c → b ≠ q) → PL w' w'.heap.size A p ∧ (∀ b o, A = some ⟨b, o, none⟩ → 0 < p.length → ∀ q n c, v' = .slice (some ⟨q, 0, none⟩) n c → b ≠ q) := fun A p hpl hof => by
      have hpl1 := hpl.step hst
      refine ⟨fun hn => ?_, fun b o' e' hn q n c hv => ?_⟩
      · obtain ⟨b, o', e', hb', hc⟩ := hpl1 hn
        refine ⟨b, o', e', Nat.lt_of_lt_of_le hb' h3.size, fun j x' i' u hx' hu => ?_⟩
        refine h3.cell (hc j x' i' u hx' hu) (fun e2 => ?_)
        have e2' : v.ownBlock = some b := e2.symm
        have hw := hown1.1
        unfold OwnG at hw
        rcases hw.2 with ⟨rfl, _⟩ | ⟨q', cap, cur, rfl, _⟩
        · simp [Value.ownBlock] at e2'
        · simp only [Value.ownBlock, Option.some.injEq] at e2'
          exact hof b o' e' hn q' _ _ rfl e2'.symm
      · rcases h4 q n c hv with ⟨n'', c'', hv'⟩ | hq
        · exact hof b o' e' hn q _ _ hv'
        · have := hpl.lt hn b o' e'
          simp at hq
          omega
    refine hK _ _ (h v' w' ⟨?_, fun x' hx' => ?_⟩ ((hb.alloc hB _).grown h3 (by simp; omega) (fun j hj => (World.ownsRow.lt hown1.1 j hj).1)) (by have := h3.size; simp at this; omega))
    · unfold OwnG
      simpa [List.flatMap_append] using h2
    · rcases List.mem_append.1 hx' with hx' | hx'
      · obtain ⟨p1, p2, p3⟩ := hown.2 x' hx'
        have := keep _ _ p1 p2
        exact ⟨this.1, this.2, p3⟩
      · simp at hx'
        subst hx'
        have := keep _ _ hp hoff
        exact ⟨this.1, this.2, hnw⟩
end
end Go.Proofs.YtjhojpghllnoiaaDoor
