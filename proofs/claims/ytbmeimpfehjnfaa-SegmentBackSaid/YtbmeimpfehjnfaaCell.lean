/-
  Lists of one-celled values in memory (bytes, texts, truth values, slices): as they came in, and as a call builds them; append of whatever source. No function of the program is walked here.
-/
import Derived.Test.YtbmeimpfehjnfaaProg
import Derived.WalkKit
import Derived.WalkSpells
import Derived.WalkLawsBesides
import Derived.Lib.Hide
import Derived.Lib.IndexBytes
import Derived.Laws.AppendOwn
import Derived.Laws.OwnMore
import Derived.Laws.CopyOwn
import Derived.OwnWalk
import Derived.Deep.AppendSrc
namespace Go.Proofs.Ytbmeimpfehjnfaa
open Go.RowKit

def bs (l : List UInt8) : ByteArray := ⟨l.toArray⟩
def dl (s : ByteArray) : List UInt8 := s.data.toList
theorem bs_dl (s : ByteArray) : bs (dl s) = s := by cases s; simp [bs, dl]
theorem dl_bs (l : List UInt8) : dl (bs l) = l := by simp [bs, dl]
theorem dl_inj {a b : ByteArray} (h : dl a = dl b) : a = b := by rw [← bs_dl a, ← bs_dl b, h]
theorem bs_inj {a b : List UInt8} (h : bs a = bs b) : a = b := by rw [← dl_bs a, ← dl_bs b, h]
theorem size_dl (s : ByteArray) : s.size = (dl s).length := Lib.size_eq s
theorem size_bs (l : List UInt8) : (bs l).size = l.length := by rw [size_dl, dl_bs]
theorem retb {a b : Bool} (h : a = b) : Ending.returned (.bool a) = .returned (.bool b) := by rw [h]

/-- a byte as a value -/
def bv (x : UInt8) : Value := .int .u8 x.toNat
/-- the slice with this address reads as these values, below block B -/
def CL {α : Type} (f : α → Value) (w : World) (B : Nat) (A : Option Addr) (xs : List α) : Prop :=
  0 < xs.length → ∃ b o, A = some ⟨b, o, none⟩ ∧ b < B ∧ ∀ j x, xs[j]? = some x → w.cell? ⟨b, o + j, none⟩ = some (f x)
section
variable {α : Type} {f : α → Value}
theorem CL.nil (w : World) (B : Nat) (A : Option Addr) : CL f w B A [] := fun h => absurd h (by simp)
theorem CL.keep {w w' : World} {B : Nat} {A : Option Addr} {xs : List α} (h : CL f w B A xs) (hk : ∀ p : Addr, p.block < B → w'.cell? p = w.cell? p) : CL f w' B A xs := fun hn => by
  obtain ⟨b, o, e, hb, hc⟩ := h hn
  exact ⟨b, o, e, hb, fun j x hx => (hk ⟨b, o + j, none⟩ hb).trans (hc j x hx)⟩
theorem CL.below {w w' : World} {B : Nat} {A : Option Addr} {xs : List α} (h : CL f w B A xs) (hb : Below B w w') : CL f w' B A xs := h.keep fun _ hp => hb.cell hp
theorem CL.more {w : World} {B B' : Nat} {A : Option Addr} {xs : List α} (h : CL f w B A xs) (hB : B ≤ B') : CL f w B' A xs := fun hn => by
  obtain ⟨b, o, e, hb, hc⟩ := h hn
  exact ⟨b, o, e, by omega, hc⟩
/-- from world to world, each with all its blocks -/
theorem CL.step {w w' : World} {A : Option Addr} {xs : List α} (h : CL f w w.heap.size A xs) (hb : Below w.heap.size w w') : CL f w' w'.heap.size A xs := (h.below hb).more hb.size
/-- the slice from k on -/
theorem CL.drop {w : World} {B : Nat} {A : Option Addr} {xs : List α} (h : CL f w B A xs) {k cap : Nat} (hk : k ≤ xs.length) (hc : xs.length ≤ cap) :
    CL f w B (if cap = k then A else A.map (·.add k)) (xs.drop k) := fun hn => by
  rw [List.length_drop] at hn
  obtain ⟨b, o, e, hb, hcell⟩ := h (by omega)
  rw [if_neg (by omega), e]
  refine ⟨b, o + k, ?_, hb, fun j x hx => ?_⟩
  · simp only [Option.map_some, Addr.add]
    split
    · next h0 => subst h0; rfl
    · rfl
  · rw [List.getElem?_drop] at hx
    rw [Nat.add_assoc]
    exact hcell _ x hx
theorem CL.take {w : World} {B : Nat} {A : Option Addr} {xs : List α} (h : CL f w B A xs) (k : Nat) : CL f w B A (xs.take k) := fun hn => by
  rw [List.length_take] at hn
  obtain ⟨b, o, e, hb, hcell⟩ := h (by omega)
  refine ⟨b, o, e, hb, fun j x hx => hcell j x ?_⟩
  rw [List.getElem?_take] at hx
  split at hx
  · exact hx
  · cases hx
/-- a new block that holds the values -/
theorem CL.new {w : World} {t : TypeId} {xs : List α} : CL f (w.alloc (.cells (xs.map f).toArray t)) (w.alloc (.cells (xs.map f).toArray t)).heap.size (some ⟨w.heap.size, 0, none⟩) xs := fun _ =>
  ⟨w.heap.size, 0, rfl, by simp, fun j x hx => by
    rw [World.cell?_alloc_at _ _ _ _ (by rfl)]
    rw [Nat.zero_add, List.getElem?_toArray, List.getElem?_map, hx]; rfl⟩
/-- what the slice yields where it is appended -/
theorem CL.src {w : World} {B : Nat} {A : Option Addr} {xs : List α} (h : CL f w B A xs) {P : Program} {t e : TypeId} (hk : P.underlying t = some (.slice e)) (h1 : ∀ x, (f x).oneCell' = true) (c : Nat) :
    Src P 1 t (.slice A xs.length c) xs.length (xs.map f) w := by
  have ho : ∀ u ∈ xs.map f, u.oneCell' = true := fun u hu => by
    obtain ⟨x, _, rfl⟩ := List.mem_map.1 hu
    exact h1 x
  by_cases h0 : 0 < xs.length
  · obtain ⟨b, o, rfl, hb, hc⟩ := h h0
    refine Src.ofSlice w hk _ _ _ _ (by simp) (fun j u hj => ?_) ho
    rw [List.getElem?_map] at hj
    cases hx : xs[j]? with
    | none => rw [hx] at hj; cases hj
    | some x =>
      rw [hx] at hj
      obtain rfl := Option.some.inj hj
      have := hc j x hx
      unfold Addr.add
      split
      · next h0 => subst h0; exact this
      · exact this
  · have hx : xs = [] := List.eq_nil_of_length_eq_zero (by omega)
    subst hx
    cases A with
    | none => exact Src.ofNil w hk c
    | some a => exact Src.ofSlice w hk a 0 c [] (by simp) (fun j u hj => by simp at hj) (fun u hu => by simp at hu)
end

theorem stepB {a w w' : World} (h : Below a.heap.size a w) (h' : Below w.heap.size w w') : Below a.heap.size a w' := h.trans (h'.mono h.size)

/-! ### append onto a slice of the call's own, whatever is appended -/
theorem run_append_own_src {P : Program} (w : World) (base : Nat) (t tx ty e : TypeId) (i : TypeInfo) (z : Value) (size bytes : Nat) (ht : P.underlying t = some (.slice e)) (hi : P.info? e = some i) (hz : i.zero = some z)
    (hsize : i.size = size) (hby : i.bytes = bytes) (hzs : z.cells.size = size) (_hsz : 0 < size)
    (v : Value) (n : Nat) (xs : List Value) (hown : w.ownsRow base e size v n xs) (x : Value) (m : Nat) (news : List Value) (hs : Src P size tx x m news w)
    (h63 : n + m ≤ maxLen) (hbytes : (n + m) * bytes ≤ 140737488355328) (hbase : base ≤ w.heap.size) :
    ∃ v' w', (Builtin.append_ #[t, tx] ty #[v, x]).run P w = .ok v' w' ∧ w'.ownsRow base e size v' (n + m) (xs ++ news) ∧ w.grownBy w' v.ownBlock := by
  subst hsize
  subst hby
  have hl := hs.newsLen
  have hsmall : n + m ≤ 9223372036854775807 := by simp only [maxLen] at h63; omega
  have hlen : (xs ++ news).length = (n + m) * i.size := by rw [List.length_append, hown.1, hl, Nat.add_mul]
  have grown : ∀ (old : Nat), old < n + m → ∀ (row : Option Nat),
      (w.drew.alloc (.cells ((xs ++ news).toArray ++ Builtin.zeroCells z.cells (grownCap w (n + m) old e - (n + m))) e)).ownsRow base e i.size
        (.slice (some ⟨w.heap.size, 0, none⟩) (n + m) (grownCap w (n + m) old e)) (n + m) (xs ++ news) ∧
      w.grownBy (w.drew.alloc (.cells ((xs ++ news).toArray ++ Builtin.zeroCells z.cells (grownCap w (n + m) old e - (n + m))) e)) row := by
    intro old ho row
    have hge := grownCap_ge w (n + m) old e
    have hcm : grownCap w (n + m) old e ≤ maxLen := grownCap_le_maxLen w (n + m) old e h63
    refine ⟨⟨hlen, .inr ⟨w.heap.size, _, _, rfl, hbase, heap_alloc_new w.drew _, hge, hcm, ?_, ?_⟩⟩, ⟨rfl, rfl, rfl, by simp, fun k hk _ => heap_alloc_old w.drew _ hk⟩⟩
    · simp only [Array.size_append, List.size_toArray, size_zeroCells, hzs, hlen]
      rw [← Nat.add_mul]
      congr 1
      omega
    · simp only [Array.toList_append]
      rw [← hlen]
      exact List.take_left
  rcases hown.2 with ⟨rfl, rfl⟩ | ⟨g, cap, cur, rfl, hbg, hg, hnc, hcm, hcs, htake⟩
  · have hx : xs = [] := List.eq_nil_of_length_eq_zero (by simpa using hown.1)
    subst hx
    by_cases hm : m = 0
    · subst hm
      have hn : news = [] := List.eq_nil_of_length_eq_zero (by simpa using hl)
      subst hn
      refine ⟨.slice none 0 0, w, ?_, World.ownsRow_nil w base e i.size, ⟨rfl, rfl, rfl, Nat.le_refl _, fun _ _ _ => rfl⟩⟩
      have hl2 := hs.len
      have hc2 := hs.cells
      rcases hs.kind with ⟨e', hk⟩ | hk <;> simp [Builtin.append_, run_underlying ht, run_underlying hk, sizeOf, typeInfo, hi, hl2, hc2]
    · have hr := run_append_grow_src (P := P) w t tx ty e i z ht hi hz none 0 0 [] (run_firstCells_none w.drew i.size 0 0 0) x m news hs (by omega) (by omega) (growslice_fits (by omega) hbytes)
      have hgr := grown 0 (by omega) (Value.ownBlock (.slice none 0 0))
      exact ⟨_, _, hr, hgr.1, hgr.2⟩
  · by_cases hroom : n + m ≤ cap
    · have hfit : n * i.size + news.length ≤ cur.size := by rw [hl, hcs, ← Nat.add_mul]; exact Nat.mul_le_mul_right _ hroom
      have hst := run_storeCells_at P g (n * i.size) e news 0 cur w hg (by simpa using hfit) hs.one
      simp only [Nat.add_zero] at hst
      have hl2 := hs.len
      have hc2 := hs.cells
      have hr : (Builtin.append_ #[t, tx] ty #[.slice (some ⟨g, 0, none⟩) n cap, x]).run P w =
          .ok (.slice (some ⟨g, 0, none⟩) (n + m) cap) (w.setRow g (cur.toList.take (n * i.size) ++ news ++ cur.toList.drop (n * i.size + news.length)).toArray) := by
        rcases hs.kind with ⟨e', hk⟩ | hk <;> simp [Builtin.append_, run_underlying ht, run_underlying hk, sizeOf, typeInfo, hi, hl2, hroom, hc2, Addr.add_lit, hst]
      refine ⟨_, _, hr, ⟨hlen, .inr ⟨g, cap, _, rfl, hbg, setRow_heap w g cur _ e _ hg, hroom, hcm, ?_, ?_⟩⟩, ⟨rfl, rfl, rfl, by simp, fun k _ hk => setRow_other w g k _ (fun e => hk (by simp [Value.ownBlock, e]))⟩⟩
      · simp only [List.size_toArray, List.length_append, List.length_take, List.length_drop, Array.length_toList]
        omega
      · rw [htake, ← hlen]
        exact List.take_left
    · have holds : ∀ j u, xs[j]? = some u → w.drew.cell? ((⟨g, 0, none⟩ : Addr).add j) = some u := by
        intro j u hj
        have := hown.cells (g := g) rfl j u hj
        simpa using this
      have hr := run_append_grow_src (P := P) w t tx ty e i z ht hi hz (some ⟨g, 0, none⟩) n cap xs (run_firstCells_some w.drew i.size n ⟨g, 0, none⟩ n cap xs hown.1 holds) x m news hs (by omega) (by omega) (growslice_fits (by omega) hbytes)
      have hgr := grown cap (by omega) (Value.ownBlock (.slice (some ⟨g, 0, none⟩) n cap))
      exact ⟨_, _, hr, hgr.1, hgr.2⟩

theorem wpList_append_src {P : Program} (w : World) {ops : Array Oper} {rest : List Oper} {o : Oper} {a : Act} {Q : Exit → Act → World → Prop} (hgd : o.guard = none) (s x : Operand) (t tx : TypeId)
    (ho : o.op = .call { callee := .builtin .append, args := #[s, x], argTypes := #[t, tx] })
    (base : Nat) (e : TypeId) (i : TypeInfo) (z : Value) (size bytes : Nat) (ht : P.underlying t = some (.slice e)) (hi : P.info? e = some i) (hz : i.zero = some z)
    (hsize : i.size = size) (hby : i.bytes = bytes) (hzs : z.cells.size = size) (hsz : 0 < size)
    (v : Value) (n : Nat) (xs : List Value) (hs : a.eval s = v) (hown : w.ownsRow base e size v n xs) (vx : Value) (hx : a.eval x = vx) (m : Nat) (news : List Value) (hsrc : Src P size tx vx m news w)
    (h63 : n + m ≤ maxLen) (hbytes : (n + m) * bytes ≤ 140737488355328) (hbase : base ≤ w.heap.size)
    (h : ∀ v' w', w'.ownsRow base e size v' (n + m) (xs ++ news) → w.grownBy w' v.ownBlock → wpList P ops Q rest (a.put o.dst v') w') : wpList P ops Q (o :: rest) a w :=
  wpList_plain hgd fun _ hK => by
    obtain ⟨v', w', hr, h2, h3⟩ := run_append_own_src (P := P) w base t tx o.type e i z size bytes ht hi hz hsize hby hzs hsz v n xs hown vx m news hsrc h63 hbytes hbase
    unfold Oper.wp execOp
    simp only [ho, resolve, invoke, builtin, Sem.run_bind, Sem.run_pure, Result.andThen_ok, List.map_toArray, List.map_cons, List.map_nil, hs, hx, hr]
    exact hK _ _ (h v' w' h2 h3)

/-- a list that a call builds for itself -/
def Own {α : Type} (e : TypeId) (f : α → Value) (w : World) (B : Nat) (v : Value) (xs : List α) : Prop := w.ownsRow B e 1 v xs.length (xs.map f)
section
variable {α : Type} {f : α → Value} {e : TypeId}
theorem Own.nil (w : World) (B : Nat) : Own e f w B (.slice none 0 0) [] := World.ownsRow_nil _ _ _ _
theorem Own.made (w : World) (cap : Nat) (cur : Array Value) (B : Nat) (hb : B ≤ w.heap.size) (hm : cap ≤ maxLen) (hs : cur.size = cap) : Own e f (w.alloc (.cells cur e)) B (.slice (some ⟨w.heap.size, 0, none⟩) 0 cap) [] :=
  World.ownsRow_made w cur cap hb hm (by omega)
theorem Own.ret {w : World} {B : Nat} {v : Value} {xs : List α} (h : Own e f w B v xs) : ∃ A c, v = .slice A xs.length c ∧ xs.length ≤ c ∧ CL f w w.heap.size A xs := by
  unfold Own at h
  rcases h.2 with ⟨rfl, hn⟩ | ⟨g, cap, cur, rfl, hb, hg, hnc, hcm, hcs, htake⟩
  · have : xs = [] := List.eq_nil_of_length_eq_zero hn
    subst this
    exact ⟨none, 0, rfl, Nat.le_refl _, CL.nil _ _ _⟩
  · refine ⟨_, cap, rfl, hnc, fun _ => ⟨g, 0, rfl, (Array.getElem?_eq_some_iff.1 hg).1, fun j x hx => ?_⟩⟩
    have hj : j < xs.length := (List.getElem?_eq_some_iff.1 hx).1
    rw [Nat.zero_add, h.cellAt j (by omega), List.getElem?_map, hx]; rfl
theorem Own.alloc {w : World} {B : Nat} {v : Value} {xs : List α} (h : Own e f w B v xs) (o : Obj) : Own e f (w.alloc o) B v xs := World.ownsRow.alloc h o
theorem Own.drew {w : World} {B : Nat} {v : Value} {xs : List α} (h : Own e f w B v xs) : Own e f w.drew B v xs := World.ownsRow.drew h
/-- it stays behind a call that leaves what was there -/
theorem Own.step {w w' : World} {B : Nat} {v : Value} {xs : List α} (h : Own e f w B v xs) (hb : Below w.heap.size w w') : Own e f w' B v xs := by
  unfold Own at h ⊢
  refine ⟨h.1, ?_⟩
  rcases h.2 with h' | ⟨g, cap, cur, rfl, hB, hg, hnc, hcm, hcs, htake⟩
  · exact .inl h'
  · exact .inr ⟨g, cap, cur, rfl, hB, by rw [hb.block g (Array.getElem?_eq_some_iff.1 hg).1]; exact hg, hnc, hcm, hcs, htake⟩
theorem Own.weak {w : World} {B B' : Nat} {v : Value} {xs : List α} (h : Own e f w B v xs) (hB : B' ≤ B) : Own e f w B' v xs := by
  unfold Own at h ⊢
  refine ⟨h.1, ?_⟩
  rcases h.2 with h' | ⟨g, cap, cur, rfl, hb, hg, hnc, hcm, hcs, htake⟩
  · exact .inl h'
  · exact .inr ⟨g, cap, cur, rfl, by omega, hg, hnc, hcm, hcs, htake⟩

theorem wpList_app {P : Program} {ops : Array Oper} {rest : List Oper} {o : Oper} {a : Act} {Q : Exit → Act → World → Prop} (wr : World) (hgd : o.guard = none) (s x : Operand) (t tx : TypeId)
    (ho : o.op = .call { callee := .builtin .append, args := #[s, x], argTypes := #[t, tx] }) (z : Value) (bytes : Nat) (ht : P.underlying t = some (.slice e))
    (hi : (P.info? e).map (fun i => (i.zero, i.size, i.bytes)) = some (some z, 1, bytes)) (hzs : z.cells.size = 1) (hby : 0 < bytes) (B : Nat) (v : Value) (xs ys : List α) (hs : a.eval s = v) (hown : Own e f wr B v xs)
    (vx : Value) (hx : a.eval x = vx) (m : Nat) (hsrc : Src P 1 tx vx m (ys.map f) wr) (w0 : World) (hb : Below B w0 wr) (hB : B ≤ wr.heap.size) (hn : (xs.length + ys.length) * bytes ≤ 140737488355328)
    (h : ∀ v' w', Own e f w' B v' (xs ++ ys) → Below B w0 w' → B ≤ w'.heap.size → wpList P ops Q rest (a.put o.dst v') w') : wpList P ops Q (o :: rest) a wr := by
  obtain ⟨i, hi, hz, hz1, hz2⟩ := info_parts hi
  have hm : m = ys.length := by have := hsrc.newsLen; simpa using this.symm
  subst hm
  have hn2 : xs.length + ys.length ≤ 140737488355328 := Nat.le_trans (Nat.le_mul_of_pos_right _ hby) hn
  refine wpList_append_src wr hgd s x t tx ho B e i z 1 bytes ht hi hz hz1 hz2 hzs (by decide) v xs.length (xs.map f) hs hown vx hx ys.length (ys.map f) hsrc (by unfold maxLen; omega) hn hB ?_
  intro v' w' hown' hgrow
  refine h v' w' ?_ (hb.grown hgrow hB (fun j hj => (World.ownsRow.lt hown j hj).1)) (by have := hgrow.size; omega)
  unfold Own
  simpa using hown'
/-- one element, laid in a block of its own -/
theorem src_one {P : Program} {t : TypeId} (ht : P.underlying t = some (.slice e)) (w : World) (x : α) (u : Value) (hu : u = f x) (h1 : (f x).oneCell' = true) :
    Src P 1 t (.slice (some ⟨w.heap.size, 0, none⟩) 1 1) 1 ([x].map f) (w.alloc (.cells #[u] e)) := by
  subst hu
  exact Src.ofSlice _ ht _ 1 1 [f x] rfl (cell_one_new _ _ _) (fun u hu => by simp at hu; subst hu; exact h1)
end

/-- a text's bytes, where they are appended -/
theorem src_str {P : Program} {t : TypeId} (ht : P.underlying t = some .string) (w : World) (s : ByteArray) : Src P 1 t (.string s) s.size ((dl s).map bv) w := Src.ofString w ht s

end Go.Proofs.Ytbmeimpfehjnfaa
