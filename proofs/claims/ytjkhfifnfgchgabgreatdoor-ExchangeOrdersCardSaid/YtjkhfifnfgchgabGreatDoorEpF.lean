/-
  What Clone and Insert of slices answer at properties, of a slice of the call's own. Conditions: the list reads as data; few elements.
-/
import Derived.Test.YtjkhfifnfgchgabGreatDoorEpE
import Derived.Shelf.Spec.SlicesInsertGrow
import Derived.Deep.RegionLaw
namespace Go.Proofs.YtjkhfifnfgchgabGreatDoor
open Go.RowKit

theorem infoX : (Tryz.prog.info? 32).map (fun i => (i.zero, i.size, i.bytes)) = some (some (.agg #[.string ByteArray.empty, .int .i64 0, .string ByteArray.empty]), 3, 40) := by kernel_rfl
theorem sizeX : (Tryz.prog.info? 32).map (·.size) = some 3 := by kernel_rfl
theorem elemX : Tryz.prog.elem 22 = 32 := by kernel_rfl
theorem undX : Tryz.prog.underlying 22 = some (.slice (Tryz.prog.elem 22)) := by rw [elemX]; exact Tryz.underlying22
theorem sizeOfX (w : World) : (sizeOf (Tryz.prog.elem 22)).run Tryz.prog w = .ok 3 w := by
  obtain ⟨i, hi, hz, hz1, hz2⟩ := info_parts infoX
  rw [elemX]
  simp [sizeOf, typeInfo, hi, hz1]
abbrev OwnX (w : World) (B : Nat) (v : Value) (xs : List Ex) : Prop := OwnG 32 gE 3 w B v xs

set_option maxHeartbeats 1000000 in
theorem cloneX_any (A : Option Addr) (c : Nat) (xs : List Ex) (w : World) (hsl : EL w w.heap.size A xs) (hn : xs.length ≤ 100000) :
    Calls Tryz.prog 25 #[.slice A xs.length c] w fun e w' => ∃ v, e = .returned v ∧ OwnX w' w.heap.size v xs ∧ Below w.heap.size w w' := by
  have q22 : ∀ (w : World) (a : Option Addr) (n c n' c' : Nat), (binOp .eql 22 (.slice a n c) (.slice none n' c')).run Tryz.prog w = .ok (.bool a.isNone) w := fun w a n c n' c' => Lib.run_eql_slice_nil w _ _ a n c n' c' Tryz.underlying22
  cases A with
  | none =>
    have h0 : xs = [] := by
      rcases Nat.eq_zero_or_pos xs.length with h | h
      · exact List.eq_nil_of_length_eq_zero h
      · obtain ⟨b, o, e, _⟩ := hsl h; cases e
    subst h0
    clear hsl hn
    go_enter Tryz.func25, Tryz.ntmps25
    go_wp2
    go_ret
    exact ⟨_, rfl, OwnG.nil _ _, Below.refl _ _⟩
  | some a =>
    have hsl2 := hsl.step ((Below.refl _ _).alloc (Nat.le_refl _) (.cells #[] 32))
    have hb0 := (Below.refl w.heap.size w).alloc (Nat.le_refl _) (.cells #[] 32)
    have HS := Lib.hid hsl2
    clear hsl hsl2
    go_enter Tryz.func25, Tryz.ntmps25
    go_wp2_with (at_builtin; go_must (refine wpList_appG (g := gE) (k := 3) (e := 32) (by decide) _ rfl _ _ 22 22 rfl (.agg #[.string ByteArray.empty, .int .i64 0, .string ByteArray.empty]) 40 Tryz.underlying22 infoX rfl (by decide) w.heap.size _ [] xs rfl (OwnG.made w 0 #[] w.heap.size (Nat.le_refl _) (by decide) rfl) _ rfl (GL.src gE_len gE_one HS.out Tryz.underlying22 c) w hb0 (by simp) (by simp; omega) ?_); intro v' w' hown' hb' hsz')
    go_ret
    exact ⟨_, rfl, hown', hb'⟩

/-! ### Insert -/
theorem run_copy_rowK {P : Program} (w : World) (dT sT ty elem : TypeId) (k : Nat) (g o dLen dCap : Nat) (a : Addr) (sLen sCap : Nat) (cur : Array Value) (t : TypeId) (cs : List Value) (n : Nat)
    (hu : P.underlying dT = some (.slice elem)) (hs : (P.info? elem).map (·.size) = some k)
    (hg : w.heap[g]? = some (.cells cur t (0, 0))) (hn : n = Nat.min sLen dLen) (hl : cs.length = n * k)
    (hsrc : ∀ j v, cs[j]? = some v → w.cell? (a.add j) = some v) (hfit : o + cs.length ≤ cur.size) (h1 : ∀ v ∈ cs, v.oneCell' = true) :
    (Builtin.copy_ #[dT, sT] ty #[.slice (some ⟨g, o, none⟩) dLen dCap, .slice (some a) sLen sCap]).run P w =
      .ok (goInt n) (w.setRow g (cur.toList.take o ++ cs ++ cur.toList.drop (o + cs.length)).toArray) := by
  have hld := run_loadCells_list (P := P) w a cs hsrc
  have hst := run_storeCells_at P g o t cs 0 cur w hg (by simpa using hfit) h1
  cases hq : P.info? elem with
  | none => simp [hq] at hs
  | some i =>
    have hi : i.size = k := by simpa [hq] using hs
    simp [Builtin.copy_, run_underlying hu, Builtin.lenOf, Builtin.firstCells, sizeOf, typeInfo, hq, hi, ← hn, ← hl, hld, hst]

/-- all but block q is as it was -/
structure KP (q : Nat) (w w' : World) : Prop where
  keep : ∀ k, k < w.heap.size → k ≠ q → w'.heap[k]? = w.heap[k]?
  size : w.heap.size ≤ w'.heap.size
theorem KP.drew0 (q : Nat) (w : World) : KP q w w.drew := ⟨fun _ _ _ => rfl, Nat.le_refl _⟩
theorem KP.drew {q : Nat} {w w' : World} (h : KP q w w') : KP q w w'.drew := ⟨h.keep, h.size⟩
theorem KP.setRow {q : Nat} {w w' : World} (h : KP q w w') (g : Nat) (hg : g = q ∨ w.heap.size ≤ g) (cs : Array Value) : KP q w (w'.setRow g cs) :=
  ⟨fun k hk hne => (setRow_other w' g k cs (fun e => by rcases hg with rfl | hg <;> omega)).trans (h.keep k hk hne), by have := h.size; simpa using this⟩
theorem KP.alloc {q : Nat} {w w' : World} (h : KP q w w') (o : Obj) : KP q w (w'.alloc o) :=
  ⟨fun k hk hne => (heap_alloc_old w' o (Nat.lt_of_lt_of_le hk h.size)).trans (h.keep k hk hne), by have := h.size; simp; omega⟩
/-- what a call that may write over the list v, and answers v', leaves as it was -/
structure Kpv (v v' : Value) (w w' : World) : Prop where
  keep : ∀ k, k < w.heap.size → v.ownBlock ≠ some k → w'.heap[k]? = w.heap[k]?
  size : w.heap.size ≤ w'.heap.size
  own : ∀ k, v'.ownBlock = some k → v.ownBlock = some k ∨ w.heap.size ≤ k
theorem KP.kpv {q n c n' c' : Nat} {w w' : World} (h : KP q w w') : Kpv (.slice (some ⟨q, 0, none⟩) n c) (.slice (some ⟨q, 0, none⟩) n' c') w w' :=
  ⟨fun k hk hne => h.keep k hk (fun e => hne (by rw [e]; rfl)), h.size, fun k hk => Or.inl hk⟩
theorem KP.kpn {q n c N n' c' : Nat} {w w' : World} (h : KP q w w') (hN : w.heap.size ≤ N) : Kpv (.slice (some ⟨q, 0, none⟩) n c) (.slice (some ⟨N, 0, none⟩) n' c') w w' :=
  ⟨fun k hk hne => h.keep k hk (fun e => hne (by rw [e]; rfl)), h.size, fun k hk => Or.inr (by simp only [Value.ownBlock, Option.some.injEq] at hk; omega)⟩
def insX (xs : List Ex) (i : Nat) (x : Ex) : List Ex := xs.take i ++ [x] ++ xs.drop i
theorem flat_take {α : Type} {g : α → List Value} {k : Nat} (hg : ∀ x, (g x).length = k) (xs : List α) (i : Nat) (hi : i ≤ xs.length) : (xs.take i).flatMap g = (xs.flatMap g).take (i * k) := by
  have h : xs.flatMap g = (xs.take i).flatMap g ++ (xs.drop i).flatMap g := by rw [← List.flatMap_append, List.take_append_drop]
  have hl : ((xs.take i).flatMap g).length = i * k := by rw [flat_len hg, List.length_take, Nat.min_eq_left hi]
  rw [h, ← hl, List.take_left']
  rfl
theorem flat_drop {α : Type} {g : α → List Value} {k : Nat} (hg : ∀ x, (g x).length = k) (xs : List α) (i : Nat) (hi : i ≤ xs.length) : (xs.drop i).flatMap g = (xs.flatMap g).drop (i * k) := by
  have h : xs.flatMap g = (xs.take i).flatMap g ++ (xs.drop i).flatMap g := by rw [← List.flatMap_append, List.take_append_drop]
  have hl : ((xs.take i).flatMap g).length = i * k := by rw [flat_len hg, List.length_take, Nat.min_eq_left hi]
  rw [h, ← hl, List.drop_left']
  rfl
theorem insx_flat (xs : List Ex) (i : Nat) (x : Ex) (hi : i ≤ xs.length) : (insX xs i x).flatMap gE = (xs.flatMap gE).take (i * 3) ++ gE x ++ (xs.flatMap gE).drop (i * 3) := by
  unfold insX
  rw [List.flatMap_append, List.flatMap_append, flat_take gE_len xs i hi, flat_drop gE_len xs i hi]
  simp
theorem insx_len (xs : List Ex) (i : Nat) (x : Ex) (hi : i ≤ xs.length) : (insX xs i x).length = xs.length + 1 := by
  unfold insX
  simp
  omega
/-- the row behind both copies, there being room -/
theorem insx_shift {α : Type} (C L y : List α) (n i cap : Nat) (hi : i < n) (hn : n + 1 ≤ cap) (hC : C.length = cap * 3) (hL : L.length = n * 3) (ht : C.take (n * 3) = L) (hy : y.length = 3) :
    let C1 := C.take ((i + 1) * 3) ++ L.drop (i * 3) ++ C.drop ((i + 1) * 3 + (L.drop (i * 3)).length)
    C1.length = cap * 3 ∧ (C1.take (i * 3) ++ y ++ C1.drop (i * 3 + y.length)).length = cap * 3 ∧ (C1.take (i * 3) ++ y ++ C1.drop (i * 3 + y.length)).take ((n + 1) * 3) = L.take (i * 3) ++ y ++ L.drop (i * 3) := by
  intro C1
  have e1 : (C.take ((i + 1) * 3)).length = (i + 1) * 3 := by rw [List.length_take]; omega
  have e2 : (L.drop (i * 3)).length = n * 3 - i * 3 := by rw [List.length_drop]; omega
  have h1 : C1.length = cap * 3 := by
    show (C.take ((i + 1) * 3) ++ L.drop (i * 3) ++ C.drop ((i + 1) * 3 + (L.drop (i * 3)).length)).length = cap * 3
    simp only [List.length_append, List.length_take, List.length_drop]; omega
  have h2 : C1.take (i * 3) = L.take (i * 3) := by
    show (C.take ((i + 1) * 3) ++ L.drop (i * 3) ++ C.drop ((i + 1) * 3 + (L.drop (i * 3)).length)).take (i * 3) = _
    rw [List.append_assoc, List.take_append_of_le_length (by omega), List.take_take, Nat.min_eq_left (by omega), ← ht, List.take_take, Nat.min_eq_left (by omega)]
  have h3 : C1.drop (i * 3 + y.length) = L.drop (i * 3) ++ C.drop ((i + 1) * 3 + (L.drop (i * 3)).length) := by
    show (C.take ((i + 1) * 3) ++ L.drop (i * 3) ++ C.drop ((i + 1) * 3 + (L.drop (i * 3)).length)).drop (i * 3 + y.length) = _
    have e3 : i * 3 + y.length = (C.take ((i + 1) * 3)).length := by omega
    rw [List.append_assoc, e3, List.drop_left']
    rfl
  refine ⟨h1, ?_, ?_⟩
  · simp only [List.length_append, List.length_take, List.length_drop, h1]; omega
  · rw [h2, h3, ← List.append_assoc]
    have e4 : (n + 1) * 3 = (L.take (i * 3) ++ y ++ L.drop (i * 3)).length := by
      rw [List.length_append, List.length_append, List.length_take, e2, hy]; omega
    rw [e4, List.take_left']
    rfl
/-- the row behind both copies, in a new row -/
theorem insx_grow {α : Type} (R0 L y : List α) (n i G : Nat) (hi : i < n) (hn : n + 1 ≤ G) (hR : R0.length = G * 3) (hL : L.length = n * 3) (ht : R0.take (i * 3) = L.take (i * 3)) (hy : y.length = 3) :
    let R1 := R0.take (i * 3) ++ y ++ R0.drop (i * 3 + y.length)
    R1.length = G * 3 ∧ (R1.take ((i + 1) * 3) ++ L.drop (i * 3) ++ R1.drop ((i + 1) * 3 + (L.drop (i * 3)).length)).length = G * 3 ∧ (R1.take ((i + 1) * 3) ++ L.drop (i * 3) ++ R1.drop ((i + 1) * 3 + (L.drop (i * 3)).length)).take ((n + 1) * 3) = L.take (i * 3) ++ y ++ L.drop (i * 3) := by
  intro R1
  have e2 : (L.drop (i * 3)).length = n * 3 - i * 3 := by rw [List.length_drop]; omega
  have e1 : (R0.take (i * 3)).length = i * 3 := by rw [List.length_take]; omega
  have h1 : R1.length = G * 3 := by
    show (R0.take (i * 3) ++ y ++ R0.drop (i * 3 + y.length)).length = G * 3
    simp only [List.length_append, List.length_take, List.length_drop]; omega
  have h2 : R1.take ((i + 1) * 3) = L.take (i * 3) ++ y := by
    show (R0.take (i * 3) ++ y ++ R0.drop (i * 3 + y.length)).take ((i + 1) * 3) = _
    have e3 : (i + 1) * 3 = (R0.take (i * 3) ++ y).length := by rw [List.length_append, e1, hy]; omega
    rw [e3, List.take_left', ht]
    rfl
  refine ⟨h1, ?_, ?_⟩
  · simp only [List.length_append, List.length_take, List.length_drop, h1]; omega
  · rw [h2]
    have e4 : (n + 1) * 3 = (L.take (i * 3) ++ y ++ L.drop (i * 3)).length := by
      rw [List.length_append, List.length_append, List.length_take, e2, hy]; omega
    rw [e4, List.take_left']
    rfl

/-- a block that holds one property -/
def VX (w : World) (vb : Nat) (x : Ex) : Prop := w.heap[vb]? = some (.cells (gE x).toArray 32 (0, 0))
theorem VX.cell {w : World} {vb : Nat} {x : Ex} (h : VX w vb x) : ∀ j v, (gE x)[j]? = some v → w.cell? ⟨vb, j, none⟩ = some v := fun j v hj => by
  unfold VX at h
  unfold World.cell?
  simp only [h]
  simpa using hj
theorem VX.lt {w : World} {vb : Nat} {x : Ex} (h : VX w vb x) : vb < w.heap.size := (Array.getElem?_eq_some_iff.1 h).1
theorem VX.gl {w : World} {vb : Nat} {x : Ex} (h : VX w vb x) : GL gE 3 w w.heap.size (some ⟨vb, 0, none⟩) [x] := fun _ => ⟨vb, 0, rfl, h.lt, fun j y i v hj hv => by
  cases j with
  | zero =>
    simp at hj
    subst hj
    simpa using h.cell i v hv
  | succ j => simp at hj⟩
theorem VX.shape {w : World} {vb : Nat} {x : Ex} (h : VX w vb x) : w.shape? vb = some (32, 3) := by
  unfold World.shape?
  simp only [show w.heap[vb]? = _ from h]
  rfl
theorem VX.free {w : World} {vb : Nat} {x : Ex} (h : VX w vb x) (j : Nat) : w.frozen? ⟨vb, j, none⟩ = false := by
  unfold World.frozen?
  simp only [show w.heap[vb]? = _ from h]
  simp
theorem cells_shape {w : World} {q : Nat} {cur : Array Value} {t : TypeId} (h : w.heap[q]? = some (.cells cur t (0, 0))) : w.shape? q = some (t, cur.size) := by
  unfold World.shape?
  simp only [h]
theorem cells_at {w : World} {q : Nat} {cur : Array Value} {t : TypeId} (h : w.heap[q]? = some (.cells cur t (0, 0))) (j : Nat) : w.cell? ⟨q, j, none⟩ = cur[j]? := by
  unfold World.cell?
  simp only [h]
  simp

/-- cuts of a row of properties -/
theorem cutX (q n c k : Nat) (hk : k ≤ n) (hkc : k < c) (w : World) : (Instr.slice 22 (.slice (some ⟨q, 0, none⟩) n c) (some (.int .i64 (k : Int))) none none).run Tryz.prog w = .ok (.slice (some ⟨q, k * 3, none⟩) (n - k) (c - k)) w := by
  rw [run_slice_l (P := Tryz.prog) w 22 _ n c undX .i64 k (by omega) (by omega), sizeOfX]
  simp only [Result.andThen, sliced, Int.toNat_natCast]
  rw [if_neg (by omega)]
  simp [Addr.add]
  intro h
  omega
theorem cutHX (q n c k : Nat) (hk : k ≤ c) (w : World) : (Instr.slice 22 (.slice (some ⟨q, 0, none⟩) n c) none (some (.int .i64 (k : Int))) none).run Tryz.prog w = .ok (.slice (some ⟨q, 0, none⟩) k c) w := by
  rw [run_slice_h (P := Tryz.prog) w 22 _ n c undX .i64 k (by omega) (by omega), sizeOfX]
  simp [Result.andThen, sliced, Addr.add]

set_option maxHeartbeats 2000000 in
theorem insertE_end (v : Value) (xs : List Ex) (x : Ex) (W : World) (B vb : Nat) (hown : OwnX W B v xs) (hvb : VX W vb x) (hB : B ≤ W.heap.size) (hn : xs.length ≤ 100000) :
    Calls Tryz.prog 37 #[v, .int .i64 xs.length, .slice (some ⟨vb, 0, none⟩) 1 1] W fun e w' => ∃ v', e = .returned v' ∧ OwnX w' B v' (xs ++ [x]) ∧ Below B W w' ∧ Kpv v v' W w' := by
  have HS := Lib.hid (GL.src gE_len gE_one hvb.gl Tryz.underlying22 1)
  have HO := Lib.hid hown
  obtain ⟨A, c, rfl, hlc, _⟩ := OwnG.ret gE_len hown
  have HB := Lib.hid (Below.refl B W)
  have hcut : ∀ w, (Instr.slice 22 (.slice A xs.length c) (some (.int .i64 (xs.length : Int))) none none).run Tryz.prog w = .ok (sliced A xs.length xs.length c 3) w := fun w => by
    rw [run_slice_l (P := Tryz.prog) w 22 _ xs.length c undX .i64 xs.length (by omega) (by omega), sizeOfX]
    rfl
  generalize sliced A xs.length xs.length c 3 = sl at hcut
  clear hown hvb hlc
  go_enter Tryz.func37, Tryz.ntmps37
  go_wp2_with (at_builtin; go_must (refine wpList_plain rfl (fun K hK => oper_appG (g := gE) (k := 3) (e := 32) (by decide) _ _ 22 22 rfl (.agg #[.string ByteArray.empty, .int .i64 0, .string ByteArray.empty]) 40 Tryz.underlying22 infoX rfl (by decide) B _ xs [x] _ rfl HO.out rfl HS.out hB (by simp; omega) (fun v' w' hown' hgr hof => hK _ _ ?_))); have hkp : Kpv (.slice A xs.length c) v' W w' := ⟨fun k hk hne => hgr.block k hk (fun e => hne e.symm), hgr.size, fun k hk => by rcases Nat.lt_or_ge k W.heap.size with h | h; (by_cases he : (Value.slice A xs.length c).ownBlock = some k; exact Or.inl he; exact absurd hk (hof k h he)); exact Or.inr h⟩; have hb' : Below B W w' := Below.grow HB.out HO.out hgr hB (Nat.le_refl _))
  go_ret
  exact ⟨_, rfl, hown', hb', hkp⟩

theorem run_overX (W : World) (q vb : Nat) (cur : Array Value) (x : Ex) (hq : W.heap[q]? = some (.cells cur 32 (0, 0))) (hs : cur.size ≠ 0) (hvb : VX W vb x) (hne : vb ≠ q) (o lb cb : Nat) :
    (callFunc 66 #[.slice (some ⟨vb, 0, none⟩) 1 1, .slice (some ⟨q, o, none⟩) lb cb]).run Tryz.prog W = .ok (.value (.bool false)) W := by
  rw [run_callFunc_extern Tryz.func66 (by kernel_rfl) (by kernel_rfl) (by kernel_rfl) (e := Extern.SlicesOverlaps.overlaps #[22, 22] #[4]) (by kernel_rfl),
    Lib.run_overlaps_apart W 22 4 32 Tryz.underlying22 3 (fun w => by have := sizeOfX w; rwa [elemX] at this) ⟨vb, 0, none⟩ ⟨q, o, none⟩ 1 1 lb cb hne 32 32 3 cur.size hvb.shape (cells_shape hq) hs (hvb.free 0) (hvb.free 3)]
  rfl
theorem VX.setRow {W : World} {vb q : Nat} {x : Ex} (h : VX W vb x) (hne : vb ≠ q) (cs : Array Value) : VX (W.setRow q cs) vb x := by
  unfold VX at h ⊢
  rw [setRow_other W q vb cs hne]; exact h

set_option maxHeartbeats 4000000 in
theorem insertE_shift (q n cap : Nat) (cur : Array Value) (xs : List Ex) (i : Nat) (x : Ex) (W : World) (B vb : Nat) (hq : W.heap[q]? = some (.cells cur 32 (0, 0))) (hnl : xs.length = n) (hi : i < n) (hroom : n + 1 ≤ cap) (hcap : cap ≤ maxLen)
    (hcs : cur.size = cap * 3) (htake : cur.toList.take (n * 3) = xs.flatMap gE) (hvb : VX W vb x) (hne : vb ≠ q) (hBq : B ≤ q) :
    Calls Tryz.prog 37 #[.slice (some ⟨q, 0, none⟩) n cap, .int .i64 i, .slice (some ⟨vb, 0, none⟩) 1 1] W fun e w' => ∃ v', e = .returned v' ∧ OwnX w' B v' (insX xs i x) ∧ Below B W w' ∧ Kpv (.slice (some ⟨q, 0, none⟩) n cap) v' W w' := by
  have hov := run_overX W q vb cur x hq (by omega) hvb hne
  have hL : (xs.flatMap gE).length = n * 3 := by rw [flat_len gE_len, hnl]
  obtain ⟨s1, s2, s3⟩ := insx_shift cur.toList (xs.flatMap gE) (gE x) n i cap hi hroom (by simpa using hcs) hL htake rfl
  have hins := insx_flat xs i x (by omega)
  have hil := insx_len xs i x (by omega)
  have h1L : ∀ u ∈ xs.flatMap gE, u.oneCell' = true := fun u hu => by
    obtain ⟨y, _, hy⟩ := List.mem_flatMap.1 hu
    exact gE_one y u hy
  have hcell : ∀ j u, (xs.flatMap gE)[j]? = some u → W.cell? ⟨q, j, none⟩ = some u := fun j u hj => by
    rw [cells_at hq, ← Array.getElem?_toList]
    rw [← htake, List.getElem?_take] at hj
    split at hj
    · exact hj
    · cases hj
  generalize xs.flatMap gE = L at hL s1 s2 s3 hins h1L hcell htake
  have hdl : (L.drop (i * 3)).length = (n - i) * 3 := by rw [List.length_drop, hL]; omega
  unfold maxLen at hcap
  obtain ⟨W1, hW1⟩ : ∃ W1, W1 = W.drew.setRow q (cur.toList.take ((i + 1) * 3) ++ L.drop (i * 3) ++ cur.toList.drop ((i + 1) * 3 + (L.drop (i * 3)).length)).toArray := ⟨_, rfl⟩
  have hcp1 : ∀ ty dc sc, (Builtin.copy_ #[22, 22] ty #[.slice (some ⟨q, (i + 1) * 3, none⟩) (n - i) dc, .slice (some ⟨q, i * 3, none⟩) (n + 1 - i) sc]).run Tryz.prog W.drew = .ok (goInt ((n - i : Nat) : Int)) W1 := fun ty dc sc => by
    rw [hW1]
    exact run_copy_rowK W.drew _ _ ty 32 3 q _ _ dc ⟨q, i * 3, none⟩ _ sc cur 32 (L.drop (i * 3)) (n - i) Tryz.underlying22 sizeX hq (by simp only [Nat.min_def]; split <;> omega) hdl
      (fun j u hj => by rw [Addr.add_lit]; exact hcell _ u (by rwa [List.getElem?_drop] at hj)) (by rw [hdl, hcs]; omega) (fun u hu => h1L u (List.mem_of_mem_drop hu))
  have hq1 : W1.heap[q]? = some (.cells (cur.toList.take ((i + 1) * 3) ++ L.drop (i * 3) ++ cur.toList.drop ((i + 1) * 3 + (L.drop (i * 3)).length)).toArray 32 (0, 0)) := by rw [hW1]; exact setRow_heap W.drew q _ _ _ _ hq
  have hvb1 : VX W1 vb x := by rw [hW1]; exact VX.setRow (show VX W.drew vb x from hvb) hne _
  have hb1 : Below B W W1 := by rw [hW1]; exact below_setRow ((Below.refl _ _).drew) hBq _
  have hk1 : KP q W W1 := by rw [hW1]; exact (KP.drew0 q W).setRow q (Or.inl rfl) _
  clear hW1
  generalize cur.toList.take ((i + 1) * 3) ++ L.drop (i * 3) ++ cur.toList.drop ((i + 1) * 3 + (L.drop (i * 3)).length) = C1 at hq1 s1 s2 s3
  obtain ⟨W2, hW2⟩ : ∃ W2, W2 = W1.setRow q (C1.take (i * 3) ++ gE x ++ C1.drop (i * 3 + (gE x).length)).toArray := ⟨_, rfl⟩
  have hcp2 : ∀ ty dc, (Builtin.copy_ #[22, 22] ty #[.slice (some ⟨q, i * 3, none⟩) (n + 1 - i) dc, .slice (some ⟨vb, 0, none⟩) 1 1]).run Tryz.prog W1 = .ok (goInt ((1 : Nat) : Int)) W2 := fun ty dc => by
    rw [hW2]
    exact run_copy_rowK W1 _ _ ty 32 3 q (i * 3) (n + 1 - i) dc ⟨vb, 0, none⟩ 1 1 C1.toArray 32 (gE x) 1 Tryz.underlying22 sizeX hq1 (by simp only [Nat.min_def]; split <;> omega) rfl
      (fun j u hj => by rw [Addr.add_lit, Nat.zero_add]; exact hvb1.cell j u hj) (by rw [List.size_toArray, s1]; show i * 3 + 3 ≤ cap * 3; omega) (gE_one x)
  have hq2 : W2.heap[q]? = some (.cells (C1.take (i * 3) ++ gE x ++ C1.drop (i * 3 + (gE x).length)).toArray 32 (0, 0)) := by rw [hW2]; exact setRow_heap W1 q _ _ _ _ hq1
  have hb2 : Below B W W2 := by rw [hW2]; exact below_setRow hb1 hBq _
  have hk2 : KP q W W2 := by rw [hW2]; exact hk1.setRow q (Or.inl rfl) _
  clear hW2
  have HKP := Lib.hid hk2
  clear hk1 hk2
  have HOWN : Hid (OwnX W2 B (.slice (some ⟨q, 0, none⟩) (n + 1) cap) (insX xs i x)) := Lib.hid (by
    refine ⟨by rw [hins, hil, List.length_append, List.length_append, List.length_take, hdl, gE_len, hL, hnl]; omega, .inr ⟨q, cap, _, by rw [hil, hnl], hBq, hq2, by omega, by unfold maxLen; omega, ?_, ?_⟩⟩
    · rw [List.size_toArray]; exact s2
    · rw [hil, hnl, hins]; exact s3)
  have HB := Lib.hid hb2
  have e1 : ((n + 1 : Nat) : Int) = (n : Int) + 1 := by omega
  have e2 : ((i + 1 : Nat) : Int) = (i : Int) + 1 := by omega
  have c1 := cutX q n cap i (by omega) (by omega)
  have c2 := cutHX q n cap (n + 1) hroom
  have c3 := cutX q (n + 1) cap (i + 1) (by omega) (by omega)
  have c4 := cutX q (n + 1) cap i (by omega) (by omega)
  rw [e1] at c2
  rw [e2] at c3
  have hw1 : IntKind.i64.wrap ((i : Int) + 1) = (i : Int) + 1 := by rw [IntKind.wrap_i64]; omega
  have z1 : ((i : Int) == (n : Int)) = false := by simp; omega
  have z1' : (i == n) = false := by simp; omega
  have z2 : decide ((cap : Int) < (n : Int) + 1) = false := decide_eq_false (by omega)
  clear e1 e2 hq hcs htake hvb hne s1 s2 s3 hins hil h1L hcell hL hdl hq1 hvb1 hb1 hq2 hb2 hnl hBq
  go_enter Tryz.func37, Tryz.ntmps37
  go_wp2_with (simp only [hov])
  go_region_law (refine step_copy_runI rfl _ _ 22 22 rfl _ _ (by simp [Act.eval, Act.put]) (by simp [Act.eval, Act.put]) (hcp1 _ _ _) ?_)
  go_wp2_with (at_builtin; refine wpList_copy_runI _ rfl _ _ 22 22 rfl _ _ rfl rfl (hcp2 _ _) ?_)
  go_ret
  exact ⟨_, rfl, HOWN.out, HB.out, HKP.out.kpv⟩

theorem zeroX_size (k : Nat) : (Builtin.zeroCells (Value.agg #[.string ByteArray.empty, .int .i64 0, .string ByteArray.empty]).cells k).size = k * 3 := by
  rw [size_zeroCells]
  rfl

set_option maxHeartbeats 4000000 in
theorem insertE_grow (q n : Nat) (cur : Array Value) (xs : List Ex) (i : Nat) (x : Ex) (W : World) (B vb : Nat) (hq : W.heap[q]? = some (.cells cur 32 (0, 0))) (hnl : xs.length = n) (hi : i < n) (hcap : n ≤ 100000)
    (_hcs : cur.size = n * 3) (htake : cur.toList.take (n * 3) = xs.flatMap gE) (hvb : VX W vb x) (_hne : vb ≠ q) (hB : B ≤ W.heap.size) :
    Calls Tryz.prog 37 #[.slice (some ⟨q, 0, none⟩) n n, .int .i64 i, .slice (some ⟨vb, 0, none⟩) 1 1] W fun e w' => ∃ v', e = .returned v' ∧ OwnX w' B v' (insX xs i x) ∧ Below B W w' ∧ Kpv (.slice (some ⟨q, 0, none⟩) n n) v' W w' := by
  have hL : (xs.flatMap gE).length = n * 3 := by rw [flat_len gE_len, hnl]
  have hins := insx_flat xs i x (by omega)
  have hil := insx_len xs i x (by omega)
  have h1L : ∀ u ∈ xs.flatMap gE, u.oneCell' = true := fun u hu => by
    obtain ⟨y, _, hy⟩ := List.mem_flatMap.1 hu
    exact gE_one y u hy
  have hcell : ∀ j u, (xs.flatMap gE)[j]? = some u → W.cell? ⟨q, j, none⟩ = some u := fun j u hj => by
    rw [cells_at hq, ← Array.getElem?_toList]
    rw [← htake, List.getElem?_take] at hj
    split at hj
    · exact hj
    · cases hj
  generalize xs.flatMap gE = L at hL hins h1L hcell htake
  have hdl : (L.drop (i * 3)).length = (n - i) * 3 := by rw [List.length_drop, hL]; omega
  have htl : (L.take (i * 3)).length = i * 3 := by rw [List.length_take, hL]; omega
  obtain ⟨i0, hi0, hz0, hzs, hzb⟩ := info_parts infoX
  have hqw : q < W.heap.size := (Array.getElem?_eq_some_iff.1 hq).1
  have hvw := hvb.lt
  have hkk : (n : Int) + 1 - (i : Int) = ((n + 1 - i : Nat) : Int) := by omega
  have hik : i + (n + 1 - i) = n + 1 := by omega
  have hold : (Builtin.firstCells i0.size i (.slice (some ⟨q, 0, none⟩) i n)).run Tryz.prog W.drew = .ok (L.take (i * 3)).toArray W.drew := by
    rw [hzs]
    exact run_firstCells_some W.drew 3 i ⟨q, 0, none⟩ i n (L.take (i * 3)) htl (fun j v hj => by
      rw [Addr.add_lit, Nat.zero_add]
      rw [List.getElem?_take] at hj
      split at hj
      · exact hcell j v hj
      · cases hj)
  obtain ⟨G, hG⟩ : ∃ G, G = grownCap W (n + 1) n 32 := ⟨_, rfl⟩
  have hGn : n + 1 ≤ G := by rw [hG]; exact grownCap_ge W _ _ _
  have hGm : G ≤ maxLen := by rw [hG]; exact grownCap_le_maxLen W (n + 1) n 32 (by unfold maxLen; omega)
  obtain ⟨R0, hR0⟩ : ∃ R0 : Array Value, R0 = (L.take (i * 3)).toArray ++ Builtin.zeroCells (Value.agg #[.string ByteArray.empty, .int .i64 0, .string ByteArray.empty]).cells (n + 1 - i) ++ Builtin.zeroCells (Value.agg #[.string ByteArray.empty, .int .i64 0, .string ByteArray.empty]).cells (G - (n + 1)) := ⟨_, rfl⟩
  have hR0s : R0.toList.length = G * 3 := by
    rw [hR0, Array.length_toList, Array.size_append, Array.size_append, zeroX_size, zeroX_size, List.size_toArray, htl]; omega
  have hR0t : R0.toList.take (i * 3) = L.take (i * 3) := by
    rw [hR0, Array.toList_append, Array.toList_append, List.append_assoc]
    have aux : ∀ (T X : List Value), T.length = i * 3 → (T ++ X).take (i * 3) = T := fun T X h => by rw [← h, List.take_left']; rfl
    exact aux _ _ htl
  obtain ⟨W1, hW1⟩ : ∃ W1, W1 = W.drew.alloc (.cells R0 32) := ⟨_, rfl⟩
  have hrz : ∀ ty, (Builtin.append_ #[22, 3] ty #[.slice (some ⟨q, 0, none⟩) i n, .int .i64 ((n : Int) + 1 - (i : Int))]).run Tryz.prog W = .ok (.slice (some ⟨W.heap.size, 0, none⟩) (n + 1) G) W1 := fun ty => by
    have h := Lib.run_append_grow_zeros W 22 3 ty 32 i0 _ .i64 .i64 Tryz.underlying22 Tryz.underlying3 hi0 hz0 (some ⟨q, 0, none⟩) i n (L.take (i * 3)) hold (n + 1 - i) (by omega) (by omega) (by omega) (by omega) (by rw [hzb]; omega) (by rw [hzb, hik]; exact growslice_fits (by omega) (by omega))
    rw [hik, ← hG] at h
    rw [hkk, hW1, hR0]
    exact h
  have hq1 : W1.heap[W.heap.size]? = some (.cells R0 32 (0, 0)) := by rw [hW1]; exact heap_alloc_new W.drew _
  have hvb1 : VX W1 vb x := by rw [hW1]; exact (heap_alloc_old W.drew _ hvw).trans hvb
  have hc1 : ∀ j u, L[j]? = some u → W1.cell? ⟨q, j, none⟩ = some u := fun j u hj => by rw [hW1, World.cell?_alloc_past (w := W.drew) _ q j hqw]; exact hcell j u hj
  have hb1 : Below B W W1 := by rw [hW1]; exact ((Below.refl B W).drew).alloc hB _
  obtain ⟨N, hN⟩ : ∃ N, N = W.heap.size := ⟨_, rfl⟩
  rw [← hN] at hrz hq1
  have hNW : W.heap.size ≤ N := by rw [hN]; exact Nat.le_refl _
  have hBN : B ≤ N := by omega
  have hqN : q ≠ N := by omega
  have hvN : vb ≠ N := by omega
  have hk1 : KP q W W1 := by rw [hW1]; exact (KP.drew0 q W).alloc _
  clear hW1 hold hR0 hG hkk hik hcell hq htake hi0 hz0 hzs hzb hvb hB
  obtain ⟨s1, s2, s3⟩ := insx_grow R0.toList L (gE x) n i G hi hGn hR0s hL hR0t rfl
  obtain ⟨W2, hW2⟩ : ∃ W2, W2 = W1.setRow N (R0.toList.take (i * 3) ++ gE x ++ R0.toList.drop (i * 3 + (gE x).length)).toArray := ⟨_, rfl⟩
  have hcpA : ∀ ty dc, (Builtin.copy_ #[22, 22] ty #[.slice (some ⟨N, i * 3, none⟩) (n + 1 - i) dc, .slice (some ⟨vb, 0, none⟩) 1 1]).run Tryz.prog W1 = .ok (goInt ((1 : Nat) : Int)) W2 := fun ty dc => by
    rw [hW2]
    exact run_copy_rowK W1 _ _ ty 32 3 N (i * 3) (n + 1 - i) dc ⟨vb, 0, none⟩ 1 1 R0 32 (gE x) 1 Tryz.underlying22 sizeX hq1 (by simp only [Nat.min_def]; split <;> omega) rfl
      (fun j u hj => by rw [Addr.add_lit, Nat.zero_add]; exact hvb1.cell j u hj) (by rw [Array.length_toList] at hR0s; rw [hR0s]; show i * 3 + 3 ≤ G * 3; omega) (gE_one x)
  have hq2 : W2.heap[N]? = some (.cells (R0.toList.take (i * 3) ++ gE x ++ R0.toList.drop (i * 3 + (gE x).length)).toArray 32 (0, 0)) := by rw [hW2]; exact setRow_heap W1 N _ _ _ _ hq1
  have hc2 : ∀ j u, L[j]? = some u → W2.cell? ⟨q, j, none⟩ = some u := fun j u hj => by
    have := hc1 j u hj
    rw [hW2]
    unfold World.cell? at this ⊢
    rw [setRow_other W1 N q _ hqN]; exact this
  have hb2 : Below B W W2 := by rw [hW2]; exact below_setRow hb1 hBN _
  have hk2 : KP q W W2 := by rw [hW2]; exact hk1.setRow N (Or.inr hNW) _
  clear hW2
  generalize R0.toList.take (i * 3) ++ gE x ++ R0.toList.drop (i * 3 + (gE x).length) = R1 at hq2 s1 s2 s3
  obtain ⟨W3, hW3⟩ : ∃ W3, W3 = W2.drew.setRow N (R1.take ((i + 1) * 3) ++ L.drop (i * 3) ++ R1.drop ((i + 1) * 3 + (L.drop (i * 3)).length)).toArray := ⟨_, rfl⟩
  have hcpB : ∀ ty dc sc, (Builtin.copy_ #[22, 22] ty #[.slice (some ⟨N, (i + 1) * 3, none⟩) (n - i) dc, .slice (some ⟨q, i * 3, none⟩) (n - i) sc]).run Tryz.prog W2.drew = .ok (goInt ((n - i : Nat) : Int)) W3 := fun ty dc sc => by
    rw [hW3]
    have := run_copy_rowK W2.drew 22 22 ty 32 3 N ((i + 1) * 3) (n - i) dc ⟨q, i * 3, none⟩ (n - i) sc R1.toArray 32 (L.drop (i * 3)) (n - i) Tryz.underlying22 sizeX hq2 (by simp only [Nat.min_def]; split <;> omega) hdl
      (fun j u hj => by rw [Addr.add_lit]; exact hc2 _ u (by rwa [List.getElem?_drop] at hj)) (by rw [hdl, List.size_toArray, s1]; omega) (fun u hu => h1L u (List.mem_of_mem_drop hu))
    exact this
  have hq3 : W3.heap[N]? = some (.cells (R1.take ((i + 1) * 3) ++ L.drop (i * 3) ++ R1.drop ((i + 1) * 3 + (L.drop (i * 3)).length)).toArray 32 (0, 0)) := by rw [hW3]; exact setRow_heap W2.drew N _ _ _ _ hq2
  have hb3 : Below B W W3 := by rw [hW3]; exact below_setRow hb2.drew hBN _
  have hk3 : KP q W W3 := by rw [hW3]; exact hk2.drew.setRow N (Or.inr hNW) _
  clear hW3
  have HKP := Lib.hid hk3
  have HNW := Lib.hid hNW
  clear hk1 hk2 hk3 hNW
  have HOWN : Hid (OwnX W3 B (.slice (some ⟨N, 0, none⟩) (n + 1) G) (insX xs i x)) := Lib.hid (by
    refine ⟨by rw [hins, hil, List.length_append, List.length_append, htl, hdl, gE_len, hnl]; omega, .inr ⟨N, G, _, by rw [hil, hnl], hBN, hq3, by omega, hGm, ?_, ?_⟩⟩
    · rw [List.size_toArray]; exact s2
    · rw [hil, hnl, hins]; exact s3)
  have HB := Lib.hid hb3
  have e2 : ((i + 1 : Nat) : Int) = (i : Int) + 1 := by omega
  have c1 := cutX q n n i (by omega) (by omega)
  have c2 := cutHX q n n i (by omega)
  have c3 := cutX N (n + 1) G i (by omega) (by omega)
  have c4 := cutX N (n + 1) G (i + 1) (by omega) (by omega)
  rw [e2] at c4
  have hw1 : IntKind.i64.wrap ((i : Int) + 1) = (i : Int) + 1 := by rw [IntKind.wrap_i64]; omega
  have z1 : ((i : Int) == (n : Int)) = false := by simp; omega
  have z1' : (i == n) = false := by simp; omega
  have z2 : decide ((n : Int) < (n : Int) + 1) = true := decide_eq_true (by omega)
  unfold maxLen at hGm
  clear e2 s1 s2 s3 hins hil h1L hL hdl htl hq1 hvb1 hb1 hq2 hb2 hq3 hb3 hnl hBN hR0s hR0t hc1 hc2 hvw hqw hqN hvN hN
  go_enter Tryz.func37, Tryz.ntmps37
  go_wp2_with (first
    | (at_builtin; refine Lib.wpList_append_run _ rfl _ _ _ _ rfl _ _ rfl rfl _ _ (hrz _) ?_)
    | (at_builtin; refine wpList_copy_runI _ rfl _ _ 22 22 rfl _ _ rfl rfl (hcpA _ _) ?_))
  go_region_law (refine step_copy_runI rfl _ _ 22 22 rfl _ _ (by simp [Act.eval, Act.put]) (by simp [Act.eval, Act.put]) (hcpB _ _ _) ?_)
  go_wp2
  go_ret
  exact ⟨_, rfl, HOWN.out, HB.out, HKP.out.kpn HNW.out⟩

/-- the list with an element at a place, of the call's own -/
theorem insertE_any (v : Value) (xs : List Ex) (i : Nat) (x : Ex) (W : World) (B vb : Nat) (hown : OwnX W B v xs) (hvb : VX W vb x) (hne : ∀ q n c, v = .slice (some ⟨q, 0, none⟩) n c → vb ≠ q) (hB : B ≤ W.heap.size) (hi : i ≤ xs.length) (hn : xs.length ≤ 100000) :
    Calls Tryz.prog 37 #[v, .int .i64 i, .slice (some ⟨vb, 0, none⟩) 1 1] W fun e w' => ∃ v', e = .returned v' ∧ OwnX w' B v' (insX xs i x) ∧ Below B W w' ∧ Kpv v v' W w' := by
  by_cases he : i = xs.length
  · subst he
    have e : insX xs xs.length x = xs ++ [x] := by unfold insX; simp
    rw [e]
    exact insertE_end v xs x W B vb hown hvb hB hn
  · have h' := hown
    unfold OwnX OwnG at h'
    rcases h'.2 with ⟨_, h0⟩ | ⟨q, cap, cur, rfl, hBq, hq, hnc, hcm, hcs, htake⟩
    · omega
    · by_cases hroom : xs.length + 1 ≤ cap
      · exact insertE_shift q xs.length cap cur xs i x W B vb hq rfl (by omega) hroom hcm hcs htake hvb (hne _ _ _ rfl) hBq
      · obtain rfl : cap = xs.length := by omega
        exact insertE_grow q xs.length cur xs i x W B vb hq rfl (by omega) hn hcs htake hvb (hne _ _ _ rfl) hB

end Go.Proofs.YtjkhfifnfgchgabGreatDoor
