/-
  What Insert of slices answers at queue's entries, of a slice of the call's own. Conditions: the list reads as data; few elements.
  What with of queue answers: the entries and one more, at its place, in memory of their own. Conditions: the list reads as data, and is in order; few entries, with few properties.
  What checkEntry and New of queue and of the reference answer, and Push of queue. Conditions: the list reads as data, and is in order; few entries, with few properties; the library's bound on short texts holds a number.
  What Push and Return of queue answer. Conditions: the list reads as data, and is in order; few entries, with few properties; the library's bound on short texts holds a number.
  What Pop and Expire of queue answer. Conditions: the list reads as data; few entries, with few properties; Expire: instants within their range.
-/
import Derived.Test.YtjhojpghllnoiaaDoorQaC
import Derived.Shelf.Spec.SlicesInsertGrow
import Derived.Deep.RegionLaw
namespace Go.Proofs.YtjhojpghllnoiaaDoor
open Go.RowKit

theorem infoX : (Tryd.prog.info? 34).map (fun i => (i.zero, i.size, i.bytes)) = some (some (.agg (enX En.zero none 0).toArray), 12, 136) := by kernel_rfl
theorem sizeX : (Tryd.prog.info? 34).map (·.size) = some 12 := by kernel_rfl
theorem elemX : Tryd.prog.elem 24 = 34 := by kernel_rfl
theorem undX : Tryd.prog.underlying 24 = some (.slice (Tryd.prog.elem 24)) := by rw [elemX]; exact Tryd.underlying24
theorem sizeOfX (w : World) : (sizeOf (Tryd.prog.elem 24)).run Tryd.prog w = .ok 12 w := by
  obtain ⟨i, hi, hz, hz1, hz2⟩ := info_parts infoX
  rw [elemX]
  simp [sizeOf, typeInfo, hi, hz1]
/-! ### Insert -/
/-- all but block q is as it was -/
structure KP (q : Nat) (w w' : World) : Prop where
  keep : ∀ k, k < w.heap.size → k ≠ q → w'.heap[k]? = w.heap[k]?
  size : w.heap.size ≤ w'.heap.size
theorem KP.drew0 (q : Nat) (w : World) : KP q w w.drew := ⟨fun _ _ _ => rfl, Nat.le_refl _⟩
theorem KP.drew {q : Nat} {w w' : World} (h : KP q w w') : KP q w w'.drew := ⟨h.keep, h.size⟩
theorem KP.setRow {q : Nat} {w w' : World} (h : KP q w w') (g : Nat) (hg : g = q ∨ w.heap.size ≤ g) (cs : Array Value) : KP q w (w'.setRow g cs) :=
  ⟨fun k hk hne => (setRow_other w' g k cs (fun e => by rcases hg with rfl | hg <;> omega)).trans (h.keep k hk hne), by have := h.size; simpa using this⟩
theorem KP.alloc {q : Nat} {w w' : World} (h : KP q w w') (o : Obj) : KP q w (w'.alloc o) :=
  ⟨fun k hk hne => (heap_alloc_old w' o (Nat.lt_of_lt_of_le hk h.size)).trans (h.keep k hk hne), by have := h.size; simp; omega⟩
/-- what a call that may write over the list v, and answers v', leaves as it was -/
structure Kpv (v v' : Value) (w w' : World) : Prop where
  keep : ∀ k, k < w.heap.size → v.ownBlock ≠ some k → w'.heap[k]? = w.heap[k]?
  size : w.heap.size ≤ w'.heap.size
  own : ∀ k, v'.ownBlock = some k → v.ownBlock = some k ∨ w.heap.size ≤ k
theorem KP.kpv {q n c n' c' : Nat} {w w' : World} (h : KP q w w') : Kpv (.slice (some ⟨q, 0, none⟩) n c) (.slice (some ⟨q, 0, none⟩) n' c') w w' :=
  ⟨fun k hk hne => h.keep k hk (fun e => hne (by rw [e]; rfl)), h.size, fun k hk => Or.inl hk⟩
theorem KP.kpn {q n c N n' c' : Nat} {w w' : World} (h : KP q w w') (hN : w.heap.size ≤ N) : Kpv (.slice (some ⟨q, 0, none⟩) n c) (.slice (some ⟨N, 0, none⟩) n' c') w w' :=
  ⟨fun k hk hne => h.keep k hk (fun e => hne (by rw [e]; rfl)), h.size, fun k hk => Or.inr (by simp only [Value.ownBlock, Option.some.injEq] at hk; omega)⟩
def insX (xs : List EE) (i : Nat) (x : EE) : List EE := xs.take i ++ [x] ++ xs.drop i
theorem insx_flat (xs : List EE) (i : Nat) (x : EE) (hi : i ≤ xs.length) : (insX xs i x).flatMap gE = (xs.flatMap gE).take (i * 12) ++ gE x ++ (xs.flatMap gE).drop (i * 12) := by
  unfold insX
  rw [List.flatMap_append, List.flatMap_append, flat_take gE_len xs i hi, flat_drop gE_len xs i hi]
  simp
theorem insx_len (xs : List EE) (i : Nat) (x : EE) (hi : i ≤ xs.length) : (insX xs i x).length = xs.length + 1 := by
  unfold insX
  simp
  omega
/-- the row behind both copies, there being room -/
theorem insx_shift {α : Type} (C L y : List α) (n i cap : Nat) (hi : i < n) (hn : n + 1 ≤ cap) (hC : C.length = cap * 12) (hL : L.length = n * 12) (ht : C.take (n * 12) = L) (hy : y.length = 12) :
    let C1 := C.take ((i + 1) * 12) ++ L.drop (i * 12) ++ C.drop ((i + 1) * 12 + (L.drop (i * 12)).length)
    C1.length = cap * 12 ∧ (C1.take (i * 12) ++ y ++ C1.drop (i * 12 + y.length)).length = cap * 12 ∧ (C1.take (i * 12) ++ y ++ C1.drop (i * 12 + y.length)).take ((n + 1) * 12) = L.take (i * 12) ++ y ++ L.drop (i * 12) := by
  intro C1
  have e1 : (C.take ((i + 1) * 12)).length = (i + 1) * 12 := by rw [List.length_take]; omega
  have e2 : (L.drop (i * 12)).length = n * 12 - i * 12 := by rw [List.length_drop]; omega
  have h1 : C1.length = cap * 12 := by
    show (C.take ((i + 1) * 12) ++ L.drop (i * 12) ++ C.drop ((i + 1) * 12 + (L.drop (i * 12)).length)).length = cap * 12
    simp only [List.length_append, List.length_take, List.length_drop]; omega
  have h2 : C1.take (i * 12) = L.take (i * 12) := by
    show (C.take ((i + 1) * 12) ++ L.drop (i * 12) ++ C.drop ((i + 1) * 12 + (L.drop (i * 12)).length)).take (i * 12) = _
    rw [List.append_assoc, List.take_append_of_le_length (by omega), List.take_take, Nat.min_eq_left (by omega), ← ht, List.take_take, Nat.min_eq_left (by omega)]
  have h3 : C1.drop (i * 12 + y.length) = L.drop (i * 12) ++ C.drop ((i + 1) * 12 + (L.drop (i * 12)).length) := by
    show (C.take ((i + 1) * 12) ++ L.drop (i * 12) ++ C.drop ((i + 1) * 12 + (L.drop (i * 12)).length)).drop (i * 12 + y.length) = _
    have e3 : i * 12 + y.length = (C.take ((i + 1) * 12)).length := by omega
    rw [List.append_assoc, e3, List.drop_left']
    rfl
  refine ⟨h1, ?_, ?_⟩
  · simp only [List.length_append, List.length_take, List.length_drop, h1]; omega
  · rw [h2, h3, ← List.append_assoc]
    have e4 : (n + 1) * 12 = (L.take (i * 12) ++ y ++ L.drop (i * 12)).length := by
      rw [List.length_append, List.length_append, List.length_take, e2, hy]; omega
    rw [e4, List.take_left']
    rfl
/-- the row behind both copies, in a new row -/
theorem insx_grow {α : Type} (R0 L y : List α) (n i G : Nat) (hi : i < n) (hn : n + 1 ≤ G) (hR : R0.length = G * 12) (hL : L.length = n * 12) (ht : R0.take (i * 12) = L.take (i * 12)) (hy : y.length = 12) :
    let R1 := R0.take (i * 12) ++ y ++ R0.drop (i * 12 + y.length)
    R1.length = G * 12 ∧ (R1.take ((i + 1) * 12) ++ L.drop (i * 12) ++ R1.drop ((i + 1) * 12 + (L.drop (i * 12)).length)).length = G * 12 ∧ (R1.take ((i + 1) * 12) ++ L.drop (i * 12) ++ R1.drop ((i + 1) * 12 + (L.drop (i * 12)).length)).take ((n + 1) * 12) = L.take (i * 12) ++ y ++ L.drop (i * 12) := by
  intro R1
  have e2 : (L.drop (i * 12)).length = n * 12 - i * 12 := by rw [List.length_drop]; omega
  have e1 : (R0.take (i * 12)).length = i * 12 := by rw [List.length_take]; omega
  have h1 : R1.length = G * 12 := by
    show (R0.take (i * 12) ++ y ++ R0.drop (i * 12 + y.length)).length = G * 12
    simp only [List.length_append, List.length_take, List.length_drop]; omega
  have h2 : R1.take ((i + 1) * 12) = L.take (i * 12) ++ y := by
    show (R0.take (i * 12) ++ y ++ R0.drop (i * 12 + y.length)).take ((i + 1) * 12) = _
    have e3 : (i + 1) * 12 = (R0.take (i * 12) ++ y).length := by rw [List.length_append, e1, hy]; omega
    rw [e3, List.take_left', ht]
    rfl
  refine ⟨h1, ?_, ?_⟩
  · simp only [List.length_append, List.length_take, List.length_drop, h1]; omega
  · rw [h2]
    have e4 : (n + 1) * 12 = (L.take (i * 12) ++ y ++ L.drop (i * 12)).length := by
      rw [List.length_append, List.length_append, List.length_take, e2, hy]; omega
    rw [e4, List.take_left']
    rfl

/-- a block that holds one entry -/
def VX (w : World) (vb : Nat) (x : EE) : Prop := w.heap[vb]? = some (.cells (gE x).toArray 34 (0, 0))
theorem VX.cell {w : World} {vb : Nat} {x : EE} (h : VX w vb x) : ∀ j v, (gE x)[j]? = some v → w.cell? ⟨vb, j, none⟩ = some v := fun j v hj => by
  unfold VX at h
  unfold World.cell?
  simp only [h]
  simpa using hj
theorem VX.lt {w : World} {vb : Nat} {x : EE} (h : VX w vb x) : vb < w.heap.size := (Array.getElem?_eq_some_iff.1 h).1
theorem VX.gl {w : World} {vb : Nat} {x : EE} (h : VX w vb x) : GL gE 12 w w.heap.size (some ⟨vb, 0, none⟩) [x] := fun _ => ⟨vb, 0, rfl, h.lt, fun j y i v hj hv => by
  cases j with
  | zero =>
    simp at hj
    subst hj
    simpa using h.cell i v hv
  | succ j => simp at hj⟩
theorem VX.shape {w : World} {vb : Nat} {x : EE} (h : VX w vb x) : w.shape? vb = some (34, 12) := by
  unfold World.shape?
  simp only [show w.heap[vb]? = _ from h]
  rfl
theorem VX.free {w : World} {vb : Nat} {x : EE} (h : VX w vb x) (j : Nat) : w.frozen? ⟨vb, j, none⟩ = false := by
  unfold World.frozen?
  simp only [show w.heap[vb]? = _ from h]
  simp
/-- cuts of a row of entries -/
theorem cutX (q n c k : Nat) (hk : k ≤ n) (hkc : k < c) (w : World) : (Instr.slice 24 (.slice (some ⟨q, 0, none⟩) n c) (some (.int .i64 (k : Int))) none none).run Tryd.prog w = .ok (.slice (some ⟨q, k * 12, none⟩) (n - k) (c - k)) w := by
  rw [run_slice_l (P := Tryd.prog) w 24 _ n c undX .i64 k (by omega) (by omega), sizeOfX]
  simp only [Result.andThen, sliced, Int.toNat_natCast]
  rw [if_neg (by omega)]
  simp [Addr.add]
  intro h
  omega
theorem cutHX (q n c k : Nat) (hk : k ≤ c) (w : World) : (Instr.slice 24 (.slice (some ⟨q, 0, none⟩) n c) none (some (.int .i64 (k : Int))) none).run Tryd.prog w = .ok (.slice (some ⟨q, 0, none⟩) k c) w := by
  rw [run_slice_h (P := Tryd.prog) w 24 _ n c undX .i64 k (by omega) (by omega), sizeOfX]
  simp [Result.andThen, sliced, Addr.add]

set_option maxHeartbeats 2000000 in
theorem insertE_end (v : Value) (xs : List EE) (x : EE) (W : World) (B vb : Nat) (hown : OwnE W B v xs) (hvb : VX W vb x) (hB : B ≤ W.heap.size) (hn : xs.length ≤ 100000) :
    Calls Tryd.prog 53 #[v, .int .i64 xs.length, .slice (some ⟨vb, 0, none⟩) 1 1] W fun e w' => ∃ v', e = .returned v' ∧ OwnE w' B v' (xs ++ [x]) ∧ Below B W w' ∧ Kpv v v' W w' := by
  have HS := Lib.hid (GL.src gE_len gE_one hvb.gl Tryd.underlying24 1)
  have HO := Lib.hid hown
  obtain ⟨A, c, rfl, hlc, _⟩ := OwnG.ret gE_len hown
  have HB := Lib.hid (Below.refl B W)
  have hcut : ∀ w, (Instr.slice 24 (.slice A xs.length c) (some (.int .i64 (xs.length : Int))) none none).run Tryd.prog w = .ok (sliced A xs.length xs.length c 12) w := fun w => by
    rw [run_slice_l (P := Tryd.prog) w 24 _ xs.length c undX .i64 xs.length (by omega) (by omega), sizeOfX]
    rfl
  generalize sliced A xs.length xs.length c 12 = sl at hcut
  clear hown hvb hlc
  go_enter Tryd.func53, Tryd.ntmps53
  go_wp2_with (at_builtin; go_must (refine wpList_plain rfl (fun K hK => oper_appG (g := gE) (k := 12) (e := 34) (by decide) _ _ 24 24 rfl (.agg (enX En.zero none 0).toArray) 136 Tryd.underlying24 infoX rfl (by decide) B _ xs [x] _ rfl HO.out rfl HS.out hB (by simp; omega) (fun v' w' hown' hgr hof => hK _ _ ?_))); have hkp : Kpv (.slice A xs.length c) v' W w' := ⟨fun k hk hne => hgr.block k hk (fun e => hne e.symm), hgr.size, fun k hk => by rcases Nat.lt_or_ge k W.heap.size with h | h; (by_cases he : (Value.slice A xs.length c).ownBlock = some k; exact Or.inl he; exact absurd hk (hof k h he)); exact Or.inr h⟩; have hb' : Below B W w' := Below.grow HB.out HO.out hgr hB (Nat.le_refl _))
  go_ret
  exact ⟨_, rfl, hown', hb', hkp⟩

theorem run_overX (W : World) (q vb : Nat) (cur : Array Value) (x : EE) (hq : W.heap[q]? = some (.cells cur 34 (0, 0))) (hs : cur.size ≠ 0) (hvb : VX W vb x) (hne : vb ≠ q) (o lb cb : Nat) :
    (callFunc 68 #[.slice (some ⟨vb, 0, none⟩) 1 1, .slice (some ⟨q, o, none⟩) lb cb]).run Tryd.prog W = .ok (.value (.bool false)) W := by
  rw [run_callFunc_extern Tryd.func68 (by kernel_rfl) (by kernel_rfl) (by kernel_rfl) (e := Extern.SlicesOverlaps.overlaps #[24, 24] #[4]) (by kernel_rfl),
    Lib.run_overlaps_apart W 24 4 34 Tryd.underlying24 12 (fun w => by have := sizeOfX w; rwa [elemX] at this) ⟨vb, 0, none⟩ ⟨q, o, none⟩ 1 1 lb cb hne 34 34 12 cur.size hvb.shape (cells_shape hq) hs (hvb.free 0) (hvb.free 12)]
  rfl
theorem VX.setRow {W : World} {vb q : Nat} {x : EE} (h : VX W vb x) (hne : vb ≠ q) (cs : Array Value) : VX (W.setRow q cs) vb x := by
  unfold VX at h ⊢
  rw [setRow_other W q vb cs hne]; exact h

set_option maxHeartbeats 4000000 in
theorem insertE_shift (q n cap : Nat) (cur : Array Value) (xs : List EE) (i : Nat) (x : EE) (W : World) (B vb : Nat) (hq : W.heap[q]? = some (.cells cur 34 (0, 0))) (hnl : xs.length = n) (hi : i < n) (hroom : n + 1 ≤ cap) (hcap : cap ≤ maxLen)
    (hcs : cur.size = cap * 12) (htake : cur.toList.take (n * 12) = xs.flatMap gE) (hvb : VX W vb x) (hne : vb ≠ q) (hBq : B ≤ q) :
    Calls Tryd.prog 53 #[.slice (some ⟨q, 0, none⟩) n cap, .int .i64 i, .slice (some ⟨vb, 0, none⟩) 1 1] W fun e w' => ∃ v', e = .returned v' ∧ OwnE w' B v' (insX xs i x) ∧ Below B W w' ∧ Kpv (.slice (some ⟨q, 0, none⟩) n cap) v' W w' := by
  have hov := run_overX W q vb cur x hq (by omega) hvb hne
  have hL : (xs.flatMap gE).length = n * 12 := by rw [flat_len gE_len, hnl]
  obtain ⟨s1, s2, s3⟩ := insx_shift cur.toList (xs.flatMap gE) (gE x) n i cap hi hroom (by simpa using hcs) hL htake rfl
  have hins := insx_flat xs i x (by omega)
  have hil := insx_len xs i x (by omega)
  have h1L : ∀ u ∈ xs.flatMap gE, u.oneCell' = true := fun u hu => by
    obtain ⟨y, _, hy⟩ := List.mem_flatMap.1 hu
    exact gE_one y u hy
  have hcell : ∀ j u, (xs.flatMap gE)[j]? = some u → W.cell? ⟨q, j, none⟩ = some u := fun j u hj => by
    rw [cells_at hq, ← Array.getElem?_toList]
    rw [← htake, List.getElem?_take] at hj
    split at hj
    · exact hj
    · cases hj
  generalize xs.flatMap gE = L at hL s1 s2 s3 hins h1L hcell htake
  have hdl : (L.drop (i * 12)).length = (n - i) * 12 := by rw [List.length_drop, hL]; omega
  unfold maxLen at hcap
  obtain ⟨W1, hW1⟩ : ∃ W1, W1 = W.drew.setRow q (cur.toList.take ((i + 1) * 12) ++ L.drop (i * 12) ++ cur.toList.drop ((i + 1) * 12 + (L.drop (i * 12)).length)).toArray := ⟨_, rfl⟩
  have hcp1 : ∀ ty dc sc, (Builtin.copy_ #[24, 24] ty #[.slice (some ⟨q, (i + 1) * 12, none⟩) (n - i) dc, .slice (some ⟨q, i * 12, none⟩) (n + 1 - i) sc]).run Tryd.prog W.drew = .ok (goInt ((n - i : Nat) : Int)) W1 := fun ty dc sc => by
    rw [hW1]
    exact run_copy_rowK W.drew _ _ ty 34 12 q _ _ dc ⟨q, i * 12, none⟩ _ sc cur 34 (L.drop (i * 12)) (n - i) Tryd.underlying24 sizeX hq (by simp only [Nat.min_def]; split <;> omega) hdl
      (fun j u hj => by rw [Addr.add_lit]; exact hcell _ u (by rwa [List.getElem?_drop] at hj)) (by rw [hdl, hcs]; omega) (fun u hu => h1L u (List.mem_of_mem_drop hu))
  have hq1 : W1.heap[q]? = some (.cells (cur.toList.take ((i + 1) * 12) ++ L.drop (i * 12) ++ cur.toList.drop ((i + 1) * 12 + (L.drop (i * 12)).length)).toArray 34 (0, 0)) := by rw [hW1]; exact setRow_heap W.drew q _ _ _ _ hq
  have hvb1 : VX W1 vb x := by rw [hW1]; exact VX.setRow (show VX W.drew vb x from hvb) hne _
  have hb1 : Below B W W1 := by rw [hW1]; exact below_setRow ((Below.refl _ _).drew) hBq _
  have hk1 : KP q W W1 := by rw [hW1]; exact (KP.drew0 q W).setRow q (Or.inl rfl) _
  clear hW1
  generalize cur.toList.take ((i + 1) * 12) ++ L.drop (i * 12) ++ cur.toList.drop ((i + 1) * 12 + (L.drop (i * 12)).length) = C1 at hq1 s1 s2 s3
  obtain ⟨W2, hW2⟩ : ∃ W2, W2 = W1.setRow q (C1.take (i * 12) ++ gE x ++ C1.drop (i * 12 + (gE x).length)).toArray := ⟨_, rfl⟩
  have hcp2 : ∀ ty dc, (Builtin.copy_ #[24, 24] ty #[.slice (some ⟨q, i * 12, none⟩) (n + 1 - i) dc, .slice (some ⟨vb, 0, none⟩) 1 1]).run Tryd.prog W1 = .ok (goInt ((1 : Nat) : Int)) W2 := fun ty dc => by
    rw [hW2]
    exact run_copy_rowK W1 _ _ ty 34 12 q (i * 12) (n + 1 - i) dc ⟨vb, 0, none⟩ 1 1 C1.toArray 34 (gE x) 1 Tryd.underlying24 sizeX hq1 (by simp only [Nat.min_def]; split <;> omega) rfl
      (fun j u hj => by rw [Addr.add_lit, Nat.zero_add]; exact hvb1.cell j u hj) (by rw [List.size_toArray, s1]; show i * 12 + 12 ≤ cap * 12; omega) (gE_one x)
  have hq2 : W2.heap[q]? = some (.cells (C1.take (i * 12) ++ gE x ++ C1.drop (i * 12 + (gE x).length)).toArray 34 (0, 0)) := by rw [hW2]; exact setRow_heap W1 q _ _ _ _ hq1
  have hb2 : Below B W W2 := by rw [hW2]; exact below_setRow hb1 hBq _
  have hk2 : KP q W W2 := by rw [hW2]; exact hk1.setRow q (Or.inl rfl) _
  clear hW2
  have HKP := Lib.hid hk2
  clear hk1 hk2
  have HOWN : Hid (OwnE W2 B (.slice (some ⟨q, 0, none⟩) (n + 1) cap) (insX xs i x)) := Lib.hid (by
    refine ⟨by rw [hins, hil, List.length_append, List.length_append, List.length_take, hdl, gE_len, hL, hnl]; omega, .inr ⟨q, cap, _, by rw [hil, hnl], hBq, hq2, by omega, by unfold maxLen; omega, ?_, ?_⟩⟩
    · rw [List.size_toArray]; exact s2
    · rw [hil, hnl, hins]; exact s3)
  have HB := Lib.hid hb2
  have e1 : ((n + 1 : Nat) : Int) = (n : Int) + 1 := by omega
  have e2 : ((i + 1 : Nat) : Int) = (i : Int) + 1 := by omega
  have c1 := cutX q n cap i (by omega) (by omega)
  have c2 := cutHX q n cap (n + 1) hroom
  have c3 := cutX q (n + 1) cap (i + 1) (by omega) (by omega)
  have c4 := cutX q (n + 1) cap i (by omega) (by omega)
  rw [e1] at c2
  rw [e2] at c3
  have hw1 : IntKind.i64.wrap ((i : Int) + 1) = (i : Int) + 1 := by rw [IntKind.wrap_i64]; omega
  have z1 : ((i : Int) == (n : Int)) = false := by simp; omega
  have z1' : (i == n) = false := by simp; omega
  have z2 : decide ((cap : Int) < (n : Int) + 1) = false := decide_eq_false (by omega)
  clear e1 e2 hq hcs htake hvb hne s1 s2 s3 hins hil h1L hcell hL hdl hq1 hvb1 hb1 hq2 hb2 hnl hBq
  go_enter Tryd.func53, Tryd.ntmps53
  go_wp2_with (simp only [hov])
  go_region_law (refine step_copy_runI rfl _ _ 24 24 rfl _ _ (by simp [Act.eval, Act.put]) (by simp [Act.eval, Act.put]) (hcp1 _ _ _) ?_)
  go_wp2_with (at_builtin; refine wpList_copy_runI _ rfl _ _ 24 24 rfl _ _ rfl rfl (hcp2 _ _) ?_)
  go_ret
  exact ⟨_, rfl, HOWN.out, HB.out, HKP.out.kpv⟩

theorem zeroX_size (k : Nat) : (Builtin.zeroCells (Value.agg (enX En.zero none 0).toArray).cells k).size = k * 12 := by
  rw [size_zeroCells]
  rfl

set_option maxHeartbeats 4000000 in
theorem insertE_grow (q n : Nat) (cur : Array Value) (xs : List EE) (i : Nat) (x : EE) (W : World) (B vb : Nat) (hq : W.heap[q]? = some (.cells cur 34 (0, 0))) (hnl : xs.length = n) (hi : i < n) (hcap : n ≤ 100000)
    (_hcs : cur.size = n * 12) (htake : cur.toList.take (n * 12) = xs.flatMap gE) (hvb : VX W vb x) (_hne : vb ≠ q) (hB : B ≤ W.heap.size) :
    Calls Tryd.prog 53 #[.slice (some ⟨q, 0, none⟩) n n, .int .i64 i, .slice (some ⟨vb, 0, none⟩) 1 1] W fun e w' => ∃ v', e = .returned v' ∧ OwnE w' B v' (insX xs i x) ∧ Below B W w' ∧ Kpv (.slice (some ⟨q, 0, none⟩) n n) v' W w' := by
  have hL : (xs.flatMap gE).length = n * 12 := by rw [flat_len gE_len, hnl]
  have hins := insx_flat xs i x (by omega)
  have hil := insx_len xs i x (by omega)
  have h1L : ∀ u ∈ xs.flatMap gE, u.oneCell' = true := fun u hu => by
    obtain ⟨y, _, hy⟩ := List.mem_flatMap.1 hu
    exact gE_one y u hy
  have hcell : ∀ j u, (xs.flatMap gE)[j]? = some u → W.cell? ⟨q, j, none⟩ = some u := fun j u hj => by
    rw [cells_at hq, ← Array.getElem?_toList]
    rw [← htake, List.getElem?_take] at hj
    split at hj
    · exact hj
    · cases hj
  generalize xs.flatMap gE = L at hL hins h1L hcell htake
  have hdl : (L.drop (i * 12)).length = (n - i) * 12 := by rw [List.length_drop, hL]; omega
  have htl : (L.take (i * 12)).length = i * 12 := by rw [List.length_take, hL]; omega
  obtain ⟨i0, hi0, hz0, hzs, hzb⟩ := info_parts infoX
  have hqw : q < W.heap.size := (Array.getElem?_eq_some_iff.1 hq).1
  have hvw := hvb.lt
  have hkk : (n : Int) + 1 - (i : Int) = ((n + 1 - i : Nat) : Int) := by omega
  have hik : i + (n + 1 - i) = n + 1 := by omega
  have hold : (Builtin.firstCells i0.size i (.slice (some ⟨q, 0, none⟩) i n)).run Tryd.prog W.drew = .ok (L.take (i * 12)).toArray W.drew := by
    rw [hzs]
    exact run_firstCells_some W.drew 12 i ⟨q, 0, none⟩ i n (L.take (i * 12)) htl (fun j v hj => by
      rw [Addr.add_lit, Nat.zero_add]
      rw [List.getElem?_take] at hj
      split at hj
      · exact hcell j v hj
      · cases hj)
  obtain ⟨G, hG⟩ : ∃ G, G = grownCap W (n + 1) n 34 := ⟨_, rfl⟩
  have hGn : n + 1 ≤ G := by rw [hG]; exact grownCap_ge W _ _ _
  have hGm : G ≤ maxLen := by rw [hG]; exact grownCap_le_maxLen W (n + 1) n 34 (by unfold maxLen; omega)
  obtain ⟨R0, hR0⟩ : ∃ R0 : Array Value, R0 = (L.take (i * 12)).toArray ++ Builtin.zeroCells (Value.agg (enX En.zero none 0).toArray).cells (n + 1 - i) ++ Builtin.zeroCells (Value.agg (enX En.zero none 0).toArray).cells (G - (n + 1)) := ⟨_, rfl⟩
  have hR0s : R0.toList.length = G * 12 := by
    rw [hR0, Array.length_toList, Array.size_append, Array.size_append, zeroX_size, zeroX_size, List.size_toArray, htl]; omega
  have hR0t : R0.toList.take (i * 12) = L.take (i * 12) := by
    rw [hR0, Array.toList_append, Array.toList_append, List.append_assoc]
    have aux : ∀ (T X : List Value), T.length = i * 12 → (T ++ X).take (i * 12) = T := fun T X h => by rw [← h, List.take_left']; rfl
    exact aux _ _ htl
  obtain ⟨W1, hW1⟩ : ∃ W1, W1 = W.drew.alloc (.cells R0 34) := ⟨_, rfl⟩
  have hrz : ∀ ty, (Builtin.append_ #[24, 3] ty #[.slice (some ⟨q, 0, none⟩) i n, .int .i64 ((n : Int) + 1 - (i : Int))]).run Tryd.prog W = .ok (.slice (some ⟨W.heap.size, 0, none⟩) (n + 1) G) W1 := fun ty => by
    have h := Lib.run_append_grow_zeros W 24 3 ty 34 i0 _ .i64 .i64 Tryd.underlying24 Tryd.underlying3 hi0 hz0 (some ⟨q, 0, none⟩) i n (L.take (i * 12)) hold (n + 1 - i) (by omega) (by omega) (by omega) (by omega) (by rw [hzb]; omega) (by rw [hzb, hik]; exact growslice_fits (by omega) (by omega))
    rw [hik, ← hG] at h
    rw [hkk, hW1, hR0]
    exact h
  have hq1 : W1.heap[W.heap.size]? = some (.cells R0 34 (0, 0)) := by rw [hW1]; exact heap_alloc_new W.drew _
  have hvb1 : VX W1 vb x := by rw [hW1]; exact (heap_alloc_old W.drew _ hvw).trans hvb
  have hc1 : ∀ j u, L[j]? = some u → W1.cell? ⟨q, j, none⟩ = some u := fun j u hj => by rw [hW1, World.cell?_alloc_past (w := W.drew) _ q j hqw]; exact hcell j u hj
  have hb1 : Below B W W1 := by rw [hW1]; exact ((Below.refl B W).drew).alloc hB _
  obtain ⟨N, hN⟩ : ∃ N, N = W.heap.size := ⟨_, rfl⟩
  rw [← hN] at hrz hq1
  have hNW : W.heap.size ≤ N := by rw [hN]; exact Nat.le_refl _
  have hBN : B ≤ N := by omega
  have hqN : q ≠ N := by omega
  have hvN : vb ≠ N := by omega
  have hk1 : KP q W W1 := by rw [hW1]; exact (KP.drew0 q W).alloc _
  clear hW1 hold hR0 hG hkk hik hcell hq htake hi0 hz0 hzs hzb hvb hB
  obtain ⟨s1, s2, s3⟩ := insx_grow R0.toList L (gE x) n i G hi hGn hR0s hL hR0t rfl
  obtain ⟨W2, hW2⟩ : ∃ W2, W2 = W1.setRow N (R0.toList.take (i * 12) ++ gE x ++ R0.toList.drop (i * 12 + (gE x).length)).toArray := ⟨_, rfl⟩
  have hcpA : ∀ ty dc, (Builtin.copy_ #[24, 24] ty #[.slice (some ⟨N, i * 12, none⟩) (n + 1 - i) dc, .slice (some ⟨vb, 0, none⟩) 1 1]).run Tryd.prog W1 = .ok (goInt ((1 : Nat) : Int)) W2 := fun ty dc => by
    rw [hW2]
    exact run_copy_rowK W1 _ _ ty 34 12 N (i * 12) (n + 1 - i) dc ⟨vb, 0, none⟩ 1 1 R0 34 (gE x) 1 Tryd.underlying24 sizeX hq1 (by simp only [Nat.min_def]; split <;> omega) rfl
      (fun j u hj => by rw [Addr.add_lit, Nat.zero_add]; exact hvb1.cell j u hj) (by rw [Array.length_toList] at hR0s; rw [hR0s]; show i * 12 + 12 ≤ G * 12; omega) (gE_one x)
  have hq2 : W2.heap[N]? = some (.cells (R0.toList.take (i * 12) ++ gE x ++ R0.toList.drop (i * 12 + (gE x).length)).toArray 34 (0, 0)) := by rw [hW2]; exact setRow_heap W1 N _ _ _ _ hq1
  have hc2 : ∀ j u, L[j]? = some u → W2.cell? ⟨q, j, none⟩ = some u := fun j u hj => by
    have := hc1 j u hj
    rw [hW2]
    unfold World.cell? at this ⊢
    rw [setRow_other W1 N q _ hqN]; exact this
  have hb2 : Below B W W2 := by rw [hW2]; exact below_setRow hb1 hBN _
  have hk2 : KP q W W2 := by rw [hW2]; exact hk1.setRow N (Or.inr hNW) _
  clear hW2
  generalize R0.toList.take (i * 12) ++ gE x ++ R0.toList.drop (i * 12 + (gE x).length) = R1 at hq2 s1 s2 s3
  obtain ⟨W3, hW3⟩ : ∃ W3, W3 = W2.drew.setRow N (R1.take ((i + 1) * 12) ++ L.drop (i * 12) ++ R1.drop ((i + 1) * 12 + (L.drop (i * 12)).length)).toArray := ⟨_, rfl⟩
  have hcpB : ∀ ty dc sc, (Builtin.copy_ #[24, 24] ty #[.slice (some ⟨N, (i + 1) * 12, none⟩) (n - i) dc, .slice (some ⟨q, i * 12, none⟩) (n - i) sc]).run Tryd.prog W2.drew = .ok (goInt ((n - i : Nat) : Int)) W3 := fun ty dc sc => by
    rw [hW3]
    have := run_copy_rowK W2.drew 24 24 ty 34 12 N ((i + 1) * 12) (n - i) dc ⟨q, i * 12, none⟩ (n - i) sc R1.toArray 34 (L.drop (i * 12)) (n - i) Tryd.underlying24 sizeX hq2 (by simp only [Nat.min_def]; split <;> omega) hdl
      (fun j u hj => by rw [Addr.add_lit]; exact hc2 _ u (by rwa [List.getElem?_drop] at hj)) (by rw [hdl, List.size_toArray, s1]; omega) (fun u hu => h1L u (List.mem_of_mem_drop hu))
    exact this
  have hq3 : W3.heap[N]? = some (.cells (R1.take ((i + 1) * 12) ++ L.drop (i * 12) ++ R1.drop ((i + 1) * 12 + (L.drop (i * 12)).length)).toArray 34 (0, 0)) := by rw [hW3]; exact setRow_heap W2.drew N _ _ _ _ hq2
  have hb3 : Below B W W3 := by rw [hW3]; exact below_setRow hb2.drew hBN _
  have hk3 : KP q W W3 := by rw [hW3]; exact hk2.drew.setRow N (Or.inr hNW) _
  clear hW3
  have HKP := Lib.hid hk3
  have HNW := Lib.hid hNW
  clear hk1 hk2 hk3 hNW
  have HOWN : Hid (OwnE W3 B (.slice (some ⟨N, 0, none⟩) (n + 1) G) (insX xs i x)) := Lib.hid (by
    refine ⟨by rw [hins, hil, List.length_append, List.length_append, htl, hdl, gE_len, hnl]; omega, .inr ⟨N, G, _, by rw [hil, hnl], hBN, hq3, by omega, hGm, ?_, ?_⟩⟩
    · rw [List.size_toArray]; exact s2
    · rw [hil, hnl, hins]; exact s3)
  have HB := Lib.hid hb3
  have e2 : ((i + 1 : Nat) : Int) = (i : Int) + 1 := by omega
  have c1 := cutX q n n i (by omega) (by omega)
  have c2 := cutHX q n n i (by omega)
  have c3 := cutX N (n + 1) G i (by omega) (by omega)
  have c4 := cutX N (n + 1) G (i + 1) (by omega) (by omega)
  rw [e2] at c4
  have hw1 : IntKind.i64.wrap ((i : Int) + 1) = (i : Int) + 1 := by rw [IntKind.wrap_i64]; omega
  have z1 : ((i : Int) == (n : Int)) = false := by simp; omega
  have z1' : (i == n) = false := by simp; omega
  have z2 : decide ((n : Int) < (n : Int) + 1) = true := decide_eq_true (by omega)
  unfold maxLen at hGm
  clear e2 s1 s2 s3 hins hil h1L hL hdl htl hq1 hvb1 hb1 hq2 hb2 hq3 hb3 hnl hBN hR0s hR0t hc1 hc2 hvw hqw hqN hvN hN
  go_enter Tryd.func53, Tryd.ntmps53
  go_wp2_with (first
    | (at_builtin; refine Lib.wpList_append_run _ rfl _ _ _ _ rfl _ _ rfl rfl _ _ (hrz _) ?_)
    | (at_builtin; refine wpList_copy_runI _ rfl _ _ 24 24 rfl _ _ rfl rfl (hcpA _ _) ?_))
  go_region_law (refine step_copy_runI rfl _ _ 24 24 rfl _ _ (by simp [Act.eval, Act.put]) (by simp [Act.eval, Act.put]) (hcpB _ _ _) ?_)
  go_wp2
  go_ret
  exact ⟨_, rfl, HOWN.out, HB.out, HKP.out.kpn HNW.out⟩

/-- the list with an element at a place, of the call's own -/
theorem insertE_any (v : Value) (xs : List EE) (i : Nat) (x : EE) (W : World) (B vb : Nat) (hown : OwnE W B v xs) (hvb : VX W vb x) (hne : ∀ q n c, v = .slice (some ⟨q, 0, none⟩) n c → vb ≠ q) (hB : B ≤ W.heap.size) (hi : i ≤ xs.length) (hn : xs.length ≤ 100000) :
    Calls Tryd.prog 53 #[v, .int .i64 i, .slice (some ⟨vb, 0, none⟩) 1 1] W fun e w' => ∃ v', e = .returned v' ∧ OwnE w' B v' (insX xs i x) ∧ Below B W w' ∧ Kpv v v' W w' := by
  by_cases he : i = xs.length
  · subst he
    have e : insX xs xs.length x = xs ++ [x] := by unfold insX; simp
    rw [e]
    exact insertE_end v xs x W B vb hown hvb hB hn
  · have h' := hown
    unfold OwnE OwnG at h'
    rcases h'.2 with ⟨_, h0⟩ | ⟨q, cap, cur, rfl, hBq, hq, hnc, hcm, hcs, htake⟩
    · omega
    · by_cases hroom : xs.length + 1 ≤ cap
      · exact insertE_shift q xs.length cap cur xs i x W B vb hq rfl (by omega) hroom hcm hcs htake hvb (hne _ _ _ rfl) hBq
      · obtain rfl : cap = xs.length := by omega
        exact insertE_grow q xs.length cur xs i x W B vb hq rfl (by omega) hn hcs htake hvb (hne _ _ _ rfl) hB

end Go.Proofs.YtjhojpghllnoiaaDoor
namespace Go.Proofs.YtjhojpghllnoiaaDoor
open Go.RowKit
open S2 (BK Put get_ops)

/-- memory that lies beside a list's own -/
def SepE (v : Value) (A : Option Addr) (p : List PR) : Prop := ∀ b o, A = some ⟨b, o, none⟩ → 0 < p.length → ∀ q n c, v = .slice (some ⟨q, 0, none⟩) n c → b ≠ q
theorem SepE.own {v : Value} {A : Option Addr} {p : List PR} (h : SepE v A p) {w : World} {B : Nat} {xs : List EE} (ho : OwnE w B v xs) (b o : Nat) (e : A = some ⟨b, o, none⟩) (hn : 0 < p.length) : v.ownBlock ≠ some b := fun e2 => by
  have hw := ho
  unfold OwnE OwnG at hw
  rcases hw.2 with ⟨rfl, _⟩ | ⟨q', cap, cur, rfl, _⟩
  · simp [Value.ownBlock] at e2
  · simp only [Value.ownBlock, Option.some.injEq] at e2
    exact h b o e hn q' _ _ rfl e2.symm
theorem lst_weak {B B' : Nat} {w : World} {v : Value} {xs : List EE} (h : LstE B w v xs) (hB : B' ≤ B) : LstE B' w v xs := ⟨h.1.weak hB, fun x hx => ⟨(h.2 x hx).1, (h.2 x hx).2.1, fun b o e => Nat.le_trans hB ((h.2 x hx).2.2 b o e)⟩⟩
/-- a list of the own with an element at a place -/
theorem lst_ins {B : Nat} {W w' : World} {v v' : Value} {ys : List EE} {y : EE} {i : Nat} (h : LstE B W v ys) (hp : PL W W.heap.size y.a (eps y)) (hd : SepE v y.a (eps y)) (hn : NewL B y.a) (hown : OwnE w' B v' (insX ys i y)) (hk : Kpv v v' W w') : LstE B w' v' (insX ys i y) := by
  have keep : ∀ (A : Option Addr) (p : List PR), PL W W.heap.size A p → SepE v A p → PL w' w'.heap.size A p ∧ SepE v' A p := fun A p hpl hs => by
    refine ⟨fun hn => ?_, fun b o e hn q n c ev hbq => ?_⟩
    · obtain ⟨b, o, e, hb, hc⟩ := hpl hn
      refine ⟨b, o, e, Nat.lt_of_lt_of_le hb hk.size, fun j x i u hx hu => ?_⟩
      rw [World.cell?_of_block (a := ⟨b, o + j * 2 + i, none⟩) (hk.keep b hb (hs.own h.1 b o e hn))]
      exact hc j x i u hx hu
    · subst hbq
      rcases hk.own b (by rw [ev]; rfl) with h1 | h1
      · exact hs.own h.1 b o e hn h1
      · have := PL.lt hpl hn b o e
        omega
  refine ⟨hown, fun z hz => ?_⟩
  have hz' : z ∈ ys ∨ z = y := by
    unfold insX at hz
    rw [List.mem_append, List.mem_append] at hz
    rcases hz with (hz | hz) | hz
    · exact Or.inl (List.mem_of_mem_take hz)
    · exact Or.inr (by simpa using hz)
    · exact Or.inl (List.mem_of_mem_drop hz)
  rcases hz' with hz | rfl
  · obtain ⟨p1, p2, p3⟩ := h.2 z hz
    have := keep _ _ p1 p2
    exact ⟨this.1, this.2, p3⟩
  · have := keep _ _ hp hd
    exact ⟨this.1, this.2, hn⟩
theorem ins_map {ys : List EE} {L : List En} (h : ys.map EE.x = L) (y : EE) (i : Nat) : (insX ys i y).map EE.x = L.take i ++ y.x :: L.drop i := by
  unfold insX
  rw [List.map_append, List.map_append, List.map_take, List.map_drop, h]
  simp

set_option maxRecDepth 20000 in
set_option maxHeartbeats 16000000 in
theorem with_any (A : Option Addr) (c : Nat) (l : List EE) (x : En) (xa : Option Addr) (xc : Nat) (w : World) (hsl : EI w w.heap.size A l) (hx : PL w w.heap.size xa x.m.props) (hs : SortQ (l.map EE.x)) (hn : l.length ≤ 99999) (hp : ∀ y ∈ l, y.x.m.props.length ≤ 4398046511104) (hxp : x.m.props.length ≤ 4398046511104) :
    Calls Tryd.prog 30 #[.slice A l.length c, enW x xa xc] w (RetLE (insQ (l.map EE.x) x) w) := by
  have HS := Lib.hid hsl
  have HPX := Lib.hid hx
  have HC := Lib.hid (fun w1 h => qClone_any A c l w1 h (by omega) hp)
  have HE := Lib.hid (fun w1 h => qCloneEntry_any x xa xc w1 h hxp)
  have HP := Lib.hid (fun w1 h => place_any A c l x xa xc w1 h hs (by omega))
  have hle := posQ_le (l.map EE.x) x
  rw [List.length_map] at hle
  have HQ : Hid (∀ ys : List EE, ys.map EE.x = l.map EE.x → ∀ y : EE, y.x = x → (insX ys (posQ (l.map EE.x) x) y).map EE.x = insQ (l.map EE.x) x) := Lib.hid (fun ys h y hy => by rw [ins_map h, hy]; rfl)
  have HLM : Hid ((l.map EE.x).length = l.length) := Lib.hid (List.length_map ..)
  generalize insQ (l.map EE.x) x = R at HQ ⊢
  generalize posQ (l.map EE.x) x = pk at HP HQ hle
  generalize l.map EE.x = L at HC HQ HLM hs
  have HLE := Lib.hid (And.intro hle hn)
  clear hsl hx hs hp hle hxp
  unfold enW enV at HP HE ⊢
  go_enter Tryd.func30, Tryd.ntmps30
  go_upto_region 1 with fail
  refine name_world (C := fun w1 => Code.wp _ _ _ _ w1) (w.alloc (.cells (enX x xa xc).toArray 34)) ?_
  intro w1 hw1
  have hb1 : Below w.heap.size w w1 := by rw [hw1]; exact S2.below_new w _
  have B_w1 := Lib.hid hb1
  have E_w1 : Hid (BK 34 w1 w.heap.size (enX x xa xc)) := Lib.hid (by rw [hw1]; exact BK.new w _ _)
  clear hw1 hb1
  obtain ⟨x1, hx1⟩ : ∃ x1, x1 = World.drew w1 := ⟨_, rfl⟩
  have hbD : Below w1.heap.size w1 x1 := by rw [hx1]; exact (Below.refl _ _).drew
  have B_x1 : Hid (Below w.heap.size w x1) := Lib.hid (stepB B_w1.out hbD)
  have E_x1 : Hid (BK 34 x1 w.heap.size (enX x xa xc)) := Lib.hid (E_w1.out.step hbD)
  clear B_w1 E_w1
  have hbd : (fun w' => BK 34 w' w.heap.size (enX x xa xc)) (World.drew w1) := by rw [← hx1]; exact E_x1.out
  have hSD : (fun w' => BK 34 w' w.heap.size (enX x xa xc)) x1 := E_x1.out
  have HWD := Lib.hid hx1
  clear hx1 hbD
  refine wp_region_held_drew (S := fun w' => BK 34 w' w.heap.size (enX x xa xc)) (by kernel_rfl) hbd (fun hHeld => ?_)
  rw [← HWD.out]
  clear hHeld
  have hHeld := hSD
  clear hSD hbd HWD
  refine wpAnyH_take (i := 0) (v := .slice A l.length c) (get_ops _ _ _ rfl) (by kernel_rfl) (by kernel_rfl) (by kernel_rfl) (fun _ _ _ h => h) (Or.inl ⟨by rfl, fun wS hSw => by (try dsimp only at hSw); go_simp⟩) hHeld ?_
  try simp only [Act.put, List.setIfInBounds_toArray, List.set_cons_zero, List.set_cons_succ]
  refine wpAnyH_take (i := 2) (v := .slice A l.length c) (get_ops _ _ _ rfl) (by kernel_rfl) (by kernel_rfl) (by kernel_rfl) (fun _ _ _ h => h) (Or.inl ⟨by rfl, fun wS hSw => by (try dsimp only at hSw); go_simp⟩) hHeld ?_
  try simp only [Act.put, List.setIfInBounds_toArray, List.set_cons_zero, List.set_cons_succ]
  refine wpAnyH_take (i := 3) (v := (.agg (enX x xa xc).toArray)) (get_ops _ _ _ rfl) (by kernel_rfl) (by kernel_rfl) (by kernel_rfl) (fun _ _ _ h => h) (Or.inl ⟨by rfl, fun wS hSw => by (try dsimp only at hSw); exact exec_load 34 _ rfl ⟨w.heap.size, 0, none⟩ (by go_simp) _ (load_en0 hSw)⟩) hHeld ?_
  try simp only [Act.put, List.setIfInBounds_toArray, List.set_cons_zero, List.set_cons_succ]
  refine wpAnyH_take (i := 5) (v := (.agg (enX x xa xc).toArray)) (get_ops _ _ _ rfl) (by kernel_rfl) (by kernel_rfl) (by kernel_rfl) (fun _ _ _ h => h) (Or.inl ⟨by rfl, fun wS hSw => by (try dsimp only at hSw); exact exec_load 34 _ rfl ⟨w.heap.size, 0, none⟩ (by go_simp) _ (load_en0 hSw)⟩) hHeld ?_
  try simp only [Act.put, List.setIfInBounds_toArray, List.set_cons_zero, List.set_cons_succ]
  refine wpAnyH_ready (rs := [1]) (by kernel_rfl) (by simp) ?_
  refine (AllReadyH.cons (get_ops _ _ _ rfl) (fun K hK => ?_) AllReadyH.nil)
  have hWc : w.heap.size + 1 ≤ x1.heap.size := E_x1.out.lt
  go_simp
  refine (HC.out x1 (HS.out.step B_x1.out)).mono ?_
  rintro e x2 ⟨vL, ys, rfl, hys, hLst, hb⟩
  have B_x2 : Hid (Below w.heap.size w x2) := Lib.hid (stepB B_x1.out hb)
  have E_x2 : Hid (BK 34 x2 w.heap.size (enX x xa xc)) := Lib.hid (E_x1.out.step hb)
  clear B_x1 E_x1
  have hLW : LstE (w.heap.size + 1) x2 vL ys := lst_weak hLst hWc
  have HYS := Lib.hid hys
  have L_x2 := Lib.hid hLW
  clear hLst hLW hys hWc
  clear hHeld hb
  go_wp2_with fail
  refine hK.out _ _ E_x2.out (fun hHeld => ?_)
  clear hK K
  try simp only [Act.put, List.setIfInBounds_toArray, List.set_cons_zero, List.set_cons_succ]
  refine wpAnyH_ready (rs := [4]) (by kernel_rfl) (by simp) ?_
  refine (AllReadyH.cons (get_ops _ _ _ rfl) (fun K hK => ?_) AllReadyH.nil)
  go_simp
  refine (HP.out x2 (HS.out.step B_x2.out)).mono ?_
  rintro e x3 ⟨rfl, hb⟩
  have B_x3 : Hid (Below w.heap.size w x3) := Lib.hid (stepB B_x2.out hb)
  have E_x3 : Hid (BK 34 x3 w.heap.size (enX x xa xc)) := Lib.hid (E_x2.out.step hb)
  have L_x3 : Hid (LstE (w.heap.size + 1) x3 vL ys) := Lib.hid (Lst.step L_x2.out hb)
  clear B_x2 E_x2 L_x2
  clear hHeld hb
  go_wp2_with fail
  refine hK.out _ _ E_x3.out (fun hHeld => ?_)
  clear hK K
  try simp only [Act.put, List.setIfInBounds_toArray, List.set_cons_zero, List.set_cons_succ]
  refine wpAnyH_ready (rs := [6]) (by kernel_rfl) (by simp) ?_
  refine (AllReadyH.cons (get_ops _ _ _ rfl) (fun K hK => ?_) AllReadyH.nil)
  have hWe : w.heap.size + 1 ≤ x3.heap.size := E_x3.out.lt
  have HLB : Hid (∀ q n c, vL = .slice (some ⟨q, 0, none⟩) n c → q < x3.heap.size) := Lib.hid (fun q n c ev => (ownG_lt L_x3.out.1 q n c ev).2)
  go_simp
  refine (HE.out x3 (GL.step HPX.out B_x3.out)).mono ?_
  rintro e x4 ⟨a2, c2, rfl, hpl, hnw, hb⟩
  have B_x4 : Hid (Below w.heap.size w x4) := Lib.hid (stepB B_x3.out hb)
  have E_x4 : Hid (BK 34 x4 w.heap.size (enX x xa xc)) := Lib.hid (E_x3.out.step hb)
  have L_x4 : Hid (LstE (w.heap.size + 1) x4 vL ys) := Lib.hid (Lst.step L_x3.out hb)
  clear B_x3 E_x3 L_x3
  have P_x4 : Hid (PL x4 x4.heap.size a2 x.m.props) := Lib.hid hpl
  have HNW : Hid (NewL (w.heap.size + 1) a2) := Lib.hid (fun b o e => Nat.le_trans hWe (hnw b o e))
  have HSP : Hid (SepE vL a2 x.m.props) := Lib.hid (fun b o e hn q n c ev => by have h1 := hnw b o e; have := HLB.out q n c ev; omega)
  clear HLB
  clear hpl hnw hWe
  clear hHeld hb
  go_wp2_with fail
  refine hK.out _ _ E_x4.out (fun hHeld => ?_)
  clear hK K
  try simp only [Act.put, List.setIfInBounds_toArray, List.set_cons_zero, List.set_cons_succ]
  refine wpAnyH_ready (rs := [7]) (by kernel_rfl) (by simp) ?_
  refine (AllReadyH.cons (get_ops _ _ _ rfl) (fun K hK => ?_) AllReadyH.nil)
  have hLB : ∀ q n c, vL = .slice (some ⟨q, 0, none⟩) n c → q < x4.heap.size := fun q n c ev => (ownG_lt L_x4.out.1 q n c ev).2
  unfold enW enV
  go_simp
  obtain ⟨vb, hvb⟩ : ∃ n, n = x4.heap.size := ⟨_, rfl⟩
  obtain ⟨x5, hx5⟩ : ∃ x5, x5 = x4.alloc (.cells (enX x a2 c2).toArray 34) := ⟨_, rfl⟩
  have hb : Below x4.heap.size x4 x5 := by rw [hx5]; exact S2.below_new _ _
  have hN : BK 34 x5 vb (gE ⟨x, a2, c2⟩) := by rw [hx5, hvb]; exact BK.new _ _ _
  have B_x5 : Hid (Below w.heap.size w x5) := Lib.hid (stepB B_x4.out hb)
  have E_x5 : Hid (BK 34 x5 w.heap.size (enX x xa xc)) := Lib.hid (E_x4.out.step hb)
  have L_x5 : Hid (LstE (w.heap.size + 1) x5 vL ys) := Lib.hid (Lst.step L_x4.out hb)
  have P_x5 : Hid (PL x5 x5.heap.size a2 x.m.props) := Lib.hid (GL.step P_x4.out hb)
  clear B_x4 E_x4 L_x4 P_x4
  have HSV : Hid (∀ q n c, vL = .slice (some ⟨q, 0, none⟩) n c → vb ≠ q) := Lib.hid (fun q n c ev => by have := hLB q n c ev; omega)
  clear hLB
  have V_x5 := Lib.hid hN
  try rw [← hx5]
  try rw [← hvb]
  clear hHeld hb hN hx5 hvb
  refine hK.out _ _ E_x5.out (fun hHeld => ?_)
  clear hK K
  try simp only [Act.put, List.setIfInBounds_toArray, List.set_cons_zero, List.set_cons_succ]
  refine wpAnyH_ready (rs := [8]) (by kernel_rfl) (by simp) ?_
  refine (AllReadyH.cons (get_ops _ _ _ rfl) (fun K hK => ?_) AllReadyH.nil)
  have hlen : ys.length = l.length := by have := congrArg List.length HYS.out; rw [List.length_map, HLM.out] at this; exact this
  go_simp
  refine (insertE_any vL ys pk ⟨x, a2, c2⟩ x5 (w.heap.size + 1) vb L_x5.out.1 V_x5.out HSV.out E_x5.out.lt (by have := HLE.out.1; omega) (by have := HLE.out.2; omega)).mono ?_
  rintro e x6 ⟨v5, rfl, hown5, hb5, hkp5⟩
  have HF : Hid (LstE w.heap.size x6 v5 (insX ys pk ⟨x, a2, c2⟩)) := Lib.hid (lst_weak (lst_ins L_x5.out P_x5.out HSP.out HNW.out hown5 hkp5) (Nat.le_succ _))
  have HBF : Hid (Below w.heap.size w x6) := Lib.hid ((B_x5.out).trans (hb5.mono (Nat.le_succ _)))
  have E_x6 : Hid (BK 34 x6 w.heap.size (enX x xa xc)) := Lib.hid (by have hlt := E_x5.out.lt; have h0 := hkp5.keep w.heap.size hlt (OwnG.off L_x5.out.1 (Nat.lt_succ_self _)); exact h0.trans E_x5.out)
  clear hown5 hb5 hkp5 hlen hHeld
  go_wp2_with fail
  refine hK.out _ _ E_x6.out (fun hHeld => ?_)
  clear hK K
  try simp only [Act.put, List.setIfInBounds_toArray, List.set_cons_zero, List.set_cons_succ]
  refine wpAnyH_take (i := 9) (v := v5) (get_ops _ _ _ rfl) (by kernel_rfl) (by kernel_rfl) (by kernel_rfl) (fun _ _ _ h => h) (Or.inl ⟨by rfl, fun wS hSw => by (try dsimp only at hSw); go_simp⟩) hHeld ?_
  try simp only [Act.put, List.setIfInBounds_toArray, List.set_cons_zero, List.set_cons_succ]
  refine wpAnyH_done (by kernel_rfl) ?_ _
  go_wp2
  go_ret
  exact ⟨_, _, rfl, HQ.out ys HYS.out ⟨x, a2, c2⟩ rfl, HF.out, HBF.out⟩
end Go.Proofs.YtjhojpghllnoiaaDoor
namespace Go.Proofs.YtjhojpghllnoiaaDoor
open Go.RowKit
open S2 (BK Put get_ops)

abbrev quC (s : Sp) (n : Int) (v : Value) : List Value := [.string s.name, .int .i64 s.max, .int .i64 s.ttl, .int .i64 s.att, .string s.dead, .int .i64 n, v]
def quV (s : Sp) (n : Int) (v : Value) : Value := .agg (quC s n v).toArray
def Sp.zero : Sp := ⟨⟨#[]⟩, 0, 0, 0, ⟨#[]⟩⟩
abbrev zeroQ : List Value := quC Sp.zero 0 (.slice none 0 0)
theorem quSize : (Tryd.prog.info? 26).map (·.size) = some 7 := by kernel_rfl
theorem spSize : (Tryd.prog.info? 23).map (·.size) = some 5 := by kernel_rfl
theorem load_qu {w : World} {g : Nat} {s : Sp} {n : Int} {v : Value} (h : BK 26 w g (quC s n v)) : (loadVar 26 ⟨g, 0, none⟩).run Tryd.prog w = .ok (quV s n v) w := S2.run_load_all h Tryd.underlying26 rfl quSize
/-- the description of a queue in a block of its own -/
theorem load_qsp {w : World} {g : Nat} {s : Sp} {n : Int} {v : Value} (h : BK 26 w g (quC s n v)) : (loadVar 23 ⟨g, 0, none⟩).run Tryd.prog w = .ok (spV s) w :=
  run_load_cells w g 0 (spC s) 23 _ (fun i v hv => by
    refine h.cell (0 + i) ?_
    rw [Nat.zero_add]
    match i, hv with
    | 0, hv => exact hv
    | 1, hv => exact hv
    | 2, hv => exact hv
    | 3, hv => exact hv
    | 4, hv => exact hv) Tryd.underlying23 rfl spSize
/-- a queue and an error that a call answers -/
def RetQ (s : Sp) (n : Int) (L : List En) (code : Int) (W : World) (E : Ending) (w' : World) : Prop := ∃ v ys, E = .returned (.tuple #[quV s n v, .int .i64 code]) ∧ ys.map EE.x = L ∧ LstE W.heap.size w' v ys ∧ Below W.heap.size W w'
theorem lst_put {B g : Nat} {w w' : World} {v : Value} {xs : List EE} (h : LstE B w v xs) (hp : Put g w w') (hg : g < B) : LstE B w' v xs := by
  refine ⟨?_, fun x hx => ⟨by rw [hp.size]; exact PL.put (h.2 x hx).1 hp (fun b o e => by have := (h.2 x hx).2.2 b o e; omega), (h.2 x hx).2⟩⟩
  rcases own_rowG h.1 with ⟨rfl, rfl⟩ | ⟨q, cap, sp, rfl, hbq, hrow, hnc, hcm, hl⟩
  · exact OwnG.nil _ _
  · exact row_ownG gE_len hbq (hp.other hrow (by omega)) hnc hcm hl
/-- the error of an entry -/
def entR (x : En) (n : Int) : Int := if inR x.k 1 (n - 1) = false ∨ inR x.r 0 1099511627776 = false ∨ inR x.t 0 1099511627776 = false then 1 else (checkR x.m : Int)
theorem entR_parts {x : En} {n : Int} (h : entR x n = 0) : (1 ≤ x.k ∧ x.k ≤ n - 1) ∧ (0 ≤ x.r ∧ x.r ≤ 1099511627776) ∧ (0 ≤ x.t ∧ x.t ≤ 1099511627776) ∧ checkR x.m = 0 := by
  unfold entR at h
  split at h
  · cases h
  rename_i h1
  have h3 : ∀ b : Bool, ¬ b = false → b = true := fun b hb => by cases b <;> simp_all
  exact ⟨inR_iff.1 (h3 _ fun e => h1 (.inl e)), inR_iff.1 (h3 _ fun e => h1 (.inr (.inl e))), inR_iff.1 (h3 _ fun e => h1 (.inr (.inr e))), by exact_mod_cast h⟩

set_option maxHeartbeats 4000000 in
theorem qEntry_any (x : En) (a : Option Addr) (c : Nat) (n : Int) (w : World) (hn : 1 ≤ n ∧ n ≤ 1099511627776) (hx : PL w w.heap.size a x.m.props) (hw : S1.Okw w) :
    Calls Tryd.prog 34 #[enW x a c, .int .i64 n] w fun e w' => e = .returned (.int .i64 (entR x n)) ∧ Below w.heap.size w w' := by
  have HN := Lib.hid (fun w1 => qWithin_any x.k 1 (n - 1) w1)
  have HA := Lib.hid (fun w1 => qWithin_any x.r 0 1099511627776 w1)
  have HT := Lib.hid (fun w1 => qWithin_any x.t 0 1099511627776 w1)
  have HX := Lib.hid hx
  have HC := Lib.hid (fun w1 h1 h2 => check_any x.m a c w1 h1 h2)
  have HO := Lib.hid hw
  have hw1 : wrap64 (n - 1) = n - 1 := wrap64_id _ (by omega) (by omega)
  have hw2 : IntKind.i64.wrap (n - 1) = n - 1 := by rw [IntKind.wrap_i64]; omega
  obtain ⟨R, hR⟩ : ∃ R, entR x n = R := ⟨_, rfl⟩
  rw [hR]
  unfold entR at hR
  obtain ⟨b1, hb1⟩ : ∃ b, inR x.k 1 (n - 1) = b := ⟨_, rfl⟩
  obtain ⟨b2, hb2⟩ : ∃ b, inR x.r 0 1099511627776 = b := ⟨_, rfl⟩
  obtain ⟨b3, hb3⟩ : ∃ b, inR x.t 0 1099511627776 = b := ⟨_, rfl⟩
  rw [hb1, hb2, hb3] at hR
  rw [hb1] at HN
  rw [hb2] at HA
  rw [hb3] at HT
  obtain ⟨k1, hk1⟩ : ∃ k, k = n - 1 := ⟨_, rfl⟩
  rw [← hk1] at hw1 hw2 HN
  have HR := Lib.hid hR
  clear hb1 hb2 hb3 hR hx hn
  unfold enW enV
  unfold msgV at HC
  go_enter Tryd.func34, Tryd.ntmps34
  go_upto_region 1 with fail
  refine name_world (C := fun w1 => Code.wp _ _ _ _ w1) (w.alloc (.cells (enX x a c).toArray 34)) ?_
  intro w1 hw1e
  have hb1 : Below w.heap.size w w1 := by rw [hw1e]; exact S2.below_new w _
  have E_w1 : Hid (BK 34 w1 w.heap.size (enX x a c)) := Lib.hid (by rw [hw1e]; exact BK.new w _ _)
  have B_w1 := Lib.hid hb1
  have d0 := E_w1.out.cell 0 rfl
  clear hw1e hb1
  rw [hk1] at hw1 hw2
  rw [hk1] at HN
  go_wp2_with fail
  refine (HN.out w1).mono ?_
  rintro e w2 ⟨rfl, hb⟩
  have B_w2 := Lib.hid (stepB B_w1.out hb)
  have E_w2 := Lib.hid (E_w1.out.step hb)
  clear hb d0
  cases b1 with
  | false =>
    obtain rfl : R = 1 := by rw [← HR.out]; simp
    go_wp2
    go_ret
    exact ⟨rfl, B_w2.out⟩
  | true =>
  have d1 := E_w2.out.cell 1 rfl
  go_wp2_with fail
  refine (HA.out w2).mono ?_
  rintro e w3 ⟨rfl, hb⟩
  have B_w3 := Lib.hid (stepB B_w2.out hb)
  have E_w3 := Lib.hid (E_w2.out.step hb)
  clear hb d1
  cases b2 with
  | false =>
    obtain rfl : R = 1 := by rw [← HR.out]; simp
    go_wp2
    go_ret
    exact ⟨rfl, B_w3.out⟩
  | true =>
  have d2 := E_w3.out.cell 2 rfl
  go_wp2_with fail
  refine (HT.out w3).mono ?_
  rintro e w4 ⟨rfl, hb⟩
  have B_w4 := Lib.hid (stepB B_w3.out hb)
  have E_w4 := Lib.hid (E_w3.out.step hb)
  clear hb d2
  cases b3 with
  | false =>
    obtain rfl : R = 1 := by rw [← HR.out]; simp
    go_wp2
    go_ret
    exact ⟨rfl, B_w4.out⟩
  | true =>
  obtain rfl : R = (checkR x.m : Int) := by rw [← HR.out]; simp
  have HLM := Lib.hid (load_en_msg E_w4.out)
  unfold msgV at HLM
  go_wp2_with first
    | (refine wpList_load_v (by rfl) 32 _ rfl ⟨w.heap.size, 3, none⟩ (by first | rfl | go_simp) _ HLM.out ?_)
  refine (HC.out w4 (HO.out.step B_w4.out) (GL.step HX.out B_w4.out)).mono ?_
  rintro e w5 ⟨rfl, hb⟩
  have B_w5 := Lib.hid (stepB B_w4.out hb)
  clear hb
  go_wp2
  go_ret
  exact ⟨rfl, B_w5.out⟩

set_option maxHeartbeats 4000000 in
theorem rEntry_any (x : En) (a : Option Addr) (c : Nat) (n : Int) (w : World) (hn : 1 ≤ n ∧ n ≤ 1099511627776) (hx : PL w w.heap.size a x.m.props) (hz : x.m.topic.size ≤ 9223372036854775807 ∧ x.m.frm.size ≤ 9223372036854775807 ∧ ∀ y ∈ x.m.props, y.1.size ≤ 9223372036854775807) :
    Calls Tryd.prog 32 #[enW x a c, .int .i64 n] w fun e w' => e = .returned (.int .i64 (entR x n)) ∧ Below w.heap.size w w' := by
  have HN := Lib.hid (fun w1 => rIn_any x.k 1 (n - 1) w1)
  have HA := Lib.hid (fun w1 => rIn_any x.r 0 1099511627776 w1)
  have HT := Lib.hid (fun w1 => rIn_any x.t 0 1099511627776 w1)
  have HX := Lib.hid hx
  have HC := Lib.hid (fun w1 h2 => rCheck_any x.m a c w1 h2 hz.1 hz.2.1 hz.2.2)
  have hw1 : wrap64 (n - 1) = n - 1 := wrap64_id _ (by omega) (by omega)
  have hw2 : IntKind.i64.wrap (n - 1) = n - 1 := by rw [IntKind.wrap_i64]; omega
  obtain ⟨R, hR⟩ : ∃ R, entR x n = R := ⟨_, rfl⟩
  rw [hR]
  unfold entR at hR
  obtain ⟨b1, hb1⟩ : ∃ b, inR x.k 1 (n - 1) = b := ⟨_, rfl⟩
  obtain ⟨b2, hb2⟩ : ∃ b, inR x.r 0 1099511627776 = b := ⟨_, rfl⟩
  obtain ⟨b3, hb3⟩ : ∃ b, inR x.t 0 1099511627776 = b := ⟨_, rfl⟩
  rw [hb1, hb2, hb3] at hR
  rw [hb1] at HN
  rw [hb2] at HA
  rw [hb3] at HT
  obtain ⟨k1, hk1⟩ : ∃ k, k = n - 1 := ⟨_, rfl⟩
  rw [← hk1] at hw1 hw2 HN
  have HR := Lib.hid hR
  clear hb1 hb2 hb3 hR hx hn
  unfold enW enV
  unfold msgV at HC
  go_enter Tryd.func32, Tryd.ntmps32
  go_upto_region 1 with fail
  refine name_world (C := fun w1 => Code.wp _ _ _ _ w1) (w.alloc (.cells (enX x a c).toArray 34)) ?_
  intro w1 hw1e
  have hb1 : Below w.heap.size w w1 := by rw [hw1e]; exact S2.below_new w _
  have E_w1 : Hid (BK 34 w1 w.heap.size (enX x a c)) := Lib.hid (by rw [hw1e]; exact BK.new w _ _)
  have B_w1 := Lib.hid hb1
  have d0 := E_w1.out.cell 0 rfl
  clear hw1e hb1
  rw [hk1] at hw1 hw2
  rw [hk1] at HN
  go_wp2_with fail
  refine (HN.out w1).mono ?_
  rintro e w2 ⟨rfl, hb⟩
  have B_w2 := Lib.hid (stepB B_w1.out hb)
  have E_w2 := Lib.hid (E_w1.out.step hb)
  clear hb d0
  cases b1 with
  | false =>
    obtain rfl : R = 1 := by rw [← HR.out]; simp
    go_wp2
    go_ret
    exact ⟨rfl, B_w2.out⟩
  | true =>
  have d1 := E_w2.out.cell 1 rfl
  go_wp2_with fail
  refine (HA.out w2).mono ?_
  rintro e w3 ⟨rfl, hb⟩
  have B_w3 := Lib.hid (stepB B_w2.out hb)
  have E_w3 := Lib.hid (E_w2.out.step hb)
  clear hb d1
  cases b2 with
  | false =>
    obtain rfl : R = 1 := by rw [← HR.out]; simp
    go_wp2
    go_ret
    exact ⟨rfl, B_w3.out⟩
  | true =>
  have d2 := E_w3.out.cell 2 rfl
  go_wp2_with fail
  refine (HT.out w3).mono ?_
  rintro e w4 ⟨rfl, hb⟩
  have B_w4 := Lib.hid (stepB B_w3.out hb)
  have E_w4 := Lib.hid (E_w3.out.step hb)
  clear hb d2
  cases b3 with
  | false =>
    obtain rfl : R = 1 := by rw [← HR.out]; simp
    go_wp2
    go_ret
    exact ⟨rfl, B_w4.out⟩
  | true =>
  obtain rfl : R = (checkR x.m : Int) := by rw [← HR.out]; simp
  have HLM := Lib.hid (load_en_msg E_w4.out)
  unfold msgV at HLM
  go_wp2_with first
    | (refine wpList_load_v (by rfl) 32 _ rfl ⟨w.heap.size, 3, none⟩ (by first | rfl | go_simp) _ HLM.out ?_)
  refine (HC.out w4 (GL.step HX.out B_w4.out)).mono ?_
  rintro e w5 ⟨rfl, hb⟩
  have B_w5 := Lib.hid (stepB B_w4.out hb)
  clear hb
  go_wp2
  go_ret
  exact ⟨rfl, B_w5.out⟩

set_option maxRecDepth 20000 in
set_option maxHeartbeats 4000000 in
theorem qNew_any (s : Sp) (w : World) (hz : s.name.size ≤ 9223372036854775807 ∧ s.dead.size ≤ 9223372036854775807) :
    Calls Tryd.prog 17 #[spV s] w (RetQ (if specR s = 0 then s else Sp.zero) (if specR s = 0 then 1 else 0) [] (specR s : Nat) w) := by
  have HC := Lib.hid (fun w1 => qCheck_any s w1 hz)
  obtain ⟨R, hR⟩ : ∃ R, specR s = R := ⟨_, rfl⟩
  rw [hR] at HC ⊢
  obtain ⟨s1, hs1⟩ : ∃ s1, (if R = 0 then s else Sp.zero) = s1 := ⟨_, rfl⟩
  obtain ⟨n1, hn1⟩ : ∃ n1, (if R = 0 then (1 : Int) else 0) = n1 := ⟨_, rfl⟩
  rw [hs1, hn1]
  have HS1 := Lib.hid hs1
  have HN1 := Lib.hid hn1
  clear hR hz hs1 hn1
  have HV : Hid (spV s = .agg (spC s).toArray) := Lib.hid rfl
  rw [HV.out] at HC ⊢
  go_enter Tryd.func17, Tryd.ntmps17
  go_upto_region 1 with fail
  refine name_world (C := fun w1 => Code.wp _ _ _ _ w1) ((w.alloc (.cells (spC s).toArray 23)).alloc (.cells zeroQ.toArray 26)) ?_
  intro w1 hw1
  have hb1 : Below w.heap.size w w1 := by rw [hw1]; exact stepB (S2.below_new w _) (S2.below_new _ _)
  have S_w1 : Hid (BK 23 w1 w.heap.size (spC s)) := Lib.hid (by rw [hw1]; exact BK.alloc (BK.new w _ _) _)
  have Z_w1 : Hid (BK 26 w1 (w.heap.size + 1) zeroQ) := Lib.hid (by rw [hw1]; exact bk_new1 w _ _ _)
  have B_w1 := Lib.hid hb1
  clear hw1 hb1
  have HL1 := Lib.hid (load_sp S_w1.out)
  rw [HV.out] at HL1
  go_wp2_with first
    | (refine wpList_load_v (by rfl) 23 _ rfl ⟨w.heap.size, 0, none⟩ (by first | rfl | go_simp) _ HL1.out ?_)
  refine (HC.out w1).mono ?_
  rintro e w2 ⟨rfl, hb⟩
  have B_w2 := Lib.hid (stepB B_w1.out hb)
  have S_w2 := Lib.hid (S_w1.out.step hb)
  have Z_w2 := Lib.hid (Z_w1.out.step hb)
  have HL2 := Lib.hid (load_sp S_w2.out)
  rw [HV.out] at HL2
  clear hb HL1
  by_cases h0 : R = 0
  · subst h0
    obtain rfl : s1 = s := by rw [← HS1.out]; simp
    obtain rfl : n1 = 1 := by rw [← HN1.out]; simp
    go_wp2_with first
      | (refine wpList_load_v (by rfl) 23 _ rfl ⟨w.heap.size, 0, none⟩ (by first | rfl | go_simp) _ HL2.out ?_)
      | (refine S2.wpList_store_all (by rfl) 26 (.tmp 2) (.tmp 12) rfl rfl (w.heap.size + 1) rfl (quC s1 1 (.slice none 0 0)) rfl 26 _ Z_w2.out quSize rfl (ones rfl) ?_; intro we hM hP; have ME := Lib.hid hM; have PE := Lib.hid hP; clear hM hP)
    exact bodyPost_ret (v := .tuple #[quV s1 1 (.slice none 0 0), .int .i64 0]) (S2.res_cell_tmp rfl _ _ (w.heap.size + 1) 26 (quC s1 1 (.slice none 0 0)) _ _ rfl rfl ME.out Tryd.underlying26 rfl quSize) rfl ⟨_, [], rfl, rfl, Lst.nil, PE.out.below B_w2.out (by omega)⟩
  · have q0 : ((R : Int) != 0) = true := by simp; omega
    obtain rfl : s1 = Sp.zero := by rw [← HS1.out, if_neg h0]
    obtain rfl : n1 = 0 := by rw [← HN1.out, if_neg h0]
    clear h0
    go_wp2_with first
      | (refine S2.wpList_store_all (by rfl) 26 (.tmp 2) (.tmp 9) rfl rfl (w.heap.size + 1) rfl zeroQ rfl 26 _ Z_w2.out quSize rfl (ones rfl) ?_; intro we hM hP; have ME := Lib.hid hM; have PE := Lib.hid hP; clear hM hP)
    exact bodyPost_ret (v := .tuple #[quV Sp.zero 0 (.slice none 0 0), .int .i64 (R : Nat)]) (S2.res_cell_tmp rfl _ _ (w.heap.size + 1) 26 zeroQ _ _ rfl rfl ME.out Tryd.underlying26 rfl quSize) rfl ⟨_, [], rfl, rfl, Lst.nil, PE.out.below B_w2.out (by omega)⟩

end Go.Proofs.YtjhojpghllnoiaaDoor
namespace Go.Proofs.YtjhojpghllnoiaaDoor
open Go.RowKit
open S2 (BK Put get_ops)

theorem load_msg0 {w : World} {g : Nat} {m : Msg} {A : Option Addr} {c : Nat} (h : BK 32 w g (msgC m A c)) : (loadVar 32 ⟨g, 0, none⟩).run Tryd.prog w = .ok (msgV m A c) w := S2.run_load_all h Tryd.underlying32 rfl msgSize
/-- the error of a push -/
def pushK (s : Sp) (n : Int) (len : Nat) (m : Msg) (now : Int) : Int := if checkR m ≠ 0 then (checkR m : Int) else if inR now 0 1099511627776 = false then 1 else if s.max ≤ (len : Int) ∨ 1099511627776 ≤ n then 6 else 0
def pushE (n now : Int) (m : Msg) : En := ⟨n, now, 0, m⟩
/-- the error of a return -/
def retK (n : Int) (l : List En) (x : En) : Int := if entR x n ≠ 0 then entR x n else if hasQ l x.k = true then 7 else if 4352 ≤ (l.length : Int) then 6 else 0
/-- the queue that a call answers where its error is k -/
def RetK (s : Sp) (n : Int) (L : List En) (k : Int) (W : World) (E : Ending) (w' : World) : Prop := RetQ (if k = 0 then s else Sp.zero) (if k = 0 then n else 0) (if k = 0 then L else []) k W E w'
theorem RetK.ok {s : Sp} {n : Int} {L : List En} {W : World} {v : Value} {ys : List EE} {w' : World} (h1 : ys.map EE.x = L) (h2 : LstE W.heap.size w' v ys) (h3 : Below W.heap.size W w') : RetK s n L 0 W (.returned (.tuple #[quV s n v, .int .i64 0])) w' := ⟨v, ys, rfl, h1, h2, h3⟩
theorem RetK.err {s : Sp} {n : Int} {L : List En} {k : Int} (hk : k ≠ 0) {W w' : World} (h3 : Below W.heap.size W w') : RetK s n L k W (.returned (.tuple #[.agg zeroQ.toArray, .int .i64 k])) w' := by
  unfold RetK
  rw [if_neg hk, if_neg hk, if_neg hk]
  exact ⟨_, [], rfl, rfl, Lst.nil, h3⟩

theorem quC_one {s : Sp} {n : Int} (v : Value) (h : v.oneCell' = true) : ∀ u ∈ quC s n v, u.oneCell' = true := fun u hu => by
  simp only [List.mem_cons, List.not_mem_nil, or_false] at hu
  rcases hu with rfl | rfl | rfl | rfl | rfl | rfl | rfl <;> first | rfl | exact h
theorem lst_one {B : Nat} {w : World} {v : Value} {xs : List EE} (h : LstE B w v xs) : v.oneCell' = true := by
  obtain ⟨A, c, rfl, _⟩ := h.ret gE_len
  rfl
set_option maxRecDepth 20000 in
set_option maxHeartbeats 16000000 in
theorem qPush_any (s : Sp) (n : Int) (A : Option Addr) (c : Nat) (l : List EE) (m : Msg) (a : Option Addr) (mc : Nat) (now : Int) (w : World) (hw : S1.Okw w) (hsl : EI w w.heap.size A l) (hx : PL w w.heap.size a m.props) (hs : SortQ (l.map EE.x)) (hl : l.length ≤ 99999) (hp : ∀ y ∈ l, y.x.m.props.length ≤ 4398046511104) (hn : 0 ≤ n) :
    Calls Tryd.prog 11 #[quV s n (.slice A l.length c), msgV m a mc, .int .i64 now] w (RetK s (n + 1) (insQ (l.map EE.x) (pushE n now m)) (pushK s n l.length m now) w) := by
  have HC := Lib.hid (fun w1 h1 h2 => check_any m a mc w1 h1 h2)
  have HT := Lib.hid (fun w1 => qWithin_any now 0 1099511627776 w1)
  have HWI := Lib.hid (fun w1 h1 h2 (h3 : checkR m = 0) => with_any A c l (pushE n now m) a mc w1 h1 h2 hs hl hp (by have := propsR_parts (checkR_parts h3); have := this.1; show m.props.length ≤ 4398046511104; omega))
  have HS := Lib.hid hsl
  have HPX := Lib.hid hx
  have HO := Lib.hid hw
  have HN := Lib.hid hn
  have HLL := Lib.hid hl
  obtain ⟨K, hK⟩ : ∃ K, pushK s n l.length m now = K := ⟨_, rfl⟩
  rw [hK]
  unfold pushK at hK
  generalize insQ (l.map EE.x) (pushE n now m) = L at HWI ⊢
  obtain ⟨ck, hck⟩ : ∃ b, checkR m = b := ⟨_, rfl⟩
  obtain ⟨b1, hb1⟩ : ∃ b, inR now 0 1099511627776 = b := ⟨_, rfl⟩
  rw [hck] at HC HWI hK
  rw [hb1] at HT hK
  have HK := Lib.hid hK
  clear hK hb1 hsl hx hs hp hw hck hl hn
  have HVM : Hid (msgV m a mc = .agg (msgC m a mc).toArray) := Lib.hid rfl
  rw [HVM.out] at HC ⊢
  unfold quV
  have g1 : ∀ x y : Int, decide (x ≥ y) = decide (y ≤ x) := fun _ _ => rfl
  go_enter Tryd.func11, Tryd.ntmps11
  go_upto_region 1 with fail
  refine name_world (C := fun w1 => Code.wp _ _ _ _ w1) (((w.alloc (.cells (quC s n (.slice A l.length c)).toArray 26)).alloc (.cells (msgC m a mc).toArray 32)).alloc (.cells zeroQ.toArray 26)) ?_
  intro w1 hw1
  have hb1 : Below w.heap.size w w1 := by rw [hw1]; exact stepB (stepB (S2.below_new w _) (S2.below_new _ _)) (S2.below_new _ _)
  have Q_w1 : Hid (BK 26 w1 w.heap.size (quC s n (.slice A l.length c))) := Lib.hid (by rw [hw1]; exact BK.alloc (BK.alloc (BK.new w _ _) _) _)
  have M_w1 : Hid (BK 32 w1 (w.heap.size + 1) (msgC m a mc)) := Lib.hid (by rw [hw1]; exact BK.alloc (bk_new1 w _ _ _) _)
  have Z_w1 : Hid (BK 26 w1 (w.heap.size + 2) zeroQ) := Lib.hid (by rw [hw1]; exact bk_new2 w _ _ _ _)
  have B_w1 := Lib.hid hb1
  clear hw1 hb1
  have HL1 := Lib.hid (load_msg0 M_w1.out)
  rw [HVM.out] at HL1
  go_wp2_with first
    | (refine wpList_load_v (by rfl) 32 _ rfl ⟨w.heap.size + 1, 0, none⟩ (by first | rfl | go_simp) _ HL1.out ?_)
  refine (HC.out w1 (HO.out.step B_w1.out) (GL.step HPX.out B_w1.out)).mono ?_
  rintro e w2 ⟨rfl, hb⟩
  have B_w2 := Lib.hid (stepB B_w1.out hb)
  have Q_w2 := Lib.hid (Q_w1.out.step hb)
  have M_w2 := Lib.hid (M_w1.out.step hb)
  have Z_w2 := Lib.hid (Z_w1.out.step hb)
  clear hb HL1
  by_cases h0 : ck = 0
  · subst h0
    go_wp2_with fail
    refine (HT.out w2).mono ?_
    rintro e w3 ⟨rfl, hb⟩
    have B_w3 := Lib.hid (stepB B_w2.out hb)
    have Q_w3 := Lib.hid (Q_w2.out.step hb)
    have M_w3 := Lib.hid (M_w2.out.step hb)
    have Z_w3 := Lib.hid (Z_w2.out.step hb)
    have Y3 := Lib.hid (Z_w3.out.lt)
    clear hb
    cases b1 with
    | false =>
      obtain rfl : K = 1 := by rw [← HK.out]; simp
      go_wp2_with first
        | (refine S2.wpList_store_all (by rfl) 26 (.tmp 6) (.tmp 20) rfl rfl (w.heap.size + 2) rfl zeroQ rfl 26 _ Z_w3.out quSize rfl (ones rfl) ?_; intro we hM hP; have ME := Lib.hid hM; have PE := Lib.hid hP; clear hM hP)
      exact bodyPost_ret (v := .tuple #[.agg zeroQ.toArray, .int .i64 1]) (S2.res_cell_tmp rfl _ _ (w.heap.size + 2) 26 zeroQ _ _ rfl rfl ME.out Tryd.underlying26 rfl quSize) rfl (RetK.err (by decide) (PE.out.below B_w3.out (by omega)))
    | true =>
    have d1 := Q_w3.out.cell 1 rfl
    have d5 := Q_w3.out.cell 5 rfl
    have d6 := Q_w3.out.cell 6 rfl
    by_cases h1 : s.max ≤ (l.length : Int)
    · have q1 : decide (s.max ≤ (l.length : Int)) = true := decide_eq_true h1
      obtain rfl : K = 6 := by rw [← HK.out]; simp [h1]
      clear h1
      go_wp2_with first
        | (refine S2.wpList_store_all (by rfl) 26 (.tmp 6) (.tmp 32) rfl rfl (w.heap.size + 2) rfl zeroQ rfl 26 _ Z_w3.out quSize rfl (ones rfl) ?_; intro we hM hP; have ME := Lib.hid hM; have PE := Lib.hid hP; clear hM hP)
      exact bodyPost_ret (v := .tuple #[.agg zeroQ.toArray, .int .i64 6]) (S2.res_cell_tmp rfl _ _ (w.heap.size + 2) 26 zeroQ _ _ rfl rfl ME.out Tryd.underlying26 rfl quSize) rfl (RetK.err (by decide) (PE.out.below B_w3.out (by omega)))
    have q1 : decide (s.max ≤ (l.length : Int)) = false := decide_eq_false h1
    by_cases h2 : 1099511627776 ≤ n
    · have q2 : decide (1099511627776 ≤ n) = true := decide_eq_true h2
      obtain rfl : K = 6 := by rw [← HK.out]; simp [h2]
      clear h2 h1
      go_wp2_with first
        | (refine S2.wpList_store_all (by rfl) 26 (.tmp 6) (.tmp 32) rfl rfl (w.heap.size + 2) rfl zeroQ rfl 26 _ Z_w3.out quSize rfl (ones rfl) ?_; intro we hM hP; have ME := Lib.hid hM; have PE := Lib.hid hP; clear hM hP)
      exact bodyPost_ret (v := .tuple #[.agg zeroQ.toArray, .int .i64 6]) (S2.res_cell_tmp rfl _ _ (w.heap.size + 2) 26 zeroQ _ _ rfl rfl ME.out Tryd.underlying26 rfl quSize) rfl (RetK.err (by decide) (PE.out.below B_w3.out (by omega)))
    have q2 : decide (1099511627776 ≤ n) = false := decide_eq_false h2
    obtain rfl : K = 0 := by rw [← HK.out]; simp [h1, h2]
    have HW1 : Hid (IntKind.i64.wrap (n + 1) = n + 1 ∧ wrap64 (n + 1) = n + 1) := Lib.hid ⟨by rw [IntKind.wrap_i64]; have := HN.out; omega, wrap64_id _ (by have := HN.out; omega) (by omega)⟩
    clear h1 h2
    have HL3 := Lib.hid (load_msg0 M_w3.out)
    unfold msgV at HL3
    go_upto_region 10 with first
      | (refine wpList_load_v (by rfl) 32 _ rfl ⟨w.heap.size + 1, 0, none⟩ (by first | rfl | go_simp) _ HL3.out ?_)
      | (refine S2.wpList_store_all (by rfl) 34 (.tmp 9) (.tmp 37) rfl rfl w3.heap.size rfl (enX (pushE n now m) a mc) rfl 34 (enX En.zero none 0) (BK.new w3 _ _) enSize rfl (enX_one _ _ _) ?_; intro w4 hM hP; have E_w4 : Hid (BK 34 w4 w3.heap.size (enX (pushE n now m) a mc)) := Lib.hid hM; have hb : Below w3.heap.size w3 w4 := hP.below (S2.below_new w3 _) (Nat.le_refl _); have B_w4 := Lib.hid (stepB B_w3.out hb); have Q_w4 := Lib.hid (Q_w3.out.step hb); have Z_w4 := Lib.hid (Z_w3.out.step hb); clear hM hP hb)
    clear d1 d5 d6
    obtain ⟨x1, hx1⟩ : ∃ x1, x1 = World.drew w4 := ⟨_, rfl⟩
    have hbD : Below w4.heap.size w4 x1 := by rw [hx1]; exact (Below.refl _ _).drew
    have B_x1 : Hid (Below w.heap.size w x1) := Lib.hid (stepB B_w4.out hbD)
    have Q_x1 : Hid (BK 26 x1 w.heap.size (quC s n (.slice A l.length c))) := Lib.hid (Q_w4.out.step hbD)
    have E_x1 : Hid (BK 34 x1 w3.heap.size (enX (pushE n now m) a mc)) := Lib.hid (E_w4.out.step hbD)
    have Z_x1 : Hid (BK 26 x1 (w.heap.size + 2) zeroQ) := Lib.hid (Z_w4.out.step hbD)
    clear B_w4 Q_w4 E_w4 Z_w4
    have hbd : (fun w' => BK 26 w' w.heap.size (quC s n (.slice A l.length c)) ∧ BK 34 w' w3.heap.size (enX (pushE n now m) a mc)) (World.drew w4) := by rw [← hx1]; exact ⟨Q_x1.out, E_x1.out⟩
    have hSD : (fun w' => BK 26 w' w.heap.size (quC s n (.slice A l.length c)) ∧ BK 34 w' w3.heap.size (enX (pushE n now m) a mc)) x1 := ⟨Q_x1.out, E_x1.out⟩
    have HWD := Lib.hid hx1
    clear hx1 hbD
    refine wp_region_held_drew (S := fun w' => BK 26 w' w.heap.size (quC s n (.slice A l.length c)) ∧ BK 34 w' w3.heap.size (enX (pushE n now m) a mc)) (by kernel_rfl) hbd (fun hHeld => ?_)
    rw [← HWD.out]
    clear hHeld
    have hHeld := hSD
    clear hSD hbd HWD
    refine wpAnyH_take (i := 0) (v := .pointer (some ⟨w.heap.size, 0, none⟩)) (get_ops _ _ _ rfl) (by kernel_rfl) (by kernel_rfl) (by kernel_rfl) (fun _ _ _ h => h) (Or.inl ⟨by rfl, fun wS hSw => by (try dsimp only at hSw); go_simp⟩) hHeld ?_
    try simp only [Act.put, List.setIfInBounds_toArray, List.set_cons_zero, List.set_cons_succ]
    refine wpAnyH_take (i := 1) (v := (.agg (spC s).toArray)) (get_ops _ _ _ rfl) (by kernel_rfl) (by kernel_rfl) (by kernel_rfl) (fun _ _ _ h => h) (Or.inl ⟨by rfl, fun wS hSw => by (try dsimp only at hSw); exact exec_load 23 _ rfl ⟨w.heap.size, 0, none⟩ (by go_simp) _ (load_qsp hSw.1)⟩) hHeld ?_
    try simp only [Act.put, List.setIfInBounds_toArray, List.set_cons_zero, List.set_cons_succ]
    refine wpAnyH_take (i := 2) (v := .pointer (some ⟨w.heap.size, 5, none⟩)) (get_ops _ _ _ rfl) (by kernel_rfl) (by kernel_rfl) (by kernel_rfl) (fun _ _ _ h => h) (Or.inl ⟨by rfl, fun wS hSw => by (try dsimp only at hSw); go_simp⟩) hHeld ?_
    try simp only [Act.put, List.setIfInBounds_toArray, List.set_cons_zero, List.set_cons_succ]
    refine wpAnyH_take (i := 3) (v := .int .i64 n) (get_ops _ _ _ rfl) (by kernel_rfl) (by kernel_rfl) (by kernel_rfl) (fun _ _ _ h => h) (Or.inl ⟨by rfl, fun wS hSw => by (try dsimp only at hSw); have cS : wS.cell? ⟨w.heap.size, 5, none⟩ = some (.int .i64 n) := hSw.1.cell 5 rfl; clear hSw; go_simp⟩) hHeld ?_
    try simp only [Act.put, List.setIfInBounds_toArray, List.set_cons_zero, List.set_cons_succ]
    refine wpAnyH_take (i := 4) (v := .int .i64 (n + 1)) (get_ops _ _ _ rfl) (by kernel_rfl) (by kernel_rfl) (by kernel_rfl) (fun _ _ _ h => h) (Or.inl ⟨by rfl, fun wS hSw => by (try dsimp only at hSw); have hq := HW1.out; have hq1 := hq.1; have hq2 := hq.2; clear hSw; go_simp⟩) hHeld ?_
    try simp only [Act.put, List.setIfInBounds_toArray, List.set_cons_zero, List.set_cons_succ]
    refine wpAnyH_take (i := 5) (v := .pointer (some ⟨w.heap.size, 6, none⟩)) (get_ops _ _ _ rfl) (by kernel_rfl) (by kernel_rfl) (by kernel_rfl) (fun _ _ _ h => h) (Or.inl ⟨by rfl, fun wS hSw => by (try dsimp only at hSw); go_simp⟩) hHeld ?_
    try simp only [Act.put, List.setIfInBounds_toArray, List.set_cons_zero, List.set_cons_succ]
    refine wpAnyH_take (i := 6) (v := .slice A l.length c) (get_ops _ _ _ rfl) (by kernel_rfl) (by kernel_rfl) (by kernel_rfl) (fun _ _ _ h => h) (Or.inl ⟨by rfl, fun wS hSw => by (try dsimp only at hSw); have cS : wS.cell? ⟨w.heap.size, 6, none⟩ = some (.slice A l.length c) := hSw.1.cell 6 rfl; clear hSw; go_simp⟩) hHeld ?_
    try simp only [Act.put, List.setIfInBounds_toArray, List.set_cons_zero, List.set_cons_succ]
    refine wpAnyH_take (i := 7) (v := (.agg (enX (pushE n now m) a mc).toArray)) (get_ops _ _ _ rfl) (by kernel_rfl) (by kernel_rfl) (by kernel_rfl) (fun _ _ _ h => h) (Or.inl ⟨by rfl, fun wS hSw => by (try dsimp only at hSw); exact exec_load 34 _ rfl ⟨w3.heap.size, 0, none⟩ (by go_simp) _ (load_en0 hSw.2)⟩) hHeld ?_
    try simp only [Act.put, List.setIfInBounds_toArray, List.set_cons_zero, List.set_cons_succ]
    refine wpAnyH_ready (rs := [8]) (by kernel_rfl) (by simp) ?_
    refine (AllReadyH.cons (get_ops _ _ _ rfl) (fun K hK => ?_) AllReadyH.nil)
    have hWc : w.heap.size + 3 ≤ x1.heap.size := Z_x1.out.lt
    go_simp
    refine (HWI.out x1 (HS.out.step B_x1.out) (GL.step HPX.out B_x1.out) (by trivial)).mono ?_
    rintro e x2 ⟨vL, ys, rfl, hys, hLst, hb⟩
    have B_x2 : Hid (Below w.heap.size w x2) := Lib.hid (stepB B_x1.out hb)
    have Q_x2 : Hid (BK 26 x2 w.heap.size (quC s n (.slice A l.length c))) := Lib.hid (Q_x1.out.step hb)
    have E_x2 : Hid (BK 34 x2 w3.heap.size (enX (pushE n now m) a mc)) := Lib.hid (E_x1.out.step hb)
    have Z_x2 : Hid (BK 26 x2 (w.heap.size + 2) zeroQ) := Lib.hid (Z_x1.out.step hb)
    clear B_x1 Q_x1 E_x1 Z_x1
    obtain ⟨A4, c4, rfl, _⟩ := hLst.ret gE_len
    have hLW : LstE (w.heap.size + 3) x2 (.slice A4 ys.length c4) ys := lst_weak hLst hWc
    have HYS := Lib.hid hys
    have L_x2 := Lib.hid hLW
    clear hLst hLW hys hWc
    clear hHeld hb
    go_wp2_with fail
    refine hK.out _ _ ⟨Q_x2.out, E_x2.out⟩ (fun hHeld => ?_)
    clear hK K
    try simp only [Act.put, List.setIfInBounds_toArray, List.set_cons_zero, List.set_cons_succ]
    refine wpAnyH_take (i := 9) (v := (.agg (quC s (n + 1) (.slice A4 ys.length c4)).toArray)) (get_ops _ _ _ rfl) (by kernel_rfl) (by kernel_rfl) (by kernel_rfl) (fun _ _ _ h => h) (Or.inl ⟨by rfl, fun wS hSw => by (try dsimp only at hSw); go_simp⟩) hHeld ?_
    try simp only [Act.put, List.setIfInBounds_toArray, List.set_cons_zero, List.set_cons_succ]
    refine wpAnyH_ready (rs := [10]) (by kernel_rfl) (by simp) ?_
    refine (AllReadyH.cons (get_ops _ _ _ rfl) (fun K hK => ?_) AllReadyH.nil)
    refine S2.wp_store_all 26 _ _ rfl rfl (w.heap.size + 2) (by go_simp) (quC s (n + 1) (.slice A4 ys.length c4)) (by first | rfl | go_simp) 26 zeroQ Z_x2.out quSize rfl (quC_one (.slice A4 ys.length c4) rfl) ?_
    intro x3 hM hP
    have Z_x3 : Hid (BK 26 x3 (w.heap.size + 2) (quC s (n + 1) (.slice A4 ys.length c4))) := Lib.hid (hM)
    have B_x3 : Hid (Below w.heap.size w x3) := Lib.hid (hP.below B_x2.out (by omega))
    have Q_x3 : Hid (BK 26 x3 w.heap.size (quC s n (.slice A l.length c))) := Lib.hid (hP.other Q_x2.out (by omega))
    have E_x3 : Hid (BK 34 x3 w3.heap.size (enX (pushE n now m) a mc)) := Lib.hid (hP.other E_x2.out (by have := Y3.out; omega))
    have L_x3 : Hid (LstE (w.heap.size + 3) x3 (.slice A4 ys.length c4) ys) := Lib.hid (lst_put L_x2.out hP (by omega))
    clear B_x2 Q_x2 E_x2 Z_x2 L_x2
    clear hM hP hHeld
    refine hK.out _ _ ⟨Q_x3.out, E_x3.out⟩ (fun hHeld => ?_)
    clear hK K
    try simp only [Act.put, List.setIfInBounds_toArray, List.set_cons_zero, List.set_cons_succ]
    refine wpAnyH_take (i := 11) (v := .int .i64 0) (get_ops _ _ _ rfl) (by kernel_rfl) (by kernel_rfl) (by kernel_rfl) (fun _ _ _ h => h) (Or.inl ⟨by rfl, fun wS hSw => by (try dsimp only at hSw); go_simp⟩) hHeld ?_
    try simp only [Act.put, List.setIfInBounds_toArray, List.set_cons_zero, List.set_cons_succ]
    refine wpAnyH_done (by kernel_rfl) ?_ _
    go_wp2
    exact bodyPost_ret (v := .tuple #[quV s (n + 1) (.slice A4 ys.length c4), .int .i64 0]) (S2.res_cell_tmp rfl _ _ (w.heap.size + 2) 26 (quC s (n + 1) (.slice A4 ys.length c4)) _ _ rfl rfl Z_x3.out Tryd.underlying26 rfl quSize) rfl (RetK.ok HYS.out (lst_weak L_x3.out (by omega)) B_x3.out)
  · have q0 : ((ck : Int) != 0) = true := by simp; omega
    obtain rfl : K = (ck : Int) := by rw [← HK.out, if_pos h0]
    have hk0 : (ck : Int) ≠ 0 := by omega
    clear h0
    have HK0 := Lib.hid hk0
    clear hk0
    go_wp2_with first
      | (refine S2.wpList_store_all (by rfl) 26 (.tmp 6) (.tmp 14) rfl rfl (w.heap.size + 2) rfl zeroQ rfl 26 _ Z_w2.out quSize rfl (ones rfl) ?_; intro we hM hP; have ME := Lib.hid hM; have PE := Lib.hid hP; clear hM hP)
    exact bodyPost_ret (v := .tuple #[.agg zeroQ.toArray, .int .i64 (ck : Nat)]) (S2.res_cell_tmp rfl _ _ (w.heap.size + 2) 26 zeroQ _ _ rfl rfl ME.out Tryd.underlying26 rfl quSize) rfl (RetK.err HK0.out (PE.out.below B_w2.out (by omega)))

set_option maxRecDepth 20000 in
set_option maxHeartbeats 16000000 in
theorem qReturn_any (s : Sp) (n : Int) (A : Option Addr) (c : Nat) (l : List EE) (x : En) (a : Option Addr) (xc : Nat) (w : World) (hw : S1.Okw w) (hsl : EI w w.heap.size A l) (hx : PL w w.heap.size a x.m.props) (hs : SortQ (l.map EE.x)) (hl : l.length ≤ 99999) (hp : ∀ y ∈ l, y.x.m.props.length ≤ 4398046511104) (hn : 1 ≤ n ∧ n ≤ 1099511627776) :
    Calls Tryd.prog 13 #[quV s n (.slice A l.length c), enW x a xc] w (RetK s n (insQ (l.map EE.x) x) (retK n (l.map EE.x) x) w) := by
  have HC := Lib.hid (fun w1 h1 h2 => qEntry_any x a xc n w1 hn h2 h1)
  have HF := Lib.hid (fun g w1 h1 h2 => contE_any A c l x a xc g w1 h1 (by omega) h2)
  have HWI := Lib.hid (fun w1 h1 h2 (h3 : entR x n = 0) => with_any A c l x a xc w1 h1 h2 hs hl hp (by have := propsR_parts (checkR_parts (entR_parts h3).2.2.2); have := this.1; omega))
  have HS := Lib.hid hsl
  have HPX := Lib.hid hx
  have HO := Lib.hid hw
  obtain ⟨K, hK⟩ : ∃ K, retK n (l.map EE.x) x = K := ⟨_, rfl⟩
  rw [hK]
  unfold retK at hK
  rw [List.length_map] at hK
  generalize insQ (l.map EE.x) x = L at HWI ⊢
  obtain ⟨ck, hck⟩ : ∃ b, entR x n = b := ⟨_, rfl⟩
  obtain ⟨b1, hb1⟩ : ∃ b, hasQ (l.map EE.x) x.k = b := ⟨_, rfl⟩
  rw [hck] at HC HWI hK
  rw [hb1] at HF hK
  have HK := Lib.hid hK
  clear hK hb1 hsl hx hs hp hw hck hl hn
  unfold enW enV at HC HWI ⊢
  unfold quV
  have g1 : ∀ x y : Int, decide (x ≥ y) = decide (y ≤ x) := fun _ _ => rfl
  go_enter Tryd.func13, Tryd.ntmps13
  go_upto_region 1 with fail
  refine name_world (C := fun w1 => Code.wp _ _ _ _ w1) (((w.alloc (.cells (quC s n (.slice A l.length c)).toArray 26)).alloc (.cells (enX x a xc).toArray 34)).alloc (.cells zeroQ.toArray 26)) ?_
  intro w1 hw1
  have hb1 : Below w.heap.size w w1 := by rw [hw1]; exact stepB (stepB (S2.below_new w _) (S2.below_new _ _)) (S2.below_new _ _)
  have Q_w1 : Hid (BK 26 w1 w.heap.size (quC s n (.slice A l.length c))) := Lib.hid (by rw [hw1]; exact BK.alloc (BK.alloc (BK.new w _ _) _) _)
  have M_w1 : Hid (BK 34 w1 (w.heap.size + 1) (enX x a xc)) := Lib.hid (by rw [hw1]; exact BK.alloc (bk_new1 w _ _ _) _)
  have Z_w1 : Hid (BK 26 w1 (w.heap.size + 2) zeroQ) := Lib.hid (by rw [hw1]; exact bk_new2 w _ _ _ _)
  have B_w1 := Lib.hid hb1
  clear hw1 hb1
  have HL1 := Lib.hid (load_en0 M_w1.out)
  unfold enW enV at HL1
  have d5 := Q_w1.out.cell 5 rfl
  go_wp2_with first
    | (refine wpList_load_v (by rfl) 34 _ rfl ⟨w.heap.size + 1, 0, none⟩ (by first | rfl | go_simp) _ HL1.out ?_)
  refine (HC.out w1 (HO.out.step B_w1.out) (GL.step HPX.out B_w1.out)).mono ?_
  rintro e w2 ⟨rfl, hb⟩
  have B_w2 := Lib.hid (stepB B_w1.out hb)
  have Q_w2 := Lib.hid (Q_w1.out.step hb)
  have M_w2 := Lib.hid (M_w1.out.step hb)
  have Z_w2 := Lib.hid (Z_w1.out.step hb)
  clear hb HL1 d5
  by_cases h0 : ck = 0
  · subst h0
    have d6 := Q_w2.out.cell 6 rfl
    go_wp2_with fail
    refine (HF.out (w.heap.size + 1) w2 (HS.out.step B_w2.out) M_w2.out).mono ?_
    rintro e w3 ⟨rfl, hb⟩
    have B_w3 := Lib.hid (stepB B_w2.out hb)
    have Q_w3 := Lib.hid (Q_w2.out.step hb)
    have M_w3 := Lib.hid (M_w2.out.step hb)
    have Z_w3 := Lib.hid (Z_w2.out.step hb)
    clear hb d6
    cases b1 with
    | true =>
      obtain rfl : K = 7 := by rw [← HK.out]; simp
      go_wp2_with first
        | (refine S2.wpList_store_all (by rfl) 26 (.tmp 4) (.tmp 20) rfl rfl (w.heap.size + 2) rfl zeroQ rfl 26 _ Z_w3.out quSize rfl (ones rfl) ?_; intro we hM hP; have ME := Lib.hid hM; have PE := Lib.hid hP; clear hM hP)
      exact bodyPost_ret (v := .tuple #[.agg zeroQ.toArray, .int .i64 7]) (S2.res_cell_tmp rfl _ _ (w.heap.size + 2) 26 zeroQ _ _ rfl rfl ME.out Tryd.underlying26 rfl quSize) rfl (RetK.err (by decide) (PE.out.below B_w3.out (by omega)))
    | false =>
    have d6 := Q_w3.out.cell 6 rfl
    by_cases h1 : 4352 ≤ (l.length : Int)
    · have q1 : decide (4352 ≤ (l.length : Int)) = true := decide_eq_true h1
      obtain rfl : K = 6 := by rw [← HK.out]; simp [h1]
      clear h1
      go_wp2_with first
        | (refine S2.wpList_store_all (by rfl) 26 (.tmp 4) (.tmp 26) rfl rfl (w.heap.size + 2) rfl zeroQ rfl 26 _ Z_w3.out quSize rfl (ones rfl) ?_; intro we hM hP; have ME := Lib.hid hM; have PE := Lib.hid hP; clear hM hP)
      exact bodyPost_ret (v := .tuple #[.agg zeroQ.toArray, .int .i64 6]) (S2.res_cell_tmp rfl _ _ (w.heap.size + 2) 26 zeroQ _ _ rfl rfl ME.out Tryd.underlying26 rfl quSize) rfl (RetK.err (by decide) (PE.out.below B_w3.out (by omega)))
    have q1 : decide (4352 ≤ (l.length : Int)) = false := decide_eq_false h1
    obtain rfl : K = 0 := by rw [← HK.out]; simp [h1]
    clear h1
    go_upto_region 8 with fail
    clear d6 q1
    obtain ⟨z1, hz1⟩ : ∃ z1, z1 = World.drew w3 := ⟨_, rfl⟩
    have hbD : Below w3.heap.size w3 z1 := by rw [hz1]; exact (Below.refl _ _).drew
    have B_z1 : Hid (Below w.heap.size w z1) := Lib.hid (stepB B_w3.out hbD)
    have Q_z1 : Hid (BK 26 z1 w.heap.size (quC s n (.slice A l.length c))) := Lib.hid (Q_w3.out.step hbD)
    have M_z1 : Hid (BK 34 z1 (w.heap.size + 1) (enX x a xc)) := Lib.hid (M_w3.out.step hbD)
    have Z_z1 : Hid (BK 26 z1 (w.heap.size + 2) zeroQ) := Lib.hid (Z_w3.out.step hbD)
    clear B_w3 Q_w3 M_w3 Z_w3
    have hbd : (fun w' => BK 26 w' w.heap.size (quC s n (.slice A l.length c)) ∧ BK 34 w' (w.heap.size + 1) (enX x a xc)) (World.drew w3) := by rw [← hz1]; exact ⟨Q_z1.out, M_z1.out⟩
    have hSD : (fun w' => BK 26 w' w.heap.size (quC s n (.slice A l.length c)) ∧ BK 34 w' (w.heap.size + 1) (enX x a xc)) z1 := ⟨Q_z1.out, M_z1.out⟩
    have HWD := Lib.hid hz1
    clear hz1 hbD
    refine wp_region_held_drew (S := fun w' => BK 26 w' w.heap.size (quC s n (.slice A l.length c)) ∧ BK 34 w' (w.heap.size + 1) (enX x a xc)) (by kernel_rfl) hbd (fun hHeld => ?_)
    rw [← HWD.out]
    clear hHeld
    have hHeld := hSD
    clear hSD hbd HWD
    refine wpAnyH_take (i := 0) (v := .pointer (some ⟨w.heap.size, 0, none⟩)) (get_ops _ _ _ rfl) (by kernel_rfl) (by kernel_rfl) (by kernel_rfl) (fun _ _ _ h => h) (Or.inl ⟨by rfl, fun wS hSw => by (try dsimp only at hSw); go_simp⟩) hHeld ?_
    try simp only [Act.put, List.setIfInBounds_toArray, List.set_cons_zero, List.set_cons_succ]
    refine wpAnyH_take (i := 1) (v := (.agg (spC s).toArray)) (get_ops _ _ _ rfl) (by kernel_rfl) (by kernel_rfl) (by kernel_rfl) (fun _ _ _ h => h) (Or.inl ⟨by rfl, fun wS hSw => by (try dsimp only at hSw); exact exec_load 23 _ rfl ⟨w.heap.size, 0, none⟩ (by go_simp) _ (load_qsp hSw.1)⟩) hHeld ?_
    try simp only [Act.put, List.setIfInBounds_toArray, List.set_cons_zero, List.set_cons_succ]
    refine wpAnyH_take (i := 2) (v := .pointer (some ⟨w.heap.size, 5, none⟩)) (get_ops _ _ _ rfl) (by kernel_rfl) (by kernel_rfl) (by kernel_rfl) (fun _ _ _ h => h) (Or.inl ⟨by rfl, fun wS hSw => by (try dsimp only at hSw); go_simp⟩) hHeld ?_
    try simp only [Act.put, List.setIfInBounds_toArray, List.set_cons_zero, List.set_cons_succ]
    refine wpAnyH_take (i := 3) (v := .int .i64 n) (get_ops _ _ _ rfl) (by kernel_rfl) (by kernel_rfl) (by kernel_rfl) (fun _ _ _ h => h) (Or.inl ⟨by rfl, fun wS hSw => by (try dsimp only at hSw); have cS : wS.cell? ⟨w.heap.size, 5, none⟩ = some (.int .i64 n) := hSw.1.cell 5 rfl; clear hSw; go_simp⟩) hHeld ?_
    try simp only [Act.put, List.setIfInBounds_toArray, List.set_cons_zero, List.set_cons_succ]
    refine wpAnyH_take (i := 4) (v := .pointer (some ⟨w.heap.size, 6, none⟩)) (get_ops _ _ _ rfl) (by kernel_rfl) (by kernel_rfl) (by kernel_rfl) (fun _ _ _ h => h) (Or.inl ⟨by rfl, fun wS hSw => by (try dsimp only at hSw); go_simp⟩) hHeld ?_
    try simp only [Act.put, List.setIfInBounds_toArray, List.set_cons_zero, List.set_cons_succ]
    refine wpAnyH_take (i := 5) (v := .slice A l.length c) (get_ops _ _ _ rfl) (by kernel_rfl) (by kernel_rfl) (by kernel_rfl) (fun _ _ _ h => h) (Or.inl ⟨by rfl, fun wS hSw => by (try dsimp only at hSw); have cS : wS.cell? ⟨w.heap.size, 6, none⟩ = some (.slice A l.length c) := hSw.1.cell 6 rfl; clear hSw; go_simp⟩) hHeld ?_
    try simp only [Act.put, List.setIfInBounds_toArray, List.set_cons_zero, List.set_cons_succ]
    refine wpAnyH_take (i := 6) (v := (.agg (enX x a xc).toArray)) (get_ops _ _ _ rfl) (by kernel_rfl) (by kernel_rfl) (by kernel_rfl) (fun _ _ _ h => h) (Or.inl ⟨by rfl, fun wS hSw => by (try dsimp only at hSw); exact exec_load 34 _ rfl ⟨w.heap.size + 1, 0, none⟩ (by go_simp) _ (load_en0 hSw.2)⟩) hHeld ?_
    try simp only [Act.put, List.setIfInBounds_toArray, List.set_cons_zero, List.set_cons_succ]
    refine wpAnyH_ready (rs := [7]) (by kernel_rfl) (by simp) ?_
    refine (AllReadyH.cons (get_ops _ _ _ rfl) (fun K hK => ?_) AllReadyH.nil)
    have hWc : w.heap.size + 3 ≤ z1.heap.size := Z_z1.out.lt
    go_simp
    refine (HWI.out z1 (HS.out.step B_z1.out) (GL.step HPX.out B_z1.out) (by trivial)).mono ?_
    rintro e z2 ⟨vL, ys, rfl, hys, hLst, hb⟩
    have B_z2 : Hid (Below w.heap.size w z2) := Lib.hid (stepB B_z1.out hb)
    have Q_z2 : Hid (BK 26 z2 w.heap.size (quC s n (.slice A l.length c))) := Lib.hid (Q_z1.out.step hb)
    have M_z2 : Hid (BK 34 z2 (w.heap.size + 1) (enX x a xc)) := Lib.hid (M_z1.out.step hb)
    have Z_z2 : Hid (BK 26 z2 (w.heap.size + 2) zeroQ) := Lib.hid (Z_z1.out.step hb)
    clear B_z1 Q_z1 M_z1 Z_z1
    obtain ⟨A4, c4, rfl, _⟩ := hLst.ret gE_len
    have hLW : LstE (w.heap.size + 3) z2 (.slice A4 ys.length c4) ys := lst_weak hLst hWc
    have HYS := Lib.hid hys
    have L_z2 := Lib.hid hLW
    clear hLst hLW hys hWc
    clear hHeld hb
    go_wp2_with fail
    refine hK.out _ _ ⟨Q_z2.out, M_z2.out⟩ (fun hHeld => ?_)
    clear hK K
    try simp only [Act.put, List.setIfInBounds_toArray, List.set_cons_zero, List.set_cons_succ]
    refine wpAnyH_take (i := 8) (v := (.agg (quC s n (.slice A4 ys.length c4)).toArray)) (get_ops _ _ _ rfl) (by kernel_rfl) (by kernel_rfl) (by kernel_rfl) (fun _ _ _ h => h) (Or.inl ⟨by rfl, fun wS hSw => by (try dsimp only at hSw); go_simp⟩) hHeld ?_
    try simp only [Act.put, List.setIfInBounds_toArray, List.set_cons_zero, List.set_cons_succ]
    refine wpAnyH_ready (rs := [9]) (by kernel_rfl) (by simp) ?_
    refine (AllReadyH.cons (get_ops _ _ _ rfl) (fun K hK => ?_) AllReadyH.nil)
    refine S2.wp_store_all 26 _ _ rfl rfl (w.heap.size + 2) (by go_simp) (quC s n (.slice A4 ys.length c4)) (by first | rfl | go_simp) 26 zeroQ Z_z2.out quSize rfl (quC_one (.slice A4 ys.length c4) rfl) ?_
    intro z3 hM hP
    have Z_z3 : Hid (BK 26 z3 (w.heap.size + 2) (quC s n (.slice A4 ys.length c4))) := Lib.hid (hM)
    have B_z3 : Hid (Below w.heap.size w z3) := Lib.hid (hP.below B_z2.out (by omega))
    have Q_z3 : Hid (BK 26 z3 w.heap.size (quC s n (.slice A l.length c))) := Lib.hid (hP.other Q_z2.out (by omega))
    have M_z3 : Hid (BK 34 z3 (w.heap.size + 1) (enX x a xc)) := Lib.hid (hP.other M_z2.out (by omega))
    have L_z3 : Hid (LstE (w.heap.size + 3) z3 (.slice A4 ys.length c4) ys) := Lib.hid (lst_put L_z2.out hP (by omega))
    clear B_z2 Q_z2 M_z2 Z_z2 L_z2
    clear hM hP hHeld
    refine hK.out _ _ ⟨Q_z3.out, M_z3.out⟩ (fun hHeld => ?_)
    clear hK K
    try simp only [Act.put, List.setIfInBounds_toArray, List.set_cons_zero, List.set_cons_succ]
    refine wpAnyH_take (i := 10) (v := .int .i64 0) (get_ops _ _ _ rfl) (by kernel_rfl) (by kernel_rfl) (by kernel_rfl) (fun _ _ _ h => h) (Or.inl ⟨by rfl, fun wS hSw => by (try dsimp only at hSw); go_simp⟩) hHeld ?_
    try simp only [Act.put, List.setIfInBounds_toArray, List.set_cons_zero, List.set_cons_succ]
    refine wpAnyH_done (by kernel_rfl) ?_ _
    go_wp2
    exact bodyPost_ret (v := .tuple #[quV s n (.slice A4 ys.length c4), .int .i64 0]) (S2.res_cell_tmp rfl _ _ (w.heap.size + 2) 26 (quC s n (.slice A4 ys.length c4)) _ _ rfl rfl Z_z3.out Tryd.underlying26 rfl quSize) rfl (RetK.ok HYS.out (lst_weak L_z3.out (by omega)) B_z3.out)
  · have q0 : (ck != 0) = true := by simp [h0]
    obtain rfl : K = ck := by rw [← HK.out, if_pos h0]
    have HK0 := Lib.hid h0
    clear h0
    go_wp2_with first
      | (refine S2.wpList_store_all (by rfl) 26 (.tmp 4) (.tmp 13) rfl rfl (w.heap.size + 2) rfl zeroQ rfl 26 _ Z_w2.out quSize rfl (ones rfl) ?_; intro we hM hP; have ME := Lib.hid hM; have PE := Lib.hid hP; clear hM hP)
    exact bodyPost_ret (v := .tuple #[.agg zeroQ.toArray, .int .i64 K]) (S2.res_cell_tmp rfl _ _ (w.heap.size + 2) 26 zeroQ _ _ rfl rfl ME.out Tryd.underlying26 rfl quSize) rfl (RetK.err HK0.out (PE.out.below B_w2.out (by omega)))
end Go.Proofs.YtjhojpghllnoiaaDoor
namespace Go.Proofs.YtjhojpghllnoiaaDoor
open Go.RowKit
open S2 (BK Put get_ops)

theorem res_cct {P : Program} {fn : Func} {p q r : Tmp} {t1 t2 : TypeId} (h : fn.results = #[.cell p t1, .cell q t2, .tmp r]) (tmps : Array Value) (w : World) (g1 g2 : Nat) (T1 T2 : TypeId) (vs us : List Value) (d1 d2 : TypeDesc) (v : Value)
    (hp : tmps.getD p undef = .pointer (some ⟨g1, 0, none⟩)) (hq : tmps.getD q undef = .pointer (some ⟨g2, 0, none⟩)) (hr : tmps.getD r undef = v) (hg1 : BK T1 w g1 vs) (hg2 : BK T2 w g2 us)
    (hu1 : P.underlying t1 = some d1) (hd1 : (match d1 with | .struct _ | .array _ _ => true | _ => false) = true) (hi1 : (P.info? t1).map (·.size) = some vs.length)
    (hu2 : P.underlying t2 = some d2) (hd2 : (match d2 with | .struct _ | .array _ _ => true | _ => false) = true) (hi2 : (P.info? t2).map (·.size) = some us.length) :
    (results fn tmps).run P w = .ok (.tuple #[.agg vs.toArray, .agg us.toArray, v]) w := by
  have hp' : tmps[p]?.getD undef = .pointer (some ⟨g1, 0, none⟩) := by simpa using hp
  have hq' : tmps[q]?.getD undef = .pointer (some ⟨g2, 0, none⟩) := by simpa using hq
  have hr' : tmps[r]?.getD undef = v := by simpa using hr
  simp [results, h, hp', hq', hr', asAddr, S2.run_load_all hg1 hu1 hd1 hi1, S2.run_load_all hg2 hu2 hd2 hi2]
theorem res_tc {P : Program} {fn : Func} {p q : Tmp} {ty : TypeId} (h : fn.results = #[.tmp q, .cell p ty]) (tmps : Array Value) (w : World) (g : Nat) (t : TypeId) (vs : List Value) (d : TypeDesc) (v : Value)
    (hp : tmps.getD p undef = .pointer (some ⟨g, 0, none⟩)) (hq : tmps.getD q undef = v) (hg : BK t w g vs)
    (hu : P.underlying ty = some d) (hd : (match d with | .struct _ | .array _ _ => true | _ => false) = true) (hi : (P.info? ty).map (·.size) = some vs.length) :
    (results fn tmps).run P w = .ok (.tuple #[v, .agg vs.toArray]) w := by
  have hp' : tmps[p]?.getD undef = .pointer (some ⟨g, 0, none⟩) := by simpa using hp
  have hq' : tmps[q]?.getD undef = v := by simpa using hq
  simp [results, h, hp', hq', asAddr, S2.run_load_all hg hu hd hi]
/-- the first entry of a queue that is not empty, and the queue then -/
def RetP (s : Sp) (n : Int) (x : En) (L : List En) (W : World) (E : Ending) (w' : World) : Prop := ∃ a c v ys, E = .returned (.tuple #[enW x a c, quV s n v, .bool true]) ∧ PL w' w'.heap.size a x.m.props ∧ NewL W.heap.size a ∧ ys.map EE.x = L ∧ LstE W.heap.size w' v ys ∧ Below W.heap.size W w'
def RetP0 (W : World) (E : Ending) (w' : World) : Prop := E = .returned (.tuple #[enW En.zero none 0, .agg zeroQ.toArray, .bool false]) ∧ Below W.heap.size W w'
theorem cutE (A : Option Addr) (n c k : Nat) (hk : k ≤ n) (w : World) : (Instr.slice 24 (.slice A n c) (some (.int .i64 (k : Int))) none none).run Tryd.prog w = .ok (.slice (if c = k then A else A.map (·.add (k * 12))) (n - k) (c - k)) w := by
  rw [run_slice_l (P := Tryd.prog) w 24 _ n c undX .i64 k (by omega) (by omega), sizeOfX]
  rfl
theorem two_ret {B : Nat} {w : World} {v1 v2 : Value} {xs1 xs2 : List EE} (h : Two 34 gE 12 EE.a eps B w v1 xs1 v2 xs2) (hn : ∀ x, x ∈ xs1 ∨ x ∈ xs2 → NewL B x.a) :
    ∃ A1 c1 A2 c2, v1 = .slice A1 xs1.length c1 ∧ v2 = .slice A2 xs2.length c2 ∧ xs1.length ≤ c1 ∧ xs2.length ≤ c2 ∧ EN w B A1 xs1 ∧ EN w B A2 xs2 := by
  obtain ⟨A1, c1, e1, h1, n1, g1⟩ := OwnG.retB gE_len h.a
  obtain ⟨A2, c2, e2, h2, n2, g2⟩ := OwnG.retB gE_len h.b
  exact ⟨A1, c1, A2, c2, e1, e2, h1, h2, ⟨⟨g1 w (Nat.le_refl _) (fun _ _ => rfl), fun x hx => (h.p x (Or.inl hx)).1⟩, n1, fun x hx => hn x (Or.inl hx)⟩, ⟨⟨g2 w (Nat.le_refl _) (fun _ _ => rfl), fun x hx => (h.p x (Or.inr hx)).1⟩, n2, fun x hx => hn x (Or.inr hx)⟩⟩

set_option maxRecDepth 20000 in
set_option maxHeartbeats 16000000 in
theorem qPop0_any (s : Sp) (n : Int) (A : Option Addr) (c : Nat) (w : World) : Calls Tryd.prog 15 #[quV s n (.slice A 0 c)] w (RetP0 w) := by
  obtain ⟨l, hl⟩ : ∃ l : List EE, l = [] := ⟨_, rfl⟩
  have h0 : (Value.slice A 0 c) = .slice A l.length c := by rw [hl]; rfl
  rw [h0]
  have hz : l.length = 0 := by rw [hl]; rfl
  clear h0 hl
  have q0 : ((l.length : Int) == 0) = true := by simp [hz]
  have q1 : (l.length == 0) = true := by simp [hz]
  clear hz
  unfold quV
  go_enter Tryd.func15, Tryd.ntmps15
  go_upto_region 1 with fail
  refine name_world (C := fun w1 => Code.wp _ _ _ _ w1) (((w.alloc (.cells (quC s n (.slice A l.length c)).toArray 26)).alloc (.cells (enX En.zero none 0).toArray 34)).alloc (.cells zeroQ.toArray 26)) ?_
  intro w1 hw1
  have hb1 : Below w.heap.size w w1 := by rw [hw1]; exact stepB (stepB (S2.below_new w _) (S2.below_new _ _)) (S2.below_new _ _)
  have Q_w1 : Hid (BK 26 w1 w.heap.size (quC s n (.slice A l.length c))) := Lib.hid (by rw [hw1]; exact BK.alloc (BK.alloc (BK.new w _ _) _) _)
  have M_w1 : Hid (BK 34 w1 (w.heap.size + 1) (enX En.zero none 0)) := Lib.hid (by rw [hw1]; exact BK.alloc (bk_new1 w _ _ _) _)
  have Z_w1 : Hid (BK 26 w1 (w.heap.size + 2) zeroQ) := Lib.hid (by rw [hw1]; exact bk_new2 w _ _ _ _)
  have B_w1 := Lib.hid hb1
  clear hw1 hb1
  have d6 := Q_w1.out.cell 6 rfl
  go_wp2_with first
    | (refine S2.wpList_store_all (by rfl) 34 (.tmp 2) (.tmp 9) rfl rfl (w.heap.size + 1) rfl (enX En.zero none 0) rfl 34 _ M_w1.out enSize rfl (ones rfl) ?_; intro w2 hM hP; have M_w2 := Lib.hid hM; have P2 := Lib.hid hP; have Z_w2 := Lib.hid (hP.other Z_w1.out (by omega)); clear hM hP)
    | (refine S2.wpList_store_all (by rfl) 26 (.tmp 3) (.tmp 10) rfl rfl (w.heap.size + 2) rfl zeroQ rfl 26 _ Z_w2.out quSize rfl (ones rfl) ?_; intro we hM hP; have ME := Lib.hid hM; have PE := Lib.hid hP; have M_we := Lib.hid (hP.other M_w2.out (by omega)); clear hM hP)
  exact bodyPost_ret (v := .tuple #[enW En.zero none 0, .agg zeroQ.toArray, .bool false]) (res_cct rfl _ _ (w.heap.size + 1) (w.heap.size + 2) 34 26 (enX En.zero none 0) zeroQ _ _ _ rfl rfl rfl M_we.out ME.out Tryd.underlying34 rfl enSize Tryd.underlying26 rfl quSize) rfl ⟨rfl, PE.out.below (P2.out.below B_w1.out (by omega)) (by omega)⟩

set_option maxRecDepth 20000 in
set_option maxHeartbeats 16000000 in
theorem qPop_any (s : Sp) (n : Int) (A : Option Addr) (c : Nat) (l : List EE) (x : EE) (w : World) (hsl : EI w w.heap.size A l) (hx : l[0]? = some x) (hc : l.length ≤ c) (hn : l.length ≤ 100000) (hp : ∀ y ∈ l, y.x.m.props.length ≤ 4398046511104) :
    Calls Tryd.prog 15 #[quV s n (.slice A l.length c)] w (RetP s n x.x ((l.map EE.x).drop 1) w) := by
  have hlt : 0 < l.length := (List.getElem?_eq_some_iff.1 hx).1
  obtain ⟨AD, hAD⟩ : ∃ AD, AD = (if c = 1 then A else A.map (·.add (1 * 12))) := ⟨_, rfl⟩
  obtain ⟨cd, hcd⟩ : ∃ cd, cd = c - 1 := ⟨_, rfl⟩
  obtain ⟨ds, hds⟩ : ∃ ds, ds = l.drop 1 := ⟨_, rfl⟩
  have hcut : ∀ w', (Instr.slice 24 (.slice A l.length c) (some (.int .i64 ((1 : Nat) : Int))) none none).run Tryd.prog w' = .ok (.slice AD ds.length cd) w' := fun w' => by
    rw [hAD, hcd, hds, List.length_drop]
    exact cutE A l.length c 1 (by omega) w'
  have HCUT : Hid (∀ w', (Instr.slice 24 (.slice A l.length c) (some (.int .i64 1)) none none).run Tryd.prog w' = .ok (.slice AD ds.length cd) w') := Lib.hid hcut
  have HDS : Hid (∀ w1, EI w1 w1.heap.size A l → EI w1 w1.heap.size AD ds) := Lib.hid (fun w1 h => by rw [hAD, hds]; exact LI.drop h (by omega) hc)
  have HDM : Hid (ds.map EE.x = (l.map EE.x).drop 1) := Lib.hid (by rw [hds, List.map_drop])
  have HCL := Lib.hid (fun w1 h => qClone_any AD cd ds w1 h (by rw [hds, List.length_drop]; omega) (fun y hy => hp y (by rw [hds] at hy; exact List.mem_of_mem_drop hy)))
  have HCE := Lib.hid (fun w1 h => qCloneEntry_any x.x x.a x.c w1 h (hp x (List.mem_of_getElem? hx)))
  have HS := Lib.hid hsl
  have HX := Lib.hid hx
  have HPX : Hid (PL w w.heap.size x.a x.x.m.props) := Lib.hid (hsl.2 x (List.mem_of_getElem? hx))
  have hL := HDM.out
  rw [hL] at HCL
  clear hL
  generalize (l.map EE.x).drop 1 = L at HDM HCL ⊢
  obtain ⟨p, o, hA, hbB, hcl, _⟩ := LI.at_ hsl hx
  have HAD := Lib.hid hAD
  clear hAD hcd hds hcut hcl hbB hp hn hx hsl
  subst hA
  have HLD : Hid (∀ w' : World, Below w.heap.size w w' → (loadVar 34 ⟨p, o, none⟩).run Tryd.prog w' = .ok (enW x.x x.a x.c) w') := Lib.hid (fun w' h' => by
    obtain ⟨p', o', hA', _, hcl', _⟩ := LI.at_ (HS.out.step h') HX.out
    simp only [Option.some.injEq, Addr.mk.injEq, and_true] at hA'
    obtain ⟨rfl, rfl⟩ := hA'
    rw [Nat.zero_mul, Nat.add_zero] at hcl'
    exact load_ent hcl')
  have q0 : ((l.length : Int) == 0) = false := beq_false_of_ne (by omega)
  have q1 : (l.length == 0) = false := beq_false_of_ne (by omega)
  have j2 : (0 : Int) < (l.length : Int) := by omega
  have j3 : ¬ l.length = 0 := by omega
  unfold quV
  unfold enW enV at HCE HLD
  go_enter Tryd.func15, Tryd.ntmps15
  go_upto_region 1 with fail
  refine name_world (C := fun w1 => Code.wp _ _ _ _ w1) (((w.alloc (.cells (quC s n (.slice (some ⟨p, o, none⟩) l.length c)).toArray 26)).alloc (.cells (enX En.zero none 0).toArray 34)).alloc (.cells zeroQ.toArray 26)) ?_
  intro w1 hw1
  have hb1 : Below w.heap.size w w1 := by rw [hw1]; exact stepB (stepB (S2.below_new w _) (S2.below_new _ _)) (S2.below_new _ _)
  have Q_w1 : Hid (BK 26 w1 w.heap.size (quC s n (.slice (some ⟨p, o, none⟩) l.length c))) := Lib.hid (by rw [hw1]; exact BK.alloc (BK.alloc (BK.new w _ _) _) _)
  have M_w1 : Hid (BK 34 w1 (w.heap.size + 1) (enX En.zero none 0)) := Lib.hid (by rw [hw1]; exact BK.alloc (bk_new1 w _ _ _) _)
  have Z_w1 : Hid (BK 26 w1 (w.heap.size + 2) zeroQ) := Lib.hid (by rw [hw1]; exact bk_new2 w _ _ _ _)
  have B_w1 := Lib.hid hb1
  clear hw1 hb1
  have d6 := Q_w1.out.cell 6 rfl
  go_upto_region 3 with fail
  clear d6
  obtain ⟨x1, hx1⟩ : ∃ x1, x1 = World.drew w1 := ⟨_, rfl⟩
  have hbD : Below w1.heap.size w1 x1 := by rw [hx1]; exact (Below.refl _ _).drew
  have B_x1 : Hid (Below w.heap.size w x1) := Lib.hid (stepB B_w1.out hbD)
  have Q_x1 : Hid (BK 26 x1 w.heap.size (quC s n (.slice (some ⟨p, o, none⟩) l.length c))) := Lib.hid (Q_w1.out.step hbD)
  have M_x1 : Hid (BK 34 x1 (w.heap.size + 1) (enX En.zero none 0)) := Lib.hid (M_w1.out.step hbD)
  have Z_x1 : Hid (BK 26 x1 (w.heap.size + 2) zeroQ) := Lib.hid (Z_w1.out.step hbD)
  clear B_w1 Q_w1 M_w1 Z_w1
  have hbd : (fun w' => BK 26 w' w.heap.size (quC s n (.slice (some ⟨p, o, none⟩) l.length c)) ∧ Below w.heap.size w w') (World.drew w1) := by rw [← hx1]; exact ⟨Q_x1.out, B_x1.out⟩
  have hSD : (fun w' => BK 26 w' w.heap.size (quC s n (.slice (some ⟨p, o, none⟩) l.length c)) ∧ Below w.heap.size w w') x1 := ⟨Q_x1.out, B_x1.out⟩
  have HWD := Lib.hid hx1
  clear hx1 hbD
  refine wp_region_held_drew (S := fun w' => BK 26 w' w.heap.size (quC s n (.slice (some ⟨p, o, none⟩) l.length c)) ∧ Below w.heap.size w w') (by kernel_rfl) hbd (fun hHeld => ?_)
  rw [← HWD.out]
  clear hHeld
  have hHeld := hSD
  clear hSD hbd HWD
  refine wpAnyH_take (i := 0) (v := .pointer (some ⟨w.heap.size, 6, none⟩)) (get_ops _ _ _ rfl) (by kernel_rfl) (by kernel_rfl) (by kernel_rfl) (fun _ _ _ h => h) (Or.inl ⟨by rfl, fun wS hSw => by (try dsimp only at hSw); go_simp⟩) hHeld ?_
  try simp only [Act.put, List.setIfInBounds_toArray, List.set_cons_zero, List.set_cons_succ]
  refine wpAnyH_take (i := 1) (v := .slice (some ⟨p, o, none⟩) l.length c) (get_ops _ _ _ rfl) (by kernel_rfl) (by kernel_rfl) (by kernel_rfl) (fun _ _ _ h => h) (Or.inl ⟨by rfl, fun wS hSw => by (try dsimp only at hSw); have cS : wS.cell? ⟨w.heap.size, 6, none⟩ = some (.slice (some ⟨p, o, none⟩) l.length c) := hSw.1.cell 6 rfl; clear hSw; go_simp⟩) hHeld ?_
  try simp only [Act.put, List.setIfInBounds_toArray, List.set_cons_zero, List.set_cons_succ]
  refine wpAnyH_take (i := 2) (v := .pointer (some ⟨p, o, none⟩)) (get_ops _ _ _ rfl) (by kernel_rfl) (by kernel_rfl) (by kernel_rfl) (fun _ _ _ h => h) (Or.inl ⟨by rfl, fun wS hSw => by (try dsimp only at hSw); clear hSw; go_simp⟩) hHeld ?_
  try simp only [Act.put, List.setIfInBounds_toArray, List.set_cons_zero, List.set_cons_succ]
  refine wpAnyH_take (i := 3) (v := (.agg (enX x.x x.a x.c).toArray)) (get_ops _ _ _ rfl) (by kernel_rfl) (by kernel_rfl) (by kernel_rfl) (fun _ _ _ h => h) (Or.inl ⟨by rfl, fun wS hSw => by (try dsimp only at hSw); exact exec_load 34 _ rfl ⟨p, o, none⟩ (by go_simp) _ (HLD.out wS hSw.2)⟩) hHeld ?_
  try simp only [Act.put, List.setIfInBounds_toArray, List.set_cons_zero, List.set_cons_succ]
  refine wpAnyH_take (i := 5) (v := .pointer (some ⟨w.heap.size, 0, none⟩)) (get_ops _ _ _ rfl) (by kernel_rfl) (by kernel_rfl) (by kernel_rfl) (fun _ _ _ h => h) (Or.inl ⟨by rfl, fun wS hSw => by (try dsimp only at hSw); go_simp⟩) hHeld ?_
  try simp only [Act.put, List.setIfInBounds_toArray, List.set_cons_zero, List.set_cons_succ]
  refine wpAnyH_take (i := 6) (v := (.agg (spC s).toArray)) (get_ops _ _ _ rfl) (by kernel_rfl) (by kernel_rfl) (by kernel_rfl) (fun _ _ _ h => h) (Or.inl ⟨by rfl, fun wS hSw => by (try dsimp only at hSw); exact exec_load 23 _ rfl ⟨w.heap.size, 0, none⟩ (by go_simp) _ (load_qsp hSw.1)⟩) hHeld ?_
  try simp only [Act.put, List.setIfInBounds_toArray, List.set_cons_zero, List.set_cons_succ]
  refine wpAnyH_take (i := 7) (v := .pointer (some ⟨w.heap.size, 5, none⟩)) (get_ops _ _ _ rfl) (by kernel_rfl) (by kernel_rfl) (by kernel_rfl) (fun _ _ _ h => h) (Or.inl ⟨by rfl, fun wS hSw => by (try dsimp only at hSw); go_simp⟩) hHeld ?_
  try simp only [Act.put, List.setIfInBounds_toArray, List.set_cons_zero, List.set_cons_succ]
  refine wpAnyH_take (i := 8) (v := .int .i64 n) (get_ops _ _ _ rfl) (by kernel_rfl) (by kernel_rfl) (by kernel_rfl) (fun _ _ _ h => h) (Or.inl ⟨by rfl, fun wS hSw => by (try dsimp only at hSw); have cS : wS.cell? ⟨w.heap.size, 5, none⟩ = some (.int .i64 n) := hSw.1.cell 5 rfl; clear hSw; go_simp⟩) hHeld ?_
  try simp only [Act.put, List.setIfInBounds_toArray, List.set_cons_zero, List.set_cons_succ]
  refine wpAnyH_take (i := 9) (v := .pointer (some ⟨w.heap.size, 6, none⟩)) (get_ops _ _ _ rfl) (by kernel_rfl) (by kernel_rfl) (by kernel_rfl) (fun _ _ _ h => h) (Or.inl ⟨by rfl, fun wS hSw => by (try dsimp only at hSw); go_simp⟩) hHeld ?_
  try simp only [Act.put, List.setIfInBounds_toArray, List.set_cons_zero, List.set_cons_succ]
  refine wpAnyH_take (i := 10) (v := .slice (some ⟨p, o, none⟩) l.length c) (get_ops _ _ _ rfl) (by kernel_rfl) (by kernel_rfl) (by kernel_rfl) (fun _ _ _ h => h) (Or.inl ⟨by rfl, fun wS hSw => by (try dsimp only at hSw); have cS : wS.cell? ⟨w.heap.size, 6, none⟩ = some (.slice (some ⟨p, o, none⟩) l.length c) := hSw.1.cell 6 rfl; clear hSw; go_simp⟩) hHeld ?_
  try simp only [Act.put, List.setIfInBounds_toArray, List.set_cons_zero, List.set_cons_succ]
  refine wpAnyH_take (i := 11) (v := .slice AD ds.length cd) (get_ops _ _ _ rfl) (by kernel_rfl) (by kernel_rfl) (by kernel_rfl) (fun _ _ _ h => h) (Or.inl ⟨by rfl, fun wS hSw => by (try dsimp only at hSw); have hc := HCUT.out; clear hSw; go_simp⟩) hHeld ?_
  try simp only [Act.put, List.setIfInBounds_toArray, List.set_cons_zero, List.set_cons_succ]
  refine wpAnyH_ready (rs := [4]) (by kernel_rfl) (by simp) ?_
  refine (AllReadyH.cons (get_ops _ _ _ rfl) (fun K hK => ?_) AllReadyH.nil)
  have hWe : w.heap.size + 3 ≤ x1.heap.size := Z_x1.out.lt
  go_simp
  refine (HCE.out x1 (GL.step HPX.out B_x1.out)).mono ?_
  rintro e x2 ⟨a2, c2, rfl, hpl, hnw, hb⟩
  have B_x2 : Hid (Below w.heap.size w x2) := Lib.hid (stepB B_x1.out hb)
  have Q_x2 : Hid (BK 26 x2 w.heap.size (quC s n (.slice (some ⟨p, o, none⟩) l.length c))) := Lib.hid (Q_x1.out.step hb)
  have M_x2 : Hid (BK 34 x2 (w.heap.size + 1) (enX En.zero none 0)) := Lib.hid (M_x1.out.step hb)
  have Z_x2 : Hid (BK 26 x2 (w.heap.size + 2) zeroQ) := Lib.hid (Z_x1.out.step hb)
  clear B_x1 Q_x1 M_x1 Z_x1
  have P_x2 : Hid (PL x2 x2.heap.size a2 x.x.m.props) := Lib.hid hpl
  have HNW : Hid (NewL (w.heap.size + 3) a2) := Lib.hid (fun b o e => Nat.le_trans hWe (hnw b o e))
  clear hpl hnw hWe
  clear hHeld hb
  go_wp2_with fail
  refine hK.out _ _ ⟨Q_x2.out, B_x2.out⟩ (fun hHeld => ?_)
  clear hK K
  try simp only [Act.put, List.setIfInBounds_toArray, List.set_cons_zero, List.set_cons_succ]
  refine wpAnyH_ready (rs := [12]) (by kernel_rfl) (by simp) ?_
  refine (AllReadyH.cons (get_ops _ _ _ rfl) (fun K hK => ?_) AllReadyH.nil)
  have hWc : w.heap.size + 3 ≤ x2.heap.size := Z_x2.out.lt
  go_simp
  refine (HCL.out x2 (HDS.out _ (HS.out.step B_x2.out))).mono ?_
  rintro e x3 ⟨vL, ys, rfl, hys, hLst, hb⟩
  have B_x3 : Hid (Below w.heap.size w x3) := Lib.hid (stepB B_x2.out hb)
  have Q_x3 : Hid (BK 26 x3 w.heap.size (quC s n (.slice (some ⟨p, o, none⟩) l.length c))) := Lib.hid (Q_x2.out.step hb)
  have M_x3 : Hid (BK 34 x3 (w.heap.size + 1) (enX En.zero none 0)) := Lib.hid (M_x2.out.step hb)
  have Z_x3 : Hid (BK 26 x3 (w.heap.size + 2) zeroQ) := Lib.hid (Z_x2.out.step hb)
  have P_x3 : Hid (PL x3 x3.heap.size a2 x.x.m.props) := Lib.hid (GL.step P_x2.out hb)
  clear B_x2 Q_x2 M_x2 Z_x2 P_x2
  obtain ⟨A4, c4, rfl, _⟩ := hLst.ret gE_len
  have hLW : LstE (w.heap.size + 3) x3 (.slice A4 ys.length c4) ys := lst_weak hLst hWc
  have HYS := Lib.hid hys
  have L_x3 := Lib.hid hLW
  clear hLst hLW hys hWc
  clear hHeld hb
  go_wp2_with fail
  refine hK.out _ _ ⟨Q_x3.out, B_x3.out⟩ (fun hHeld => ?_)
  clear hK K
  try simp only [Act.put, List.setIfInBounds_toArray, List.set_cons_zero, List.set_cons_succ]
  refine wpAnyH_take (i := 13) (v := (.agg (quC s n (.slice A4 ys.length c4)).toArray)) (get_ops _ _ _ rfl) (by kernel_rfl) (by kernel_rfl) (by kernel_rfl) (fun _ _ _ h => h) (Or.inl ⟨by rfl, fun wS hSw => by (try dsimp only at hSw); go_simp⟩) hHeld ?_
  try simp only [Act.put, List.setIfInBounds_toArray, List.set_cons_zero, List.set_cons_succ]
  refine wpAnyH_ready (rs := [14]) (by kernel_rfl) (by simp) ?_
  refine (AllReadyH.cons (get_ops _ _ _ rfl) (fun K hK => ?_) AllReadyH.nil)
  refine S2.wp_store_all 34 _ _ rfl rfl (w.heap.size + 1) (by go_simp) (enX x.x a2 c2) (by first | rfl | go_simp) 34 (enX En.zero none 0) M_x3.out enSize rfl (enX_one _ _ _) ?_
  intro x4 hM hP
  have M_x4 : Hid (BK 34 x4 (w.heap.size + 1) (enX x.x a2 c2)) := Lib.hid (hM)
  have B_x4 : Hid (Below w.heap.size w x4) := Lib.hid (hP.below B_x3.out (by omega))
  have Q_x4 : Hid (BK 26 x4 w.heap.size (quC s n (.slice (some ⟨p, o, none⟩) l.length c))) := Lib.hid (hP.other Q_x3.out (by omega))
  have Z_x4 : Hid (BK 26 x4 (w.heap.size + 2) zeroQ) := Lib.hid (hP.other Z_x3.out (by omega))
  have P_x4 : Hid (PL x4 x4.heap.size a2 x.x.m.props) := Lib.hid (by rw [hP.size]; exact PL.put P_x3.out hP (fun b o e => by have := HNW.out b o e; omega))
  have L_x4 : Hid (LstE (w.heap.size + 3) x4 (.slice A4 ys.length c4) ys) := Lib.hid (lst_put L_x3.out hP (by omega))
  clear B_x3 Q_x3 M_x3 Z_x3 P_x3 L_x3
  clear hM hP hHeld
  refine hK.out _ _ ⟨Q_x4.out, B_x4.out⟩ (fun hHeld => ?_)
  clear hK K
  try simp only [Act.put, List.setIfInBounds_toArray, List.set_cons_zero, List.set_cons_succ]
  refine wpAnyH_ready (rs := [15]) (by kernel_rfl) (by simp) ?_
  refine (AllReadyH.cons (get_ops _ _ _ rfl) (fun K hK => ?_) AllReadyH.nil)
  refine S2.wp_store_all 26 _ _ rfl rfl (w.heap.size + 2) (by go_simp) (quC s n (.slice A4 ys.length c4)) (by first | rfl | go_simp) 26 zeroQ Z_x4.out quSize rfl (quC_one (.slice A4 ys.length c4) rfl) ?_
  intro x5 hM hP
  have Z_x5 : Hid (BK 26 x5 (w.heap.size + 2) (quC s n (.slice A4 ys.length c4))) := Lib.hid (hM)
  have B_x5 : Hid (Below w.heap.size w x5) := Lib.hid (hP.below B_x4.out (by omega))
  have Q_x5 : Hid (BK 26 x5 w.heap.size (quC s n (.slice (some ⟨p, o, none⟩) l.length c))) := Lib.hid (hP.other Q_x4.out (by omega))
  have M_x5 : Hid (BK 34 x5 (w.heap.size + 1) (enX x.x a2 c2)) := Lib.hid (hP.other M_x4.out (by omega))
  have P_x5 : Hid (PL x5 x5.heap.size a2 x.x.m.props) := Lib.hid (by rw [hP.size]; exact PL.put P_x4.out hP (fun b o e => by have := HNW.out b o e; omega))
  have L_x5 : Hid (LstE (w.heap.size + 3) x5 (.slice A4 ys.length c4) ys) := Lib.hid (lst_put L_x4.out hP (by omega))
  clear B_x4 Q_x4 M_x4 Z_x4 P_x4 L_x4
  clear hM hP hHeld
  refine hK.out _ _ ⟨Q_x5.out, B_x5.out⟩ (fun hHeld => ?_)
  clear hK K
  try simp only [Act.put, List.setIfInBounds_toArray, List.set_cons_zero, List.set_cons_succ]
  refine wpAnyH_take (i := 16) (v := .bool true) (get_ops _ _ _ rfl) (by kernel_rfl) (by kernel_rfl) (by kernel_rfl) (fun _ _ _ h => h) (Or.inl ⟨by rfl, fun wS hSw => by (try dsimp only at hSw); go_simp⟩) hHeld ?_
  try simp only [Act.put, List.setIfInBounds_toArray, List.set_cons_zero, List.set_cons_succ]
  refine wpAnyH_done (by kernel_rfl) ?_ _
  go_wp2
  exact bodyPost_ret (v := .tuple #[enW x.x a2 c2, quV s n (.slice A4 ys.length c4), .bool true]) (res_cct rfl _ _ (w.heap.size + 1) (w.heap.size + 2) 34 26 (enX x.x a2 c2) (quC s n (.slice A4 ys.length c4)) _ _ _ rfl rfl rfl M_x5.out Z_x5.out Tryd.underlying34 rfl enSize Tryd.underlying26 rfl quSize) rfl ⟨a2, c2, (.slice A4 ys.length c4), ys, rfl, P_x5.out, (fun b o e => by have := HNW.out b o e; omega), HYS.out, lst_weak L_x5.out (by omega), B_x5.out⟩

/-! ### Expire -/
theorem newl_app1 {B : Nat} {fs es : List EE} {y : EE} (h : ∀ x, x ∈ fs ∨ x ∈ es → NewL B x.a) (hy : NewL B y.a) : ∀ x, x ∈ fs ++ [y] ∨ x ∈ es → NewL B x.a := fun x hx => by
  rcases hx with hx | hx
  · rcases List.mem_append.1 hx with hx | hx
    · exact h x (Or.inl hx)
    · simp at hx
      subst hx
      exact hy
  · exact h x (Or.inr hx)
theorem newl_app2 {B : Nat} {fs es : List EE} {y : EE} (h : ∀ x, x ∈ fs ∨ x ∈ es → NewL B x.a) (hy : NewL B y.a) : ∀ x, x ∈ fs ∨ x ∈ es ++ [y] → NewL B x.a := fun x hx => by
  rcases hx with hx | hx
  · exact h x (Or.inl hx)
  · rcases List.mem_append.1 hx with hx | hx
    · exact h x (Or.inr hx)
    · simp at hx
      subst hx
      exact hy
def goneQ (s : Sp) (now : Int) (l : List En) : List En := l.filter (fun x => expX s.ttl x.r x.m now)
def leftQ (s : Sp) (now : Int) (l : List En) : List En := l.filter (fun x => !expX s.ttl x.r x.m now)
/-- what has expired, and the queue without it -/
def RetX (s : Sp) (n : Int) (G L : List En) (W : World) (E : Ending) (w' : World) : Prop := ∃ A1 c1 fs A2 c2 es, E = .returned (.tuple #[.slice A1 fs.length c1, quV s n (.slice A2 es.length c2)]) ∧ fs.map EE.x = G ∧ es.map EE.x = L ∧ fs.length ≤ c1 ∧ es.length ≤ c2 ∧ EN w' W.heap.size A1 fs ∧ EN w' W.heap.size A2 es ∧ Below W.heap.size W w'
set_option maxRecDepth 20000 in
set_option maxHeartbeats 16000000 in
theorem qExpire_any (s : Sp) (n : Int) (A : Option Addr) (c : Nat) (l : List EE) (now : Int) (w : World) (hsl : EI w w.heap.size A l) (hn : l.length ≤ 100000) (hp : ∀ y ∈ l, y.x.m.props.length ≤ 4398046511104) (hs : 0 ≤ s.ttl ∧ s.ttl ≤ 1099511627776) (hr : ∀ y ∈ l, 0 ≤ y.x.r ∧ y.x.r ≤ 1099511627776) :
    Calls Tryd.prog 14 #[quV s n (.slice A l.length c), .int .i64 now] w (RetX s n (goneQ s now (l.map EE.x)) (leftQ s now (l.map EE.x)) w) := by
  have HE := Lib.hid (fun (x : EE) w1 (h : 0 ≤ x.x.r ∧ x.x.r ≤ 1099511627776) => qExpired_any s x.x.k x.x.r x.x.t x.x.m x.a x.c now w1 hs h)
  have HM := Lib.hid (fun x a c w1 h hl => qCloneEntry_any x a c w1 h hl)
  have HS := Lib.hid hsl
  have HP := Lib.hid hp
  have HRG := Lib.hid hr
  clear hsl hp hr hs
  unfold quV
  unfold enV at HE
  unfold enW enV at HM
  have HSV : Hid (spV s = .agg (spC s).toArray) := Lib.hid rfl
  rw [HSV.out] at HE
  go_enter Tryd.func14, Tryd.ntmps14
  go_upto_region 1 with fail
  refine name_world (C := fun w1 => Code.wp _ _ _ _ w1) ((w.alloc (.cells (quC s n (.slice A l.length c)).toArray 26)).alloc (.cells zeroQ.toArray 26)) ?_
  intro w1 hw1
  have hb1 : Below w.heap.size w w1 := by rw [hw1]; exact stepB (S2.below_new w _) (S2.below_new _ _)
  have Q_w1 : Hid (BK 26 w1 w.heap.size (quC s n (.slice A l.length c))) := Lib.hid (by rw [hw1]; exact BK.alloc (BK.new w _ _) _)
  have Z_w1 : Hid (BK 26 w1 (w.heap.size + 1) zeroQ) := Lib.hid (by rw [hw1]; exact bk_new1 w _ _ _)
  have B_w1 := Lib.hid hb1
  have HS1 : Hid (EI w1 w1.heap.size A l) := Lib.hid (HS.out.step hb1)
  clear hw1 hb1
  have d6 := Q_w1.out.cell 6 rfl
  go_wp2_with fail
  clear d6
  go_loopg [6, 7, 13] l.length (fun g u6 u7 v wr => ∃ (k : Nat) (fs es : List EE), k + g = l.length ∧ v = .int .i64 k ∧ fs.map EE.x = goneQ s now ((l.map EE.x).take k) ∧ es.map EE.x = leftQ s now ((l.map EE.x).take k) ∧ fs.length ≤ k ∧ es.length ≤ k ∧ Two 34 gE 12 EE.a eps w1.heap.size wr u6 fs u7 es ∧ (∀ x, x ∈ fs ∨ x ∈ es → NewL w1.heap.size x.a) ∧ Below w1.heap.size w1 wr)
  case atStart => exact ⟨0, [], [], by omega, rfl, rfl, rfl, Nat.le_refl _, Nat.le_refl _, Two.nil, (fun x hx => by rcases hx with hx | hx <;> cases hx), Below.refl _ _⟩
  case round =>
    obtain ⟨k, fs, es, hkg, rfl, hfs, hes, hfl, hel, htw, hnw, hb0⟩ := hrel
    have HF := Lib.hid hfs
    have HES := Lib.hid hes
    have HFL := Lib.hid hfl
    have HEL := Lib.hid hel
    have HT := Lib.hid htw
    have HNW := Lib.hid hnw
    have HB0 := Lib.hid hb0
    have HK := Lib.hid hkg
    have Q_wr := Lib.hid (Q_w1.out.step hb0)
    have Z_wr := Lib.hid (Z_w1.out.step hb0)
    have HZL : Hid (w.heap.size + 2 ≤ w1.heap.size) := Lib.hid Z_w1.out.lt
    clear hfs hes hfl hel htw hb0 hnw
    cases gk with
    | zero =>
      obtain rfl : k = l.length := by omega
      obtain ⟨A1, c1, A2, c2, rfl, rfl, hc1, hc2, hl1, hl2⟩ := two_ret HT.out HNW.out
      have HL := Lib.hid (And.intro hc1 (And.intro hc2 (And.intro hl1 hl2)))
      have e9 : (l.map EE.x).take l.length = l.map EE.x := List.take_of_length_le (by simp)
      rw [e9] at HF HES
      clear hkg hc1 hc2 hl1 hl2 e9
      have B_wr := Lib.hid (stepB B_w1.out HB0.out)
      go_upto_region 9 with fail
      have G_wr := Lib.hid HL.out.2.2.1
      have H_wr := Lib.hid HL.out.2.2.2
      obtain ⟨z1, hz1⟩ : ∃ z1, z1 = World.drew wr := ⟨_, rfl⟩
      have hbD : Below wr.heap.size wr z1 := by rw [hz1]; exact (Below.refl _ _).drew
      have B_z1 : Hid (Below w.heap.size w z1) := Lib.hid (stepB B_wr.out hbD)
      have Q_z1 : Hid (BK 26 z1 w.heap.size (quC s n (.slice A l.length c))) := Lib.hid (Q_wr.out.step hbD)
      have Z_z1 : Hid (BK 26 z1 (w.heap.size + 1) zeroQ) := Lib.hid (Z_wr.out.step hbD)
      have G_z1 : Hid (EN z1 w1.heap.size A1 fs) := Lib.hid (LN.step G_wr.out hbD)
      have H_z1 : Hid (EN z1 w1.heap.size A2 es) := Lib.hid (LN.step H_wr.out hbD)
      clear B_wr Q_wr Z_wr G_wr H_wr
      have hbd : (fun w' => BK 26 w' w.heap.size (quC s n (.slice A l.length c))) (World.drew wr) := by rw [← hz1]; exact Q_z1.out
      have hSD : (fun w' => BK 26 w' w.heap.size (quC s n (.slice A l.length c))) z1 := Q_z1.out
      have HWD := Lib.hid hz1
      clear hz1 hbD
      refine wp_region_held_drew (S := fun w' => BK 26 w' w.heap.size (quC s n (.slice A l.length c))) (by kernel_rfl) hbd (fun hHeld => ?_)
      rw [← HWD.out]
      clear hHeld
      have hHeld := hSD
      clear hSD hbd HWD
      refine wpAnyH_take (i := 0) (v := .slice A1 fs.length c1) (get_ops _ _ _ rfl) (by kernel_rfl) (by kernel_rfl) (by kernel_rfl) (fun _ _ _ h => h) (Or.inl ⟨by rfl, fun wS hSw => by (try dsimp only at hSw); go_simp⟩) hHeld ?_
      try simp only [Act.put, List.setIfInBounds_toArray, List.set_cons_zero, List.set_cons_succ]
      refine wpAnyH_take (i := 1) (v := .pointer (some ⟨w.heap.size, 0, none⟩)) (get_ops _ _ _ rfl) (by kernel_rfl) (by kernel_rfl) (by kernel_rfl) (fun _ _ _ h => h) (Or.inl ⟨by rfl, fun wS hSw => by (try dsimp only at hSw); go_simp⟩) hHeld ?_
      try simp only [Act.put, List.setIfInBounds_toArray, List.set_cons_zero, List.set_cons_succ]
      refine wpAnyH_take (i := 2) (v := (.agg (spC s).toArray)) (get_ops _ _ _ rfl) (by kernel_rfl) (by kernel_rfl) (by kernel_rfl) (fun _ _ _ h => h) (Or.inl ⟨by rfl, fun wS hSw => by (try dsimp only at hSw); exact exec_load 23 _ rfl ⟨w.heap.size, 0, none⟩ (by go_simp) _ (load_qsp hSw)⟩) hHeld ?_
      try simp only [Act.put, List.setIfInBounds_toArray, List.set_cons_zero, List.set_cons_succ]
      refine wpAnyH_take (i := 3) (v := .pointer (some ⟨w.heap.size, 5, none⟩)) (get_ops _ _ _ rfl) (by kernel_rfl) (by kernel_rfl) (by kernel_rfl) (fun _ _ _ h => h) (Or.inl ⟨by rfl, fun wS hSw => by (try dsimp only at hSw); go_simp⟩) hHeld ?_
      try simp only [Act.put, List.setIfInBounds_toArray, List.set_cons_zero, List.set_cons_succ]
      refine wpAnyH_take (i := 4) (v := .int .i64 n) (get_ops _ _ _ rfl) (by kernel_rfl) (by kernel_rfl) (by kernel_rfl) (fun _ _ _ h => h) (Or.inl ⟨by rfl, fun wS hSw => by (try dsimp only at hSw); have cS : wS.cell? ⟨w.heap.size, 5, none⟩ = some (.int .i64 n) := hSw.cell 5 rfl; clear hSw; go_simp⟩) hHeld ?_
      try simp only [Act.put, List.setIfInBounds_toArray, List.set_cons_zero, List.set_cons_succ]
      refine wpAnyH_take (i := 5) (v := .slice A2 es.length c2) (get_ops _ _ _ rfl) (by kernel_rfl) (by kernel_rfl) (by kernel_rfl) (fun _ _ _ h => h) (Or.inl ⟨by rfl, fun wS hSw => by (try dsimp only at hSw); go_simp⟩) hHeld ?_
      try simp only [Act.put, List.setIfInBounds_toArray, List.set_cons_zero, List.set_cons_succ]
      refine wpAnyH_take (i := 6) (v := (.agg (quC s n (.slice A2 es.length c2)).toArray)) (get_ops _ _ _ rfl) (by kernel_rfl) (by kernel_rfl) (by kernel_rfl) (fun _ _ _ h => h) (Or.inl ⟨by rfl, fun wS hSw => by (try dsimp only at hSw); go_simp⟩) hHeld ?_
      try simp only [Act.put, List.setIfInBounds_toArray, List.set_cons_zero, List.set_cons_succ]
      refine wpAnyH_take (i := 7) (v := .slice A1 fs.length c1) (get_ops _ _ _ rfl) (by kernel_rfl) (by kernel_rfl) (by kernel_rfl) (fun _ _ _ h => h) (Or.inl ⟨by rfl, fun wS hSw => by (try dsimp only at hSw); go_simp⟩) hHeld ?_
      try simp only [Act.put, List.setIfInBounds_toArray, List.set_cons_zero, List.set_cons_succ]
      refine wpAnyH_ready (rs := [8]) (by kernel_rfl) (by simp) ?_
      refine (AllReadyH.cons (get_ops _ _ _ rfl) (fun K hK => ?_) AllReadyH.nil)
      refine S2.wp_store_all 26 _ _ rfl rfl (w.heap.size + 1) (by go_simp) (quC s n (.slice A2 es.length c2)) (by first | rfl | go_simp) 26 zeroQ Z_z1.out quSize rfl (quC_one (.slice A2 es.length c2) rfl) ?_
      intro z2 hM hP
      have Z_z2 : Hid (BK 26 z2 (w.heap.size + 1) (quC s n (.slice A2 es.length c2))) := Lib.hid (hM)
      have B_z2 : Hid (Below w.heap.size w z2) := Lib.hid (hP.below B_z1.out (by omega))
      have Q_z2 : Hid (BK 26 z2 w.heap.size (quC s n (.slice A l.length c))) := Lib.hid (hP.other Q_z1.out (by omega))
      have G_z2 : Hid (EN z2 w1.heap.size A1 fs) := Lib.hid (LN.put G_z1.out hP (by have := HZL.out; omega))
      have H_z2 : Hid (EN z2 w1.heap.size A2 es) := Lib.hid (LN.put H_z1.out hP (by have := HZL.out; omega))
      clear B_z1 Q_z1 Z_z1 G_z1 H_z1
      clear hM hP hHeld
      refine hK.out _ _ Q_z2.out (fun hHeld => ?_)
      clear hK K
      try simp only [Act.put, List.setIfInBounds_toArray, List.set_cons_zero, List.set_cons_succ]
      refine wpAnyH_done (by kernel_rfl) ?_ _
      go_wp2
      exact bodyPost_ret (v := .tuple #[.slice A1 fs.length c1, quV s n (.slice A2 es.length c2)]) (res_tc rfl _ _ (w.heap.size + 1) 26 (quC s n (.slice A2 es.length c2)) _ _ rfl rfl Z_z2.out Tryd.underlying26 rfl quSize) rfl ⟨A1, c1, fs, A2, c2, es, rfl, HF.out, HES.out, HL.out.1, HL.out.2.1, LN.weak G_z2.out (by have := HZL.out; omega), LN.weak H_z2.out (by have := HZL.out; omega), B_z2.out⟩
    | succ gk =>
      have hlt : k < l.length := by omega
      have e3 : decide ((k : Int) < (l.length : Int)) = true := decide_eq_true (by omega)
      obtain ⟨x, hx⟩ : ∃ x, l[k]? = some x := ⟨_, List.getElem?_eq_getElem hlt⟩
      obtain ⟨b, o, hA, hbB, hc, hpl⟩ := (HS1.out.step HB0.out).at_ hx
      have HLD := Lib.hid (load_ent hc)
      unfold enW enV at HLD
      have HXM : Hid ((l.map EE.x)[k]? = some x.x) := Lib.hid (by rw [List.getElem?_map, hx]; rfl)
      have HPX := Lib.hid (HP.out x (List.mem_of_getElem? hx))
      have HRX := Lib.hid (HRG.out x (List.mem_of_getElem? hx))
      have HPL : Hid (PL wr wr.heap.size x.a x.x.m.props) := Lib.hid hpl
      obtain ⟨bE, hbE⟩ : ∃ b, expX s.ttl x.x.r x.x.m now = b := ⟨_, rfl⟩
      have HEX := fun w1 => HE.out x w1 HRX.out
      rw [hbE] at HEX
      have HCE := Lib.hid HEX
      have HBE := Lib.hid hbE
      have HLS := Lib.hid (load_qsp Q_wr.out)
      rw [HSV.out] at HLS
      subst hA
      have j1 : (0 : Int) ≤ (k : Int) := by omega
      have j2 : (k : Int) < (l.length : Int) := by omega
      have hlk : k ≤ 100000 := by omega
      clear hx hc hpl hbB hkg hbE HEX
      go_wp2_with first
        | (refine wpList_load_v (by rfl) 34 _ rfl ⟨b, o + k * 12, none⟩ (by simp [Act.eval, Act.put]) _ HLD.out ?_)
        | (refine S2.wpList_store_all (by rfl) 34 (.tmp 9) (.tmp 16) rfl rfl wr.heap.size rfl (gE x) rfl 34 (enX En.zero none 0) (BK.new wr _ _) enSize rfl (gE_one _) ?_; intro w2 hM hP; have V_w2 : Hid (BK 34 w2 wr.heap.size (gE x)) := Lib.hid hM; have hb : Below wr.heap.size wr w2 := hP.below (S2.below_new wr _) (Nat.le_refl _); have T_w2 := Lib.hid (HT.out.step hb); have B_w2 := Lib.hid (stepB HB0.out hb); have P_w2 : Hid (PL w2 w2.heap.size x.a x.x.m.props) := Lib.hid (GL.step HPL.out hb); have HLS2 := Lib.hid (load_qsp (Q_wr.out.step hb)); rw [HSV.out] at HLS2; clear hM hP hb HT HPL HB0 HLD HLS)
        | (refine wpList_load_v (by rfl) 23 _ rfl ⟨w.heap.size, 0, none⟩ (by first | rfl | go_simp) _ HLS2.out ?_)
        | (refine wpList_load_v (by rfl) 34 (.tmp 9) rfl ⟨wr.heap.size, 0, none⟩ rfl (.agg (enX x.x x.a x.c).toArray) (S2.run_load_all V_w2.out Tryd.underlying34 rfl enSize) ?_)
      refine (HCE.out w2).mono ?_
      rintro e w3 ⟨rfl, hb⟩
      have V_w3 := Lib.hid (V_w2.out.step hb)
      have T_w3 := Lib.hid (T_w2.out.step hb)
      have B_w3 := Lib.hid (stepB B_w2.out hb)
      have P_w3 : Hid (PL w3 w3.heap.size x.a x.x.m.props) := Lib.hid (GL.step P_w2.out hb)
      have CM := Lib.hid (HM.out x.x x.a x.c w3 P_w3.out HPX.out)
      clear hb V_w2 T_w2 B_w2 P_w2 HCE HLS2
      cases bE with
      | false =>
        go_wp2_with first
          | (refine wpList_load_v (by rfl) 34 (.tmp 9) rfl ⟨wr.heap.size, 0, none⟩ rfl (.agg (enX x.x x.a x.c).toArray) (S2.run_load_all V_w3.out Tryd.underlying34 rfl enSize) ?_)
        refine CM.out.mono ?_
        rintro e w4 ⟨a4, c4, rfl, hpl4, hnew4, hb4⟩
        have T_w4 := Lib.hid (T_w3.out.step hb4)
        have P_w4 := Lib.hid hpl4
        have HN4 : Hid (NewL w3.heap.size a4) := Lib.hid hnew4
        have N_w4 : Hid (NewL w1.heap.size a4) := Lib.hid (fun b o e => Nat.le_trans B_w3.out.size (hnew4 b o e))
        have B_w4 := Lib.hid (stepB B_w3.out hb4)
        have HO1 : Hid (∀ n, u6.ownBlock = some n → n < w3.heap.size) := Lib.hid (fun n e => (own_lt T_w3.out.a n e).2)
        have HO2 : Hid (∀ n, u7.ownBlock = some n → n < w3.heap.size) := Lib.hid (fun n e => (own_lt T_w3.out.b n e).2)
        clear hpl4 hnew4 hb4 T_w3 B_w3 V_w3 P_w3 CM
        unfold enW enV
        go_wp2_with first
          | (at_builtin; refine wpList_two gE_len gE_one (by decide) w4 rfl _ _ 24 rfl (.agg (enX En.zero none 0).toArray) 136 Tryd.underlying24 enInfo rfl (⟨x.x, a4, c4⟩ : EE) rfl (T_w4.out) (by rfl) P_w4.out (fun b o e _ => ⟨fun e2 => by have := HN4.out b o e; have := HO1.out b e2; omega, fun e2 => by have := HN4.out b o e; have := HO2.out b e2; omega⟩) w1 B_w4.out B_w4.out.size (by have := HEL.out; omega) (by decide) ?_; intro v5 w5 ht5 hb5 hs5)
        have T_w5 := Lib.hid ht5
        have B_w5 := Lib.hid hb5
        clear ht5 hb5 hs5
        go_roundg gk
        case measure => omega
        case rel => exact ⟨k + 1, fs, es ++ [⟨x.x, a4, c4⟩], by have := HK.out; omega, by go_num, by rw [HF.out, List.take_add_one, HXM.out]; simp [goneQ, HBE.out], by rw [List.map_append, HES.out, List.take_add_one, HXM.out]; simp [leftQ, HBE.out], by have := HFL.out; simp <;> omega, by have := HEL.out; simp <;> omega, T_w5.out, (newl_app2 HNW.out N_w4.out), B_w5.out⟩
      | true =>
        go_wp2_with first
          | (refine wpList_load_v (by rfl) 34 (.tmp 9) rfl ⟨wr.heap.size, 0, none⟩ rfl (.agg (enX x.x x.a x.c).toArray) (S2.run_load_all V_w3.out Tryd.underlying34 rfl enSize) ?_)
        refine CM.out.mono ?_
        rintro e w4 ⟨a4, c4, rfl, hpl4, hnew4, hb4⟩
        have T_w4 := Lib.hid (T_w3.out.step hb4)
        have P_w4 := Lib.hid hpl4
        have HN4 : Hid (NewL w3.heap.size a4) := Lib.hid hnew4
        have N_w4 : Hid (NewL w1.heap.size a4) := Lib.hid (fun b o e => Nat.le_trans B_w3.out.size (hnew4 b o e))
        have B_w4 := Lib.hid (stepB B_w3.out hb4)
        have HO1 : Hid (∀ n, u6.ownBlock = some n → n < w3.heap.size) := Lib.hid (fun n e => (own_lt T_w3.out.a n e).2)
        have HO2 : Hid (∀ n, u7.ownBlock = some n → n < w3.heap.size) := Lib.hid (fun n e => (own_lt T_w3.out.b n e).2)
        clear hpl4 hnew4 hb4 T_w3 B_w3 V_w3 P_w3 CM
        unfold enW enV
        go_wp2_with first
          | (at_builtin; refine wpList_two gE_len gE_one (by decide) w4 rfl _ _ 24 rfl (.agg (enX En.zero none 0).toArray) 136 Tryd.underlying24 enInfo rfl (⟨x.x, a4, c4⟩ : EE) rfl (T_w4.out.symm) (by rfl) P_w4.out (fun b o e _ => ⟨fun e2 => by have := HN4.out b o e; have := HO2.out b e2; omega, fun e2 => by have := HN4.out b o e; have := HO1.out b e2; omega⟩) w1 B_w4.out B_w4.out.size (by have := HFL.out; omega) (by decide) ?_; intro v5 w5 ht5 hb5 hs5)
        have T_w5 := Lib.hid ht5.symm
        have B_w5 := Lib.hid hb5
        clear ht5 hb5 hs5
        go_roundg gk
        case measure => omega
        case rel => exact ⟨k + 1, fs ++ [⟨x.x, a4, c4⟩], es, by have := HK.out; omega, by go_num, by rw [List.map_append, HF.out, List.take_add_one, HXM.out]; simp [goneQ, HBE.out], by rw [HES.out, List.take_add_one, HXM.out]; simp [leftQ, HBE.out], by have := HFL.out; simp <;> omega, by have := HEL.out; simp <;> omega, T_w5.out, (newl_app1 HNW.out N_w4.out), B_w5.out⟩
end Go.Proofs.YtjhojpghllnoiaaDoor
