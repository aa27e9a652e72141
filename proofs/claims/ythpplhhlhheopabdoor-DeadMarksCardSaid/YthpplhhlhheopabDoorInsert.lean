/-
  What Clone and Insert of slices answer at properties, of a slice of the call's own. Conditions: the list reads as data; few elements.
-/
import Derived.Test.YthpplhhlhheopabDoorKeyP
import Derived.Shelf.Spec.SlicesInsertGrow
import Derived.Deep.RegionLaw
namespace Go.Proofs.YthpplhhlhheopabDoor
open Go.RowKit

theorem infoP : (Tryd.prog.info? 35).map (fun i => (i.zero, i.size, i.bytes)) = some (some (.agg #[.string ByteArray.empty, .string ByteArray.empty]), 2, 32) := by kernel_rfl
theorem sizeP : (Tryd.prog.info? 35).map (·.size) = some 2 := by kernel_rfl
theorem elemP : Tryd.prog.elem 24 = 35 := by kernel_rfl
theorem undP : Tryd.prog.underlying 24 = some (.slice (Tryd.prog.elem 24)) := by rw [elemP]; exact Tryd.underlying24
theorem sizeOfP (w : World) : (sizeOf (Tryd.prog.elem 24)).run Tryd.prog w = .ok 2 w := by
  obtain ⟨i, hi, hz, hz1, hz2⟩ := info_parts infoP
  rw [elemP]
  simp [sizeOf, typeInfo, hi, hz1]
abbrev OwnP (w : World) (B : Nat) (v : Value) (xs : List PR) : Prop := OwnG 35 gP 2 w B v xs

set_option maxHeartbeats 1000000 in
theorem clone_any (A : Option Addr) (c : Nat) (xs : List PR) (w : World) (hsl : PL w w.heap.size A xs) (hn : xs.length ≤ 100000) :
    Calls Tryd.prog 49 #[.slice A xs.length c] w fun e w' => ∃ v, e = .returned v ∧ OwnP w' w.heap.size v xs ∧ Below w.heap.size w w' := by
  have q22 : ∀ (w : World) (a : Option Addr) (n c n' c' : Nat), (binOp .eql 24 (.slice a n c) (.slice none n' c')).run Tryd.prog w = .ok (.bool a.isNone) w := fun w a n c n' c' => Lib.run_eql_slice_nil w _ _ a n c n' c' Tryd.underlying24
  cases A with
  | none =>
    have h0 : xs = [] := by
      rcases Nat.eq_zero_or_pos xs.length with h | h
      · exact List.eq_nil_of_length_eq_zero h
      · obtain ⟨b, o, e, _⟩ := hsl h; cases e
    subst h0
    clear hsl hn
    go_enter Tryd.func49, Tryd.ntmps49
    go_wp2
    go_ret
    exact ⟨_, rfl, OwnG.nil _ _, Below.refl _ _⟩
  | some a =>
    have hsl2 := hsl.step ((Below.refl _ _).alloc (Nat.le_refl _) (.cells #[] 35))
    have hb0 := (Below.refl w.heap.size w).alloc (Nat.le_refl _) (.cells #[] 35)
    have HS := Lib.hid hsl2
    clear hsl hsl2
    go_enter Tryd.func49, Tryd.ntmps49
    go_wp2_with (at_builtin; go_must (refine wpList_appG (g := gP) (k := 2) (e := 35) (by decide) _ rfl _ _ 24 24 rfl (.agg #[.string ByteArray.empty, .string ByteArray.empty]) 32 Tryd.underlying24 infoP rfl (by decide) w.heap.size _ [] xs rfl (OwnG.made w 0 #[] w.heap.size (Nat.le_refl _) (by decide) rfl) _ rfl (GL.src gP_len gP_one HS.out Tryd.underlying24 c) w hb0 (by simp) (by simp; omega) ?_); intro v' w' hown' hb' hsz')
    go_ret
    exact ⟨_, rfl, hown', hb'⟩

/-! ### Insert -/
theorem run_copy_rowK {P : Program} (w : World) (dT sT ty elem : TypeId) (k : Nat) (g o dLen dCap : Nat) (a : Addr) (sLen sCap : Nat) (cur : Array Value) (t : TypeId) (cs : List Value) (n : Nat)
    (hu : P.underlying dT = some (.slice elem)) (hs : (P.info? elem).map (·.size) = some k)
    (hg : w.heap[g]? = some (.cells cur t (0, 0))) (hn : n = Nat.min sLen dLen) (hl : cs.length = n * k)
    (hsrc : ∀ j v, cs[j]? = some v → w.cell? (a.add j) = some v) (hfit : o + cs.length ≤ cur.size) (h1 : ∀ v ∈ cs, v.oneCell' = true) :
    (Builtin.copy_ #[dT, sT] ty #[.slice (some ⟨g, o, none⟩) dLen dCap, .slice (some a) sLen sCap]).run P w =
      .ok (goInt n) (w.setRow g (cur.toList.take o ++ cs ++ cur.toList.drop (o + cs.length)).toArray) := by
  have hld := run_loadCells_list (P := P) w a cs hsrc
  have hst := run_storeCells_at P g o t cs 0 cur w hg (by simpa using hfit) h1
  cases hq : P.info? elem with
  | none => simp [hq] at hs
  | some i =>
    have hi : i.size = k := by simpa [hq] using hs
    simp [Builtin.copy_, run_underlying hu, Builtin.lenOf, Builtin.firstCells, sizeOf, typeInfo, hq, hi, ← hn, ← hl, hld, hst]

def insP (xs : List PR) (i : Nat) (x : PR) : List PR := xs.take i ++ [x] ++ xs.drop i
theorem flat_take {α : Type} {g : α → List Value} {k : Nat} (hg : ∀ x, (g x).length = k) (xs : List α) (i : Nat) (hi : i ≤ xs.length) : (xs.take i).flatMap g = (xs.flatMap g).take (i * k) := by
  have h : xs.flatMap g = (xs.take i).flatMap g ++ (xs.drop i).flatMap g := by rw [← List.flatMap_append, List.take_append_drop]
  have hl : ((xs.take i).flatMap g).length = i * k := by rw [flat_len hg, List.length_take, Nat.min_eq_left hi]
  rw [h, ← hl, List.take_left']
  rfl
theorem flat_drop {α : Type} {g : α → List Value} {k : Nat} (hg : ∀ x, (g x).length = k) (xs : List α) (i : Nat) (hi : i ≤ xs.length) : (xs.drop i).flatMap g = (xs.flatMap g).drop (i * k) := by
  have h : xs.flatMap g = (xs.take i).flatMap g ++ (xs.drop i).flatMap g := by rw [← List.flatMap_append, List.take_append_drop]
  have hl : ((xs.take i).flatMap g).length = i * k := by rw [flat_len hg, List.length_take, Nat.min_eq_left hi]
  rw [h, ← hl, List.drop_left']
  rfl
theorem ins_flat (xs : List PR) (i : Nat) (x : PR) (hi : i ≤ xs.length) : (insP xs i x).flatMap gP = (xs.flatMap gP).take (i * 2) ++ gP x ++ (xs.flatMap gP).drop (i * 2) := by
  unfold insP
  rw [List.flatMap_append, List.flatMap_append, flat_take gP_len xs i hi, flat_drop gP_len xs i hi]
  simp
theorem ins_len (xs : List PR) (i : Nat) (x : PR) (hi : i ≤ xs.length) : (insP xs i x).length = xs.length + 1 := by
  unfold insP
  simp
  omega
/-- the row behind both copies, there being room -/
theorem ins_shift {α : Type} (C L y : List α) (n i cap : Nat) (hi : i < n) (hn : n + 1 ≤ cap) (hC : C.length = cap * 2) (hL : L.length = n * 2) (ht : C.take (n * 2) = L) (hy : y.length = 2) :
    let C1 := C.take ((i + 1) * 2) ++ L.drop (i * 2) ++ C.drop ((i + 1) * 2 + (L.drop (i * 2)).length)
    C1.length = cap * 2 ∧ (C1.take (i * 2) ++ y ++ C1.drop (i * 2 + y.length)).length = cap * 2 ∧ (C1.take (i * 2) ++ y ++ C1.drop (i * 2 + y.length)).take ((n + 1) * 2) = L.take (i * 2) ++ y ++ L.drop (i * 2) := by
  intro C1
  have e1 : (C.take ((i + 1) * 2)).length = (i + 1) * 2 := by rw [List.length_take]; omega
  have e2 : (L.drop (i * 2)).length = n * 2 - i * 2 := by rw [List.length_drop]; omega
  have h1 : C1.length = cap * 2 := by
    show (C.take ((i + 1) * 2) ++ L.drop (i * 2) ++ C.drop ((i + 1) * 2 + (L.drop (i * 2)).length)).length = cap * 2
    simp only [List.length_append, List.length_take, List.length_drop]; omega
  have h2 : C1.take (i * 2) = L.take (i * 2) := by
    show (C.take ((i + 1) * 2) ++ L.drop (i * 2) ++ C.drop ((i + 1) * 2 + (L.drop (i * 2)).length)).take (i * 2) = _
    rw [List.append_assoc, List.take_append_of_le_length (by omega), List.take_take, Nat.min_eq_left (by omega), ← ht, List.take_take, Nat.min_eq_left (by omega)]
  have h3 : C1.drop (i * 2 + y.length) = L.drop (i * 2) ++ C.drop ((i + 1) * 2 + (L.drop (i * 2)).length) := by
    show (C.take ((i + 1) * 2) ++ L.drop (i * 2) ++ C.drop ((i + 1) * 2 + (L.drop (i * 2)).length)).drop (i * 2 + y.length) = _
    have e3 : i * 2 + y.length = (C.take ((i + 1) * 2)).length := by omega
    rw [List.append_assoc, e3, List.drop_left']
    rfl
  refine ⟨h1, ?_, ?_⟩
  · simp only [List.length_append, List.length_take, List.length_drop, h1]; omega
  · rw [h2, h3, ← List.append_assoc]
    have e4 : (n + 1) * 2 = (L.take (i * 2) ++ y ++ L.drop (i * 2)).length := by
      rw [List.length_append, List.length_append, List.length_take, e2, hy]; omega
    rw [e4, List.take_left']
    rfl
/-- the row behind both copies, in a new row -/
theorem ins_grow {α : Type} (R0 L y : List α) (n i G : Nat) (hi : i < n) (hn : n + 1 ≤ G) (hR : R0.length = G * 2) (hL : L.length = n * 2) (ht : R0.take (i * 2) = L.take (i * 2)) (hy : y.length = 2) :
    let R1 := R0.take (i * 2) ++ y ++ R0.drop (i * 2 + y.length)
    R1.length = G * 2 ∧ (R1.take ((i + 1) * 2) ++ L.drop (i * 2) ++ R1.drop ((i + 1) * 2 + (L.drop (i * 2)).length)).length = G * 2 ∧ (R1.take ((i + 1) * 2) ++ L.drop (i * 2) ++ R1.drop ((i + 1) * 2 + (L.drop (i * 2)).length)).take ((n + 1) * 2) = L.take (i * 2) ++ y ++ L.drop (i * 2) := by
  intro R1
  have e2 : (L.drop (i * 2)).length = n * 2 - i * 2 := by rw [List.length_drop]; omega
  have e1 : (R0.take (i * 2)).length = i * 2 := by rw [List.length_take]; omega
  have h1 : R1.length = G * 2 := by
    show (R0.take (i * 2) ++ y ++ R0.drop (i * 2 + y.length)).length = G * 2
    simp only [List.length_append, List.length_take, List.length_drop]; omega
  have h2 : R1.take ((i + 1) * 2) = L.take (i * 2) ++ y := by
    show (R0.take (i * 2) ++ y ++ R0.drop (i * 2 + y.length)).take ((i + 1) * 2) = _
    have e3 : (i + 1) * 2 = (R0.take (i * 2) ++ y).length := by rw [List.length_append, e1, hy]; omega
    rw [e3, List.take_left', ht]
    rfl
  refine ⟨h1, ?_, ?_⟩
  · simp only [List.length_append, List.length_take, List.length_drop, h1]; omega
  · rw [h2]
    have e4 : (n + 1) * 2 = (L.take (i * 2) ++ y ++ L.drop (i * 2)).length := by
      rw [List.length_append, List.length_append, List.length_take, e2, hy]; omega
    rw [e4, List.take_left']
    rfl

/-- a block that holds one property -/
def VB (w : World) (vb : Nat) (x : PR) : Prop := w.heap[vb]? = some (.cells (gP x).toArray 35 (0, 0))
theorem VB.cell {w : World} {vb : Nat} {x : PR} (h : VB w vb x) : ∀ j v, (gP x)[j]? = some v → w.cell? ⟨vb, j, none⟩ = some v := fun j v hj => by
  unfold VB at h
  unfold World.cell?
  simp only [h]
  simpa using hj
theorem VB.lt {w : World} {vb : Nat} {x : PR} (h : VB w vb x) : vb < w.heap.size := (Array.getElem?_eq_some_iff.1 h).1
theorem VB.gl {w : World} {vb : Nat} {x : PR} (h : VB w vb x) : GL gP 2 w w.heap.size (some ⟨vb, 0, none⟩) [x] := fun _ => ⟨vb, 0, rfl, h.lt, fun j y i v hj hv => by
  cases j with
  | zero =>
    simp at hj
    subst hj
    simpa using h.cell i v hv
  | succ j => simp at hj⟩
theorem VB.shape {w : World} {vb : Nat} {x : PR} (h : VB w vb x) : w.shape? vb = some (35, 2) := by
  unfold World.shape?
  simp only [show w.heap[vb]? = _ from h]
  rfl
theorem VB.free {w : World} {vb : Nat} {x : PR} (h : VB w vb x) (j : Nat) : w.frozen? ⟨vb, j, none⟩ = false := by
  unfold World.frozen?
  simp only [show w.heap[vb]? = _ from h]
  simp
theorem cells_shape {w : World} {q : Nat} {cur : Array Value} {t : TypeId} (h : w.heap[q]? = some (.cells cur t (0, 0))) : w.shape? q = some (t, cur.size) := by
  unfold World.shape?
  simp only [h]
theorem cells_at {w : World} {q : Nat} {cur : Array Value} {t : TypeId} (h : w.heap[q]? = some (.cells cur t (0, 0))) (j : Nat) : w.cell? ⟨q, j, none⟩ = cur[j]? := by
  unfold World.cell?
  simp only [h]
  simp

/-- cuts of a row of properties -/
theorem cutP (q n c k : Nat) (hk : k ≤ n) (hkc : k < c) (w : World) : (Instr.slice 24 (.slice (some ⟨q, 0, none⟩) n c) (some (.int .i64 (k : Int))) none none).run Tryd.prog w = .ok (.slice (some ⟨q, k * 2, none⟩) (n - k) (c - k)) w := by
  rw [run_slice_l (P := Tryd.prog) w 24 _ n c undP .i64 k (by omega) (by omega), sizeOfP]
  simp only [Result.andThen, sliced, Int.toNat_natCast]
  rw [if_neg (by omega)]
  simp [Addr.add]
  intro h
  omega
theorem cutHP (q n c k : Nat) (hk : k ≤ c) (w : World) : (Instr.slice 24 (.slice (some ⟨q, 0, none⟩) n c) none (some (.int .i64 (k : Int))) none).run Tryd.prog w = .ok (.slice (some ⟨q, 0, none⟩) k c) w := by
  rw [run_slice_h (P := Tryd.prog) w 24 _ n c undP .i64 k (by omega) (by omega), sizeOfP]
  simp [Result.andThen, sliced, Addr.add]

set_option maxHeartbeats 2000000 in
theorem insert_end (v : Value) (xs : List PR) (x : PR) (W : World) (B vb : Nat) (hown : OwnP W B v xs) (hvb : VB W vb x) (hB : B ≤ W.heap.size) (hn : xs.length ≤ 100000) :
    Calls Tryd.prog 52 #[v, .int .i64 xs.length, .slice (some ⟨vb, 0, none⟩) 1 1] W fun e w' => ∃ v', e = .returned v' ∧ OwnP w' B v' (xs ++ [x]) ∧ Below B W w' := by
  have HS := Lib.hid (GL.src gP_len gP_one hvb.gl Tryd.underlying24 1)
  have HO := Lib.hid hown
  obtain ⟨A, c, rfl, hlc, _⟩ := OwnG.ret gP_len hown
  have HB := Lib.hid (Below.refl B W)
  have hcut : ∀ w, (Instr.slice 24 (.slice A xs.length c) (some (.int .i64 (xs.length : Int))) none none).run Tryd.prog w = .ok (sliced A xs.length xs.length c 2) w := fun w => by
    rw [run_slice_l (P := Tryd.prog) w 24 _ xs.length c undP .i64 xs.length (by omega) (by omega), sizeOfP]
    rfl
  generalize sliced A xs.length xs.length c 2 = sl at hcut
  clear hown hvb hlc
  go_enter Tryd.func52, Tryd.ntmps52
  go_wp2_with (at_builtin; go_must (refine wpList_appG (g := gP) (k := 2) (e := 35) (by decide) _ rfl _ _ 24 24 rfl (.agg #[.string ByteArray.empty, .string ByteArray.empty]) 32 Tryd.underlying24 infoP rfl (by decide) B _ xs [x] rfl HO.out _ rfl HS.out W HB.out hB (by simp; omega) ?_); intro v' w' hown' hb' hsz')
  go_ret
  exact ⟨_, rfl, hown', hb'⟩

theorem run_overP (W : World) (q vb : Nat) (cur : Array Value) (x : PR) (hq : W.heap[q]? = some (.cells cur 35 (0, 0))) (hs : cur.size ≠ 0) (hvb : VB W vb x) (hne : vb ≠ q) (o lb cb : Nat) :
    (callFunc 73 #[.slice (some ⟨vb, 0, none⟩) 1 1, .slice (some ⟨q, o, none⟩) lb cb]).run Tryd.prog W = .ok (.value (.bool false)) W := by
  rw [run_callFunc_extern Tryd.func73 (by kernel_rfl) (by kernel_rfl) (by kernel_rfl) (e := Extern.SlicesOverlaps.overlaps #[24, 24] #[4]) (by kernel_rfl),
    Lib.run_overlaps_apart W 24 4 35 Tryd.underlying24 2 (fun w => by have := sizeOfP w; rwa [elemP] at this) ⟨vb, 0, none⟩ ⟨q, o, none⟩ 1 1 lb cb hne 35 35 2 cur.size hvb.shape (cells_shape hq) hs (hvb.free 0) (hvb.free 2)]
  rfl
theorem VB.setRow {W : World} {vb q : Nat} {x : PR} (h : VB W vb x) (hne : vb ≠ q) (cs : Array Value) : VB (W.setRow q cs) vb x := by
  unfold VB at h ⊢
  rw [setRow_other W q vb cs hne]; exact h

set_option maxHeartbeats 4000000 in
theorem insert_shift (q n cap : Nat) (cur : Array Value) (xs : List PR) (i : Nat) (x : PR) (W : World) (B vb : Nat) (hq : W.heap[q]? = some (.cells cur 35 (0, 0))) (hnl : xs.length = n) (hi : i < n) (hroom : n + 1 ≤ cap) (hcap : cap ≤ maxLen)
    (hcs : cur.size = cap * 2) (htake : cur.toList.take (n * 2) = xs.flatMap gP) (hvb : VB W vb x) (hne : vb ≠ q) (hBq : B ≤ q) :
    Calls Tryd.prog 52 #[.slice (some ⟨q, 0, none⟩) n cap, .int .i64 i, .slice (some ⟨vb, 0, none⟩) 1 1] W fun e w' => ∃ v', e = .returned v' ∧ OwnP w' B v' (insP xs i x) ∧ Below B W w' := by
  have hov := run_overP W q vb cur x hq (by omega) hvb hne
  have hL : (xs.flatMap gP).length = n * 2 := by rw [flat_len gP_len, hnl]
  obtain ⟨s1, s2, s3⟩ := ins_shift cur.toList (xs.flatMap gP) (gP x) n i cap hi hroom (by simpa using hcs) hL htake rfl
  have hins := ins_flat xs i x (by omega)
  have hil := ins_len xs i x (by omega)
  have h1L : ∀ u ∈ xs.flatMap gP, u.oneCell' = true := fun u hu => by
    obtain ⟨y, _, hy⟩ := List.mem_flatMap.1 hu
    exact gP_one y u hy
  have hcell : ∀ j u, (xs.flatMap gP)[j]? = some u → W.cell? ⟨q, j, none⟩ = some u := fun j u hj => by
    rw [cells_at hq, ← Array.getElem?_toList]
    rw [← htake, List.getElem?_take] at hj
    split at hj
    · exact hj
    · cases hj
  generalize xs.flatMap gP = L at hL s1 s2 s3 hins h1L hcell htake
  have hdl : (L.drop (i * 2)).length = (n - i) * 2 := by rw [List.length_drop, hL]; omega
  unfold maxLen at hcap
  obtain ⟨W1, hW1⟩ : ∃ W1, W1 = W.drew.setRow q (cur.toList.take ((i + 1) * 2) ++ L.drop (i * 2) ++ cur.toList.drop ((i + 1) * 2 + (L.drop (i * 2)).length)).toArray := ⟨_, rfl⟩
  have hcp1 : ∀ ty dc sc, (Builtin.copy_ #[24, 24] ty #[.slice (some ⟨q, (i + 1) * 2, none⟩) (n - i) dc, .slice (some ⟨q, i * 2, none⟩) (n + 1 - i) sc]).run Tryd.prog W.drew = .ok (goInt ((n - i : Nat) : Int)) W1 := fun ty dc sc => by
    rw [hW1]
    exact run_copy_rowK W.drew _ _ ty 35 2 q _ _ dc ⟨q, i * 2, none⟩ _ sc cur 35 (L.drop (i * 2)) (n - i) Tryd.underlying24 sizeP hq (by simp only [Nat.min_def]; split <;> omega) hdl
      (fun j u hj => by rw [Addr.add_lit]; exact hcell _ u (by rwa [List.getElem?_drop] at hj)) (by rw [hdl, hcs]; omega) (fun u hu => h1L u (List.mem_of_mem_drop hu))
  have hq1 : W1.heap[q]? = some (.cells (cur.toList.take ((i + 1) * 2) ++ L.drop (i * 2) ++ cur.toList.drop ((i + 1) * 2 + (L.drop (i * 2)).length)).toArray 35 (0, 0)) := by rw [hW1]; exact setRow_heap W.drew q _ _ _ _ hq
  have hvb1 : VB W1 vb x := by rw [hW1]; exact VB.setRow (show VB W.drew vb x from hvb) hne _
  have hb1 : Below B W W1 := by rw [hW1]; exact below_setRow ((Below.refl _ _).drew) hBq _
  clear hW1
  generalize cur.toList.take ((i + 1) * 2) ++ L.drop (i * 2) ++ cur.toList.drop ((i + 1) * 2 + (L.drop (i * 2)).length) = C1 at hq1 s1 s2 s3
  obtain ⟨W2, hW2⟩ : ∃ W2, W2 = W1.setRow q (C1.take (i * 2) ++ gP x ++ C1.drop (i * 2 + (gP x).length)).toArray := ⟨_, rfl⟩
  have hcp2 : ∀ ty dc, (Builtin.copy_ #[24, 24] ty #[.slice (some ⟨q, i * 2, none⟩) (n + 1 - i) dc, .slice (some ⟨vb, 0, none⟩) 1 1]).run Tryd.prog W1 = .ok (goInt ((1 : Nat) : Int)) W2 := fun ty dc => by
    rw [hW2]
    exact run_copy_rowK W1 _ _ ty 35 2 q (i * 2) (n + 1 - i) dc ⟨vb, 0, none⟩ 1 1 C1.toArray 35 (gP x) 1 Tryd.underlying24 sizeP hq1 (by simp only [Nat.min_def]; split <;> omega) rfl
      (fun j u hj => by rw [Addr.add_lit, Nat.zero_add]; exact hvb1.cell j u hj) (by rw [List.size_toArray, s1]; show i * 2 + 2 ≤ cap * 2; omega) (gP_one x)
  have hq2 : W2.heap[q]? = some (.cells (C1.take (i * 2) ++ gP x ++ C1.drop (i * 2 + (gP x).length)).toArray 35 (0, 0)) := by rw [hW2]; exact setRow_heap W1 q _ _ _ _ hq1
  have hb2 : Below B W W2 := by rw [hW2]; exact below_setRow hb1 hBq _
  clear hW2
  have HOWN : Hid (OwnP W2 B (.slice (some ⟨q, 0, none⟩) (n + 1) cap) (insP xs i x)) := Lib.hid (by
    refine ⟨by rw [hins, hil, List.length_append, List.length_append, List.length_take, hdl, gP_len, hL, hnl]; omega, .inr ⟨q, cap, _, by rw [hil, hnl], hBq, hq2, by omega, by unfold maxLen; omega, ?_, ?_⟩⟩
    · rw [List.size_toArray]; exact s2
    · rw [hil, hnl, hins]; exact s3)
  have HB := Lib.hid hb2
  have e1 : ((n + 1 : Nat) : Int) = (n : Int) + 1 := by omega
  have e2 : ((i + 1 : Nat) : Int) = (i : Int) + 1 := by omega
  have c1 := cutP q n cap i (by omega) (by omega)
  have c2 := cutHP q n cap (n + 1) hroom
  have c3 := cutP q (n + 1) cap (i + 1) (by omega) (by omega)
  have c4 := cutP q (n + 1) cap i (by omega) (by omega)
  rw [e1] at c2
  rw [e2] at c3
  have hw1 : IntKind.i64.wrap ((i : Int) + 1) = (i : Int) + 1 := by rw [IntKind.wrap_i64]; omega
  have z1 : ((i : Int) == (n : Int)) = false := by simp; omega
  have z1' : (i == n) = false := by simp; omega
  have z2 : decide ((cap : Int) < (n : Int) + 1) = false := decide_eq_false (by omega)
  clear e1 e2 hq hcs htake hvb hne s1 s2 s3 hins hil h1L hcell hL hdl hq1 hvb1 hb1 hq2 hb2 hnl hBq
  go_enter Tryd.func52, Tryd.ntmps52
  go_wp2_with (simp only [hov])
  go_region_law (refine step_copy_runI rfl _ _ 24 24 rfl _ _ (by simp [Act.eval, Act.put]) (by simp [Act.eval, Act.put]) (hcp1 _ _ _) ?_)
  go_wp2_with (at_builtin; refine wpList_copy_runI _ rfl _ _ 24 24 rfl _ _ rfl rfl (hcp2 _ _) ?_)
  go_ret
  exact ⟨_, rfl, HOWN.out, HB.out⟩

theorem zeroP_size (k : Nat) : (Builtin.zeroCells (Value.agg #[.string ByteArray.empty, .string ByteArray.empty]).cells k).size = k * 2 := by
  rw [size_zeroCells]
  rfl

set_option maxHeartbeats 4000000 in
theorem insert_grow (q n : Nat) (cur : Array Value) (xs : List PR) (i : Nat) (x : PR) (W : World) (B vb : Nat) (hq : W.heap[q]? = some (.cells cur 35 (0, 0))) (hnl : xs.length = n) (hi : i < n) (hcap : n ≤ 100000)
    (_hcs : cur.size = n * 2) (htake : cur.toList.take (n * 2) = xs.flatMap gP) (hvb : VB W vb x) (_hne : vb ≠ q) (hB : B ≤ W.heap.size) :
    Calls Tryd.prog 52 #[.slice (some ⟨q, 0, none⟩) n n, .int .i64 i, .slice (some ⟨vb, 0, none⟩) 1 1] W fun e w' => ∃ v', e = .returned v' ∧ OwnP w' B v' (insP xs i x) ∧ Below B W w' := by
  have hL : (xs.flatMap gP).length = n * 2 := by rw [flat_len gP_len, hnl]
  have hins := ins_flat xs i x (by omega)
  have hil := ins_len xs i x (by omega)
  have h1L : ∀ u ∈ xs.flatMap gP, u.oneCell' = true := fun u hu => by
    obtain ⟨y, _, hy⟩ := List.mem_flatMap.1 hu
    exact gP_one y u hy
  have hcell : ∀ j u, (xs.flatMap gP)[j]? = some u → W.cell? ⟨q, j, none⟩ = some u := fun j u hj => by
    rw [cells_at hq, ← Array.getElem?_toList]
    rw [← htake, List.getElem?_take] at hj
    split at hj
    · exact hj
    · cases hj
  generalize xs.flatMap gP = L at hL hins h1L hcell htake
  have hdl : (L.drop (i * 2)).length = (n - i) * 2 := by rw [List.length_drop, hL]; omega
  have htl : (L.take (i * 2)).length = i * 2 := by rw [List.length_take, hL]; omega
  obtain ⟨i0, hi0, hz0, hzs, hzb⟩ := info_parts infoP
  have hqw : q < W.heap.size := (Array.getElem?_eq_some_iff.1 hq).1
  have hvw := hvb.lt
  have hkk : (n : Int) + 1 - (i : Int) = ((n + 1 - i : Nat) : Int) := by omega
  have hik : i + (n + 1 - i) = n + 1 := by omega
  have hold : (Builtin.firstCells i0.size i (.slice (some ⟨q, 0, none⟩) i n)).run Tryd.prog W.drew = .ok (L.take (i * 2)).toArray W.drew := by
    rw [hzs]
    exact run_firstCells_some W.drew 2 i ⟨q, 0, none⟩ i n (L.take (i * 2)) htl (fun j v hj => by
      rw [Addr.add_lit, Nat.zero_add]
      rw [List.getElem?_take] at hj
      split at hj
      · exact hcell j v hj
      · cases hj)
  obtain ⟨G, hG⟩ : ∃ G, G = grownCap W (n + 1) n 35 := ⟨_, rfl⟩
  have hGn : n + 1 ≤ G := by rw [hG]; exact grownCap_ge W _ _ _
  have hGm : G ≤ maxLen := by rw [hG]; exact grownCap_le_maxLen W (n + 1) n 35 (by unfold maxLen; omega)
  obtain ⟨R0, hR0⟩ : ∃ R0 : Array Value, R0 = (L.take (i * 2)).toArray ++ Builtin.zeroCells (Value.agg #[.string ByteArray.empty, .string ByteArray.empty]).cells (n + 1 - i) ++ Builtin.zeroCells (Value.agg #[.string ByteArray.empty, .string ByteArray.empty]).cells (G - (n + 1)) := ⟨_, rfl⟩
  have hR0s : R0.toList.length = G * 2 := by
    rw [hR0, Array.length_toList, Array.size_append, Array.size_append, zeroP_size, zeroP_size, List.size_toArray, htl]; omega
  have hR0t : R0.toList.take (i * 2) = L.take (i * 2) := by
    rw [hR0, Array.toList_append, Array.toList_append, List.append_assoc]
    have aux : ∀ (T X : List Value), T.length = i * 2 → (T ++ X).take (i * 2) = T := fun T X h => by rw [← h, List.take_left']; rfl
    exact aux _ _ htl
  obtain ⟨W1, hW1⟩ : ∃ W1, W1 = W.drew.alloc (.cells R0 35) := ⟨_, rfl⟩
  have hrz : ∀ ty, (Builtin.append_ #[24, 3] ty #[.slice (some ⟨q, 0, none⟩) i n, .int .i64 ((n : Int) + 1 - (i : Int))]).run Tryd.prog W = .ok (.slice (some ⟨W.heap.size, 0, none⟩) (n + 1) G) W1 := fun ty => by
    have h := Lib.run_append_grow_zeros W 24 3 ty 35 i0 _ .i64 .i64 Tryd.underlying24 Tryd.underlying3 hi0 hz0 (some ⟨q, 0, none⟩) i n (L.take (i * 2)) hold (n + 1 - i) (by omega) (by omega) (by omega) (by omega) (by rw [hzb]; omega) (by rw [hzb, hik]; exact growslice_fits (by omega) (by omega))
    rw [hik, ← hG] at h
    rw [hkk, hW1, hR0]
    exact h
  have hq1 : W1.heap[W.heap.size]? = some (.cells R0 35 (0, 0)) := by rw [hW1]; exact heap_alloc_new W.drew _
  have hvb1 : VB W1 vb x := by rw [hW1]; exact (heap_alloc_old W.drew _ hvw).trans hvb
  have hc1 : ∀ j u, L[j]? = some u → W1.cell? ⟨q, j, none⟩ = some u := fun j u hj => by rw [hW1, World.cell?_alloc_past (w := W.drew) _ q j hqw]; exact hcell j u hj
  have hb1 : Below B W W1 := by rw [hW1]; exact ((Below.refl B W).drew).alloc hB _
  obtain ⟨N, hN⟩ : ∃ N, N = W.heap.size := ⟨_, rfl⟩
  rw [← hN] at hrz hq1
  have hBN : B ≤ N := by omega
  have hqN : q ≠ N := by omega
  have hvN : vb ≠ N := by omega
  clear hW1 hold hR0 hG hkk hik hcell hq htake hi0 hz0 hzs hzb hvb hB
  obtain ⟨s1, s2, s3⟩ := ins_grow R0.toList L (gP x) n i G hi hGn hR0s hL hR0t rfl
  obtain ⟨W2, hW2⟩ : ∃ W2, W2 = W1.setRow N (R0.toList.take (i * 2) ++ gP x ++ R0.toList.drop (i * 2 + (gP x).length)).toArray := ⟨_, rfl⟩
  have hcpA : ∀ ty dc, (Builtin.copy_ #[24, 24] ty #[.slice (some ⟨N, i * 2, none⟩) (n + 1 - i) dc, .slice (some ⟨vb, 0, none⟩) 1 1]).run Tryd.prog W1 = .ok (goInt ((1 : Nat) : Int)) W2 := fun ty dc => by
    rw [hW2]
    exact run_copy_rowK W1 _ _ ty 35 2 N (i * 2) (n + 1 - i) dc ⟨vb, 0, none⟩ 1 1 R0 35 (gP x) 1 Tryd.underlying24 sizeP hq1 (by simp only [Nat.min_def]; split <;> omega) rfl
      (fun j u hj => by rw [Addr.add_lit, Nat.zero_add]; exact hvb1.cell j u hj) (by rw [Array.length_toList] at hR0s; rw [hR0s]; show i * 2 + 2 ≤ G * 2; omega) (gP_one x)
  have hq2 : W2.heap[N]? = some (.cells (R0.toList.take (i * 2) ++ gP x ++ R0.toList.drop (i * 2 + (gP x).length)).toArray 35 (0, 0)) := by rw [hW2]; exact setRow_heap W1 N _ _ _ _ hq1
  have hc2 : ∀ j u, L[j]? = some u → W2.cell? ⟨q, j, none⟩ = some u := fun j u hj => by
    have := hc1 j u hj
    rw [hW2]
    unfold World.cell? at this ⊢
    rw [setRow_other W1 N q _ hqN]; exact this
  have hb2 : Below B W W2 := by rw [hW2]; exact below_setRow hb1 hBN _
  clear hW2
  generalize R0.toList.take (i * 2) ++ gP x ++ R0.toList.drop (i * 2 + (gP x).length) = R1 at hq2 s1 s2 s3
  obtain ⟨W3, hW3⟩ : ∃ W3, W3 = W2.drew.setRow N (R1.take ((i + 1) * 2) ++ L.drop (i * 2) ++ R1.drop ((i + 1) * 2 + (L.drop (i * 2)).length)).toArray := ⟨_, rfl⟩
  have hcpB : ∀ ty dc sc, (Builtin.copy_ #[24, 24] ty #[.slice (some ⟨N, (i + 1) * 2, none⟩) (n - i) dc, .slice (some ⟨q, i * 2, none⟩) (n - i) sc]).run Tryd.prog W2.drew = .ok (goInt ((n - i : Nat) : Int)) W3 := fun ty dc sc => by
    rw [hW3]
    have := run_copy_rowK W2.drew 24 24 ty 35 2 N ((i + 1) * 2) (n - i) dc ⟨q, i * 2, none⟩ (n - i) sc R1.toArray 35 (L.drop (i * 2)) (n - i) Tryd.underlying24 sizeP hq2 (by simp only [Nat.min_def]; split <;> omega) hdl
      (fun j u hj => by rw [Addr.add_lit]; exact hc2 _ u (by rwa [List.getElem?_drop] at hj)) (by rw [hdl, List.size_toArray, s1]; omega) (fun u hu => h1L u (List.mem_of_mem_drop hu))
    exact this
  have hq3 : W3.heap[N]? = some (.cells (R1.take ((i + 1) * 2) ++ L.drop (i * 2) ++ R1.drop ((i + 1) * 2 + (L.drop (i * 2)).length)).toArray 35 (0, 0)) := by rw [hW3]; exact setRow_heap W2.drew N _ _ _ _ hq2
  have hb3 : Below B W W3 := by rw [hW3]; exact below_setRow hb2.drew hBN _
  clear hW3
  have HOWN : Hid (OwnP W3 B (.slice (some ⟨N, 0, none⟩) (n + 1) G) (insP xs i x)) := Lib.hid (by
    refine ⟨by rw [hins, hil, List.length_append, List.length_append, htl, hdl, gP_len, hnl]; omega, .inr ⟨N, G, _, by rw [hil, hnl], hBN, hq3, by omega, hGm, ?_, ?_⟩⟩
    · rw [List.size_toArray]; exact s2
    · rw [hil, hnl, hins]; exact s3)
  have HB := Lib.hid hb3
  have e2 : ((i + 1 : Nat) : Int) = (i : Int) + 1 := by omega
  have c1 := cutP q n n i (by omega) (by omega)
  have c2 := cutHP q n n i (by omega)
  have c3 := cutP N (n + 1) G i (by omega) (by omega)
  have c4 := cutP N (n + 1) G (i + 1) (by omega) (by omega)
  rw [e2] at c4
  have hw1 : IntKind.i64.wrap ((i : Int) + 1) = (i : Int) + 1 := by rw [IntKind.wrap_i64]; omega
  have z1 : ((i : Int) == (n : Int)) = false := by simp; omega
  have z1' : (i == n) = false := by simp; omega
  have z2 : decide ((n : Int) < (n : Int) + 1) = true := decide_eq_true (by omega)
  unfold maxLen at hGm
  clear e2 s1 s2 s3 hins hil h1L hL hdl htl hq1 hvb1 hb1 hq2 hb2 hq3 hb3 hnl hBN hR0s hR0t hc1 hc2 hvw hqw hqN hvN hN
  go_enter Tryd.func52, Tryd.ntmps52
  go_wp2_with (first
    | (at_builtin; refine Lib.wpList_append_run _ rfl _ _ _ _ rfl _ _ rfl rfl _ _ (hrz _) ?_)
    | (at_builtin; refine wpList_copy_runI _ rfl _ _ 24 24 rfl _ _ rfl rfl (hcpA _ _) ?_))
  go_region_law (refine step_copy_runI rfl _ _ 24 24 rfl _ _ (by simp [Act.eval, Act.put]) (by simp [Act.eval, Act.put]) (hcpB _ _ _) ?_)
  go_wp2
  go_ret
  exact ⟨_, rfl, HOWN.out, HB.out⟩

/-- the list with an element at a place, of the call's own -/
theorem insert_any (v : Value) (xs : List PR) (i : Nat) (x : PR) (W : World) (B vb : Nat) (hown : OwnP W B v xs) (hvb : VB W vb x) (hne : ∀ q n c, v = .slice (some ⟨q, 0, none⟩) n c → vb ≠ q) (hB : B ≤ W.heap.size) (hi : i ≤ xs.length) (hn : xs.length ≤ 100000) :
    Calls Tryd.prog 52 #[v, .int .i64 i, .slice (some ⟨vb, 0, none⟩) 1 1] W fun e w' => ∃ v', e = .returned v' ∧ OwnP w' B v' (insP xs i x) ∧ Below B W w' := by
  by_cases he : i = xs.length
  · subst he
    have e : insP xs xs.length x = xs ++ [x] := by unfold insP; simp
    rw [e]
    exact insert_end v xs x W B vb hown hvb hB hn
  · have h' := hown
    unfold OwnP OwnG at h'
    rcases h'.2 with ⟨_, h0⟩ | ⟨q, cap, cur, rfl, hBq, hq, hnc, hcm, hcs, htake⟩
    · omega
    · by_cases hroom : xs.length + 1 ≤ cap
      · exact insert_shift q xs.length cap cur xs i x W B vb hq rfl (by omega) hroom hcm hcs htake hvb (hne _ _ _ rfl) hBq
      · obtain rfl : cap = xs.length := by omega
        exact insert_grow q xs.length cur xs i x W B vb hq rfl (by omega) hn hcs htake hvb (hne _ _ _ rfl) hB

end Go.Proofs.YthpplhhlhheopabDoor
