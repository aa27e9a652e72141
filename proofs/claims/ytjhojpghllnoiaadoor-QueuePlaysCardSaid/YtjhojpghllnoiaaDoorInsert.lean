/-
  What Clone and Insert of slices answer at properties, of a slice of the call's own. Conditions: the list reads as data; few elements.
-/
import Derived.Test.YtjhojpghllnoiaaDoorKeyP
import Derived.Shelf.Spec.SlicesInsertGrow
import Derived.Deep.RegionLaw
namespace Go.Proofs.YtjhojpghllnoiaaDoor
open Go.RowKit

theorem infoP : (Tryd.prog.info? 82).map (fun i => (i.zero, i.size, i.bytes)) = some (some (.agg #[.string ByteArray.empty, .string ByteArray.empty]), 2, 32) := by kernel_rfl
theorem sizeP : (Tryd.prog.info? 82).map (·.size) = some 2 := by kernel_rfl
theorem elemP : Tryd.prog.elem 30 = 82 := by kernel_rfl
theorem undP : Tryd.prog.underlying 30 = some (.slice (Tryd.prog.elem 30)) := by rw [elemP]; exact Tryd.underlying30
theorem sizeOfP (w : World) : (sizeOf (Tryd.prog.elem 30)).run Tryd.prog w = .ok 2 w := by
  obtain ⟨i, hi, hz, hz1, hz2⟩ := info_parts infoP
  rw [elemP]
  simp [sizeOf, typeInfo, hi, hz1]
abbrev OwnP (w : World) (B : Nat) (v : Value) (xs : List PR) : Prop := OwnG 82 gP 2 w B v xs

set_option maxHeartbeats 1000000 in
theorem clone_any (A : Option Addr) (c : Nat) (xs : List PR) (w : World) (hsl : PL w w.heap.size A xs) (hn : xs.length ≤ 100000) :
    Calls Tryd.prog 57 #[.slice A xs.length c] w fun e w' => ∃ v, e = .returned v ∧ OwnP w' w.heap.size v xs ∧ Below w.heap.size w w' := by
  have q22 : ∀ (w : World) (a : Option Addr) (n c n' c' : Nat), (binOp .eql 30 (.slice a n c) (.slice none n' c')).run Tryd.prog w = .ok (.bool a.isNone) w := fun w a n c n' c' => Lib.run_eql_slice_nil w _ _ a n c n' c' Tryd.underlying30
  cases A with
  | none =>
    have h0 : xs = [] := by
      rcases Nat.eq_zero_or_pos xs.length with h | h
      · exact List.eq_nil_of_length_eq_zero h
      · obtain ⟨b, o, e, _⟩ := hsl h; cases e
    subst h0
    clear hsl hn
    go_enter Tryd.func57, Tryd.ntmps57
    go_wp2
    go_ret
    exact ⟨_, rfl, OwnG.nil _ _, Below.refl _ _⟩
  | some a =>
    have hsl2 := hsl.step ((Below.refl _ _).alloc (Nat.le_refl _) (.cells #[] 82))
    have hb0 := (Below.refl w.heap.size w).alloc (Nat.le_refl _) (.cells #[] 82)
    have HS := Lib.hid hsl2
    clear hsl hsl2
    go_enter Tryd.func57, Tryd.ntmps57
    go_wp2_with (at_builtin; go_must (refine wpList_appG (g := gP) (k := 2) (e := 82) (by decide) _ rfl _ _ 30 30 rfl (.agg #[.string ByteArray.empty, .string ByteArray.empty]) 32 Tryd.underlying30 infoP rfl (by decide) w.heap.size _ [] xs rfl (OwnG.made w 0 #[] w.heap.size (Nat.le_refl _) (by decide) rfl) _ rfl (GL.src gP_len gP_one HS.out Tryd.underlying30 c) w hb0 (by simp) (by simp; omega) ?_); intro v' w' hown' hb' hsz')
    go_ret
    exact ⟨_, rfl, hown', hb'⟩

/-! ### Insert -/
theorem run_copy_rowK {P : Program} (w : World) (dT sT ty elem : TypeId) (k : Nat) (g o dLen dCap : Nat) (a : Addr) (sLen sCap : Nat) (cur : Array Value) (t : TypeId) (cs : List Value) (n : Nat)
    (hu : P.underlying dT = some (.slice elem)) (hs : (P.info? elem).map (·.size) = some k)
    (hg : w.heap[g]? = some (.cells cur t (0, 0))) (hn : n = Nat.min sLen dLen) (hl : cs.length = n * k)
    (hsrc : ∀ j v, cs[j]? = some v → w.cell? (a.add j) = some v) (hfit : o + cs.length ≤ cur.size) (h1 : ∀ v ∈ cs, v.oneCell' = true) :
    (Builtin.copy_ #[dT, sT] ty #[.slice (some ⟨g, o, none⟩) dLen dCap, .slice (some a) sLen sCap]).run P w =
      .ok (goInt n) (w.setRow g (cur.toList.take o ++ cs ++ cur.toList.drop (o + cs.length)).toArray) := by
  have hld := run_loadCells_list (P := P) w a cs hsrc
  have hst := run_storeCells_at P g o t cs 0 cur w hg (by simpa using hfit) h1
  cases hq : P.info? elem with
  | none => simp [hq] at hs
  | some i =>
    have hi : i.size = k := by simpa [hq] using hs
    simp [Builtin.copy_, run_underlying hu, Builtin.lenOf, Builtin.firstCells, sizeOf, typeInfo, hq, hi, ← hn, ← hl, hld, hst]

def insP (xs : List PR) (i : Nat) (x : PR) : List PR := xs.take i ++ [x] ++ xs.drop i
theorem flat_take {α : Type} {g : α → List Value} {k : Nat} (hg : ∀ x, (g x).length = k) (xs : List α) (i : Nat) (hi : i ≤ xs.length) : (xs.take i).flatMap g = (xs.flatMap g).take (i * k) := by
  have h : xs.flatMap g = (xs.take i).flatMap g ++ (xs.drop i).flatMap g := by rw [← List.flatMap_append, List.take_append_drop]
  have hl : ((xs.take i).flatMap g).length = i * k := by rw [flat_len hg, List.length_take, Nat.min_eq_left hi]
  rw [h, ← hl, List.take_left']
  rfl
theorem flat_drop {α : Type} {g : α → List Value} {k : Nat} (hg : ∀ x, (g x).length = k) (xs : List α) (i : Nat) (hi : i ≤ xs.length) : (xs.drop i).flatMap g = (xs.flatMap g).drop (i * k) := by
  have h : xs.flatMap g = (xs.take i).flatMap g ++ (xs.drop i).flatMap g := by rw [← List.flatMap_append, List.take_append_drop]
  have hl : ((xs.take i).flatMap g).length = i * k := by rw [flat_len hg, List.length_take, Nat.min_eq_left hi]
  rw [h, ← hl, List.drop_left']
  rfl
theorem ins_flat (xs : List PR) (i : Nat) (x : PR) (hi : i ≤ xs.length) : (insP xs i x).flatMap gP = (xs.flatMap gP).take (i * 2) ++ gP x ++ (xs.flatMap gP).drop (i * 2) := by
  unfold insP
  rw [List.flatMap_append, List.flatMap_append, flat_take gP_len xs i hi, flat_drop gP_len xs i hi]
  simp
theorem ins_len (xs : List PR) (i : Nat) (x : PR) (hi : i ≤ xs.length) : (insP xs i x).length = xs.length + 1 := by
  unfold insP
  simp
  omega
/-- the row behind both copies, there being room -/
theorem ins_shift {α : Type} (C L y : List α) (n i cap : Nat) (hi : i < n) (hn : n + 1 ≤ cap) (hC : C.length = cap * 2) (hL : L.length = n * 2) (ht : C.take (n * 2) = L) (hy : y.length = 2) :
    let C1 := C.take ((i + 1) * 2) ++ L.drop (i * 2) ++ C.drop ((i + 1) * 2 + (L.drop (i * 2)).length)
    C1.length = cap * 2 ∧ (C1.take (i * 2) ++ y ++ C1.drop (i * 2 + y.length)).length = cap * 2 ∧ (C1.take (i * 2) ++ y ++ C1.drop (i * 2 + y.length)).take ((n + 1) * 2) = L.take (i * 2) ++ y ++ L.drop (i * 2) := by
  intro C1
  have e1 : (C.take ((i + 1) * 2)).length = (i + 1) * 2 := by rw [List.length_take]; omega
  have e2 : (L.drop (i * 2)).length = n * 2 - i * 2 := by rw [List.length_drop]; omega
  have h1 : C1.length = cap * 2 := by
    show (C.take ((i + 1) * 2) ++ L.drop (i * 2) ++ C.drop ((i + 1) * 2 + (L.drop (i * 2)).length)).length = cap * 2
    simp only [List.length_append, List.length_take, List.length_drop]; omega
  have h2 : C1.take (i * 2) = L.take (i * 2) := by
    show (C.take ((i + 1) * 2) ++ L.drop (i * 2) ++ C.drop ((i + 1) * 2 + (L.drop (i * 2)).length)).take (i * 2) = _
    rw [List.append_assoc, List.take_append_of_le_length (by omega), List.take_take, Nat.min_eq_left (by omega), ← ht, List.take_take, Nat.min_eq_left (by omega)]
  have h3 : C1.drop (i * 2 + y.length) = L.drop (i * 2) ++ C.drop ((i + 1) * 2 + (L.drop (i * 2)).length) := by
    show (C.take ((i + 1) * 2) ++ L.drop (i * 2) ++ C.drop ((i + 1) * 2 + (L.drop (i * 2)).length)).drop (i * 2 + y.length) = _
    have e3 : i * 2 + y.length = (C.take ((i + 1) * 2)).length := by omega
    rw [List.append_assoc, e3, List.drop_left']
    rfl
  refine ⟨h1, ?_, ?_⟩
  · simp only [List.length_append, List.length_take, List.length_drop, h1]; omega
  · rw [h2, h3, ← List.append_assoc]
    have e4 : (n + 1) * 2 = (L.take (i * 2) ++ y ++ L.drop (i * 2)).length := by
      rw [List.length_append, List.length_append, List.length_take, e2, hy]; omega
    rw [e4, List.take_left']
    rfl
/-- the row behind both copies, in a new row -/
theorem ins_grow {α : Type} (R0 L y : List α) (n i G : Nat) (hi : i < n) (hn : n + 1 ≤ G) (hR : R0.length = G * 2) (hL : L.length = n * 2) (ht : R0.take (i * 2) = L.take (i * 2)) (hy : y.length = 2) :
    let R1 := R0.take (i * 2) ++ y ++ R0.drop (i * 2 + y.length)
    R1.length = G * 2 ∧ (R1.take ((i + 1) * 2) ++ L.drop (i * 2) ++ R1.drop ((i + 1) * 2 + (L.drop (i * 2)).length)).length = G * 2 ∧ (R1.take ((i + 1) * 2) ++ L.drop (i * 2) ++ R1.drop ((i + 1) * 2 + (L.drop (i * 2)).length)).take ((n + 1) * 2) = L.take (i * 2) ++ y ++ L.drop (i * 2) := by
  intro R1
  have e2 : (L.drop (i * 2)).length = n * 2 - i * 2 := by rw [List.length_drop]; omega
  have e1 : (R0.take (i * 2)).length = i * 2 := by rw [List.length_take]; omega
  have h1 : R1.length = G * 2 := by
    show (R0.take (i * 2) ++ y ++ R0.drop (i * 2 + y.length)).length = G * 2
    simp only [List.length_append, List.length_take, List.length_drop]; omega
  have h2 : R1.take ((i + 1) * 2) = L.take (i * 2) ++ y := by
    show (R0.take (i * 2) ++ y ++ R0.drop (i * 2 + y.length)).take ((i + 1) * 2) = _
    have e3 : (i + 1) * 2 = (R0.take (i * 2) ++ y).length := by rw [List.length_append, e1, hy]; omega
    rw [e3, List.take_left', ht]
    rfl
  refine ⟨h1, ?_, ?_⟩
  · simp only [List.length_append, List.length_take, List.length_drop, h1]; omega
  · rw [h2]
    have e4 : (n + 1) * 2 = (L.take (i * 2) ++ y ++ L.drop (i * 2)).length := by
      rw [List.length_append, List.length_append, List.length_take, e2, hy]; omega
    rw [e4, List.take_left']
    rfl

/-- a block that holds one property -/
def VB (w : World) (vb : Nat) (x : PR) : Prop := w.heap[vb]? = some (.cells (gP x).toArray 82 (0, 0))
theorem VB.cell {w : World} {vb : Nat} {x : PR} (h : VB w vb x) : ∀ j v, (gP x)[j]? = some v → w.cell? ⟨vb, j, none⟩ = some v := fun j v hj => by
  unfold VB at h
  unfold World.cell?
  simp only [h]
  simpa using hj
theorem VB.lt {w : World} {vb : Nat} {x : PR} (h : VB w vb x) : vb < w.heap.size := (Array.getElem?_eq_some_iff.1 h).1
theorem VB.gl {w : World} {vb : Nat} {x : PR} (h : VB w vb x) : GL gP 2 w w.heap.size (some ⟨vb, 0, none⟩) [x] := fun _ => ⟨vb, 0, rfl, h.lt, fun j y i v hj hv => by
  cases j with
  | zero =>
    simp at hj
    subst hj
    simpa using h.cell i v hv
  | succ j => simp at hj⟩
theorem VB.shape {w : World} {vb : Nat} {x : PR} (h : VB w vb x) : w.shape? vb = some (82, 2) := by
  unfold World.shape?
  simp only [show w.heap[vb]? = _ from h]
  rfl
theorem VB.free {w : World} {vb : Nat} {x : PR} (h : VB w vb x) (j : Nat) : w.frozen? ⟨vb, j, none⟩ = false := by
  unfold World.frozen?
  simp only [show w.heap[vb]? = _ from h]
  simp
theorem cells_shape {w : World} {q : Nat} {cur : Array Value} {t : TypeId} (h : w.heap[q]? = some (.cells cur t (0, 0))) : w.shape? q = some (t, cur.size) := by
  unfold World.shape?
  simp only [h]
theorem cells_at {w : World} {q : Nat} {cur : Array Value} {t : TypeId} (h : w.heap[q]? = some (.cells cur t (0, 0))) (j : Nat) : w.cell? ⟨q, j, none⟩ = cur[j]? := by
  unfold World.cell?
  simp only [h]
  simp

/-- cuts of a row of properties -/
theorem cutP (q n c k : Nat) (hk : k ≤ n) (hkc : k < c) (w : World) : (Instr.slice 30 (.slice (some ⟨q, 0, none⟩) n c) (some (.int .i64 (k : Int))) none none).run Tryd.prog w = .ok (.slice (some ⟨q, k * 2, none⟩) (n - k) (c - k)) w := by
  rw [run_slice_l (P := Tryd.prog) w 30 _ n c undP .i64 k (by omega) (by omega), sizeOfP]
  simp only [Result.andThen, sliced, Int.toNat_natCast]
  rw [if_neg (by omega)]
  simp [Addr.add]
  intro h
  omega
theorem cutHP (q n c k : Nat) (hk : k ≤ c) (w : World) : (Instr.slice 30 (.slice (some ⟨q, 0, none⟩) n c) none (some (.int .i64 (k : Int))) none).run Tryd.prog w = .ok (.slice (some ⟨q, 0, none⟩) k c) w := by
  rw [run_slice_h (P := Tryd.prog) w 30 _ n c undP .i64 k (by omega) (by omega), sizeOfP]
  simp [Result.andThen, sliced, Addr.add]

theorem VB.setRow {W : World} {vb q : Nat} {x : PR} (h : VB W vb x) (hne : vb ≠ q) (cs : Array Value) : VB (W.setRow q cs) vb x := by
  unfold VB at h ⊢
  rw [setRow_other W q vb cs hne]; exact h

theorem zeroP_size (k : Nat) : (Builtin.zeroCells (Value.agg #[.string ByteArray.empty, .string ByteArray.empty]).cells k).size = k * 2 := by
  rw [size_zeroCells]
  rfl

end Go.Proofs.YtjhojpghllnoiaaDoor
