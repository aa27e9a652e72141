/-
  What slices.IndexFunc and DeleteFunc answer at properties, with the closure of dead's with: over a row of the call's own. Conditions: the row holds the properties; lengths fit.
-/
import Derived.Test.YthpplhhlhheopabDoorDzA
import Derived.Test.YthpplhhlhheopabDoorRws
import Derived.Test.YthpplhhlhheopabDoorLe
import Derived.Deep.RegionLaw
import Derived.Lib.SliceRun
import Derived.Deep.Upon
import Derived.Deep.QuietTactic
import Derived.BigQuiet
namespace Go.Proofs.YthpplhhlhheopabDoor
open Go.RowKit
open S2 (BK Put)

def PR0 : PR := (ByteArray.empty, ByteArray.empty)
def prV (x : PR) : Value := .agg (gP x).toArray
theorem dropC {α : Type} {X : List α} {k : Nat} {x : α} (hx : X[k]? = some x) : X.drop k = x :: X.drop (k + 1) := by
  obtain ⟨hk, rfl⟩ := List.getElem?_eq_some_iff.1 hx
  exact List.drop_eq_getElem_cons hk
theorem retI {a b : Int} (h : a = b) : Ending.returned (.int .i64 a) = .returned (.int .i64 b) := by rw [h]
theorem S2.Put.refl (g : Nat) (w : World) : Put g w w := ⟨fun h _ => h, fun h _ => h, rfl, fun _ => rfl⟩
theorem S2.Put.trans {g : Nat} {a b c : World} (h : Put g a b) (k : Put g b c) : Put g a c := ⟨fun hM hne => k.other (h.other hM hne) hne, fun hb hg => k.below (h.below hb hg) hg, k.size.trans h.size, fun hp => (k.cell hp).trans (h.cell hp)⟩
theorem S2.Put.drew {g : Nat} {a b : World} (h : Put g a b) : Put g a b.drew := ⟨fun hM hne => (h.other hM hne).drew, fun hb hg => (h.below hb hg).drew, h.size, fun hp => h.cell hp⟩
theorem size_sets (g : Nat) : ∀ (vs : List Value) (o : Nat) (w : World), (w.setCells g o vs).heap.size = w.heap.size
  | [], _, _ => rfl
  | v :: r, o, w => by rw [World.setCells, size_sets g r]; simp
theorem S2.Put.sets {g : Nat} {a b : World} (h : Put g a b) (o : Nat) (vs : List Value) : Put g a (b.setCells g o vs) :=
  ⟨fun hM hne => S2.bk_sets_other hne vs o b _ (h.other hM hne), fun hb hg => S2.below_sets hg vs o b (h.below hb hg), (size_sets g vs o b).trans h.size, fun {p} hp => (World.cell?_setCells_out g vs o b p (fun e => absurd e hp)).trans (h.cell hp)⟩

def zerosP (m : Nat) : List Value := (Builtin.zeroCells (Value.cells (.agg (gP PR0).toArray)) m).toList
theorem zerosP_len (m : Nat) : (zerosP m).length = m * 2 := by
  unfold zerosP
  rw [Array.length_toList, size_zeroCells]
  rfl
theorem zerosP_one (m : Nat) : ∀ u ∈ zerosP m, u.oneCell' = true := by
  intro u hu
  unfold zerosP Builtin.zeroCells at hu
  simp only [Array.toList_map, List.mem_map] at hu
  obtain ⟨i, _, rfl⟩ := hu
  have h5 : (Value.cells (.agg (gP PR0).toArray)).size = 2 := rfl
  rw [h5]
  have hm : i % 2 < 2 := Nat.mod_lt _ (by decide)
  generalize i % 2 = j at hm
  match j, hm with
  | 0, _ => rfl
  | 1, _ => rfl
theorem sets_heap (g b : Nat) (hne : b ≠ g) : ∀ (vs : List Value) (o : Nat) (w : World), (w.setCells g o vs).heap[b]? = w.heap[b]?
  | [], _, _ => rfl
  | v :: r, o, w => by
    rw [World.setCells, sets_heap g b hne r]
    exact heap_setCell_other w ⟨g, o, none⟩ b v hne
/-- all but block g is as it was, or new -/
structure Kg (g : Nat) (w w' : World) : Prop where
  keep : ∀ b, b < w.heap.size → b ≠ g → w'.heap[b]? = w.heap[b]?
  size : w.heap.size ≤ w'.heap.size
  lt : g < w.heap.size
  below : ∀ B w0, Below B w0 w → B ≤ g → Below B w0 w'
theorem Kg.step {g : Nat} {w w1 w2 : World} (h : Kg g w w1) (hb : Below w1.heap.size w1 w2) : Kg g w w2 :=
  ⟨fun b h1 h2 => (hb.block b (Nat.lt_of_lt_of_le h1 h.size)).trans (h.keep b h1 h2), Nat.le_trans h.size hb.size, h.lt, fun B w0 h1 h2 => (h.below B w0 h1 h2).trans (hb.mono (by have := h.lt; have := h.size; omega))⟩
theorem Kg.put {g : Nat} {w w1 w2 : World} (h : Kg g w w1) (hk : ∀ b, b ≠ g → w2.heap[b]? = w1.heap[b]?) (hp : Put g w1 w2) : Kg g w w2 :=
  ⟨fun b h1 h2 => (hk b h2).trans (h.keep b h1 h2), by rw [hp.size]; exact h.size, h.lt, fun B w0 h1 h2 => hp.below (h.below B w0 h1 h2) h2⟩
theorem Kg.refl {g : Nat} {w : World} (h : g < w.heap.size) : Kg g w w := ⟨fun _ _ _ => rfl, Nat.le_refl _, h, fun _ _ h _ => h⟩
theorem wpList_store_row {P : Program} {ops : Array Oper} {rest : List Oper} {o : Oper} {a : Act} {w : World} {Q : Exit → Act → World → Prop} (hgd : Region.wanted o (yielded ops a.tmps) = true) (ty : TypeId) (x y : Operand) (ho : o.op = .store ty x y) (hd : o.dst = none) (g off n : Nat) (hx : a.eval x = .pointer (some ⟨g, off, none⟩))
    (v : Value) (hy : a.eval y = v) (T : TypeId) (vs cs : List Value) (hM : BK T w g vs) (hv : v.cells = cs.toArray) (hn : cs.length = n) (hi : (P.info? ty).map (·.size) = some n) (hf : off + n ≤ vs.length) (h1 : ∀ u ∈ cs, u.oneCell' = true)
    (h : ∀ w', BK T w' g (putC vs off cs) → Put g w w' → (∀ b, b ≠ g → w'.heap[b]? = w.heap[b]?) → wpList P ops Q rest a w') : wpList P ops Q (o :: rest) a w :=
  S2.wpList_wanted hgd fun _ hK => S2.wp_store ty x y ho hd _ hx v hy _ (run_store_part w g off n T ty vs cs v hv hn hi hM hf h1) (hK _ _ (h _ (MT.put hM off cs) (S2.put_row w g _) (fun b hb => setRow_other w g b _ hb)))
theorem run_clearP (w : World) (ty : TypeId) (b o m c : Nat) (hm : 0 < m) (hc : ∀ j, j < m * 2 → (w.cell? ⟨b, o + j, none⟩).isSome = true) (hf : ∀ j, j < m * 2 → w.frozen? ⟨b, o + j, none⟩ = false) :
    (Builtin.clear_ #[24] ty #[.slice (some ⟨b, o, none⟩) m c]).run Tryd.prog w = .ok (.tuple #[]) (w.setCells b o (zerosP m)) := by
  have hv := Tryd.zeroValue35
  have hst := run_storeCells_cells (P := Tryd.prog) b o (zerosP m) 0 w (by simpa [zerosP_len] using hc) (by simpa [zerosP_len] using hf) (zerosP_one m)
  simp only [Nat.add_zero] at hst
  have hv' : ∀ w, (zeroValue 35).run Tryd.prog w = .ok (.agg (gP PR0).toArray) w := hv
  obtain ⟨m', rfl⟩ : ∃ m', m = m' + 1 := ⟨m - 1, by omega⟩
  unfold zerosP at hst ⊢
  simp [Builtin.clear_, run_underlying Tryd.underlying24, hv', hst]

/-! ### DeleteFunc -/
/-- what stays -/
def kpQ (q : List PR) (x : PR) : Bool := !decide ((getR q x.1).2 = true)
def gone (q : List PR) : List PR → Nat → Int
  | [], _ => -1
  | x :: r, k => if (getR q x.1).2 = true then (k : Int) else gone q r (k + 1)
theorem gone_spec (q : List PR) : ∀ (r : List PR) (k : Nat), (gone q r k = -1 ∧ r.filter (kpQ q) = r) ∨ ∃ i x, gone q r k = ((k + i : Nat) : Int) ∧ r[i]? = some x ∧ (getR q x.1).2 = true ∧ (r.take i).filter (kpQ q) = r.take i
  | [], k => .inl ⟨rfl, rfl⟩
  | x :: r, k => by
    unfold gone
    by_cases h : (getR q x.1).2 = true
    · rw [if_pos h]
      exact .inr ⟨0, x, rfl, rfl, h, rfl⟩
    · rw [if_neg h]
      have hk : kpQ q x = true := by unfold kpQ; rw [decide_eq_false h]; rfl
      rcases gone_spec q r (k + 1) with ⟨h1, h2⟩ | ⟨i, y, h1, h2, h3, h4⟩
      · exact .inl ⟨h1, by rw [List.filter_cons_of_pos hk, h2]⟩
      · exact .inr ⟨i + 1, y, by rw [h1]; congr 1; omega, by rw [List.getElem?_cons_succ]; exact h2, h3, by rw [List.take_succ_cons, List.filter_cons_of_pos hk, h4]⟩
/-- behind j: what stays, then what may be written over, then the rest -/
structure Dfi (q : List PR) (xs : List PR) (j : Nat) (ys zs : List PR) : Prop where
  a : ys = (xs.take j).filter (kpQ q)
  l : ys.length + zs.length = j
  p : 0 < zs.length
  n : j ≤ xs.length
theorem Dfi.start {q : List PR} {xs : List PR} {i : Nat} {x : PR} (hx : xs[i]? = some x) (hq : (getR q x.1).2 = true) (h : (xs.take i).filter (kpQ q) = xs.take i) : Dfi q xs (i + 1) (xs.take i) [x] ∧ xs.take i ++ [x] ++ xs.drop (i + 1) = xs := by
  have hi := (List.getElem?_eq_some_iff.1 hx).1
  have hk : kpQ q x = false := by unfold kpQ; rw [decide_eq_true hq]; rfl
  refine ⟨⟨?_, by rw [List.length_take]; simp; omega, by simp, by omega⟩, ?_⟩
  · rw [List.take_add_one, hx, Option.toList_some, List.filter_append, h, List.filter_cons_of_neg (by simp [hk]), List.filter_nil, List.append_nil]
  · have e : xs.take i ++ [x] = xs.take (i + 1) := by rw [List.take_add_one, hx]; rfl
    rw [e, List.take_append_drop]
theorem Dfi.at_ {q : List PR} {xs ys zs : List PR} {j : Nat} (h : Dfi q xs j ys zs) : (ys ++ zs ++ xs.drop j)[j]? = xs[j]? := by
  rw [List.getElem?_append_right (by rw [List.length_append, h.l]; exact Nat.le_refl _), List.length_append, h.l, Nat.sub_self, List.getElem?_drop, Nat.add_zero]
theorem Dfi.len {q : List PR} {xs ys zs : List PR} {j : Nat} (h : Dfi q xs j ys zs) : (ys ++ zs ++ xs.drop j).length = xs.length := by
  rw [List.length_append, List.length_append, h.l, List.length_drop]; have := h.n; omega
theorem Dfi.skip {q : List PR} {xs ys zs : List PR} {j : Nat} {x : PR} (h : Dfi q xs j ys zs) (hx : xs[j]? = some x) (hk : kpQ q x = false) : Dfi q xs (j + 1) ys (zs ++ [x]) ∧ ys ++ (zs ++ [x]) ++ xs.drop (j + 1) = ys ++ zs ++ xs.drop j := by
  have hi := (List.getElem?_eq_some_iff.1 hx).1
  refine ⟨⟨?_, by have := h.l; rw [List.length_append]; simp; omega, by rw [List.length_append]; simp, by omega⟩, ?_⟩
  · rw [List.take_add_one, hx, Option.toList_some, List.filter_append, ← h.a, List.filter_cons_of_neg (by simp [hk]), List.filter_nil, List.append_nil]
  · rw [dropC hx]; simp
theorem Dfi.take {q : List PR} {xs ys zs : List PR} {j : Nat} {x : PR} (h : Dfi q xs j ys zs) (hx : xs[j]? = some x) (hk : kpQ q x = true) : Dfi q xs (j + 1) (ys ++ [x]) (zs.tail ++ [x]) ∧ (ys ++ zs ++ xs.drop j).set ys.length x = (ys ++ [x]) ++ (zs.tail ++ [x]) ++ xs.drop (j + 1) ∧ ∃ z, (ys ++ zs ++ xs.drop j)[ys.length]? = some z := by
  have hi := (List.getElem?_eq_some_iff.1 hx).1
  have hp := h.p
  obtain ⟨z, zr, rfl⟩ : ∃ z zr, zs = z :: zr := List.exists_cons_of_length_pos hp
  refine ⟨⟨?_, by have := h.l; simp at this ⊢; omega, by simp, by omega⟩, ?_, z, ?_⟩
  · rw [List.take_add_one, hx, Option.toList_some, List.filter_append, ← h.a, List.filter_cons_of_pos hk, List.filter_nil]
  · rw [dropC hx, List.append_assoc, List.set_append_right _ _ (Nat.le_refl _), Nat.sub_self]
    simp
  · rw [List.append_assoc, List.getElem?_append_right (Nat.le_refl _), Nat.sub_self]
    rfl
/-- the closure's captured list of properties -/
def CapQ (T : TypeId) (w : World) (g sb sc : Nat) (q : List PR) : Prop := BK T w g [.slice (some ⟨sb, 0, none⟩) q.length sc] ∧ PL w w.heap.size (some ⟨sb, 0, none⟩) q
theorem CapQ.step {T : TypeId} {w w' : World} {g sb sc : Nat} {q : List PR} (h : CapQ T w g sb sc q) (hb : Below w.heap.size w w') : CapQ T w' g sb sc q := ⟨h.1.step hb, GL.step h.2 hb⟩
theorem CapQ.put {T : TypeId} {w w' : World} {g sb sc p : Nat} {q : List PR} (h : CapQ T w g sb sc q) (hp : Put p w w') (h1 : g ≠ p) (h2 : sb ≠ p) : CapQ T w' g sb sc q :=
  ⟨hp.other h.1 h1, by rw [hp.size]; exact PL.put h.2 hp (fun b o e => by injection e with e; injection e with e1 _ _; rw [← e1]; exact h2)⟩
theorem PL.atg {w : World} {B : Nat} {A : Option Addr} {xs : List PR} (h : PL w B A xs) {j : Nat} {x : PR} (hx : xs[j]? = some x) :
    ∃ b o, A = some ⟨b, o, none⟩ ∧ b < B ∧ ∀ i v, (gP x)[i]? = some v → w.cell? ⟨b, o + j * 2 + i, none⟩ = some v := by
  obtain ⟨b, o, e, hb, hc⟩ := h (Nat.lt_of_le_of_lt (Nat.zero_le _) (List.getElem?_eq_some_iff.1 hx).1)
  exact ⟨b, o, e, hb, fun i v hv => hc j x i v hx hv⟩
theorem load_pr {w : World} {b o : Nat} {x : PR} (hc : ∀ i v, (gP x)[i]? = some v → w.cell? ⟨b, o + i, none⟩ = some v) : (loadVar 35 ⟨b, o, none⟩).run Tryd.prog w = .ok (prV x) w :=
  run_load_cells w b o (gP x) 35 _ hc Tryd.underlying35 rfl sizeP
theorem load_pr0 {w : World} {b : Nat} {x : PR} (h : BK 35 w b (gP x)) : (loadVar 35 ⟨b, 0, none⟩).run Tryd.prog w = .ok (prV x) w := S2.run_load_all h Tryd.underlying35 rfl sizeP
theorem withf_any (x : PR) (q : List PR) (g sb sc : Nat) (T : TypeId) (w : World) (hg : CapQ T w g sb sc q) (hqn : q.length ≤ 1000) :
    Calls Tryd.prog 50 #[prV x, .pointer (some ⟨g, 0, none⟩)] w fun e w' => e = .returned (.bool (decide ((getR q x.1).2 = true))) ∧ Below w.heap.size w w' := by
  have HGT := Lib.hid (fun w1 h => get_any (some ⟨sb, 0, none⟩) sc q x.1 w1 h (by omega))
  unfold retG at HGT
  have hbb : decide ((getR q x.1).2 = true) = (getR q x.1).2 := by cases (getR q x.1).2 <;> rfl
  rw [hbb]
  obtain ⟨v, hv⟩ : ∃ v, (getR q x.1).1 = v := ⟨_, rfl⟩
  obtain ⟨b1, hb1⟩ : ∃ v, (getR q x.1).2 = v := ⟨_, rfl⟩
  rw [hv, hb1] at HGT
  rw [hb1]
  have HG := Lib.hid hg
  clear hg hv hb1 hbb hqn
  have CX : prV x = .agg #[.string x.1, .string x.2] := rfl
  rw [CX]
  clear CX
  go_enter Tryd.func50, Tryd.ntmps50
  go_upto_region 1 with fail
  refine name_world (C := fun w1 => Code.wp _ _ _ _ w1) (w.alloc (.cells (gP x).toArray 35)) ?_
  intro w1 hw1
  have hb1 : Below w.heap.size w w1 := by rw [hw1]; exact S2.below_new w _
  have X_w1 : Hid (BK 35 w1 w.heap.size (gP x)) := Lib.hid (by rw [hw1]; exact BK.new w _ _)
  have B_w1 := Lib.hid hb1
  have G_w1 := Lib.hid (HG.out.step hb1)
  have z1 : w1.cell? ⟨w.heap.size, 0, none⟩ = some (.string x.1) := X_w1.out.cell 0 rfl
  have z2 := G_w1.out.1.cell 0 rfl
  clear hw1 hb1
  go_wp2_with fail
  refine (HGT.out w1 G_w1.out.2).mono ?_
  rintro e w2 ⟨rfl, hb⟩
  have B_w2 := Lib.hid (stepB B_w1.out hb)
  clear hb z1 z2
  go_wp2
  go_ret
  exact ⟨rfl, B_w2.out⟩
set_option maxRecDepth 20000 in
set_option maxHeartbeats 4000000 in
theorem idxD_any (A : Option Addr) (c : Nat) (xs : List PR) (q : List PR) (g : Nat) (sb sc : Nat) (T : TypeId) (w : World) (h : PL w w.heap.size A xs) (hn : xs.length ≤ 1000000) (hqn : q.length ≤ 1000) (hg : CapQ T w g sb sc q) :
    Calls Tryd.prog 68 #[.slice A xs.length c, .func (.func 50) #[] #[.pointer (some ⟨g, 0, none⟩)]] w fun e w' => e = .returned (.int .i64 (gone q xs 0)) ∧ Below w.heap.size w w' := by
  have HS := Lib.hid h
  have HGB := Lib.hid hg
  have HC := Lib.hid (fun x w1 h1 => withf_any x q g sb sc T w1 h1 hqn)
  obtain ⟨R, hR⟩ : ∃ R, gone q xs 0 = R := ⟨_, rfl⟩
  have HR : Hid (R = gone q (xs.drop 0) 0) := Lib.hid (by rw [← hR]; rfl)
  rw [hR]
  clear h hg hR hqn
  go_enter Tryd.func68, Tryd.ntmps68
  go_wp2
  go_loopg [8] xs.length (fun n v wr => ∃ k : Nat, k + n = xs.length ∧ v = .int .i64 k ∧ R = gone q (xs.drop k) k ∧ Below w.heap.size w wr)
  case atStart => exact ⟨0, by omega, rfl, HR.out, Below.refl _ _⟩
  case round =>
    obtain ⟨k, hkg, rfl, hrel, hb0⟩ := hrel
    have HREL := Lib.hid hrel
    have HB0 := Lib.hid hb0
    have HG := Lib.hid hkg
    clear hrel hb0 HR
    cases gk with
    | zero =>
      obtain rfl : k = xs.length := by omega
      have HV : Hid (R = -1) := Lib.hid (by rw [HREL.out, List.drop_length]; rfl)
      clear hkg
      go_wp2
      go_ret
      exact ⟨retI HV.out.symm, HB0.out⟩
    | succ n =>
      have hlt : k < xs.length := by omega
      have e3 : decide ((k : Int) < (xs.length : Int)) = true := decide_eq_true (by omega)
      obtain ⟨x, hx⟩ : ∃ x, xs[k]? = some x := ⟨_, List.getElem?_eq_getElem hlt⟩
      have hsr := HS.out.step HB0.out
      obtain ⟨b, o, hA, hbB, hcl⟩ := PL.atg hsr hx
      have HLD := Lib.hid (load_pr hcl)
      have HGI := Lib.hid (HGB.out.step HB0.out)
      have HD : Hid (R = if (getR q x.1).2 = true then (k : Int) else gone q (xs.drop (k + 1)) (k + 1)) := Lib.hid (by rw [HREL.out, dropC hx]; rfl)
      subst hA
      have j1 : (0 : Int) ≤ (k : Int) := by omega
      have j2 : (k : Int) < (xs.length : Int) := by omega
      clear hx hkg hlt hbB hcl hsr HREL
      go_wp2_with first
        | (refine wpList_load_v (by rfl) 35 _ rfl ⟨b, o + k * 2, none⟩ (by go_simp) _ HLD.out ?_)
      refine (HC.out x _ HGI.out).mono ?_
      rintro e w1 ⟨rfl, hb⟩
      have HB1 := Lib.hid (stepB HB0.out hb)
      clear hb HLD
      by_cases hxy : (getR q x.1).2 = true
      · have HV : Hid (R = (k : Int)) := Lib.hid (by rw [HD.out, if_pos hxy])
        rw [decide_eq_true hxy]
        clear hxy
        go_wp2_with fail
        go_ret
        exact ⟨retI HV.out.symm, HB1.out⟩
      · have HV : Hid (R = gone q (xs.drop (k + 1)) (k + 1)) := Lib.hid (by rw [HD.out, if_neg hxy])
        rw [decide_eq_false hxy]
        clear hxy
        go_wp2_with fail
        go_roundg n
        case measure => omega
        case rel => exact ⟨k + 1, by have := HG.out; omega, by go_num, HV.out, HB1.out⟩

set_option maxRecDepth 20000 in
set_option maxHeartbeats 8000000 in
theorem deleteF_any (g cap : Nat) (xs : List PR) (sp : List Value) (q : List PR) (gq : Nat) (sb sc : Nat) (T : TypeId) (w : World) (hg : BK 35 w g (xs.flatMap gP ++ sp)) (hn : xs.length ≤ cap) (hcs : (xs.flatMap gP ++ sp).length = cap * 2) (hn2 : xs.length ≤ 1000000) (hqn : q.length ≤ 1000) (hI : PL w w.heap.size (some ⟨g, 0, none⟩) xs) (hq : CapQ T w gq sb sc q) (hne : gq ≠ g) (hne2 : sb ≠ g) :
    Calls Tryd.prog 48 #[.slice (some ⟨g, 0, none⟩) xs.length cap, .func (.func 50) #[] #[.pointer (some ⟨gq, 0, none⟩)]] w fun e w' => ∃ sp', e = .returned (.slice (some ⟨g, 0, none⟩) (xs.filter (kpQ q)).length cap) ∧ BK 35 w' g ((xs.filter (kpQ q)).flatMap gP ++ sp') ∧ ((xs.filter (kpQ q)).flatMap gP ++ sp').length = cap * 2 ∧ Kg g w w' := by
  have HIX := Lib.hid (idxD_any (some ⟨g, 0, none⟩) cap xs q gq sb sc T w hI hn2 hqn hq)
  have HGO := Lib.hid (gone_spec q xs 0)
  have HGR := Lib.hid hg
  have HCS := Lib.hid hcs
  have HQ := Lib.hid hq
  have HNE := Lib.hid hne
  have HNE2 := Lib.hid hne2
  have HN := Lib.hid hn
  have HDF := Lib.hid (fun x w1 h1 => withf_any x q gq sb sc T w1 h1 hqn)
  generalize gone q xs 0 = R at *
  clear hI hq hg hcs hne hne2 hqn
  go_enter Tryd.func48, Tryd.ntmps48
  go_wp2_with fail
  refine HIX.out.mono ?_
  rintro e w1 ⟨rfl, hb⟩
  have G_w1 := Lib.hid (HGR.out.step hb)
  have Q_w1 := Lib.hid (HQ.out.step hb)
  have KB : Hid (Kg g w w1) := Lib.hid ((Kg.refl HGR.out.lt).step hb)
  clear hb HIX HGR HQ
  rcases HGO.out with ⟨hR, hf⟩ | ⟨i, x0, hR, hx0, hxq, hf⟩
  · subst hR
    have HF := Lib.hid hf
    clear hf
    go_wp2_with fail
    go_ret
    rw [HF.out]
    exact ⟨sp, rfl, G_w1.out, HCS.out, KB.out⟩
  · rw [Nat.zero_add] at hR
    subst hR
    have hi := (List.getElem?_eq_some_iff.1 hx0).1
    have HST := Lib.hid (Dfi.start hx0 hxq hf)
    have q1 : ((i : Int) == -1) = false := beq_eq_false_iff_ne.2 (by omega)
    have hi1 : ((i + 1 : Nat) : Int) = (i : Int) + 1 := by omega
    have u0 : wrap64 ((i : Int) + 1) = (i : Int) + 1 := S2.wrap64_id _ (by omega) (by omega)
    clear hx0 hxq hf HGO
    have HL0 : Hid ((xs.take i).length = i) := Lib.hid (by rw [List.length_take]; omega)
    go_wp2_with fail
    go_loopg [5, 6] (xs.length - (i + 1)) (fun n u v wr => ∃ (j : Nat) (ys zs : List PR), j + n = xs.length ∧ u = .int .i64 ys.length ∧ v = .int .i64 j ∧ Dfi q xs j ys zs ∧ BK 35 wr g ((ys ++ zs ++ xs.drop j).flatMap gP ++ sp) ∧ CapQ T wr gq sb sc q ∧ Kg g w wr)
    case atStart => exact ⟨i + 1, xs.take i, [x0], by omega, by rw [HL0.out], by rw [hi1], HST.out.1, by rw [HST.out.2]; exact G_w1.out, Q_w1.out, KB.out⟩
    case round =>
      obtain ⟨j, ys, zs, hjn, rfl, rfl, hdf, hrow, hbq, hk⟩ := hrel
      have HD := Lib.hid hdf
      have ROW := Lib.hid hrow
      have BQ := Lib.hid hbq
      have K := Lib.hid hk
      have HJ := Lib.hid hjn
      have hdn := hdf.n
      have hdl := hdf.l
      have hdp := hdf.p
      clear hdf hrow hbq hk G_w1 Q_w1 KB HST
      cases gk with
      | zero =>
        obtain rfl : j = xs.length := by omega
        have e3 : decide ((xs.length : Int) < (xs.length : Int)) = false := decide_eq_false (by omega)
        have hyf : ys = xs.filter (kpQ q) := by have := HD.out.a; rwa [List.take_length] at this
        have HYF := Lib.hid hyf
        have HR0 := ROW.out
        rw [List.drop_length, List.append_nil, List.flatMap_append] at HR0
        have hln : (ys.flatMap gP).length = ys.length * 2 := flat_len gP_len ys
        have hlz : (zs.flatMap gP).length = zs.length * 2 := flat_len gP_len zs
        have hrl : (ys.flatMap gP ++ zs.flatMap gP ++ sp).length = cap * 2 := by
          have h1 := HCS.out
          rw [List.length_append, flat_len gP_len] at h1
          rw [List.length_append, List.length_append, hln, hlz]
          rw [← hdl] at h1
          omega
        obtain ⟨W2, hW2⟩ : ∃ W2, W2 = wr.setCells g (ys.length * 2) (zerosP zs.length) := ⟨_, rfl⟩
        have hcl : ∀ ty, (Builtin.clear_ #[24] ty #[.slice (some ⟨g, ys.length * 2, none⟩) (xs.length - ys.length) (cap - ys.length)]).run Tryd.prog wr = .ok (.tuple #[]) W2 := fun ty => by
          rw [hW2, show xs.length - ys.length = zs.length by omega]
          exact run_clearP wr ty g (ys.length * 2) zs.length _ hdp (fun t ht => by
            obtain ⟨u, hu⟩ : ∃ u, (ys.flatMap gP ++ zs.flatMap gP ++ sp)[ys.length * 2 + t]? = some u := ⟨_, List.getElem?_eq_getElem (by rw [List.length_append, List.length_append, hln, hlz]; omega)⟩
            rw [HR0.cell _ hu]; rfl) (fun t _ => HR0.free _)
        have hB2 := S2.bk_setCells (zerosP zs.length) (ys.length * 2) wr _ HR0 (by rw [zerosP_len, List.length_append, List.length_append, hln, hlz]; omega)
        rw [← hW2] at hB2
        have hP2 : Put g wr W2 := by rw [hW2]; exact (S2.Put.refl g wr).sets _ _
        have htk : (ys.flatMap gP ++ zs.flatMap gP ++ sp).take (ys.length * 2) = ys.flatMap gP := by rw [List.append_assoc, ← hln, List.take_left' rfl]
        rw [htk, List.append_assoc] at hB2
        have HB2 := Lib.hid hB2
        have HP2 := Lib.hid hP2
        have HK2 : Hid (∀ b, b ≠ g → W2.heap[b]? = wr.heap[b]?) := Lib.hid (fun b hb => by rw [hW2, sets_heap _ _ hb])
        have HLL : Hid ((ys.flatMap gP ++ (zerosP zs.length ++ (ys.flatMap gP ++ zs.flatMap gP ++ sp).drop (ys.length * 2 + (zerosP zs.length).length))).length = cap * 2) := Lib.hid (by
          simp only [List.length_append, List.length_drop, zerosP_len, hln, hlz] at hrl ⊢
          omega)
        have c0 : (0 : Int) ≤ (ys.length : Int) := by omega
        have c1 : (ys.length : Int) ≤ (xs.length : Int) := by omega
        have c2 : (ys.length : Int) ≤ (cap : Int) := by have := HN.out; omega
        have c3 : decide ((ys.length : Int) ≤ (cap : Int)) = true := decide_eq_true c2
        have c4 : ¬ (cap = ys.length) := by have := HN.out; omega
        clear hW2 hB2 hP2 htk hrl hln hlz HR0 hyf hdn hdl hdp hjn
        go_wp2
        go_ret
        rw [← HYF.out]
        exact ⟨_, rfl, HB2.out, HLL.out, K.out.put HK2.out HP2.out⟩
      | succ n =>
        have hlt : j < xs.length := by omega
        have e3 : decide ((j : Int) < (xs.length : Int)) = true := decide_eq_true (by omega)
        obtain ⟨x, hx⟩ : ∃ x, xs[j]? = some x := ⟨_, List.getElem?_eq_getElem hlt⟩
        have hat := HD.out.at_
        rw [hx] at hat
        have HLD : Hid ((loadVar 35 ⟨g, j * 2, none⟩).run Tryd.prog wr = .ok (prV x) wr) := Lib.hid (load_pr (fun i v hv => row_atG gP_len ROW.out hat i v hv))
        have HX := Lib.hid hx
        have j1 : (0 : Int) ≤ (j : Int) := by omega
        have j2 : (j : Int) < (xs.length : Int) := by omega
        have i1 : (0 : Int) ≤ (ys.length : Int) := by omega
        have i2 : (ys.length : Int) < (xs.length : Int) := by omega
        have HGL : Hid (g < wr.heap.size) := Lib.hid ROW.out.lt
        clear hx hat hjn hdl hdp
        go_wp2_with first
          | (refine wpList_load_v (by rfl) 35 _ rfl ⟨g, j * 2, none⟩ (by go_simp) _ HLD.out ?_)
          | (refine S2.wpList_store_all (by rfl) 35 (.tmp 7) (.tmp 25) rfl rfl wr.heap.size rfl (gP x) rfl 35 _ (BK.new wr _ _) sizeP rfl (gP_one _) ?_; intro w2 hM hP; have hb := hP.below (S2.below_new wr _) (Nat.le_refl _); have V_w2 := Lib.hid hM; have R_w2 := Lib.hid (ROW.out.step hb); have Q_w2 := Lib.hid (BQ.out.step hb); have K_w2 := Lib.hid (K.out.step hb); have HLV := Lib.hid (load_pr0 hM); clear hM hP hb HLD ROW BQ K)
          | (refine wpList_load_v (by rfl) 35 (.tmp 7) rfl ⟨wr.heap.size, 0, none⟩ rfl _ HLV.out ?_)
        refine (HDF.out x w2 Q_w2.out).mono ?_
        rintro e w3 ⟨rfl, hb⟩
        have V_w3 := Lib.hid (V_w2.out.step hb)
        have R_w3 := Lib.hid (R_w2.out.step hb)
        have Q_w3 := Lib.hid (Q_w2.out.step hb)
        have K_w3 := Lib.hid (K_w2.out.step hb)
        clear hb V_w2 R_w2 Q_w2 K_w2 HLV
        by_cases hxq : (getR q x.1).2 = true
        · have hk : kpQ q x = false := by unfold kpQ; rw [decide_eq_true hxq]; rfl
          have HS2 := Lib.hid (HD.out.skip HX.out hk)
          rw [decide_eq_true hxq]
          clear hxq hk
          go_wp2_with fail
          go_roundg n
          case measure => omega
          case rel => exact ⟨j + 1, ys, zs ++ [x], by have := HJ.out; omega, rfl, by go_num, HS2.out.1, by rw [HS2.out.2]; exact R_w3.out, Q_w3.out, K_w3.out⟩
        · have hk : kpQ q x = true := by unfold kpQ; rw [decide_eq_false hxq]; rfl
          obtain ⟨hd2, hset, z, hz⟩ := HD.out.take HX.out hk
          have HD2 := Lib.hid hd2
          have HPUT := Lib.hid (put_atG (g := gP) gP_len hz x 0 (gP x) sp (by unfold putC; simp [gP_len]) (by rw [gP_len]; decide))
          have HSET := Lib.hid hset
          have HFIT : Hid (ys.length * 2 + 2 ≤ ((ys ++ zs ++ xs.drop j).flatMap gP ++ sp).length) := Lib.hid (by rw [List.length_append, flat_len gP_len, HD.out.len]; omega)
          have HLV := Lib.hid (load_pr0 V_w3.out)
          have HNG : Hid (wr.heap.size ≠ g) := Lib.hid (by have := HGL.out; omega)
          rw [decide_eq_false hxq]
          clear hxq hk hd2 hset hz
          go_wp2_with first
            | (refine wpList_load_v (by rfl) 35 (.tmp 7) rfl ⟨wr.heap.size, 0, none⟩ rfl _ HLV.out ?_)
            | (refine wpList_store_row (by rfl) 35 (.tmp 33) (.tmp 32) rfl rfl g (ys.length * 2) 2 (by simp [Act.eval]) (prV x) rfl 35 _ (gP x) R_w3.out rfl rfl sizeP HFIT.out (gP_one _) ?_; intro w4 hM hP hk4; have M4 := Lib.hid hM; have P4 := Lib.hid hP; have K4 := Lib.hid hk4; clear hM hP hk4)
          go_roundg n
          case measure => omega
          case rel =>
            refine ⟨j + 1, ys ++ [x], zs.tail ++ [x], by have := HJ.out; omega, by rw [List.length_append]; go_num, by go_num, HD2.out, ?_, Q_w3.out.put P4.out HNE.out HNE2.out, K_w3.out.put K4.out P4.out⟩
            have h := M4.out
            have h2 := HPUT.out
            rw [Nat.add_zero] at h2
            rw [h2, HSET.out] at h
            exact h
end Go.Proofs.YthpplhhlhheopabDoor
