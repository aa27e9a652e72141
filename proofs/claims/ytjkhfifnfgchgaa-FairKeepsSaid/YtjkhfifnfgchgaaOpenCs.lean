/-
  A list of consumers, a consumer, and a list of the law's calls, that came in, opened. Conditions: they read as data.
-/
import Derived.Test.YtjkhfifnfgchgaaFaX
import Derived.Lib.SmallJoins
import Derived.ProofKit
import Derived.OpenShut
import Derived.SliceStrings
import Derived.SizedLaws
import Derived.Deep.Slices
namespace Go.Proofs.Ytjkhfifnfgchgaa
open Go.Joins Go.ChangeShapes Go.WideShapes Go.ChangeAt Go.WideMaps Go.WideElems Go.RowKit Go.Deep

theorem laidOutAll : laidOutB Try.prog = true := by kernel_rfl
theorem cellsStr : Try.prog.cellsOf 9 = 1 := by kernel_rfl
theorem cellsI64 : Try.prog.cellsOf 3 = 1 := by kernel_rfl
theorem cellsCon : Try.prog.cellsOf 25 = 5 := by kernel_rfl
theorem cellsFOp : Try.prog.cellsOf 35 = 7 := by kernel_rfl
theorem plain_addr {w : World} {a : Addr} {v : Value} (h : w.cell? (a.add 0) = some v) : ∃ b o, a = ⟨b, o, none⟩ ∧ b < w.heap.size := by
  obtain ⟨b, off, spot⟩ := a
  have hspot : spot = none := by simpa [Addr.add] using World.cell?_spot h
  subst hspot
  refine ⟨b, off, rfl, ?_⟩
  rcases Nat.lt_or_ge b w.heap.size with h' | h'
  · exact h'
  · have : w.heap[b]? = none := Array.getElem?_eq_none h'
    simp [World.cell?, Addr.add, this] at h
theorem add_plain (b o j : Nat) : (⟨b, o + j, none⟩ : Addr) = (⟨b, o, none⟩ : Addr).add j := by
  unfold Addr.add
  split
  · next h => subst h; rfl
  · rfl
theorem i64_wf {n : Int} (h : (Lit.int .i64 n).wf = true) : -9223372036854775808 ≤ n ∧ n ≤ 9223372036854775807 := by
  have h1 : IntKind.i64.min = -9223372036854775808 := rfl
  have h2 : IntKind.i64.max = 9223372036854775807 := rfl
  simp only [Lit.wf, Bool.and_eq_true, decide_eq_true_eq] at h
  omega
theorem len_max63 {s : ByteArray} (h : s.data.toList.length ≤ maxLen) : s.size ≤ 9223372036854775807 := by
  rw [Lib.size_eq]
  exact h
section
variable {H : Type} {enc : TypeId × Value → H} {W : World}
set_option maxRecDepth 100000 in
theorem open_conc {fuel : Nat} {cs : List Value} {x : DataW H × List MemPlace} (hl : cs.length = 5) (hf : DataW.trod enc Try.prog W 0 (fun _ => true) true fuel 25 cs = some x) :
    ∃ X : Cs, cs = gC X ∧ X.qu.size ≤ 9223372036854775807 := by
  obtain ⟨ys, n, _, hx, _, hyl, hfld⟩ := DataW.trod_struct Try.underlying25 hf
  match cs, hl with
  | [c0, c1, c2, c3, c4], _ =>
    match ys, hyl with
    | [y0, y1, y2, y3, y4], _ =>
      have g0 := hfld 0 _ rfl
      have g1 := hfld 1 _ rfl
      have g2 := hfld 2 _ rfl
      have g3 := hfld 3 _ rfl
      have g4 := hfld 4 _ rfl
      simp [cellsI64, cellsStr] at g0 g1 g2 g3 g4
      obtain ⟨v0, e0, _, _⟩ := DataW.trod_int Try.underlying3 (show DataW.trod enc Try.prog W 0 (fun _ => true) true n 3 [c0] = some y0 from g0)
      obtain ⟨v1, e1, _, _⟩ := DataW.trod_int Try.underlying3 (show DataW.trod enc Try.prog W 0 (fun _ => true) true n 3 [c1] = some y1 from g1)
      obtain ⟨v2, e2, _, z2⟩ := DataW.trod_string Try.underlying9 (show DataW.trod enc Try.prog W 0 (fun _ => true) true n 9 [c2] = some y2 from g2)
      obtain ⟨v3, e3, _, _⟩ := DataW.trod_int Try.underlying3 (show DataW.trod enc Try.prog W 0 (fun _ => true) true n 3 [c3] = some y3 from g3)
      obtain ⟨v4, e4, _, _⟩ := DataW.trod_int Try.underlying3 (show DataW.trod enc Try.prog W 0 (fun _ => true) true n 3 [c4] = some y4 from g4)
      simp only [List.cons.injEq, and_true] at e0 e1 e2 e3 e4
      subst e0 e1 e2 e3 e4 hx
      exact ⟨⟨v0, v1, v2, v3, v4⟩, rfl, len_max63 z2⟩
set_option maxRecDepth 100000 in
theorem open_con {r : Reach} {b0 : Nat} {v : Value} {d : DataW H} {p : List MemPlace} (hv : Value.okWide Try.prog W r b0 25 v)
    (h : DataW.Trod enc Try.prog W 0 (fun _ => true) true 25 v d p) : ∃ X : Cs, v = csV X ∧ X.qu.size ≤ 9223372036854775807 := by
  obtain ⟨cs, rfl, hsz⟩ := okWide_struct Try.underlying25 hv
  obtain ⟨fuel, hf⟩ := h
  obtain ⟨l⟩ := cs
  have hl : l.length = 5 := by have := hsz.trans cellsCon; simpa using this
  obtain ⟨X, e, hz⟩ := open_conc hl hf
  have e' : l = gC X := e
  subst e'
  exact ⟨X, rfl, hz⟩
set_option maxRecDepth 100000 in
theorem open_fopc {fuel : Nat} {cs : List Value} {x : DataW H × List MemPlace} (hl : cs.length = 7) (hf : DataW.trod enc Try.prog W 0 (fun _ => true) true fuel 35 cs = some x) :
    ∃ X : FOp, cs = gO X ∧ X.c.qu.size ≤ 9223372036854775807 := by
  obtain ⟨ys, n, _, hx, _, hyl, hfld⟩ := DataW.trod_struct Try.underlying35 hf
  match cs, hl with
  | [c0, c1, c2, c3, c4, c5, c6], _ =>
    match ys, hyl with
    | [y0, y1, y2], _ =>
      have g0 := hfld 0 _ rfl
      have g1 := hfld 1 _ rfl
      have g2 := hfld 2 _ rfl
      simp [cellsI64, cellsCon] at g0 g1 g2
      obtain ⟨v0, e0, _, _⟩ := DataW.trod_int Try.underlying3 (show DataW.trod enc Try.prog W 0 (fun _ => true) true n 3 [c0] = some y0 from g0)
      obtain ⟨v1, e1, _, _⟩ := DataW.trod_int Try.underlying3 (show DataW.trod enc Try.prog W 0 (fun _ => true) true n 3 [c1] = some y1 from g1)
      obtain ⟨X, e2, z2⟩ := open_conc (cs := [c2, c3, c4, c5, c6]) rfl (show DataW.trod enc Try.prog W 0 (fun _ => true) true n 25 [c2, c3, c4, c5, c6] = some y2 from g2)
      simp only [List.cons.injEq, and_true] at e0 e1
      subst e0 e1 hx
      refine ⟨⟨v0, v1, X⟩, ?_, z2⟩
      unfold gO
      rw [← e2]
/-- a list that came in, each element k cells -/
theorem open_listk {α : Type} {g : α → List Value} {k : Nat} {t e : TypeId} {PW : α → Prop} (hk0 : 0 < k) (hg : ∀ x, (g x).length = k) (z : α) (hu : Try.prog.underlying t = some (.slice e)) (hce : Try.prog.cellsOf e = k)
    (hop : ∀ {fuel : Nat} {cs : List Value} {x : DataW H × List MemPlace}, cs.length = k → DataW.trod enc Try.prog W 0 (fun _ => true) true fuel e cs = some x → ∃ X : α, cs = g X ∧ PW X)
    {fuel : Nat} {a0 : Option Addr} {len cap : Nat} {x : DataW H × List MemPlace} (hf : DataW.trod enc Try.prog W 0 (fun _ => true) true fuel t [.slice a0 len cap] = some x) :
    ∃ Xs : List α, Xs.length = len ∧ GL g k W W.heap.size a0 Xs ∧ len ≤ cap ∧ ∀ X ∈ Xs, PW X := by
  rcases open_slice hu hf with ⟨hcs, _⟩ | ⟨a, len', cap', m, n, D, Pl, hcs, _, hl, _, hmm, hx, hi⟩
  · simp at hcs
    obtain ⟨rfl, rfl, rfl⟩ := hcs
    exact ⟨[], rfl, GL.nil _ _ _, Nat.le_refl _, (fun _ h => by cases h)⟩
  · simp at hcs
    obtain ⟨rfl, rfl, rfl⟩ := hcs
    simp only [if_true] at hmm
    have each : ∀ i : Nat, ∃ X : α, i < len → (∀ j u, (g X)[j]? = some u → W.cell? (a.add (i * k + j)) = some u) ∧ PW X := fun i => by
      by_cases h : i < len
      · obtain ⟨cs', hc, ht⟩ := hi i (by omega)
        rw [hce] at hc
        obtain ⟨_, hl4, hat⟩ := World.cells?_some hc
        obtain ⟨X, rfl, hz⟩ := hop hl4 ht
        refine ⟨X, fun _ => ⟨fun j u hj => ?_, hz⟩⟩
        have hj3 : j < k := by rw [← hg X]; exact (List.getElem?_eq_some_iff.1 hj).1
        rw [← Go.Deep.add_add, hat j hj3]
        exact hj
      · exact ⟨z, fun h' => absurd h' h⟩
    refine ⟨(List.range len).map fun i => Classical.choose (each i), by simp, fun h0 => ?_, hl, fun X hX => ?_⟩
    · simp at h0
      obtain ⟨u0, hu0⟩ : ∃ u, (g (Classical.choose (each 0)))[0]? = some u := ⟨_, List.getElem?_eq_getElem (by rw [hg]; exact hk0)⟩
      obtain ⟨b, o, rfl, hb⟩ := plain_addr (show W.cell? (a.add 0) = some _ from by
        have := (Classical.choose_spec (each 0) (by omega)).1 0 _ hu0
        rwa [Nat.zero_mul] at this)
      refine ⟨b, o, rfl, hb, fun j X i v hX hv => ?_⟩
      rw [List.getElem?_map] at hX
      have hj : j < len := by
        rcases Nat.lt_or_ge j len with h | h
        · exact h
        · rw [List.getElem?_eq_none (by simpa using h)] at hX; cases hX
      rw [List.getElem?_range hj] at hX
      obtain rfl := Option.some.inj hX
      rw [Nat.add_assoc, add_plain]
      exact (Classical.choose_spec (each j) hj).1 i v hv
    · obtain ⟨i, hi', rfl⟩ := List.mem_map.1 hX
      exact (Classical.choose_spec (each i) (List.mem_range.1 hi')).2
theorem open_cons {fuel : Nat} {a0 : Option Addr} {len cap : Nat} {x : DataW H × List MemPlace} (hf : DataW.trod enc Try.prog W 0 (fun _ => true) true fuel 22 [.slice a0 len cap] = some x) :
    ∃ Xs : List Cs, Xs.length = len ∧ CsL W W.heap.size a0 Xs ∧ len ≤ cap ∧ ∀ X ∈ Xs, X.qu.size ≤ 9223372036854775807 :=
  open_listk (by decide) gC_len Cs.zero Try.underlying22 cellsCon (fun hl ht => open_conc hl ht) hf
theorem open_fops {fuel : Nat} {a0 : Option Addr} {len cap : Nat} {x : DataW H × List MemPlace} (hf : DataW.trod enc Try.prog W 0 (fun _ => true) true fuel 33 [.slice a0 len cap] = some x) :
    ∃ Xs : List FOp, Xs.length = len ∧ OpL W W.heap.size a0 Xs ∧ len ≤ cap ∧ ∀ X ∈ Xs, X.c.qu.size ≤ 9223372036854775807 :=
  open_listk (by decide) gO_len FOp.zero Try.underlying33 cellsFOp (fun hl ht => open_fopc hl ht) hf
end
end Go.Proofs.Ytjkhfifnfgchgaa
