/-
  What the specification's Round of credits answers. Conditions: few credits, all valid.
-/
import Derived.Test.YtomlideijhejfabFlC
import Derived.Test.YtomlideijhejfabIdA
import Derived.Laws.MakeOwn
namespace Go.Proofs.Ytomlideijhejfab
open Go.RowKit

theorem infoCr : (Try.prog.info? 23).map (fun i => (i.zero, i.size, i.bytes)) = some (some (.agg #[.int .i64 0, .int .i64 0]), 2, 16) := by kernel_rfl
theorem infoI : (Try.prog.info? 3).map (fun i => (i.zero, i.size, i.bytes)) = some (some (.int .i64 0), 1, 8) := by kernel_rfl
theorem gC_len (x : Int × Int) : (gC x).length = 2 := rfl
theorem gC_one (x : Int × Int) : ∀ u ∈ gC x, u.oneCell' = true := fun u hu => by
  rcases List.mem_cons.1 hu with rfl | hu
  · rfl
  · obtain rfl := List.mem_singleton.1 hu
    rfl
/-- a list of credits in a block of its own -/
def RowC (w : World) (g : Nat) (m : List (Int × Int)) : Prop := ∃ vs, BK 23 w g vs ∧ vs.take (m.length * 2) = m.flatMap gC
theorem flat_set (m : List (Int × Int)) : ∀ (i : Nat) (x : Int × Int), i < m.length → ((m.flatMap gC).set (i * 2) (.int .i64 x.1)).set (i * 2 + 1) (.int .i64 x.2) = (m.set i x).flatMap gC := by
  induction m with
  | nil => intro i x h; simp at h
  | cons y ys ih =>
    intro i x h
    cases i with
    | zero => rfl
    | succ i =>
      have := ih i x (by simpa using h)
      rw [List.set_cons_succ, List.flatMap_cons, List.flatMap_cons, ← this]
      have e1 : (i + 1) * 2 = i * 2 + 1 + 1 := by omega
      rw [e1]
      rfl
theorem RowC.row {w : World} {g : Nat} {m : List (Int × Int)} (h : RowC w g m) : CrL w w.heap.size (some ⟨g, 0, none⟩) m := fun hn => by
  obtain ⟨vs, hb, ht⟩ := h
  refine ⟨g, 0, rfl, hb.lt, fun j x i v hx hv => ?_⟩
  have hi : i < 2 := by have := (List.getElem?_eq_some_iff.1 hv).1; simpa [gC] using this
  have hj : j < m.length := (List.getElem?_eq_some_iff.1 hx).1
  have h2 := flat_at gC_len m j x i hx hi
  rw [← ht, List.getElem?_take_of_lt (by omega)] at h2
  rw [Nat.zero_add]
  exact hb.cell _ (h2.trans hv)
theorem RowC.step {w w' : World} {g : Nat} {m : List (Int × Int)} (h : RowC w g m) (hb : Below w.heap.size w w') : RowC w' g m := by
  obtain ⟨vs, h1, h2⟩ := h
  exact ⟨vs, h1.step hb, h2⟩
theorem RowC.lt {w : World} {g : Nat} {m : List (Int × Int)} (h : RowC w g m) : g < w.heap.size := by
  obtain ⟨vs, h1, _⟩ := h
  exact h1.lt
theorem RowC.free {w : World} {g : Nat} {m : List (Int × Int)} (h : RowC w g m) (j : Nat) : w.frozen? ⟨g, j, none⟩ = false := by
  obtain ⟨vs, h1, _⟩ := h
  exact h1.free j
theorem RowC.cells {w : World} {g : Nat} {m : List (Int × Int)} (h : RowC w g m) {i : Nat} {x : Int × Int} (hx : m[i]? = some x) : w.cell? ⟨g, i * 2, none⟩ = some (.int .i64 x.1) ∧ w.cell? ⟨g, i * 2 + 1, none⟩ = some (.int .i64 x.2) := by
  obtain ⟨b, o, e, _, k0, k1⟩ := CrL.at_ h.row hx
  simp only [Option.some.injEq, Addr.mk.injEq, and_true] at e
  obtain ⟨rfl, rfl⟩ := e
  rw [Nat.zero_add] at k0 k1
  exact ⟨k0, k1⟩
theorem RowC.set {w : World} {g : Nat} {m : List (Int × Int)} (h : RowC w g m) {i : Nat} (hi : i < m.length) (x : Int × Int) : RowC ((w.setCell ⟨g, i * 2, none⟩ (.int .i64 x.1)).setCell ⟨g, i * 2 + 1, none⟩ (.int .i64 x.2)) g (m.set i x) := by
  obtain ⟨vs, h1, h2⟩ := h
  refine ⟨_, (h1.set (i * 2) _).set (i * 2 + 1) _, ?_⟩
  rw [List.length_set, List.take_set, List.take_set, h2, flat_set m i x hi]
theorem RowC.other {w : World} {g : Nat} {m : List (Int × Int)} (h : RowC w g m) {p : Addr} (hp : g ≠ p.block) (u : Value) : RowC (w.setCell p u) g m := by
  obtain ⟨vs, h1, h2⟩ := h
  exact ⟨vs, h1.other hp u, h2⟩
theorem RowC.alloc {w : World} {g : Nat} {m : List (Int × Int)} (h : RowC w g m) (o : Obj) : RowC (w.alloc o) g m := by
  obtain ⟨vs, h1, h2⟩ := h
  exact ⟨vs, h1.alloc o, h2⟩
/-- what append leaves is such a row -/
theorem rowC_own {w : World} {B : Nat} {v : Value} {m : List (Int × Int)} (h : OwnG 23 gC 2 w B v m) (hm : 0 < m.length) : ∃ g c, v = .slice (some ⟨g, 0, none⟩) m.length c ∧ B ≤ g ∧ RowC w g m := by
  unfold OwnG at h
  rcases h.2 with ⟨rfl, hn⟩ | ⟨q, cap, cur, rfl, hb, hq, hnc, hcm, hcs, htake⟩
  · omega
  · exact ⟨q, cap, rfl, hb, cur.toList, hq, htake⟩
/-- numbers in a block of their own -/
theorem il_block {w : World} {g : Nat} {X : List Int} (h : BK 3 w g (X.map iv)) : IL w w.heap.size (some ⟨g, 0, none⟩) X := fun hn => by
  refine ⟨g, 0, rfl, h.lt, fun j x hx => ?_⟩
  rw [Nat.zero_add]
  exact h.cell j (by rw [List.getElem?_map, hx]; rfl)
theorem wpList_appC {ops : Array Oper} {rest : List Oper} {o : Oper} {a : Act} {Q : Exit → Act → World → Prop} (wr : World) (hgd : o.guard = none) (s x : Operand) (ho : o.op = .call { callee := .builtin .append, args := #[s, x], argTypes := #[33, 33] })
    (B : Nat) (v : Value) (xs ys : List (Int × Int)) (hs : a.eval s = v) (hown : OwnG 23 gC 2 wr B v xs) (A2 : Option Addr) (c2 : Nat) (hx : a.eval x = .slice A2 ys.length c2) (B2 : Nat) (hys : CrL wr B2 A2 ys) (w0 : World) (hb : Below B w0 wr) (hB : B ≤ wr.heap.size)
    (hn : xs.length + ys.length ≤ 1099511627776) (h : ∀ v' w', OwnG 23 gC 2 w' B v' (xs ++ ys) → Below B w0 w' → B ≤ w'.heap.size → wpList Try.prog ops Q rest (a.put o.dst v') w') : wpList Try.prog ops Q (o :: rest) a wr :=
  wpList_appG (by decide) wr hgd s x 33 33 ho (.agg #[.int .i64 0, .int .i64 0]) 16 Try.underlying33 infoCr rfl (by decide) B v xs ys hs hown _ hx (hys.src gC_len gC_one Try.underlying33 c2) w0 hb hB (by omega) h
theorem make_ints (n : Nat) (hn : n ≤ 1000000) (w : World) : (Instr.makeSlice 38 (.int .i64 (n : Int)) (.int .i64 (n : Int))).run Try.prog w =
      .ok (.slice (some ⟨w.heap.size, 0, none⟩) n n) (w.alloc (.cells (((List.replicate n (0 : Int)).map iv).toArray) 3)) := by
  obtain ⟨i, hi, hz, hz1, hz2⟩ := info_parts infoI
  have hr := run_make (P := Try.prog) w 38 3 i (.int .i64 0) Try.underlying38 hi hz .i64 .i64 (n : Int) (n : Int) (by omega) (by omega) (by rw [hz2]; omega) (by omega)
  have e1 : ((n : Int)).toNat = n := by omega
  rw [e1] at hr
  rw [hr]
  have : madeCells (Value.int .i64 0).cells (n * i.size) = ((List.replicate n (0 : Int)).map iv).toArray := by
    rw [hz1, Nat.mul_one, List.map_replicate]
    apply Array.ext
    · simp [madeCells]
    · intro j h1 h2
      simp [madeCells, iv, Value.cells, Nat.mod_one]
  rw [this]
/-- lists of units and the last index that a call answers -/
def RetRd (r : List Int × Int) (W : World) (e : Ending) (w' : World) : Prop :=
  ∃ A c, e = .returned (.tuple #[.slice A r.1.length c, .int .i64 r.2]) ∧ r.1.length ≤ c ∧ IL w' w'.heap.size A r.1 ∧ Below W.heap.size W w'
end Go.Proofs.Ytomlideijhejfab
