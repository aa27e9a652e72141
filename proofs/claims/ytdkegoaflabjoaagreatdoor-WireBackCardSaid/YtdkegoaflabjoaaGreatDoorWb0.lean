/-
Lists of packets that a call builds for itself; the joint form, read step by step. Conditions: those named.
-/
import Derived.Test.YtdkegoaflabjoaaGreatDoorKl
import Derived.Test.YtdkegoaflabjoaaGreatDoorRd
import Derived.Test.YtdkegoaflabjoaaGreatDoorWireA
import Derived.Lib.ConvBytes
set_option maxHeartbeats 400000
namespace Go.Proofs.YtdkegoaflabjoaaGreatDoor
open Go.RowKit

theorem infoPk : (Tryz.prog.info? 38).map (fun i => (i.zero, i.size, i.bytes)) = some (some (.agg (pkC Pkt.zero PA.zero).toArray), 34, 416) := by kernel_rfl
theorem below_bytes (w : World) (e : TypeId) (s : ByteArray) : Below w.heap.size w (Lib.bytesWorld w e s) := ⟨rfl, rfl, rfl, by rw [Lib.bytesWorld_size]; omega, fun k hk => Lib.bytesWorld_at_old w e s k hk⟩
/-- the bytes of a string, in a block of their own -/
theorem conv_bytes (s : ByteArray) (w : World) : ∃ c w', (convert 9 25 (.string s)).run Tryz.prog w = .ok (.slice (some ⟨w.heap.size, 0, none⟩) (dl s).length c) w' ∧ CL bv w' w'.heap.size (some ⟨w.heap.size, 0, none⟩) (dl s) ∧ (dl s).length ≤ c ∧ Below w.heap.size w w' := by
 have h := Lib.run_convert_string_bytes (P := Tryz.prog) w 9 25 5 s Tryz.underlying9 Tryz.underlying25 Tryz.underlying5
 refine ⟨grownCap w s.size 0 5, _, by rw [← size_dl]; exact h, fun _ => ⟨w.heap.size, 0, rfl, by rw [Lib.bytesWorld_size]; omega, fun j x hx => ?_⟩, by rw [← size_dl]; exact grownCap_ge w s.size 0 _, below_bytes w _ s⟩
 have hj : j < s.size := by rw [size_dl]; exact (List.getElem?_eq_some_iff.1 hx).1
 rw [Nat.zero_add, Lib.bytesWorld_cell w _ s j hj]
 have e : s.data.toList.getD j 0 = x := by rw [List.getD_eq_getElem?_getD]; unfold dl at hx; rw [hx]; rfl
 rw [e]
 rfl

/-- a list of packets that a call builds for itself; the packets' own lists lie in other blocks -/
def KOwn (w : World) (B : Nat) (v : Value) (xs : List (Pkt × PA)) : Prop :=
 OwnG 38 gK 34 w B v xs ∧ ∀ x ∈ xs, ∃ lo hi, PInN w lo hi x.1 x.2 ∧ hi ≤ w.heap.size ∧ ∀ g, v.ownBlock = some g → g < lo ∨ hi ≤ g
theorem KOwn.nil (w : World) (B : Nat) : KOwn w B (.slice none 0 0) [] := ⟨OwnG.nil _ _, fun x hx => (by cases hx)⟩
theorem KOwn.step {w w' : World} {B : Nat} {v : Value} {xs : List (Pkt × PA)} (h : KOwn w B v xs) (hb : Below w.heap.size w w') : KOwn w' B v xs :=
 ⟨h.1.step hb, fun x hx => by
   obtain ⟨lo, hi, h1, h2, h3⟩ := h.2 x hx
   exact ⟨lo, hi, h1.keep (fun q _ hq => hb.block q (by omega)), Nat.le_trans h2 hb.size, h3⟩⟩
theorem KOwn.app {w w' : World} {B : Nat} {v v' : Value} {xs : List (Pkt × PA)} {y : Pkt × PA} {o : Obj} (h : KOwn w B v xs) {lo hi : Nat} (hy : PInN w lo hi y.1 y.2) (hh : hi ≤ w.heap.size) (hg : ∀ g, v.ownBlock = some g → g < lo ∨ hi ≤ g)
 (ho : OwnG 38 gK 34 w' B v' (xs ++ [y])) (hgr : (w.alloc o).grownBy w' v.ownBlock) (hv : v'.ownBlock = v.ownBlock ∨ v'.ownBlock = some (w.heap.size + 1)) : KOwn w' B v' (xs ++ [y]) := by
 have hs : (w.alloc o).heap.size = w.heap.size + 1 := by simp
 have key : ∀ (x : Pkt × PA) (lo hi : Nat), PInN w lo hi x.1 x.2 → hi ≤ w.heap.size → (∀ g, v.ownBlock = some g → g < lo ∨ hi ≤ g) → ∃ lo hi, PInN w' lo hi x.1 x.2 ∧ hi ≤ w'.heap.size ∧ ∀ g, v'.ownBlock = some g → g < lo ∨ hi ≤ g := by
  intro x lo hi h1 h2 h3
  refine ⟨lo, hi, h1.keep (fun q hq1 hq2 => ?_), by have := hgr.size; omega, fun g hg => ?_⟩
  · have hne : some q ≠ v.ownBlock := fun e => by
     rcases h3 q e.symm with h | h <;> omega
    exact (hgr.block q (by omega) hne).trans (heap_alloc_old w o (by omega))
  · rcases hv with hv | hv
    · rw [hv] at hg; exact h3 g hg
    · rw [hv] at hg; injection hg with hg; right; omega
 refine ⟨ho, fun x hx => ?_⟩
 rcases List.mem_append.1 hx with hx | hx
 · obtain ⟨lo', hi', h1, h2, h3⟩ := h.2 x hx
   exact key x lo' hi' h1 h2 h3
 · rw [List.mem_singleton] at hx
   subst hx
   exact key x lo hi hy hh hg
theorem KOwn.ret {w : World} {B : Nat} {v : Value} {xs : List (Pkt × PA)} (h : KOwn w B v xs) : ∃ A c, v = .slice A xs.length c ∧ xs.length ≤ c ∧ KL w w.heap.size A xs := by
 obtain ⟨A, c, e, hc, hg⟩ := h.1.ret gK_len
 refine ⟨A, c, e, hc, hg, fun x hx => ?_⟩
 obtain ⟨lo, hi, h1, h2, _⟩ := h.2 x hx
 exact (h1.more h2).1
theorem KOwn.block {w : World} {B : Nat} {v : Value} {xs : List (Pkt × PA)} (h : KOwn w B v xs) : ∀ g, v.ownBlock = some g → g < w.heap.size := fun g hg => (World.ownsRow.lt h.1 g hg).2
/-- append of one packet that was just laid in a block of its own -/
theorem wpList_appKL {ops : Array Oper} {rest : List Oper} {o : Oper} {a : Act} {Q : Exit → Act → World → Prop} (wr : World) (hgd : o.guard = none) (s x : Operand) (ho : o.op = .call { callee := .builtin .append, args := #[s, x], argTypes := #[22, 22] })
 (B : Nat) (v : Value) (xs : List (Pkt × PA)) (y : Pkt × PA) (hown : OwnG 38 gK 34 wr B v xs) (hs : a.eval s = v) (hx : a.eval x = .slice (some ⟨wr.heap.size, 0, none⟩) 1 1) (hB : B ≤ wr.heap.size) (hn : xs.length ≤ 1000000)
 (h : ∀ v' w', OwnG 38 gK 34 w' B v' (xs ++ [y]) → (wr.alloc (.cells (pkC y.1 y.2).toArray 38)).grownBy w' v.ownBlock → (v'.ownBlock = v.ownBlock ∨ v'.ownBlock = some (wr.heap.size + 1)) → wpList Tryz.prog ops Q rest (a.put o.dst v') w') :
 wpList Tryz.prog ops Q (o :: rest) a (wr.alloc (.cells (pkC y.1 y.2).toArray 38)) :=
 wpList_plain hgd fun _ hK => by
  obtain ⟨i, hi, hz, hz1, hz2⟩ := info_parts infoPk
  have hsz : (wr.alloc (.cells (pkC y.1 y.2).toArray 38)).heap.size = wr.heap.size + 1 := by simp
  obtain ⟨v', w', hr, h2, h3, h4⟩ := run_append_where (P := Tryz.prog) (wr.alloc (.cells (pkC y.1 y.2).toArray 38)) B 22 22 o.type 38 i (.agg (pkC Pkt.zero PA.zero).toArray) 34 416 Tryz.underlying22 hi hz hz1 hz2 rfl (by decide) v xs.length (xs.flatMap gK) (hown.alloc _) _ 1 ([y].flatMap gK)
   (srcG_one (g := gK) gK_len gK_one Tryz.underlying22 wr y) (by unfold maxLen; omega) (by omega) (by omega)
  unfold Oper.wp execOp
  simp only [ho, resolve, invoke, builtin, Sem.run_bind, Sem.run_pure, Result.andThen_ok, List.map_toArray, List.map_cons, List.map_nil, hs, hx, hr]
  refine hK _ _ (h v' w' ?_ h3 (by rw [hsz] at h4; exact h4))
  unfold OwnG
  simpa [List.flatMap_append] using h2

theorem fold_set : ∀ (cs : List Value) (k : Nat) (b : Array Value), ((cs.zipIdx k).foldl (fun b x => b.setIfInBounds x.2 x.1) b).size = b.size ∧ ∀ i, ((cs.zipIdx k).foldl (fun b x => b.setIfInBounds x.2 x.1) b)[i]? = if k ≤ i ∧ i < k + cs.length ∧ i < b.size then cs[i - k]? else b[i]? := by
 intro cs
 induction cs with
 | nil => intro k b; simp; intro i h1 h2; omega
 | cons c cs ih =>
   intro k b
   rw [List.zipIdx_cons, List.foldl_cons]
   obtain ⟨h1, h2⟩ := ih (k + 1) (b.setIfInBounds k c)
   dsimp only at h1 h2 ⊢
   refine ⟨by rw [h1]; simp, fun i => ?_⟩
   rw [h2]
   simp only [Array.size_setIfInBounds, List.length_cons]
   by_cases hi : i = k
   · subst hi
     rw [if_neg (by omega)]
     by_cases hb : i < b.size
     · rw [if_pos (by omega)]; simp [hb]
     · rw [if_neg (by omega)]; simp [hb]
   · by_cases hk : k + 1 ≤ i ∧ i < k + 1 + cs.length ∧ i < b.size
     · rw [if_pos hk, if_pos (by omega)]
       have e : i - k = (i - (k + 1)) + 1 := by omega
       rw [e, List.getElem?_cons_succ]
     · rw [if_neg hk, if_neg (by omega), Array.getElem?_setIfInBounds]
       rw [if_neg (fun e => hi e.symm)]
theorem bsl_fill (n : Nat) (base : Array Value) (cs : List Value) (h : base.size = n) (hv : cs.length = n) : Instr.fill (fun i => some (i * n, n)) base [(0, .agg cs.toArray)] = some cs.toArray := by
 have hc : (Value.agg cs.toArray).cells = cs.toArray := rfl
 obtain ⟨h1, h2⟩ := fold_set cs 0 base
 simp only [Instr.fill, hc, List.size_toArray, hv, Nat.zero_mul, Nat.zero_add, h]
 rw [if_neg (by simp)]
 congr 1
 rw [← Array.foldl_toList]
 simp only [Array.toList_zipIdx]
 apply Array.ext_getElem?
 intro i
 rw [h2]
 simp only [List.getElem?_toArray, Nat.sub_zero]
 by_cases hi : i < cs.length
 · rw [if_pos (by omega)]
 · rw [if_neg (by omega), List.getElem?_eq_none (by omega), Array.getElem?_eq_none (by omega)]
theorem bsl (y : Pkt) (a : PA) (w : World) : (Instr.buildSlice 22 1 #[(0, .agg (pkC y a).toArray)]).run Tryz.prog w = .ok (.slice (some ⟨w.heap.size, 0, none⟩) 1 1) (w.alloc (.cells (pkC y a).toArray 38)) := by
 obtain ⟨i, hi, hz, hz1, hz2⟩ := info_parts infoPk
 have hf := fun base h => bsl_fill 34 base (pkC y a) h rfl
 unfold Instr.buildSlice
 simp [run_underlying Tryz.underlying22, sizeOf, typeInfo, hi, hz1, zeroValue, hz]
 rw [hf _ (by simp)]
 simp [go_sem]

theorem wpList_valW {P : Program} {ops : Array Oper} {rest : List Oper} {o : Oper} {a : Act} {w w' : World} {Q : Exit → Act → World → Prop} (hgd : Region.wanted o (yielded ops a.tmps) = true) (v : Value) (hr : (execOp a.eval o).run P w = .ok (.value v) w')
 (h : wpList P ops Q rest (a.put o.dst v) w') : wpList P ops Q (o :: rest) a w :=
 wpList_wanted hgd fun _ hK => by
  unfold Oper.wp
  rw [hr]
  exact hK _ _ h
theorem exec_bsl {o : Oper} {ev : Operand → Value} {w : World} (x : Operand) (ho : o.op = .buildSlice 22 1 #[(0, x)]) (y : Pkt) (a : PA) (hx : ev x = .agg (pkC y a).toArray) : (execOp ev o).run Tryz.prog w = .ok (.value (.slice (some ⟨w.heap.size, 0, none⟩) 1 1)) (w.alloc (.cells (pkC y a).toArray 38)) := by
 have h := bsl y a w
 unfold execOp
 simp only [ho, List.map_toArray, List.map_cons, List.map_nil, hx, Sem.run_bind, h, Sem.run_pure, Result.andThen_ok]

theorem decAllF_end {l : List UInt8} {f k : Nat} {acc : List Pkt} (h : ¬ k < l.length) : decAllF f l k acc = (acc, 0) := by
 cases f with
 | zero => rfl
 | succ f => rw [decAllF, if_neg h]
theorem decAllF_err {l : List UInt8} {f k : Nat} {acc : List Pkt} {s : ByteArray} {nx ec : Int} (hk : k < l.length) (hf : l.length < f + k) (h : textR l k 4096 = (s, nx, ec)) (he : ec ≠ 0) : decAllF f l k acc = ([], ec) := by
 cases f with
 | zero => omega
 | succ f => rw [decAllF, if_pos hk, h, if_pos he]
theorem decAllF_bad {l : List UInt8} {f k : Nat} {acc : List Pkt} {s : ByteArray} {nx : Int} {y : Pkt} {z : Int} (hk : k < l.length) (hf : l.length < f + k) (h : textR l k 4096 = (s, nx, 0)) (hd : decodeR (dl s) = (y, z)) (hz : z ≠ 0) : decAllF f l k acc = ([], z) := by
 cases f with
 | zero => omega
 | succ f => rw [decAllF, if_pos hk, h, if_neg (by simp), hd, if_pos hz]
theorem decAllF_more {l : List UInt8} {f k n : Nat} {acc : List Pkt} {s : ByteArray} {y : Pkt} (hk : k < l.length) (hf : l.length < f + k) (h : textR l k 4096 = (s, (n : Int), 0)) (hd : decodeR (dl s) = (y, 0)) : ∃ f', f = f' + 1 ∧ decAllF f l k acc = decAllF f' l n (acc ++ [y]) := by
 cases f with
 | zero => omega
 | succ f => exact ⟨f, rfl, by rw [decAllF, if_pos hk, h, if_neg (by simp), hd, if_neg (by simp)]; simp⟩

/-- the packets and the error -/
def RetK (r : List Pkt × Int) (w : World) (e : Ending) (w' : World) : Prop := ∃ (A : Option Addr) (c : Nat) (xs : List (Pkt × PA)), xs.map Prod.fst = r.1 ∧ e = .returned (.tuple #[.slice A xs.length c, .int .i64 r.2]) ∧ KL w' w'.heap.size A xs ∧ xs.length ≤ c ∧ Below w.heap.size w w'

end Go.Proofs.YtdkegoaflabjoaaGreatDoor
