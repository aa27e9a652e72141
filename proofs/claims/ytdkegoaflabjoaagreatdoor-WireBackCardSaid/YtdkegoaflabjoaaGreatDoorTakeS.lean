/-
Reading a message field by field as the program does it: as plain data, and that it yields what the specification's reading yields. No function of the program is walked here.
What the methods of both readers answer, and what they leave in their block. Conditions: the bytes read as data; so many bytes fit a slice.
What reading a message yields, and what it leaves in its reader's block. Conditions: the bytes read as data; so many bytes fit a slice.
What reading a message yields, and what it leaves in its reader's block: the specification's. Conditions: the bytes read as data; so many bytes fit a slice.
-/
import Derived.Test.YtdkegoaflabjoaaGreatDoorCheck
import Derived.Test.YtdkegoaflabjoaaGreatDoorBack3
import Derived.Test.YtdkegoaflabjoaaGreatDoorSetR
import Derived.BigQuiet
import Derived.Deep.QuietTactic
import Derived.Deep.RegionHeld3
set_option maxHeartbeats 16000000
set_option maxRecDepth 50000
namespace Go.Proofs.YtdkegoaflabjoaaGreatDoor
open Go.RowKit

def Fit (x : Int) : Prop := -9223372036854775808 ≤ x ∧ x ≤ 9223372036854775807
theorem fit0 : Fit 0 := ⟨by decide, by decide⟩
theorem numR_fit {l : List UInt8} (hn : l.length ≤ 140737488355328) (p : Int) : Fit (numR l p).2.1 ∧ Fit (numR l p).1 := by
 generalize hr : numR l p = r
 obtain ⟨n, nx, e⟩ := r
 by_cases he : e = 0
 · subst he
   obtain ⟨k, j, _, rfl, _, _, h5, h6, h7, _⟩ := numR_ok hr
   exact ⟨⟨by dsimp only; omega, by dsimp only; omega⟩, h6, h7⟩
 · obtain ⟨rfl, rfl, _, _⟩ := numR_bad hr he
   exact ⟨fit0, fit0⟩
theorem textR_fit {l : List UInt8} (hn : l.length ≤ 140737488355328) (p limit : Int) : Fit (textR l p limit).2.1 ∧ (textR l p limit).1.size ≤ l.length := by
 unfold textR
 generalize hr : countR l p limit = r
 obtain ⟨n, nx, e⟩ := r
 dsimp only
 by_cases he : e = 0
 · subst he
   obtain ⟨k, j, m, _, rfl, rfl, _, _, _, h5, _, _⟩ := countR_ok hr
   rw [if_neg (by decide)]
   split
   · exact ⟨fit0, Nat.zero_le _⟩
   · refine ⟨⟨by dsimp only; omega, by dsimp only; omega⟩, ?_⟩
     rw [size_bs, List.length_take, List.length_drop]
     omega
 · rw [if_pos he]
   exact ⟨fit0, Nat.zero_le _⟩
end Go.Proofs.YtdkegoaflabjoaaGreatDoor
namespace Go.Proofs.YtdkegoaflabjoaaGreatDoor
open Go.RowKit

/-- a reader's block: the bytes, the place, the error -/
def RD (T : TypeId) (w : World) (R : Nat) (A : Option Addr) (c : Nat) (l : List UInt8) (st : Int × Int) : Prop :=
 w.heap[R]? = some (.cells #[.slice A l.length c, .int .i64 st.1, .int .i64 st.2] T (0, 0)) ∧ Fit st.1
section
variable {T : TypeId} {w w' : World} {R : Nat} {A : Option Addr} {c : Nat} {l : List UInt8} {st : Int × Int}
theorem RD.k0 (h : RD T w R A c l st) : w.cell? ⟨R, 0, none⟩ = some (.slice A l.length c) := by rw [cells_at h.1]; rfl
theorem RD.k1 (h : RD T w R A c l st) : w.cell? ⟨R, 1, none⟩ = some (.int .i64 st.1) := by rw [cells_at h.1]; rfl
theorem RD.k2 (h : RD T w R A c l st) : w.cell? ⟨R, 2, none⟩ = some (.int .i64 st.2) := by rw [cells_at h.1]; rfl
theorem RD.free (h : RD T w R A c l st) (j : Nat) : w.frozen? ⟨R, j, none⟩ = false := by
 unfold World.frozen?
 simp only [h.1]
 simp
theorem RD.lt (h : RD T w R A c l st) : R < w.heap.size := (Array.getElem?_eq_some_iff.1 h.1).1
theorem RD.set1 (h : RD T w R A c l st) {x : Int} (hx : Fit x) : RD T (w.setCell ⟨R, 1, none⟩ (.int .i64 x)) R A c l (x, st.2) := ⟨heap_setCell_same w R 1 _ T _ h.1, hx⟩
theorem RD.drewN (h : RD T w R A c l st) (n : Nat) : RD T (w.drewN n) R A c l st := h
theorem RD.to (h : RD T w R A c l st) (he : w'.heap[R]? = w.heap[R]?) : RD T w' R A c l st := ⟨he.trans h.1, h.2⟩
end
/-- below the reader's block and in all other old blocks nothing has changed -/
def KR (R : Nat) (w w' : World) : Prop := Below R w w' ∧ ∀ k, k < w.heap.size → k ≠ R → w'.heap[k]? = w.heap[k]?
section
variable {w w1 w2 : World} {R : Nat}
theorem KR.refl (R : Nat) (w : World) : KR R w w := ⟨Below.refl _ _, fun _ _ _ => rfl⟩
theorem KR.trans (h : KR R w w1) (h' : KR R w1 w2) : KR R w w2 := ⟨h.1.trans h'.1, fun k hk hne => (h'.2 k (Nat.lt_of_lt_of_le hk h.1.size) hne).trans (h.2 k hk hne)⟩
theorem KR.drewN (R : Nat) (w : World) (n : Nat) : KR R w (w.drewN n) := ⟨⟨rfl, rfl, rfl, Nat.le_refl _, fun _ _ => rfl⟩, fun _ _ _ => rfl⟩
theorem KR.set (R : Nat) (w : World) (j : Nat) (u : Value) : KR R w (w.setCell ⟨R, j, none⟩ u) := ⟨Below.setCell (p := ⟨R, j, none⟩) (Below.refl R w) (Nat.le_refl R) u, fun k _ hne => heap_setCell_other w ⟨R, j, none⟩ k u hne⟩
theorem KR.of_below (h : Below w.heap.size w w1) (hR : R ≤ w.heap.size) : KR R w w1 := ⟨h.mono hR, fun k hk _ => h.block k hk⟩
theorem KR.base {B : Nat} (h : KR R w w1) (hb : Below B w1 w2) (hB : w.heap.size ≤ B) (hR : R ≤ B) : KR R w w2 := ⟨h.1.trans (hb.mono hR), fun k hk hne => (hb.block k (by omega)).trans (h.2 k hk hne)⟩
theorem KR.size (h : KR R w w1) : w.heap.size ≤ w1.heap.size := h.1.size
end
end Go.Proofs.YtdkegoaflabjoaaGreatDoor
namespace Go.Proofs.YtdkegoaflabjoaaGreatDoor
open Go.RowKit

/-- a message's block -/
def MB (w : World) (M : Nat) (vs : List Value) : Prop := w.heap[M]? = some (.cells vs.toArray 31 (0, 0))
section
variable {w w' : World} {M R : Nat} {vs : List Value}
theorem MB.cell (h : MB w M vs) (j : Nat) : w.cell? ⟨M, j, none⟩ = vs[j]? := by rw [cells_at h]; simp
theorem MB.free (h : MB w M vs) (j : Nat) : w.frozen? ⟨M, j, none⟩ = false := by
 unfold World.frozen?
 simp only [show w.heap[M]? = _ from h]
 simp
theorem MB.set (h : MB w M vs) (j : Nat) (u : Value) : MB (w.setCell ⟨M, j, none⟩ u) M (vs.set j u) := by
 have := heap_setCell_same w M j _ 31 u h
 unfold MB
 rw [this]
 simp
theorem MB.other (h : MB w M vs) {p : Addr} (hp : M ≠ p.block) (u : Value) : MB (w.setCell p u) M vs := (heap_setCell_other w p M u hp).trans h
theorem RD.other {T : TypeId} {A : Option Addr} {c : Nat} {l : List UInt8} {st : Int × Int} (h : RD T w R A c l st) {p : Addr} (hp : R ≠ p.block) (u : Value) : RD T (w.setCell p u) R A c l st := h.to (heap_setCell_other w p R u hp)
theorem KR.setNew {w0 : World} (h : KR R w0 w) {p : Addr} (hp : w0.heap.size ≤ p.block) (hR : R ≤ w0.heap.size) (u : Value) : KR R w0 (w.setCell p u) := h.base (Below.setCell (Below.refl w0.heap.size w) hp u) (Nat.le_refl _) hR
theorem own_set {B : Nat} {v : Value} {xs : List PR} (h : OwnP w B v xs) {p : Addr} (hp : p.block < B) (u : Value) : OwnP (w.setCell p u) B v xs := by
 refine ⟨h.1, ?_⟩
 rcases h.2 with h0 | ⟨q, cap, cur, rfl, hb, hq, hnc, hcm, hcs, htake⟩
 · exact .inl h0
 · exact .inr ⟨q, cap, cur, rfl, hb, by rw [heap_setCell_other w p q u (by omega)]; exact hq, hnc, hcm, hcs, htake⟩
end
theorem RD.cells {T : TypeId} {R : Nat} {A : Option Addr} {c : Nat} {l : List UInt8} {st : Int × Int} {q : Nat} (hq : R ≠ q) : ∀ (vs : List Value) (o : Nat) (w : World), RD T w R A c l st → RD T (w.setCells q o vs) R A c l st
 | [], _, _, h => h
 | v :: r, o, w, h => by rw [World.setCells]; exact RD.cells hq r (o + 1) _ (RD.other h (p := ⟨q, o, none⟩) hq v)
theorem KR.cells {R q : Nat} {w0 : World} (hq : w0.heap.size ≤ q) (hR : R ≤ w0.heap.size) : ∀ (vs : List Value) (o : Nat) (w : World), KR R w0 w → KR R w0 (w.setCells q o vs)
 | [], _, _, h => h
 | v :: r, o, w, h => by rw [World.setCells]; exact KR.cells hq hR r (o + 1) _ (KR.setNew h (p := ⟨q, o, none⟩) hq hR v)
theorem own_cells {q B : Nat} {v : Value} {xs : List PR} (hq : q < B) : ∀ (vs : List Value) (o : Nat) (w : World), OwnP w B v xs → OwnP (w.setCells q o vs) B v xs
 | [], _, _, h => h
 | u :: r, o, w, h => by rw [World.setCells]; exact own_cells hq r (o + 1) _ (own_set h (p := ⟨q, o, none⟩) hq u)
end Go.Proofs.YtdkegoaflabjoaaGreatDoor
namespace Go.Proofs.YtdkegoaflabjoaaGreatDoor
open Go.RowKit

/-- in the blocks below B but the reader's nothing has changed -/
def Kp (B R : Nat) (w w' : World) : Prop := Below R w w' ∧ ∀ k, k < B → k ≠ R → w'.heap[k]? = w.heap[k]?
section
variable {w w1 w2 : World} {B R : Nat}
theorem KR.kp (h : KR R w w1) (hB : B ≤ w.heap.size) : Kp B R w w1 := ⟨h.1, fun k hk hne => h.2 k (by omega) hne⟩
theorem Kp.trans (h : Kp B R w w1) (h' : Kp B R w1 w2) : Kp B R w w2 := ⟨h.1.trans h'.1, fun k hk hne => (h'.2 k hk hne).trans (h.2 k hk hne)⟩
theorem Kp.drew (B R : Nat) (w : World) : Kp B R w w.drew := ⟨(Below.refl _ _).drew, fun _ _ _ => rfl⟩
theorem Kp.of_below (h : Below B w w1) (hR : R ≤ B) : Kp B R w w1 := ⟨h.mono hR, fun k hk _ => h.block k hk⟩
theorem Kp.set (h : Kp B R w w1) {p : Addr} (hp : B ≤ p.block) (hR : R ≤ B) (u : Value) : Kp B R w (w1.setCell p u) := h.trans (Kp.of_below (Below.setCell (Below.refl B w1) hp u) hR)
theorem KR.kpT {w0 : World} (h : KR R w0 w) (h' : Kp B R w w1) (hB : w0.heap.size ≤ B) : KR R w0 w1 := ⟨h.1.trans h'.1, fun k hk hne => (h'.2 k (by omega) hne).trans (h.2 k hk hne)⟩
theorem MB.kp {M : Nat} {vs : List Value} (h : MB w M vs) (hk : Kp B R w w1) (hM : M < B) (hne : M ≠ R) : MB w1 M vs := (hk.2 M hM hne).trans h
end
theorem MB.alloc {w : World} {M : Nat} {vs : List Value} (h : MB w M vs) (o : Obj) : MB (w.alloc o) M vs := (heap_alloc_old w o (Array.getElem?_eq_some_iff.1 h).1).trans h
end Go.Proofs.YtdkegoaflabjoaaGreatDoor
