/-
  What the methods Num and Text of the specification's reader answer, and what they leave in its block. Conditions: the bytes read as data; so many bytes fit a slice.
-/
import Derived.Test.YtbmeimpfehjnfaaRcB
import Derived.Deep.QuietTactic
import Derived.BigQuiet
namespace Go.Proofs.Ytbmeimpfehjnfaa
open Go.RowKit

def sNum (l : List UInt8) (st : Int × Int) : Int × (Int × Int) := if st.2 ≠ 0 then (0, st) else if (numR l st.1).2.2 ≠ 0 then (0, (st.1, (numR l st.1).2.2)) else ((numR l st.1).1, ((numR l st.1).2.1, 0))
def sText (l : List UInt8) (limit : Int) (st : Int × Int) : ByteArray × (Int × Int) := if st.2 ≠ 0 then (⟨#[]⟩, st) else if (textR l st.1 limit).2.2 ≠ 0 then (⟨#[]⟩, (st.1, (textR l st.1 limit).2.2)) else ((textR l st.1 limit).1, ((textR l st.1 limit).2.1, 0))
def Fit (x : Int) : Prop := -9223372036854775808 ≤ x ∧ x ≤ 9223372036854775807
theorem fit0 : Fit 0 := ⟨by decide, by decide⟩
theorem numR_fit {l : List UInt8} (hn : l.length ≤ 140737488355328) (p : Int) : Fit (numR l p).2.1 ∧ Fit (numR l p).1 := by
  generalize hr : numR l p = r
  obtain ⟨n, nx, e⟩ := r
  by_cases he : e = 0
  · subst he
    obtain ⟨k, j, _, rfl, _, _, h5, h6, h7, _⟩ := numR_ok hr
    exact ⟨⟨by dsimp only; omega, by dsimp only; omega⟩, h6, h7⟩
  · obtain ⟨rfl, rfl, _, _⟩ := numR_bad hr he
    exact ⟨fit0, fit0⟩
theorem textR_fit {l : List UInt8} (hn : l.length ≤ 140737488355328) (p limit : Int) : Fit (textR l p limit).2.1 ∧ (textR l p limit).1.size ≤ l.length := by
  unfold textR
  generalize hr : countR l p limit = r
  obtain ⟨n, nx, e⟩ := r
  dsimp only
  by_cases he : e = 0
  · subst he
    obtain ⟨k, j, m, _, rfl, rfl, _, _, _, h5, _, _⟩ := countR_ok hr
    rw [if_neg (by decide)]
    split
    · exact ⟨fit0, Nat.zero_le _⟩
    · refine ⟨⟨by dsimp only; omega, by dsimp only; omega⟩, ?_⟩
      rw [size_bs, List.length_take, List.length_drop]
      omega
  · rw [if_pos he]
    exact ⟨fit0, Nat.zero_le _⟩
theorem cells_at {w : World} {q : Nat} {cur : Array Value} {t : TypeId} (h : w.heap[q]? = some (.cells cur t (0, 0))) (j : Nat) : w.cell? ⟨q, j, none⟩ = cur[j]? := by
  unfold World.cell?
  simp only [h]
  simp

/-- a reader's block: the bytes, the place, the error -/
def RD (T : TypeId) (w : World) (R : Nat) (A : Option Addr) (c : Nat) (l : List UInt8) (st : Int × Int) : Prop :=
  w.heap[R]? = some (.cells #[.slice A l.length c, .int .i64 st.1, .int .i64 st.2] T (0, 0)) ∧ Fit st.1
section
variable {T : TypeId} {w w' : World} {R : Nat} {A : Option Addr} {c : Nat} {l : List UInt8} {st : Int × Int}
theorem RD.k0 (h : RD T w R A c l st) : w.cell? ⟨R, 0, none⟩ = some (.slice A l.length c) := by rw [cells_at h.1]; rfl
theorem RD.k1 (h : RD T w R A c l st) : w.cell? ⟨R, 1, none⟩ = some (.int .i64 st.1) := by rw [cells_at h.1]; rfl
theorem RD.k2 (h : RD T w R A c l st) : w.cell? ⟨R, 2, none⟩ = some (.int .i64 st.2) := by rw [cells_at h.1]; rfl
theorem RD.free (h : RD T w R A c l st) (j : Nat) : w.frozen? ⟨R, j, none⟩ = false := by
  unfold World.frozen?
  simp only [h.1]
  simp
theorem RD.lt (h : RD T w R A c l st) : R < w.heap.size := (Array.getElem?_eq_some_iff.1 h.1).1
theorem RD.set1 (h : RD T w R A c l st) {x : Int} (hx : Fit x) : RD T (w.setCell ⟨R, 1, none⟩ (.int .i64 x)) R A c l (x, st.2) := ⟨heap_setCell_same w R 1 _ T _ h.1, hx⟩
theorem RD.set2 (h : RD T w R A c l st) (e : Int) : RD T (w.setCell ⟨R, 2, none⟩ (.int .i64 e)) R A c l (st.1, e) := ⟨heap_setCell_same w R 2 _ T _ h.1, h.2⟩
theorem RD.drewN (h : RD T w R A c l st) (n : Nat) : RD T (w.drewN n) R A c l st := h
theorem RD.to (h : RD T w R A c l st) (he : w'.heap[R]? = w.heap[R]?) : RD T w' R A c l st := ⟨he.trans h.1, h.2⟩
end
/-- below the reader's block and in all other old blocks nothing has changed -/
def KR (R : Nat) (w w' : World) : Prop := Below R w w' ∧ ∀ k, k < w.heap.size → k ≠ R → w'.heap[k]? = w.heap[k]?
section
variable {w w1 w2 : World} {R : Nat}
theorem KR.refl (R : Nat) (w : World) : KR R w w := ⟨Below.refl _ _, fun _ _ _ => rfl⟩
theorem KR.trans (h : KR R w w1) (h' : KR R w1 w2) : KR R w w2 := ⟨h.1.trans h'.1, fun k hk hne => (h'.2 k (Nat.lt_of_lt_of_le hk h.1.size) hne).trans (h.2 k hk hne)⟩
theorem KR.drewN (R : Nat) (w : World) (n : Nat) : KR R w (w.drewN n) := ⟨⟨rfl, rfl, rfl, Nat.le_refl _, fun _ _ => rfl⟩, fun _ _ _ => rfl⟩
theorem KR.set (R : Nat) (w : World) (j : Nat) (u : Value) : KR R w (w.setCell ⟨R, j, none⟩ u) := ⟨Below.setCell (p := ⟨R, j, none⟩) (Below.refl R w) (Nat.le_refl R) u, fun k _ hne => heap_setCell_other w ⟨R, j, none⟩ k u hne⟩
theorem KR.of_below (h : Below w.heap.size w w1) (hR : R ≤ w.heap.size) : KR R w w1 := ⟨h.mono hR, fun k hk _ => h.block k hk⟩
theorem KR.base {B : Nat} (h : KR R w w1) (hb : Below B w1 w2) (hB : w.heap.size ≤ B) (hR : R ≤ B) : KR R w w2 := ⟨h.1.trans (hb.mono hR), fun k hk hne => (hb.block k (by omega)).trans (h.2 k hk hne)⟩
theorem KR.size (h : KR R w w1) : w.heap.size ≤ w1.heap.size := h.1.size
end
/-- a reader's method handed this back, and left its reader so -/
def RetR (T : TypeId) (R : Nat) (A : Option Addr) (c : Nat) (l : List UInt8) (v : Value) (st : Int × Int) (w : World) (e : Ending) (w' : World) : Prop := e = .returned v ∧ RD T w' R A c l st ∧ KR R w w'

set_option maxRecDepth 20000 in
set_option maxHeartbeats 2000000 in
theorem sNum_any (R : Nat) (A : Option Addr) (c : Nat) (l : List UInt8) (st : Int × Int) (w : World) (h : RD 63 w R A c l st) (hsl : CL bv w R A l) (hc : l.length ≤ c) (hn : l.length ≤ 140737488355328) :
    Calls Try.prog 37 #[.pointer (some ⟨R, 0, none⟩)] w (RetR 63 R A c l (.int .i64 (sNum l st).1) (sNum l st).2 w) := by
  obtain ⟨p, e⟩ := st
  have k0 := h.k0
  have k1 := h.k1
  have k2 := h.k2
  have f1 := h.free 1
  have f2 := h.free 2
  have HD := Lib.hid h
  dsimp only at k1 k2
  by_cases he : e = 0
  · subst he
    have hv : sNum l (p, 0) = (if (numR l p).2.2 ≠ 0 then (0, (p, (numR l p).2.2)) else ((numR l p).1, ((numR l p).2.1, 0))) := by unfold sNum; rw [if_neg (by simp)]
    rw [hv]
    have hft := (numR_fit hn p).1
    have hcn := fun n => rNum_any A c l p h.2.1 h.2.2 (w.drewN n) R (hsl.below ⟨rfl, rfl, rfl, Nat.le_refl _, fun _ _ => rfl⟩) hc hn
    generalize numR l p = r at hcn hft ⊢
    obtain ⟨a, b, ec⟩ := r
    dsimp only at hft ⊢
    have HF := Lib.hid hft
    have HN : Hid (∀ n, Calls Try.prog 50 #[.slice A l.length c, .int .i64 p] (w.drewN n) fun e w' => e = .returned (.tuple #[.int .i64 a, .int .i64 b, .int .i64 ec]) ∧ w' = w.drewN n) := Lib.hid (fun n => (hcn n).mono (fun _ _ h => ⟨h.1, h.2.symm⟩))
    clear hcn hv hsl h hc hn hft
    by_cases hec : ec = 0
    · subst hec
      rw [if_neg (by simp)]
      go_enter Try.func37, Try.ntmps37
      go_wp2
      go_quiet ((go_at_call 50; exact Calls.quiet_of_same (HN.out _)))
      go_wp2
      go_ret
      exact ⟨rfl, (HD.out.drewN nq).set1 HF.out, (KR.drewN R w nq).trans (KR.set R _ 1 _)⟩
    · rw [if_pos hec]
      have q : (ec != 0) = true := by simp [hec]
      clear hec
      go_enter Try.func37, Try.ntmps37
      go_wp2
      go_quiet ((go_at_call 50; exact Calls.quiet_of_same (HN.out _)))
      go_wp2
      go_ret
      exact ⟨rfl, (HD.out.drewN nq).set2 ec, (KR.drewN R w nq).trans (KR.set R _ 2 _)⟩
  · have hv : sNum l (p, e) = (0, (p, e)) := by unfold sNum; rw [if_pos he]
    rw [hv]
    have q : (e != 0) = true := by simp [he]
    clear he hsl hc hn hv h
    go_enter Try.func37, Try.ntmps37
    go_wp2
    go_ret
    exact ⟨rfl, HD.out, KR.refl _ _⟩

set_option maxRecDepth 20000 in
set_option maxHeartbeats 2000000 in
theorem sText_any (R : Nat) (A : Option Addr) (c : Nat) (l : List UInt8) (limit : Int) (st : Int × Int) (w : World) (h : RD 63 w R A c l st) (hsl : CL bv w R A l) (hc : l.length ≤ c) (hn : l.length ≤ 140737488355328) :
    Calls Try.prog 38 #[.pointer (some ⟨R, 0, none⟩), .int .i64 limit] w (RetR 63 R A c l (.string (sText l limit st).1) (sText l limit st).2 w) := by
  obtain ⟨p, e⟩ := st
  have k0 := h.k0
  have k1 := h.k1
  have k2 := h.k2
  have f1 := h.free 1
  have f2 := h.free 2
  have HD := Lib.hid h
  dsimp only at k1 k2
  by_cases he : e = 0
  · subst he
    have hv : sText l limit (p, 0) = (if (textR l p limit).2.2 ≠ 0 then (⟨#[]⟩, (p, (textR l p limit).2.2)) else ((textR l p limit).1, ((textR l p limit).2.1, 0))) := by unfold sText; rw [if_neg (by simp)]
    rw [hv]
    have hft := (textR_fit hn p limit).1
    have hcn := fun n => rText_any A c l p limit h.2.1 h.2.2 (w.drewN n) R (hsl.below ⟨rfl, rfl, rfl, Nat.le_refl _, fun _ _ => rfl⟩) hc hn
    generalize textR l p limit = r at hcn hft ⊢
    obtain ⟨a, b, ec⟩ := r
    dsimp only at hft ⊢
    have HF := Lib.hid hft
    have HN : Hid (∀ n, Calls Try.prog 51 #[.slice A l.length c, .int .i64 p, .int .i64 limit] (w.drewN n) fun e w' => e = .returned (.tuple #[.string a, .int .i64 b, .int .i64 ec]) ∧ w' = w.drewN n) := Lib.hid (fun n => (hcn n).mono (fun _ _ h => ⟨h.1, h.2.symm⟩))
    clear hcn hv hsl h hc hn hft
    by_cases hec : ec = 0
    · subst hec
      rw [if_neg (by simp)]
      go_enter Try.func38, Try.ntmps38
      go_wp2
      go_quiet ((go_at_call 51; exact Calls.quiet_of_same (HN.out _)))
      go_wp2
      go_ret
      exact ⟨rfl, (HD.out.drewN nq).set1 HF.out, (KR.drewN R w nq).trans (KR.set R _ 1 _)⟩
    · rw [if_pos hec]
      have q : (ec != 0) = true := by simp [hec]
      clear hec
      go_enter Try.func38, Try.ntmps38
      go_wp2
      go_quiet ((go_at_call 51; exact Calls.quiet_of_same (HN.out _)))
      go_wp2
      go_ret
      exact ⟨rfl, (HD.out.drewN nq).set2 ec, (KR.drewN R w nq).trans (KR.set R _ 2 _)⟩
  · have hv : sText l limit (p, e) = (⟨#[]⟩, (p, e)) := by unfold sText; rw [if_pos he]
    rw [hv]
    have q : (e != 0) = true := by simp [he]
    clear he hsl hc hn hv h
    go_enter Try.func38, Try.ntmps38
    go_wp2
    go_ret
    exact ⟨rfl, HD.out, KR.refl _ _⟩

end Go.Proofs.Ytbmeimpfehjnfaa
