/-
  What the methods of both readers answer, and what they leave in their block. Conditions: the bytes read as data; so many bytes fit a slice.
-/
import Derived.Test.YtlkkdompcbdbeaaDoorTakeP
import Derived.Test.YtlkkdompcbdbeaaDoorSetR
import Derived.Deep.QuietTactic
import Derived.BigQuiet
namespace Go.Proofs.YtlkkdompcbdbeaaDoor
open Go.RowKit

/-- a reader's block: the bytes, the place, the error -/
def RD (T : TypeId) (w : World) (R : Nat) (A : Option Addr) (c : Nat) (l : List UInt8) (st : Int × Int) : Prop :=
  w.heap[R]? = some (.cells #[.slice A l.length c, .int .i64 st.1, .int .i64 st.2] T (0, 0)) ∧ Fit st.1
section
variable {T : TypeId} {w w' : World} {R : Nat} {A : Option Addr} {c : Nat} {l : List UInt8} {st : Int × Int}
theorem RD.k0 (h : RD T w R A c l st) : w.cell? ⟨R, 0, none⟩ = some (.slice A l.length c) := by rw [cells_at h.1]; rfl
theorem RD.k1 (h : RD T w R A c l st) : w.cell? ⟨R, 1, none⟩ = some (.int .i64 st.1) := by rw [cells_at h.1]; rfl
theorem RD.k2 (h : RD T w R A c l st) : w.cell? ⟨R, 2, none⟩ = some (.int .i64 st.2) := by rw [cells_at h.1]; rfl
theorem RD.free (h : RD T w R A c l st) (j : Nat) : w.frozen? ⟨R, j, none⟩ = false := by
  unfold World.frozen?
  simp only [h.1]
  simp
theorem RD.lt (h : RD T w R A c l st) : R < w.heap.size := (Array.getElem?_eq_some_iff.1 h.1).1
theorem RD.set1 (h : RD T w R A c l st) {x : Int} (hx : Fit x) : RD T (w.setCell ⟨R, 1, none⟩ (.int .i64 x)) R A c l (x, st.2) := ⟨heap_setCell_same w R 1 _ T _ h.1, hx⟩
theorem RD.set2 (h : RD T w R A c l st) (e : Int) : RD T (w.setCell ⟨R, 2, none⟩ (.int .i64 e)) R A c l (st.1, e) := ⟨heap_setCell_same w R 2 _ T _ h.1, h.2⟩
theorem RD.drewN (h : RD T w R A c l st) (n : Nat) : RD T (w.drewN n) R A c l st := h
theorem RD.to (h : RD T w R A c l st) (he : w'.heap[R]? = w.heap[R]?) : RD T w' R A c l st := ⟨he.trans h.1, h.2⟩
end
/-- below the reader's block and in all other old blocks nothing has changed -/
def KR (R : Nat) (w w' : World) : Prop := Below R w w' ∧ ∀ k, k < w.heap.size → k ≠ R → w'.heap[k]? = w.heap[k]?
section
variable {w w1 w2 : World} {R : Nat}
theorem KR.refl (R : Nat) (w : World) : KR R w w := ⟨Below.refl _ _, fun _ _ _ => rfl⟩
theorem KR.trans (h : KR R w w1) (h' : KR R w1 w2) : KR R w w2 := ⟨h.1.trans h'.1, fun k hk hne => (h'.2 k (Nat.lt_of_lt_of_le hk h.1.size) hne).trans (h.2 k hk hne)⟩
theorem KR.drewN (R : Nat) (w : World) (n : Nat) : KR R w (w.drewN n) := ⟨⟨rfl, rfl, rfl, Nat.le_refl _, fun _ _ => rfl⟩, fun _ _ _ => rfl⟩
theorem KR.set (R : Nat) (w : World) (j : Nat) (u : Value) : KR R w (w.setCell ⟨R, j, none⟩ u) := ⟨Below.setCell (p := ⟨R, j, none⟩) (Below.refl R w) (Nat.le_refl R) u, fun k _ hne => heap_setCell_other w ⟨R, j, none⟩ k u hne⟩
theorem KR.of_below (h : Below w.heap.size w w1) (hR : R ≤ w.heap.size) : KR R w w1 := ⟨h.mono hR, fun k hk _ => h.block k hk⟩
theorem KR.base {B : Nat} (h : KR R w w1) (hb : Below B w1 w2) (hB : w.heap.size ≤ B) (hR : R ≤ B) : KR R w w2 := ⟨h.1.trans (hb.mono hR), fun k hk hne => (hb.block k (by omega)).trans (h.2 k hk hne)⟩
theorem KR.size (h : KR R w w1) : w.heap.size ≤ w1.heap.size := h.1.size
theorem KR.own {B : Nat} {v : Value} {xs : List PR} (h : KR R w w1) (hR : R < B) (ho : OwnP w B v xs) : OwnP w1 B v xs := by
  refine ⟨ho.1, ?_⟩
  rcases ho.2 with h0 | ⟨q, cap, cur, rfl, hb, hq, hnc, hcm, hcs, htake⟩
  · exact .inl h0
  · exact .inr ⟨q, cap, cur, rfl, hb, by rw [h.2 q (Array.getElem?_eq_some_iff.1 hq).1 (by omega)]; exact hq, hnc, hcm, hcs, htake⟩
end
/-- a reader's method handed this back, and left its reader so -/
def RetR (T : TypeId) (R : Nat) (A : Option Addr) (c : Nat) (l : List UInt8) (v : Value) (st : Int × Int) (w : World) (e : Ending) (w' : World) : Prop := e = .returned v ∧ RD T w' R A c l st ∧ KR R w w'

set_option maxRecDepth 20000 in
set_option maxHeartbeats 2000000 in
theorem mNum_any (R : Nat) (A : Option Addr) (c : Nat) (l : List UInt8) (st : Int × Int) (w : World) (h : RD 65 w R A c l st) (hsl : CL bv w R A l) (hc : l.length ≤ c) (hn : l.length ≤ 140737488355328) :
    Calls Tryd.prog 69 #[.pointer (some ⟨R, 0, none⟩)] w (RetR 65 R A c l (.int .i64 (mNum l st).1) (mNum l st).2 w) := by
  obtain ⟨p, e⟩ := st
  have k0 := h.k0
  have k1 := h.k1
  have k2 := h.k2
  have f1 := h.free 1
  have f2 := h.free 2
  have HD := Lib.hid h
  dsimp only at k1 k2
  by_cases he : e = 0
  · subst he
    have hv : mNum l (p, 0) = ((numR l p).1, ((numR l p).2.1, (numR l p).2.2)) := by unfold mNum; rw [if_neg (by simp)]
    rw [hv]
    have hft := (numR_fit hn p).1
    have hcn := fun n => num_any A c l p h.2.1 h.2.2 (w.drewN n) R (hsl.below ⟨rfl, rfl, rfl, Nat.le_refl _, fun _ _ => rfl⟩) hc hn
    generalize numR l p = r at hcn hft ⊢
    obtain ⟨a, b, ec⟩ := r
    dsimp only at hft ⊢
    have HF := Lib.hid hft
    have HN : Hid (∀ n, Calls Tryd.prog 87 #[.slice A l.length c, .int .i64 p] (w.drewN n) fun e w' => e = .returned (.tuple #[.int .i64 a, .int .i64 b, .int .i64 ec]) ∧ w' = w.drewN n) := Lib.hid (fun n => (hcn n).mono (fun _ _ h => ⟨h.1, h.2.symm⟩))
    clear hcn hv hsl h hc hn hft
    go_enter Tryd.func69, Tryd.ntmps69
    go_wp2
    go_quiet ((go_at_call 87; exact Calls.quiet_of_same (HN.out _)))
    go_wp2
    go_ret
    exact ⟨rfl, ((HD.out.drewN nq).set1 HF.out).set2 ec, ((KR.drewN R w nq).trans (KR.set R _ 1 _)).trans (KR.set R _ 2 _)⟩
  · have hv : mNum l (p, e) = (0, (p, e)) := by unfold mNum; rw [if_pos he]
    rw [hv]
    have q : (e != 0) = true := by simp [he]
    clear he hsl hc hn hv h
    go_enter Tryd.func69, Tryd.ntmps69
    go_wp2
    go_ret
    exact ⟨rfl, HD.out, KR.refl _ _⟩

set_option maxRecDepth 20000 in
set_option maxHeartbeats 2000000 in
theorem mText_any (R : Nat) (A : Option Addr) (c : Nat) (l : List UInt8) (limit : Int) (st : Int × Int) (w : World) (h : RD 65 w R A c l st) (hsl : CL bv w R A l) (hc : l.length ≤ c) (hn : l.length ≤ 140737488355328) :
    Calls Tryd.prog 68 #[.pointer (some ⟨R, 0, none⟩), .int .i64 limit] w (RetR 65 R A c l (.string (mText l limit st).1) (mText l limit st).2 w) := by
  obtain ⟨p, e⟩ := st
  have k0 := h.k0
  have k1 := h.k1
  have k2 := h.k2
  have f1 := h.free 1
  have f2 := h.free 2
  have HD := Lib.hid h
  dsimp only at k1 k2
  by_cases he : e = 0
  · subst he
    have hv : mText l limit (p, 0) = ((textR l p limit).1, ((textR l p limit).2.1, (textR l p limit).2.2)) := by unfold mText; rw [if_neg (by simp)]
    rw [hv]
    have hft := (textR_fit hn p limit).1
    have hcn := fun n => text_any A c l p limit h.2.1 h.2.2 (w.drewN n) R (hsl.below ⟨rfl, rfl, rfl, Nat.le_refl _, fun _ _ => rfl⟩) hc hn
    generalize textR l p limit = r at hcn hft ⊢
    obtain ⟨a, b, ec⟩ := r
    dsimp only at hft ⊢
    have HF := Lib.hid hft
    have HN : Hid (∀ n, Calls Tryd.prog 86 #[.slice A l.length c, .int .i64 p, .int .i64 limit] (w.drewN n) fun e w' => e = .returned (.tuple #[.string a, .int .i64 b, .int .i64 ec]) ∧ w' = w.drewN n) := Lib.hid (fun n => (hcn n).mono (fun _ _ h => ⟨h.1, h.2.symm⟩))
    clear hcn hv hsl h hc hn hft
    go_enter Tryd.func68, Tryd.ntmps68
    go_wp2
    go_quiet ((go_at_call 86; exact Calls.quiet_of_same (HN.out _)))
    go_wp2
    go_ret
    exact ⟨rfl, ((HD.out.drewN nq).set1 HF.out).set2 ec, ((KR.drewN R w nq).trans (KR.set R _ 1 _)).trans (KR.set R _ 2 _)⟩
  · have hv : mText l limit (p, e) = (⟨#[]⟩, (p, e)) := by unfold mText; rw [if_pos he]
    rw [hv]
    have q : (e != 0) = true := by simp [he]
    clear he hsl hc hn hv h
    go_enter Tryd.func68, Tryd.ntmps68
    go_wp2
    go_ret
    exact ⟨rfl, HD.out, KR.refl _ _⟩

set_option maxRecDepth 20000 in
set_option maxHeartbeats 2000000 in
theorem sNum_any (R : Nat) (A : Option Addr) (c : Nat) (l : List UInt8) (st : Int × Int) (w : World) (h : RD 68 w R A c l st) (hsl : CL bv w R A l) (hc : l.length ≤ c) (hn : l.length ≤ 140737488355328) :
    Calls Tryd.prog 73 #[.pointer (some ⟨R, 0, none⟩)] w (RetR 68 R A c l (.int .i64 (sNum l st).1) (sNum l st).2 w) := by
  obtain ⟨p, e⟩ := st
  have k0 := h.k0
  have k1 := h.k1
  have k2 := h.k2
  have f1 := h.free 1
  have f2 := h.free 2
  have HD := Lib.hid h
  dsimp only at k1 k2
  by_cases he : e = 0
  · subst he
    have hv : sNum l (p, 0) = (if (numR l p).2.2 ≠ 0 then (0, (p, (numR l p).2.2)) else ((numR l p).1, ((numR l p).2.1, 0))) := by unfold sNum; rw [if_neg (by simp)]
    rw [hv]
    have hft := (numR_fit hn p).1
    have hcn := fun n => rNum_any A c l p h.2.1 h.2.2 (w.drewN n) R (hsl.below ⟨rfl, rfl, rfl, Nat.le_refl _, fun _ _ => rfl⟩) hc hn
    generalize numR l p = r at hcn hft ⊢
    obtain ⟨a, b, ec⟩ := r
    dsimp only at hft ⊢
    have HF := Lib.hid hft
    have HN : Hid (∀ n, Calls Tryd.prog 89 #[.slice A l.length c, .int .i64 p] (w.drewN n) fun e w' => e = .returned (.tuple #[.int .i64 a, .int .i64 b, .int .i64 ec]) ∧ w' = w.drewN n) := Lib.hid (fun n => (hcn n).mono (fun _ _ h => ⟨h.1, h.2.symm⟩))
    clear hcn hv hsl h hc hn hft
    by_cases hec : ec = 0
    · subst hec
      rw [if_neg (by simp)]
      go_enter Tryd.func73, Tryd.ntmps73
      go_wp2
      go_quiet ((go_at_call 89; exact Calls.quiet_of_same (HN.out _)))
      go_wp2
      go_ret
      exact ⟨rfl, (HD.out.drewN nq).set1 HF.out, (KR.drewN R w nq).trans (KR.set R _ 1 _)⟩
    · rw [if_pos hec]
      have q : (ec != 0) = true := by simp [hec]
      clear hec
      go_enter Tryd.func73, Tryd.ntmps73
      go_wp2
      go_quiet ((go_at_call 89; exact Calls.quiet_of_same (HN.out _)))
      go_wp2
      go_ret
      exact ⟨rfl, (HD.out.drewN nq).set2 ec, (KR.drewN R w nq).trans (KR.set R _ 2 _)⟩
  · have hv : sNum l (p, e) = (0, (p, e)) := by unfold sNum; rw [if_pos he]
    rw [hv]
    have q : (e != 0) = true := by simp [he]
    clear he hsl hc hn hv h
    go_enter Tryd.func73, Tryd.ntmps73
    go_wp2
    go_ret
    exact ⟨rfl, HD.out, KR.refl _ _⟩

set_option maxRecDepth 20000 in
set_option maxHeartbeats 2000000 in
theorem sText_any (R : Nat) (A : Option Addr) (c : Nat) (l : List UInt8) (limit : Int) (st : Int × Int) (w : World) (h : RD 68 w R A c l st) (hsl : CL bv w R A l) (hc : l.length ≤ c) (hn : l.length ≤ 140737488355328) :
    Calls Tryd.prog 72 #[.pointer (some ⟨R, 0, none⟩), .int .i64 limit] w (RetR 68 R A c l (.string (sText l limit st).1) (sText l limit st).2 w) := by
  obtain ⟨p, e⟩ := st
  have k0 := h.k0
  have k1 := h.k1
  have k2 := h.k2
  have f1 := h.free 1
  have f2 := h.free 2
  have HD := Lib.hid h
  dsimp only at k1 k2
  by_cases he : e = 0
  · subst he
    have hv : sText l limit (p, 0) = (if (textR l p limit).2.2 ≠ 0 then (⟨#[]⟩, (p, (textR l p limit).2.2)) else ((textR l p limit).1, ((textR l p limit).2.1, 0))) := by unfold sText; rw [if_neg (by simp)]
    rw [hv]
    have hft := (textR_fit hn p limit).1
    have hcn := fun n => rText_any A c l p limit h.2.1 h.2.2 (w.drewN n) R (hsl.below ⟨rfl, rfl, rfl, Nat.le_refl _, fun _ _ => rfl⟩) hc hn
    generalize textR l p limit = r at hcn hft ⊢
    obtain ⟨a, b, ec⟩ := r
    dsimp only at hft ⊢
    have HF := Lib.hid hft
    have HN : Hid (∀ n, Calls Tryd.prog 88 #[.slice A l.length c, .int .i64 p, .int .i64 limit] (w.drewN n) fun e w' => e = .returned (.tuple #[.string a, .int .i64 b, .int .i64 ec]) ∧ w' = w.drewN n) := Lib.hid (fun n => (hcn n).mono (fun _ _ h => ⟨h.1, h.2.symm⟩))
    clear hcn hv hsl h hc hn hft
    by_cases hec : ec = 0
    · subst hec
      rw [if_neg (by simp)]
      go_enter Tryd.func72, Tryd.ntmps72
      go_wp2
      go_quiet ((go_at_call 88; exact Calls.quiet_of_same (HN.out _)))
      go_wp2
      go_ret
      exact ⟨rfl, (HD.out.drewN nq).set1 HF.out, (KR.drewN R w nq).trans (KR.set R _ 1 _)⟩
    · rw [if_pos hec]
      have q : (ec != 0) = true := by simp [hec]
      clear hec
      go_enter Tryd.func72, Tryd.ntmps72
      go_wp2
      go_quiet ((go_at_call 88; exact Calls.quiet_of_same (HN.out _)))
      go_wp2
      go_ret
      exact ⟨rfl, (HD.out.drewN nq).set2 ec, (KR.drewN R w nq).trans (KR.set R _ 2 _)⟩
  · have hv : sText l limit (p, e) = (⟨#[]⟩, (p, e)) := by unfold sText; rw [if_pos he]
    rw [hv]
    have q : (e != 0) = true := by simp [he]
    clear he hsl hc hn hv h
    go_enter Tryd.func72, Tryd.ntmps72
    go_wp2
    go_ret
    exact ⟨rfl, HD.out, KR.refl _ _⟩

set_option maxRecDepth 20000 in
set_option maxHeartbeats 2000000 in
theorem sCount_any (R : Nat) (A : Option Addr) (c : Nat) (l : List UInt8) (limit : Int) (st : Int × Int) (w : World) (h : RD 68 w R A c l st) (hsl : CL bv w R A l) (hc : l.length ≤ c) (hn : l.length ≤ 140737488355328) :
    Calls Tryd.prog 75 #[.pointer (some ⟨R, 0, none⟩), .int .i64 limit] w (RetR 68 R A c l (.int .i64 (sCount l limit st).1) (sCount l limit st).2 w) := by
  obtain ⟨p, e⟩ := st
  have k0 := h.k0
  have k1 := h.k1
  have k2 := h.k2
  have f1 := h.free 1
  have f2 := h.free 2
  have HD := Lib.hid h
  dsimp only at k1 k2
  by_cases he : e = 0
  · subst he
    have hv : sCount l limit (p, 0) = (if (countR l p limit).2.2 ≠ 0 then (0, (p, (countR l p limit).2.2)) else ((countR l p limit).1, ((countR l p limit).2.1, 0))) := by unfold sCount; rw [if_neg (by simp)]
    rw [hv]
    have hft := (countR_fit hn p limit).1
    have hcn := fun n => rCount_any A c l p limit h.2.1 h.2.2 (w.drewN n) R (hsl.below ⟨rfl, rfl, rfl, Nat.le_refl _, fun _ _ => rfl⟩) hc hn
    generalize countR l p limit = r at hcn hft ⊢
    obtain ⟨a, b, ec⟩ := r
    dsimp only at hft ⊢
    have HF := Lib.hid hft
    have HN : Hid (∀ n, Calls Tryd.prog 90 #[.slice A l.length c, .int .i64 p, .int .i64 limit] (w.drewN n) fun e w' => e = .returned (.tuple #[.int .i64 a, .int .i64 b, .int .i64 ec]) ∧ w' = w.drewN n) := Lib.hid (fun n => (hcn n).mono (fun _ _ h => ⟨h.1, h.2.symm⟩))
    clear hcn hv hsl h hc hn hft
    by_cases hec : ec = 0
    · subst hec
      rw [if_neg (by simp)]
      go_enter Tryd.func75, Tryd.ntmps75
      go_wp2
      go_quiet ((go_at_call 90; exact Calls.quiet_of_same (HN.out _)))
      go_wp2
      go_ret
      exact ⟨rfl, (HD.out.drewN nq).set1 HF.out, (KR.drewN R w nq).trans (KR.set R _ 1 _)⟩
    · rw [if_pos hec]
      have q : (ec != 0) = true := by simp [hec]
      clear hec
      go_enter Tryd.func75, Tryd.ntmps75
      go_wp2
      go_quiet ((go_at_call 90; exact Calls.quiet_of_same (HN.out _)))
      go_wp2
      go_ret
      exact ⟨rfl, (HD.out.drewN nq).set2 ec, (KR.drewN R w nq).trans (KR.set R _ 2 _)⟩
  · have hv : sCount l limit (p, e) = (0, (p, e)) := by unfold sCount; rw [if_pos he]
    rw [hv]
    have q : (e != 0) = true := by simp [he]
    clear he hsl hc hn hv h
    go_enter Tryd.func75, Tryd.ntmps75
    go_wp2
    go_ret
    exact ⟨rfl, HD.out, KR.refl _ _⟩

/-! ### The bit, the properties, a number below two -/
set_option maxRecDepth 20000 in
set_option maxHeartbeats 2000000 in
theorem mBit_any (R : Nat) (A : Option Addr) (c : Nat) (l : List UInt8) (st : Int × Int) (w : World) (h : RD 65 w R A c l st) (hsl : CL bv w R A l) (hc : l.length ≤ c) (hn : l.length ≤ 140737488355328) :
    Calls Tryd.prog 70 #[.pointer (some ⟨R, 0, none⟩)] w (RetR 65 R A c l (.bool (mBit l st).1) (mBit l st).2 w) := by
  have hcn := mNum_any R A c l st w h hsl hc hn
  unfold mBit
  generalize mNum l st = r at hcn ⊢
  obtain ⟨n, st'⟩ := r
  dsimp only at hcn ⊢
  have HN := Lib.hid hcn
  clear hcn hsl hc hn h
  by_cases hw : withinR n 1 = true
  case' neg => have hwf : withinR n 1 = false := by simpa using hw
  case pos =>
    rw [if_pos hw]
    go_enter Tryd.func70, Tryd.ntmps70
    go_wp2_with fail
    refine HN.out.mono ?_
    rintro e w1 ⟨rfl, hd, hk⟩
    have HD := Lib.hid hd
    have HK := Lib.hid hk
    clear hd hk
    go_wp2_with fail
    refine (within_any _ _ _).mono ?_
    rintro e wz ⟨rfl, rfl⟩
    go_wp2
    go_ret
    exact ⟨retb rfl, HD.out, HK.out⟩
  case neg =>
    rw [if_neg hw]
    clear hw
    go_enter Tryd.func70, Tryd.ntmps70
    go_wp2_with fail
    refine HN.out.mono ?_
    rintro e w1 ⟨rfl, hd, hk⟩
    have HD := Lib.hid hd
    have HK := Lib.hid hk
    have k2 := hd.k2
    have f2 := hd.free 2
    clear hd hk
    go_wp2_with fail
    refine (within_any _ _ _).mono ?_
    rintro e wz ⟨rfl, rfl⟩
    go_wp2
    go_ret
    exact ⟨retb rfl, HD.out.set2 2, HK.out.trans (KR.set R _ 2 _)⟩

theorem mNum_err {l : List UInt8} {st : Int × Int} (h : (mNum l st).2.2 ≠ 0) : (mNum l st).1 = 0 := by
  unfold mNum at h ⊢
  split
  · rfl
  · next h1 =>
    rw [if_neg h1] at h
    dsimp only at h ⊢
    generalize hr : numR l st.1 = r at h ⊢
    obtain ⟨n, nx, e⟩ := r
    exact (numR_bad hr h).1

/-- a list of the call's own, and the reader left so -/
def RetPs (R : Nat) (A : Option Addr) (c : Nat) (l : List UInt8) (xs : List PR) (st : Int × Int) (w : World) (e : Ending) (w' : World) : Prop := ∃ v, e = .returned v ∧ OwnP w' w.heap.size v xs ∧ RD 65 w' R A c l st ∧ KR R w w'

set_option maxRecDepth 20000 in
set_option maxHeartbeats 8000000 in
theorem mProps_any (R : Nat) (A : Option Addr) (c : Nat) (l : List UInt8) (st : Int × Int) (w : World) (h : RD 65 w R A c l st) (hsl : CL bv w R A l) (hc : l.length ≤ c) (hn : l.length ≤ 140737488355328) :
    Calls Tryd.prog 71 #[.pointer (some ⟨R, 0, none⟩)] w (RetPs R A c l (mProps l st).1 (mProps l st).2 w) := by
  have hcn := mNum_any R A c l st w h hsl hc hn
  have herr := @mNum_err l st
  unfold mProps mCount
  generalize mNum l st = r at hcn herr ⊢
  obtain ⟨n, st'⟩ := r
  dsimp only at hcn herr ⊢
  have HN := Lib.hid hcn
  have HRw := Lib.hid h.lt
  have HSL := Lib.hid hsl
  clear hcn hsl h
  by_cases h1 : n < 0
  · have q1 : decide (n < 0) = true := decide_eq_true h1
    rw [if_pos h1]
    dsimp only
    rw [if_pos (by decide)]
    clear h1 herr hc hn
    go_enter Tryd.func71, Tryd.ntmps71
    go_wp2_with fail
    refine HN.out.mono ?_
    rintro e w1 ⟨rfl, hd, hk⟩
    have HD := Lib.hid hd
    have HK := Lib.hid hk
    have k2 := hd.k2
    have f2 := hd.free 2
    clear hd hk
    go_wp2
    go_ret
    exact ⟨_, rfl, OwnG.nil _ _, HD.out.set2 2, HK.out.trans (KR.set R _ 2 _)⟩
  rw [if_neg h1]
  have q1 : decide (n < 0) = false := decide_eq_false h1
  by_cases h8 : 8 < n
  · have q8 : decide (8 < n) = true := decide_eq_true h8
    rw [if_pos h8]
    dsimp only
    rw [if_pos (by decide)]
    clear h1 h8 herr hc hn
    go_enter Tryd.func71, Tryd.ntmps71
    go_wp2_with fail
    refine HN.out.mono ?_
    rintro e w1 ⟨rfl, hd, hk⟩
    have HD := Lib.hid hd
    have HK := Lib.hid hk
    have k2 := hd.k2
    have f2 := hd.free 2
    clear hd hk
    go_wp2
    go_ret
    exact ⟨_, rfl, OwnG.nil _ _, HD.out.set2 5, HK.out.trans (KR.set R _ 2 _)⟩
  rw [if_neg h8]
  have q8 : decide (8 < n) = false := decide_eq_false h8
  by_cases he : st'.2 = 0
  case neg =>
    rw [if_pos he]
    have q : (st'.2 != 0) = true := by simp [he]
    clear h1 h8 he herr hc hn
    go_enter Tryd.func71, Tryd.ntmps71
    go_wp2_with fail
    refine HN.out.mono ?_
    rintro e w1 ⟨rfl, hd, hk⟩
    have HD := Lib.hid hd
    have HK := Lib.hid hk
    have k2 := hd.k2
    clear hd hk
    go_wp2
    go_ret
    exact ⟨_, rfl, OwnG.nil _ _, HD.out, HK.out⟩
  rw [if_neg (by simp [he])]
  have q : (st'.2 != 0) = false := by simp [he]
  obtain ⟨N, rfl⟩ : ∃ N : Nat, n = N := ⟨n.toNat, by omega⟩
  rw [Int.toNat_natCast]
  obtain ⟨FIN, hFIN⟩ : ∃ F, F = mPropsF l N st' [] := ⟨_, rfl⟩
  rw [← hFIN]
  have HF := Lib.hid hFIN
  have hN8 : N ≤ 8 := by omega
  have HC := Lib.hid hc
  have HLN := Lib.hid hn
  clear h1 h8 he herr hc hn hFIN
  go_enter Tryd.func71, Tryd.ntmps71
  go_wp2_with fail
  refine HN.out.mono ?_
  rintro e w1 ⟨rfl, hd, hk⟩
  have HD := Lib.hid hd
  have HK := Lib.hid hk
  have k2 := hd.k2
  clear hd hk
  go_wp2
  go_loopg [4, 27] N (fun g u i wr => ∃ (k : Nat) (acc : List PR) (s : Int × Int), k + g = N ∧ acc.length = k ∧ i = .int .i64 k ∧ OwnP wr w.heap.size u acc ∧ RD 65 wr R A c l s ∧ KR R w wr ∧ FIN = mPropsF l g s acc)
  case atStart => exact ⟨0, [], st', by omega, rfl, rfl, OwnG.nil _ _, HD.out, HK.out, HF.out⟩
  case round =>
    obtain ⟨k, acc, s, hkg, hacc, rfl, hown, hd, hk, hf⟩ := hrel
    have HO := Lib.hid hown
    have HDk := Lib.hid hd
    have HKk := Lib.hid hk
    have HFk := Lib.hid hf
    have HG := Lib.hid hkg
    have hal : acc.length ≤ 8 := by omega
    have HAL := Lib.hid hacc
    clear hown hd hk hf k2 hacc
    cases gk with
    | zero =>
      obtain rfl : k = N := by omega
      have HE : Hid (FIN = (acc, s)) := Lib.hid HFk.out
      clear hkg
      go_wp2
      go_ret
      exact ⟨_, rfl, by rw [HE.out]; exact HO.out, by rw [HE.out]; exact HDk.out, HKk.out⟩
    | succ g =>
      have hlt : k < N := by omega
      have e3 : decide ((k : Int) < (N : Int)) = true := decide_eq_true (by omega)
      have HT1 := Lib.hid (mText_any R A c l 16 s wr HDk.out (HSL.out.below HKk.out.1) HC.out HLN.out)
      have HSTEP : Hid (FIN = mPropsF l g (mText l 160 (mText l 16 s).2).2 (acc ++ [((mText l 16 s).1, (mText l 160 (mText l 16 s).2).1)])) := Lib.hid HFk.out
      have HT2 := Lib.hid (fun w2 hd hcl => mText_any R A c l 160 (mText l 16 s).2 w2 hd hcl HC.out HLN.out)
      generalize mText l 16 s = r1 at HT1 HT2 HSTEP
      obtain ⟨key, s1⟩ := r1
      dsimp only at HT1 HT2 HSTEP
      generalize mText l 160 s1 = r2 at HT2 HSTEP
      obtain ⟨val, s2⟩ := r2
      dsimp only at HT2 HSTEP
      clear hkg HFk
      go_wp2_with fail
      refine HT1.out.mono ?_
      rintro e wa ⟨rfl, hd, hk⟩
      have HD1 := Lib.hid hd
      have HK1 := Lib.hid (HKk.out.trans hk)
      have HO1 := Lib.hid (hk.own HRw.out HO.out)
      clear hd hk
      go_wp2_with fail
      refine (HT2.out wa HD1.out (HSL.out.below HK1.out.1)).mono ?_
      rintro e wb ⟨rfl, hd, hk⟩
      have HD2 := Lib.hid hd
      have HK2 := Lib.hid (HK1.out.trans hk)
      have HO2 := Lib.hid (hk.own HRw.out HO1.out)
      clear hd hk
      go_wp2_with (at_builtin; go_must (refine wpList_appP1 wb rfl _ _ rfl w.heap.size _ acc key val HO2.out rfl rfl wb (Below.refl _ _) HK2.out.size (by omega) ?_); intro v' w3 hown' hb' hsz')
      have HO3 := Lib.hid hown'
      have HK3 := Lib.hid (HK2.out.base hb' (Nat.le_refl _) (Nat.le_of_lt HRw.out))
      have HD3 := Lib.hid (HD2.out.to (hb'.block R HRw.out))
      clear hown' hb'
      go_wp2
      go_roundg g
      case measure => omega
      case rel => exact ⟨k + 1, acc ++ [(key, val)], s2, by have := HG.out; omega, by have := HAL.out; simp; omega, by go_num, HO3.out, HD3.out, HK3.out, HSTEP.out⟩

theorem sBelow_eq (l : List UInt8) (st : Int × Int) : sBelow l 2 st = if (sNum l st).2.2 = 0 ∧ ((sNum l st).1 < 0 ∨ 2 ≤ (sNum l st).1) then (0, ((sNum l st).2.1, 2)) else if (sNum l st).2.2 ≠ 0 then (0, (sNum l st).2) else sNum l st := rfl
set_option maxRecDepth 20000 in
set_option maxHeartbeats 4000000 in
theorem sBelow_any (R : Nat) (A : Option Addr) (c : Nat) (l : List UInt8) (st : Int × Int) (w : World) (h : RD 68 w R A c l st) (hsl : CL bv w R A l) (hc : l.length ≤ c) (hn : l.length ≤ 140737488355328) :
    Calls Tryd.prog 74 #[.pointer (some ⟨R, 0, none⟩), .int .i64 2] w (RetR 68 R A c l (.int .i64 (sBelow l 2 st).1) (sBelow l 2 st).2 w) := by
  have hcn := sNum_any R A c l st w h hsl hc hn
  rw [sBelow_eq]
  generalize sNum l st = r at hcn ⊢
  obtain ⟨n, p, e⟩ := r
  dsimp only at hcn ⊢
  have HN := Lib.hid hcn
  clear hcn hsl hc hn h
  by_cases he : e = 0
  · subst he
    by_cases h2 : n < 0 ∨ 2 ≤ n
    · rw [if_pos ⟨rfl, h2⟩]
      by_cases h0 : n < 0
      case' pos => have q0 : decide (n < 0) = true := decide_eq_true h0
      case' neg =>
        have q0 : decide (n < 0) = false := decide_eq_false h0
        have q1 : decide (2 ≤ n) = true := decide_eq_true (by omega)
      all_goals
        clear h2 h0
        go_enter Tryd.func74, Tryd.ntmps74
        go_wp2_with fail
        refine HN.out.mono ?_
        rintro e w1 ⟨rfl, hd, hk⟩
        have HD := Lib.hid hd
        have HK := Lib.hid hk
        have k2 := hd.k2
        have f2 := hd.free 2
        clear hd hk
        go_wp2
        go_ret
        exact ⟨rfl, HD.out.set2 2, HK.out.trans (KR.set R _ 2 _)⟩
    · rw [if_neg (fun h => h2 h.2), if_neg (by simp)]
      have q0 : decide (n < 0) = false := decide_eq_false (by omega)
      have q1 : decide (2 ≤ n) = false := decide_eq_false (by omega)
      clear h2
      go_enter Tryd.func74, Tryd.ntmps74
      go_wp2_with fail
      refine HN.out.mono ?_
      rintro e w1 ⟨rfl, hd, hk⟩
      have HD := Lib.hid hd
      have HK := Lib.hid hk
      have k2 := hd.k2
      clear hd hk
      go_wp2
      go_ret
      exact ⟨rfl, HD.out, HK.out⟩
  · rw [if_neg (fun h => he h.1), if_pos he]
    have q2 : (e == 0) = false := by simp [he]
    have q3 : (e != 0) = true := by simp [he]
    clear he
    go_enter Tryd.func74, Tryd.ntmps74
    go_wp2_with fail
    refine HN.out.mono ?_
    rintro e w1 ⟨rfl, hd, hk⟩
    have HD := Lib.hid hd
    have HK := Lib.hid hk
    have k2 := hd.k2
    clear hd hk
    go_wp2
    go_ret
    exact ⟨rfl, HD.out, HK.out⟩

end Go.Proofs.YtlkkdompcbdbeaaDoor
