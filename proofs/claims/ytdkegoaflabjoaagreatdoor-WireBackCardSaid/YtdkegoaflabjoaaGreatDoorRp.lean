/-
What the methods of wire's reader hand back and what they leave in its block, or the error with which they panic. Conditions: the bytes read as data; so many bytes fit a slice.
-/
import Derived.Test.YtdkegoaflabjoaaGreatDoorWireT
import Derived.Test.YtdkegoaflabjoaaGreatDoorBack3
import Derived.Test.YtdkegoaflabjoaaGreatDoorTakeS
import Derived.Test.YtdkegoaflabjoaaGreatDoorSetR
import Derived.Test.YtdkegoaflabjoaaGreatDoorMbx2
import Derived.WalkLawsBesides
set_option maxHeartbeats 8000000
set_option maxRecDepth 20000
namespace Go.Proofs.YtdkegoaflabjoaaGreatDoor
open Go.RowKit

/-- it panicked with this error -/
def pan (n : Int) : Ending := .panicked [{ v := .iface 26 (.int .i64 n), recovered := false }]
/-- a reader's block: the bytes, the place -/
def RP (w : World) (R : Nat) (A : Option Addr) (c : Nat) (l : List UInt8) (p : Int) : Prop :=
 w.heap[R]? = some (.cells #[.slice A l.length c, .int .i64 p] 55 (0, 0)) ∧ Fit p
section
variable {w w' : World} {R : Nat} {A : Option Addr} {c : Nat} {l : List UInt8} {p : Int}
theorem RP.k0 (h : RP w R A c l p) : w.cell? ⟨R, 0, none⟩ = some (.slice A l.length c) := by rw [cells_at h.1]; rfl
theorem RP.k1 (h : RP w R A c l p) : w.cell? ⟨R, 1, none⟩ = some (.int .i64 p) := by rw [cells_at h.1]; rfl
theorem RP.free (h : RP w R A c l p) (j : Nat) : w.frozen? ⟨R, j, none⟩ = false := by
 unfold World.frozen?
 simp only [h.1]
 simp
theorem RP.lt (h : RP w R A c l p) : R < w.heap.size := (Array.getElem?_eq_some_iff.1 h.1).1
theorem RP.set1 (h : RP w R A c l p) {x : Int} (hx : Fit x) : RP (w.setCell ⟨R, 1, none⟩ (.int .i64 x)) R A c l x := ⟨heap_setCell_same w R 1 _ 55 _ h.1, hx⟩
theorem RP.to (h : RP w R A c l p) (he : w'.heap[R]? = w.heap[R]?) : RP w' R A c l p := ⟨he.trans h.1, h.2⟩
theorem RP.other (h : RP w R A c l p) {q : Addr} (hp : R ≠ q.block) (u : Value) : RP (w.setCell q u) R A c l p := h.to (heap_setCell_other w q R u hp)
theorem RP.below (h : RP w R A c l p) (hb : Below w.heap.size w w') : RP w' R A c l p := h.to (hb.block R h.lt)
end
/-- a method handed back v and left the reader so, or panicked with the error -/
def RetX (R : Nat) (A : Option Addr) (c : Nat) (l : List UInt8) (v : Value) (st : Int × Int) (w : World) (e : Ending) (w' : World) : Prop :=
 (st.2 = 0 ∧ e = .returned v ∧ RP w' R A c l st.1 ∧ KR R w w') ∨ (st.2 ≠ 0 ∧ e = pan st.2 ∧ KR R w w')
theorem sNum_bad {l : List UInt8} {st : Int × Int} (h : st.2 ≠ 0) : sNum l st = (0, st) := by unfold sNum; rw [if_pos h]
theorem sText_bad {l : List UInt8} {lim : Int} {st : Int × Int} (h : st.2 ≠ 0) : sText l lim st = (⟨#[]⟩, st) := by unfold sText; rw [if_pos h]
theorem sBelow_bad {l : List UInt8} {m : Int} {st : Int × Int} (h : st.2 ≠ 0) : sBelow l m st = (0, st) := by
 unfold sBelow
 rw [sNum_bad h, if_neg (by simp [h]), if_pos h]
theorem sCount_bad {l : List UInt8} {m : Int} {st : Int × Int} (h : st.2 ≠ 0) : sCount l m st = (0, st) := by unfold sCount; rw [if_pos h]
theorem sList_bad {α : Type} {f : Int × Int → α × (Int × Int)} {n : Nat} {st : Int × Int} {acc : List α} (h : st.2 ≠ 0) : sList f n st acc = (acc, st) := by
 cases n with
 | zero => rfl
 | succ n => rw [sList, if_pos h]
/-- the list of properties, by elements -/
def sProp (l : List UInt8) (st : Int × Int) : PR × (Int × Int) := (((sText l 16 st).1, (sText l 160 (sText l 16 st).2).1), (sText l 160 (sText l 16 st).2).2)
theorem sPropsF_list (l : List UInt8) : ∀ (n : Nat) (st : Int × Int) (acc : List PR), sPropsF l n st acc = sList (sProp l) n st acc
 | 0, _, _ => rfl
 | n + 1, st, acc => by
   rw [sPropsF, sList]
   split
   · rfl
   · exact sPropsF_list l n _ _
theorem sCount_num (l : List UInt8) (lim p : Int) : sCount l lim (p, 0) =
 if (sNum l (p, 0)).2.2 ≠ 0 then (0, (sNum l (p, 0)).2) else if (sNum l (p, 0)).1 < 0 then (0, (p, 2)) else if lim < (sNum l (p, 0)).1 then (0, (p, 5)) else sNum l (p, 0) := by
 unfold sCount sNum countR
 dsimp only
 generalize numR l p = r
 obtain ⟨n, q, e⟩ := r
 dsimp only
 by_cases he : e = 0
 · subst he
   by_cases h1 : n < 0
   · simp [h1]
   · by_cases h2 : lim < n
     · simp [h1, h2]
     · simp [h1, h2]
 · simp [he]

theorem move_ok (R : Nat) (A : Option Addr) (c : Nat) (l : List UInt8) (p q : Int) (hq : Fit q) (w : World) (h : RP w R A c l p) :
 Calls Tryz.prog 84 #[.pointer (some ⟨R, 0, none⟩), .int .i64 q, .int .i64 0] w fun e w' => e = .returned (.tuple #[]) ∧ RP w' R A c l q ∧ KR R w w' := by
 have k1 := h.k1
 have f1 := h.free 1
 have HD := Lib.hid h
 have HQ := Lib.hid hq
 clear h hq
 go_enter Tryz.func84, Tryz.ntmps84
 go_wp2
 go_end0
 exact ⟨rfl, HD.out.set1 HQ.out, KR.set R _ 1 _⟩
theorem move_bad (R : Nat) (q e : Int) (he : e ≠ 0) (w : World) :
 Calls Tryz.prog 84 #[.pointer (some ⟨R, 0, none⟩), .int .i64 q, .int .i64 e] w fun e' w' => e' = pan e ∧ w = w' := by
 have q1 : (e != 0) = true := by simp [he]
 clear he
 go_enter Tryz.func84, Tryz.ntmps84
 go_wp2
 exact ⟨rfl, rfl, rfl⟩
theorem below_drewX (w : World) (n : Nat) : Below w.heap.size w (w.drewN n) := ⟨rfl, rfl, rfl, Nat.le_refl _, fun _ _ => rfl⟩

theorem xNum_any (R : Nat) (A : Option Addr) (c : Nat) (l : List UInt8) (p : Int) (w : World) (h : RP w R A c l p) (hsl : CL bv w R A l) (hc : l.length ≤ c) (hn : l.length ≤ 140737488355328) :
 Calls Tryz.prog 53 #[.pointer (some ⟨R, 0, none⟩)] w (RetX R A c l (.int .i64 (sNum l (p, 0)).1) (sNum l (p, 0)).2 w) := by
 have k0 := h.k0
 have k1 := h.k1
 have hft := (numR_fit hn p).1
 have hv : sNum l (p, 0) = if (numR l p).2.2 ≠ 0 then (0, (p, (numR l p).2.2)) else ((numR l p).1, ((numR l p).2.1, 0)) := by unfold sNum; rw [if_neg (by simp)]
 rw [hv]
 have hcn := fun n => num_any A c l p h.2.1 h.2.2 (w.drewN n) R (hsl.below ⟨rfl, rfl, rfl, Nat.le_refl _, fun _ _ => rfl⟩) hc hn
 generalize numR l p = r at hcn hft ⊢
 obtain ⟨a, b, ec⟩ := r
 dsimp only at hft ⊢
 have HF := Lib.hid hft
 have HD := Lib.hid h
 have HN : Hid (∀ n, Calls Tryz.prog 83 #[.slice A l.length c, .int .i64 p] (w.drewN n) fun e w' => e = .returned (.tuple #[.int .i64 a, .int .i64 b, .int .i64 ec]) ∧ w' = w.drewN n) := Lib.hid (fun n => (hcn n).mono (fun _ _ h => ⟨h.1, h.2.symm⟩))
 have HM0 := Lib.hid (fun w h => move_ok R A c l p b hft w h)
 clear hcn hv hsl h hc hn hft
 by_cases he : ec = 0
 · subst he
   go_enter Tryz.func53, Tryz.ntmps53
   go_wp2
   go_quiet ((go_at_call 83; exact Calls.quiet_of_same (HN.out _)))
   go_wp2_with fail
   refine (HM0.out _ (HD.out.below (below_drewX w nq))).mono ?_
   rintro e w1 ⟨rfl, hr, hk⟩
   go_wp2_with fail
   go_ret
   exact .inl ⟨rfl, rfl, hr, (KR.drewN R w nq).trans hk⟩
 · rw [if_pos he]
   have HB := Lib.hid (fun w => move_bad R b ec he w)
   have HE := Lib.hid he
   clear he
   go_enter Tryz.func53, Tryz.ntmps53
   go_wp2
   go_quiet ((go_at_call 83; exact Calls.quiet_of_same (HN.out _)))
   go_wp2_with fail
   refine (HB.out _).mono ?_
   rintro e w1 ⟨rfl, rfl⟩
   unfold pan
   go_wp2_with fail
   exact ⟨rfl, .inr ⟨HE.out, rfl, KR.drewN R w nq⟩⟩

theorem xText_any (R : Nat) (A : Option Addr) (c : Nat) (l : List UInt8) (lim : Int) (p : Int) (w : World) (h : RP w R A c l p) (hsl : CL bv w R A l) (hc : l.length ≤ c) (hn : l.length ≤ 140737488355328) :
 Calls Tryz.prog 85 #[.pointer (some ⟨R, 0, none⟩), .int .i64 lim] w (RetX R A c l (.string (sText l lim (p, 0)).1) (sText l lim (p, 0)).2 w) := by
 have k0 := h.k0
 have k1 := h.k1
 have hft := (textR_fit hn p lim).1
 have hv : sText l lim (p, 0) = if (textR l p lim).2.2 ≠ 0 then (⟨#[]⟩, (p, (textR l p lim).2.2)) else ((textR l p lim).1, ((textR l p lim).2.1, 0)) := by unfold sText; rw [if_neg (by simp)]
 rw [hv]
 have hcn := fun n => text_any A c l p lim h.2.1 h.2.2 (w.drewN n) R (hsl.below ⟨rfl, rfl, rfl, Nat.le_refl _, fun _ _ => rfl⟩) hc hn
 generalize textR l p lim = r at hcn hft ⊢
 obtain ⟨a, b, ec⟩ := r
 dsimp only at hft ⊢
 have HF := Lib.hid hft
 have HD := Lib.hid h
 have HN : Hid (∀ n, Calls Tryz.prog 24 #[.slice A l.length c, .int .i64 p, .int .i64 lim] (w.drewN n) fun e w' => e = .returned (.tuple #[.string a, .int .i64 b, .int .i64 ec]) ∧ w' = w.drewN n) := Lib.hid (fun n => (hcn n).mono (fun _ _ h => ⟨h.1, h.2.symm⟩))
 have HM0 := Lib.hid (fun w h => move_ok R A c l p b hft w h)
 clear hcn hv hsl h hc hn hft
 by_cases he : ec = 0
 · subst he
   go_enter Tryz.func85, Tryz.ntmps85
   go_wp2
   go_quiet ((go_at_call 24; exact Calls.quiet_of_same (HN.out _)))
   go_wp2_with fail
   refine (HM0.out _ (HD.out.below (below_drewX w nq))).mono ?_
   rintro e w1 ⟨rfl, hr, hk⟩
   go_wp2_with fail
   go_ret
   exact .inl ⟨rfl, rfl, hr, (KR.drewN R w nq).trans hk⟩
 · rw [if_pos he]
   have HB := Lib.hid (fun w => move_bad R b ec he w)
   have HE := Lib.hid he
   clear he
   go_enter Tryz.func85, Tryz.ntmps85
   go_wp2
   go_quiet ((go_at_call 24; exact Calls.quiet_of_same (HN.out _)))
   go_wp2_with fail
   refine (HB.out _).mono ?_
   rintro e w1 ⟨rfl, rfl⟩
   unfold pan
   go_wp2_with fail
   exact ⟨rfl, .inr ⟨HE.out, rfl, KR.drewN R w nq⟩⟩

theorem sBelow_cases2 (l : List UInt8) (p : Int) : sBelow l 2 (p, 0) = if (sNum l (p, 0)).2.2 ≠ 0 then (0, (sNum l (p, 0)).2) else if (sNum l (p, 0)).1 < 0 ∨ 2 ≤ (sNum l (p, 0)).1 then (0, ((sNum l (p, 0)).2.1, 2)) else sNum l (p, 0) := by
 unfold sBelow
 generalize sNum l (p, 0) = r
 obtain ⟨n, q, e⟩ := r
 dsimp only
 by_cases he : e = 0
 · subst he
   by_cases h1 : n < 0 ∨ 2 ≤ n
   · rw [if_pos ⟨rfl, h1⟩, if_neg (by simp), if_pos h1]
   · rw [if_neg (fun h => h1 h.2)]
     simp [h1]
 · simp [he]
theorem xFlags1_any (R : Nat) (A : Option Addr) (c : Nat) (l : List UInt8) (p : Int) (w : World) (h : RP w R A c l p) (hsl : CL bv w R A l) (hc : l.length ≤ c) (hn : l.length ≤ 140737488355328) :
 Calls Tryz.prog 86 #[.pointer (some ⟨R, 0, none⟩), .int .i64 1] w (RetX R A c l (.int .i64 (sBelow l 2 (p, 0)).1) (sBelow l 2 (p, 0)).2 w) := by
 have hcn := xNum_any R A c l p w h hsl hc hn
 rw [sBelow_cases2]
 generalize sNum l (p, 0) = r at hcn ⊢
 obtain ⟨n, q, ec⟩ := r
 dsimp only at hcn ⊢
 have HN := Lib.hid hcn
 clear hcn hsl h hc hn
 by_cases he : ec = 0
 · rw [if_neg (by simpa using he)]
   have HE := Lib.hid he
   by_cases h1 : n < 0
   · rw [if_pos (.inl h1)]
     have q1 : decide (n < 0) = true := decide_eq_true h1
     clear h1 he
     go_enter Tryz.func86, Tryz.ntmps86
     go_wp2_with fail
     refine HN.out.mono ?_
     intro e w1 h
     rcases h with ⟨z, rfl, hr, hk⟩ | ⟨z, _, _⟩
     · clear z
       have HK := Lib.hid hk
       clear hk hr
       go_wp2
       exact ⟨rfl, .inr ⟨(by show (2 : Int) ≠ 0; decide), rfl, HK.out⟩⟩
     · exact absurd HE.out z
   · have q1 : decide (n < 0) = false := decide_eq_false h1
     by_cases h2 : 2 ≤ n
     · rw [if_pos (.inr h2)]
       have q2 : decide ((2 : Int) ≤ n) = true := decide_eq_true h2
       clear h1 h2 he
       go_enter Tryz.func86, Tryz.ntmps86
       go_wp2_with fail
       refine HN.out.mono ?_
       intro e w1 h
       rcases h with ⟨z, rfl, hr, hk⟩ | ⟨z, _, _⟩
       · clear z
         have HK := Lib.hid hk
         clear hk hr
         go_wp2
         exact ⟨rfl, .inr ⟨(by show (2 : Int) ≠ 0; decide), rfl, HK.out⟩⟩
       · exact absurd HE.out z
     · rw [if_neg (by omega)]
       have q2 : decide ((2 : Int) ≤ n) = false := decide_eq_false h2
       clear h1 h2 he
       go_enter Tryz.func86, Tryz.ntmps86
       go_wp2_with fail
       refine HN.out.mono ?_
       intro e w1 h
       rcases h with ⟨z, rfl, hr, hk⟩ | ⟨z, _, _⟩
       · clear z
         have HK := Lib.hid hk
         have HR := Lib.hid hr
         clear hk hr
         go_wp2
         go_ret
         exact .inl ⟨HE.out, rfl, HR.out, HK.out⟩
       · exact absurd HE.out z
 · rw [if_pos he]
   have HE := Lib.hid he
   clear he
   go_enter Tryz.func86, Tryz.ntmps86
   go_wp2_with fail
   refine HN.out.mono ?_
   intro e w1 h
   rcases h with ⟨z, _, _, _⟩ | ⟨z, rfl, hk⟩
   · exact absurd z HE.out
   · clear z
     have HK := Lib.hid hk
     clear hk
     unfold pan
     go_wp2_with fail
     exact ⟨rfl, .inr ⟨HE.out, rfl, HK.out⟩⟩

theorem sBelow_cases4 (l : List UInt8) (p : Int) : sBelow l 4 (p, 0) = if (sNum l (p, 0)).2.2 ≠ 0 then (0, (sNum l (p, 0)).2) else if (sNum l (p, 0)).1 < 0 ∨ 4 ≤ (sNum l (p, 0)).1 then (0, ((sNum l (p, 0)).2.1, 2)) else sNum l (p, 0) := by
 unfold sBelow
 generalize sNum l (p, 0) = r
 obtain ⟨n, q, e⟩ := r
 dsimp only
 by_cases he : e = 0
 · subst he
   by_cases h1 : n < 0 ∨ 4 ≤ n
   · rw [if_pos ⟨rfl, h1⟩, if_neg (by simp), if_pos h1]
   · rw [if_neg (fun h => h1 h.2)]
     simp [h1]
 · simp [he]
theorem xFlags2_any (R : Nat) (A : Option Addr) (c : Nat) (l : List UInt8) (p : Int) (w : World) (h : RP w R A c l p) (hsl : CL bv w R A l) (hc : l.length ≤ c) (hn : l.length ≤ 140737488355328) :
 Calls Tryz.prog 86 #[.pointer (some ⟨R, 0, none⟩), .int .i64 2] w (RetX R A c l (.int .i64 (sBelow l 4 (p, 0)).1) (sBelow l 4 (p, 0)).2 w) := by
 have hcn := xNum_any R A c l p w h hsl hc hn
 rw [sBelow_cases4]
 generalize sNum l (p, 0) = r at hcn ⊢
 obtain ⟨n, q, ec⟩ := r
 dsimp only at hcn ⊢
 have HN := Lib.hid hcn
 clear hcn hsl h hc hn
 by_cases he : ec = 0
 · rw [if_neg (by simpa using he)]
   have HE := Lib.hid he
   by_cases h1 : n < 0
   · rw [if_pos (.inl h1)]
     have q1 : decide (n < 0) = true := decide_eq_true h1
     clear h1 he
     go_enter Tryz.func86, Tryz.ntmps86
     go_wp2_with fail
     refine HN.out.mono ?_
     intro e w1 h
     rcases h with ⟨z, rfl, hr, hk⟩ | ⟨z, _, _⟩
     · clear z
       have HK := Lib.hid hk
       clear hk hr
       go_wp2
       exact ⟨rfl, .inr ⟨(by show (2 : Int) ≠ 0; decide), rfl, HK.out⟩⟩
     · exact absurd HE.out z
   · have q1 : decide (n < 0) = false := decide_eq_false h1
     by_cases h2 : 4 ≤ n
     · rw [if_pos (.inr h2)]
       have q2 : decide ((4 : Int) ≤ n) = true := decide_eq_true h2
       clear h1 h2 he
       go_enter Tryz.func86, Tryz.ntmps86
       go_wp2_with fail
       refine HN.out.mono ?_
       intro e w1 h
       rcases h with ⟨z, rfl, hr, hk⟩ | ⟨z, _, _⟩
       · clear z
         have HK := Lib.hid hk
         clear hk hr
         go_wp2
         exact ⟨rfl, .inr ⟨(by show (2 : Int) ≠ 0; decide), rfl, HK.out⟩⟩
       · exact absurd HE.out z
     · rw [if_neg (by omega)]
       have q2 : decide ((4 : Int) ≤ n) = false := decide_eq_false h2
       clear h1 h2 he
       go_enter Tryz.func86, Tryz.ntmps86
       go_wp2_with fail
       refine HN.out.mono ?_
       intro e w1 h
       rcases h with ⟨z, rfl, hr, hk⟩ | ⟨z, _, _⟩
       · clear z
         have HK := Lib.hid hk
         have HR := Lib.hid hr
         clear hk hr
         go_wp2
         go_ret
         exact .inl ⟨HE.out, rfl, HR.out, HK.out⟩
       · exact absurd HE.out z
 · rw [if_pos he]
   have HE := Lib.hid he
   clear he
   go_enter Tryz.func86, Tryz.ntmps86
   go_wp2_with fail
   refine HN.out.mono ?_
   intro e w1 h
   rcases h with ⟨z, _, _, _⟩ | ⟨z, rfl, hk⟩
   · exact absurd z HE.out
   · clear z
     have HK := Lib.hid hk
     clear hk
     unfold pan
     go_wp2_with fail
     exact ⟨rfl, .inr ⟨HE.out, rfl, HK.out⟩⟩

theorem flagR_01 {n : Int} (h : 0 ≤ n ∧ n < 2) : flagR n 0 = decide (n = 1) := by
 rcases (by omega : n = 0 ∨ n = 1) with rfl | rfl <;> decide
theorem sBelow_in2 {l : List UInt8} {st : Int × Int} : 0 ≤ (sBelow l 2 st).1 ∧ (sBelow l 2 st).1 < 2 := by
 unfold sBelow
 split
 · exact ⟨Int.le_refl 0, (by show (0 : Int) < 2; decide)⟩
 · split
   · exact ⟨Int.le_refl 0, (by show (0 : Int) < 2; decide)⟩
   · next h1 h2 => omega
theorem sBelow_in4 {l : List UInt8} {st : Int × Int} : 0 ≤ (sBelow l 4 st).1 ∧ (sBelow l 4 st).1 < 4 := by
 unfold sBelow
 split
 · exact ⟨Int.le_refl 0, (by show (0 : Int) < 4; decide)⟩
 · split
   · exact ⟨Int.le_refl 0, (by show (0 : Int) < 4; decide)⟩
   · next h1 h2 => omega
theorem xFlag_any (R : Nat) (A : Option Addr) (c : Nat) (l : List UInt8) (p : Int) (w : World) (h : RP w R A c l p) (hsl : CL bv w R A l) (hc : l.length ≤ c) (hn : l.length ≤ 140737488355328) :
 Calls Tryz.prog 55 #[.pointer (some ⟨R, 0, none⟩)] w (RetX R A c l (.bool (decide ((sBelow l 2 (p, 0)).1 = 1))) (sBelow l 2 (p, 0)).2 w) := by
 have hcn := xFlags1_any R A c l p w h hsl hc hn
 have hin := @sBelow_in2 l (p, 0)
 generalize sBelow l 2 (p, 0) = r at hcn hin ⊢
 obtain ⟨n, s⟩ := r
 dsimp only at hcn hin ⊢
 have HN := Lib.hid hcn
 have HF := Lib.hid (fun w => flag_any n 0 (by decide) (by decide) w)
 rw [flagR_01 hin] at HF
 generalize decide (n = 1) = v at HF ⊢
 clear hcn hsl h hc hn hin
 go_enter Tryz.func55, Tryz.ntmps55
 go_wp2_with fail
 refine HN.out.mono ?_
 intro e w1 h
 rcases h with ⟨z, rfl, hr, hk⟩ | ⟨z, rfl, hk⟩
 · have HZ := Lib.hid z
   have HK := Lib.hid hk
   have HR := Lib.hid hr
   clear z hk hr
   go_wp2_with fail
   refine (HF.out _).mono ?_
   rintro e w2 ⟨rfl, rfl⟩
   go_wp2_with fail
   go_ret
   exact .inl ⟨HZ.out, rfl, HR.out, HK.out⟩
 · have HZ := Lib.hid z
   have HK := Lib.hid hk
   clear z hk
   unfold pan
   go_wp2_with fail
   exact ⟨rfl, .inr ⟨HZ.out, rfl, HK.out⟩⟩
theorem xFilter_any (R : Nat) (A : Option Addr) (c : Nat) (l : List UInt8) (p : Int) (w : World) (h : RP w R A c l p) (hsl : CL bv w R A l) (hc : l.length ≤ c) (hn : l.length ≤ 140737488355328) :
 Calls Tryz.prog 61 #[.pointer (some ⟨R, 0, none⟩)] w (RetX R A c l (.string (sText l 88 (p, 0)).1) (sText l 88 (p, 0)).2 w) := by
 have hcn := xText_any R A c l 88 p w h hsl hc hn
 generalize sText l 88 (p, 0) = r at hcn ⊢
 obtain ⟨n, s⟩ := r
 dsimp only at hcn ⊢
 have HN := Lib.hid hcn
 clear hcn hsl h hc hn
 go_enter Tryz.func61, Tryz.ntmps61
 go_wp2_with fail
 refine HN.out.mono ?_
 intro e w1 h
 rcases h with ⟨z, rfl, hr, hk⟩ | ⟨z, rfl, hk⟩
 · have HZ := Lib.hid z
   have HK := Lib.hid hk
   have HR := Lib.hid hr
   clear z hk hr
   go_wp2_with fail
   go_ret
   exact .inl ⟨HZ.out, rfl, HR.out, HK.out⟩
 · have HZ := Lib.hid z
   have HK := Lib.hid hk
   clear z hk
   unfold pan
   go_wp2_with fail
   exact ⟨rfl, .inr ⟨HZ.out, rfl, HK.out⟩⟩

theorem RP.cells {R : Nat} {A : Option Addr} {c : Nat} {l : List UInt8} {p : Int} {q : Nat} (hq : R ≠ q) : ∀ (vs : List Value) (o : Nat) (w : World), RP w R A c l p → RP (w.setCells q o vs) R A c l p
 | [], _, _, h => h
 | v :: r, o, w, h => by rw [World.setCells]; exact RP.cells hq r (o + 1) _ (RP.other h (q := ⟨q, o, none⟩) hq v)

theorem xSub_any (R : Nat) (A : Option Addr) (c : Nat) (l : List UInt8) (s0 : Int × Int) (hz0 : s0.2 = 0) (w : World) (h : RP w R A c l s0.1) (hsl : CL bv w R A l) (hc : l.length ≤ c) (hn : l.length ≤ 140737488355328) :
 Calls Tryz.prog 58 #[.pointer (some ⟨R, 0, none⟩)] w (RetX R A c l (.agg #[.string (sSub l s0).1.1, .int .i64 (sSub l s0).1.2.1, .bool (sSub l s0).1.2.2]) (sSub l s0).2 w) := by
 unfold sSub
 dsimp only
 have H0 : Hid (∀ w, s0.2 = 0 → RP w R A c l s0.1 → CL bv w R A l → Calls Tryz.prog 61 #[.pointer (some ⟨R, 0, none⟩)] w (RetX R A c l (.string ((sText l 88 s0).1)) (sText l 88 s0).2 w)) := Lib.hid (fun wv hzv hv hsv => by
  obtain ⟨q, z⟩ := s0
  dsimp only at hzv hv ⊢
  subst hzv
  exact xFilter_any R A c l q wv hv hsv hc hn)
 have B0 : Hid (s0.2 ≠ 0 → (sText l 88 s0).2 = s0) := Lib.hid (fun h => by rw [sText_bad h])
 generalize sText l 88 s0 = r0 at H0 B0 ⊢
 obtain ⟨a0, s1⟩ := r0
 dsimp only at H0 B0 ⊢
 have H1 : Hid (∀ w, s1.2 = 0 → RP w R A c l s1.1 → CL bv w R A l → Calls Tryz.prog 53 #[.pointer (some ⟨R, 0, none⟩)] w (RetX R A c l (.int .i64 ((sNum l s1).1)) (sNum l s1).2 w)) := Lib.hid (fun wv hzv hv hsv => by
  obtain ⟨q, z⟩ := s1
  dsimp only at hzv hv ⊢
  subst hzv
  exact xNum_any R A c l q wv hv hsv hc hn)
 have B1 : Hid (s1.2 ≠ 0 → (sNum l s1).2 = s1) := Lib.hid (fun h => by rw [sNum_bad h])
 generalize sNum l s1 = r1 at H1 B1 ⊢
 obtain ⟨a1, s2⟩ := r1
 dsimp only at H1 B1 ⊢
 have H2 : Hid (∀ w, s2.2 = 0 → RP w R A c l s2.1 → CL bv w R A l → Calls Tryz.prog 55 #[.pointer (some ⟨R, 0, none⟩)] w (RetX R A c l (.bool (decide ((sBelow l 2 s2).1 = 1))) (sBelow l 2 s2).2 w)) := Lib.hid (fun wv hzv hv hsv => by
  obtain ⟨q, z⟩ := s2
  dsimp only at hzv hv ⊢
  subst hzv
  exact xFlag_any R A c l q wv hv hsv hc hn)
 have B2 : Hid (s2.2 ≠ 0 → (sBelow l 2 s2).2 = s2) := Lib.hid (fun h => by rw [sBelow_bad h])
 generalize sBelow l 2 s2 = r2 at H2 B2 ⊢
 obtain ⟨f2, s3⟩ := r2
 dsimp only at H2 B2 ⊢
 generalize decide (f2 = 1) = a2 at H2 ⊢
 have E3 : Hid (s3.2 ≠ 0 → s3 = s3) := Lib.hid (fun _ => rfl)
 have E2 : Hid (s2.2 ≠ 0 → s3 = s2) := Lib.hid (fun h => (E3.out (by rw [B2.out h]; exact h)).trans (B2.out h))
 have E1 : Hid (s1.2 ≠ 0 → s3 = s1) := Lib.hid (fun h => (E2.out (by rw [B1.out h]; exact h)).trans (B1.out h))
 clear hc hn B0 B1 B2
 have HSL := Lib.hid hsl
 have hRw := h.lt
 have hrest := Lib.hid hz0
 obtain ⟨w0, hw0⟩ : ∃ w0, w0 = w.alloc (.cells #[.string ⟨#[]⟩, .int .i64 0, .bool false] 49) := ⟨_, rfl⟩
 have hb0 : Below w.heap.size w w0 := by rw [hw0]; exact belA _ _
 have HM0 : Hid (MT 49 w0 w.heap.size [.string ⟨#[]⟩, .int .i64 0, .bool false]) := Lib.hid (by rw [hw0]; exact MT.new w _ _)
 have HR0 := Lib.hid (h.below hb0)
 have HK0 : Hid (KR R w w0) := Lib.hid (KR.of_below hb0 (Nat.le_of_lt h.lt))
 have HW0 := Lib.hid hw0
 have HZ0 := Lib.hid hz0
 clear hb0 hw0 hsl h hz0 hrest
 go_enter Tryz.func58, Tryz.ntmps58
 go_upto_region 1 with fail
 rw [← HW0.out]
 go_wp2_with fail
 refine (H0.out w0 HZ0.out HR0.out (HSL.out.below HK0.out.1)).mono ?_
 intro e w1 h
 rcases h with ⟨z, rfl, hr, hk⟩ | ⟨z, rfl, hk⟩
 rotate_left
 · have HZ := Lib.hid z
   have HQ := Lib.hid (E1.out z)
   have HK := Lib.hid (HK0.out.trans hk)
   clear z hk
   unfold pan
   go_wp2_with fail
   exact ⟨rfl, .inr ⟨by rw [HQ.out]; exact HZ.out, by rw [HQ.out]; rfl, HK.out⟩⟩
 have HZ1 := Lib.hid z
 have HR1 := Lib.hid hr
 have HM1 : Hid (MT 49 w1 w.heap.size [.string ⟨#[]⟩, .int .i64 0, .bool false]) := Lib.hid ((hk.2 _ HM0.out.lt (Nat.ne_of_gt hRw)).trans HM0.out)
 have HK1 := Lib.hid (HK0.out.trans hk)
 clear z hr hk HM0 HK0 HR0 HZ0 H0
 go_wp2_with fail
 refine (H1.out w1 HZ1.out HR1.out (HSL.out.below HK1.out.1)).mono ?_
 intro e w2 h
 rcases h with ⟨z, rfl, hr, hk⟩ | ⟨z, rfl, hk⟩
 rotate_left
 · have HZ := Lib.hid z
   have HQ := Lib.hid (E2.out z)
   have HK := Lib.hid (HK1.out.trans hk)
   clear z hk
   unfold pan
   go_wp2_with fail
   exact ⟨rfl, .inr ⟨by rw [HQ.out]; exact HZ.out, by rw [HQ.out]; rfl, HK.out⟩⟩
 have HZ2 := Lib.hid z
 have HR2 := Lib.hid hr
 have HM2 : Hid (MT 49 w2 w.heap.size [.string ⟨#[]⟩, .int .i64 0, .bool false]) := Lib.hid ((hk.2 _ HM1.out.lt (Nat.ne_of_gt hRw)).trans HM1.out)
 have HK2 := Lib.hid (HK1.out.trans hk)
 clear z hr hk HM1 HK1 HR1 HZ1 H1
 go_wp2_with fail
 refine (H2.out w2 HZ2.out HR2.out (HSL.out.below HK2.out.1)).mono ?_
 intro e w3 h
 rcases h with ⟨z, rfl, hr, hk⟩ | ⟨z, rfl, hk⟩
 rotate_left
 · have HZ := Lib.hid z
   have HK := Lib.hid (HK2.out.trans hk)
   clear z hk
   unfold pan
   go_wp2_with fail
   exact ⟨rfl, .inr ⟨HZ.out, rfl, HK.out⟩⟩
 have HZ3 := Lib.hid z
 have HR3 := Lib.hid hr
 have HM3 : Hid (MT 49 w3 w.heap.size [.string ⟨#[]⟩, .int .i64 0, .bool false]) := Lib.hid ((hk.2 _ HM2.out.lt (Nat.ne_of_gt hRw)).trans HM2.out)
 have HK3 := Lib.hid (HK2.out.trans hk)
 clear z hr hk HM2 HK2 HR2 HZ2 H2
 have c0 : w3.cell? ⟨w.heap.size, 0, none⟩ = some (.string ⟨#[]⟩) := HM3.out.cell 0
 have z0 : w3.frozen? ⟨w.heap.size, 0, none⟩ = false := HM3.out.free 0
 have c1 : w3.cell? ⟨w.heap.size, 1, none⟩ = some (.int .i64 0) := HM3.out.cell 1
 have z1 : w3.frozen? ⟨w.heap.size, 1, none⟩ = false := HM3.out.free 1
 have c2 : w3.cell? ⟨w.heap.size, 2, none⟩ = some (.bool false) := HM3.out.cell 2
 have z2 : w3.frozen? ⟨w.heap.size, 2, none⟩ = false := HM3.out.free 2
 obtain ⟨wX, hwX⟩ : ∃ wX, wX = w3.setCells w.heap.size 0 [.string a0, .int .i64 a1, .bool a2] := ⟨_, rfl⟩
 have hmX : MT 49 wX w.heap.size [.string a0, .int .i64 a1, .bool a2] := by rw [hwX]; exact MT.set (MT.set (MT.set (HM3.out) 0 (.string a0)) 1 (.int .i64 a1)) 2 (.bool a2)
 have hrX : RP wX R A c l s3.1 := by rw [hwX]; exact RP.cells (by omega) _ 0 _ HR3.out
 have hkX : KR R w wX := by rw [hwX]; exact KR.cells (Nat.le_refl _) (by omega) _ 0 _ HK3.out
 have HRX := Lib.hid hrX
 have HKX := Lib.hid hkX
 have HWX := Lib.hid hwX
 have y0 : wX.cell? ⟨w.heap.size, 0, none⟩ = some (.string a0) := hmX.cell 0
 have y1 : wX.cell? ⟨w.heap.size, 1, none⟩ = some (.int .i64 a1) := hmX.cell 1
 have y2 : wX.cell? ⟨w.heap.size, 2, none⟩ = some (.bool a2) := hmX.cell 2
 clear hrX hkX hwX hmX
 go_wp2
 change bodyPost _ _ _ _ _ (World.setCells w3 w.heap.size 0 [.string a0, .int .i64 a1, .bool a2])
 rw [← HWX.out]
 refine bodyPost_ret (v := .agg #[.string a0, .int .i64 a1, .bool a2]) (by simp [results, Tryz.results58, go_sem, y0, y1, y2]) rfl (.inl ⟨HZ3.out, rfl, HRX.out, HKX.out⟩)

theorem xProp_any (R : Nat) (A : Option Addr) (c : Nat) (l : List UInt8) (s0 : Int × Int) (hz0 : s0.2 = 0) (w : World) (h : RP w R A c l s0.1) (hsl : CL bv w R A l) (hc : l.length ≤ c) (hn : l.length ≤ 140737488355328) :
 Calls Tryz.prog 89 #[.pointer (some ⟨R, 0, none⟩)] w (RetX R A c l (.agg #[.string (sProp l s0).1.1, .string (sProp l s0).1.2]) (sProp l s0).2 w) := by
 unfold sProp
 dsimp only
 have H0 : Hid (∀ w, s0.2 = 0 → RP w R A c l s0.1 → CL bv w R A l → Calls Tryz.prog 85 #[.pointer (some ⟨R, 0, none⟩), .int .i64 16] w (RetX R A c l (.string ((sText l 16 s0).1)) (sText l 16 s0).2 w)) := Lib.hid (fun wv hzv hv hsv => by
  obtain ⟨q, z⟩ := s0
  dsimp only at hzv hv ⊢
  subst hzv
  exact xText_any R A c l 16 q wv hv hsv hc hn)
 have B0 : Hid (s0.2 ≠ 0 → (sText l 16 s0).2 = s0) := Lib.hid (fun h => by rw [sText_bad h])
 generalize sText l 16 s0 = r0 at H0 B0 ⊢
 obtain ⟨a0, s1⟩ := r0
 dsimp only at H0 B0 ⊢
 have H1 : Hid (∀ w, s1.2 = 0 → RP w R A c l s1.1 → CL bv w R A l → Calls Tryz.prog 85 #[.pointer (some ⟨R, 0, none⟩), .int .i64 160] w (RetX R A c l (.string ((sText l 160 s1).1)) (sText l 160 s1).2 w)) := Lib.hid (fun wv hzv hv hsv => by
  obtain ⟨q, z⟩ := s1
  dsimp only at hzv hv ⊢
  subst hzv
  exact xText_any R A c l 160 q wv hv hsv hc hn)
 have B1 : Hid (s1.2 ≠ 0 → (sText l 160 s1).2 = s1) := Lib.hid (fun h => by rw [sText_bad h])
 generalize sText l 160 s1 = r1 at H1 B1 ⊢
 obtain ⟨a1, s2⟩ := r1
 dsimp only at H1 B1 ⊢
 have E2 : Hid (s2.2 ≠ 0 → s2 = s2) := Lib.hid (fun _ => rfl)
 have E1 : Hid (s1.2 ≠ 0 → s2 = s1) := Lib.hid (fun h => (E2.out (by rw [B1.out h]; exact h)).trans (B1.out h))
 clear hc hn B0 B1
 have HSL := Lib.hid hsl
 have hRw := h.lt
 have hrest := Lib.hid hz0
 obtain ⟨w0, hw0⟩ : ∃ w0, w0 = w.alloc (.cells #[.string ⟨#[]⟩, .string ⟨#[]⟩] 114) := ⟨_, rfl⟩
 have hb0 : Below w.heap.size w w0 := by rw [hw0]; exact belA _ _
 have HM0 : Hid (MT 114 w0 w.heap.size [.string ⟨#[]⟩, .string ⟨#[]⟩]) := Lib.hid (by rw [hw0]; exact MT.new w _ _)
 have HR0 := Lib.hid (h.below hb0)
 have HK0 : Hid (KR R w w0) := Lib.hid (KR.of_below hb0 (Nat.le_of_lt h.lt))
 have HW0 := Lib.hid hw0
 have HZ0 := Lib.hid hz0
 clear hb0 hw0 hsl h hz0 hrest
 go_enter Tryz.func89, Tryz.ntmps89
 go_upto_region 1 with fail
 rw [← HW0.out]
 go_wp2_with fail
 refine (H0.out w0 HZ0.out HR0.out (HSL.out.below HK0.out.1)).mono ?_
 intro e w1 h
 rcases h with ⟨z, rfl, hr, hk⟩ | ⟨z, rfl, hk⟩
 rotate_left
 · have HZ := Lib.hid z
   have HQ := Lib.hid (E1.out z)
   have HK := Lib.hid (HK0.out.trans hk)
   clear z hk
   unfold pan
   go_wp2_with fail
   exact ⟨rfl, .inr ⟨by rw [HQ.out]; exact HZ.out, by rw [HQ.out]; rfl, HK.out⟩⟩
 have HZ1 := Lib.hid z
 have HR1 := Lib.hid hr
 have HM1 : Hid (MT 114 w1 w.heap.size [.string ⟨#[]⟩, .string ⟨#[]⟩]) := Lib.hid ((hk.2 _ HM0.out.lt (Nat.ne_of_gt hRw)).trans HM0.out)
 have HK1 := Lib.hid (HK0.out.trans hk)
 clear z hr hk HM0 HK0 HR0 HZ0 H0
 go_wp2_with fail
 refine (H1.out w1 HZ1.out HR1.out (HSL.out.below HK1.out.1)).mono ?_
 intro e w2 h
 rcases h with ⟨z, rfl, hr, hk⟩ | ⟨z, rfl, hk⟩
 rotate_left
 · have HZ := Lib.hid z
   have HK := Lib.hid (HK1.out.trans hk)
   clear z hk
   unfold pan
   go_wp2_with fail
   exact ⟨rfl, .inr ⟨HZ.out, rfl, HK.out⟩⟩
 have HZ2 := Lib.hid z
 have HR2 := Lib.hid hr
 have HM2 : Hid (MT 114 w2 w.heap.size [.string ⟨#[]⟩, .string ⟨#[]⟩]) := Lib.hid ((hk.2 _ HM1.out.lt (Nat.ne_of_gt hRw)).trans HM1.out)
 have HK2 := Lib.hid (HK1.out.trans hk)
 clear z hr hk HM1 HK1 HR1 HZ1 H1
 have c0 : w2.cell? ⟨w.heap.size, 0, none⟩ = some (.string ⟨#[]⟩) := HM2.out.cell 0
 have z0 : w2.frozen? ⟨w.heap.size, 0, none⟩ = false := HM2.out.free 0
 have c1 : w2.cell? ⟨w.heap.size, 1, none⟩ = some (.string ⟨#[]⟩) := HM2.out.cell 1
 have z1 : w2.frozen? ⟨w.heap.size, 1, none⟩ = false := HM2.out.free 1
 obtain ⟨wX, hwX⟩ : ∃ wX, wX = w2.setCells w.heap.size 0 [.string a0, .string a1] := ⟨_, rfl⟩
 have hmX : MT 114 wX w.heap.size [.string a0, .string a1] := by rw [hwX]; exact MT.set (MT.set (HM2.out) 0 (.string a0)) 1 (.string a1)
 have hrX : RP wX R A c l s2.1 := by rw [hwX]; exact RP.cells (by omega) _ 0 _ HR2.out
 have hkX : KR R w wX := by rw [hwX]; exact KR.cells (Nat.le_refl _) (by omega) _ 0 _ HK2.out
 have HRX := Lib.hid hrX
 have HKX := Lib.hid hkX
 have HWX := Lib.hid hwX
 have y0 : wX.cell? ⟨w.heap.size, 0, none⟩ = some (.string a0) := hmX.cell 0
 have y1 : wX.cell? ⟨w.heap.size, 1, none⟩ = some (.string a1) := hmX.cell 1
 clear hrX hkX hwX hmX
 go_wp2
 change bodyPost _ _ _ _ _ (World.setCells w2 w.heap.size 0 [.string a0, .string a1])
 rw [← HWX.out]
 refine bodyPost_ret (v := .agg #[.string a0, .string a1]) (by simp [results, Tryz.results89, go_sem, y0, y1]) rfl (.inl ⟨HZ2.out, rfl, HRX.out, HKX.out⟩)

/-- a list was handed back, or it panicked -/
def RetXL (R : Nat) (A : Option Addr) (c : Nat) (l : List UInt8) (P : World → Value → Prop) (st : Int × Int) (w : World) (e : Ending) (w' : World) : Prop :=
 (st.2 = 0 ∧ (∃ v, e = .returned v ∧ P w' v) ∧ RP w' R A c l st.1 ∧ KR R w w') ∨ (st.2 ≠ 0 ∧ e = pan st.2 ∧ KR R w w')
theorem infoSub : (Tryz.prog.info? 49).map (fun i => (i.zero, i.size, i.bytes)) = some (some (.agg #[.string ByteArray.empty, .int .i64 0, .bool false]), 3, 32) := by kernel_rfl
theorem infoInt : (Tryz.prog.info? 3).map (fun i => (i.zero, i.size, i.bytes)) = some (some (.int .i64 0), 1, 8) := by kernel_rfl
section
variable {ops : Array Oper} {rest : List Oper} {o : Oper} {a : Act} {Q : Exit → Act → World → Prop}
/-- append of one subscription that was just laid in a block of its own -/
theorem wpList_appSb (wr : World) (hgd : o.guard = none) (s x : Operand) (ho : o.op = .call { callee := .builtin .append, args := #[s, x], argTypes := #[34, 34] })
 (B : Nat) (v : Value) (xs : List SB) (y : SB) (hown : OwnG 49 gS 3 wr B v xs) (hs : a.eval s = v) (hx : a.eval x = .slice (some ⟨wr.heap.size, 0, none⟩) 1 1) (w0 : World) (hb : Below B w0 wr) (hB : B ≤ wr.heap.size)
 (hn : xs.length ≤ 100000) (h : ∀ v' w', OwnG 49 gS 3 w' B v' (xs ++ [y]) → Below B w0 w' → B ≤ w'.heap.size → wpList Tryz.prog ops Q rest (a.put o.dst v') w') : wpList Tryz.prog ops Q (o :: rest) a (wr.alloc (.cells #[.string y.1, .int .i64 y.2.1, .bool y.2.2] 49)) :=
 wpList_appG (g := gS) (k := 3) (e := 49) (by decide) (wr.alloc (.cells (gS y).toArray 49)) hgd s x 34 34 ho (.agg #[.string ByteArray.empty, .int .i64 0, .bool false]) 32 Tryz.underlying34 infoSub rfl (by decide) B v xs [y] hs (hown.alloc _) _ hx (srcG_one gS_len gS_one Tryz.underlying34 wr y) w0 (hb.alloc hB _) (by simp; omega) (by simp; omega) h
theorem wpList_appI (wr : World) (hgd : o.guard = none) (s x : Operand) (ho : o.op = .call { callee := .builtin .append, args := #[s, x], argTypes := #[36, 36] })
 (B : Nat) (v : Value) (xs : List Int) (y : Int) (hs : a.eval s = v) (hown : Own 3 iv wr B v xs) (hx : a.eval x = .slice (some ⟨wr.heap.size, 0, none⟩) 1 1) (w0 : World) (hb : Below B w0 wr) (hB : B ≤ wr.heap.size)
 (hn : xs.length ≤ 100000) (h : ∀ v' w', Own 3 iv w' B v' (xs ++ [y]) → Below B w0 w' → B ≤ w'.heap.size → wpList Tryz.prog ops Q rest (a.put o.dst v') w') : wpList Tryz.prog ops Q (o :: rest) a (wr.alloc (.cells #[.int .i64 y] 3)) :=
 wpList_app _ hgd s x 36 36 ho (.int .i64 0) 8 Tryz.underlying36 infoInt rfl (by decide) B v xs [y] hs (hown.alloc _) _ hx 1 (src_one Tryz.underlying36 wr y _ rfl rfl) w0 (hb.alloc hB _) (by simp; omega) (by simp; omega) h
end
theorem own_kr {α : Type} {f : α → Value} {e : TypeId} {w w1 : World} {R B : Nat} {v : Value} {xs : List α} (h : KR R w w1) (hR : R < B) (ho : Own e f w B v xs) : Own e f w1 B v xs := by
 unfold Own at ho ⊢
 refine ⟨ho.1, ?_⟩
 rcases ho.2 with h0 | ⟨q, cap, cur, rfl, hb, hq, hnc, hcm, hcs, htake⟩
 · exact .inl h0
 · exact .inr ⟨q, cap, cur, rfl, hb, by rw [h.2 q (Array.getElem?_eq_some_iff.1 hq).1 (by omega)]; exact hq, hnc, hcm, hcs, htake⟩
theorem ownG_kr {α : Type} {g : α → List Value} {k : Nat} {e : TypeId} {w w1 : World} {R B : Nat} {v : Value} {xs : List α} (h : KR R w w1) (hR : R < B) (ho : OwnG e g k w B v xs) : OwnG e g k w1 B v xs := by
 unfold OwnG at ho ⊢
 refine ⟨ho.1, ?_⟩
 rcases ho.2 with h0 | ⟨q, cap, cur, rfl, hb, hq, hnc, hcm, hcs, htake⟩
 · exact .inl h0
 · exact .inr ⟨q, cap, cur, rfl, hb, by rw [h.2 q (Array.getElem?_eq_some_iff.1 hq).1 (by omega)]; exact hq, hnc, hcm, hcs, htake⟩

theorem xElS_any (R : Nat) (A : Option Addr) (c : Nat) (l : List UInt8) (p : Int) (w : World) (h : RP w R A c l p) (hsl : CL bv w R A l) (hc : l.length ≤ c) (hn : l.length ≤ 140737488355328) :
 Calls Tryz.prog 57 #[.pointer (some ⟨R, 0, none⟩), .int .i64 32, .func (.func 58) #[.pointer (some ⟨R, 0, none⟩)] #[]] w
  (RetXL R A c l (fun w' v => OwnG 49 gS 3 w' w.heap.size v (sList (sSub l) (sCount l 32 (p, 0)).1.toNat (sCount l 32 (p, 0)).2 []).1) (sList (sSub l) (sCount l 32 (p, 0)).1.toNat (sCount l 32 (p, 0)).2 []).2 w) := by
 have hcn := xNum_any R A c l p w h hsl hc hn
 have hE := sCount_num l 32 p
 generalize sNum l (p, 0) = r at hcn hE
 obtain ⟨n, s1⟩ := r
 dsimp only at hcn hE
 have HN := Lib.hid hcn
 have hRw := h.lt
 have HSL := Lib.hid hsl
 have HC := Lib.hid hc
 have HLN := Lib.hid hn
 clear hcn hsl h hc hn
 by_cases he : s1.2 = 0
 case neg =>
  have HV : Hid (sList (sSub l) (sCount l 32 (p, 0)).1.toNat (sCount l 32 (p, 0)).2 [] = ([], s1)) := Lib.hid (by rw [hE, if_pos he]; rfl)
  have HE := Lib.hid he
  clear hE he
  rw [HV.out]
  go_enter Tryz.func57, Tryz.ntmps57
  go_wp2_with fail
  refine HN.out.mono ?_
  intro e w1 h
  rcases h with ⟨z, _, _, _⟩ | ⟨z, rfl, hk⟩
  · exact absurd z HE.out
  · have HK := Lib.hid hk
    clear z hk
    unfold pan
    go_wp2_with fail
    exact ⟨rfl, .inr ⟨HE.out, rfl, HK.out⟩⟩
 rw [if_neg (by simpa using he)] at hE
 have HE := Lib.hid he
 by_cases h1 : n < 0
 · have HV : Hid (sList (sSub l) (sCount l 32 (p, 0)).1.toNat (sCount l 32 (p, 0)).2 [] = ([], (p, 2))) := Lib.hid (by rw [hE, if_pos h1]; rfl)
   have q1 : decide (n < 0) = true := decide_eq_true h1
   clear hE he h1
   rw [HV.out]
   go_enter Tryz.func57, Tryz.ntmps57
   go_wp2_with fail
   refine HN.out.mono ?_
   intro e w1 h
   rcases h with ⟨z, rfl, hr, hk⟩ | ⟨z, _, _⟩
   · have HK := Lib.hid hk
     clear z hk hr
     go_wp2
     exact ⟨rfl, .inr ⟨(by show (2 : Int) ≠ 0; decide), rfl, HK.out⟩⟩
   · exact absurd HE.out z
 rw [if_neg h1] at hE
 have q1 : decide (n < 0) = false := decide_eq_false h1
 by_cases h8 : 32 < n
 · have HV : Hid (sList (sSub l) (sCount l 32 (p, 0)).1.toNat (sCount l 32 (p, 0)).2 [] = ([], (p, 5))) := Lib.hid (by rw [hE, if_pos h8]; rfl)
   have q2 : decide (32 < n) = true := decide_eq_true h8
   clear hE he h1 h8
   rw [HV.out]
   go_enter Tryz.func57, Tryz.ntmps57
   go_wp2_with fail
   refine HN.out.mono ?_
   intro e w1 h
   rcases h with ⟨z, rfl, hr, hk⟩ | ⟨z, _, _⟩
   · have HK := Lib.hid hk
     clear z hk hr
     go_wp2
     exact ⟨rfl, .inr ⟨(by show (5 : Int) ≠ 0; decide), rfl, HK.out⟩⟩
   · exact absurd HE.out z
 rw [if_neg h8] at hE
 have q2 : decide (32 < n) = false := decide_eq_false h8
 rw [hE]
 dsimp only
 obtain ⟨N, rfl⟩ : ∃ N : Nat, n = N := ⟨n.toNat, by omega⟩
 rw [Int.toNat_natCast]
 obtain ⟨q, z1⟩ := s1
 dsimp only at he
 subst he
 obtain ⟨FIN, hFIN⟩ : ∃ F, F = sList (sSub l) N (q, 0) [] := ⟨_, rfl⟩
 rw [← hFIN]
 have HF := Lib.hid hFIN
 have hN8 : N ≤ 32 := by omega
 clear h1 h8 hE hFIN
 go_enter Tryz.func57, Tryz.ntmps57
 go_wp2_with fail
 refine HN.out.mono ?_
 intro e w1 h
 rcases h with ⟨z, rfl, hr, hk⟩ | ⟨z, _, _⟩
 case inr => exact absurd rfl z
 have HR := Lib.hid hr
 have HK := Lib.hid hk
 clear z hr hk
 go_wp2
 go_loopg [8, 21] N (fun g u i wr => ∃ (k : Nat) (acc : List SB) (q : Int), k + g = N ∧ acc.length = k ∧ i = .int .i64 k ∧ OwnG 49 gS 3 wr w.heap.size u acc ∧ RP wr R A c l q ∧ KR R w wr ∧ FIN = sList (sSub l) g (q, 0) acc)
 case atStart => exact ⟨0, [], q, by omega, rfl, rfl, OwnG.nil _ _, HR.out, HK.out, HF.out⟩
 case round =>
  obtain ⟨k, acc, q, hkg, hacc, rfl, hown, hr, hk, hf⟩ := hrel
  have HO := Lib.hid hown
  have HRk := Lib.hid hr
  have HKk := Lib.hid hk
  have HG := Lib.hid hkg
  have hal : acc.length ≤ 32 := by omega
  have HAL := Lib.hid hacc
  have HFk := Lib.hid hf
  clear hown hr hk hf hacc HF HR HK
  cases gk with
  | zero =>
    obtain rfl : k = N := by omega
    have HE : Hid (FIN = (acc, (q, 0))) := Lib.hid HFk.out
    clear hkg HFk
    go_wp2
    go_ret
    rw [HE.out]
    exact .inl ⟨rfl, ⟨_, rfl, HO.out⟩, HRk.out, HKk.out⟩
  | succ g =>
    have hlt : k < N := by omega
    have e3 : decide ((k : Int) < (N : Int)) = true := decide_eq_true (by omega)
    have HT : Hid (Calls Tryz.prog 58 #[.pointer (some ⟨R, 0, none⟩)] wr (RetX R A c l (.agg #[.string ((sSub l) (q, 0)).1.1, .int .i64 ((sSub l) (q, 0)).1.2.1, .bool ((sSub l) (q, 0)).1.2.2]) ((sSub l) (q, 0)).2 wr)) := Lib.hid (xSub_any R A c l (q, 0) rfl wr HRk.out (HSL.out.below HKk.out.1) HC.out HLN.out)
    have HSTEP : Hid (FIN = sList (sSub l) g ((sSub l) (q, 0)).2 (acc ++ [((sSub l) (q, 0)).1])) := Lib.hid (by rw [HFk.out, sList, if_neg (by simp)])
    generalize (sSub l) (q, 0) = rr at HT HSTEP
    obtain ⟨y, q2, z2⟩ := rr
    dsimp only at HT HSTEP
    clear hkg HFk
    go_wp2_with fail
    refine HT.out.mono ?_
    intro e wb h
    rcases h with ⟨z, rfl, hr, hk⟩ | ⟨z, rfl, hk⟩
    · dsimp only at z
      subst z
      have HD2 := Lib.hid hr
      have HO2 := Lib.hid (ownG_kr hk hRw HO.out)
      have HK2 := Lib.hid (HKk.out.trans hk)
      clear hr hk HT HO HRk HKk
      go_wp2_with (at_builtin; go_must (refine wpList_appSb wb rfl _ _ rfl w.heap.size _ acc y HO2.out rfl rfl wb (Below.refl _ _) HK2.out.size (by omega) ?_); intro v' w3 hown' hb' hsz')
      have HO3 := Lib.hid hown'
      have HK3 := Lib.hid (HK2.out.base hb' (Nat.le_refl _) (Nat.le_of_lt hRw))
      have HD3 := Lib.hid (HD2.out.to (hb'.block R hRw))
      clear hown' hb'
      go_wp2
      go_roundg g
      case measure => omega
      case rel => exact ⟨k + 1, acc ++ [y], q2, by have := HG.out; omega, by have := HAL.out; simp; omega, by go_num, HO3.out, HD3.out, HK3.out, HSTEP.out⟩
    · have HV : Hid (FIN.2 = (q2, z2)) := Lib.hid (by rw [HSTEP.out, sList_bad z])
      have HZ := Lib.hid z
      have HK2 := Lib.hid (HKk.out.trans hk)
      clear z hk HT
      unfold pan
      go_wp2_with fail
      exact ⟨rfl, .inr ⟨by rw [HV.out]; exact HZ.out, by rw [HV.out]; rfl, HK2.out⟩⟩

theorem xElI_any (R : Nat) (A : Option Addr) (c : Nat) (l : List UInt8) (p : Int) (w : World) (h : RP w R A c l p) (hsl : CL bv w R A l) (hc : l.length ≤ c) (hn : l.length ≤ 140737488355328) :
 Calls Tryz.prog 59 #[.pointer (some ⟨R, 0, none⟩), .int .i64 32, .func (.func 53) #[.pointer (some ⟨R, 0, none⟩)] #[]] w
  (RetXL R A c l (fun w' v => Own 3 iv w' w.heap.size v (sList (sNum l) (sCount l 32 (p, 0)).1.toNat (sCount l 32 (p, 0)).2 []).1) (sList (sNum l) (sCount l 32 (p, 0)).1.toNat (sCount l 32 (p, 0)).2 []).2 w) := by
 have hcn := xNum_any R A c l p w h hsl hc hn
 have hE := sCount_num l 32 p
 generalize sNum l (p, 0) = r at hcn hE
 obtain ⟨n, s1⟩ := r
 dsimp only at hcn hE
 have HN := Lib.hid hcn
 have hRw := h.lt
 have HSL := Lib.hid hsl
 have HC := Lib.hid hc
 have HLN := Lib.hid hn
 clear hcn hsl h hc hn
 by_cases he : s1.2 = 0
 case neg =>
  have HV : Hid (sList (sNum l) (sCount l 32 (p, 0)).1.toNat (sCount l 32 (p, 0)).2 [] = ([], s1)) := Lib.hid (by rw [hE, if_pos he]; rfl)
  have HE := Lib.hid he
  clear hE he
  rw [HV.out]
  go_enter Tryz.func59, Tryz.ntmps59
  go_wp2_with fail
  refine HN.out.mono ?_
  intro e w1 h
  rcases h with ⟨z, _, _, _⟩ | ⟨z, rfl, hk⟩
  · exact absurd z HE.out
  · have HK := Lib.hid hk
    clear z hk
    unfold pan
    go_wp2_with fail
    exact ⟨rfl, .inr ⟨HE.out, rfl, HK.out⟩⟩
 rw [if_neg (by simpa using he)] at hE
 have HE := Lib.hid he
 by_cases h1 : n < 0
 · have HV : Hid (sList (sNum l) (sCount l 32 (p, 0)).1.toNat (sCount l 32 (p, 0)).2 [] = ([], (p, 2))) := Lib.hid (by rw [hE, if_pos h1]; rfl)
   have q1 : decide (n < 0) = true := decide_eq_true h1
   clear hE he h1
   rw [HV.out]
   go_enter Tryz.func59, Tryz.ntmps59
   go_wp2_with fail
   refine HN.out.mono ?_
   intro e w1 h
   rcases h with ⟨z, rfl, hr, hk⟩ | ⟨z, _, _⟩
   · have HK := Lib.hid hk
     clear z hk hr
     go_wp2
     exact ⟨rfl, .inr ⟨(by show (2 : Int) ≠ 0; decide), rfl, HK.out⟩⟩
   · exact absurd HE.out z
 rw [if_neg h1] at hE
 have q1 : decide (n < 0) = false := decide_eq_false h1
 by_cases h8 : 32 < n
 · have HV : Hid (sList (sNum l) (sCount l 32 (p, 0)).1.toNat (sCount l 32 (p, 0)).2 [] = ([], (p, 5))) := Lib.hid (by rw [hE, if_pos h8]; rfl)
   have q2 : decide (32 < n) = true := decide_eq_true h8
   clear hE he h1 h8
   rw [HV.out]
   go_enter Tryz.func59, Tryz.ntmps59
   go_wp2_with fail
   refine HN.out.mono ?_
   intro e w1 h
   rcases h with ⟨z, rfl, hr, hk⟩ | ⟨z, _, _⟩
   · have HK := Lib.hid hk
     clear z hk hr
     go_wp2
     exact ⟨rfl, .inr ⟨(by show (5 : Int) ≠ 0; decide), rfl, HK.out⟩⟩
   · exact absurd HE.out z
 rw [if_neg h8] at hE
 have q2 : decide (32 < n) = false := decide_eq_false h8
 rw [hE]
 dsimp only
 obtain ⟨N, rfl⟩ : ∃ N : Nat, n = N := ⟨n.toNat, by omega⟩
 rw [Int.toNat_natCast]
 obtain ⟨q, z1⟩ := s1
 dsimp only at he
 subst he
 obtain ⟨FIN, hFIN⟩ : ∃ F, F = sList (sNum l) N (q, 0) [] := ⟨_, rfl⟩
 rw [← hFIN]
 have HF := Lib.hid hFIN
 have hN8 : N ≤ 32 := by omega
 clear h1 h8 hE hFIN
 go_enter Tryz.func59, Tryz.ntmps59
 go_wp2_with fail
 refine HN.out.mono ?_
 intro e w1 h
 rcases h with ⟨z, rfl, hr, hk⟩ | ⟨z, _, _⟩
 case inr => exact absurd rfl z
 have HR := Lib.hid hr
 have HK := Lib.hid hk
 clear z hr hk
 go_wp2
 go_loopg [8, 21] N (fun g u i wr => ∃ (k : Nat) (acc : List Int) (q : Int), k + g = N ∧ acc.length = k ∧ i = .int .i64 k ∧ Own 3 iv wr w.heap.size u acc ∧ RP wr R A c l q ∧ KR R w wr ∧ FIN = sList (sNum l) g (q, 0) acc)
 case atStart => exact ⟨0, [], q, by omega, rfl, rfl, Own.nil _ _, HR.out, HK.out, HF.out⟩
 case round =>
  obtain ⟨k, acc, q, hkg, hacc, rfl, hown, hr, hk, hf⟩ := hrel
  have HO := Lib.hid hown
  have HRk := Lib.hid hr
  have HKk := Lib.hid hk
  have HG := Lib.hid hkg
  have hal : acc.length ≤ 32 := by omega
  have HAL := Lib.hid hacc
  have HFk := Lib.hid hf
  clear hown hr hk hf hacc HF HR HK
  cases gk with
  | zero =>
    obtain rfl : k = N := by omega
    have HE : Hid (FIN = (acc, (q, 0))) := Lib.hid HFk.out
    clear hkg HFk
    go_wp2
    go_ret
    rw [HE.out]
    exact .inl ⟨rfl, ⟨_, rfl, HO.out⟩, HRk.out, HKk.out⟩
  | succ g =>
    have hlt : k < N := by omega
    have e3 : decide ((k : Int) < (N : Int)) = true := decide_eq_true (by omega)
    have HT : Hid (Calls Tryz.prog 53 #[.pointer (some ⟨R, 0, none⟩)] wr (RetX R A c l (.int .i64 ((sNum l) (q, 0)).1) ((sNum l) (q, 0)).2 wr)) := Lib.hid (xNum_any R A c l q wr HRk.out (HSL.out.below HKk.out.1) HC.out HLN.out)
    have HSTEP : Hid (FIN = sList (sNum l) g ((sNum l) (q, 0)).2 (acc ++ [((sNum l) (q, 0)).1])) := Lib.hid (by rw [HFk.out, sList, if_neg (by simp)])
    generalize (sNum l) (q, 0) = rr at HT HSTEP
    obtain ⟨y, q2, z2⟩ := rr
    dsimp only at HT HSTEP
    clear hkg HFk
    go_wp2_with fail
    refine HT.out.mono ?_
    intro e wb h
    rcases h with ⟨z, rfl, hr, hk⟩ | ⟨z, rfl, hk⟩
    · dsimp only at z
      subst z
      have HD2 := Lib.hid hr
      have HO2 := Lib.hid (own_kr hk hRw HO.out)
      have HK2 := Lib.hid (HKk.out.trans hk)
      clear hr hk HT HO HRk HKk
      go_wp2_with (at_builtin; go_must (refine wpList_appI wb rfl (.tmp 23) (.tmp 26) rfl w.heap.size u8 acc y rfl HO2.out rfl wb (Below.refl _ _) HK2.out.size (by omega) ?_); intro v' w3 hown' hb' hsz')
      have HO3 := Lib.hid hown'
      have HK3 := Lib.hid (HK2.out.base hb' (Nat.le_refl _) (Nat.le_of_lt hRw))
      have HD3 := Lib.hid (HD2.out.to (hb'.block R hRw))
      clear hown' hb'
      go_wp2
      go_roundg g
      case measure => omega
      case rel => exact ⟨k + 1, acc ++ [y], q2, by have := HG.out; omega, by have := HAL.out; simp; omega, by go_num, HO3.out, HD3.out, HK3.out, HSTEP.out⟩
    · have HV : Hid (FIN.2 = (q2, z2)) := Lib.hid (by rw [HSTEP.out, sList_bad z])
      have HZ := Lib.hid z
      have HK2 := Lib.hid (HKk.out.trans hk)
      clear z hk HT
      unfold pan
      go_wp2_with fail
      exact ⟨rfl, .inr ⟨by rw [HV.out]; exact HZ.out, by rw [HV.out]; rfl, HK2.out⟩⟩

theorem xElT_any (R : Nat) (A : Option Addr) (c : Nat) (l : List UInt8) (p : Int) (w : World) (h : RP w R A c l p) (hsl : CL bv w R A l) (hc : l.length ≤ c) (hn : l.length ≤ 140737488355328) :
 Calls Tryz.prog 60 #[.pointer (some ⟨R, 0, none⟩), .int .i64 32, .func (.func 61) #[.pointer (some ⟨R, 0, none⟩)] #[]] w
  (RetXL R A c l (fun w' v => Own 9 Value.string w' w.heap.size v (sList (sText l 88) (sCount l 32 (p, 0)).1.toNat (sCount l 32 (p, 0)).2 []).1) (sList (sText l 88) (sCount l 32 (p, 0)).1.toNat (sCount l 32 (p, 0)).2 []).2 w) := by
 have hcn := xNum_any R A c l p w h hsl hc hn
 have hE := sCount_num l 32 p
 generalize sNum l (p, 0) = r at hcn hE
 obtain ⟨n, s1⟩ := r
 dsimp only at hcn hE
 have HN := Lib.hid hcn
 have hRw := h.lt
 have HSL := Lib.hid hsl
 have HC := Lib.hid hc
 have HLN := Lib.hid hn
 clear hcn hsl h hc hn
 by_cases he : s1.2 = 0
 case neg =>
  have HV : Hid (sList (sText l 88) (sCount l 32 (p, 0)).1.toNat (sCount l 32 (p, 0)).2 [] = ([], s1)) := Lib.hid (by rw [hE, if_pos he]; rfl)
  have HE := Lib.hid he
  clear hE he
  rw [HV.out]
  go_enter Tryz.func60, Tryz.ntmps60
  go_wp2_with fail
  refine HN.out.mono ?_
  intro e w1 h
  rcases h with ⟨z, _, _, _⟩ | ⟨z, rfl, hk⟩
  · exact absurd z HE.out
  · have HK := Lib.hid hk
    clear z hk
    unfold pan
    go_wp2_with fail
    exact ⟨rfl, .inr ⟨HE.out, rfl, HK.out⟩⟩
 rw [if_neg (by simpa using he)] at hE
 have HE := Lib.hid he
 by_cases h1 : n < 0
 · have HV : Hid (sList (sText l 88) (sCount l 32 (p, 0)).1.toNat (sCount l 32 (p, 0)).2 [] = ([], (p, 2))) := Lib.hid (by rw [hE, if_pos h1]; rfl)
   have q1 : decide (n < 0) = true := decide_eq_true h1
   clear hE he h1
   rw [HV.out]
   go_enter Tryz.func60, Tryz.ntmps60
   go_wp2_with fail
   refine HN.out.mono ?_
   intro e w1 h
   rcases h with ⟨z, rfl, hr, hk⟩ | ⟨z, _, _⟩
   · have HK := Lib.hid hk
     clear z hk hr
     go_wp2
     exact ⟨rfl, .inr ⟨(by show (2 : Int) ≠ 0; decide), rfl, HK.out⟩⟩
   · exact absurd HE.out z
 rw [if_neg h1] at hE
 have q1 : decide (n < 0) = false := decide_eq_false h1
 by_cases h8 : 32 < n
 · have HV : Hid (sList (sText l 88) (sCount l 32 (p, 0)).1.toNat (sCount l 32 (p, 0)).2 [] = ([], (p, 5))) := Lib.hid (by rw [hE, if_pos h8]; rfl)
   have q2 : decide (32 < n) = true := decide_eq_true h8
   clear hE he h1 h8
   rw [HV.out]
   go_enter Tryz.func60, Tryz.ntmps60
   go_wp2_with fail
   refine HN.out.mono ?_
   intro e w1 h
   rcases h with ⟨z, rfl, hr, hk⟩ | ⟨z, _, _⟩
   · have HK := Lib.hid hk
     clear z hk hr
     go_wp2
     exact ⟨rfl, .inr ⟨(by show (5 : Int) ≠ 0; decide), rfl, HK.out⟩⟩
   · exact absurd HE.out z
 rw [if_neg h8] at hE
 have q2 : decide (32 < n) = false := decide_eq_false h8
 rw [hE]
 dsimp only
 obtain ⟨N, rfl⟩ : ∃ N : Nat, n = N := ⟨n.toNat, by omega⟩
 rw [Int.toNat_natCast]
 obtain ⟨q, z1⟩ := s1
 dsimp only at he
 subst he
 obtain ⟨FIN, hFIN⟩ : ∃ F, F = sList (sText l 88) N (q, 0) [] := ⟨_, rfl⟩
 rw [← hFIN]
 have HF := Lib.hid hFIN
 have hN8 : N ≤ 32 := by omega
 clear h1 h8 hE hFIN
 go_enter Tryz.func60, Tryz.ntmps60
 go_wp2_with fail
 refine HN.out.mono ?_
 intro e w1 h
 rcases h with ⟨z, rfl, hr, hk⟩ | ⟨z, _, _⟩
 case inr => exact absurd rfl z
 have HR := Lib.hid hr
 have HK := Lib.hid hk
 clear z hr hk
 go_wp2
 go_loopg [8, 21] N (fun g u i wr => ∃ (k : Nat) (acc : List ByteArray) (q : Int), k + g = N ∧ acc.length = k ∧ i = .int .i64 k ∧ Own 9 Value.string wr w.heap.size u acc ∧ RP wr R A c l q ∧ KR R w wr ∧ FIN = sList (sText l 88) g (q, 0) acc)
 case atStart => exact ⟨0, [], q, by omega, rfl, rfl, Own.nil _ _, HR.out, HK.out, HF.out⟩
 case round =>
  obtain ⟨k, acc, q, hkg, hacc, rfl, hown, hr, hk, hf⟩ := hrel
  have HO := Lib.hid hown
  have HRk := Lib.hid hr
  have HKk := Lib.hid hk
  have HG := Lib.hid hkg
  have hal : acc.length ≤ 32 := by omega
  have HAL := Lib.hid hacc
  have HFk := Lib.hid hf
  clear hown hr hk hf hacc HF HR HK
  cases gk with
  | zero =>
    obtain rfl : k = N := by omega
    have HE : Hid (FIN = (acc, (q, 0))) := Lib.hid HFk.out
    clear hkg HFk
    go_wp2
    go_ret
    rw [HE.out]
    exact .inl ⟨rfl, ⟨_, rfl, HO.out⟩, HRk.out, HKk.out⟩
  | succ g =>
    have hlt : k < N := by omega
    have e3 : decide ((k : Int) < (N : Int)) = true := decide_eq_true (by omega)
    have HT : Hid (Calls Tryz.prog 61 #[.pointer (some ⟨R, 0, none⟩)] wr (RetX R A c l (.string ((sText l 88) (q, 0)).1) ((sText l 88) (q, 0)).2 wr)) := Lib.hid (xFilter_any R A c l q wr HRk.out (HSL.out.below HKk.out.1) HC.out HLN.out)
    have HSTEP : Hid (FIN = sList (sText l 88) g ((sText l 88) (q, 0)).2 (acc ++ [((sText l 88) (q, 0)).1])) := Lib.hid (by rw [HFk.out, sList, if_neg (by simp)])
    generalize (sText l 88) (q, 0) = rr at HT HSTEP
    obtain ⟨y, q2, z2⟩ := rr
    dsimp only at HT HSTEP
    clear hkg HFk
    go_wp2_with fail
    refine HT.out.mono ?_
    intro e wb h
    rcases h with ⟨z, rfl, hr, hk⟩ | ⟨z, rfl, hk⟩
    · dsimp only at z
      subst z
      have HD2 := Lib.hid hr
      have HO2 := Lib.hid (own_kr hk hRw HO.out)
      have HK2 := Lib.hid (HKk.out.trans hk)
      clear hr hk HT HO HRk HKk
      go_wp2_with (at_builtin; go_must (refine wpList_appS1 wb rfl (.tmp 23) (.tmp 26) rfl w.heap.size u8 acc y rfl HO2.out rfl wb (Below.refl _ _) HK2.out.size (by omega) ?_); intro v' w3 hown' hb' hsz')
      have HO3 := Lib.hid hown'
      have HK3 := Lib.hid (HK2.out.base hb' (Nat.le_refl _) (Nat.le_of_lt hRw))
      have HD3 := Lib.hid (HD2.out.to (hb'.block R hRw))
      clear hown' hb'
      go_wp2
      go_roundg g
      case measure => omega
      case rel => exact ⟨k + 1, acc ++ [y], q2, by have := HG.out; omega, by have := HAL.out; simp; omega, by go_num, HO3.out, HD3.out, HK3.out, HSTEP.out⟩
    · have HV : Hid (FIN.2 = (q2, z2)) := Lib.hid (by rw [HSTEP.out, sList_bad z])
      have HZ := Lib.hid z
      have HK2 := Lib.hid (HKk.out.trans hk)
      clear z hk HT
      unfold pan
      go_wp2_with fail
      exact ⟨rfl, .inr ⟨by rw [HV.out]; exact HZ.out, by rw [HV.out]; rfl, HK2.out⟩⟩

theorem xElP_any (R : Nat) (A : Option Addr) (c : Nat) (l : List UInt8) (p : Int) (w : World) (h : RP w R A c l p) (hsl : CL bv w R A l) (hc : l.length ≤ c) (hn : l.length ≤ 140737488355328) :
 Calls Tryz.prog 88 #[.pointer (some ⟨R, 0, none⟩), .int .i64 8, .func (.func 89) #[.pointer (some ⟨R, 0, none⟩)] #[]] w
  (RetXL R A c l (fun w' v => OwnP w' w.heap.size v (sList (sProp l) (sCount l 8 (p, 0)).1.toNat (sCount l 8 (p, 0)).2 []).1) (sList (sProp l) (sCount l 8 (p, 0)).1.toNat (sCount l 8 (p, 0)).2 []).2 w) := by
 have hcn := xNum_any R A c l p w h hsl hc hn
 have hE := sCount_num l 8 p
 generalize sNum l (p, 0) = r at hcn hE
 obtain ⟨n, s1⟩ := r
 dsimp only at hcn hE
 have HN := Lib.hid hcn
 have hRw := h.lt
 have HSL := Lib.hid hsl
 have HC := Lib.hid hc
 have HLN := Lib.hid hn
 clear hcn hsl h hc hn
 by_cases he : s1.2 = 0
 case neg =>
  have HV : Hid (sList (sProp l) (sCount l 8 (p, 0)).1.toNat (sCount l 8 (p, 0)).2 [] = ([], s1)) := Lib.hid (by rw [hE, if_pos he]; rfl)
  have HE := Lib.hid he
  clear hE he
  rw [HV.out]
  go_enter Tryz.func88, Tryz.ntmps88
  go_wp2_with fail
  refine HN.out.mono ?_
  intro e w1 h
  rcases h with ⟨z, _, _, _⟩ | ⟨z, rfl, hk⟩
  · exact absurd z HE.out
  · have HK := Lib.hid hk
    clear z hk
    unfold pan
    go_wp2_with fail
    exact ⟨rfl, .inr ⟨HE.out, rfl, HK.out⟩⟩
 rw [if_neg (by simpa using he)] at hE
 have HE := Lib.hid he
 by_cases h1 : n < 0
 · have HV : Hid (sList (sProp l) (sCount l 8 (p, 0)).1.toNat (sCount l 8 (p, 0)).2 [] = ([], (p, 2))) := Lib.hid (by rw [hE, if_pos h1]; rfl)
   have q1 : decide (n < 0) = true := decide_eq_true h1
   clear hE he h1
   rw [HV.out]
   go_enter Tryz.func88, Tryz.ntmps88
   go_wp2_with fail
   refine HN.out.mono ?_
   intro e w1 h
   rcases h with ⟨z, rfl, hr, hk⟩ | ⟨z, _, _⟩
   · have HK := Lib.hid hk
     clear z hk hr
     go_wp2
     exact ⟨rfl, .inr ⟨(by show (2 : Int) ≠ 0; decide), rfl, HK.out⟩⟩
   · exact absurd HE.out z
 rw [if_neg h1] at hE
 have q1 : decide (n < 0) = false := decide_eq_false h1
 by_cases h8 : 8 < n
 · have HV : Hid (sList (sProp l) (sCount l 8 (p, 0)).1.toNat (sCount l 8 (p, 0)).2 [] = ([], (p, 5))) := Lib.hid (by rw [hE, if_pos h8]; rfl)
   have q2 : decide (8 < n) = true := decide_eq_true h8
   clear hE he h1 h8
   rw [HV.out]
   go_enter Tryz.func88, Tryz.ntmps88
   go_wp2_with fail
   refine HN.out.mono ?_
   intro e w1 h
   rcases h with ⟨z, rfl, hr, hk⟩ | ⟨z, _, _⟩
   · have HK := Lib.hid hk
     clear z hk hr
     go_wp2
     exact ⟨rfl, .inr ⟨(by show (5 : Int) ≠ 0; decide), rfl, HK.out⟩⟩
   · exact absurd HE.out z
 rw [if_neg h8] at hE
 have q2 : decide (8 < n) = false := decide_eq_false h8
 rw [hE]
 dsimp only
 obtain ⟨N, rfl⟩ : ∃ N : Nat, n = N := ⟨n.toNat, by omega⟩
 rw [Int.toNat_natCast]
 obtain ⟨q, z1⟩ := s1
 dsimp only at he
 subst he
 obtain ⟨FIN, hFIN⟩ : ∃ F, F = sList (sProp l) N (q, 0) [] := ⟨_, rfl⟩
 rw [← hFIN]
 have HF := Lib.hid hFIN
 have hN8 : N ≤ 8 := by omega
 clear h1 h8 hE hFIN
 go_enter Tryz.func88, Tryz.ntmps88
 go_wp2_with fail
 refine HN.out.mono ?_
 intro e w1 h
 rcases h with ⟨z, rfl, hr, hk⟩ | ⟨z, _, _⟩
 case inr => exact absurd rfl z
 have HR := Lib.hid hr
 have HK := Lib.hid hk
 clear z hr hk
 go_wp2
 go_loopg [8, 21] N (fun g u i wr => ∃ (k : Nat) (acc : List PR) (q : Int), k + g = N ∧ acc.length = k ∧ i = .int .i64 k ∧ OwnP wr w.heap.size u acc ∧ RP wr R A c l q ∧ KR R w wr ∧ FIN = sList (sProp l) g (q, 0) acc)
 case atStart => exact ⟨0, [], q, by omega, rfl, rfl, OwnG.nil _ _, HR.out, HK.out, HF.out⟩
 case round =>
  obtain ⟨k, acc, q, hkg, hacc, rfl, hown, hr, hk, hf⟩ := hrel
  have HO := Lib.hid hown
  have HRk := Lib.hid hr
  have HKk := Lib.hid hk
  have HG := Lib.hid hkg
  have hal : acc.length ≤ 8 := by omega
  have HAL := Lib.hid hacc
  have HFk := Lib.hid hf
  clear hown hr hk hf hacc HF HR HK
  cases gk with
  | zero =>
    obtain rfl : k = N := by omega
    have HE : Hid (FIN = (acc, (q, 0))) := Lib.hid HFk.out
    clear hkg HFk
    go_wp2
    go_ret
    rw [HE.out]
    exact .inl ⟨rfl, ⟨_, rfl, HO.out⟩, HRk.out, HKk.out⟩
  | succ g =>
    have hlt : k < N := by omega
    have e3 : decide ((k : Int) < (N : Int)) = true := decide_eq_true (by omega)
    have HT : Hid (Calls Tryz.prog 89 #[.pointer (some ⟨R, 0, none⟩)] wr (RetX R A c l (.agg #[.string ((sProp l) (q, 0)).1.1, .string ((sProp l) (q, 0)).1.2]) ((sProp l) (q, 0)).2 wr)) := Lib.hid (xProp_any R A c l (q, 0) rfl wr HRk.out (HSL.out.below HKk.out.1) HC.out HLN.out)
    have HSTEP : Hid (FIN = sList (sProp l) g ((sProp l) (q, 0)).2 (acc ++ [((sProp l) (q, 0)).1])) := Lib.hid (by rw [HFk.out, sList, if_neg (by simp)])
    generalize (sProp l) (q, 0) = rr at HT HSTEP
    obtain ⟨y, q2, z2⟩ := rr
    dsimp only at HT HSTEP
    clear hkg HFk
    go_wp2_with fail
    refine HT.out.mono ?_
    intro e wb h
    rcases h with ⟨z, rfl, hr, hk⟩ | ⟨z, rfl, hk⟩
    · dsimp only at z
      subst z
      have HD2 := Lib.hid hr
      have HO2 := Lib.hid (ownG_kr hk hRw HO.out)
      have HK2 := Lib.hid (HKk.out.trans hk)
      clear hr hk HT HO HRk HKk
      go_wp2_with (at_builtin; go_must (refine wpList_appP1 wb rfl _ _ rfl w.heap.size _ acc y.1 y.2 HO2.out rfl rfl wb (Below.refl _ _) HK2.out.size (by omega) ?_); intro v' w3 hown' hb' hsz')
      have HO3 := Lib.hid hown'
      have HK3 := Lib.hid (HK2.out.base hb' (Nat.le_refl _) (Nat.le_of_lt hRw))
      have HD3 := Lib.hid (HD2.out.to (hb'.block R hRw))
      clear hown' hb'
      go_wp2
      go_roundg g
      case measure => omega
      case rel => exact ⟨k + 1, acc ++ [y], q2, by have := HG.out; omega, by have := HAL.out; simp; omega, by go_num, HO3.out, HD3.out, HK3.out, HSTEP.out⟩
    · have HV : Hid (FIN.2 = (q2, z2)) := Lib.hid (by rw [HSTEP.out, sList_bad z])
      have HZ := Lib.hid z
      have HK2 := Lib.hid (HKk.out.trans hk)
      clear z hk HT
      unfold pan
      go_wp2_with fail
      exact ⟨rfl, .inr ⟨by rw [HV.out]; exact HZ.out, by rw [HV.out]; rfl, HK2.out⟩⟩

end Go.Proofs.YtdkegoaflabjoaaGreatDoor
