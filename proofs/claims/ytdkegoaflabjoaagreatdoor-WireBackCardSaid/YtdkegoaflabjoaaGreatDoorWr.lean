/-
The writer of wire: what it holds, and what its methods append. Conditions: the numbers fit an int; the texts have at most 1000000 bytes.
-/
import Derived.Test.YtdkegoaflabjoaaGreatDoorWireT
import Derived.Test.YtdkegoaflabjoaaGreatDoorBack3
import Derived.Test.YtdkegoaflabjoaaGreatDoorPut3
import Derived.Test.YtdkegoaflabjoaaGreatDoorMbx2
set_option maxHeartbeats 4000000
set_option maxRecDepth 20000
namespace Go.Proofs.YtdkegoaflabjoaaGreatDoor
open Go.RowKit

theorem wInfo9 : (Tryz.prog.info? 31).map (·.size) = some 9 := by kernel_rfl
theorem wGet_ops (l : List Oper) (i : Nat) (o : Oper) (h : l[i]? = some o) : l.toArray[i]? = some o := by rw [List.getElem?_toArray]; exact h

/-- append onto a slice of the call's own: where the result lies -/
theorem run_append_where {P : Program} (w : World) (base : Nat) (t tx ty e : TypeId) (i : TypeInfo) (z : Value) (size bytes : Nat) (ht : P.underlying t = some (.slice e)) (hi : P.info? e = some i) (hz : i.zero = some z)
 (hsize : i.size = size) (hby : i.bytes = bytes) (hzs : z.cells.size = size) (_hsz : 0 < size)
 (v : Value) (n : Nat) (xs : List Value) (hown : w.ownsRow base e size v n xs) (x : Value) (m : Nat) (news : List Value) (hs : Src P size tx x m news w)
 (h63 : n + m ≤ maxLen) (hbytes : (n + m) * bytes ≤ 140737488355328) (hbase : base ≤ w.heap.size) :
 ∃ v' w', (Builtin.append_ #[t, tx] ty #[v, x]).run P w = .ok v' w' ∧ w'.ownsRow base e size v' (n + m) (xs ++ news) ∧ w.grownBy w' v.ownBlock ∧ (v'.ownBlock = v.ownBlock ∨ v'.ownBlock = some w.heap.size) := by
 subst hsize
 subst hby
 have hl := hs.newsLen
 have hsmall : n + m ≤ 9223372036854775807 := by simp only [maxLen] at h63; omega
 have hlen : (xs ++ news).length = (n + m) * i.size := by rw [List.length_append, hown.1, hl, Nat.add_mul]
 have grown : ∀ (old : Nat), old < n + m → ∀ (row : Option Nat),
  (w.drew.alloc (.cells ((xs ++ news).toArray ++ Builtin.zeroCells z.cells (grownCap w (n + m) old e - (n + m))) e)).ownsRow base e i.size
   (.slice (some ⟨w.heap.size, 0, none⟩) (n + m) (grownCap w (n + m) old e)) (n + m) (xs ++ news) ∧
  w.grownBy (w.drew.alloc (.cells ((xs ++ news).toArray ++ Builtin.zeroCells z.cells (grownCap w (n + m) old e - (n + m))) e)) row := by
  intro old ho row
  have hge := grownCap_ge w (n + m) old e
  have hcm : grownCap w (n + m) old e ≤ maxLen := grownCap_le_maxLen w (n + m) old e h63
  refine ⟨⟨hlen, .inr ⟨w.heap.size, _, _, rfl, hbase, heap_alloc_new w.drew _, hge, hcm, ?_, ?_⟩⟩, ⟨rfl, rfl, rfl, by simp, fun k hk _ => heap_alloc_old w.drew _ hk⟩⟩
  · simp only [Array.size_append, List.size_toArray, size_zeroCells, hzs, hlen]
    rw [← Nat.add_mul]
    congr 1
    omega
  · simp only [Array.toList_append]
    rw [← hlen]
    exact List.take_left
 rcases hown.2 with ⟨rfl, rfl⟩ | ⟨g, cap, cur, rfl, hbg, hg, hnc, hcm, hcs, htake⟩
 · have hx : xs = [] := List.eq_nil_of_length_eq_zero (by simpa using hown.1)
   subst hx
   by_cases hm : m = 0
   · subst hm
     have hn : news = [] := List.eq_nil_of_length_eq_zero (by simpa using hl)
     subst hn
     refine ⟨.slice none 0 0, w, ?_, World.ownsRow_nil w base e i.size, ⟨rfl, rfl, rfl, Nat.le_refl _, fun _ _ _ => rfl⟩, .inl rfl⟩
     have hl2 := hs.len
     have hc2 := hs.cells
     rcases hs.kind with ⟨e', hk⟩ | hk <;> simp [Builtin.append_, run_underlying ht, run_underlying hk, sizeOf, typeInfo, hi, hl2, hc2]
   · have hr := run_append_grow_src (P := P) w t tx ty e i z ht hi hz none 0 0 [] (run_firstCells_none w.drew i.size 0 0 0) x m news hs (by omega) (by omega) (growslice_fits (by omega) hbytes)
     have hgr := grown 0 (by omega) (Value.ownBlock (.slice none 0 0))
     exact ⟨_, _, hr, hgr.1, hgr.2, .inr rfl⟩
 · by_cases hroom : n + m ≤ cap
   · have hfit : n * i.size + news.length ≤ cur.size := by rw [hl, hcs, ← Nat.add_mul]; exact Nat.mul_le_mul_right _ hroom
     have hst := run_storeCells_at P g (n * i.size) e news 0 cur w hg (by simpa using hfit) hs.one
     simp only [Nat.add_zero] at hst
     have hl2 := hs.len
     have hc2 := hs.cells
     have hr : (Builtin.append_ #[t, tx] ty #[.slice (some ⟨g, 0, none⟩) n cap, x]).run P w =
      .ok (.slice (some ⟨g, 0, none⟩) (n + m) cap) (w.setRow g (cur.toList.take (n * i.size) ++ news ++ cur.toList.drop (n * i.size + news.length)).toArray) := by
      rcases hs.kind with ⟨e', hk⟩ | hk <;> simp [Builtin.append_, run_underlying ht, run_underlying hk, sizeOf, typeInfo, hi, hl2, hroom, hc2, Addr.add_lit, hst]
     refine ⟨_, _, hr, ⟨hlen, .inr ⟨g, cap, _, rfl, hbg, setRow_heap w g cur _ e _ hg, hroom, hcm, ?_, ?_⟩⟩, ⟨rfl, rfl, rfl, by simp, fun k _ hk => setRow_other w g k _ (fun e => hk (by simp [Value.ownBlock, e]))⟩, .inl rfl⟩
     · simp only [List.size_toArray, List.length_append, List.length_take, List.length_drop, Array.length_toList]
       omega
     · rw [htake, ← hlen]
       exact List.take_left
   · have holds : ∀ j u, xs[j]? = some u → w.drew.cell? ((⟨g, 0, none⟩ : Addr).add j) = some u := by
      intro j u hj
      have := hown.cells (g := g) rfl j u hj
      simpa using this
     have hr := run_append_grow_src (P := P) w t tx ty e i z ht hi hz (some ⟨g, 0, none⟩) n cap xs (run_firstCells_some w.drew i.size n ⟨g, 0, none⟩ n cap xs hown.1 holds) x m news hs (by omega) (by omega) (growslice_fits (by omega) hbytes)
     have hgr := grown cap (by omega) (Value.ownBlock (.slice (some ⟨g, 0, none⟩) n cap))
     exact ⟨_, _, hr, hgr.1, hgr.2, .inr rfl⟩

theorem oper_appW {o : Oper} {a : Act} {K : Act → World → Prop} {Q : Exit → Act → World → Prop} (wr : World) (s x : Operand) (ho : o.op = .call { callee := .builtin .append, args := #[s, x], argTypes := #[25, 25] })
 (B : Nat) (v : Value) (xs ys : List UInt8) (A : Option Addr) (c : Nat) (hs : a.eval s = v) (hown : Own 5 bv wr B v xs) (hx : a.eval x = .slice A ys.length c) (B' : Nat) (hsl : CL bv wr B' A ys) (hB : B ≤ wr.heap.size)
 (hn : xs.length + ys.length ≤ 140737488355328) (h : ∀ v' w', Own 5 bv w' B v' (xs ++ ys) → wr.grownBy w' v.ownBlock → (v'.ownBlock = v.ownBlock ∨ v'.ownBlock = some wr.heap.size) → K (a.put o.dst v') w') : Oper.wp Tryz.prog o a wr K Q := by
 obtain ⟨i, hi, hz, hz1, hz2⟩ := info_parts infoU8
 obtain ⟨v', w', hr, h2, h3, h4⟩ := run_append_where (P := Tryz.prog) wr B 25 25 o.type 5 i (.int .u8 0) 1 1 Tryz.underlying25 hi hz hz1 hz2 rfl (by decide) v xs.length (xs.map bv) hown _ ys.length (ys.map bv) (hsl.src Tryz.underlying25 bv_one c) (by unfold maxLen; omega) (by omega) hB
 unfold Oper.wp execOp
 simp only [ho, resolve, invoke, builtin, Sem.run_bind, Sem.run_pure, Result.andThen_ok, List.map_toArray, List.map_cons, List.map_nil, hs, hx, hr]
 refine h v' w' ?_ h3 h4
 unfold Own
 simpa using h2

/-- nothing of the blocks K has changed -/
def WK (K : Nat → Prop) (w w' : World) : Prop := Below 0 w w' ∧ ∀ g, K g → w'.heap[g]? = w.heap[g]?
/-- block R is a writer that has written xs; K: blocks that are neither it nor its buffer -/
def WR (w : World) (R : Nat) (K : Nat → Prop) (xs : List UInt8) : Prop :=
 ∃ v, w.heap[R]? = some (.cells #[v] 51 (0, 0)) ∧ Own 5 bv w (R + 1) v xs ∧ ¬ K R ∧ ∀ g, K g → g < w.heap.size ∧ v.ownBlock ≠ some g
def RetW (R : Nat) (K : Nat → Prop) (xs : List UInt8) (w : World) (e : Ending) (w' : World) : Prop := e = .returned (.tuple #[]) ∧ WR w' R K xs ∧ WK K w w'
section
variable {K K' : Nat → Prop} {w w1 w2 : World} {R : Nat} {xs : List UInt8}
theorem WK.refl (K : Nat → Prop) (w : World) : WK K w w := ⟨Below.refl _ _, fun _ _ => rfl⟩
theorem WK.trans (h : WK K w w1) (h' : WK K w1 w2) : WK K w w2 := ⟨h.1.trans h'.1, fun g hg => (h'.2 g hg).trans (h.2 g hg)⟩
theorem WK.sub (h : WK K w w1) (hs : ∀ g, K' g → K g) : WK K' w w1 := ⟨h.1, fun g hg => h.2 g (hs g hg)⟩
theorem WK.of_below (hb : Below w.heap.size w w1) (hK : ∀ g, K g → g < w.heap.size) : WK K w w1 := ⟨hb.mono (Nat.zero_le _), fun g hg => hb.block g (hK g hg)⟩
theorem WK.size (h : WK K w w1) : w.heap.size ≤ w1.heap.size := h.1.size
theorem WK.cell (h : WK K w w1) {p : Addr} (hp : K p.block) : w1.cell? p = w.cell? p := World.cell?_of_block (h.2 _ hp)
theorem WK.below (h : WK K w w1) {B : Nat} (hB : ∀ g, g < B → K g) : Below B w w1 := ⟨h.1.os, h.1.tape, h.1.output, h.1.size, fun g hg => h.2 g (hB g hg)⟩
theorem WK.mt {T : TypeId} {M : Nat} {vs : List Value} (h : WK K w w1) (hM : K M) (hm : MT T w M vs) : MT T w1 M vs := (h.2 M hM).trans hm
theorem WR.lt (h : WR w R K xs) : R < w.heap.size := by obtain ⟨v, h1, _⟩ := h; exact (Array.getElem?_eq_some_iff.1 h1).1
theorem WR.kept (h : WR w R K xs) : ∀ g, K g → g < w.heap.size := by obtain ⟨v, _, _, _, h4⟩ := h; exact fun g hg => (h4 g hg).1
theorem WR.sub (h : WR w R K xs) (hs : ∀ g, K' g → K g) : WR w R K' xs := by
 obtain ⟨v, h1, h2, h3, h4⟩ := h
 exact ⟨v, h1, h2, fun hk => h3 (hs R hk), fun g hg => h4 g (hs g hg)⟩
theorem own_lt {v : Value} {B g : Nat} (h : Own 5 bv w B v xs) (hg : v.ownBlock = some g) : B ≤ g ∧ g < w.heap.size := World.ownsRow.lt h g hg
/-- where new blocks are made beside it, and nothing else is changed -/
theorem WR.below (h : WR w R K xs) (hb : Below w.heap.size w w1) : WR w1 R K xs := by
 have hR := h.lt
 obtain ⟨v, h1, h2, h3, h4⟩ := h
 exact ⟨v, (hb.block R hR).trans h1, h2.step hb, h3, fun g hg => ⟨Nat.lt_of_lt_of_le (h4 g hg).1 hb.size, (h4 g hg).2⟩⟩
/-- new blocks may be kept from now on -/
theorem WR.grow (h : WR w R K xs) (hb : Below w.heap.size w w1) : WR w1 R (fun g => K g ∨ (w.heap.size ≤ g ∧ g < w1.heap.size)) xs := by
 have hR := h.lt
 obtain ⟨v, h1, h2, h3, h4⟩ := h
 refine ⟨v, (hb.block R hR).trans h1, h2.step hb, fun hk => hk.elim h3 (fun hk => by omega), fun g hg => ?_⟩
 rcases hg with hg | hg
 · exact ⟨Nat.lt_of_lt_of_le (h4 g hg).1 hb.size, (h4 g hg).2⟩
 · exact ⟨hg.2, fun e => by have := (own_lt h2 e).2; omega⟩
theorem own_setR {v : Value} {B : Nat} (h : Own 5 bv w B v xs) {p : Addr} (hp : p.block < B) (u : Value) : Own 5 bv (w.setCell p u) B v xs := by
 unfold Own at h ⊢
 refine ⟨h.1, ?_⟩
 rcases h.2 with h0 | ⟨q, cap, cur, rfl, hb, hq, hnc, hcm, hcs, htake⟩
 · exact .inl h0
 · exact .inr ⟨q, cap, cur, rfl, hb, by rw [heap_setCell_other w p q u (by omega)]; exact hq, hnc, hcm, hcs, htake⟩
theorem wr_stored {v v' : Value} {ys : List UInt8} (h1 : w.heap[R]? = some (.cells #[v] 51 (0, 0))) (h2 : Own 5 bv w (R + 1) v xs) (h3 : ¬ K R) (h4 : ∀ g, K g → g < w.heap.size ∧ v.ownBlock ≠ some g)
 (hb : Below w.heap.size w w1) (hown : Own 5 bv w2 (R + 1) v' ys) (hg : w1.grownBy w2 v.ownBlock) (ho : v'.ownBlock = v.ownBlock ∨ v'.ownBlock = some w1.heap.size) :
 WR (w2.setCell ⟨R, 0, none⟩ v') R K ys ∧ WK K w (w2.setCell ⟨R, 0, none⟩ v') := by
 have hR : R < w.heap.size := (Array.getElem?_eq_some_iff.1 h1).1
 have hsz := hb.size
 have hR2 : w2.heap[R]? = some (.cells #[v] 51 (0, 0)) := by
  rw [hg.block R (by omega) (fun e => by have := (own_lt h2 e.symm).1; omega), hb.block R hR]; exact h1
 have hk2 : ∀ g, K g → w2.heap[g]? = w.heap[g]? := fun g hg' => by
  have h5 := h4 g hg'
  rw [hg.block g (by omega) (fun e => h5.2 e.symm), hb.block g h5.1]
 have hs2 := hg.size
 refine ⟨⟨v', ?_, own_setR hown (p := ⟨R, 0, none⟩) (Nat.lt_succ_self R) v', h3, fun g hg' => ?_⟩, ⟨⟨?_, ?_, ?_, ?_, fun k hk => by omega⟩, fun g hg' => ?_⟩⟩
 · rw [heap_setCell_same w2 R 0 _ 51 v' hR2]; rfl
 · have h5 := h4 g hg'
   refine ⟨by simp; omega, ?_⟩
   rcases ho with e | e
   · rw [e]; exact h5.2
   · rw [e]; intro e'; injection e' with e'; omega
 · exact hg.os.trans hb.os
 · exact hg.tape.trans hb.tape
 · exact hg.output.trans hb.output
 · simp; omega
 · rw [heap_setCell_other w2 ⟨R, 0, none⟩ g v' (fun e => h3 (by rw [← show g = R from e]; exact hg'))]
   exact hk2 g hg'
theorem cells_w {v : Value} {T : TypeId} (h : w.heap[R]? = some (.cells #[v] T (0, 0))) : w.cell? ⟨R, 0, none⟩ = some v := by unfold World.cell?; simp [h]
theorem free_w {v : Value} {T : TypeId} (h : w.heap[R]? = some (.cells #[v] T (0, 0))) : w.frozen? ⟨R, 0, none⟩ = false := frozen_of_row w R 0 #[v] T h
theorem keep_w {v : Value} (h1 : w.heap[R]? = some (.cells #[v] 51 (0, 0))) (h2 : Own 5 bv w (R + 1) v xs) (hb : Below w.heap.size w w1) : w1.heap[R]? = some (.cells #[v] 51 (0, 0)) ∧ Own 5 bv w1 (R + 1) v xs :=
 ⟨(hb.block R (Array.getElem?_eq_some_iff.1 h1).1).trans h1, h2.step hb⟩
end

theorem wNum_any (R : Nat) (K : Nat → Prop) (xs : List UInt8) (n : Int) (w : World) (h : WR w R K xs) (hn : xs.length ≤ 100000000) (h5 : -9223372036854775808 ≤ n) (h6 : n ≤ 9223372036854775807) :
 Calls Tryz.prog 45 #[.pointer (some ⟨R, 0, none⟩), .int .i64 n] w (RetW R K (xs ++ enc n) w) := by
 obtain ⟨v, h1, h2, h3, h4⟩ := h
 have HC0 := fun w => putNum_any none 0 [] n h5 h6 w (CL.nil _ _ _) (by simp)
 have hl0 := (enc_len n).2
 obtain ⟨T, hT⟩ : ∃ T, enc n = T := ⟨_, rfl⟩
 simp only [List.nil_append, List.length_nil, hT] at HC0 hl0 ⊢
 have HC : Hid (∀ w1, Below w.heap.size w w1 → Calls Tryz.prog 80 #[.slice none 0 0, .int .i64 n] w1 (RetB T w1)) := Lib.hid (fun w1 _ => HC0 w1)
 clear HC0
 have hl : xs.length + T.length ≤ 140737488355328 := by omega
 have k0 : w.cell? ⟨R, 0, none⟩ = some v := cells_w h1
 have H1 := Lib.hid h1
 have H2 := Lib.hid h2
 have H3 := Lib.hid h3
 have H4 := Lib.hid h4
 clear h1 h2 h3 h4 hT
 go_enter Tryz.func45, Tryz.ntmps45
 obtain ⟨wD, hwD⟩ : ∃ wD, wD = World.drew w := ⟨_, rfl⟩
 have hBD : Below w.heap.size w wD := by rw [hwD]; exact (Below.refl _ _).drew
 have hk0 := keep_w H1.out H2.out hBD
 have kD : wD.cell? ⟨R, 0, none⟩ = some v := cells_w hk0.1
 have H1D := Lib.hid hk0.1
 have H2D := Lib.hid hk0.2
 have HBD := Lib.hid hBD
 clear hk0 hBD
 have HWD := Lib.hid hwD
 clear hwD
 refine wp_region_held_drew (S := fun _ => True) (by kernel_rfl) trivial (fun hHeld => ?_)
 rw [← HWD.out]
 clear hHeld
 have hHeld : (fun _ => True) wD := trivial
 refine wpAnyH_take (i := 0) (v := .pointer (some ⟨R, 0, none⟩)) (wGet_ops _ _ _ rfl) (by kernel_rfl) (by kernel_rfl) (by kernel_rfl) (fun _ _ _ h => h) (Or.inl ⟨by rfl, fun wS hSw => by (try dsimp only at hSw); go_simp⟩) hHeld ?_
 try simp only [Act.put, List.setIfInBounds_toArray, List.set]
 refine wpAnyH_take (i := 1) (v := .pointer (some ⟨R, 0, none⟩)) (wGet_ops _ _ _ rfl) (by kernel_rfl) (by kernel_rfl) (by kernel_rfl) (fun _ _ _ h => h) (Or.inl ⟨by rfl, fun wS hSw => by (try dsimp only at hSw); go_simp⟩) hHeld ?_
 try simp only [Act.put, List.setIfInBounds_toArray, List.set]
 refine wpAnyH_take (i := 2) (v := .pointer (some ⟨R, 0, none⟩)) (wGet_ops _ _ _ rfl) (by kernel_rfl) (by kernel_rfl) (by kernel_rfl) (fun _ _ _ h => h) (Or.inl ⟨by rfl, fun wS hSw => by (try dsimp only at hSw); go_simp⟩) hHeld ?_
 try simp only [Act.put, List.setIfInBounds_toArray, List.set]
 refine wpAnyH_take (i := 3) (v := .pointer (some ⟨R, 0, none⟩)) (wGet_ops _ _ _ rfl) (by kernel_rfl) (by kernel_rfl) (by kernel_rfl) (fun _ _ _ h => h) (Or.inl ⟨by rfl, fun wS hSw => by (try dsimp only at hSw); go_simp⟩) hHeld ?_
 try simp only [Act.put, List.setIfInBounds_toArray, List.set]
 refine wpAnyH_take (i := 5) (v := .int .i64 n) (wGet_ops _ _ _ rfl) (by kernel_rfl) (by kernel_rfl) (by kernel_rfl) (fun _ _ _ h => h) (Or.inl ⟨by rfl, fun wS hSw => by (try dsimp only at hSw); go_simp⟩) hHeld ?_
 try simp only [Act.put, List.setIfInBounds_toArray, List.set]
 refine wpAnyH_ready (rs := [4, 6]) (by kernel_rfl) (by simp) ?_
 refine AllReadyH.cons (wGet_ops _ _ _ rfl) (fun K0 hK => ?_) (AllReadyH.cons (wGet_ops _ _ _ rfl) (fun K0 hK => ?_) AllReadyH.nil)
 · go_simp
   refine hK.out _ _ trivial (fun hHeld => ?_)
   clear hK K0
   try simp only [Act.put, List.setIfInBounds_toArray, List.set]
   refine wpAnyH_ready (rs := [6]) (by kernel_rfl) (by simp) ?_
   refine AllReadyH.cons (wGet_ops _ _ _ rfl) (fun K0 hK => ?_) AllReadyH.nil
   go_simp
   go_at_call 80
   refine (HC.out wD HBD.out).mono ?_
   rintro e w1 ⟨u1, rfl, ho1, hb1⟩
   obtain ⟨A1, c1, rfl, hc1, hs1⟩ := ho1.ret
   have HSL := Lib.hid hs1
   have HB1 := Lib.hid (stepB HBD.out hb1)
   have hkw := keep_w H1.out H2.out HB1.out
   have kf1 : w1.cell? ⟨R, 0, none⟩ = some v := cells_w hkw.1
   have HO := Lib.hid hkw.2
   have HR1 := Lib.hid hkw.1
   clear hs1 hc1 hb1 ho1 hkw hHeld
   go_wp2_with fail
   refine hK.out _ _ trivial (fun hHeld => ?_)
   clear hK K0
   try simp only [Act.put, List.setIfInBounds_toArray, List.set]
   refine wpAnyH_ready (rs := [7]) (by kernel_rfl) (by simp) ?_
   refine AllReadyH.cons (wGet_ops _ _ _ rfl) (fun K0 hK => ?_) AllReadyH.nil
   rw [if_pos (by rfl)]
   refine oper_appW w1 (.tmp 8) (.tmp 10) rfl (R + 1) v xs T A1 c1 (by rfl) HO.out (by rfl) w1.heap.size HSL.out (by have := H1.out; have h5 := (Array.getElem?_eq_some_iff.1 H1.out).1; have h6 := HB1.out.size; omega) hl ?_
   intro v2 w2 hown2 hg2 hv2
   obtain ⟨A2, c2, rfl, _, _⟩ := hown2.ret
   obtain ⟨n2, hn2⟩ : ∃ n, (xs ++ T).length = n := ⟨_, rfl⟩
   rw [hn2] at hown2 hv2 ⊢
   clear hn2
   have hR2 : w2.heap[R]? = some (.cells #[v] 51 (0, 0)) := (hg2.block R (Array.getElem?_eq_some_iff.1 HR1.out).1 (fun e => by have := (own_lt H2.out e.symm).1; omega)).trans HR1.out
   have kf2 : w2.cell? ⟨R, 0, none⟩ = some v := cells_w hR2
   have ff2 : w2.frozen? ⟨R, 0, none⟩ = false := free_w hR2
   have HEND := Lib.hid (wr_stored H1.out H2.out H3.out H4.out HB1.out hown2 hg2 hv2)
   clear hown2 hg2 hv2 hR2 hHeld
   refine hK.out _ _ trivial (fun hHeld => ?_)
   clear hK K0
   try simp only [Act.put, List.setIfInBounds_toArray, List.set]
   refine wpAnyH_take (i := 8) (v := .pointer (some ⟨R, 0, none⟩)) (wGet_ops _ _ _ rfl) (by kernel_rfl) (by kernel_rfl) (by kernel_rfl) (fun _ _ _ h => h) (Or.inl ⟨by rfl, fun wS hSw => by (try dsimp only at hSw); go_simp⟩) hHeld ?_
   try simp only [Act.put, List.setIfInBounds_toArray, List.set]
   refine wpAnyH_take (i := 9) (v := .pointer (some ⟨R, 0, none⟩)) (wGet_ops _ _ _ rfl) (by kernel_rfl) (by kernel_rfl) (by kernel_rfl) (fun _ _ _ h => h) (Or.inl ⟨by rfl, fun wS hSw => by (try dsimp only at hSw); go_simp⟩) hHeld ?_
   try simp only [Act.put, List.setIfInBounds_toArray, List.set]
   refine wpAnyH_ready (rs := [10]) (by kernel_rfl) (by simp) ?_
   refine AllReadyH.cons (wGet_ops _ _ _ rfl) (fun K0 hK => ?_) AllReadyH.nil
   go_simp
   refine hK.out _ _ trivial (fun hHeld => ?_)
   clear hK K0
   try simp only [Act.put, List.setIfInBounds_toArray, List.set]
   refine wpAnyH_done (by kernel_rfl) ?_ _
   go_wp2
   go_end0
   exact ⟨rfl, HEND.out.1, HEND.out.2⟩
 · go_simp
   go_at_call 80
   refine (HC.out wD HBD.out).mono ?_
   rintro e w1 ⟨u1, rfl, ho1, hb1⟩
   obtain ⟨A1, c1, rfl, hc1, hs1⟩ := ho1.ret
   have HSL := Lib.hid hs1
   have HB1 := Lib.hid (stepB HBD.out hb1)
   have hkw := keep_w H1.out H2.out HB1.out
   have kf1 : w1.cell? ⟨R, 0, none⟩ = some v := cells_w hkw.1
   have HO := Lib.hid hkw.2
   have HR1 := Lib.hid hkw.1
   clear hs1 hc1 hb1 ho1 hkw hHeld
   go_wp2_with fail
   refine hK.out _ _ trivial (fun hHeld => ?_)
   clear hK K0
   try simp only [Act.put, List.setIfInBounds_toArray, List.set]
   refine wpAnyH_ready (rs := [4]) (by kernel_rfl) (by simp) ?_
   refine AllReadyH.cons (wGet_ops _ _ _ rfl) (fun K0 hK => ?_) AllReadyH.nil
   go_simp
   refine hK.out _ _ trivial (fun hHeld => ?_)
   clear hK K0
   try simp only [Act.put, List.setIfInBounds_toArray, List.set]
   refine wpAnyH_ready (rs := [7]) (by kernel_rfl) (by simp) ?_
   refine AllReadyH.cons (wGet_ops _ _ _ rfl) (fun K0 hK => ?_) AllReadyH.nil
   rw [if_pos (by rfl)]
   refine oper_appW w1 (.tmp 8) (.tmp 10) rfl (R + 1) v xs T A1 c1 (by rfl) HO.out (by rfl) w1.heap.size HSL.out (by have := H1.out; have h5 := (Array.getElem?_eq_some_iff.1 H1.out).1; have h6 := HB1.out.size; omega) hl ?_
   intro v2 w2 hown2 hg2 hv2
   obtain ⟨A2, c2, rfl, _, _⟩ := hown2.ret
   obtain ⟨n2, hn2⟩ : ∃ n, (xs ++ T).length = n := ⟨_, rfl⟩
   rw [hn2] at hown2 hv2 ⊢
   clear hn2
   have hR2 : w2.heap[R]? = some (.cells #[v] 51 (0, 0)) := (hg2.block R (Array.getElem?_eq_some_iff.1 HR1.out).1 (fun e => by have := (own_lt H2.out e.symm).1; omega)).trans HR1.out
   have kf2 : w2.cell? ⟨R, 0, none⟩ = some v := cells_w hR2
   have ff2 : w2.frozen? ⟨R, 0, none⟩ = false := free_w hR2
   have HEND := Lib.hid (wr_stored H1.out H2.out H3.out H4.out HB1.out hown2 hg2 hv2)
   clear hown2 hg2 hv2 hR2 hHeld
   refine hK.out _ _ trivial (fun hHeld => ?_)
   clear hK K0
   try simp only [Act.put, List.setIfInBounds_toArray, List.set]
   refine wpAnyH_take (i := 8) (v := .pointer (some ⟨R, 0, none⟩)) (wGet_ops _ _ _ rfl) (by kernel_rfl) (by kernel_rfl) (by kernel_rfl) (fun _ _ _ h => h) (Or.inl ⟨by rfl, fun wS hSw => by (try dsimp only at hSw); go_simp⟩) hHeld ?_
   try simp only [Act.put, List.setIfInBounds_toArray, List.set]
   refine wpAnyH_take (i := 9) (v := .pointer (some ⟨R, 0, none⟩)) (wGet_ops _ _ _ rfl) (by kernel_rfl) (by kernel_rfl) (by kernel_rfl) (fun _ _ _ h => h) (Or.inl ⟨by rfl, fun wS hSw => by (try dsimp only at hSw); go_simp⟩) hHeld ?_
   try simp only [Act.put, List.setIfInBounds_toArray, List.set]
   refine wpAnyH_ready (rs := [10]) (by kernel_rfl) (by simp) ?_
   refine AllReadyH.cons (wGet_ops _ _ _ rfl) (fun K0 hK => ?_) AllReadyH.nil
   go_simp
   refine hK.out _ _ trivial (fun hHeld => ?_)
   clear hK K0
   try simp only [Act.put, List.setIfInBounds_toArray, List.set]
   refine wpAnyH_done (by kernel_rfl) ?_ _
   go_wp2
   go_end0
   exact ⟨rfl, HEND.out.1, HEND.out.2⟩

theorem wText_any (R : Nat) (K : Nat → Prop) (xs : List UInt8) (s : ByteArray) (w : World) (h : WR w R K xs) (hn : xs.length ≤ 100000000) (h5 : s.size ≤ 1000000) :
 Calls Tryz.prog 23 #[.pointer (some ⟨R, 0, none⟩), .string s] w (RetW R K (xs ++ encT s) w) := by
 obtain ⟨v, h1, h2, h3, h4⟩ := h
 have HC0 := fun w => putText_any none 0 [] s w (CL.nil _ _ _) (by simp) (by omega)
 have hl0 := encT_len s
 have e0 : enc s.size ++ dl s = encT s := rfl
 obtain ⟨T, hT⟩ : ∃ T, encT s = T := ⟨_, rfl⟩
 simp only [List.nil_append, List.length_nil, e0, hT] at HC0 hl0 ⊢
 have HC : Hid (∀ w1, Below w.heap.size w w1 → Calls Tryz.prog 63 #[.slice none 0 0, .string s] w1 (RetB T w1)) := Lib.hid (fun w1 _ => HC0 w1)
 clear HC0 e0
 have hl : xs.length + T.length ≤ 140737488355328 := by omega
 have k0 : w.cell? ⟨R, 0, none⟩ = some v := cells_w h1
 have H1 := Lib.hid h1
 have H2 := Lib.hid h2
 have H3 := Lib.hid h3
 have H4 := Lib.hid h4
 clear h1 h2 h3 h4 hT h5
 go_enter Tryz.func23, Tryz.ntmps23
 obtain ⟨wD, hwD⟩ : ∃ wD, wD = World.drew w := ⟨_, rfl⟩
 have hBD : Below w.heap.size w wD := by rw [hwD]; exact (Below.refl _ _).drew
 have hk0 := keep_w H1.out H2.out hBD
 have kD : wD.cell? ⟨R, 0, none⟩ = some v := cells_w hk0.1
 have H1D := Lib.hid hk0.1
 have H2D := Lib.hid hk0.2
 have HBD := Lib.hid hBD
 clear hk0 hBD
 have HWD := Lib.hid hwD
 clear hwD
 refine wp_region_held_drew (S := fun _ => True) (by kernel_rfl) trivial (fun hHeld => ?_)
 rw [← HWD.out]
 clear hHeld
 have hHeld : (fun _ => True) wD := trivial
 refine wpAnyH_take (i := 0) (v := .pointer (some ⟨R, 0, none⟩)) (wGet_ops _ _ _ rfl) (by kernel_rfl) (by kernel_rfl) (by kernel_rfl) (fun _ _ _ h => h) (Or.inl ⟨by rfl, fun wS hSw => by (try dsimp only at hSw); go_simp⟩) hHeld ?_
 try simp only [Act.put, List.setIfInBounds_toArray, List.set]
 refine wpAnyH_take (i := 1) (v := .pointer (some ⟨R, 0, none⟩)) (wGet_ops _ _ _ rfl) (by kernel_rfl) (by kernel_rfl) (by kernel_rfl) (fun _ _ _ h => h) (Or.inl ⟨by rfl, fun wS hSw => by (try dsimp only at hSw); go_simp⟩) hHeld ?_
 try simp only [Act.put, List.setIfInBounds_toArray, List.set]
 refine wpAnyH_take (i := 2) (v := .pointer (some ⟨R, 0, none⟩)) (wGet_ops _ _ _ rfl) (by kernel_rfl) (by kernel_rfl) (by kernel_rfl) (fun _ _ _ h => h) (Or.inl ⟨by rfl, fun wS hSw => by (try dsimp only at hSw); go_simp⟩) hHeld ?_
 try simp only [Act.put, List.setIfInBounds_toArray, List.set]
 refine wpAnyH_take (i := 3) (v := .pointer (some ⟨R, 0, none⟩)) (wGet_ops _ _ _ rfl) (by kernel_rfl) (by kernel_rfl) (by kernel_rfl) (fun _ _ _ h => h) (Or.inl ⟨by rfl, fun wS hSw => by (try dsimp only at hSw); go_simp⟩) hHeld ?_
 try simp only [Act.put, List.setIfInBounds_toArray, List.set]
 refine wpAnyH_take (i := 5) (v := .string s) (wGet_ops _ _ _ rfl) (by kernel_rfl) (by kernel_rfl) (by kernel_rfl) (fun _ _ _ h => h) (Or.inl ⟨by rfl, fun wS hSw => by (try dsimp only at hSw); go_simp⟩) hHeld ?_
 try simp only [Act.put, List.setIfInBounds_toArray, List.set]
 refine wpAnyH_ready (rs := [4, 6]) (by kernel_rfl) (by simp) ?_
 refine AllReadyH.cons (wGet_ops _ _ _ rfl) (fun K0 hK => ?_) (AllReadyH.cons (wGet_ops _ _ _ rfl) (fun K0 hK => ?_) AllReadyH.nil)
 · go_simp
   refine hK.out _ _ trivial (fun hHeld => ?_)
   clear hK K0
   try simp only [Act.put, List.setIfInBounds_toArray, List.set]
   refine wpAnyH_ready (rs := [6]) (by kernel_rfl) (by simp) ?_
   refine AllReadyH.cons (wGet_ops _ _ _ rfl) (fun K0 hK => ?_) AllReadyH.nil
   go_simp
   go_at_call 63
   refine (HC.out wD HBD.out).mono ?_
   rintro e w1 ⟨u1, rfl, ho1, hb1⟩
   obtain ⟨A1, c1, rfl, hc1, hs1⟩ := ho1.ret
   have HSL := Lib.hid hs1
   have HB1 := Lib.hid (stepB HBD.out hb1)
   have hkw := keep_w H1.out H2.out HB1.out
   have kf1 : w1.cell? ⟨R, 0, none⟩ = some v := cells_w hkw.1
   have HO := Lib.hid hkw.2
   have HR1 := Lib.hid hkw.1
   clear hs1 hc1 hb1 ho1 hkw hHeld
   go_wp2_with fail
   refine hK.out _ _ trivial (fun hHeld => ?_)
   clear hK K0
   try simp only [Act.put, List.setIfInBounds_toArray, List.set]
   refine wpAnyH_ready (rs := [7]) (by kernel_rfl) (by simp) ?_
   refine AllReadyH.cons (wGet_ops _ _ _ rfl) (fun K0 hK => ?_) AllReadyH.nil
   rw [if_pos (by rfl)]
   refine oper_appW w1 (.tmp 8) (.tmp 10) rfl (R + 1) v xs T A1 c1 (by rfl) HO.out (by rfl) w1.heap.size HSL.out (by have := H1.out; have h5 := (Array.getElem?_eq_some_iff.1 H1.out).1; have h6 := HB1.out.size; omega) hl ?_
   intro v2 w2 hown2 hg2 hv2
   obtain ⟨A2, c2, rfl, _, _⟩ := hown2.ret
   obtain ⟨n2, hn2⟩ : ∃ n, (xs ++ T).length = n := ⟨_, rfl⟩
   rw [hn2] at hown2 hv2 ⊢
   clear hn2
   have hR2 : w2.heap[R]? = some (.cells #[v] 51 (0, 0)) := (hg2.block R (Array.getElem?_eq_some_iff.1 HR1.out).1 (fun e => by have := (own_lt H2.out e.symm).1; omega)).trans HR1.out
   have kf2 : w2.cell? ⟨R, 0, none⟩ = some v := cells_w hR2
   have ff2 : w2.frozen? ⟨R, 0, none⟩ = false := free_w hR2
   have HEND := Lib.hid (wr_stored H1.out H2.out H3.out H4.out HB1.out hown2 hg2 hv2)
   clear hown2 hg2 hv2 hR2 hHeld
   refine hK.out _ _ trivial (fun hHeld => ?_)
   clear hK K0
   try simp only [Act.put, List.setIfInBounds_toArray, List.set]
   refine wpAnyH_take (i := 8) (v := .pointer (some ⟨R, 0, none⟩)) (wGet_ops _ _ _ rfl) (by kernel_rfl) (by kernel_rfl) (by kernel_rfl) (fun _ _ _ h => h) (Or.inl ⟨by rfl, fun wS hSw => by (try dsimp only at hSw); go_simp⟩) hHeld ?_
   try simp only [Act.put, List.setIfInBounds_toArray, List.set]
   refine wpAnyH_take (i := 9) (v := .pointer (some ⟨R, 0, none⟩)) (wGet_ops _ _ _ rfl) (by kernel_rfl) (by kernel_rfl) (by kernel_rfl) (fun _ _ _ h => h) (Or.inl ⟨by rfl, fun wS hSw => by (try dsimp only at hSw); go_simp⟩) hHeld ?_
   try simp only [Act.put, List.setIfInBounds_toArray, List.set]
   refine wpAnyH_ready (rs := [10]) (by kernel_rfl) (by simp) ?_
   refine AllReadyH.cons (wGet_ops _ _ _ rfl) (fun K0 hK => ?_) AllReadyH.nil
   go_simp
   refine hK.out _ _ trivial (fun hHeld => ?_)
   clear hK K0
   try simp only [Act.put, List.setIfInBounds_toArray, List.set]
   refine wpAnyH_done (by kernel_rfl) ?_ _
   go_wp2
   go_end0
   exact ⟨rfl, HEND.out.1, HEND.out.2⟩
 · go_simp
   go_at_call 63
   refine (HC.out wD HBD.out).mono ?_
   rintro e w1 ⟨u1, rfl, ho1, hb1⟩
   obtain ⟨A1, c1, rfl, hc1, hs1⟩ := ho1.ret
   have HSL := Lib.hid hs1
   have HB1 := Lib.hid (stepB HBD.out hb1)
   have hkw := keep_w H1.out H2.out HB1.out
   have kf1 : w1.cell? ⟨R, 0, none⟩ = some v := cells_w hkw.1
   have HO := Lib.hid hkw.2
   have HR1 := Lib.hid hkw.1
   clear hs1 hc1 hb1 ho1 hkw hHeld
   go_wp2_with fail
   refine hK.out _ _ trivial (fun hHeld => ?_)
   clear hK K0
   try simp only [Act.put, List.setIfInBounds_toArray, List.set]
   refine wpAnyH_ready (rs := [4]) (by kernel_rfl) (by simp) ?_
   refine AllReadyH.cons (wGet_ops _ _ _ rfl) (fun K0 hK => ?_) AllReadyH.nil
   go_simp
   refine hK.out _ _ trivial (fun hHeld => ?_)
   clear hK K0
   try simp only [Act.put, List.setIfInBounds_toArray, List.set]
   refine wpAnyH_ready (rs := [7]) (by kernel_rfl) (by simp) ?_
   refine AllReadyH.cons (wGet_ops _ _ _ rfl) (fun K0 hK => ?_) AllReadyH.nil
   rw [if_pos (by rfl)]
   refine oper_appW w1 (.tmp 8) (.tmp 10) rfl (R + 1) v xs T A1 c1 (by rfl) HO.out (by rfl) w1.heap.size HSL.out (by have := H1.out; have h5 := (Array.getElem?_eq_some_iff.1 H1.out).1; have h6 := HB1.out.size; omega) hl ?_
   intro v2 w2 hown2 hg2 hv2
   obtain ⟨A2, c2, rfl, _, _⟩ := hown2.ret
   obtain ⟨n2, hn2⟩ : ∃ n, (xs ++ T).length = n := ⟨_, rfl⟩
   rw [hn2] at hown2 hv2 ⊢
   clear hn2
   have hR2 : w2.heap[R]? = some (.cells #[v] 51 (0, 0)) := (hg2.block R (Array.getElem?_eq_some_iff.1 HR1.out).1 (fun e => by have := (own_lt H2.out e.symm).1; omega)).trans HR1.out
   have kf2 : w2.cell? ⟨R, 0, none⟩ = some v := cells_w hR2
   have ff2 : w2.frozen? ⟨R, 0, none⟩ = false := free_w hR2
   have HEND := Lib.hid (wr_stored H1.out H2.out H3.out H4.out HB1.out hown2 hg2 hv2)
   clear hown2 hg2 hv2 hR2 hHeld
   refine hK.out _ _ trivial (fun hHeld => ?_)
   clear hK K0
   try simp only [Act.put, List.setIfInBounds_toArray, List.set]
   refine wpAnyH_take (i := 8) (v := .pointer (some ⟨R, 0, none⟩)) (wGet_ops _ _ _ rfl) (by kernel_rfl) (by kernel_rfl) (by kernel_rfl) (fun _ _ _ h => h) (Or.inl ⟨by rfl, fun wS hSw => by (try dsimp only at hSw); go_simp⟩) hHeld ?_
   try simp only [Act.put, List.setIfInBounds_toArray, List.set]
   refine wpAnyH_take (i := 9) (v := .pointer (some ⟨R, 0, none⟩)) (wGet_ops _ _ _ rfl) (by kernel_rfl) (by kernel_rfl) (by kernel_rfl) (fun _ _ _ h => h) (Or.inl ⟨by rfl, fun wS hSw => by (try dsimp only at hSw); go_simp⟩) hHeld ?_
   try simp only [Act.put, List.setIfInBounds_toArray, List.set]
   refine wpAnyH_ready (rs := [10]) (by kernel_rfl) (by simp) ?_
   refine AllReadyH.cons (wGet_ops _ _ _ rfl) (fun K0 hK => ?_) AllReadyH.nil
   go_simp
   refine hK.out _ _ trivial (fun hHeld => ?_)
   clear hK K0
   try simp only [Act.put, List.setIfInBounds_toArray, List.set]
   refine wpAnyH_done (by kernel_rfl) ?_ _
   go_wp2
   go_end0
   exact ⟨rfl, HEND.out.1, HEND.out.2⟩

theorem wMsg_any (R : Nat) (K : Nat → Prop) (xs : List UInt8) (m : Msg) (A : Option Addr) (c : Nat) (w : World) (h : WR w R K xs) (hn : xs.length ≤ 100000000) (hB0 : ∃ B, (∀ g, g < B → K g) ∧ PL w B A m.props) (hf : m.fits) (hs : m.topic.size ≤ 100000 ∧ m.payload.size ≤ 100000 ∧ m.frm.size ≤ 100000 ∧ m.props.length ≤ 20 ∧ ∀ x ∈ m.props, x.1.size ≤ 100000 ∧ x.2.size ≤ 100000) (hl0 : (encM m).length ≤ 100000000) :
 Calls Tryz.prog 48 #[.pointer (some ⟨R, 0, none⟩), msgV m A c] w (RetW R K (xs ++ encM m) w) := by
 obtain ⟨v, h1, h2, h3, h4⟩ := h
 obtain ⟨B, hB1, hB2⟩ := hB0
 obtain ⟨T, hT⟩ : ∃ T, encM m = T := ⟨_, rfl⟩
 have hBs : B ≤ w.heap.size := Nat.le_of_not_lt (fun h => Nat.lt_irrefl _ (h4 _ (hB1 _ h)).1)
 have HC : Hid (∀ w1, Below w.heap.size w w1 → Calls Tryz.prog 82 #[.slice none 0 0, .agg (msgC m A c).toArray] w1 (RetB T w1)) := Lib.hid (fun w1 hw1 => by
  have := put_any none 0 [] m A c w1 (CL.nil _ _ _) ((hB2.below (hw1.mono hBs)).more (Nat.le_trans hBs hw1.size)) hf hs (by simp)
  rw [List.nil_append, hT] at this
  exact this)
 rw [hT] at hl0 ⊢
 clear hB1 hB2 hBs hf hs
 have hl : xs.length + T.length ≤ 140737488355328 := by omega
 have k0 : w.cell? ⟨R, 0, none⟩ = some v := cells_w h1
 have H1 := Lib.hid h1
 have H2 := Lib.hid h2
 have H3 := Lib.hid h3
 have H4 := Lib.hid h4
 clear h1 h2 h3 h4 hT
 change Calls Tryz.prog 48 #[.pointer (some ⟨R, 0, none⟩), .agg (msgC m A c).toArray] w (RetW R K (xs ++ T) w)
 go_enter Tryz.func48, Tryz.ntmps48
 go_upto_region 1 with fail
 have hBX : Below w.heap.size w (w.alloc (.cells (msgC m A c).toArray 31)) := belA _ _
 have hMX := MT.new w 31 (msgC m A c)
 change (Code.region _ _ true).wp _ _ _ (w.alloc (.cells (msgC m A c).toArray 31))
 generalize w.alloc (.cells (msgC m A c).toArray 31) = wb at hBX hMX ⊢
 have HBX := Lib.hid hBX
 have HMX := Lib.hid hMX
 clear hBX hMX
 obtain ⟨wD, hwD⟩ : ∃ wD, wD = World.drew wb := ⟨_, rfl⟩
 have hBD : Below w.heap.size w wD := by rw [hwD]; exact HBX.out.drew
 have hk0 := keep_w H1.out H2.out hBD
 have kD : wD.cell? ⟨R, 0, none⟩ = some v := cells_w hk0.1
 have H1D := Lib.hid hk0.1
 have H2D := Lib.hid hk0.2
 have HBD := Lib.hid hBD
 clear hk0 hBD
 have HMD : Hid (MT 31 wD w.heap.size (msgC m A c)) := Lib.hid (by rw [hwD]; exact HMX.out.drew)
 have HWD := Lib.hid hwD
 clear hwD
 refine wp_region_held_drew (S := fun w' => MT 31 w' w.heap.size (msgC m A c)) (by kernel_rfl) (by rw [← HWD.out]; exact HMD.out) (fun hHeld => ?_)
 rw [← HWD.out]
 clear hHeld
 have hHeld : (fun w' => MT 31 w' w.heap.size (msgC m A c)) wD := HMD.out
 refine wpAnyH_take (i := 0) (v := .pointer (some ⟨R, 0, none⟩)) (wGet_ops _ _ _ rfl) (by kernel_rfl) (by kernel_rfl) (by kernel_rfl) (fun _ _ _ h => h) (Or.inl ⟨by rfl, fun wS hSw => by (try dsimp only at hSw); go_simp⟩) hHeld ?_
 try simp only [Act.put, List.setIfInBounds_toArray, List.set]
 refine wpAnyH_take (i := 1) (v := .pointer (some ⟨R, 0, none⟩)) (wGet_ops _ _ _ rfl) (by kernel_rfl) (by kernel_rfl) (by kernel_rfl) (fun _ _ _ h => h) (Or.inl ⟨by rfl, fun wS hSw => by (try dsimp only at hSw); go_simp⟩) hHeld ?_
 try simp only [Act.put, List.setIfInBounds_toArray, List.set]
 refine wpAnyH_take (i := 2) (v := .pointer (some ⟨R, 0, none⟩)) (wGet_ops _ _ _ rfl) (by kernel_rfl) (by kernel_rfl) (by kernel_rfl) (fun _ _ _ h => h) (Or.inl ⟨by rfl, fun wS hSw => by (try dsimp only at hSw); go_simp⟩) hHeld ?_
 try simp only [Act.put, List.setIfInBounds_toArray, List.set]
 refine wpAnyH_take (i := 3) (v := .pointer (some ⟨R, 0, none⟩)) (wGet_ops _ _ _ rfl) (by kernel_rfl) (by kernel_rfl) (by kernel_rfl) (fun _ _ _ h => h) (Or.inl ⟨by rfl, fun wS hSw => by (try dsimp only at hSw); go_simp⟩) hHeld ?_
 try simp only [Act.put, List.setIfInBounds_toArray, List.set]
 refine wpAnyH_take (i := 5) (v := .agg (msgC m A c).toArray) (wGet_ops _ _ _ rfl) (by kernel_rfl) (by kernel_rfl) (by kernel_rfl) (fun _ _ _ h => h) (Or.inl ⟨by rfl, fun wS hSw => by (try dsimp only at hSw); exact exec_load 31 _ rfl ⟨w.heap.size, 0, none⟩ (by go_simp) _ (run_loadVar_row wS w.heap.size 31 31 _ (0, 0) _ hSw Tryz.underlying31 rfl wInfo9)⟩) hHeld ?_
 try simp only [Act.put, List.setIfInBounds_toArray, List.set]
 refine wpAnyH_ready (rs := [4, 6]) (by kernel_rfl) (by simp) ?_
 refine AllReadyH.cons (wGet_ops _ _ _ rfl) (fun K0 hK => ?_) (AllReadyH.cons (wGet_ops _ _ _ rfl) (fun K0 hK => ?_) AllReadyH.nil)
 · go_simp
   refine hK.out _ _ HMD.out (fun hHeld => ?_)
   clear hK K0
   try simp only [Act.put, List.setIfInBounds_toArray, List.set]
   refine wpAnyH_ready (rs := [6]) (by kernel_rfl) (by simp) ?_
   refine AllReadyH.cons (wGet_ops _ _ _ rfl) (fun K0 hK => ?_) AllReadyH.nil
   go_simp
   go_at_call 82
   refine (HC.out wD HBD.out).mono ?_
   rintro e w1 ⟨u1, rfl, ho1, hb1⟩
   obtain ⟨A1, c1, rfl, hc1, hs1⟩ := ho1.ret
   have HSL := Lib.hid hs1
   have HB1 := Lib.hid (stepB HBD.out hb1)
   have hkw := keep_w H1.out H2.out HB1.out
   have kf1 : w1.cell? ⟨R, 0, none⟩ = some v := cells_w hkw.1
   have HO := Lib.hid hkw.2
   have HR1 := Lib.hid hkw.1
   have HM1 := Lib.hid (HMD.out.step hb1)
   clear hs1 hc1 hb1 ho1 hkw hHeld
   go_wp2_with fail
   refine hK.out _ _ HM1.out (fun hHeld => ?_)
   clear hK K0
   try simp only [Act.put, List.setIfInBounds_toArray, List.set]
   refine wpAnyH_ready (rs := [7]) (by kernel_rfl) (by simp) ?_
   refine AllReadyH.cons (wGet_ops _ _ _ rfl) (fun K0 hK => ?_) AllReadyH.nil
   rw [if_pos (by rfl)]
   refine oper_appW w1 (.tmp 8) (.tmp 10) rfl (R + 1) v xs T A1 c1 (by rfl) HO.out (by rfl) w1.heap.size HSL.out (by have := H1.out; have h5 := (Array.getElem?_eq_some_iff.1 H1.out).1; have h6 := HB1.out.size; omega) hl ?_
   intro v2 w2 hown2 hg2 hv2
   obtain ⟨A2, c2, rfl, _, _⟩ := hown2.ret
   obtain ⟨n2, hn2⟩ : ∃ n, (xs ++ T).length = n := ⟨_, rfl⟩
   rw [hn2] at hown2 hv2 ⊢
   clear hn2
   have hR2 : w2.heap[R]? = some (.cells #[v] 51 (0, 0)) := (hg2.block R (Array.getElem?_eq_some_iff.1 HR1.out).1 (fun e => by have := (own_lt H2.out e.symm).1; omega)).trans HR1.out
   have kf2 : w2.cell? ⟨R, 0, none⟩ = some v := cells_w hR2
   have ff2 : w2.frozen? ⟨R, 0, none⟩ = false := free_w hR2
   have HM2 : Hid (MT 31 w2 w.heap.size (msgC m A c)) := Lib.hid ((hg2.block _ HM1.out.lt (fun e => by have := (own_lt H2.out e.symm).2; omega)).trans HM1.out)
   have HEND := Lib.hid (wr_stored H1.out H2.out H3.out H4.out HB1.out hown2 hg2 hv2)
   clear hown2 hg2 hv2 hR2 hHeld
   refine hK.out _ _ HM2.out (fun hHeld => ?_)
   clear hK K0
   try simp only [Act.put, List.setIfInBounds_toArray, List.set]
   refine wpAnyH_take (i := 8) (v := .pointer (some ⟨R, 0, none⟩)) (wGet_ops _ _ _ rfl) (by kernel_rfl) (by kernel_rfl) (by kernel_rfl) (fun _ _ _ h => h) (Or.inl ⟨by rfl, fun wS hSw => by (try dsimp only at hSw); go_simp⟩) hHeld ?_
   try simp only [Act.put, List.setIfInBounds_toArray, List.set]
   refine wpAnyH_take (i := 9) (v := .pointer (some ⟨R, 0, none⟩)) (wGet_ops _ _ _ rfl) (by kernel_rfl) (by kernel_rfl) (by kernel_rfl) (fun _ _ _ h => h) (Or.inl ⟨by rfl, fun wS hSw => by (try dsimp only at hSw); go_simp⟩) hHeld ?_
   try simp only [Act.put, List.setIfInBounds_toArray, List.set]
   refine wpAnyH_ready (rs := [10]) (by kernel_rfl) (by simp) ?_
   refine AllReadyH.cons (wGet_ops _ _ _ rfl) (fun K0 hK => ?_) AllReadyH.nil
   go_simp
   have HM3 : Hid (MT 31 (w2.setCell ⟨R, 0, none⟩ (.slice A2 n2 c2)) w.heap.size (msgC m A c)) := Lib.hid (HM2.out.other (p := ⟨R, 0, none⟩) (by have := (Array.getElem?_eq_some_iff.1 H1.out).1; show w.heap.size ≠ R; omega) _)
   refine hK.out _ _ HM3.out (fun hHeld => ?_)
   clear hK K0
   try simp only [Act.put, List.setIfInBounds_toArray, List.set]
   refine wpAnyH_done (by kernel_rfl) ?_ _
   go_wp2
   go_end0
   exact ⟨rfl, HEND.out.1, HEND.out.2⟩
 · go_simp
   go_at_call 82
   refine (HC.out wD HBD.out).mono ?_
   rintro e w1 ⟨u1, rfl, ho1, hb1⟩
   obtain ⟨A1, c1, rfl, hc1, hs1⟩ := ho1.ret
   have HSL := Lib.hid hs1
   have HB1 := Lib.hid (stepB HBD.out hb1)
   have hkw := keep_w H1.out H2.out HB1.out
   have kf1 : w1.cell? ⟨R, 0, none⟩ = some v := cells_w hkw.1
   have HO := Lib.hid hkw.2
   have HR1 := Lib.hid hkw.1
   have HM1 := Lib.hid (HMD.out.step hb1)
   clear hs1 hc1 hb1 ho1 hkw hHeld
   go_wp2_with fail
   refine hK.out _ _ HM1.out (fun hHeld => ?_)
   clear hK K0
   try simp only [Act.put, List.setIfInBounds_toArray, List.set]
   refine wpAnyH_ready (rs := [4]) (by kernel_rfl) (by simp) ?_
   refine AllReadyH.cons (wGet_ops _ _ _ rfl) (fun K0 hK => ?_) AllReadyH.nil
   go_simp
   refine hK.out _ _ HM1.out (fun hHeld => ?_)
   clear hK K0
   try simp only [Act.put, List.setIfInBounds_toArray, List.set]
   refine wpAnyH_ready (rs := [7]) (by kernel_rfl) (by simp) ?_
   refine AllReadyH.cons (wGet_ops _ _ _ rfl) (fun K0 hK => ?_) AllReadyH.nil
   rw [if_pos (by rfl)]
   refine oper_appW w1 (.tmp 8) (.tmp 10) rfl (R + 1) v xs T A1 c1 (by rfl) HO.out (by rfl) w1.heap.size HSL.out (by have := H1.out; have h5 := (Array.getElem?_eq_some_iff.1 H1.out).1; have h6 := HB1.out.size; omega) hl ?_
   intro v2 w2 hown2 hg2 hv2
   obtain ⟨A2, c2, rfl, _, _⟩ := hown2.ret
   obtain ⟨n2, hn2⟩ : ∃ n, (xs ++ T).length = n := ⟨_, rfl⟩
   rw [hn2] at hown2 hv2 ⊢
   clear hn2
   have hR2 : w2.heap[R]? = some (.cells #[v] 51 (0, 0)) := (hg2.block R (Array.getElem?_eq_some_iff.1 HR1.out).1 (fun e => by have := (own_lt H2.out e.symm).1; omega)).trans HR1.out
   have kf2 : w2.cell? ⟨R, 0, none⟩ = some v := cells_w hR2
   have ff2 : w2.frozen? ⟨R, 0, none⟩ = false := free_w hR2
   have HM2 : Hid (MT 31 w2 w.heap.size (msgC m A c)) := Lib.hid ((hg2.block _ HM1.out.lt (fun e => by have := (own_lt H2.out e.symm).2; omega)).trans HM1.out)
   have HEND := Lib.hid (wr_stored H1.out H2.out H3.out H4.out HB1.out hown2 hg2 hv2)
   clear hown2 hg2 hv2 hR2 hHeld
   refine hK.out _ _ HM2.out (fun hHeld => ?_)
   clear hK K0
   try simp only [Act.put, List.setIfInBounds_toArray, List.set]
   refine wpAnyH_take (i := 8) (v := .pointer (some ⟨R, 0, none⟩)) (wGet_ops _ _ _ rfl) (by kernel_rfl) (by kernel_rfl) (by kernel_rfl) (fun _ _ _ h => h) (Or.inl ⟨by rfl, fun wS hSw => by (try dsimp only at hSw); go_simp⟩) hHeld ?_
   try simp only [Act.put, List.setIfInBounds_toArray, List.set]
   refine wpAnyH_take (i := 9) (v := .pointer (some ⟨R, 0, none⟩)) (wGet_ops _ _ _ rfl) (by kernel_rfl) (by kernel_rfl) (by kernel_rfl) (fun _ _ _ h => h) (Or.inl ⟨by rfl, fun wS hSw => by (try dsimp only at hSw); go_simp⟩) hHeld ?_
   try simp only [Act.put, List.setIfInBounds_toArray, List.set]
   refine wpAnyH_ready (rs := [10]) (by kernel_rfl) (by simp) ?_
   refine AllReadyH.cons (wGet_ops _ _ _ rfl) (fun K0 hK => ?_) AllReadyH.nil
   go_simp
   have HM3 : Hid (MT 31 (w2.setCell ⟨R, 0, none⟩ (.slice A2 n2 c2)) w.heap.size (msgC m A c)) := Lib.hid (HM2.out.other (p := ⟨R, 0, none⟩) (by have := (Array.getElem?_eq_some_iff.1 H1.out).1; show w.heap.size ≠ R; omega) _)
   refine hK.out _ _ HM3.out (fun hHeld => ?_)
   clear hK K0
   try simp only [Act.put, List.setIfInBounds_toArray, List.set]
   refine wpAnyH_done (by kernel_rfl) ?_ _
   go_wp2
   go_end0
   exact ⟨rfl, HEND.out.1, HEND.out.2⟩

end Go.Proofs.YtdkegoaflabjoaaGreatDoor
