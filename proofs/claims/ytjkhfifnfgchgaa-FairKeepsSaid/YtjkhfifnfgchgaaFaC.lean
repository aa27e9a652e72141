/-
  What slices.Clone, slices.Delete and slices.Equal answer at lists of consumers. Conditions: the lists read as data; a row of the call's own holds the consumers; lengths fit.
-/
import Derived.Test.YtjkhfifnfgchgaaFaG
import Derived.Test.YtjkhfifnfgchgaaLg
import Derived.Test.YtjkhfifnfgchgaaRws
import Derived.Deep.RegionLaw
import Derived.Lib.SliceRun
import Derived.Deep.Upon
import Derived.Deep.QuietTactic
import Derived.BigQuiet
namespace Go.Proofs.Ytjkhfifnfgchgaa
open Go.RowKit
open S2 (BK Put)

abbrev OwnC (w : World) (B : Nat) (v : Value) (xs : List Cs) : Prop := OwnG 25 gC 5 w B v xs
set_option maxHeartbeats 1000000 in
theorem cloneC_any (A : Option Addr) (c : Nat) (xs : List Cs) (w : World) (hsl : CsL w w.heap.size A xs) (hn : xs.length ≤ 1000000) :
    Calls Try.prog 28 #[.slice A xs.length c] w fun e w' => ∃ v, e = .returned v ∧ OwnC w' w.heap.size v xs ∧ Below w.heap.size w w' := by
  have q22 : ∀ (w : World) (a : Option Addr) (n c n' c' : Nat), (binOp .eql 22 (.slice a n c) (.slice none n' c')).run Try.prog w = .ok (.bool a.isNone) w := fun w a n c n' c' => Lib.run_eql_slice_nil w _ _ a n c n' c' Try.underlying22
  cases A with
  | none =>
    have h0 : xs = [] := by
      rcases Nat.eq_zero_or_pos xs.length with h | h
      · exact List.eq_nil_of_length_eq_zero h
      · obtain ⟨b, o, e, _⟩ := hsl h; cases e
    subst h0
    clear hsl hn
    go_enter Try.func28, Try.ntmps28
    go_wp2
    go_ret
    exact ⟨_, rfl, OwnG.nil _ _, Below.refl _ _⟩
  | some a =>
    have hsl2 := hsl.step ((Below.refl _ _).alloc (Nat.le_refl _) (.cells #[] 25))
    have hb0 := (Below.refl w.heap.size w).alloc (Nat.le_refl _) (.cells #[] 25)
    have HS := Lib.hid hsl2
    clear hsl hsl2
    go_enter Try.func28, Try.ntmps28
    go_wp2_with (at_builtin; go_must (refine wpList_appG (g := gC) (k := 5) (e := 25) (by decide) _ rfl _ _ 22 22 rfl (.agg #[.int .i64 0, .int .i64 0, .string ByteArray.empty, .int .i64 0, .int .i64 0]) 48 Try.underlying22 conInfo rfl (by decide) w.heap.size _ [] xs rfl (OwnG.made w 0 #[] w.heap.size (Nat.le_refl _) (by decide) rfl) _ rfl (GL.src gC_len gC_one HS.out Try.underlying22 c) w hb0 (by simp) (by simp; omega) ?_); intro v' w' hown' hb' hsz')
    go_ret
    exact ⟨_, rfl, hown', hb'⟩
theorem S2.Put.refl (g : Nat) (w : World) : Put g w w := ⟨fun h _ => h, fun h _ => h, rfl, fun _ => rfl⟩
theorem S2.Put.trans {g : Nat} {a b c : World} (h : Put g a b) (k : Put g b c) : Put g a c := ⟨fun hM hne => k.other (h.other hM hne) hne, fun hb hg => k.below (h.below hb hg) hg, k.size.trans h.size, fun hp => (k.cell hp).trans (h.cell hp)⟩
theorem S2.Put.drew {g : Nat} {a b : World} (h : Put g a b) : Put g a b.drew := ⟨fun hM hne => (h.other hM hne).drew, fun hb hg => (h.below hb hg).drew, h.size, fun hp => h.cell hp⟩
theorem size_sets (g : Nat) : ∀ (vs : List Value) (o : Nat) (w : World), (w.setCells g o vs).heap.size = w.heap.size
  | [], _, _ => rfl
  | v :: r, o, w => by rw [World.setCells, size_sets g r]; simp
theorem S2.Put.sets {g : Nat} {a b : World} (h : Put g a b) (o : Nat) (vs : List Value) : Put g a (b.setCells g o vs) :=
  ⟨fun hM hne => S2.bk_sets_other hne vs o b _ (h.other hM hne), fun hb hg => S2.below_sets hg vs o b (h.below hb hg), (size_sets g vs o b).trans h.size, fun {p} hp => (World.cell?_setCells_out g vs o b p (fun e => absurd e hp)).trans (h.cell hp)⟩

theorem run_clearC (w : World) (ty : TypeId) (b o c : Nat) (hc : ∀ j, j < 5 → (w.cell? ⟨b, o + j, none⟩).isSome = true) (hf : ∀ j, j < 5 → w.frozen? ⟨b, o + j, none⟩ = false) :
    (Builtin.clear_ #[22] ty #[.slice (some ⟨b, o, none⟩) 1 c]).run Try.prog w = .ok (.tuple #[]) (w.setCells b o (gC Cs.zero)) := by
  have hzc : (Builtin.zeroCells (Value.cells (.agg (gC Cs.zero).toArray)) 1).toList = gC Cs.zero := by kernel_rfl
  have hv := Try.zeroValue25
  have hst := run_storeCells_cells (P := Try.prog) b o (gC Cs.zero) 0 w (by simpa [gC_len] using hc) (by simpa [gC_len] using hf) (gC_one Cs.zero)
  simp only [Nat.add_zero] at hst
  have hv' : ∀ w, (zeroValue 25).run Try.prog w = .ok (.agg (gC Cs.zero).toArray) w := hv
  simp [Builtin.clear_, run_underlying Try.underlying22, hv', hzc, hst]

theorem erase_eq {α : Type} (xs : List α) (i : Nat) : xs.eraseIdx i = xs.take i ++ xs.drop (i + 1) := List.eraseIdx_eq_take_drop_succ ..

set_option maxRecDepth 20000 in
set_option maxHeartbeats 1000000 in
theorem deleteC_any (g cap i : Nat) (xs : List Cs) (sp : List Value) (W : World) (hg : BK 25 W g (xs.flatMap gC ++ sp)) (hi : i < xs.length) (hn : xs.length ≤ cap) (hcs : (xs.flatMap gC ++ sp).length = cap * 5) :
    Calls Try.prog 32 #[.slice (some ⟨g, 0, none⟩) xs.length cap, .int .i64 i, .int .i64 ((i : Int) + 1)] W fun e w' => ∃ sp', e = .returned (.slice (some ⟨g, 0, none⟩) (xs.eraseIdx i).length cap) ∧ BK 25 w' g ((xs.eraseIdx i).flatMap gC ++ sp') ∧ ((xs.eraseIdx i).flatMap gC ++ sp').length = cap * 5 ∧ Put g W w' := by
  obtain ⟨i0, hi0, hz0, hzs, hzb⟩ := info_parts conInfo
  obtain ⟨A, hA, hAe⟩ : ∃ A : Addr, (if cap = i + 1 then some (⟨g, 0, none⟩ : Addr) else some ⟨g, (i + 1) * 5, none⟩) = some A ∧ (i + 1 < cap → A = ⟨g, (i + 1) * 5, none⟩) := by
    by_cases h : cap = i + 1
    · exact ⟨⟨g, 0, none⟩, by rw [if_pos h], fun h' => by omega⟩
    · exact ⟨⟨g, (i + 1) * 5, none⟩, by rw [if_neg h], fun _ => rfl⟩
  have hel : (xs.eraseIdx i).length = xs.length - 1 := by rw [List.length_eraseIdx, if_pos hi]
  obtain ⟨news, hnews⟩ : ∃ news, news = (xs.drop (i + 1)).flatMap gC := ⟨_, rfl⟩
  have hnl : news.length = (xs.length - (i + 1)) * 5 := by rw [hnews, flat_len gC_len, List.length_drop]
  have htl : ((xs.take i).flatMap gC).length = i * 5 := by rw [flat_len gC_len, List.length_take]; congr 1; omega
  have hspl : xs.flatMap gC = (xs.take i).flatMap gC ++ ((xs.drop i).take 1).flatMap gC ++ news := by
    rw [hnews, ← List.flatMap_append, ← List.flatMap_append, List.append_assoc, ← List.drop_drop, List.take_append_drop, List.take_append_drop]
  have hmid : (((xs.drop i).take 1).flatMap gC).length = 5 := by
    rw [flat_len gC_len, List.length_take, List.length_drop]
    have : min 1 (xs.length - i) = 1 := by omega
    rw [this]
  obtain ⟨W1, hW1⟩ : ∃ W1, W1 = W.drew.setCells g (0 + i * 5) news := ⟨_, rfl⟩
  obtain ⟨row1, hrow1⟩ : ∃ r : List Value, r = (xs.flatMap gC ++ sp).take (i * 5) ++ news ++ (xs.flatMap gC ++ sp).drop (i * 5 + news.length) := ⟨_, rfl⟩
  have hB1 : BK 25 W1 g row1 := by
    rw [hW1, hrow1, Nat.zero_add]
    exact S2.bk_setCells news (i * 5) W.drew _ hg.drew (by rw [hcs, hnl]; omega)
  have hP1 : Put g W W1 := by rw [hW1]; exact (S2.Put.refl g W).drew.sets _ _
  have hrl1 : row1.length = cap * 5 := by rw [hrow1]; simp only [List.length_append, List.length_take, List.length_drop] at hcs ⊢; omega
  have htake1 : row1.take ((xs.length - 1) * 5) = (xs.eraseIdx i).flatMap gC := by
    have e1 : (xs.flatMap gC ++ sp).take (i * 5) = (xs.take i).flatMap gC := by
      rw [hspl, List.append_assoc, List.append_assoc, ← htl, List.take_left' rfl]
    rw [hrow1, e1, erase_eq, List.flatMap_append, ← hnews]
    have e2 : (xs.length - 1) * 5 = ((xs.take i).flatMap gC ++ news).length := by rw [List.length_append, htl, hnl]; omega
    rw [e2, List.take_left' rfl]
  obtain ⟨W2, hW2⟩ : ∃ W2, W2 = W1.setCells g ((xs.length - 1) * 5) (gC Cs.zero) := ⟨_, rfl⟩
  have hB2 : BK 25 W2 g (row1.take ((xs.length - 1) * 5) ++ gC Cs.zero ++ row1.drop ((xs.length - 1) * 5 + (gC Cs.zero).length)) := by
    rw [hW2]
    exact S2.bk_setCells (gC Cs.zero) ((xs.length - 1) * 5) W1 row1 hB1 (by rw [hrl1, gC_len]; omega)
  have hP2 : Put g W W2 := by rw [hW2]; exact hP1.sets _ _
  have hcl : ∀ ty, (Builtin.clear_ #[22] ty #[.slice (some ⟨g, (i + (xs.length - (i + 1))) * 5, none⟩) (xs.length - (i + (xs.length - (i + 1)))) (cap - (i + (xs.length - (i + 1))))]).run Try.prog W1 = .ok (.tuple #[]) W2 := fun ty => by
    rw [hW2, show i + (xs.length - (i + 1)) = xs.length - 1 by omega, show xs.length - (xs.length - 1) = 1 by omega]
    exact run_clearC W1 ty g ((xs.length - 1) * 5) _ (fun j hj => by
      obtain ⟨u, hu⟩ : ∃ u, row1[(xs.length - 1) * 5 + j]? = some u := ⟨_, List.getElem?_eq_getElem (by omega)⟩
      rw [hB1.cell _ hu]; rfl) (fun j _ => hB1.free _)
  have s1 : Hid (news.length = (xs.length - (i + 1)) * 5) := Lib.hid hnl
  have s2 : Hid (∀ u ∈ news, u.oneCell' = true) := Lib.hid (fun u hu => by
    rw [hnews] at hu
    obtain ⟨x, _, hx⟩ := List.mem_flatMap.1 hu
    exact gC_one x u hx)
  have s3 : Hid (∀ t, t < news.length → (W.drew.cell? ⟨g, 0 + i * 5 + t, none⟩).isSome = true ∧ W.drew.frozen? ⟨g, 0 + i * 5 + t, none⟩ = false) := Lib.hid (fun t ht => by
    rw [Nat.zero_add]
    obtain ⟨u, hu⟩ : ∃ u, (xs.flatMap gC ++ sp)[i * 5 + t]? = some u := ⟨_, List.getElem?_eq_getElem (by omega)⟩
    exact ⟨by rw [hg.drew.cell _ hu]; rfl, hg.drew.free _⟩)
  have s4 : Hid (∀ j u, news[j]? = some u → W.drew.cell? (A.add j) = some u) := Lib.hid (fun j u hj => by
    have hjl := (List.getElem?_eq_some_iff.1 hj).1
    rw [hAe (by omega), Addr.add_lit]
    refine hg.drew.cell _ ?_
    rw [hspl, List.append_assoc, List.append_assoc, List.getElem?_append_right (by omega), List.getElem?_append_right (by omega), List.getElem?_append_left (by omega), ← hj]
    congr 1
    omega)
  have HW := Lib.hid hW1
  have HB2 := Lib.hid hB2
  have HT := Lib.hid htake1
  have HP2 := Lib.hid hP2
  have HL1 := Lib.hid hrl1
  have HEL := Lib.hid hel
  have q1 : ((i : Int) == (i : Int) + 1) = false := beq_eq_false_iff_ne.2 (by omega)
  have q2 : (0 : Int) ≤ (i : Int) + 1 := by omega
  have q3 : (i : Int) + 1 ≤ (xs.length : Int) := by omega
  have hic : i ≤ cap := by omega
  have hjc : i + 1 ≤ cap := by omega
  have hlast : i + (xs.length - (i + 1)) = xs.length - 1 := by omega
  have HLA := Lib.hid hlast
  clear hB1 hP1 hB2 hP2 hW1 hW2 hrow1 hg hcs hspl hmid htl hnl hAe htake1 hrl1 hel hnews hlast
  go_enter Try.func32, Try.ntmps32
  go_wp2_with fail
  go_region_law (refine step_append_room rfl (.tmp 22) (.tmp 25) 22 rfl 25 i0 5 Try.underlying22 hi0 hzs g 0 i cap (by simp [Act.eval, Act.put]) A (xs.length - (i + 1)) (cap - (i + 1)) news (by simp [Act.eval, Act.put]) s1.out s4.out s2.out (by omega) s3.out ?_; rw [← HW.out])
  go_wp2
  go_ret
  refine ⟨gC Cs.zero ++ row1.drop ((xs.length - 1) * 5 + (gC Cs.zero).length), by rw [HEL.out, HLA.out]; rfl, ?_, ?_, HP2.out⟩
  · have := HB2.out
    rw [HT.out, List.append_assoc] at this
    exact this
  · have h1 := HL1.out
    have h2 := HEL.out
    rw [← HT.out]
    simp only [List.length_append, List.length_take, List.length_drop, gC_len] at h1 ⊢
    omega

/-- are two consumers one -/
theorem eqCs (x y : Cs) (w : World) : Sem.run Try.prog (binOp .eql 25 (csV x) (csV y)) w = .ok (.bool (decide (x = y))) w := by
  obtain ⟨t, cn, q, p, u⟩ := x
  obtain ⟨t', cn', q', p', u'⟩ := y
  have u3 := Try.underlying9
  have a3 := Try.isAgg9
  have z3 := Try.sizeOf9
  have u4 := Try.underlying3
  have a4 := Try.isAgg3
  have z4 := Try.sizeOf3
  have hS : Try.prog.underlying 25 = some (.struct (Try.prog.fieldsOf 25)) := by kernel_rfl
  have hp : Try.prog.stoodInHeld 25 = false := by kernel_rfl
  have h1 := str_dec q q'
  unfold csV gC
  rw [run_eql_struct, show (10000 : Nat) = 9999 + 1 from rfl, run_equalIn_agg w 9999 25 _ _ hS hp]
  simp only [Program.fieldsOf, Try.underlying25]
  by_cases ht : t = t'
  · by_cases hc : cn = cn'
    · by_cases hq : q = q'
      · by_cases hp' : p = p'
        · by_cases hu : u = u'
          · subst ht hc hq hp' hu
            go_simp
          · go_simp
        · go_simp
      · go_simp
    · go_simp
  · go_simp
theorem neqCs (x y : Cs) (w : World) : Sem.run Try.prog (binOp .neq 25 (csV x) (csV y)) w = .ok (.bool (!decide (x = y))) w := by
  have h := eqCs x y w
  unfold csV at h ⊢
  rw [run_eql_struct] at h
  rw [run_neq_struct]
  generalize Sem.run Try.prog (Op.equalIn 10000 25 (.agg (gC x).toArray) (.agg (gC y).toArray)) w = r at h ⊢
  cases r with
  | ok v w' =>
    simp only [Result.andThen, Result.ok.injEq, Value.bool.injEq] at h ⊢
    obtain ⟨rfl, rfl⟩ := h
    exact ⟨rfl, rfl⟩
  | halt x w' => simp [Result.andThen] at h
theorem guardCs (op : BinOp) (x y : Operand) (xs ys : Array Value) (w : World) : Sem.run Try.prog (eqGuard op 25 x y (.agg xs) (.agg ys)) w = .ok () w := run_eqGuard_agg w op _ x y xs ys (by kernel_rfl)
def SamC {α : Type} (xs ys : List α) (k : Nat) : Prop := xs.take k = ys.take k
theorem SamC.zero {α : Type} (xs ys : List α) : SamC xs ys 0 := rfl
theorem SamC.succ {α : Type} {xs ys : List α} {k : Nat} {x : α} (h : SamC xs ys k) (hx : xs[k]? = some x) (hy : ys[k]? = some x) : SamC xs ys (k + 1) := by
  unfold SamC at h ⊢
  rw [List.take_add_one, List.take_add_one, h, hx, hy]
theorem SamC.done {α : Type} [DecidableEq α] {xs ys : List α} (h : SamC xs ys xs.length) (hl : xs.length = ys.length) : decide (xs = ys) = true := by
  unfold SamC at h
  rw [List.take_length, hl, List.take_length] at h
  exact decide_eq_true h
theorem samC_bad {α : Type} [DecidableEq α] {xs ys : List α} {k : Nat} {x y : α} (hx : xs[k]? = some x) (hy : ys[k]? = some y) (h : x ≠ y) : decide (xs = ys) = false :=
  decide_eq_false fun e => by rw [e, hy] at hx; exact h (Option.some.inj hx).symm
theorem samC_len {α : Type} [DecidableEq α] {xs ys : List α} (h : xs.length ≠ ys.length) : decide (xs = ys) = false := decide_eq_false fun e => h (by rw [e])
set_option maxRecDepth 20000 in
set_option maxHeartbeats 4000000 in
theorem equalC_any (A A' : Option Addr) (c c' : Nat) (xs ys : List Cs) (w : World) (hx : CsL w w.heap.size A xs) (hy : CsL w w.heap.size A' ys) (hn : xs.length ≤ 1000000) :
    Calls Try.prog 21 #[.slice A xs.length c, .slice A' ys.length c'] w fun e w' => e = .returned (.bool (decide (xs = ys))) ∧ Below w.heap.size w w' := by
  by_cases hl : xs.length = ys.length
  · have HX := Lib.hid hx
    have HY := Lib.hid hy
    have HL := Lib.hid hl
    have e1 : ((xs.length : Int) != (ys.length : Int)) = false := by simp; omega
    have e1' : (xs.length != ys.length) = false := by simp; omega
    obtain ⟨R, hR⟩ : ∃ R, decide (xs = ys) = R := ⟨_, rfl⟩
    have HR0 := Lib.hid hR
    rw [hR]
    clear hx hy hl hR
    have hneq := neqCs
    have hgd := guardCs
    go_enter Try.func21, Try.ntmps21
    go_wp2
    go_loopg [13] xs.length (fun g v wr => ∃ k : Nat, k + g = xs.length ∧ v = .int .i64 k ∧ SamC xs ys k ∧ Below w.heap.size w wr)
    case atStart => exact ⟨0, by omega, rfl, SamC.zero _ _, Below.refl _ _⟩
    case round =>
      obtain ⟨k, hkg, rfl, hrel, hb⟩ := hrel
      have HR := Lib.hid hrel
      have HB := Lib.hid hb
      have HG := Lib.hid hkg
      clear hrel
      cases gk with
      | zero =>
        obtain rfl : k = xs.length := by omega
        have HV : Hid (true = R) := Lib.hid (by rw [← HR0.out]; exact (HR.out.done HL.out).symm)
        have e3 : decide ((xs.length : Int) < (xs.length : Int)) = false := decide_eq_false (by omega)
        clear hkg hb
        go_wp2_with fail
        go_ret
        exact ⟨by rw [← HV.out]; rfl, HB.out⟩
      | succ g =>
        have hlt : k < xs.length := by omega
        have hlt2 : k < ys.length := by have := HL.out; omega
        have e3 : decide ((k : Int) < (xs.length : Int)) = true := decide_eq_true (by omega)
        obtain ⟨x, hx⟩ : ∃ x, xs[k]? = some x := ⟨_, List.getElem?_eq_getElem hlt⟩
        obtain ⟨y, hy⟩ : ∃ y, ys[k]? = some y := ⟨_, List.getElem?_eq_getElem hlt2⟩
        obtain ⟨b, o, hA, hbB, hc⟩ := CsL.at_ (HX.out.step hb) hx
        subst hA
        obtain ⟨b2, o2, hA2, hbB2, hc2⟩ := CsL.at_ (HY.out.step hb) hy
        subst hA2
        have j1 : (0 : Int) ≤ (k : Int) := by omega
        have j2 : (k : Int) < (xs.length : Int) := by omega
        have j3 : (k : Int) < (ys.length : Int) := by omega
        have kc0 : wr.cell? ⟨b, o + k * 5, none⟩ = some (.int .i64 x.tag) := hc 0 _ rfl
        have kc1 : wr.cell? ⟨b, o + k * 5 + 1, none⟩ = some (.int .i64 x.conn) := hc 1 _ rfl
        have kc2 : wr.cell? ⟨b, o + k * 5 + 2, none⟩ = some (.string x.qu) := hc 2 _ rfl
        have kc3 : wr.cell? ⟨b, o + k * 5 + 3, none⟩ = some (.int .i64 x.pre) := hc 3 _ rfl
        have kc4 : wr.cell? ⟨b, o + k * 5 + 4, none⟩ = some (.int .i64 x.una) := hc 4 _ rfl
        have kd0 : wr.cell? ⟨b2, o2 + k * 5, none⟩ = some (.int .i64 y.tag) := hc2 0 _ rfl
        have kd1 : wr.cell? ⟨b2, o2 + k * 5 + 1, none⟩ = some (.int .i64 y.conn) := hc2 1 _ rfl
        have kd2 : wr.cell? ⟨b2, o2 + k * 5 + 2, none⟩ = some (.string y.qu) := hc2 2 _ rfl
        have kd3 : wr.cell? ⟨b2, o2 + k * 5 + 3, none⟩ = some (.int .i64 y.pre) := hc2 3 _ rfl
        have kd4 : wr.cell? ⟨b2, o2 + k * 5 + 4, none⟩ = some (.int .i64 y.una) := hc2 4 _ rfl
        have HXK := Lib.hid hx
        have HYK := Lib.hid hy
        have hx2 := hneq x y
        have hg2 := hgd .neq (.tmp 19) (.tmp 23) (gC x).toArray (gC y).toArray
        unfold csV gC at hx2
        unfold gC at hg2
        clear hx hy hc hc2 hbB hbB2 hkg hb hneq hgd
        by_cases hxy : x = y
        · have q1 : decide (x = y) = true := decide_eq_true hxy
          have HE := Lib.hid hxy
          rw [q1] at hx2
          clear hxy q1
          go_wp2_with fail
          go_quiet (fail)
          go_wp2
          go_roundg g
          case measure => omega
          case rel => exact ⟨k + 1, by have := HG.out; omega, by go_num, HR.out.succ HXK.out (by rw [HE.out]; exact HYK.out), stepB HB.out (S2.bDN _ _)⟩
        · have q1 : decide (x = y) = false := decide_eq_false hxy
          have HE := Lib.hid hxy
          rw [q1] at hx2
          have HV : Hid (false = R) := Lib.hid (by rw [← HR0.out]; exact (samC_bad HXK.out HYK.out hxy).symm)
          clear hxy q1
          go_wp2_with fail
          go_quiet (fail)
          go_wp2
          go_ret
          exact ⟨by rw [← HV.out]; rfl, stepB HB.out (S2.bDN _ _)⟩
  · have e1 : ((xs.length : Int) != (ys.length : Int)) = true := by simp; omega
    have e1' : (xs.length != ys.length) = true := by simp; omega
    have HV := Lib.hid (samC_len hl)
    clear hx hy hl
    go_enter Try.func21, Try.ntmps21
    go_wp2_with fail
    go_ret
    exact ⟨by rw [HV.out]; rfl, Below.refl _ _⟩
end Go.Proofs.Ytjkhfifnfgchgaa
