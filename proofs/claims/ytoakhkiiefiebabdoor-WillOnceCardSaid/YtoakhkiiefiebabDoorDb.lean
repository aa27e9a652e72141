/-
  What Delete of slices answers at wills, in a row of the call's own: one less. Conditions: the row holds the wills.
-/
import Derived.Test.YtoakhkiiefiebabDoorDa
import Derived.Test.YtoakhkiiefiebabDoorRws
import Derived.Deep.RegionLaw
import Derived.Lib.SliceRun
import Derived.Deep.Upon
namespace Go.Proofs.YtoakhkiiefiebabDoor
open Go.RowKit
open S2 (BK Put)

theorem S2.Put.refl (g : Nat) (w : World) : Put g w w := ⟨fun h _ => h, fun h _ => h, rfl, fun _ => rfl⟩
theorem S2.Put.trans {g : Nat} {a b c : World} (h : Put g a b) (k : Put g b c) : Put g a c := ⟨fun hM hne => k.other (h.other hM hne) hne, fun hb hg => k.below (h.below hb hg) hg, k.size.trans h.size, fun hp => (k.cell hp).trans (h.cell hp)⟩
theorem S2.Put.drew {g : Nat} {a b : World} (h : Put g a b) : Put g a b.drew := ⟨fun hM hne => (h.other hM hne).drew, fun hb hg => (h.below hb hg).drew, h.size, fun hp => h.cell hp⟩
theorem size_sets (g : Nat) : ∀ (vs : List Value) (o : Nat) (w : World), (w.setCells g o vs).heap.size = w.heap.size
  | [], _, _ => rfl
  | v :: r, o, w => by rw [World.setCells, size_sets g r]; simp
theorem S2.Put.sets {g : Nat} {a b : World} (h : Put g a b) (o : Nat) (vs : List Value) : Put g a (b.setCells g o vs) :=
  ⟨fun hM hne => S2.bk_sets_other hne vs o b _ (h.other hM hne), fun hb hg => S2.below_sets hg vs o b (h.below hb hg), (size_sets g vs o b).trans h.size, fun {p} hp => (World.cell?_setCells_out g vs o b p (fun e => absurd e hp)).trans (h.cell hp)⟩

theorem run_clearD (w : World) (ty : TypeId) (b o c : Nat) (hc : ∀ j, j < 11 → (w.cell? ⟨b, o + j, none⟩).isSome = true) (hf : ∀ j, j < 11 → w.frozen? ⟨b, o + j, none⟩ = false) :
    (Builtin.clear_ #[23] ty #[.slice (some ⟨b, o, none⟩) 1 c]).run Tryd.prog w = .ok (.tuple #[]) (w.setCells b o (gD DE.zero)) := by
  have hzc : (Builtin.zeroCells (Value.cells (.agg (gD DE.zero).toArray)) 1).toList = gD DE.zero := by kernel_rfl
  have hv := Tryd.zeroValue45
  have hst := run_storeCells_cells (P := Tryd.prog) b o (gD DE.zero) 0 w (by simpa [gD_len] using hc) (by simpa [gD_len] using hf) (gD_one DE.zero)
  simp only [Nat.add_zero] at hst
  have hv' : ∀ w, (zeroValue 45).run Tryd.prog w = .ok (.agg (gD DE.zero).toArray) w := hv
  simp [Builtin.clear_, run_underlying Tryd.underlying23, hv', hzc, hst]

theorem erase_eq {α : Type} (xs : List α) (i : Nat) : xs.eraseIdx i = xs.take i ++ xs.drop (i + 1) := List.eraseIdx_eq_take_drop_succ ..

set_option maxRecDepth 20000 in
set_option maxHeartbeats 1000000 in
theorem deleteD_any (g cap i : Nat) (xs : List DE) (sp : List Value) (W : World) (hg : BK 45 W g (xs.flatMap gD ++ sp)) (hi : i < xs.length) (hn : xs.length ≤ cap) (hcs : (xs.flatMap gD ++ sp).length = cap * 11) :
    Calls Tryd.prog 24 #[.slice (some ⟨g, 0, none⟩) xs.length cap, .int .i64 i, .int .i64 ((i : Int) + 1)] W fun e w' => ∃ sp', e = .returned (.slice (some ⟨g, 0, none⟩) (xs.eraseIdx i).length cap) ∧ BK 45 w' g ((xs.eraseIdx i).flatMap gD ++ sp') ∧ ((xs.eraseIdx i).flatMap gD ++ sp').length = cap * 11 ∧ Put g W w' := by
  obtain ⟨i0, hi0, hz0, hzs, hzb⟩ := info_parts dueInfo
  obtain ⟨A, hA, hAe⟩ : ∃ A : Addr, (if cap = i + 1 then some (⟨g, 0, none⟩ : Addr) else some ⟨g, (i + 1) * 11, none⟩) = some A ∧ (i + 1 < cap → A = ⟨g, (i + 1) * 11, none⟩) := by
    by_cases h : cap = i + 1
    · exact ⟨⟨g, 0, none⟩, by rw [if_pos h], fun h' => by omega⟩
    · exact ⟨⟨g, (i + 1) * 11, none⟩, by rw [if_neg h], fun _ => rfl⟩
  have hel : (xs.eraseIdx i).length = xs.length - 1 := by rw [List.length_eraseIdx, if_pos hi]
  obtain ⟨news, hnews⟩ : ∃ news, news = (xs.drop (i + 1)).flatMap gD := ⟨_, rfl⟩
  have hnl : news.length = (xs.length - (i + 1)) * 11 := by rw [hnews, flat_len gD_len, List.length_drop]
  have htl : ((xs.take i).flatMap gD).length = i * 11 := by rw [flat_len gD_len, List.length_take]; congr 1; omega
  have hspl : xs.flatMap gD = (xs.take i).flatMap gD ++ ((xs.drop i).take 1).flatMap gD ++ news := by
    rw [hnews, ← List.flatMap_append, ← List.flatMap_append, List.append_assoc, ← List.drop_drop, List.take_append_drop, List.take_append_drop]
  have hmid : (((xs.drop i).take 1).flatMap gD).length = 11 := by rw [flat_len gD_len, List.length_take, List.length_drop]; have : min 1 (xs.length - i) = 1 := by omega
                                                                  rw [this]
  obtain ⟨W1, hW1⟩ : ∃ W1, W1 = W.drew.setCells g (0 + i * 11) news := ⟨_, rfl⟩
  obtain ⟨row1, hrow1⟩ : ∃ r : List Value, r = (xs.flatMap gD ++ sp).take (i * 11) ++ news ++ (xs.flatMap gD ++ sp).drop (i * 11 + news.length) := ⟨_, rfl⟩
  have hB1 : BK 45 W1 g row1 := by
    rw [hW1, hrow1, Nat.zero_add]
    exact S2.bk_setCells news (i * 11) W.drew _ hg.drew (by rw [hcs, hnl]; omega)
  have hP1 : Put g W W1 := by rw [hW1]; exact (S2.Put.refl g W).drew.sets _ _
  have hrl1 : row1.length = cap * 11 := by rw [hrow1]; simp only [List.length_append, List.length_take, List.length_drop] at hcs ⊢; omega
  have htake1 : row1.take ((xs.length - 1) * 11) = (xs.eraseIdx i).flatMap gD := by
    have e1 : (xs.flatMap gD ++ sp).take (i * 11) = (xs.take i).flatMap gD := by
      rw [hspl, List.append_assoc, List.append_assoc, ← htl, List.take_left' rfl]
    rw [hrow1, e1, erase_eq, List.flatMap_append, ← hnews]
    have e2 : (xs.length - 1) * 11 = ((xs.take i).flatMap gD ++ news).length := by rw [List.length_append, htl, hnl]; omega
    rw [e2, List.take_left' rfl]
  obtain ⟨W2, hW2⟩ : ∃ W2, W2 = W1.setCells g ((xs.length - 1) * 11) (gD DE.zero) := ⟨_, rfl⟩
  have hB2 : BK 45 W2 g (row1.take ((xs.length - 1) * 11) ++ gD DE.zero ++ row1.drop ((xs.length - 1) * 11 + (gD DE.zero).length)) := by
    rw [hW2]
    exact S2.bk_setCells (gD DE.zero) ((xs.length - 1) * 11) W1 row1 hB1 (by rw [hrl1, gD_len]; omega)
  have hP2 : Put g W W2 := by rw [hW2]; exact hP1.sets _ _
  have hcl : ∀ ty, (Builtin.clear_ #[23] ty #[.slice (some ⟨g, (i + (xs.length - (i + 1))) * 11, none⟩) (xs.length - (i + (xs.length - (i + 1)))) (cap - (i + (xs.length - (i + 1))))]).run Tryd.prog W1 = .ok (.tuple #[]) W2 := fun ty => by
    rw [hW2, show i + (xs.length - (i + 1)) = xs.length - 1 by omega, show xs.length - (xs.length - 1) = 1 by omega]
    exact run_clearD W1 ty g ((xs.length - 1) * 11) _ (fun j hj => by
      obtain ⟨u, hu⟩ : ∃ u, row1[(xs.length - 1) * 11 + j]? = some u := ⟨_, List.getElem?_eq_getElem (by omega)⟩
      rw [hB1.cell _ hu]; rfl) (fun j _ => hB1.free _)
  have s1 : Hid (news.length = (xs.length - (i + 1)) * 11) := Lib.hid hnl
  have s2 : Hid (∀ u ∈ news, u.oneCell' = true) := Lib.hid (fun u hu => by
    rw [hnews] at hu
    obtain ⟨x, _, hx⟩ := List.mem_flatMap.1 hu
    exact gD_one x u hx)
  have s3 : Hid (∀ t, t < news.length → (W.drew.cell? ⟨g, 0 + i * 11 + t, none⟩).isSome = true ∧ W.drew.frozen? ⟨g, 0 + i * 11 + t, none⟩ = false) := Lib.hid (fun t ht => by
    rw [Nat.zero_add]
    obtain ⟨u, hu⟩ : ∃ u, (xs.flatMap gD ++ sp)[i * 11 + t]? = some u := ⟨_, List.getElem?_eq_getElem (by omega)⟩
    exact ⟨by rw [hg.drew.cell _ hu]; rfl, hg.drew.free _⟩)
  have s4 : Hid (∀ j u, news[j]? = some u → W.drew.cell? (A.add j) = some u) := Lib.hid (fun j u hj => by
    have hjl := (List.getElem?_eq_some_iff.1 hj).1
    rw [hAe (by omega), Addr.add_lit]
    refine hg.drew.cell _ ?_
    rw [hspl, List.append_assoc, List.append_assoc, List.getElem?_append_right (by omega), List.getElem?_append_right (by omega), List.getElem?_append_left (by omega), ← hj]
    congr 1
    omega)
  have HW := Lib.hid hW1
  have HB2 := Lib.hid hB2
  have HT := Lib.hid htake1
  have HP2 := Lib.hid hP2
  have HL1 := Lib.hid hrl1
  have HEL := Lib.hid hel
  have q1 : ((i : Int) == (i : Int) + 1) = false := beq_eq_false_iff_ne.2 (by omega)
  have q2 : (0 : Int) ≤ (i : Int) + 1 := by omega
  have q3 : (i : Int) + 1 ≤ (xs.length : Int) := by omega
  have hic : i ≤ cap := by omega
  have hjc : i + 1 ≤ cap := by omega
  have hlast : i + (xs.length - (i + 1)) = xs.length - 1 := by omega
  have HLA := Lib.hid hlast
  clear hB1 hP1 hB2 hP2 hW1 hW2 hrow1 hg hcs hspl hmid htl hnl hAe htake1 hrl1 hel hnews hlast
  go_enter Tryd.func24, Tryd.ntmps24
  go_wp2_with fail
  go_region_law (refine step_append_room rfl (.tmp 22) (.tmp 25) 23 rfl 45 i0 11 Tryd.underlying23 hi0 hzs g 0 i cap (by simp [Act.eval, Act.put]) A (xs.length - (i + 1)) (cap - (i + 1)) news (by simp [Act.eval, Act.put]) s1.out s4.out s2.out (by omega) s3.out ?_; rw [← HW.out])
  go_wp2
  go_ret
  refine ⟨gD DE.zero ++ row1.drop ((xs.length - 1) * 11 + (gD DE.zero).length), by rw [HEL.out, HLA.out]; rfl, ?_, ?_, HP2.out⟩
  · have := HB2.out
    rw [HT.out, List.append_assoc] at this
    exact this
  · have h1 := HL1.out
    have h2 := HEL.out
    rw [← HT.out]
    simp only [List.length_append, List.length_take, List.length_drop, gD_len] at h1 ⊢
    omega
end Go.Proofs.YtoakhkiiefiebabDoor
